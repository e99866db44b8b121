package wire_test

import (
	"bytes"
	"hash/adler32"
	"math"
	"math/rand"
	"slices"
	"testing"

	"hallmoot/api"
	"hallmoot/wire"
)

var numbers = []int{0, -1, 1, 63, -64, 64, -65, 8191, -8192, 8192, 1 << 40, -1 << 40, math.MaxInt, math.MinInt, math.MinInt + 1}

// P3.1: the encoding, group by group.
func TestPut(t *testing.T) {
	for _, x := range []struct {
		n    int
		want []byte
	}{
		{0, []byte{0}}, {-1, []byte{1}}, {1, []byte{2}}, {63, []byte{126}}, {-64, []byte{127}}, {64, []byte{128, 1}}, {-65, []byte{129, 1}},
		{math.MaxInt, []byte{254, 255, 255, 255, 255, 255, 255, 255, 255, 1}},
		{math.MinInt, []byte{255, 255, 255, 255, 255, 255, 255, 255, 255, 1}},
	} {
		if got := wire.Put(x.n); !bytes.Equal(got, x.want) {
			t.Errorf("Put(%d) = %v", x.n, got)
		}
	}
}

func TestGetRejects(t *testing.T) {
	for _, b := range [][]byte{
		nil, {128}, {255, 255}, {128, 0}, {129, 128, 0}, bytes.Repeat([]byte{128}, 10), bytes.Repeat([]byte{128}, 12),
		{255, 255, 255, 255, 255, 255, 255, 255, 255, 2}, {255, 255, 255, 255, 255, 255, 255, 255, 255, 3},
		{255, 255, 255, 255, 255, 255, 255, 255, 255, 129, 0}, {128, 128, 128, 128, 128, 128, 128, 128, 128, 0},
		{128, 128, 128, 128, 128, 128, 128, 128, 128, 128, 1},
	} {
		if n, used, err := wire.Get(b); n != 0 || used != 0 || err != api.ErrSyntax {
			t.Error(b, n, used, err)
		}
	}
}

// P3.2 and P3.3: the given examples, and invalid input.
func TestTextAndNums(t *testing.T) {
	if got := wire.Text("ab"); !bytes.Equal(got, []byte{4, 97, 98}) {
		t.Error(got)
	}
	if got := wire.Nums([]int{1, -1}); !bytes.Equal(got, []byte{4, 2, 1}) {
		t.Error(got)
	}
	huge := wire.Put(math.MaxInt)
	for _, b := range [][]byte{nil, {1}, {2}, {4, 97}, {128, 0}, huge, append(huge, 1, 2), wire.Put(math.MinInt)} {
		if s, used, err := wire.GetText(b); s != "" || used != 0 || err != api.ErrSyntax {
			t.Error("text", b, s, used, err)
		}
		if l, used, err := wire.GetNums(b); len(l) != 0 || used != 0 || err != api.ErrSyntax {
			t.Error("nums", b, l, used, err)
		}
	}
	if l, used, err := wire.GetNums([]byte{4, 128, 0}); len(l) != 0 || used != 0 || err != api.ErrSyntax {
		t.Error(l, used, err)
	}
}

// P3.4
func TestSum(t *testing.T) {
	long := bytes.Repeat([]byte{255, 3, 200}, 50000)
	for _, b := range [][]byte{nil, {1}, {1, 2}, []byte("hallmoot"), long} {
		if got := wire.Sum(b); got != int(adler32.Checksum(b)) {
			t.Errorf("Sum of %d bytes = %d", len(b), got)
		}
	}
	if wire.Sum(nil) != 1 || wire.Sum([]byte{1}) != 131074 || wire.Sum([]byte{1, 2}) != 393220 {
		t.Error("the examples")
	}
	if got := wire.Seal([]byte{1}); !bytes.Equal(got, slices.Concat([]byte{2, 1}, wire.Put(131074))) {
		t.Error(got)
	}
	sealed := wire.Seal([]byte("abc"))
	for _, b := range [][]byte{nil, {0}, {0, 0}, {1, 0}, sealed[:len(sealed)-1], sealed[:2], slices.Concat(sealed[:4], []byte{2})} {
		if got, used, err := wire.Open(b); len(got) != 0 || used != 0 || err != api.ErrSyntax {
			t.Error(b, got, used, err)
		}
	}
}

// P3.5: round trips, whatever follows; no proper prefix decodes.
func TestRoundTrip(t *testing.T) {
	tail := []byte{128, 7, 0}
	r := rand.New(rand.NewSource(1))
	for i := range 300 {
		n := int(r.Uint64()) >> r.Intn(64)
		if i < len(numbers) {
			n = numbers[i]
		}
		b := wire.Put(n)
		if got, used, err := wire.Get(slices.Concat(b, tail)); got != n || used != len(b) || err != api.OK {
			t.Fatal(n, got, used, err)
		}
		for k := range b {
			if _, _, err := wire.Get(b[:k]); err == api.OK {
				t.Fatal("a prefix of", n)
			}
		}
		list := make([]int, r.Intn(5))
		for k := range list {
			list[k] = numbers[r.Intn(len(numbers))]
		}
		b = wire.Nums(list)
		if got, used, err := wire.GetNums(slices.Concat(b, tail)); !slices.Equal(got, list) || used != len(b) || err != api.OK {
			t.Fatal(list, got, used, err)
		}
		text := string(b)
		b = wire.Text(text)
		if got, used, err := wire.GetText(slices.Concat(b, tail)); got != text || used != len(b) || err != api.OK {
			t.Fatal(got, used, err)
		}
		b = wire.Seal([]byte(text))
		if got, used, err := wire.Open(slices.Concat(b, tail)); string(got) != text || used != len(b) || err != api.OK {
			t.Fatal(got, used, err)
		}
		for k := range b {
			if _, _, err := wire.Open(b[:k]); err == api.OK {
				t.Fatal("a prefix of a sealed sequence")
			}
		}
	}
}

// P3.5: what is consumed is the encoding of the result.
func TestCanonical(t *testing.T) {
	r := rand.New(rand.NewSource(2))
	for range 20000 {
		b := make([]byte, r.Intn(12))
		for i := range b {
			b[i] = byte([]int{0, 1, 2, 4, 127, 128, 129, 255}[r.Intn(8)])
		}
		if n, used, err := wire.Get(b); err == api.OK && !bytes.Equal(wire.Put(n), b[:used]) {
			t.Fatal(b, n)
		}
		if l, used, err := wire.GetNums(b); err == api.OK && !bytes.Equal(wire.Nums(l), b[:used]) {
			t.Fatal(b, l)
		}
		if s, used, err := wire.GetText(b); err == api.OK && !bytes.Equal(wire.Text(s), b[:used]) {
			t.Fatal(b, s)
		}
	}
}

// P3.5: a replaced byte, and two exchanged ones, are noticed.
func TestDamage(t *testing.T) {
	content := []byte("a sealed text \x00\x01\xff")
	sealed := wire.Seal(content)
	for i := range content {
		for d := 1; d < 256; d++ {
			bad := slices.Clone(sealed)
			bad[1+i] += byte(d)
			if _, _, err := wire.Open(bad); err == api.OK {
				t.Fatal(i, d)
			}
		}
		if i > 0 && content[i] != content[i-1] {
			bad := slices.Clone(content)
			bad[i], bad[i-1] = bad[i-1], bad[i]
			if wire.Sum(bad) == wire.Sum(content) {
				t.Fatal("exchange at", i)
			}
		}
	}
}

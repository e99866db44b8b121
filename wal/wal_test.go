package wal_test

import (
	"hash/adler32"
	"math"
	"math/rand"
	"reflect"
	"slices"
	"strings"
	"testing"

	"hallmoot/api"
	"hallmoot/wal"
	"hallmoot/wire"
)

func entry(ver int, pairs ...int) api.Entry {
	e := api.Entry{Ver: ver}
	for i := 0; i < len(pairs); i += 2 {
		e.Writes = append(e.Writes, api.Write{Loc: pairs[i], Val: pairs[i+1]})
	}
	return e
}

func same(a, b api.Entry) bool { return a.Ver == b.Ver && slices.Equal(a.Writes, b.Writes) }

// wide returns an entry with as many and as long writes as possible.
func wide() api.Entry {
	e := entry(api.Most)
	for k := range api.MaxLoc {
		e.Writes = append(e.Writes, api.Write{Loc: math.MaxInt - api.MaxLoc + k, Val: math.MinInt + k})
	}
	return e
}

// P23.1
func TestSum(t *testing.T) {
	for _, s := range []string{"", "a", "hallmoot", strings.Repeat("\xff", 9000)} {
		if got := wal.Sum(s); got != int(adler32.Checksum([]byte(s))) {
			t.Error(len(s), got)
		}
	}
}

// P23.2
func TestRecord(t *testing.T) {
	body := "\x00\x06\x02\x00\x0a" + strings.Repeat("\x00", 23)
	sum := wal.Sum(body)
	want := body + string([]byte{byte(sum), byte(sum >> 8), byte(sum >> 16), byte(sum >> 24)})
	if got := wal.Record(entry(1, 0, 5)); !slices.Equal(got, []string{want}) {
		t.Errorf("%q", got)
	}
	for _, e := range []api.Entry{entry(0), entry(-1), entry(api.Most + 1), entry(1, -1, 0), entry(1, 3, 0, 3, 1), entry(1, 3, 0, 2, 1), {Ver: 1, Writes: make([]api.Write, 33)}} {
		if got := wal.Record(e); got != nil {
			t.Error(e, got)
		}
	}
	too := wide()
	too.Writes = append(too.Writes, api.Write{Loc: math.MaxInt})
	if wal.Record(too) != nil {
		t.Error("too many writes")
	}
	for _, e := range []api.Entry{entry(1), entry(api.Most, 0, 1, 1, 2, 31, -5), wide()} {
		l := wal.Record(e)
		payload := wire.Nums([]int{e.Ver})[1:]
		for _, w := range e.Writes {
			payload = slices.Concat(payload, wire.Put(w.Loc), wire.Put(w.Val))
		}
		payload = slices.Concat(wire.Put(1+2*len(e.Writes)), payload)
		if len(l) != (len(payload)+26)/27 {
			t.Error("the number of sectors", len(l), len(payload))
		}
		got := ""
		for k, s := range l {
			if len(s) != api.Sector || int(s[0]) != len(l)-1-k {
				t.Errorf("%q", s)
			}
			got += s[1:28]
			sum := wal.Sum(s[:28])
			for i := range 4 {
				if s[28+i] != byte(sum>>(8*i)) {
					t.Error("the checksum")
				}
			}
		}
		if got != string(payload)+strings.Repeat("\x00", len(got)-len(payload)) {
			t.Error("the payload")
		}
	}
}

// P23.3
func TestParse(t *testing.T) {
	zero := strings.Repeat("\x00", api.Sector)
	long := wal.Record(wide())
	l := slices.Concat([]string{zero}, wal.Record(entry(7, 1, 2)), long, []string{zero})
	for at, want := range map[int]api.Entry{1: entry(7, 1, 2), 2: wide()} {
		if e, size, err := wal.Parse(l, at); err != api.OK || !same(e, want) || size != len(wal.Record(want)) {
			t.Error(at, e, size, err)
		}
	}
	torn := func(what string, l []string, at int) {
		t.Helper()
		if e, size, err := wal.Parse(l, at); err != api.ErrTorn || size != 0 || !reflect.DeepEqual(e, api.Entry{}) {
			t.Error(what, e, size, err)
		}
	}
	for _, at := range []int{-1, 0, 3, len(l) - 1, len(l), math.MaxInt, math.MinInt} {
		torn("an index without a record", l, at)
	}
	torn("a record without its end", long[:len(long)-1], 0)
	torn("no sectors", nil, 0)
	for _, bad := range []string{"", "\x00", zero + "\x00", wal.Record(entry(7))[0][:31], wal.Record(entry(7))[0] + "x"} {
		torn("a sector of another size", []string{bad}, 0)
	}
	// Records of what is no valid entry, and records that are not the ones of their entry.
	make1 := func(follow byte, payload []byte) string {
		b := append([]byte{follow}, payload...)
		b = append(b, make([]byte, 28-len(b))...)
		sum := wal.Sum(string(b))
		return string(append(b, byte(sum), byte(sum>>8), byte(sum>>16), byte(sum>>24)))
	}
	if e, _, err := wal.Parse([]string{make1(0, wire.Nums([]int{1, 0, 5}))}, 0); err != api.OK || !same(e, entry(1, 0, 5)) {
		t.Error(e, err)
	}
	for name, s := range map[string][]string{
		"no numbers":       {make1(0, wire.Nums(nil))},
		"an even number":   {make1(0, wire.Nums([]int{1, 2}))},
		"version 0":        {make1(0, wire.Nums([]int{0}))},
		"descending":       {make1(0, wire.Nums([]int{1, 3, 0, 2, 0}))},
		"padding":          {make1(0, append(wire.Nums([]int{1, 0, 5}), 0, 1))},
		"too many sectors": {make1(1, wire.Nums([]int{1, 0, 5})), make1(0, nil)},
		"a wrong count":    {make1(1, wire.Nums([]int{1, 0, 5}))},
		"not a list":       {make1(0, []byte{128, 0})},
	} {
		torn(name, s, 0)
	}
}

// P23.4
func TestRecover(t *testing.T) {
	zero := strings.Repeat("\x00", api.Sector)
	a, b, c := entry(1, 0, 5), wide(), entry(3)
	b.Ver = 2
	l := slices.Concat(wal.Record(a), wal.Record(b), wal.Record(c))
	check := func(l []string, end int, want ...api.Entry) {
		t.Helper()
		got, at := wal.Recover(l)
		if !slices.EqualFunc(got, want, same) || at != end {
			t.Error(got, at)
		}
	}
	check(l, len(l), a, b, c)
	check(append(l, zero, zero), len(l), a, b, c)
	check(l[:len(l)-1], len(l)-1, a, b)
	check(l[:len(l)-2], 1, a)
	check(nil, 0)
	check([]string{zero}, 0)
	check(append([]string{zero}, l...), 0)
	check(slices.Concat(wal.Record(c), wal.Record(a)), 1, c)
	check(slices.Concat(wal.Record(a), wal.Record(a)), 1, a)
}

// P23.5: round trips, and sectors that were not written or only up to some byte.
func TestTorn(t *testing.T) {
	r := rand.New(rand.NewSource(1))
	for range 300 {
		e := entry(1 + r.Intn(1000))
		loc := -1
		for range r.Intn(api.MaxLoc) {
			loc += 1 + r.Intn(100)
			e.Writes = append(e.Writes, api.Write{Loc: loc, Val: int(r.Uint64()) >> r.Intn(64)})
		}
		l := wal.Record(e)
		if got, size, err := wal.Parse(append(slices.Clone(l), l...), 0); err != api.OK || !same(got, e) || size != len(l) {
			t.Fatal(got, size, err)
		}
		damaged := slices.Clone(l)
		for k := range damaged {
			cut := r.Intn(api.Sector + 1)
			if r.Intn(2) == 0 {
				cut = api.Sector
			}
			damaged[k] = damaged[k][:cut] + strings.Repeat("\x00", api.Sector-cut)
		}
		if _, _, err := wal.Parse(damaged, 0); (err == api.OK) != slices.Equal(damaged, l) {
			t.Fatal("a torn record", e)
		}
		flipped := slices.Clone(l)
		k, at := r.Intn(len(l)), r.Intn(api.Sector)
		b := []byte(flipped[k])
		b[at] ^= byte(1 + r.Intn(255))
		flipped[k] = string(b)
		if got, size, err := wal.Parse(flipped, 0); err == api.OK && !slices.Equal(wal.Record(got), flipped[:size]) {
			t.Fatal("not the record of its entry")
		}
	}
}

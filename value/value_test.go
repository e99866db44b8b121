package value_test

import (
	"math"
	"math/big"
	"math/rand"
	"testing"

	"hallmoot/api"
	"hallmoot/value"
)

const most = api.Most

func v(kind, n int, of ...api.Value) api.Value { return api.Value{Kind: kind, N: n, Of: of} }

var (
	unit = v(api.VUnit, 0)
	none = v(api.VNone, 0)
	one  = value.Int(1)
)

func array(n, m int) api.Value { return api.Value{Kind: api.VArray, N: n, M: m} }

// round computes the result of Round from its definition.
func round(n *big.Int) int {
	m := big.NewInt(2*most + 1)
	r := new(big.Int).Mod(n, m)
	if r.Cmp(big.NewInt(most)) > 0 {
		r.Sub(r, m)
	}
	return int(r.Int64())
}

// P8.1
func TestArithmetic(t *testing.T) {
	for n, want := range map[int]int{0: 0, 1: 1, -1: -1, most: most, -most: -most, most + 1: -most, -most - 1: most, 2*most + 1: 0, -2*most - 1: 0, 3*most + 1: most, 3*most + 2: -most} {
		if got := value.Round(n); got != want {
			t.Errorf("Round(%d) = %d", n, got)
		}
	}
	r := rand.New(rand.NewSource(1))
	pick := func() int {
		edges := []int{0, 1, -1, 2, most, -most, most - 1, most / 2, -most / 3}
		if r.Intn(2) == 0 {
			return edges[r.Intn(len(edges))]
		}
		return r.Intn(2*most+1) - most
	}
	for range 5000 {
		n := int(r.Uint64())
		if got := value.Round(n); got != round(big.NewInt(int64(n))) {
			t.Fatalf("Round(%d) = %d", n, got)
		}
		a, b := pick(), pick()
		if got := value.Times(a, b); got != round(new(big.Int).Mul(big.NewInt(int64(a)), big.NewInt(int64(b)))) {
			t.Fatalf("Times(%d, %d) = %d", a, b, got)
		}
	}
	for _, n := range []int{math.MaxInt, math.MinInt} {
		if got := value.Int(n); !value.Same(got, v(api.VInt, round(big.NewInt(int64(n))))) {
			t.Error(got)
		}
	}
	if value.Times(most, 2) != -1 || !value.Same(value.Bool(true), v(api.VBool, 1)) || !value.Same(value.Bool(false), v(api.VBool, 0)) {
		t.Error("the examples")
	}
}

func nested(depth int, kind int) api.Value {
	x := none
	if kind == api.VFun {
		x = v(api.VFun, 0)
	}
	for range depth - 1 {
		x = v(kind, 0, x)
	}
	return x
}

// P8.2
func TestRight(t *testing.T) {
	for i, x := range []api.Value{
		one, v(api.VInt, most), v(api.VInt, -most), v(api.VBool, 0), v(api.VBool, 1), unit, none, v(api.VRef, 0), v(api.VRef, api.MaxLoc-1),
		array(0, 1), array(0, api.MaxLoc), array(api.MaxLoc-1, 1), array(3, api.MaxLoc-3), v(api.VPair, 0, one, unit), v(api.VSome, 0, none), v(api.VFun, 0), v(api.VFun, 900, one, unit, none),
		nested(api.MaxDeep, api.VSome), nested(api.MaxDeep, api.VFun),
	} {
		if !value.Right(x) {
			t.Error("valid", i)
		}
	}
	m := func(x api.Value) api.Value { x.M = 1; return x }
	for i, x := range []api.Value{
		{}, v(10, 0), v(-1, 0), v(api.VInt, most+1), v(api.VInt, -most-1), v(api.VBool, 2), v(api.VBool, -1), v(api.VUnit, 1), v(api.VNone, 1), v(api.VRef, -1), v(api.VRef, api.MaxLoc),
		array(0, 0), array(-1, 1), array(0, -1), array(0, api.MaxLoc+1), array(api.MaxLoc, 1), array(3, api.MaxLoc-2), array(1, math.MaxInt), array(math.MaxInt, 1), array(math.MinInt, math.MaxInt),
		v(api.VPair, 0), v(api.VPair, 0, one), v(api.VPair, 0, one, one, one), v(api.VPair, 1, one, one), v(api.VSome, 0), v(api.VSome, 0, one, one), v(api.VSome, 1, one), v(api.VFun, -1),
		v(api.VInt, 0, one), v(api.VBool, 0, one), v(api.VUnit, 0, one), v(api.VNone, 0, one), v(api.VRef, 0, one), {Kind: api.VArray, M: 1, Of: []api.Value{one}},
		m(one), m(unit), m(v(api.VSome, 0, one)), m(v(api.VFun, 0)), m(v(api.VPair, 0, one, one)), m(none), m(v(api.VRef, 0)), m(value.Bool(true)),
		v(api.VPair, 0, one, v(api.VSome, 0)), v(api.VFun, 0, one, v(api.VBool, 7)), nested(api.MaxDeep+1, api.VSome), nested(api.MaxDeep+1, api.VFun), nested(1000, api.VSome),
	} {
		if value.Right(x) {
			t.Error("invalid", i)
		}
	}
}

func TestSame(t *testing.T) {
	all := []api.Value{{}, one, v(api.VInt, 2), v(api.VBool, 1), {Kind: api.VInt, N: 1, M: 1}, v(api.VInt, 1, one), v(api.VPair, 0, one, unit), v(api.VPair, 0, unit, one), v(api.VPair, 0, one), v(api.VSome, 0, one), v(api.VSome, 0, unit), v(api.VFun, 0, one), array(0, 2), array(0, 1)}
	for i, a := range all {
		for k, b := range all {
			if value.Same(a, b) != (i == k) {
				t.Error(i, k)
			}
		}
	}
	if !value.Same(api.Value{Of: []api.Value{}}, api.Value{}) {
		t.Error("empty lists")
	}
}

// P8.3
func TestBin(t *testing.T) {
	i, b := value.Int, value.Bool
	for _, x := range []struct {
		op         int
		a, b, want api.Value
	}{
		{api.OAdd, i(2), i(3), i(5)}, {api.OAdd, i(most), i(1), i(-most)}, {api.OSub, i(2), i(3), i(-1)}, {api.OSub, i(-most), i(1), i(most)}, {api.OMul, i(-4), i(3), i(-12)}, {api.OMul, i(most), i(most), i(value.Times(most, most))},
		{api.OLess, i(1), i(2), b(true)}, {api.OLess, i(2), i(2), b(false)}, {api.OLess, i(-3), i(2), b(true)}, {api.OEq, i(2), i(2), b(true)}, {api.OEq, i(2), i(-2), b(false)},
		{api.OAnd, b(true), b(true), b(true)}, {api.OAnd, b(true), b(false), b(false)}, {api.OAnd, b(false), b(true), b(false)}, {api.OOr, b(false), b(true), b(true)}, {api.OOr, b(true), b(false), b(true)}, {api.OOr, b(false), b(false), b(false)},
	} {
		if got, err := value.Bin(x.op, x.a, x.b); err != api.OK || !value.Same(got, x.want) {
			t.Error(x, got, err)
		}
	}
	for op := -1; op <= 9; op++ {
		for _, bad := range [][2]api.Value{{one, b(true)}, {b(true), one}, {unit, unit}, {v(api.VInt, most+1), one}, {one, v(api.VInt, 1, one)}, {v(api.VBool, 2), b(true)}, {b(true), {Kind: api.VBool, M: 1}}, {none, none}, {v(api.VRef, 0), v(api.VRef, 0)}} {
			if got, err := value.Bin(op, bad[0], bad[1]); err != api.ErrArg || !value.Same(got, api.Value{}) {
				t.Error(op, bad, got, err)
			}
		}
	}
	for _, op := range []int{0, 8, -5, math.MaxInt} {
		if _, err := value.Bin(op, one, one); err != api.ErrArg {
			t.Error(op)
		}
	}
	if _, err := value.Bin(api.OAnd, one, one); err != api.ErrArg {
		t.Error("and of integers")
	}
	if _, err := value.Bin(api.OEq, b(true), b(true)); err != api.ErrArg {
		t.Error("equality of booleans")
	}
}

// P8.4
func TestIndex(t *testing.T) {
	for i := -2; i < 6; i++ {
		got, ok := value.Index(array(4, 3), i)
		if ok != (i >= 0 && i < 3) || ok && !value.Same(got, v(api.VRef, 4+i)) || !ok && !value.Same(got, api.Value{}) {
			t.Error(i, got, ok)
		}
	}
	for _, a := range []api.Value{one, {}, array(0, 0), array(30, 4), {Kind: api.VRef, M: 3}, {Kind: api.VArray, M: 2, Of: []api.Value{one}}} {
		if got, ok := value.Index(a, 0); ok || !value.Same(got, api.Value{}) {
			t.Error(a)
		}
	}
	if _, ok := value.Index(array(0, 3), math.MaxInt); ok {
		t.Error("a large index")
	}
}

func TestShow(t *testing.T) {
	some := func(x api.Value) api.Value { return v(api.VSome, 0, x) }
	for want, x := range map[string]api.Value{
		"0": value.Int(0), "-5": value.Int(-5), "true": v(api.VBool, 1), "false": v(api.VBool, 0), "()": unit, "@3": v(api.VRef, 3), "@1#4": array(1, 4), "(1, ())": v(api.VPair, 0, one, unit),
		"None": none, "Some 1": some(one), "Some None": some(none), "Some (Some 1)": some(some(one)), "Some (Some (Some (1, 1)))": some(some(some(v(api.VPair, 0, one, one)))), "Some (?)": some(v(api.VSome, 0)),
		"fun": v(api.VFun, 3, one), "(?, ?)": v(api.VPair, 0, v(0, 0), v(api.VPair, 0, one)), "((1, 1), Some 1)": v(api.VPair, 0, v(api.VPair, 0, one, one), some(one)), "Some ?": some(v(api.VPair, 0)),
	} {
		if got := value.Show(x); got != want {
			t.Errorf("%s, want %s", got, want)
		}
	}
	for _, x := range []api.Value{{}, v(10, 0), v(api.VSome, 0), v(api.VSome, 0, one, one), v(api.VPair, 0), v(api.VPair, 0, one, one, one)} {
		if got := value.Show(x); got != "?" {
			t.Error(got)
		}
	}
	if value.Show(v(api.VBool, 7)) != "true" {
		t.Error("a boolean that is not 0")
	}
}

// P8.5: the integers form a ring.
func TestRing(t *testing.T) {
	r := rand.New(rand.NewSource(2))
	do := func(op int, a, b api.Value) api.Value {
		got, err := value.Bin(op, a, b)
		if err != api.OK || !value.Right(got) {
			t.Fatal(op, a, b)
		}
		return got
	}
	for range 2000 {
		a, b, c := value.Int(int(r.Uint64())), value.Int(int(r.Uint64())), value.Int(r.Intn(5)-2)
		for i, p := range [][2]api.Value{
			{do(api.OAdd, a, b), do(api.OAdd, b, a)}, {do(api.OMul, a, b), do(api.OMul, b, a)},
			{do(api.OAdd, do(api.OAdd, a, b), c), do(api.OAdd, a, do(api.OAdd, b, c))}, {do(api.OMul, do(api.OMul, a, b), c), do(api.OMul, a, do(api.OMul, b, c))},
			{do(api.OMul, a, do(api.OAdd, b, c)), do(api.OAdd, do(api.OMul, a, b), do(api.OMul, a, c))}, {do(api.OAdd, do(api.OSub, a, b), b), a}, {do(api.OMul, a, one), a},
		} {
			if !value.Same(p[0], p[1]) {
				t.Fatal(i, a, b, c)
			}
		}
	}
}

// P8.5: without functions, texts are equal exactly for equal values.
func TestTexts(t *testing.T) {
	level := []api.Value{one, value.Int(11), value.Bool(true), value.Bool(false), unit, none, v(api.VRef, 1), v(api.VRef, 11), array(1, 1), array(1, 11), array(11, 1)}
	for range 2 {
		next := level
		for i, a := range level[:min(len(level), 30)] {
			next = append(next, v(api.VSome, 0, a), v(api.VPair, 0, a, level[(i*7)%len(level)]))
		}
		level = next
	}
	texts := map[string]api.Value{}
	for _, x := range level {
		s := value.Show(x)
		if y, ok := texts[s]; ok && !value.Same(x, y) {
			t.Error(s)
		}
		texts[s] = x
	}
}

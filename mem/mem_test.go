package mem_test

import (
	"math"
	"slices"
	"testing"

	"hallmoot/api"
	"hallmoot/mem"
)

func load(cell int) api.Access      { return api.Access{Kind: api.ALoad, Cell: cell} }
func store(cell, n int) api.Access  { return api.Access{Kind: api.AStore, Cell: cell, New: n} }
func add(cell, n int) api.Access    { return api.Access{Kind: api.AAdd, Cell: cell, New: n} }
func cas(cell, o, n int) api.Access { return api.Access{Kind: api.ACas, Cell: cell, Old: o, New: n} }
func cells(l ...int) api.Mem        { return api.Mem{Cells: l} }
func results(l ...int) []api.Result {
	var out []api.Result
	for _, n := range l {
		out = append(out, api.Result{Val: n, Ok: true})
	}
	return out
}

// P2.1
func TestRight(t *testing.T) {
	for i, a := range []api.Access{load(0), load(9), store(0, 3), store(1, 0), add(2, -1), cas(0, 1, 2), cas(0, 0, 0)} {
		if !mem.Right(a) {
			t.Error("valid", i)
		}
	}
	for i, a := range []api.Access{
		{}, {Kind: api.ALoad, Cell: -1}, {Kind: api.ALoad, New: 1}, {Kind: api.ALoad, Old: 1}, {Kind: api.ALoad, Bytes: "x"},
		{Kind: api.AStore, Old: 1}, {Kind: api.AAdd, Old: 1}, {Kind: api.ACas, Cell: -1}, {Kind: api.ACas, Bytes: "x"},
		{Kind: api.AStore, Cell: -2}, {Kind: api.AStore, Bytes: "y"}, {Kind: api.ADisk}, {Kind: api.ASync}, {Kind: -1}, {Kind: 7},
	} {
		if mem.Right(a) {
			t.Error("invalid", i)
		}
	}
}

// P2.2
func TestDo(t *testing.T) {
	for i, x := range []struct {
		m    api.Mem
		a    api.Access
		want api.Mem
		r    api.Result
		err  api.Errno
	}{
		{cells(5, 6), load(1), cells(5, 6), api.Result{Val: 6, Ok: true}, api.OK},
		{cells(5, 6), store(0, 9), cells(9, 6), api.Result{Val: 5, Ok: true}, api.OK},
		{cells(5, 6), cas(0, 5, 7), cells(7, 6), api.Result{Val: 5, Ok: true}, api.OK},
		{cells(7, 6), cas(0, 5, 7), cells(7, 6), api.Result{Val: 7}, api.OK},
		{cells(7, 6), cas(0, 7, 7), cells(7, 6), api.Result{Val: 7, Ok: true}, api.OK},
		{cells(7, 6), add(0, 3), cells(10, 6), api.Result{Val: 7, Ok: true}, api.OK},
		{cells(math.MaxInt), add(0, 1), cells(math.MinInt), api.Result{Val: math.MaxInt, Ok: true}, api.OK},
		{cells(7), load(1), cells(7), api.Result{}, api.ErrAddress},
		{cells(), store(0, 1), cells(), api.Result{}, api.ErrAddress},
		{cells(7), api.Access{Kind: api.ALoad, Cell: 5, New: 1}, cells(7), api.Result{}, api.ErrArg},
		{cells(7), api.Access{Kind: api.ADisk}, cells(7), api.Result{}, api.ErrArg},
		{cells(7), api.Access{Kind: api.AStore, Cell: -1}, cells(7), api.Result{}, api.ErrArg},
	} {
		before := slices.Clone(x.m.Cells)
		m, r, err := mem.Do(x.m, x.a)
		if !mem.Same(m, x.want) || r != x.r || err != x.err {
			t.Error(i, m, r, err)
		}
		if !slices.Equal(before, x.m.Cells) {
			t.Error(i, "the argument was modified")
		}
	}
}

// P2.3
func TestAll(t *testing.T) {
	start := cells(5, 0)
	m, r, err := mem.All(start, []api.Access{cas(0, 5, 7), add(0, 3), load(0), store(1, 2)})
	if !mem.Same(m, cells(10, 2)) || !slices.Equal(r, results(5, 7, 10, 0)) || err != api.OK {
		t.Error(m, r, err)
	}
	if m, r, err := mem.All(start, nil); !mem.Same(m, start) || len(r) != 0 || err != api.OK {
		t.Error(m, r, err)
	}
	m, r, err = mem.All(start, []api.Access{store(0, 1), load(2), {}})
	if !mem.Same(m, start) || len(r) != 0 || err != api.ErrAddress {
		t.Error(m, r, err)
	}
	m, r, err = mem.All(start, []api.Access{store(0, 1), {}, load(2)})
	if !mem.Same(m, cells(5, 0)) || len(r) != 0 || err != api.ErrArg {
		t.Error(m, r, err)
	}
	for i, x := range []struct {
		a, b api.Mem
		same bool
	}{{cells(), cells(), true}, {cells(1, 2), cells(1, 2), true}, {cells(1, 2), cells(1, 3), false}, {cells(1), cells(1, 0), false}, {cells(0), cells(), false}} {
		if mem.Same(x.a, x.b) != x.same {
			t.Error("Same", i)
		}
	}
}

// P2.4: accesses of different cells, two loads, and two additions commute.
func TestCommute(t *testing.T) {
	kinds := func(cell int) []api.Access {
		return []api.Access{load(cell), store(cell, 4), add(cell, 3), cas(cell, 1, 8), cas(cell, 2, 9)}
	}
	pairs := [][2]api.Access{{load(0), load(0)}}
	for _, a := range kinds(0) {
		for _, b := range kinds(1) {
			pairs = append(pairs, [2]api.Access{a, b})
		}
	}
	for i, p := range pairs {
		m1, r1, _ := mem.All(cells(1, 2, 3), []api.Access{p[0], p[1]})
		m2, r2, _ := mem.All(cells(1, 2, 3), []api.Access{p[1], p[0]})
		if !mem.Same(m1, m2) || r1[0] != r2[1] || r1[1] != r2[0] || m1.Cells[2] != 3 {
			t.Error(i, m1, m2)
		}
	}
	m1, _, _ := mem.All(cells(1), []api.Access{add(0, 3), add(0, 4)})
	m2, _, _ := mem.All(cells(1), []api.Access{add(0, 4), add(0, 3)})
	if !mem.Same(m1, m2) {
		t.Error(m1, m2)
	}
}

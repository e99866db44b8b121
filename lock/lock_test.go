package lock_test

import (
	"math"
	"math/rand"
	"slices"
	"testing"

	"hallmoot/api"
	"hallmoot/layout"
	"hallmoot/lock"
	"hallmoot/mem"
	"hallmoot/word"
)

var l, _ = layout.Of(api.Conf{Threads: 3, Locs: 2, Locks: 1})

// follow returns the accesses of an operation with a given log, and its outcome.
func follow(me int, op api.Op, log ...api.Result) ([]api.Access, api.Out, bool) {
	var all []api.Access
	for n := 0; n <= len(log); n++ {
		a, out, done := lock.Next(l, me, op, log[:n])
		if done {
			return all, out, true
		}
		all = append(all, a)
	}
	return all, api.Out{}, false
}

func val(n int) api.Result  { return api.Result{Val: n} }
func ok(is bool) api.Result { return api.Result{Ok: is} }

// P16.1 to P16.4, for logs that a memory produces and others.
func TestOperations(t *testing.T) {
	cell := layout.Word(l, 1)
	load := api.Access{Kind: api.ALoad, Cell: cell}
	value := api.Access{Kind: api.ALoad, Cell: layout.Val(l, 1)}
	cas := func(old int) api.Access { return api.Access{Kind: api.ACas, Cell: cell, Old: old, New: 5} }
	for i, x := range []struct {
		kind, b int
		log     []api.Result
		want    []api.Access
		out     api.Out
	}{
		{lock.Take, 0, []api.Result{val(10), ok(true)}, []api.Access{load, cas(10)}, api.Out{Is: true, Ver: 5}},
		{lock.Take, 0, []api.Result{val(10), ok(false)}, []api.Access{load, cas(10)}, api.Out{Val: -1}},
		{lock.Take, 0, []api.Result{val(3)}, []api.Access{load}, api.Out{Val: 1}},
		{lock.Take, 0, []api.Result{val(5)}, []api.Access{load}, api.Out{Val: 2}},
		{lock.Take, 0, []api.Result{val(-3)}, []api.Access{load}, api.Out{Val: -2}},
		{lock.Take, 0, []api.Result{val(-4), {Val: 77, Ok: true}, val(9)}, []api.Access{load, cas(-4)}, api.Out{Is: true, Ver: -2}},
		{lock.Take, 0, []api.Result{val(201)}, []api.Access{load}, api.Out{Val: 100}},
		{lock.Give, 6, []api.Result{val(3)}, []api.Access{{Kind: api.AStore, Cell: cell, New: 12}}, api.Out{Is: true}},
		{lock.Give, math.MaxInt, []api.Result{val(3)}, []api.Access{{Kind: api.AStore, Cell: cell, New: -2}}, api.Out{Is: true}},
		{lock.Look, 6, []api.Result{val(12)}, []api.Access{load}, api.Out{Is: true}},
		{lock.Look, 6, []api.Result{val(14)}, []api.Access{load}, api.Out{Val: -1}},
		{lock.Look, 6, []api.Result{val(13)}, []api.Access{load}, api.Out{Val: 6}},
		{lock.Look, 6, []api.Result{val(-1)}, []api.Access{load}, api.Out{Val: -1}},
		{lock.Read, 0, []api.Result{val(10), val(7), val(10)}, []api.Access{load, value, load}, api.Out{Is: true, Val: 7, Ver: 5}},
		{lock.Read, 0, []api.Result{val(10), val(7), val(12), val(4)}, []api.Access{load, value, load}, api.Out{Val: -1, Ver: -1}},
		{lock.Read, 0, []api.Result{val(10), val(7), val(11)}, []api.Access{load, value, load}, api.Out{Val: -1, Ver: -1}},
		{lock.Read, 0, []api.Result{val(11)}, []api.Access{load}, api.Out{Val: 5, Ver: -1}},
		{lock.Read, 0, []api.Result{val(-2), val(-7), val(-2)}, []api.Access{load, value, load}, api.Out{Is: true, Val: -7, Ver: -1}},
	} {
		got, out, done := follow(2, api.Op{Kind: x.kind, A: 1, B: x.b}, x.log...)
		if !done || !slices.Equal(got, x.want) || out != x.out {
			t.Error(i, got, out, done)
		}
	}
}

// P16.5
func TestErrors(t *testing.T) {
	for _, op := range []api.Op{{}, {Kind: 5}, {Kind: -1}, {Kind: lock.Take, A: 2}, {Kind: lock.Read, A: -1}, {Kind: lock.Give, A: 99}, {Kind: lock.Look, A: math.MinInt}} {
		for _, log := range [][]api.Result{nil, {val(0)}} {
			if a, out, done := lock.Next(l, 0, op, log); a != (api.Access{}) || out != (api.Out{Err: api.ErrArg}) || !done {
				t.Error(op, a, out, done)
			}
		}
	}
	if _, _, done := lock.Next(l, 0, api.Op{Kind: lock.Give, A: 0}, nil); done {
		t.Error("Give ends without its access")
	}
}

// P16.6: threads that take the lock, write and release it with a greater version, interleaved with readers.
func TestInterleaving(t *testing.T) {
	for seed := range 300 {
		r := rand.New(rand.NewSource(int64(seed)))
		m := api.Mem{Cells: make([]int, l.Size)}
		type thread struct {
			op  api.Op
			log []api.Result
			ver int
		}
		threads := []thread{{op: api.Op{Kind: lock.Take}}, {op: api.Op{Kind: lock.Take}}, {op: api.Op{Kind: lock.Read}}}
		values := map[int]int{0: 0}
		holder := -1
		for range 200 {
			me := r.Intn(3)
			th := &threads[me]
			a, out, done := lock.Next(l, me, th.op, th.log)
			if !done {
				var res api.Result
				m, res, _ = mem.Do(m, a)
				th.log = append(th.log, res)
				a, out, done = lock.Next(l, me, th.op, th.log)
			}
			if !done {
				continue
			}
			th.log = nil
			switch {
			case th.op.Kind == lock.Read && out.Is:
				if values[out.Ver] != out.Val {
					t.Fatal("a value of another version", out)
				}
			case th.op.Kind == lock.Take && out.Is:
				if holder != -1 {
					t.Fatal("two holders")
				}
				holder = me
				th.ver = out.Ver + 1
				values[th.ver] = r.Intn(1000)
				m, _, _ = mem.Do(m, api.Access{Kind: api.AStore, Cell: layout.Val(l, 0), New: values[th.ver]})
				th.op = api.Op{Kind: lock.Give, B: th.ver}
			case th.op.Kind == lock.Give:
				holder = -1
				th.op = api.Op{Kind: lock.Take}
			}
			if holder >= 0 && m.Cells[layout.Word(l, 0)] != word.Held(holder) {
				t.Fatal("the lock word of a held lock")
			}
		}
	}
}

package wait_test

import (
	"math/rand"
	"slices"
	"testing"

	"hallmoot/api"
	"hallmoot/layout"
	"hallmoot/mem"
	"hallmoot/wait"
	"hallmoot/word"
)

var l, _ = layout.Of(api.Conf{Threads: 3, Locs: 3})

func val(n int) api.Result  { return api.Result{Val: n} }
func ok(is bool) api.Result { return api.Result{Ok: is} }

func load(cell int) api.Access     { return api.Access{Kind: api.ALoad, Cell: cell} }
func store(cell, n int) api.Access { return api.Access{Kind: api.AStore, Cell: cell, New: n} }
func cas(cell, old, new int) api.Access {
	return api.Access{Kind: api.ACas, Cell: cell, Old: old, New: new}
}

// P21.1 and P21.2
func TestNext(t *testing.T) {
	flag := layout.Wake(l, 1)
	m0, m2, w0, w2 := layout.Waiters(l, 0), layout.Waiters(l, 2), layout.Word(l, 0), layout.Word(l, 2)
	seen := []api.Seen{{Loc: 2, Ver: 3}, {Loc: 0, Ver: 1}}
	free, held := func(n int) api.Result { return val(word.Free(n)) }, func(n int) api.Result { return val(word.Held(n)) }
	for name, x := range map[string]struct {
		kind int
		seen []api.Seen
		log  []api.Result
		want []api.Access
		is   bool
	}{
		"watch":                    {api.PWatch, seen, []api.Result{val(9), val(1), ok(true), val(2), free(3), free(1)}, []api.Access{store(flag, 0), load(m2), cas(m2, 1, 3), load(m0), load(w2), load(w0)}, true},
		"watch, contended":         {api.PWatch, seen[:1], []api.Result{val(9), val(1), ok(false), val(0), ok(true), free(3)}, []api.Access{store(flag, 0), load(m2), cas(m2, 1, 3), load(m2), cas(m2, 0, 2), load(w2)}, true},
		"watch nothing":            {api.PWatch, nil, []api.Result{val(9)}, []api.Access{store(flag, 0)}, true},
		"watch, the first changed": {api.PWatch, seen, []api.Result{val(9), val(2), val(2), free(4), val(2), ok(true), val(6), ok(false), val(4)}, []api.Access{store(flag, 0), load(m2), load(m0), load(w2), load(m2), cas(m2, 2, 0), load(m0), cas(m0, 6, 4), load(m0)}, false},
		"watch, the last locked":   {api.PWatch, seen, []api.Result{val(9), val(2), val(2), free(3), held(0), val(0), val(0)}, []api.Access{store(flag, 0), load(m2), load(m0), load(w2), load(w0), load(m2), load(m0)}, false},
		"sleep":                    {api.PSleep, seen, []api.Result{val(0)}, []api.Access{load(flag)}, false},
		"wake up":                  {api.PSleep, seen, []api.Result{val(1), val(3), ok(true), val(2), ok(true)}, []api.Access{load(flag), load(m2), cas(m2, 3, 1), load(m0), cas(m0, 2, 0)}, true},
		"another flag":             {api.PSleep, seen[:1], []api.Result{val(-7), val(1)}, []api.Access{load(flag), load(m2)}, true},
		"wake up for nothing":      {api.PSleep, nil, []api.Result{val(1)}, []api.Access{load(flag)}, true},
	} {
		var got []api.Access
		for n := 0; n <= len(x.log); n++ {
			a, out, done := wait.Next(l, 1, api.Op{Kind: x.kind, Seen: x.seen}, x.log[:n])
			if done {
				if out != (api.Out{Is: x.is}) || n != len(x.log) {
					t.Error(name, out)
				}
				break
			}
			got = append(got, a)
		}
		if !slices.Equal(got, x.want) {
			t.Error(name, got)
		}
	}
}

// P21.3
func TestRouse(t *testing.T) {
	for mask, want := range map[int][]int{0: nil, 1: {0}, 6: {1, 2}, 7: {0, 1, 2}, 13: {0, 2}, 8: nil, -1: {0, 1, 2}, 1 << 61: nil} {
		var accesses []api.Access
		for _, thread := range want {
			accesses = append(accesses, store(layout.Wake(l, thread), 1))
		}
		if got := wait.Rouse(l, mask); !slices.Equal(got, accesses) {
			t.Error(mask, got)
		}
	}
}

// P21.4
func TestErrors(t *testing.T) {
	for i, x := range []struct {
		me int
		op api.Op
	}{{0, api.Op{}}, {0, api.Op{Kind: api.PRead}}, {3, api.Op{Kind: api.PWatch}}, {-1, api.Op{Kind: api.PSleep}}, {0, api.Op{Kind: api.PWatch, Seen: []api.Seen{{Loc: 0}, {Loc: 3}}}}, {0, api.Op{Kind: api.PSleep, Seen: []api.Seen{{Loc: -1}}}}} {
		if a, out, done := wait.Next(l, x.me, x.op, []api.Result{val(1)}); a != (api.Access{}) || out != (api.Out{Err: api.ErrArg}) || !done {
			t.Error(i, a, out, done)
		}
	}
}

// P21.5: a writer that wakes the waiters after its write is never missed, whatever the interleaving.
func TestNoLostWakeUp(t *testing.T) {
	slept := 0
	for seed := range 2000 {
		r := rand.New(rand.NewSource(int64(seed)))
		m := api.Mem{Cells: make([]int, l.Size)}
		do := func(a api.Access) api.Result {
			var res api.Result
			m, res, _ = mem.Do(m, a)
			return res
		}
		loc := r.Intn(2)
		writer := []api.Access{cas(layout.Word(l, loc), 0, word.Held(0)), store(layout.Val(l, loc), 5), store(layout.Word(l, loc), word.Free(1)), load(layout.Waiters(l, loc))}
		op := api.Op{Kind: api.PWatch, Seen: []api.Seen{{Loc: 0}, {Loc: 1}}}
		var log []api.Result
		over := false
		for len(writer) > 0 || !over && r.Intn(40) > 0 {
			if len(writer) > 0 && (over || r.Intn(2) == 0) {
				res := do(writer[0])
				if writer = writer[1:]; len(writer) == 0 && res.Val > 1 {
					writer = wait.Rouse(l, res.Val)
				}
				continue
			}
			a, _, _ := wait.Next(l, 1, op, log)
			log = append(log, do(a))
			_, out, done := wait.Next(l, 1, op, log)
			if !done {
				continue
			}
			log = nil
			if op.Kind == api.PWatch {
				over = !out.Is
				op.Kind = api.PSleep
			} else {
				slept++
				over = out.Is
			}
		}
		asleep := !over && op.Kind == api.PSleep && len(log) == 0
		bits := word.In(m.Cells[layout.Waiters(l, 0)], 1) && word.In(m.Cells[layout.Waiters(l, 1)], 1)
		if asleep && (!bits || m.Cells[layout.Wake(l, 1)] != 1) {
			t.Fatal("a lost wake-up", seed)
		}
		if over && (word.In(m.Cells[layout.Waiters(l, 0)], 1) || word.In(m.Cells[layout.Waiters(l, 1)], 1)) {
			t.Fatal("a bit is left", seed)
		}
	}
	if slept < 100 {
		t.Error(slept)
	}
}

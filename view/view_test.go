package view_test

import (
	"math/rand"
	"slices"
	"testing"

	"hallmoot/api"
	"hallmoot/layout"
	"hallmoot/mem"
	"hallmoot/view"
	"hallmoot/word"
)

func layoutOf(manager int) api.Layout {
	l, _ := layout.Of(api.Conf{Threads: 3, Locs: 4, Manager: manager})
	return l
}

func val(n int) api.Result  { return api.Result{Val: n} }
func ok(is bool) api.Result { return api.Result{Ok: is} }

// follow returns the accesses of an operation with a given log, and its outcome.
func follow(l api.Layout, me int, op api.Op, log []api.Result) ([]api.Access, api.Out, bool) {
	var all []api.Access
	for n := 0; n <= len(log); n++ {
		a, out, done := view.Next(l, me, op, log[:n])
		if done {
			return all, out, n == len(log)
		}
		all = append(all, a)
	}
	return all, api.Out{}, false
}

// P19.1 and P19.2: the accesses, for logs that a memory produces and others.
func TestNext(t *testing.T) {
	l := layoutOf(api.MTimid)
	load := func(cell int) api.Access { return api.Access{Kind: api.ALoad, Cell: cell} }
	w, v, st, clock := load(layout.Word(l, 1)), load(layout.Val(l, 1)), load(layout.Status(l, 0)), load(l.Clock)
	w2, w3 := load(layout.Word(l, 2)), load(layout.Word(l, 3))
	other := []api.Access{st, load(layout.Status(l, 2)), load(layout.Stamp(l, 2)), load(layout.Karma(l, 2))}
	readers := load(layout.Readers(l, 1))
	cas := func(cell, old, new int) api.Access { return api.Access{Kind: api.ACas, Cell: cell, Old: old, New: new} }
	seen := []api.Seen{{Loc: 2, Ver: 1}, {Loc: 3, Ver: 2}}
	active, doomed := val(word.Status(4, word.Active)), val(word.Status(4, word.Doomed))
	committing := val(word.Status(4, word.Committing))
	free, held := func(n int) api.Result { return val(word.Free(n)) }, func(n int) api.Result { return val(word.Held(n)) }
	lost := api.Out{Lost: true}
	cat := func(l ...[]api.Access) []api.Access { return slices.Concat(l...) }
	one := func(l ...api.Access) []api.Access { return l }
	for name, x := range map[string]struct {
		manager int
		mine    api.Contender
		seen    []api.Seen
		log     []api.Result
		want    []api.Access
		out     api.Out
	}{
		"plain":                           {0, api.Contender{}, seen, []api.Result{free(3), val(7), free(3), active}, one(w, v, w, st), api.Out{Val: 7, Ver: 3, Rv: 5, Is: true}},
		"as new as rv":                    {0, api.Contender{}, seen, []api.Result{free(5), val(7), free(5), active}, one(w, v, w, st), api.Out{Val: 7, Ver: 5, Rv: 5, Is: true}},
		"doomed":                          {0, api.Contender{}, seen, []api.Result{free(3), val(7), free(3), doomed}, one(w, v, w, st), lost},
		"changed":                         {0, api.Contender{}, nil, []api.Result{free(3), val(7), free(4), free(4), val(8), free(4), active}, one(w, v, w, w, v, w, st), api.Out{Val: 8, Ver: 4, Rv: 5, Is: true}},
		"owned, own status doomed":        {0, api.Contender{}, nil, []api.Result{held(2), doomed}, one(w, st), lost},
		"owned by an idle thread":         {0, api.Contender{}, nil, []api.Result{held(2), active, val(0), free(4), val(8), free(4), active}, one(w, st, other[1], w, v, w, st), api.Out{Val: 8, Ver: 4, Rv: 5, Is: true}},
		"owned, to abort":                 {0, api.Contender{}, nil, []api.Result{held(2), active, active, val(1), val(0)}, cat(one(w), other), lost},
		"owned by me":                     {0, api.Contender{}, nil, []api.Result{held(0)}, one(w), lost},
		"owned by no thread":              {0, api.Contender{}, nil, []api.Result{held(3)}, one(w), lost},
		"owned by nobody":                 {0, api.Contender{}, nil, []api.Result{held(-1), held(-2), free(4), val(8), free(4), active}, one(w, w, w, v, w, st), api.Out{Val: 8, Ver: 4, Rv: 5, Is: true}},
		"owned, to doom":                  {api.MKarma, api.Contender{Karma: 5}, nil, []api.Result{held(2), active, active, val(1), val(0), ok(true), free(4), val(8), free(4), active}, cat(one(w), other, one(cas(layout.Status(l, 2), word.Status(4, word.Active), word.Status(4, word.Doomed)), w, v, w, st)), api.Out{Val: 8, Ver: 4, Rv: 5, Is: true}},
		"owned, has passed":               {api.MKarma, api.Contender{Karma: 5}, nil, []api.Result{held(2), active, committing, val(1), val(0), free(4), val(8), free(4), active}, cat(one(w), other, one(w, v, w, st)), api.Out{Val: 8, Ver: 4, Rv: 5, Is: true}},
		"newer":                           {0, api.Contender{}, seen, []api.Result{free(6), val(7), free(6), val(9), free(1), free(2), free(6), val(7), free(6), active}, one(w, v, w, clock, w2, w3, w, v, w, st), api.Out{Val: 7, Ver: 6, Rv: 9, Is: true}},
		"newer twice":                     {0, api.Contender{}, seen[:1], []api.Result{free(6), val(7), free(6), val(6), free(1), free(8), val(1), free(8), val(8), free(1), free(8), val(1), free(8), active}, one(w, v, w, clock, w2, w, v, w, clock, w2, w, v, w, st), api.Out{Val: 1, Ver: 8, Rv: 8, Is: true}},
		"an earlier read changed":         {0, api.Contender{}, seen, []api.Result{free(6), val(7), free(6), val(9), free(1), free(3)}, one(w, v, w, clock, w2, w3), lost},
		"an earlier read owned by nobody": {0, api.Contender{}, seen, []api.Result{free(6), val(7), free(6), val(9), held(-1)}, one(w, v, w, clock, w2), lost},
		"an earlier read owned by me":     {0, api.Contender{}, seen, []api.Result{free(6), val(7), free(6), val(9), held(0)}, one(w, v, w, clock, w2), lost},
		"an earlier read owned, idle":     {0, api.Contender{}, seen[:1], []api.Result{free(6), val(7), free(6), val(9), held(2), active, val(0), free(1), free(6), val(7), free(6), active}, one(w, v, w, clock, w2, st, other[1], w2, w, v, w, st), api.Out{Val: 7, Ver: 6, Rv: 9, Is: true}},
		"an earlier read owned, passed":   {api.MKarma, api.Contender{Karma: 5}, seen, []api.Result{free(6), val(7), free(6), val(9), held(2), active, committing, val(1), val(0)}, cat(one(w, v, w, clock, w2), other), lost},
		"an earlier read owned, to doom":  {api.MKarma, api.Contender{Karma: 5}, seen[:1], []api.Result{free(6), val(7), free(6), val(9), held(2), active, doomed, val(1), val(0), free(1), free(6), val(7), free(6), active}, cat(one(w, v, w, clock, w2), other, one(w2, w, v, w, st)), api.Out{Val: 7, Ver: 6, Rv: 9, Is: true}},
		"an earlier read of nothing":      {0, api.Contender{}, []api.Seen{{Loc: 77, Ver: 1}, {Loc: -1, Ver: 1}}, []api.Result{free(6), val(7), free(6), val(9), free(1), free(1), free(6), val(7), free(6), active}, one(w, v, w, clock, load(-1), load(-1), w, v, w, st), api.Out{Val: 7, Ver: 6, Rv: 9, Is: true}},
		"visible":                         {api.MGreedy, api.Contender{}, nil, []api.Result{val(4), ok(true), free(3), val(7), free(3), active}, one(readers, cas(readers.Cell, 4, 5), w, v, w, st), api.Out{Val: 7, Ver: 3, Rv: 5, Is: true}},
		"visible before":                  {api.MGreedy, api.Contender{}, nil, []api.Result{val(5), free(3), val(7), free(3), active}, one(readers, w, v, w, st), api.Out{Val: 7, Ver: 3, Rv: 5, Is: true}},
		"visible, lost":                   {api.MGreedy, api.Contender{}, nil, []api.Result{val(4), ok(true), free(3), val(7), free(3), doomed, val(7), ok(true)}, one(readers, cas(readers.Cell, 4, 5), w, v, w, st, readers, cas(readers.Cell, 7, 6)), lost},
		"visible before, lost":            {api.MGreedy, api.Contender{}, nil, []api.Result{val(5), free(3), val(7), free(3), doomed}, one(readers, w, v, w, st), lost},
		"mixed, visible":                  {api.MMixed, api.Contender{Aborts: 2}, nil, []api.Result{val(5), held(0)}, one(readers, w), lost},
		"mixed, invisible":                {api.MMixed, api.Contender{Aborts: 1}, nil, []api.Result{held(0)}, one(w), lost},
	} {
		l := layoutOf(x.manager)
		got, out, done := follow(l, 0, api.Op{Kind: api.PRead, A: 1, B: 5, Mine: x.mine, Seen: x.seen}, x.log)
		if !done || !slices.Equal(got, x.want) || out != x.out {
			t.Errorf("%s: %v %v %v", name, got, out, done)
		}
	}
}

// The thread 0 is an owner like any other.
func TestThreadZero(t *testing.T) {
	l := layoutOf(api.MTimid)
	load := func(cell int) api.Access { return api.Access{Kind: api.ALoad, Cell: cell} }
	own, other := load(layout.Status(l, 1)), load(layout.Status(l, 0))
	w, v, w2 := load(layout.Word(l, 1)), load(layout.Val(l, 1)), load(layout.Word(l, 2))
	free, held := val(word.Free(6)), val(word.Held(0))
	op := api.Op{Kind: api.PRead, A: 1, B: 5, Seen: []api.Seen{{Loc: 2, Ver: 1}}}
	log := []api.Result{held, val(0), val(0), free, val(7), free, val(9), held, val(0), val(0), val(word.Free(1)), free, val(7), free, val(0)}
	want := []api.Access{w, own, other, w, v, w, load(l.Clock), w2, own, other, w2, w, v, w, own}
	if got, out, done := follow(l, 1, op, log); !done || !slices.Equal(got, want) || out != (api.Out{Val: 7, Ver: 6, Rv: 9, Is: true}) {
		t.Error(got, out, done)
	}
}

// P19.3
func TestErrors(t *testing.T) {
	l := layoutOf(api.MGreedy)
	for i, x := range []struct {
		me int
		op api.Op
	}{{0, api.Op{}}, {0, api.Op{Kind: api.PCommit}}, {0, api.Op{Kind: api.PRead, A: 4}}, {0, api.Op{Kind: api.PRead, A: -1}}, {3, api.Op{Kind: api.PRead}}, {-1, api.Op{Kind: api.PRead}}} {
		if a, out, done := view.Next(l, x.me, x.op, nil); a != (api.Access{}) || out != (api.Out{Err: api.ErrArg}) || !done {
			t.Error(i, a, out, done)
		}
	}
}

// writer is the list of accesses of a thread that writes two locations in the way that P19.4 assumes.
func writer(l api.Layout, me int, m api.Mem, r *rand.Rand) []api.Access {
	a, b := r.Intn(2), 2+r.Intn(2)
	var out []api.Access
	for _, loc := range []int{a, b} {
		w := m.Cells[layout.Word(l, loc)]
		if word.Locked(w) {
			return nil
		}
		out = append(out, api.Access{Kind: api.ACas, Cell: layout.Word(l, loc), Old: w, New: word.Held(me)})
	}
	out = append(out, api.Access{Kind: api.AAdd, Cell: l.Clock, New: 1})
	for _, loc := range []int{a, b} {
		out = append(out, api.Access{Kind: api.AStore, Cell: layout.Val(l, loc), New: r.Intn(1000)})
	}
	for _, loc := range []int{a, b} {
		out = append(out, api.Access{Kind: api.AStore, Cell: layout.Word(l, loc)})
	}
	return out
}

// P19.4: against writers, a reader's values are those of all locations after exactly the writes up to its Rv.
func TestSnapshots(t *testing.T) {
	reads := 0
	for seed := range 400 {
		r := rand.New(rand.NewSource(int64(seed)))
		l := layoutOf(api.MKarma)
		m := api.Mem{Cells: make([]int, l.Size)}
		do := func(a api.Access) api.Result {
			var res api.Result
			m, res, _ = mem.Do(m, a)
			return res
		}
		do(api.Access{Kind: api.AStore, Cell: layout.Status(l, 0), New: word.Status(1, word.Active)})
		do(api.Access{Kind: api.AStore, Cell: layout.Status(l, 1), New: word.Status(1, word.Committing)})
		history := map[int][4]int{0: {}}
		var todo []api.Access
		ver := 0
		begin := func() api.Op {
			return api.Op{Kind: api.PRead, A: r.Intn(4), B: m.Cells[l.Clock], Mine: api.Contender{Karma: 100}}
		}
		op := begin()
		var log []api.Result
		for range 400 {
			if r.Intn(3) == 0 {
				if len(todo) == 0 {
					todo = writer(l, 1, m, r)
					continue
				}
				a := todo[0]
				todo = todo[1:]
				if a.Kind == api.AAdd {
					ver = m.Cells[l.Clock] + 1
					state := history[ver-1]
					for _, s := range todo[:2] {
						state[(s.Cell-l.Loc)/4] = s.New
					}
					history[ver] = state
				}
				if a.Kind == api.AStore && word.Locked(m.Cells[a.Cell]) && (a.Cell-l.Loc)%4 == 0 {
					a.New = word.Free(ver)
				}
				do(a)
				continue
			}
			a, _, _ := view.Next(l, 0, op, log)
			log = append(log, do(a))
			_, out, done := view.Next(l, 0, op, log)
			if !done {
				continue
			}
			log = nil
			if out.Lost {
				op = begin()
				continue
			}
			reads++
			if out.Rv < op.B {
				t.Fatal("Rv decreases")
			}
			op.B = out.Rv
			op.Seen = append(op.Seen, api.Seen{Loc: op.A, Ver: out.Ver, Val: out.Val})
			for _, s := range op.Seen {
				if history[out.Rv][s.Loc] != s.Val {
					t.Fatal("not a snapshot", op, out)
				}
			}
			if op.A = r.Intn(4); len(op.Seen) > 5 {
				op = begin()
			}
		}
	}
	if reads < 1000 {
		t.Error("too few reads", reads)
	}
}

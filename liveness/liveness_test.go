package liveness_test

import (
	"math"
	"math/rand"
	"slices"
	"testing"

	"hallmoot/api"
	"hallmoot/code"
	"hallmoot/layout"
	"hallmoot/liveness"
	"hallmoot/parse"
	"hallmoot/run"
	"hallmoot/word"
)

func load(t *testing.T, text string, manager int) (api.Code, api.Conf) {
	t.Helper()
	p, err := parse.Of(text)
	if err != api.OK {
		t.Fatal(text, err)
	}
	c, err := code.Of(p)
	if err != api.OK {
		t.Fatal(text, err)
	}
	conf, _ := layout.For(c, 16, manager)
	return c, conf
}

// P33.1
func TestNoLostWakeups(t *testing.T) {
	c, conf := load(t, "ref x;; ref y;; thread atomic (if !x == 0 then retry else ());;", api.MTimid)
	s, _ := run.Play(c, conf, nil, 1000)
	if s.Threads[0].Phase != api.GSleep || !liveness.All(s) {
		t.Fatal("the example")
	}
	wake := layout.Wake(s.Layout, 0)
	write := func(ver, loc int) api.Attempt {
		return api.Attempt{Kind: api.DCommit, Ver: ver, Writes: []api.Write{{Loc: 1 - loc}, {Loc: loc, Val: 1}}}
	}
	for name, x := range map[string]struct {
		change func(s *api.State)
		want   bool
	}{
		"a writer":                {func(s *api.State) {}, false},
		"a writer of y":           {func(s *api.State) { s.Attempts[len(s.Attempts)-1].Writes = []api.Write{{Loc: 1}} }, true},
		"an old writer":           {func(s *api.State) { s.Attempts[len(s.Attempts)-1].Ver = 0 }, true},
		"woken":                   {func(s *api.State) { s.Mem.Cells[wake] = 1 }, true},
		"another number":          {func(s *api.State) { s.Mem.Cells[wake] = 2 }, false},
		"not asleep":              {func(s *api.State) { s.Threads[0].Phase = api.GWatch }, true},
		"the second read":         {func(s *api.State) { s.Threads[0].Op.Seen = []api.Seen{{Loc: 1, Ver: 9}, {Loc: 0, Ver: 4}} }, false},
		"reads that are newer":    {func(s *api.State) { s.Threads[0].Op.Seen = []api.Seen{{Loc: 1, Ver: 9}, {Loc: 0, Ver: 5}} }, true},
		"a thread without a cell": {func(s *api.State) { s.Threads = []api.Thread{{}, s.Threads[0]} }, false},
		"no memory":               {func(s *api.State) { s.Mem = api.Mem{} }, false},
		"a writer that is lost":   {func(s *api.State) { s.Attempts[len(s.Attempts)-1].Kind = api.DLost }, false},
	} {
		s, _ := run.Play(c, conf, nil, 1000)
		s.Attempts = append(s.Attempts, write(5, 0))
		x.change(&s)
		if got := liveness.NoLostWakeups(s); got != x.want {
			t.Error(name, got)
		}
		if liveness.All(s) && !x.want {
			t.Error(name, "All")
		}
	}
}

// P33.2
func TestCompensationsOrdered(t *testing.T) {
	d := func(kind, n int) api.Attempt { return api.Attempt{Kind: kind, N: n} }
	open := func(n int) api.Attempt { return d(api.DOpen, n) }
	undo := func(n int) api.Attempt { return d(api.DUndo, n) }
	lost, raise, wait, commit, fail := d(api.DLost, 0), d(api.DRaise, 0), d(api.DWait, 0), d(api.DCommit, 0), d(api.DFail, 1)
	on := func(thread int, a api.Attempt) api.Attempt { a.Thread = thread; return a }
	for i, x := range []struct {
		l           []api.Attempt
		want, ended bool
	}{
		{nil, true, true},
		{[]api.Attempt{open(1), commit}, true, true},
		{[]api.Attempt{open(1), open(2), lost, undo(2), undo(1), open(1), commit, open(3), raise, undo(3), wait}, true, true},
		{[]api.Attempt{open(1), open(2), wait, fail, undo(2), fail, fail, undo(1), commit}, true, true},
		{[]api.Attempt{open(1), open(2), undo(2), open(3), commit}, true, true},
		{[]api.Attempt{fail, lost, lost, raise, open(1), fail, undo(1), commit}, true, true},
		{[]api.Attempt{open(1)}, true, true},
		{[]api.Attempt{undo(1)}, false, false},
		{[]api.Attempt{open(1), undo(2)}, false, false},
		{[]api.Attempt{open(1), open(2), lost, undo(1)}, false, false},
		{[]api.Attempt{open(1), commit, undo(1)}, false, false},
		{[]api.Attempt{open(1), lost, undo(1), undo(1)}, false, false},
		{[]api.Attempt{open(1), lost, commit}, false, false},
		{[]api.Attempt{open(1), wait, open(2)}, false, false},
		{[]api.Attempt{open(1), raise, lost}, false, false},
		{[]api.Attempt{open(1), raise, raise}, false, false},
		{[]api.Attempt{open(1), raise, wait}, false, false},
		{[]api.Attempt{open(1), open(2), lost, undo(2), commit}, false, false},
		{[]api.Attempt{open(1), lost}, true, false},
		{[]api.Attempt{open(1), open(2), raise, undo(2)}, true, false},
		{[]api.Attempt{on(0, open(1)), on(1, open(2)), on(0, lost), on(1, commit), on(0, undo(1))}, true, true},
		{[]api.Attempt{on(0, open(1)), on(1, undo(1))}, false, false},
		{[]api.Attempt{on(-7, open(1)), on(0, open(2)), on(-7, lost), on(0, open(3))}, true, false},
	} {
		s := api.State{Attempts: x.l}
		if got := liveness.CompensationsOrdered(s); got != x.want {
			t.Error(i, got)
		}
		s.Over = true
		if got := liveness.CompensationsOrdered(s); got != x.ended {
			t.Error(i, "ended", got)
		}
		crashed, failed := s, s
		crashed.Crash, failed.Err = true, api.ErrFuel
		if liveness.CompensationsOrdered(crashed) != x.want || liveness.CompensationsOrdered(failed) != x.want {
			t.Error(i, "cut off")
		}
	}
}

// P33.3
func TestGreedyProgress(t *testing.T) {
	l, _ := layout.Of(api.Conf{Threads: 3, Manager: api.MGreedy})
	event := func(kind, cell, n int, ok bool) api.Event {
		return api.Event{Access: api.Access{Kind: kind, Cell: cell, New: n}, Result: api.Result{Ok: ok}}
	}
	status := func(t, n int) api.Event { return event(api.AStore, layout.Status(l, t), n, true) }
	stamp := func(t, n int) api.Event { return event(api.AStore, layout.Stamp(l, t), n, true) }
	active := word.Status(3, word.Active)
	other := event(api.ALoad, 0, 0, true)
	lost := func(first, last int) api.Attempt {
		return api.Attempt{Kind: api.DLost, Thread: 1, First: first, Last: last}
	}
	older := []api.Event{stamp(1, 5), stamp(0, 3), status(0, active), status(0, word.Status(3, word.Idle)), stamp(0, 9), status(0, active), other}
	for i, x := range []struct {
		events []api.Event
		d      api.Attempt
		want   bool
	}{
		{older, lost(0, 6), true}, {older, lost(2, 2), true}, {older, lost(0, 1), false}, {older, lost(3, 6), false}, {older, lost(5, 6), false}, {older, lost(1, 2), true}, {older, lost(2, 3), true}, {older, lost(6, 6), false},
		{older, lost(0, 99), true}, {older, lost(7, 99), false}, {older, lost(99, 99), false}, {older, lost(-9, -5), false}, {older, lost(-9, 2), true}, {older, lost(3, 2), false}, {older, lost(math.MinInt, math.MaxInt), true}, {older, lost(math.MaxInt, math.MaxInt), false}, {older, lost(-1, -1), false},
		{[]api.Event{status(0, active), stamp(0, 3), stamp(1, 5)}, lost(1, 2), true}, {[]api.Event{status(0, active), stamp(0, 3), stamp(1, 3)}, lost(1, 2), false}, {[]api.Event{status(1, active), stamp(1, 5)}, lost(0, 1), false},
		{[]api.Event{status(2, word.Status(0, word.Doomed)), stamp(1, 1)}, lost(0, 1), true}, {[]api.Event{event(api.ACas, layout.Status(l, 2), active, true), stamp(1, 1)}, lost(0, 1), true}, {[]api.Event{event(api.ACas, layout.Status(l, 2), active, false), stamp(1, 1)}, lost(0, 1), false},
		{[]api.Event{event(api.AAdd, layout.Status(l, 2), active, true), stamp(1, 1)}, lost(0, 1), false}, {[]api.Event{event(api.ALoad, layout.Status(l, 2), active, true), stamp(1, 1)}, lost(0, 1), false},
		{[]api.Event{status(2, active), event(api.ACas, layout.Stamp(l, 1), 7, true)}, lost(1, 1), true}, {[]api.Event{status(2, active), event(api.ACas, layout.Stamp(l, 1), 7, false)}, lost(1, 1), false},
		{[]api.Event{status(2, active), stamp(1, 4), stamp(1, 0)}, lost(0, 2), false}, {[]api.Event{status(2, active), stamp(2, -1)}, lost(0, 1), true},
		{nil, lost(0, 0), false},
	} {
		s := api.State{Layout: l, Events: x.events, Attempts: []api.Attempt{x.d}}
		if got := liveness.GreedyProgress(s); got != x.want {
			t.Error(i, got)
		}
		if liveness.All(s) != x.want {
			t.Error(i, "All")
		}
		s.Layout.Conf.Manager = api.MKarma
		if !liveness.GreedyProgress(s) {
			t.Error(i, "another manager")
		}
		s.Layout.Conf.Manager = api.MGreedy
		s.Attempts[0].Kind = api.DFail
		if !liveness.GreedyProgress(s) {
			t.Error(i, "another kind")
		}
	}
	// A thread that does not exist has stamp 0; several attempts are judged each for itself.
	ghost := lost(0, 6)
	ghost.Thread = 8
	s := api.State{Layout: l, Events: append(slices.Clone(older), status(2, active), stamp(2, -4)), Attempts: []api.Attempt{ghost}}
	if liveness.GreedyProgress(s) {
		t.Error("stamp 0 is the oldest")
	}
	s.Attempts[0].Last = 8
	if !liveness.GreedyProgress(s) {
		t.Error("a negative stamp is older")
	}
	s = api.State{Layout: l, Events: older, Attempts: []api.Attempt{lost(2, 2), lost(0, 6)}}
	if !liveness.GreedyProgress(s) {
		t.Error("two excused attempts")
	}
	s.Attempts = append(s.Attempts, lost(5, 6))
	if liveness.GreedyProgress(s) {
		t.Error("one of three is not excused")
	}
}

// P33.5: every run, at every point of it.
func TestRuns(t *testing.T) {
	lostOnes, slept := 0, 0
	for _, text := range []string{
		"ref x;; ref y = 3;; thread (atomic x := !x + 1; atomic y := !y + !x);; thread (atomic y := !x; atomic (x := 7; !y));; thread atomic (if !y < 3 then retry else x := !x + 10);;",
		"durable ref x;; open ref o;; lock l;; lock k;; thread (atomic (open l (o := !o + 1) undo (fun u -> o := !o - 1); x := !x + 1); try atomic (open k (o := !o + 5) undo (fun u -> o := !o - 5); raise 1) with e -> print e);; thread atomic ((open l (o := !o * 2) undo (fun u -> ()); open k () undo (fun u -> (o := 1; raise 2)); x := !x + !x; if !x < 2 then retry else ()) orelse (if !x < 1 then retry else ()));;",
		"ref a;; ref b;; thread (atomic (a := !a + 1; b := !b + 1); atomic (a := !b));; thread (atomic (b := !b + 1; a := !a + 1); atomic (b := !a));; thread (atomic (!a + !b); atomic (b := 5; a := !b));;",
	} {
		for seed := range 40 {
			c, conf := load(t, text, []int{api.MGreedy, api.MTimid, api.MGreedy, api.MMixed, api.MGreedy, api.MKarma}[seed%6])
			r := rand.New(rand.NewSource(int64(seed)))
			s, _ := run.Start(c, conf)
			for n := 0; !s.Over && n < 600; n++ {
				s = run.Step(s, r.Intn(len(c.Threads)))
				if n%23 == 0 && !liveness.All(s) {
					t.Fatal(text, seed, n)
				}
			}
			if !liveness.All(s) {
				t.Fatal(text, seed)
			}
			for me, th := range s.Threads {
				if s.Over && s.Err == api.OK && th.Phase == api.GSleep {
					slept++
					for _, seen := range th.Op.Seen {
						if s.Mem.Cells[layout.Word(s.Layout, seen.Loc)] != word.Free(seen.Ver) {
							t.Fatal("a sleeping thread's read has changed", me)
						}
					}
				}
			}
			for _, d := range s.Attempts {
				if d.Kind == api.DLost && conf.Manager == api.MGreedy {
					lostOnes++
				}
			}
		}
	}
	if lostOnes < 20 || slept < 2 {
		t.Error(lostOnes, slept)
	}
}

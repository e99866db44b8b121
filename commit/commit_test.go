package commit_test

import (
	"math"
	"math/rand"
	"slices"
	"testing"

	"hallmoot/api"
	"hallmoot/commit"
	"hallmoot/layout"
	"hallmoot/mem"
	"hallmoot/wal"
	"hallmoot/word"
)

func layoutOf(manager, sectors int) api.Layout {
	l, _ := layout.Of(api.Conf{Threads: 3, Locs: 4, Manager: manager, Sectors: sectors})
	return l
}

var (
	l       = layoutOf(0, 2)
	active  = word.Status(4, word.Active)
	doomed  = word.Status(4, word.Doomed)
	passing = word.Status(4, word.Committing)
	enter   = cas(layout.Status(l, 1), active, passing)
	draw    = api.Access{Kind: api.AAdd, Cell: l.Clock, New: 1}
	leave   = store(layout.Status(l, 1), 77)
	own     = load(layout.Status(l, 1))
	lost    = api.Out{Lost: true}
	older   = api.Contender{Stamp: 1}
	takeLog = cas(l.Log, 0, 2)
	giveLog = store(l.Log, 0)
	loadEnd = load(l.End)
	sync    = api.Access{Kind: api.ASync}
)

func val(n int) api.Result         { return api.Result{Val: n} }
func ok(is bool) api.Result        { return api.Result{Ok: is} }
func free(n int) api.Result        { return val(word.Free(n)) }
func held(n int) api.Result        { return val(word.Held(n)) }
func load(cell int) api.Access     { return api.Access{Kind: api.ALoad, Cell: cell} }
func store(cell, n int) api.Access { return api.Access{Kind: api.AStore, Cell: cell, New: n} }
func cas(cell, old, new int) api.Access {
	return api.Access{Kind: api.ACas, Cell: cell, Old: old, New: new}
}

// step is an access and its result.
type step struct {
	a api.Access
	r api.Result
}

func st(a api.Access, r ...api.Result) step { return step{a, append(r, api.Result{})[0]} }

func take(loc, ver int) []step {
	return []step{st(load(layout.Word(l, loc)), free(ver)), st(cas(layout.Word(l, loc), word.Free(ver), word.Held(1)), ok(true))}
}
func give(loc, ver int) step            { return st(store(layout.Word(l, loc), word.Free(ver))) }
func readers(loc, mask int) step        { return st(load(layout.Readers(l, loc)), val(mask)) }
func waiters(loc, mask int) step        { return st(load(layout.Waiters(l, loc)), val(mask)) }
func looked(loc int, r api.Result) step { return st(load(layout.Word(l, loc)), r) }
func put(loc, n int) step               { return st(store(layout.Val(l, loc), n)) }

// other is the conflict with a thread that has a status and a timestamp.
func other(k, status, stamp int) []step {
	return []step{st(load(layout.Status(l, k)), val(status)), st(load(layout.Stamp(l, k)), val(stamp)), st(load(layout.Karma(l, k)))}
}
func doom(k int, is bool) step { return st(cas(layout.Status(l, k), active, doomed), ok(is)) }

// steps joins steps and lists of them.
func steps(parts ...any) []step {
	var out []step
	for _, p := range parts {
		switch x := p.(type) {
		case step:
			out = append(out, x)
		case []step:
			out = append(out, x...)
		}
	}
	return out
}

// follow checks that an operation performs exactly some accesses, given their results, and then has an outcome.
func follow(t *testing.T, name string, l api.Layout, op api.Op, want []step, out api.Out) {
	t.Helper()
	var log []api.Result
	for i, s := range want {
		a, _, done := commit.Next(l, 1, op, log)
		if done || a != s.a {
			t.Errorf("%s: access %d is %v (%v), want %v", name, i, a, done, s.a)
			return
		}
		log = append(log, s.r)
	}
	for _, more := range [][]api.Result{log, append(slices.Clip(log), val(9))} {
		if a, got, done := commit.Next(l, 1, op, more); !done || got != out || a != (api.Access{}) {
			t.Errorf("%s: %v %v %v, want %v", name, a, got, done, out)
		}
	}
}

func writes(pairs ...int) []api.Write {
	var out []api.Write
	for i := 0; i < len(pairs); i += 2 {
		out = append(out, api.Write{Loc: pairs[i], Val: pairs[i+1]})
	}
	return out
}

// P24.1, P24.2 without the log: an attempt that read location 3 at version 2 and writes 8 to location 0 and 9 to location 2.
func TestCommit(t *testing.T) {
	op := api.Op{Kind: api.PCommit, Try: 4, B: 77, Mine: older, Seen: []api.Seen{{Loc: 3, Ver: 2}}, Writes: writes(0, 8, 2, 9)}
	locked := steps(take(0, 5), take(2, 6))
	unread := steps(readers(0, 0), readers(2, 2))
	given := steps(give(0, 5), give(2, 6))
	entered := steps(locked, unread, st(enter, ok(true)), st(draw, val(9)))
	end := func(mask0, mask2 int, woken ...step) []step {
		return steps(put(0, 8), put(2, 9), give(0, 10), give(2, 10), waiters(0, mask0), waiters(2, mask2), woken, st(leave))
	}
	won := api.Out{Is: true, Ver: 10}
	for name, x := range map[string]struct {
		manager int
		want    []step
		out     api.Out
	}{
		"plain":                             {0, steps(entered, looked(3, free(2)), end(0, 2)), won},
		"a lock changes meanwhile":          {0, steps(looked(0, free(4)), st(cas(layout.Word(l, 0), 8, 3), ok(false)), entered, looked(3, free(2)), end(0, 0)), won},
		"a lock of owner -1":                {0, steps(looked(0, held(-1)), entered, looked(3, free(2)), end(0, 0)), won},
		"a lock of owner -2":                {0, steps(looked(0, held(-2)), st(own, val(active)), st(load(-1), val(0)), entered, looked(3, free(2)), end(0, 0)), won},
		"a lock of an idle thread":          {0, steps(take(0, 5), looked(2, held(0)), st(own, val(active)), st(load(layout.Status(l, 0)), val(0)), take(2, 6), unread, st(enter, ok(true)), st(draw, val(9)), looked(3, free(2)), end(0, 0)), won},
		"a lock, doomed myself":             {0, steps(take(0, 5), looked(2, held(0)), st(own, val(doomed)), give(0, 5)), lost},
		"a lock, to yield":                  {0, steps(take(0, 5), looked(2, held(0)), st(own, val(active)), other(0, active, 9), give(0, 5)), lost},
		"the first lock, to yield":          {0, steps(looked(0, held(0)), st(own, val(active)), other(0, active, 9)), lost},
		"a lock, to doom":                   {api.MKarma, steps(take(0, 5), looked(2, held(0)), st(own, val(active)), other(0, active, 9), doom(0, true), take(2, 6), unread, st(enter, ok(true)), st(draw, val(9)), looked(3, free(2)), end(0, 0)), won},
		"a lock of a passing one":           {api.MKarma, steps(take(0, 5), looked(2, held(0)), st(own, val(active)), other(0, passing, 9), take(2, 6), unread, st(enter, ok(true)), st(draw, val(9)), looked(3, free(2)), end(0, 0)), won},
		"a lock of no thread":               {0, steps(looked(0, held(50)), st(own, val(active)), st(load(-1), val(active)), st(load(-1)), st(load(-1))), lost},
		"a reader, to yield":                {0, steps(locked, readers(0, 4), other(2, active, 9), given), lost},
		"readers, to doom":                  {api.MKarma, steps(locked, readers(0, 7), other(0, active, 9), doom(0, true), other(2, doomed, 9), readers(2, 1), other(0, active, 9), doom(0, false), st(enter, ok(true)), st(draw, val(9)), looked(3, free(2)), end(0, 0)), won},
		"a reader that has passed":          {api.MKarma, steps(locked, readers(0, 4), other(2, passing, 9), readers(2, 0), st(enter, ok(true)), st(draw, val(9)), looked(3, free(2)), end(0, 0)), won},
		"a reader that is idle":             {0, steps(locked, readers(0, 4), st(load(layout.Status(l, 2)), val(0)), readers(2, 0), st(enter, ok(true)), st(draw, val(9)), looked(3, free(2)), end(0, 0)), won},
		"a reader that is no thread":        {0, steps(locked, readers(0, 8), st(load(-1), val(active)), st(load(-1)), st(load(-1)), given), lost},
		"doomed before the end":             {0, steps(locked, unread, st(enter, ok(false)), given), lost},
		"a read changed":                    {0, steps(entered, looked(3, free(3)), given), lost},
		"a read locked by nobody":           {0, steps(entered, looked(3, held(-1)), st(load(-1), val(active)), st(load(-1)), st(load(-1)), given), lost},
		"a read locked, to yield":           {0, steps(entered, looked(3, held(2)), other(2, active, 9), given), lost},
		"a read locked, to doom":            {api.MKarma, steps(entered, looked(3, held(2)), other(2, active, 9), doom(2, true), looked(3, free(2)), end(0, 0)), won},
		"a read locked, to wait":            {api.MKarma, steps(entered, looked(3, held(2)), other(2, active, 9), doom(2, false), looked(3, held(2)), st(load(layout.Status(l, 2)), val(0)), looked(3, free(2)), end(0, 0)), won},
		"a read locked, passed":             {api.MKarma, steps(entered, looked(3, held(2)), other(2, passing, 9), given), lost},
		"a read locked by me, not acquired": {0, steps(entered, looked(3, held(1)), given), lost},
		"waiters":                           {0, steps(entered, looked(3, free(2)), put(0, 8), put(2, 9), give(0, 10), give(2, 10), waiters(0, 3), st(store(layout.Wake(l, 0), 1)), waiters(2, 13), st(store(layout.Wake(l, 0), 1)), st(store(layout.Wake(l, 2), 1)), st(store(-1, 1)), st(leave)), won},
	} {
		l := layoutOf(x.manager, 2)
		o := op
		if x.manager == api.MKarma {
			o.Mine.Karma = 5
		}
		follow(t, name, l, o, x.want, x.out)
	}
	if n := len(steps(entered, looked(3, free(2)), end(0, 2))); n != 6*2+1+3 {
		t.Error("the number of accesses", n)
	}
	op = api.Op{Kind: api.PCommit, Try: 4, B: 77, Seen: op.Seen}
	follow(t, "no writes", l, op, steps(st(own, val(active)), st(leave)), api.Out{Is: true})
	follow(t, "no writes, committing", l, op, steps(st(own, val(passing)), st(leave)), api.Out{Is: true})
	follow(t, "no writes, doomed", l, op, steps(st(own, val(doomed))), lost)
}

// Reads of written locations, and locations that are written twice.
func TestOwnLocks(t *testing.T) {
	op := api.Op{Kind: api.PCommit, Try: 4, B: 77, Mine: older, Seen: []api.Seen{{Loc: 0, Ver: 5}}, Writes: writes(0, 8)}
	entered := steps(take(0, 5), readers(0, 0), st(enter, ok(true)), st(draw, val(9)))
	end := steps(put(0, 8), give(0, 10), waiters(0, 0), st(leave))
	follow(t, "own", l, op, steps(entered, looked(0, held(1)), end), api.Out{Is: true, Ver: 10})
	op.Seen[0].Ver = 4
	follow(t, "own, another version", l, op, steps(entered, looked(0, held(1)), give(0, 5)), lost)
	follow(t, "free with the right version", l, op, steps(entered, looked(0, free(4)), end), api.Out{Is: true, Ver: 10})
	op.Writes = writes(0, 8, 0, 9)
	self := steps(take(0, 5), looked(0, held(1)), st(own, val(active)))
	follow(t, "twice", l, op, steps(self, other(1, active, 1), give(0, 5)), lost)
	op.Seen[0].Ver = 5
	follow(t, "twice, by an odd memory", l, op, steps(take(0, 5), take(0, 7), readers(0, 0), readers(0, 0), st(enter, ok(true)), st(draw, val(9)), looked(0, held(1)), put(0, 8), put(0, 9), give(0, 10), give(0, 10), waiters(0, 0), waiters(0, 0), st(leave)), api.Out{Is: true, Ver: 10})
	follow(t, "twice, and lost", l, op, steps(take(0, 5), take(0, 7), readers(0, 0), readers(0, 0), st(enter, ok(false)), give(0, 5), give(0, 7)), lost)
}

// The log: durable writes only, in a record behind the end.
func TestLog(t *testing.T) {
	op := api.Op{Kind: api.PCommit, Try: 4, B: 77, Mine: older, Seen: []api.Seen{{Loc: 3, Ver: 2}}, Writes: writes(0, 8, 1, 9), Durable: []bool{false, true}}
	locked := steps(take(0, 5), take(1, 6), readers(0, 0), readers(1, 0), st(enter, ok(true)), st(takeLog, ok(false)), st(takeLog, ok(true)), st(draw, val(9)))
	record := wal.Record(api.Entry{Ver: 10, Writes: writes(1, 9)})
	rest := steps(put(0, 8), put(1, 9), give(0, 10), give(1, 10), waiters(0, 0), waiters(1, 0), st(leave))
	valid := looked(3, free(2))
	disk := func(at int, bytes string) step { return st(api.Access{Kind: api.ADisk, Cell: at, Bytes: bytes}) }
	won := api.Out{Is: true, Ver: 10}
	follow(t, "at the start", l, op, steps(locked, valid, st(loadEnd, val(0)), disk(0, record[0]), st(sync), st(store(l.End, 1)), st(giveLog), rest), won)
	follow(t, "at the end", l, op, steps(locked, valid, st(loadEnd, val(1)), disk(1, record[0]), st(sync), st(store(l.End, 2)), st(giveLog), rest), won)
	follow(t, "full", l, op, steps(locked, valid, st(loadEnd, val(2))), api.Out{Err: api.ErrFull})
	follow(t, "a negative end", l, op, steps(locked, valid, st(loadEnd, val(-1))), api.Out{Err: api.ErrFull})
	follow(t, "lost", l, op, steps(locked, looked(3, free(3)), give(0, 5), give(1, 6), st(giveLog)), lost)
	op.Durable = []bool{true, false, true, true}
	record = wal.Record(api.Entry{Ver: 10, Writes: writes(0, 8)})
	follow(t, "the first one", l, op, steps(locked, valid, st(loadEnd, val(0)), disk(0, record[0]), st(sync), st(store(l.End, 1)), st(giveLog), rest), won)
	op.Durable = []bool{true}
	follow(t, "a short list", l, op, steps(locked, valid, st(loadEnd, val(0)), disk(0, record[0]), st(sync), st(store(l.End, 1)), st(giveLog), rest), won)
	op.Durable = []bool{true, true}
	op.Writes = writes(0, math.MinInt, 1, math.MaxInt, 2, math.MinInt)
	op.Durable = []bool{true, true, true}
	record = wal.Record(api.Entry{Ver: 10, Writes: op.Writes})
	if len(record) != 2 {
		t.Fatal(len(record))
	}
	locked = steps(take(0, 5), take(1, 6), take(2, 6), readers(0, 0), readers(1, 0), readers(2, 0), st(enter, ok(true)), st(takeLog, ok(true)), st(draw, val(9)))
	rest = steps(put(0, math.MinInt), put(1, math.MaxInt), put(2, math.MinInt), give(0, 10), give(1, 10), give(2, 10), waiters(0, 0), waiters(1, 0), waiters(2, 0), st(leave))
	follow(t, "two sectors", l, op, steps(locked, valid, st(loadEnd, val(0)), disk(0, record[0]), disk(1, record[1]), st(sync), st(store(l.End, 2)), st(giveLog), rest), won)
	follow(t, "two sectors for one", l, op, steps(locked, valid, st(loadEnd, val(1))), api.Out{Err: api.ErrFull})
	follow(t, "no sectors", layoutOf(0, 0), op, steps(locked, valid, st(loadEnd, val(0))), api.Out{Err: api.ErrFull})
}

// Visible attempts hide their reads at the end; P24.3.
func TestVisible(t *testing.T) {
	l := layoutOf(api.MGreedy, 0)
	seen := []api.Seen{{Loc: 3, Ver: 2}, {Loc: 0, Ver: 5}}
	hidden := steps(readers(3, 6), st(cas(layout.Readers(l, 3), 6, 4), ok(true)), readers(0, 4))
	op := api.Op{Kind: api.PCommit, Try: 4, B: 77, Mine: older, Seen: seen, Writes: writes(0, 8)}
	follow(t, "commit", l, op, steps(take(0, 5), readers(0, 2), st(enter, ok(true)), st(draw, val(9)), looked(3, free(2)), looked(0, held(1)), put(0, 8), give(0, 10), waiters(0, 0), hidden, st(leave)), api.Out{Is: true, Ver: 10})
	op.Writes = nil
	follow(t, "no writes", l, op, steps(st(own, val(active)), hidden, st(leave)), api.Out{Is: true})
	follow(t, "no writes, lost", l, op, steps(st(own, val(doomed))), lost)
	op = api.Op{Kind: api.PAbort, A: 33, B: 77, Seen: seen, Writes: writes(1, 1)}
	karma := st(store(layout.Karma(l, 1), 33))
	follow(t, "abort", l, op, steps(hidden, karma, st(leave)), api.Out{Is: true})
	follow(t, "invisible abort", layoutOf(api.MKarma, 0), op, steps(karma, st(leave)), api.Out{Is: true})
	follow(t, "mixed abort", layoutOf(api.MMixed, 0), op, steps(karma, st(leave)), api.Out{Is: true})
	op.Mine.Aborts = 2
	follow(t, "visible mixed abort", layoutOf(api.MMixed, 0), op, steps(hidden, karma, st(leave)), api.Out{Is: true})
}

// P24.4
func TestErrors(t *testing.T) {
	for i, x := range []struct {
		me int
		op api.Op
	}{
		{0, api.Op{}}, {0, api.Op{Kind: api.PRead}}, {0, api.Op{Kind: 9}}, {3, api.Op{Kind: api.PCommit}}, {-1, api.Op{Kind: api.PAbort}},
		{0, api.Op{Kind: api.PCommit, Writes: writes(4, 1)}}, {0, api.Op{Kind: api.PCommit, Writes: writes(0, 1, -1, 1)}}, {0, api.Op{Kind: api.PCommit, Seen: []api.Seen{{Loc: 4}}}}, {0, api.Op{Kind: api.PAbort, Seen: []api.Seen{{Loc: 0}, {Loc: -1}}}}, {0, api.Op{Kind: api.PAbort, Writes: writes(4, 1)}},
	} {
		if a, out, done := commit.Next(l, x.me, x.op, []api.Result{val(1)}); a != (api.Access{}) || out != (api.Out{Err: api.ErrArg}) || !done {
			t.Error(i, a, out, done)
		}
	}
}

// P24.5: interleaved increments of two counters are serializable in the order of versions, and the end of all operations leaves no lock.
func TestInterleaving(t *testing.T) {
	for seed := range 300 {
		r := rand.New(rand.NewSource(int64(seed)))
		l := layoutOf(seed%4, 0)
		m := api.Mem{Cells: make([]int, l.Size)}
		do := func(a api.Access) api.Result {
			var res api.Result
			m, res, _ = mem.Do(m, a)
			return res
		}
		type thread struct {
			op  api.Op
			log []api.Result
		}
		threads := make([]thread, 3)
		commits := map[int]api.Op{}
		begin := func(me int) {
			th := &threads[me]
			try := th.op.Try + 1
			th.op = api.Op{Kind: api.PCommit, Try: try, Mine: api.Contender{Stamp: me + 1, Aborts: try % 5}}
			do(store(layout.Status(l, me), word.Status(try, word.Active)))
			do(store(layout.Stamp(l, me), me+1))
			for loc := range 4 {
				if w := m.Cells[layout.Word(l, loc)]; !word.Locked(w) && r.Intn(2) == 0 {
					n := m.Cells[layout.Val(l, loc)]
					th.op.Seen = append(th.op.Seen, api.Seen{Loc: loc, Ver: word.Ver(w), Val: n})
					if r.Intn(2) == 0 {
						th.op.Writes = append(th.op.Writes, api.Write{Loc: loc, Val: n + 1})
					}
				}
			}
			th.log = nil
		}
		for me := range threads {
			begin(me)
		}
		for round := 0; round < 600; round++ {
			me := r.Intn(3)
			th := &threads[me]
			if round > 500 && th.log == nil {
				continue
			}
			a, _, _ := commit.Next(l, me, th.op, th.log)
			th.log = append(th.log, do(a))
			_, out, done := commit.Next(l, me, th.op, th.log)
			if !done {
				continue
			}
			if out.Is && len(th.op.Writes) > 0 {
				if _, twice := commits[out.Ver]; twice {
					t.Fatal("a version twice")
				}
				commits[out.Ver] = th.op
			}
			begin(me)
		}
		state := [4]api.Seen{}
		for ver := 1; ver <= m.Cells[l.Clock]; ver++ {
			op, found := commits[ver]
			if !found {
				continue
			}
			for _, s := range op.Seen {
				if state[s.Loc].Ver != s.Ver || state[s.Loc].Val != s.Val {
					t.Fatal("not serializable", seed, ver)
				}
			}
			for _, w := range op.Writes {
				state[w.Loc] = api.Seen{Ver: ver, Val: w.Val}
			}
		}
		if len(commits) < 5 {
			t.Fatal("too few commits", len(commits))
		}
		idle := !slices.ContainsFunc(threads, func(th thread) bool { return th.log != nil })
		for loc := range 4 {
			if w := m.Cells[layout.Word(l, loc)]; idle && (w != word.Free(state[loc].Ver) || m.Cells[layout.Val(l, loc)] != state[loc].Val) {
				t.Fatal("the memory at the end", seed)
			}
		}
	}
}

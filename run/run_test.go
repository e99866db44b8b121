package run_test

import (
	"math/rand"
	"reflect"
	"slices"
	"testing"

	"hallmoot/api"
	"hallmoot/code"
	"hallmoot/disk"
	"hallmoot/durable"
	"hallmoot/layout"
	"hallmoot/mem"
	"hallmoot/parse"
	"hallmoot/run"
	"hallmoot/script"
	"hallmoot/tx"
	"hallmoot/wal"
	"hallmoot/word"
)

func compile(t *testing.T, text string) api.Code {
	t.Helper()
	p, err := parse.Of(text)
	if err != api.OK {
		t.Fatalf("%q: error %d", text, err)
	}
	c, err := code.Of(p)
	if err != api.OK || !code.Right(c) {
		t.Fatalf("%q: error %d", text, err)
	}
	return c
}

func confOf(c api.Code, manager int) api.Conf {
	conf, _ := layout.For(c, 16, manager)
	return conf
}

func picks(t *testing.T, text string) []api.Pick {
	t.Helper()
	l, err := script.Parse(text)
	if err != api.OK {
		t.Fatal(text, err)
	}
	return l
}

func play(t *testing.T, text, decisions string, most int) api.State {
	t.Helper()
	c := compile(t, text)
	s, err := run.Play(c, confOf(c, api.MTimid), picks(t, decisions), most)
	if err != api.OK {
		t.Fatalf("%q: error %d", text, err)
	}
	return s
}

const counters = "ref x = 4;; thread atomic x := !x + 1;; thread atomic x := !x + 1;;"

// P28.1
func TestStart(t *testing.T) {
	c := compile(t, "ref x = 4;; lock l;; thread atomic x := 1;; thread raise 5;; thread print 3;;")
	conf := confOf(c, api.MKarma)
	s, err := run.Start(c, conf)
	if err != api.OK {
		t.Fatal(err)
	}
	l, _ := layout.Of(conf)
	m, _, _ := mem.All(api.Mem{Cells: make([]int, l.Size)}, layout.Init(l, c.Locs))
	d, _ := disk.New(16)
	want := api.State{Code: c, Layout: l, Mem: m, Disk: d}
	for me := range 3 {
		th, _ := tx.Start(c, l, me)
		want.Threads = append(want.Threads, th)
	}
	if !reflect.DeepEqual(s, want) {
		t.Error(s)
	}
	if !slices.Equal(run.Over(s), []bool{false, true, true}) || !slices.Equal(run.Locs(s), []int{4}) {
		t.Error(run.Over(s), run.Locs(s))
	}
	for i, change := range []func(*api.Code, *api.Conf){
		func(c *api.Code, f *api.Conf) { c.Threads = nil }, func(c *api.Code, f *api.Conf) { f.Threads = 2 }, func(c *api.Code, f *api.Conf) { f.Locs = 2 }, func(c *api.Code, f *api.Conf) { f.Locks = 0 },
		func(c *api.Code, f *api.Conf) { f.Manager = 4 }, func(c *api.Code, f *api.Conf) { f.Sectors = -1 }, func(c *api.Code, f *api.Conf) { c.Open = nil },
	} {
		c, conf := c, conf
		change(&c, &conf)
		if s, err := run.Start(c, conf); err != api.ErrArg || !reflect.DeepEqual(s, api.State{}) {
			t.Error(i, err)
		}
		if s, err := run.Play(c, conf, nil, 5); err != api.ErrArg || !reflect.DeepEqual(s, api.State{}) {
			t.Error(i, err)
		}
	}
	// A run that is over at once, by itself and by an error.
	s = play(t, "thread 1;; thread raise 2;;", "0 1 !", 100)
	if !s.Over || s.Crash || s.Err != api.OK || len(s.Events) != 0 || s.Threads[1].Kind != api.RExn || s.Threads[1].N != 2 {
		t.Error(s.Over, s.Err)
	}
	s = play(t, "thread 1;; thread let rec f n = f n in f 1;; thread atomic ();;", "2 2 !", 100)
	if !s.Over || s.Crash || s.Err != api.ErrFuel || len(s.Events) != 0 || !reflect.DeepEqual(s.Threads[1], api.Thread{}) || s.Threads[0].Phase != api.GOver {
		t.Error(s.Over, s.Err)
	}
	if got := run.Step(s, 2); !reflect.DeepEqual(got, s) {
		t.Error("a step after the end")
	}
}

// P28.2
func TestStep(t *testing.T) {
	c := compile(t, counters)
	s, _ := run.Start(c, confOf(c, api.MTimid))
	for _, thread := range []int{-1, 2, 99} {
		if got := run.Step(s, thread); !reflect.DeepEqual(got, s) {
			t.Error(thread)
		}
	}
	before := s
	one := run.Step(s, 0)
	two := run.Step(s, 1)
	first := api.Event{Access: api.Access{Kind: api.AAdd, Cell: s.Layout.Stamps, New: 1}, Result: api.Result{Val: 1, Ok: true}}
	if !reflect.DeepEqual(one.Events, []api.Event{first}) || !slices.Equal(one.Threads[0].Steps, []int{0}) || !reflect.DeepEqual(one.Threads[0].Log, []api.Result{first.Result}) || one.Mem.Cells[s.Layout.Stamps] != 2 {
		t.Error(one.Events)
	}
	if !reflect.DeepEqual(s, before) || two.Events[0].Thread != 1 || one.Events[0].Thread != 0 {
		t.Error("states share memory")
	}
	// Branches of one state do not disturb each other.
	a, b := one, one
	for range 8 {
		a, b = run.Step(a, 0), run.Step(b, 1)
	}
	if a.Events[4].Thread != 0 || b.Events[4].Thread != 1 || len(one.Events) != 1 {
		t.Error("branches share memory")
	}
	for !a.Over {
		x, y := run.Step(a, 0), run.Step(a, 1)
		k := len(a.Events)
		if len(x.Events) > k && x.Events[k].Thread != 0 || len(y.Events) > k && y.Events[k].Thread != 1 {
			t.Fatal("branches share events", k)
		}
		run.Step(y, 0)
		for me, th := range x.Threads {
			for i, at := range th.Steps {
				if at >= len(x.Events) || x.Events[at].Thread != me || x.Events[at].Result != th.Log[i] {
					t.Fatal("branches share logs", k)
				}
			}
		}
		a = run.Step(x, 1)
	}
	played := play(t, counters, "0x9", 1000)
	if len(a.Attempts) < 2 || !slices.Equal(run.Locs(a), []int{6}) || !slices.Equal(run.Locs(played), []int{6}) {
		t.Error(a.Attempts)
	}
	if a.Threads[0].Phase == api.GOver && !a.Over {
		t.Error("a run that goes on")
	}
	done := run.Step(one, 0)
	for done.Threads[0].Phase != api.GOver {
		done = run.Step(done, 0)
	}
	if got := run.Step(done, 0); !reflect.DeepEqual(got, done) || done.Over {
		t.Error("a step of a thread that has terminated")
	}
	// An access that fails ends the run without another change.
	broken := one
	broken.Mem = api.Mem{}
	got := run.Step(broken, 0)
	if !got.Over || got.Err != api.ErrAddress || len(got.Events) != 1 || !reflect.DeepEqual(got.Threads, broken.Threads) {
		t.Error(got.Over, got.Err)
	}
	// An error of Turn ends the run; the thread has its log.
	c = compile(t, "ref x;; thread atomic (x := !x + 1; let rec f n = f n in f 1);;")
	s, _ = run.Start(c, confOf(c, api.MTimid))
	for !s.Over {
		before, s = s, run.Step(s, 0)
	}
	if s.Err != api.ErrFuel || s.Crash || s.Threads[0].Phase != api.GRead || len(s.Threads[0].Log) != len(before.Threads[0].Log)+1 || len(s.Events) != len(before.Events)+1 || len(s.Attempts) != 0 {
		t.Error(s.Err, s.Threads[0])
	}
}

// P28.3
func TestCrash(t *testing.T) {
	c := compile(t, "durable ref x;; thread atomic x := 1;;")
	s, _ := run.Start(c, confOf(c, api.MTimid))
	for len(s.Disk.Was) == 0 {
		s = run.Step(s, 0)
	}
	crashed := run.Crash(s, []int{3})
	want := s
	want.Over, want.Crash, want.Disk = true, true, disk.Crash(s.Disk, []int{3})
	if !reflect.DeepEqual(crashed, want) || s.Over {
		t.Error(crashed.Over, crashed.Disk)
	}
	if got := run.Crash(crashed, nil); !reflect.DeepEqual(got, crashed) {
		t.Error("a second crash")
	}
	if got := run.Step(crashed, 0); !reflect.DeepEqual(got, crashed) {
		t.Error("a step after a crash")
	}
}

// P28.4
func TestPlay(t *testing.T) {
	c := compile(t, counters)
	conf := confOf(c, api.MTimid)
	if s, err := run.Play(c, conf, nil, api.MaxStep); err != api.OK || s.Err != api.OK {
		t.Error("the greatest limit", err)
	}
	for _, most := range []int{-1, api.MaxStep + 1} {
		if s, err := run.Play(c, conf, nil, most); err != api.ErrArg || !reflect.DeepEqual(s, api.State{}) {
			t.Error(most, err)
		}
	}
	s := play(t, "ref x;; thread atomic x := 1;;", "", 1000)
	if !s.Over || s.Crash || s.Err != api.OK || !slices.Equal(run.Locs(s), []int{1}) || s.Mem.Cells[layout.Word(s.Layout, 0)] != word.Free(1) || len(s.Attempts) != 1 {
		t.Error(s.Attempts)
	}
	full := play(t, counters, "", 1000)
	total := len(full.Events)
	for most := range total + 2 {
		s := play(t, counters, "", most)
		if most >= total && !reflect.DeepEqual(s, full) {
			t.Error("enough events")
		}
		if most < total && (!s.Over || s.Err != api.ErrFuel || len(s.Events) != most || !slices.Equal(s.Events, full.Events[:most])) {
			t.Error(most, s.Err, len(s.Events))
		}
	}
	threads := func(s api.State) []int {
		var l []int
		for _, e := range s.Events {
			l = append(l, e.Thread)
		}
		return l
	}
	if got := threads(play(t, counters, "", 5)); !slices.Equal(got, []int{0, 1, 0, 1, 0}) {
		t.Error(got)
	}
	// Stalls and picks of terminated threads; after the script the turns begin with the first thread.
	if got := threads(play(t, counters, "1x3 0~2 0 1 0 1", 9)); !slices.Equal(got, []int{1, 1, 1, 1, 0, 1, 0, 1, 0}) {
		t.Error(got)
	}
	if got := threads(play(t, "ref x;; thread 5;; thread atomic !x;;", "0x4 1 0 1", 4)); !slices.Equal(got, []int{1, 1, 1, 1}) {
		t.Error(got)
	}
	s = play(t, counters, "0x4 !3 1x9", 1000)
	if !s.Over || !s.Crash || s.Err != api.OK || len(s.Events) != 4 {
		t.Error("a crash", s.Err, len(s.Events))
	}
	// The limit comes before the decision, also before a crash.
	s = play(t, counters, "0x4 !3", 4)
	if !s.Over || s.Crash || s.Err != api.ErrFuel {
		t.Error("the limit before a crash")
	}
}

// Sleeping threads: the run ends when nobody can wake them, and not before.
func TestSleep(t *testing.T) {
	text := "ref x;; ref y;; thread atomic (if !x < 2 then retry else y := 1);; thread (atomic (x := 1); atomic (x := 2));;"
	s := play(t, text, "0x40", 1000)
	if !s.Over || s.Err != api.OK || !slices.Equal(run.Locs(s), []int{2, 1}) || !slices.Equal(run.Over(s), []bool{true, true}) {
		t.Error(run.Locs(s), s.Err)
	}
	s = play(t, "ref x;; thread atomic (if !x < 2 then retry else ());; thread atomic (x := 1);;", "", 1000)
	if !s.Over || s.Err != api.OK || !slices.Equal(run.Over(s), []bool{false, true}) || s.Threads[0].Phase != api.GSleep || s.Threads[0].Op.Seen[0] != (api.Seen{Loc: 0, Ver: 1, Val: 1}) {
		t.Error(s.Threads[0])
	}
	s = play(t, "ref x;; thread atomic retry;;", "", 1000)
	if !s.Over || s.Err != api.OK || s.Threads[0].Phase != api.GSleep {
		t.Error("waiting for nothing")
	}
}

// A log that does not fit ends the run with ErrFull.
func TestFull(t *testing.T) {
	c := compile(t, "durable ref x;; thread (atomic x := 1; atomic x := 2; atomic x := 3);;")
	conf, _ := layout.For(c, 2, api.MTimid)
	s, err := run.Play(c, conf, nil, 1000)
	if err != api.OK || !s.Over || s.Err != api.ErrFull || s.Crash || len(s.Attempts) != 2 || !slices.Equal(run.Locs(s), []int{2}) {
		t.Error(err, s.Err, s.Attempts)
	}
	if entries, end := wal.Recover(s.Disk.Sectors); len(entries) != 2 || end != 2 {
		t.Error(entries)
	}
}

// P28.6, for every manager and random scripts.
func TestConsequences(t *testing.T) {
	text := "durable ref x;; ref y;; array a 2;; open ref o;; lock l;; check !x < 100;; let inc = fun r -> r := !r + 1;; " +
		"thread (atomic (inc x; inc y); atomic (open l (o := !o + 1) undo (fun u -> o := !o - 1); if !y < 3 then retry else inc a.[0]));; " +
		"thread (atomic (inc y; inc x); try atomic (open l (o := !o + 10) undo (fun u -> o := !o - 10); x := 200) with e -> print e);; " +
		"thread (atomic ((if !x < 2 then retry else inc a.[1]) orelse (inc a.[0]; inc x)); atomic inc y);;"
	c := compile(t, text)
	ended := 0
	for seed := range 80 {
		r := rand.New(rand.NewSource(int64(seed)))
		var l []api.Pick
		for range r.Intn(300) {
			l = append(l, api.Pick{Kind: api.PStep, A: r.Intn(3)})
		}
		s, err := run.Play(c, confOf(c, seed%4), l, 3000)
		if err != api.OK || !s.Over || s.Err != api.OK && len(s.Events) < 3000 {
			t.Fatal(seed, err, s.Err)
		}
		m, _, _ := mem.All(api.Mem{Cells: make([]int, s.Layout.Size)}, layout.Init(s.Layout, c.Locs))
		d, _ := disk.New(16)
		for i, e := range s.Events {
			var res api.Result
			m, d, res, err = durable.Do(m, d, e.Access)
			if err != api.OK || res != e.Result {
				t.Fatal("event", i, res, err)
			}
		}
		if !mem.Same(m, s.Mem) || !disk.Same(d, s.Disk) {
			t.Fatal("the replayed memory")
		}
		if s.Err != api.OK {
			continue // an older thread that waits for an abstract lock can doom a compensation again and again
		}
		ended++
		for loc := range c.Locs {
			if word.Locked(s.Mem.Cells[layout.Word(s.Layout, loc)]) {
				t.Error("a lock is held")
			}
		}
		if s.Mem.Cells[layout.Lock(s.Layout, 0)] != 0 || s.Mem.Cells[s.Layout.Log] != 0 {
			t.Error("an abstract lock or the log is held")
		}
		for me, th := range s.Threads {
			if word.Kind(s.Mem.Cells[layout.Status(s.Layout, me)]) == word.Committing {
				t.Error("a thread is committing")
			}
			if th.Phase == api.GSleep {
				for _, seen := range th.Op.Seen {
					if s.Mem.Cells[layout.Word(s.Layout, seen.Loc)] != word.Free(seen.Ver) {
						t.Error("a sleeping thread's read has changed")
					}
				}
			}
		}
		if got := run.Locs(s); got[4] != 1 || got[0] < 2 || got[1] < 3 {
			t.Error(got)
		}
	}
	if ended < 60 {
		t.Error("few runs end by themselves:", ended)
	}
}

package crash_test

import (
	"math/rand"
	"slices"
	"strings"
	"testing"

	"hallmoot/api"
	"hallmoot/code"
	"hallmoot/crash"
	"hallmoot/disk"
	"hallmoot/durable"
	"hallmoot/layout"
	"hallmoot/parse"
	"hallmoot/run"
	"hallmoot/wal"
)

func load(t *testing.T, text string, manager, sectors int) (api.Code, api.Conf) {
	t.Helper()
	p, err := parse.Of(text)
	if err != api.OK {
		t.Fatal(text, err)
	}
	c, err := code.Of(p)
	if err != api.OK {
		t.Fatal(text, err)
	}
	conf, _ := layout.For(c, sectors, manager)
	return c, conf
}

func entry(ver int, pairs ...int) api.Entry {
	e := api.Entry{Ver: ver}
	for i := 0; i < len(pairs); i += 2 {
		e.Writes = append(e.Writes, api.Write{Loc: pairs[i], Val: pairs[i+1]})
	}
	return e
}

func same(a, b []api.Entry) bool {
	return slices.EqualFunc(a, b, func(x, y api.Entry) bool { return x.Ver == y.Ver && slices.Equal(x.Writes, y.Writes) })
}

// P34.1
func TestLogged(t *testing.T) {
	one, two := wal.Record(entry(1, 0, 5))[0], wal.Record(entry(2, 0, 6))[0]
	write := func(at int, b string) api.Event {
		return api.Event{Access: api.Access{Kind: api.ADisk, Cell: at, Bytes: b}}
	}
	sync := api.Event{Access: api.Access{Kind: api.ASync}}
	for i, x := range []struct {
		events []api.Event
		want   []api.Entry
	}{
		{nil, nil},
		{[]api.Event{write(0, one)}, []api.Entry{entry(1, 0, 5)}},
		{[]api.Event{write(0, one), sync, write(1, two)}, []api.Entry{entry(1, 0, 5), entry(2, 0, 6)}},
		{[]api.Event{write(1, two), write(0, one)}, []api.Entry{entry(1, 0, 5), entry(2, 0, 6)}},
		{[]api.Event{write(0, one), write(1, two), write(0, two)}, []api.Entry{entry(2, 0, 6)}},
		{[]api.Event{write(1, one)}, nil},
		{[]api.Event{write(0, one), write(2, two), write(-1, two), write(0, "short"), write(1, "")}, []api.Entry{entry(1, 0, 5)}},
		{[]api.Event{{Access: api.Access{Kind: api.AStore, Bytes: one}}}, nil},
	} {
		s := api.State{Layout: api.Layout{Conf: api.Conf{Sectors: 2}}, Events: x.events}
		if got := crash.Logged(s); !same(got, x.want) {
			t.Error(i, got)
		}
		s.Layout.Conf.Sectors = -1
		if got := crash.Logged(s); len(got) != 0 {
			t.Error(i, got)
		}
	}
}

// P34.2
func TestReported(t *testing.T) {
	w := func(ver int, pairs ...int) api.Attempt {
		return api.Attempt{Ver: ver, Writes: entry(0, pairs...).Writes}
	}
	s := api.State{Code: api.Code{Durable: []bool{true, false, true}}, Attempts: []api.Attempt{w(3, 0, 5), w(0, 0, 5), w(2, 1, 5), w(1, 0, 6, 1, 7, 2, 8), w(-4, 2, 1), w(5), w(6, 3, 1), w(7, -1, 1)}}
	if got := crash.Reported(s); !same(got, []api.Entry{entry(3, 0, 5), entry(1, 0, 6, 2, 8), entry(-4, 2, 1)}) {
		t.Error(got)
	}
	if len(crash.Reported(api.State{})) != 0 {
		t.Error("nothing")
	}
}

// P34.3 and P34.4
func TestHolds(t *testing.T) {
	c, conf := load(t, "durable ref x;; thread (atomic x := 1; atomic x := 2);;", api.MTimid, 4)
	s, _ := run.Play(c, conf, nil, 1000)
	if !same(crash.Logged(s), []api.Entry{entry(1, 0, 1), entry(2, 0, 2)}) || !same(crash.Reported(s), crash.Logged(s)) || !crash.Holds(s) || !crash.Lasting(s, nil) {
		t.Fatal("the example")
	}
	zero := strings.Repeat("\x00", api.Sector)
	for name, x := range map[string]struct {
		change func(s *api.State)
		want   bool
	}{
		"as it is":             {func(s *api.State) {}, true},
		"an entry is lost":     {func(s *api.State) { s.Disk.Sectors[1] = zero }, false},
		"the first is lost":    {func(s *api.State) { s.Disk.Sectors[0] = zero }, false},
		"an entry more":        {func(s *api.State) { s.Disk.Sectors[2] = wal.Record(entry(3, 0, 3))[0] }, false},
		"another entry":        {func(s *api.State) { s.Disk.Sectors[1] = wal.Record(entry(2, 0, 3))[0] }, false},
		"not reported, lost":   {func(s *api.State) { s.Disk.Sectors[1] = zero; s.Attempts = s.Attempts[:1] }, true},
		"reported otherwise":   {func(s *api.State) { s.Attempts[0].Writes[0].Val = 9 }, false},
		"reported twice":       {func(s *api.State) { s.Attempts = append(s.Attempts, s.Attempts[0]) }, true},
		"reported in disorder": {func(s *api.State) { s.Attempts[0], s.Attempts[1] = s.Attempts[1], s.Attempts[0] }, true},
		"not durable":          {func(s *api.State) { s.Attempts[0].Writes[0].Val = 9; s.Code.Durable = []bool{false} }, true},
	} {
		s, _ := run.Play(c, conf, nil, 1000)
		s.Disk.Sectors = slices.Clone(s.Disk.Sectors)
		x.change(&s)
		if crash.Holds(s) != x.want || crash.Lasting(s, []int{3}) != x.want {
			t.Error(name)
		}
	}
	// What is reported but not synced does not last.
	s, _ = run.Play(c, conf, nil, 1000)
	s.Disk.Was = []api.Was{{Sector: 1, Bytes: zero}}
	if !crash.Holds(s) || !crash.Lasting(s, nil) || !crash.Lasting(s, []int{32}) || crash.Lasting(s, []int{0}) || crash.Lasting(s, []int{20}) {
		t.Error("a write that is not synced")
	}
	if len(s.Disk.Was) != 1 {
		t.Error("the argument was modified")
	}
}

// P34.5: every run, at every point, with every crash; the booted memory has the recovered values.
func TestRuns(t *testing.T) {
	text := "durable ref x = 3;; ref y;; durable array a 6;; thread (atomic (x := !x + 1; a.[0] := 1099511627776; a.[1] := 0 - 1099511627776; a.[2] := 1099511627775; a.[3] := 1099511627775; a.[4] := 1099511627775); atomic (y := 1; x := 9));; " +
		"thread (atomic (x := !x + 10; y := !x); atomic (a.[1] := !x); atomic y := 7);;"
	torn := 0
	for seed := range 40 {
		c, conf := load(t, text, seed%4, 32)
		r := rand.New(rand.NewSource(int64(seed)))
		s, _ := run.Start(c, conf)
		for n := 0; !s.Over && n < 400; n++ {
			s = run.Step(s, r.Intn(2))
			if len(s.Disk.Was) == 0 && n%17 > 0 {
				continue
			}
			if !crash.Holds(s) {
				t.Fatal(seed, n)
			}
			for range 3 {
				var cuts []int
				for range s.Disk.Was {
					cuts = append(cuts, r.Intn(33))
				}
				if !crash.Lasting(s, cuts) {
					t.Fatal(seed, n, cuts)
				}
				crashed := run.Crash(s, cuts)
				if s.Over {
					continue
				}
				if !crash.Holds(crashed) {
					t.Fatal(seed, n)
				}
				m, entries := durable.Boot(s.Layout, c.Locs, crashed.Disk)
				if len(entries) < len(crash.Logged(s)) {
					torn++
				}
				for loc, n := range c.Locs {
					if w, _, ok := durable.Last(entries, loc); ok {
						n = w.Val
					}
					if m.Cells[layout.Val(s.Layout, loc)] != n {
						t.Fatal("the booted value of", loc)
					}
				}
			}
		}
		if !s.Over || !crash.Holds(s) || len(crash.Reported(s)) != 4 || !disk.Right(s.Disk) {
			t.Fatal(seed, s.Err, crash.Reported(s))
		}
	}
	if torn < 20 {
		t.Error("few torn entries", torn)
	}
}

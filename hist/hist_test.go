package hist_test

import (
	"math"
	"math/rand"
	"slices"
	"testing"

	"hallmoot/api"
	"hallmoot/code"
	"hallmoot/hist"
	"hallmoot/layout"
	"hallmoot/parse"
	"hallmoot/run"
	"hallmoot/word"
)

func play(t *testing.T, text string, manager, seed, most int) api.State {
	t.Helper()
	p, err := parse.Of(text)
	if err != api.OK {
		t.Fatal(text, err)
	}
	c, err := code.Of(p)
	if err != api.OK {
		t.Fatal(text, err)
	}
	conf, _ := layout.For(c, 16, manager)
	r := rand.New(rand.NewSource(int64(seed)))
	var l []api.Pick
	for range 200 {
		l = append(l, api.Pick{Kind: api.PStep, A: r.Intn(len(c.Threads))})
	}
	s, err := run.Play(c, conf, l, most)
	if err != api.OK {
		t.Fatal(text, err)
	}
	return s
}

var texts = []string{
	"ref x;; thread atomic x := !x + 1;;",
	"ref x;; ref y = 3;; thread (atomic x := !x + 1; atomic y := !y + !x);; thread (atomic y := !x; atomic (x := 7; !y));; thread atomic (if !y < 3 then retry else x := !x + 10);;",
	"durable ref x;; open ref o;; lock l;; thread (atomic (open l (o := !o + 1) undo (fun u -> o := !o - 1); x := !x + 1); try atomic (open l (o := !o + 5) undo (fun u -> o := !o - 5); raise 1) with e -> print e);; thread atomic ((open l (o := !o * 2) undo (fun u -> ()); x := !x + !x; if !x < 2 then retry else ()) orelse ());;",
}

// P30.1
func TestOwn(t *testing.T) {
	e := func(thread, cell int) api.Event {
		return api.Event{Thread: thread, Access: api.Access{Kind: api.ALoad, Cell: cell}}
	}
	s := api.State{Events: []api.Event{e(0, 1), e(1, 2), e(0, 3), e(0, 4), e(2, 5)}}
	for i, x := range []struct {
		d    api.Attempt
		want []api.Event
	}{
		{api.Attempt{Thread: 0, First: 0, Last: 3}, []api.Event{e(0, 1), e(0, 3), e(0, 4)}}, {api.Attempt{Thread: 0, First: 1, Last: 2}, []api.Event{e(0, 3)}}, {api.Attempt{Thread: 2, First: 4, Last: 4}, []api.Event{e(2, 5)}},
		{api.Attempt{Thread: 7, First: 0, Last: 4}, nil}, {api.Attempt{Thread: 0, First: 3, Last: 2}, nil}, {api.Attempt{Thread: 0, First: 0, Last: 5}, nil}, {api.Attempt{Thread: 0, First: -1, Last: 3}, nil}, {api.Attempt{Thread: 2, First: math.MaxInt, Last: math.MaxInt}, nil}, {api.Attempt{First: math.MinInt, Last: math.MaxInt}, nil},
	} {
		if got := hist.Own(s, x.d); !slices.Equal(got, x.want) {
			t.Error(i, got)
		}
	}
	if hist.Precedes(api.Attempt{Last: 3}, api.Attempt{First: 3}) || !hist.Precedes(api.Attempt{Last: 3}, api.Attempt{First: 4}) {
		t.Error("Precedes")
	}
	s.Attempts = []api.Attempt{{Ver: 3}, {Ver: 0}, {Ver: 1}, {Ver: -4}, {Ver: 3, N: 1}, {Ver: 2}}
	if got := hist.Writers(s); !slices.Equal(got, []int{2, 5, 0, 4}) {
		t.Error(got)
	}
	if len(hist.Writers(api.State{})) != 0 {
		t.Error("no attempts")
	}
}

// The example of the chapter.
func TestExample(t *testing.T) {
	s := play(t, texts[0], api.MTimid, 1, 1000)
	if len(s.Attempts) != 1 {
		t.Fatal(s.Attempts)
	}
	d := s.Attempts[0]
	if d.Kind != api.DCommit || d.Ver != 1 || !slices.Equal(d.Seen, []api.Seen{{}}) || !slices.Equal(d.Writes, []api.Write{{Loc: 0, Val: 1}}) || !hist.Valid(s) {
		t.Error(d)
	}
}

// P30.2: each condition, violated alone.
func TestValid(t *testing.T) {
	for name, change := range map[string]func(s *api.State, d *api.Attempt){
		"no such thread":         func(s *api.State, d *api.Attempt) { d.Thread = 3 },
		"a negative thread":      func(s *api.State, d *api.Attempt) { d.Thread = -1 },
		"another thread":         func(s *api.State, d *api.Attempt) { d.Thread = 1 - d.Thread },
		"First below 0":          func(s *api.State, d *api.Attempt) { d.First = -1 },
		"Last behind the events": func(s *api.State, d *api.Attempt) { s.Events = s.Events[:d.Last] },
		"First after Last":       func(s *api.State, d *api.Attempt) { d.First = d.Last + 1 },
		"First of another":       func(s *api.State, d *api.Attempt) { s.Events[d.First].Thread = 7 },
		"Last of another":        func(s *api.State, d *api.Attempt) { s.Events[d.Last].Thread = 7 },
		"not in order": func(s *api.State, d *api.Attempt) {
			s.Attempts = append(s.Attempts, *d)
			*d = api.Attempt{Thread: s.Events[len(s.Events)-1].Thread, Kind: api.DWait, First: len(s.Events) - 1, Last: len(s.Events) - 1}
		},
		"a read of another version":  func(s *api.State, d *api.Attempt) { d.Seen[0].Ver++ },
		"a read of another value":    func(s *api.State, d *api.Attempt) { d.Seen[0].Val++ },
		"a read of another location": func(s *api.State, d *api.Attempt) { d.Seen[0].Loc = 1 },
		"a read of no location":      func(s *api.State, d *api.Attempt) { d.Seen[0].Loc = 9 },
		"a negative version":         func(s *api.State, d *api.Attempt) { d.Ver = -d.Ver },
		"a version of another":       func(s *api.State, d *api.Attempt) { d.Ver++ },
		"no writes":                  func(s *api.State, d *api.Attempt) { d.Writes = nil },
		"another kind":               func(s *api.State, d *api.Attempt) { d.Kind = api.DLost },
		"the kind DFail":             func(s *api.State, d *api.Attempt) { d.Kind = api.DFail },
		"another value":              func(s *api.State, d *api.Attempt) { d.Writes[0].Val++ },
		"another location":           func(s *api.State, d *api.Attempt) { d.Writes[0].Loc = 1 },
		"no location":                func(s *api.State, d *api.Attempt) { d.Writes[0].Loc = -1 },
		"no release": func(s *api.State, d *api.Attempt) {
			for i := range s.Events {
				if s.Events[i].Access.Kind == api.AStore && s.Events[i].Access.Cell == layout.Word(s.Layout, 0) && s.Events[i].Access.New == word.Free(d.Ver) {
					s.Events[i].Access.Kind = api.ALoad
				}
			}
		},
		"the release before the store": func(s *api.State, d *api.Attempt) {
			a, b := 0, 0
			for i, e := range s.Events {
				if e.Thread == d.Thread && e.Access.Kind == api.AStore && i >= d.First && i <= d.Last {
					switch e.Access.Cell {
					case layout.Val(s.Layout, 0):
						a = i
					case layout.Word(s.Layout, 0):
						b = i
					}
				}
			}
			s.Events[a], s.Events[b] = s.Events[b], s.Events[a]
		},
		"an addition of 2": func(s *api.State, d *api.Attempt) {
			for i := range s.Events {
				if s.Events[i].Access.Kind == api.AAdd && s.Events[i].Access.Cell == s.Layout.Clock {
					s.Events[i].Access.New = 2
				}
			}
		},
		"another load between": func(s *api.State, d *api.Attempt) {
			for i := d.Last; i >= d.First; i-- {
				if s.Events[i].Access.Kind == api.ALoad && s.Events[i].Access.Cell == layout.Val(s.Layout, 0) {
					s.Events[i].Access.Cell = layout.Val(s.Layout, 1)
				}
			}
		},
		"the first version twice": func(s *api.State, d *api.Attempt) {
			i := slices.IndexFunc(s.Attempts, func(d api.Attempt) bool { return d.Ver == 1 })
			s.Attempts = slices.Insert(s.Attempts, i, s.Attempts[i])
		},
		"a version twice": func(s *api.State, d *api.Attempt) { s.Attempts = append(s.Attempts, s.Attempts[len(s.Attempts)-1]) },
	} {
		s := play(t, "ref x;; ref y = 5;; thread atomic x := !x + 1;; thread atomic x := !x + 1;;", api.MTimid, 3, 1000)
		if !hist.Valid(s) {
			t.Fatal("not valid")
		}
		i := slices.IndexFunc(s.Attempts, func(d api.Attempt) bool { return d.Kind == api.DCommit })
		change(&s, &s.Attempts[i])
		if hist.Valid(s) {
			t.Error(name)
		}
	}
	if !hist.Valid(api.State{}) {
		t.Error("no history")
	}
	// A read by the last three events, and an attempt of one event.
	l, _ := layout.Of(api.Conf{Threads: 1, Locs: 1})
	load := func(cell, n int) api.Event {
		return api.Event{Access: api.Access{Kind: api.ALoad, Cell: cell}, Result: api.Result{Val: n, Ok: true}}
	}
	small := api.State{Layout: l, Events: []api.Event{load(0, 0), load(layout.Word(l, 0), 6), load(layout.Val(l, 0), 5), load(layout.Word(l, 0), 6)}}
	small.Attempts = []api.Attempt{{Kind: api.DLost}, {Kind: api.DLost, First: 0, Last: 3, Seen: []api.Seen{{Loc: 0, Ver: 3, Val: 5}}}}
	if !hist.Valid(small) {
		t.Error("a read at the end")
	}
	small.Attempts[1].Last = 2
	if hist.Valid(small) {
		t.Error("half a read")
	}
	s := play(t, texts[0], api.MTimid, 3, 1000)
	s.Attempts[0].Kind = api.DUndo
	if !hist.Valid(s) {
		t.Error("DUndo")
	}
	s.Attempts[0].Ver = 0
	s.Attempts[0].Kind = api.DLost
	if !hist.Valid(s) {
		t.Error("version 0 with writes")
	}
}

// P30.3: runs of several programs under every manager, whole and cut off.
func TestRuns(t *testing.T) {
	for _, text := range texts {
		for seed := range 40 {
			s := play(t, text, seed%4, seed, []int{3000, 150}[seed/4%2])
			if !hist.Valid(s) {
				t.Fatal(text, seed)
			}
			writers := hist.Writers(s)
			last := map[int]api.Seen{}
			written := map[api.Seen]bool{}
			for loc, n := range s.Code.Locs {
				last[loc] = api.Seen{Loc: loc, Val: n}
				written[last[loc]] = true
			}
			for _, i := range writers {
				for _, w := range s.Attempts[i].Writes {
					last[w.Loc] = api.Seen{Loc: w.Loc, Ver: s.Attempts[i].Ver, Val: w.Val}
					written[last[w.Loc]] = true
				}
			}
			if s.Err != api.OK {
				continue
			}
			for loc := range s.Code.Locs {
				if s.Mem.Cells[layout.Word(s.Layout, loc)] != word.Free(last[loc].Ver) || s.Mem.Cells[layout.Val(s.Layout, loc)] != last[loc].Val {
					t.Fatal("the last version of", loc)
				}
			}
			for _, a := range s.Attempts {
				for _, r := range a.Seen {
					if !written[r] {
						t.Fatal("a read of nothing", r)
					}
				}
				for _, b := range s.Attempts {
					if hist.Precedes(a, b) && a.Ver > 0 && (b.Ver > 0 && a.Ver >= b.Ver || a.Ver > b.Rv) {
						t.Fatal("versions do not respect real time", a, b)
					}
				}
			}
		}
	}
}

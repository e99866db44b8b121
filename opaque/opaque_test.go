package opaque_test

import (
	"math"
	"math/rand"
	"reflect"
	"slices"
	"testing"

	"hallmoot/api"
	"hallmoot/code"
	"hallmoot/layout"
	"hallmoot/opaque"
	"hallmoot/parse"
	"hallmoot/run"
)

func play(t *testing.T, text string, manager, seed, most int) api.State {
	t.Helper()
	p, err := parse.Of(text)
	if err != api.OK {
		t.Fatal(text, err)
	}
	c, err := code.Of(p)
	if err != api.OK {
		t.Fatal(text, err)
	}
	conf, _ := layout.For(c, 16, manager)
	r := rand.New(rand.NewSource(int64(seed)))
	var l []api.Pick
	for range 200 {
		l = append(l, api.Pick{Kind: api.PStep, A: r.Intn(len(c.Threads))})
	}
	s, err := run.Play(c, conf, l, most)
	if err != api.OK {
		t.Fatal(text, err)
	}
	return s
}

func version(ver, thread, at int, pairs ...int) api.Version {
	v := api.Version{Ver: ver, Thread: thread, At: at}
	for i := 0; i < len(pairs); i += 2 {
		v.Writes = append(v.Writes, api.Write{Loc: pairs[i], Val: pairs[i+1]})
	}
	return v
}

func same(a, b []api.Version) bool {
	return slices.EqualFunc(a, b, func(x, y api.Version) bool {
		return x.Ver == y.Ver && x.Thread == y.Thread && x.At == y.At && slices.Equal(x.Writes, y.Writes)
	})
}

// P31.1
func TestVersions(t *testing.T) {
	l, _ := layout.Of(api.Conf{Threads: 2, Locs: 3})
	event := func(thread, kind, cell, n, was int) api.Event {
		return api.Event{Thread: thread, Access: api.Access{Kind: kind, Cell: cell, New: n}, Result: api.Result{Val: was, Ok: true}}
	}
	draw := func(thread, was int) api.Event { return event(thread, api.AAdd, l.Clock, 1, was) }
	store := func(thread, loc, n int) api.Event { return event(thread, api.AStore, layout.Val(l, loc), n, 0) }
	for i, x := range []struct {
		events []api.Event
		want   []api.Version
	}{
		{nil, nil},
		{[]api.Event{store(0, 1, 5)}, nil},
		{[]api.Event{draw(0, 4)}, []api.Version{version(5, 0, 0)}},
		{[]api.Event{draw(0, math.MaxInt)}, []api.Version{version(math.MinInt, 0, 0)}},
		{[]api.Event{event(0, api.AAdd, l.Clock, 2, 0), event(0, api.AAdd, l.Stamps, 1, 0), event(0, api.AStore, l.Clock, 1, 0), event(0, api.ACas, l.Clock, 1, 0)}, nil},
		{[]api.Event{draw(0, 0), store(1, 0, 9), draw(1, 1), store(0, 2, 7), store(1, 1, 6), store(0, 0, 5), store(0, 2, 8), event(0, api.ALoad, layout.Val(l, 1), 0, 3), event(0, api.ACas, layout.Val(l, 1), 0, 3), event(0, api.AStore, layout.Word(l, 1), 2, 3), draw(0, 2), store(0, 1, 4)},
			[]api.Version{version(1, 0, 0, 0, 5, 2, 8), version(2, 1, 2, 1, 6), version(3, 0, 10, 1, 4)}},
	} {
		if got := opaque.Versions(api.State{Layout: l, Events: x.events}); !same(got, x.want) {
			t.Error(i, got)
		}
	}
	s := play(t, "ref x;; thread atomic x := 1;;", 0, 1, 1000)
	if got := opaque.Versions(s); len(got) != 1 || got[0].Ver != 1 || !slices.Equal(got[0].Writes, []api.Write{{Loc: 0, Val: 1}}) {
		t.Error("the example", got)
	}
}

// P31.2
func TestAt(t *testing.T) {
	s := api.State{Code: api.Code{Locs: []int{10, 20}}}
	vs := []api.Version{version(3, 0, 0, 0, 33), version(1, 0, 1, 0, 11, 1, 12), version(3, 0, 2, 0, 34), version(2, 0, 3, 1, 22), version(-5, 0, 4, 1, 55)}
	for _, x := range []struct{ loc, ver, val, from int }{
		{0, 0, 10, 0}, {0, 1, 11, 1}, {0, 2, 11, 1}, {0, 3, 34, 3}, {0, 99, 34, 3}, {1, 0, 55, -5}, {1, -6, 20, 0}, {1, 1, 12, 1}, {1, 2, 22, 2}, {1, 3, 22, 2}, {2, 9, 0, 0}, {-1, 9, 0, 0}, {0, -1, 10, 0},
	} {
		if val, from := opaque.At(s, vs, x.loc, x.ver); val != x.val || from != x.from {
			t.Error(x, val, from)
		}
	}
	if val, from := opaque.At(api.State{}, nil, 0, 5); val != 0 || from != 0 {
		t.Error(val, from)
	}
}

// P31.3
func TestOrder(t *testing.T) {
	for i, x := range []struct {
		d    api.Attempt
		a, b int
	}{{api.Attempt{Ver: 3, Rv: 2}, 3, 0}, {api.Attempt{Rv: 2}, 2, 1}, {api.Attempt{Ver: -1, Rv: 2}, -1, 0}, {api.Attempt{}, 0, 1}} {
		if a, b := opaque.Key(x.d); a != x.a || b != x.b {
			t.Error(i, a, b)
		}
	}
	l := []api.Attempt{{Rv: 2, First: 5}, {Ver: 2, First: 9}, {Rv: 2, First: 1}, {Ver: 3}, {Rv: 1, First: 100}, {Rv: 2, First: 5, N: 1}, {Ver: 1, First: 50}}
	if got := opaque.Order(l); !slices.Equal(got, []int{6, 4, 1, 2, 0, 5, 3}) {
		t.Error(got)
	}
	if got := opaque.Order(nil); len(got) != 0 {
		t.Error(got)
	}
}

// P31.4
func TestReads(t *testing.T) {
	s := api.State{Code: api.Code{Locs: []int{10, 20}}}
	vs := []api.Version{version(1, 0, 0, 0, 11), version(2, 0, 1, 0, 12)}
	seen := func(loc, ver, val int) []api.Seen {
		return []api.Seen{{Loc: 1, Val: 20}, {Loc: loc, Ver: ver, Val: val}}
	}
	for i, x := range []struct {
		d    api.Attempt
		want bool
	}{
		{api.Attempt{Rv: 1, Seen: seen(0, 1, 11)}, true}, {api.Attempt{Rv: 2, Seen: seen(0, 1, 11)}, false}, {api.Attempt{Rv: 2, Seen: seen(0, 2, 12)}, true}, {api.Attempt{Rv: 0, Seen: seen(0, 0, 10)}, true},
		{api.Attempt{Ver: 2, Rv: 0, Seen: seen(0, 1, 11)}, true}, {api.Attempt{Ver: 3, Rv: 1, Seen: seen(0, 1, 11)}, false}, {api.Attempt{Ver: 1, Rv: 9, Seen: seen(0, 0, 10)}, true},
		{api.Attempt{Rv: 1, Seen: seen(0, 1, 12)}, false}, {api.Attempt{Rv: 1, Seen: seen(0, 2, 11)}, false}, {api.Attempt{}, true}, {api.Attempt{Ver: math.MinInt, Seen: seen(0, 2, 12)}, true},
	} {
		if got := opaque.Reads(s, vs, x.d); got != x.want {
			t.Error(i, got)
		}
	}
}

// P31.5: each condition, violated alone.
func TestHolds(t *testing.T) {
	text := "ref x;; ref y = 5;; thread (atomic x := !x + 1; atomic !x);; thread (atomic x := !x + 1; atomic !y);;"
	for name, change := range map[string]func(s *api.State, writer, reader *api.Attempt){
		"another value read":   func(s *api.State, w, r *api.Attempt) { w.Seen[0].Val++ },
		"another version read": func(s *api.State, w, r *api.Attempt) { r.Seen[0].Ver++ },
		"another position":     func(s *api.State, w, r *api.Attempt) { r.Rv -= 2 },
		"a version of nobody":  func(s *api.State, w, r *api.Attempt) { w.Ver += 50 },
		"another thread":       func(s *api.State, w, r *api.Attempt) { w.Thread = 1 - w.Thread },
		"another write":        func(s *api.State, w, r *api.Attempt) { w.Writes[0].Val++ },
		"a write less":         func(s *api.State, w, r *api.Attempt) { w.Writes = nil },
		"a store of another value": func(s *api.State, w, r *api.Attempt) {
			for i := range s.Events {
				if e := &s.Events[i]; e.Access.Kind == api.AStore && e.Access.Cell == layout.Val(s.Layout, 0) {
					e.Access.New += 7
				}
			}
		},
		"a version twice": func(s *api.State, w, r *api.Attempt) {
			for i := len(s.Events) - 1; i >= 0; i-- {
				if s.Events[i].Access.Kind == api.AAdd {
					s.Events = append(s.Events, s.Events[i])
				}
			}
		},
		"real time of writers": func(s *api.State, w, r *api.Attempt) { w.First, w.Last = 5000, 5001 },
		"real time of a reader": func(s *api.State, w, r *api.Attempt) {
			s.Attempts = append(s.Attempts, api.Attempt{Kind: api.DCommit, First: 9000, Last: 9001, Rv: 0})
		},
		"a reader before its version": func(s *api.State, w, r *api.Attempt) { r.First, r.Last = -9, -8 },
		"equal keys of writers": func(s *api.State, w, r *api.Attempt) {
			d := *w
			d.First, d.Last = 9000, 9001
			s.Attempts = append(s.Attempts, d)
		},
	} {
		s := play(t, text, api.MTimid, 4, 2000)
		if !opaque.Holds(s) {
			t.Fatal("not opaque")
		}
		w := slices.IndexFunc(s.Attempts, func(d api.Attempt) bool { return d.Ver > 0 && len(d.Seen) > 0 })
		r := slices.IndexFunc(s.Attempts, func(d api.Attempt) bool { return d.Ver == 0 && d.Kind == api.DCommit && d.Seen[0].Loc == 0 })
		change(&s, &s.Attempts[w], &s.Attempts[r])
		if opaque.Holds(s) {
			t.Error(name)
		}
	}
	s := api.State{Attempts: []api.Attempt{{First: 0, Last: 1, Rv: 4}, {First: 2, Last: 3, Rv: 4}, {First: 1, Last: 9, Rv: 3}}}
	if !opaque.Holds(s) || !opaque.Holds(api.State{}) {
		t.Error("equal keys of readers, and overlapping ones")
	}
	s.Attempts[2].First = 2
	if opaque.Holds(s) {
		t.Error("a reader that goes back")
	}
}

// P31.6: runs of several programs under every manager, whole and cut off.
func TestRuns(t *testing.T) {
	for _, text := range []string{
		"ref x;; ref y = 3;; thread (atomic x := !x + 1; atomic y := !y + !x);; thread (atomic y := !x; atomic (x := 7; !y));; thread atomic (if !y < 3 then retry else x := !x + 10);;",
		"durable ref x;; open ref o;; lock l;; thread (atomic (open l (o := !o + 1) undo (fun u -> o := !o - 1); x := !x + 1); try atomic (open l (o := !o + 5) undo (fun u -> o := !o - 5); raise 1) with e -> print e);; thread atomic ((open l (o := !o * 2) undo (fun u -> ()); x := !x + !x; if !x < 2 then retry else ()) orelse ());;",
		"array a 3;; check !a.[0] < 5;; thread let rec f n = if n < 1 then () else ((try atomic (a.[n] := !a.[0] + !a.[1]; a.[0] := !a.[0] + 1) with e -> print e); f (n - 1)) in f 2;; thread (atomic a.[0] := 4; atomic (!a.[0] + !a.[1] + !a.[2]));;",
	} {
		for seed := range 60 {
			s := play(t, text, seed%4, seed, []int{3000, 150}[seed/4%2])
			if !opaque.Holds(s) {
				t.Fatal(text, seed)
			}
			vs := opaque.Versions(s)
			if s.Err == api.OK {
				var want []int
				for loc := range s.Code.Locs {
					val, _ := opaque.At(s, vs, loc, math.MaxInt)
					want = append(want, val)
				}
				if !reflect.DeepEqual(run.Locs(s), want) {
					t.Fatal("the final values", seed)
				}
			}
		}
	}
}

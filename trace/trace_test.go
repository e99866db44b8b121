package trace_test

import (
	"bytes"
	"math"
	"math/rand"
	"reflect"
	"slices"
	"strings"
	"testing"

	"hallmoot/api"
	"hallmoot/code"
	"hallmoot/layout"
	"hallmoot/parse"
	"hallmoot/run"
	"hallmoot/trace"
	"hallmoot/wire"
)

func compile(t *testing.T, text string) (api.Code, api.Conf) {
	t.Helper()
	p, err := parse.Of(text)
	if err != api.OK {
		t.Fatal(err)
	}
	c, err := code.Of(p)
	if err != api.OK {
		t.Fatal(err)
	}
	conf, _ := layout.For(c, 8, api.MGreedy)
	return c, conf
}

// P29.1
func TestEncode(t *testing.T) {
	if got := trace.Encode(nil); !bytes.Equal(got, wire.Seal(nil)) {
		t.Error(got)
	}
	events := []api.Event{
		{Thread: 3, Access: api.Access{Kind: 4, Cell: 5, Old: 6, New: 7, Bytes: "ab"}, Result: api.Result{Val: 8, Ok: true}},
		{Access: api.Access{Kind: -1, New: math.MinInt}},
	}
	want := wire.Seal(slices.Concat(wire.Nums([]int{3, 4, 5, 6, 7, 8, 1}), wire.Text("ab"), wire.Nums([]int{0, -1, 0, 0, math.MinInt, 0, 0}), wire.Text("")))
	if got := trace.Encode(events); !bytes.Equal(got, want) {
		t.Error(got)
	}
}

// P29.2
func TestDecode(t *testing.T) {
	if got, err := trace.Decode(wire.Seal(nil)); err != api.OK || len(got) != 0 {
		t.Error(got, err)
	}
	good := slices.Concat(wire.Nums([]int{3, 4, 5, 6, 7, 8, 1}), wire.Text("ab"))
	if got, err := trace.Decode(wire.Seal(good)); err != api.OK || len(got) != 1 {
		t.Error(got, err)
	}
	for name, b := range map[string][]byte{
		"nothing":           nil,
		"something behind":  append(wire.Seal(good), 0),
		"a prefix":          wire.Seal(good)[:len(good)],
		"not sealed":        good,
		"six numbers":       wire.Seal(slices.Concat(wire.Nums([]int{3, 4, 5, 6, 7, 1}), wire.Text("ab"))),
		"eight numbers":     wire.Seal(slices.Concat(wire.Nums([]int{3, 4, 5, 6, 7, 1, 1, 1}), wire.Text("ab"))),
		"a seventh of 2":    wire.Seal(slices.Concat(wire.Nums([]int{3, 4, 5, 6, 7, 8, 2}), wire.Text("ab"))),
		"a seventh of -1":   wire.Seal(slices.Concat(wire.Nums([]int{3, 4, 5, 6, 7, 8, -1}), wire.Text("ab"))),
		"no text":           wire.Seal(wire.Nums([]int{3, 4, 5, 6, 7, 8, 1})),
		"half a text":       wire.Seal(good[:len(good)-1]),
		"half a list":       wire.Seal(slices.Concat(good, []byte{14, 2})),
		"a broken one last": wire.Seal(slices.Concat(good, []byte{0})),
	} {
		if got, err := trace.Decode(b); err != api.ErrSyntax || got != nil {
			t.Error(name, got, err)
		}
	}
}

const text = "durable ref x;; ref y;; thread (atomic (x := !x + 1); atomic (if !y < 1 then retry else x := !x + 1));; thread (atomic (x := !x + 1; y := 1); print 5);;"

// P29.3 and P29.5: replaying the log of a run reproduces the run.
func TestReplay(t *testing.T) {
	c, conf := compile(t, text)
	for seed := range 20 {
		r := rand.New(rand.NewSource(int64(seed)))
		var l []api.Pick
		for range 60 {
			l = append(l, api.Pick{Kind: api.PStep, A: r.Intn(2)})
		}
		s, _ := run.Play(c, conf, l, 5000)
		if !s.Over || s.Err != api.OK {
			t.Fatal(s.Err)
		}
		got, n, err := trace.Replay(c, conf, s.Events)
		if err != api.OK || n != len(s.Events) || !reflect.DeepEqual(got, s) {
			t.Fatal(n, err)
		}
		// Every prefix leads to the state after as many steps; a crash is not part of the log.
		k := r.Intn(len(s.Events))
		want, _ := run.Start(c, conf)
		for _, e := range s.Events[:k] {
			want = run.Step(want, e.Thread)
		}
		got, n, err = trace.Replay(c, conf, s.Events[:k])
		if err != api.OK || n != k || !reflect.DeepEqual(got, want) {
			t.Fatal("a prefix", k, n, err)
		}
		// Another access or another result is rejected at its index, with the state before it.
		for what, change := range map[string]func(*api.Event){
			"the cell": func(e *api.Event) { e.Access.Cell++ }, "the kind": func(e *api.Event) { e.Access.Kind = api.ALoad + api.AStore - e.Access.Kind }, "the result": func(e *api.Event) { e.Result.Val++ },
			"success": func(e *api.Event) { e.Result.Ok = !e.Result.Ok }, "the bytes": func(e *api.Event) { e.Access.Bytes += "x" }, "no thread": func(e *api.Event) { e.Thread = 2 }, "thread -1": func(e *api.Event) { e.Thread = -1 }, "the other thread": func(e *api.Event) { e.Thread = 1 - e.Thread; e.Result.Val += 1000 },
		} {
			events := slices.Clone(s.Events)
			change(&events[k])
			got, n, err := trace.Replay(c, conf, events)
			if err != api.ErrTrace || n != k || !reflect.DeepEqual(got, want) {
				t.Fatal(what, k, n, err)
			}
		}
		more := append(slices.Clone(s.Events), s.Events[0])
		if got, n, err := trace.Replay(c, conf, more); err != api.ErrTrace || n != len(s.Events) || !reflect.DeepEqual(got, s) {
			t.Fatal("after the end", n, err)
		}
		again := trace.Encode(s.Events)
		events, err := trace.Decode(again)
		if err != api.OK || !slices.Equal(events, s.Events) || !bytes.Equal(trace.Encode(events), again) {
			t.Fatal("decoding", err)
		}
		if p := trace.Picks(s.Events); len(p) != len(s.Events) || !reflect.DeepEqual(p[k], api.Pick{Kind: api.PStep, A: s.Events[k].Thread}) {
			t.Fatal(p[k])
		}
	}
	start, _ := run.Start(c, conf)
	if got, n, err := trace.Replay(c, conf, nil); err != api.OK || n != 0 || !reflect.DeepEqual(got, start) {
		t.Error(n, err)
	}
	bad := conf
	bad.Locs++
	if got, n, err := trace.Replay(c, bad, nil); err != api.ErrArg || n != 0 || !reflect.DeepEqual(got, api.State{}) {
		t.Error(n, err)
	}
	if got := trace.Picks(nil); len(got) != 0 {
		t.Error(got)
	}
}

// A terminated thread performs no event: the log is rejected there, although the other thread goes on.
func TestTerminated(t *testing.T) {
	c, conf := compile(t, "ref x;; thread 5;; thread atomic (x := 1);;")
	s, _ := run.Play(c, conf, nil, 5000)
	events := slices.Insert(slices.Clone(s.Events), 2, api.Event{})
	if _, n, err := trace.Replay(c, conf, events); err != api.ErrTrace || n != 2 {
		t.Error(n, err)
	}
}

// The log of a long run, which sleeps and spins, is replayed in reasonable time.
func TestLong(t *testing.T) {
	c, conf := compile(t, "ref x;; thread atomic (if !x < 1 then retry else ());; thread let rec f n = if n < 1 then () else (atomic (x := 0); f (n - 1)) in f 150;;")
	s, _ := run.Play(c, conf, nil, 20000)
	if len(s.Events) < 1000 {
		t.Fatal(len(s.Events), s.Err)
	}
	if got, n, err := trace.Replay(c, conf, s.Events); err != api.OK || n != len(s.Events) || len(got.Attempts) != len(s.Attempts) {
		t.Error(n, err)
	}
	for _, k := range []int{0, 1, 499, 500, 501, 700} {
		want, _ := run.Start(c, conf)
		for _, e := range s.Events[:k] {
			want = run.Step(want, e.Thread)
		}
		if got, n, err := trace.Replay(c, conf, s.Events[:k]); err != api.OK || n != k || !reflect.DeepEqual(got, want) {
			t.Error("a prefix", k, n, err)
		}
		events := slices.Clone(s.Events)
		events[k].Result.Val += 5
		if got, n, err := trace.Replay(c, conf, events); err != api.ErrTrace || n != k || !reflect.DeepEqual(got, want) {
			t.Error("another event", k, n, err)
		}
		events[k].Thread = 9
		if got, n, err := trace.Replay(c, conf, events); err != api.ErrTrace || n != k || !reflect.DeepEqual(got, want) {
			t.Error("an event of nobody", k, n, err)
		}
	}
	whole, _ := run.Play(c, conf, nil, len(s.Events)+1)
	if got, n, err := trace.Replay(c, conf, append(slices.Clone(s.Events), s.Events[1])); err != api.ErrTrace || n != len(s.Events) || got.Over != whole.Over || len(got.Events) != len(s.Events) {
		t.Error("after the end", n, err)
	}
}

// P29.5: Encode is inverse to Decode on whatever Decode accepts.
func TestCanonical(t *testing.T) {
	r := rand.New(rand.NewSource(1))
	accepted := 0
	for range 3000 {
		var events []api.Event
		for range r.Intn(3) {
			events = append(events, api.Event{Thread: r.Intn(4), Access: api.Access{Kind: r.Intn(8), Cell: r.Intn(300) - 20, Bytes: strings.Repeat("\xff", r.Intn(3))}, Result: api.Result{Val: int(r.Uint64()), Ok: r.Intn(2) == 0}})
		}
		b := trace.Encode(events)
		if r.Intn(2) == 0 {
			content, _, _ := wire.Open(b)
			if len(content) > 0 {
				content[r.Intn(len(content))] = byte(r.Intn(4))
			}
			b = wire.Seal(content)
		}
		if got, err := trace.Decode(b); err == api.OK {
			accepted++
			if !bytes.Equal(trace.Encode(got), b) {
				t.Fatal(got)
			}
		}
	}
	if accepted < 1500 {
		t.Error(accepted)
	}
}

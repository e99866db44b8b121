package serial_test

import (
	"math/rand"
	"slices"
	"strconv"
	"strings"
	"testing"

	"hallmoot/api"
	"hallmoot/bigstep"
	"hallmoot/code"
	"hallmoot/hist"
	"hallmoot/layout"
	"hallmoot/opaque"
	"hallmoot/parse"
	"hallmoot/run"
	"hallmoot/serial"
)

// load returns a program, its code and its configuration; false if it is rejected.
func load(text string, manager int) (api.Prog, api.Code, api.Conf, bool) {
	p, err := parse.Of(text)
	if err != api.OK {
		return p, api.Code{}, api.Conf{}, false
	}
	c, err := code.Of(p)
	if err != api.OK || !code.Right(c) {
		return p, c, api.Conf{}, false
	}
	conf, err := layout.For(c, 32, manager)
	return p, c, conf, err == api.OK
}

func play(t *testing.T, text string, manager, most int, l []api.Pick) (api.Prog, api.State) {
	t.Helper()
	p, c, conf, ok := load(text, manager)
	if !ok {
		t.Fatalf("%q is rejected", text)
	}
	s, err := run.Play(c, conf, l, most)
	if err != api.OK {
		t.Fatalf("%q: error %d", text, err)
	}
	return p, s
}

func steps(threads ...int) []api.Pick {
	var l []api.Pick
	for _, t := range threads {
		l = append(l, api.Pick{Kind: api.PStep, A: t})
	}
	return l
}

const counters = "ref x;; thread atomic x := !x + 1;; thread atomic x := !x + 1;;"

// P32.1
func TestOrder(t *testing.T) {
	l := []api.Attempt{
		{Kind: api.DCommit, Ver: 3}, {Kind: api.DRaise, Rv: 2}, {Kind: api.DWait, Rv: 3}, {Kind: api.DLost, Rv: 1}, {Kind: api.DOpen, Ver: 1}, {Kind: api.DUndo}, {Kind: api.DFail},
		{Kind: api.DCommit, Ver: 2}, {Kind: api.DCommit, Rv: 2, N: 1}, {Kind: api.DCommit, Ver: -5, Rv: 1},
	}
	s := api.State{Attempts: l, Layout: api.Layout{Clock: 0}}
	if got := serial.Order(s); !slices.Equal(got, []int{9, 7, 1, 8, 0, 2}) {
		t.Error(got)
	}
	draw := func(was int) api.Event {
		return api.Event{Access: api.Access{Kind: api.AAdd, Cell: 0, New: 1}, Result: api.Result{Val: was}}
	}
	other := draw(0)
	other.Access.Cell = 1
	load := draw(0)
	load.Access.Kind = api.ALoad
	s.Events = []api.Event{draw(2), draw(1), other, load}
	for name, x := range map[string]struct {
		threads []api.Thread
		want    []int
	}{
		"version 3":      {[]api.Thread{{Phase: api.GCommit, Steps: []int{0}}}, []int{9, 7, 1, 8}},
		"version 2":      {[]api.Thread{{Phase: api.GDoneO, Steps: []int{3, 2, 1}}, {Phase: api.GDoneU, Steps: []int{0}}}, []int{9}},
		"another phase":  {[]api.Thread{{Phase: api.GRead, Steps: []int{0, 1}}}, []int{9, 7, 1, 8, 0, 2}},
		"no version yet": {[]api.Thread{{Phase: api.GCommit, Steps: []int{2, 3}}}, []int{9, 7, 1, 8, 0, 2}},
		"no such events": {[]api.Thread{{Phase: api.GCommit, Steps: []int{-1, 4, 1 << 60}}}, []int{9, 7, 1, 8, 0, 2}},
	} {
		s := s
		s.Threads = x.threads
		if got := serial.Order(s); !slices.Equal(got, x.want) {
			t.Error(name, got)
		}
	}
}

// P32.2
func TestReplay(t *testing.T) {
	p, s := play(t, counters, api.MTimid, 1000, nil)
	if n, state, all := serial.Replay(p, s); n != 2 || !slices.Equal(state, []int{2}) || !all {
		t.Error(n, state, all)
	}
	text := "ref x = 3;; ref y;; thread (try atomic (x := 7; raise 5) with e -> print e; atomic (if !y < 1 then retry else x := 9));; thread atomic y := !x;;"
	p, s = play(t, text, api.MTimid, 1000, steps(slices.Repeat([]int{0}, 30)...))
	var kinds []int
	for _, i := range serial.Order(s) {
		kinds = append(kinds, s.Attempts[i].Kind)
	}
	if n, state, all := serial.Replay(p, s); n != 4 || !slices.Equal(state, []int{9, 3}) || !all || !slices.Equal(kinds, []int{api.DRaise, api.DWait, api.DCommit, api.DCommit}) {
		t.Error(n, state, all, kinds)
	}
	// What does not match, and where.
	for name, x := range map[string]struct {
		change func(l []api.Attempt)
		count  int
	}{
		"another exception":    {func(l []api.Attempt) { l[0].N = 6 }, 0},
		"no such thread":       {func(l []api.Attempt) { l[1].Thread = 2 }, 1},
		"a negative thread":    {func(l []api.Attempt) { l[1].Thread = -1 }, 1},
		"another value":        {func(l []api.Attempt) { l[2].Writes[0].Val++ }, 2},
		"another location":     {func(l []api.Attempt) { l[2].Writes[0].Loc = 0 }, 2},
		"no location":          {func(l []api.Attempt) { l[2].Writes[0].Loc = 2 }, 2},
		"a commit that waits":  {func(l []api.Attempt) { l[1].Kind = api.DCommit }, 1},
		"a commit that raises": {func(l []api.Attempt) { l[0].Kind = api.DCommit }, 0},
		"a wait that commits":  {func(l []api.Attempt) { l[2].Kind = api.DWait }, 2},
		"a raise that commits": {func(l []api.Attempt) { l[2].Kind = api.DRaise }, 2},
		"another thread":       {func(l []api.Attempt) { l[3].Thread = 1 }, 3},
	} {
		_, s := play(t, text, api.MTimid, 1000, steps(slices.Repeat([]int{0}, 30)...))
		order := serial.Order(s)
		l := make([]api.Attempt, len(order))
		for k, i := range order {
			l[k] = s.Attempts[i]
			l[k].Writes = slices.Clone(l[k].Writes)
		}
		x.change(l)
		s.Attempts = l
		if n, _, all := serial.Replay(p, s); n != x.count || all {
			t.Error(name, n, all)
		}
		if serial.Holds(p, s) {
			t.Error(name, "holds")
		}
	}
}

// P32.3 and P32.4: what makes Holds false.
func TestHolds(t *testing.T) {
	text := "ref x;; thread (atomic x := !x + 1; print 4; raise 9);; thread (print 1; atomic x := !x + 1; print 2; atomic !x; ());;"
	for name, x := range map[string]struct {
		change func(s *api.State)
		want   bool
	}{
		"as it is":                         {func(s *api.State) {}, true},
		"a number less":                    {func(s *api.State) { s.Threads[1].Print = s.Threads[1].Print[:1] }, false},
		"another number":                   {func(s *api.State) { s.Threads[1].Print = []int{1, 3} }, false},
		"an attempt less":                  {func(s *api.State) { s.Attempts = s.Attempts[:1] }, false},
		"another final value":              {func(s *api.State) { s.Mem.Cells[layout.Val(s.Layout, 0)] = 7 }, false},
		"another exception":                {func(s *api.State) { s.Threads[0].N = 8 }, false},
		"another end":                      {func(s *api.State) { s.Threads[0].Kind = api.RVal }, false},
		"the end of a thread that goes on": {func(s *api.State) { s.Threads[0].Phase, s.Threads[0].Kind = api.GBegin, 77 }, true},
		"another value, crashed":           {func(s *api.State) { s.Mem.Cells[layout.Val(s.Layout, 0)] = 7; s.Crash = true }, true},
		"another value, not over":          {func(s *api.State) { s.Mem.Cells[layout.Val(s.Layout, 0)] = 7; s.Over = false }, true},
		"everything, after an error": {func(s *api.State) {
			s.Mem.Cells[layout.Val(s.Layout, 0)], s.Threads[1].Print, s.Err = 7, nil, api.ErrFuel
		}, true},
		"another attempt, after an error": {func(s *api.State) { s.Attempts[2].N, s.Err = 5, api.ErrFuel; s.Attempts[2].Kind = api.DRaise }, false},
		"a number less, crashed":          {func(s *api.State) { s.Threads[1].Print, s.Crash = nil, true }, false},
		"a number less, committing": {func(s *api.State) {
			s.Threads[1].Print = nil
			s.Events = append(s.Events, api.Event{Access: api.Access{Kind: api.AAdd, Cell: s.Layout.Clock}, Result: api.Result{Val: 50}})
			s.Threads[1].Phase, s.Threads[1].Steps = api.GCommit, []int{len(s.Events) - 1}
		}, true},
	} {
		p, s := play(t, text, api.MTimid, 1000, nil)
		x.change(&s)
		if got := serial.Holds(p, s); got != x.want {
			t.Error(name, got)
		}
	}
}

// writer writes random programs without open blocks.
type writer struct {
	*rand.Rand
	names int
}

func (w *writer) pick(l ...func() string) string { return l[w.Intn(len(l))]() }

func (w *writer) fresh() string {
	w.names++
	return "v" + strconv.Itoa(w.names)
}

func (w *writer) loc(depth int, vars []string) string {
	return w.pick(func() string { return "x" }, func() string { return "y" }, func() string { return "a.[" + w.number(depth-1, vars, true) + "]" })
}

// number writes an expression of type int, inside or outside of atomic blocks.
func (w *writer) number(depth int, vars []string, inside bool) string {
	if depth <= 0 {
		if len(vars) > 0 && w.Intn(2) == 0 {
			return vars[w.Intn(len(vars))]
		}
		return strconv.Itoa(w.Intn(4))
	}
	n := func() string { return w.number(depth-1, vars, inside) }
	v := w.fresh()
	more := append(slices.Clip(vars), v)
	bound := func() string { return w.number(depth-1, more, inside) }
	forms := []func() string{
		func() string { return "(" + n() + " + " + n() + ")" }, func() string { return "(" + n() + " - " + n() + ")" }, func() string { return "(" + n() + " * " + n() + ")" },
		func() string { return "(if " + w.truth(depth-1, vars, inside) + " then " + n() + " else " + n() + ")" },
		func() string { return "(let " + v + " = " + n() + " in " + bound() + ")" },
		func() string { return "(" + w.unit(depth-1, vars, inside) + "; " + n() + ")" },
		func() string { return "(try " + n() + " with " + v + " -> " + bound() + ")" },
		func() string { return "((fun " + v + " -> " + bound() + ") " + n() + ")" },
		func() string {
			return "(match (if " + w.truth(depth-1, vars, inside) + " then None else Some " + n() + ") with None -> " + n() + " | Some " + v + " -> " + bound() + ")"
		},
		func() string { return "(fst (" + n() + ", " + n() + "))" },
		func() string { return "(atomic " + w.number(depth-1, vars, true) + ")" },
	}
	if inside {
		get := func() string { return "(!" + w.loc(depth-1, vars) + ")" }
		forms = append(forms, get, get, get, func() string { return "(" + n() + " orelse " + n() + ")" }, func() string { return "(twice (fun " + v + " -> " + bound() + ") " + n() + ")" })
		if w.Intn(4) == 0 {
			forms = append(forms, func() string { return "retry" }, func() string { return "(raise " + n() + ")" })
		}
	}
	return w.pick(forms...)
}

func (w *writer) truth(depth int, vars []string, inside bool) string {
	n := func() string { return w.number(depth-1, vars, inside) }
	return w.pick(func() string { return "(" + n() + " < " + n() + ")" }, func() string { return "(" + n() + " == " + n() + " || " + n() + " < 2)" })
}

// unit writes an expression of type unit.
func (w *writer) unit(depth int, vars []string, inside bool) string {
	if depth <= 0 {
		return "()"
	}
	n := func() string { return w.number(depth-1, vars, inside) }
	u := func() string { return w.unit(depth-1, vars, inside) }
	forms := []func() string{
		func() string { return "(" + u() + "; " + u() + ")" }, func() string { return "(if " + w.truth(depth-1, vars, inside) + " then " + u() + " else " + u() + ")" },
		func() string { return "(atomic " + w.unit(depth-1, vars, true) + ")" }, func() string { return "(atomic " + w.unit(depth-1, vars, true) + ")" },
	}
	if inside {
		set := func() string { return "(" + w.loc(depth-1, vars) + " := " + n() + ")" }
		forms = append(forms, set, set, set, func() string { return "(inc " + w.loc(depth-1, vars) + ")" }, func() string { return "(" + u() + " orelse " + u() + ")" }, func() string { return "(if " + w.truth(depth-1, vars, inside) + " then retry else " + u() + ")" })
	} else {
		forms = append(forms, func() string { return "(print " + n() + ")" }, func() string { return "(let rec f n = if n < 1 then () else (" + u() + "; f (n - 1)) in f 2)" })
	}
	return w.pick(forms...)
}

func (w *writer) program() string {
	text := "ref x = 2;; durable ref y;; durable array a 3;; let inc = fun r -> r := !r + 1;; let twice = fun f -> fun n -> f (f n);; "
	if w.Intn(3) == 0 {
		text += "check !x < 9;; check !a.[0] + !y < 20;; "
	}
	for range 1 + w.Intn(3) {
		text += "thread " + w.unit(4, nil, false) + ";; "
	}
	return text
}

func (w *writer) script(threads int) []api.Pick {
	var l []api.Pick
	for range w.Intn(400) {
		p := api.Pick{Kind: api.PStep, A: w.Intn(threads)}
		if w.Intn(20) == 0 {
			p.Kind, p.B = api.PStall, w.Intn(30)
		}
		for range 1 + w.Intn(4) {
			l = append(l, p)
		}
	}
	if w.Intn(6) == 0 {
		l = slices.Insert(l, w.Intn(min(len(l), 80)+1), api.Pick{Kind: api.PCrash, Cuts: []int{w.Intn(33)}})
	}
	return l
}

// open writes an expression of type unit with open blocks, for an atomic block.
func (w *writer) open(depth int) string {
	if depth <= 0 {
		return "()"
	}
	u := func() string { return w.open(depth - 1) }
	n := strconv.Itoa(w.Intn(4))
	change := func() string {
		return w.pick(func() string { return "(o := !o * 2 + " + n + ")" }, func() string { return "(q := !o - !q)" }, func() string { return "(if !o < 9 then o := !o + 1 else raise " + n + ")" }, func() string { return "(o := 5; raise " + n + ")" })
	}
	block := func() string {
		return "(open " + []string{"k", "l"}[w.Intn(2)] + " " + change() + " undo (fun u -> " + change() + "))"
	}
	return w.pick(block, block, u, func() string { return "(" + u() + "; " + u() + ")" }, func() string { return "(" + u() + " orelse " + u() + ")" }, func() string { return "(atomic " + u() + ")" },
		func() string { return "(try " + u() + " with e -> (x := !x + e; " + u() + "))" }, func() string { return "(y := !x + " + n + "; " + u() + ")" }, func() string { return "(" + u() + "; retry)" }, func() string { return "(" + u() + "; if !y < 3 then raise " + n + " else ())" })
}

// A thread that runs alone does what the semantics says, also with open blocks: the same values, the same output, the same end.
func TestAlone(t *testing.T) {
	ends := map[string]int{}
	for seed := range 3000 {
		w := &writer{Rand: rand.New(rand.NewSource(int64(seed)))}
		text := "ref x = 2;; ref y;; open ref o = 3;; open ref q;; lock k;; lock l;; "
		if w.Intn(2) == 0 {
			text += "check !y < 4;; "
		}
		text += "thread ((try atomic " + w.open(5) + " with e -> print e); (try atomic " + w.open(4) + " with e -> print (e + 100)); atomic " + w.open(4) + "; print 7);;"
		p, s := play(t, text, seed%4, 4000, nil)
		if !s.Over || s.Err != api.OK {
			t.Fatal(text, s.Err)
		}
		at := [][]int{s.Code.Locs}
		var r api.ThreadResult
		for {
			var err api.Errno
			r, err = bigstep.Run(p, 0, at, bigstep.Fuel)
			if err != api.OK {
				t.Fatal(text, err)
			}
			if r.Kind != api.RStop {
				break
			}
			at = append(at, r.Blocks[len(r.Blocks)-1].Locs)
		}
		th := s.Threads[0]
		end := th.Phase == api.GSleep && r.Kind == api.RRetry || th.Phase == api.GOver && th.Kind == r.Kind && th.N == r.N
		if last := r.Blocks[len(r.Blocks)-1].Locs; !end || !slices.Equal(th.Print, r.Print) || !slices.Equal(run.Locs(s), last) {
			t.Fatalf("seed %d: %s: %v %v, want %v %v", seed, text, run.Locs(s), th.Print, last, r)
		}
		ends[[]string{"val", "exn", "retry"}[r.Kind]]++
		for _, d := range s.Attempts {
			ends[strings.Fields("? commit raise wait lost open undo fail")[d.Kind]]++
		}
	}
	for _, what := range []string{"val", "exn", "retry", "open", "undo", "fail"} {
		if ends[what] < 50 {
			t.Error("too few:", what, ends)
		}
	}
}

// P32.4: random programs under random scripts and all managers. Runs that are cut off by a crash are replayed only: an exception may not have reached its handler then.
func TestRandom(t *testing.T) {
	counts := map[string]int{}
	for seed := range 1500 {
		w := &writer{Rand: rand.New(rand.NewSource(int64(seed)))}
		text := w.program()
		p, c, conf, ok := load(text, seed%4)
		if !ok {
			counts["rejected"]++
			continue
		}
		if _, err := bigstep.Start(p); err != api.OK {
			t.Fatal(text, err)
		}
		most := 2500
		if w.Intn(5) == 0 {
			most = w.Intn(200)
		}
		s, err := run.Play(c, conf, w.script(len(c.Threads)), most)
		if err != api.OK {
			t.Fatal(text, err)
		}
		if _, _, all := serial.Replay(p, s); !all {
			t.Fatalf("seed %d: %s: not serializable", seed, text)
		}
		if !s.Crash && !serial.Holds(p, s) {
			t.Fatalf("seed %d: %s: Holds is false", seed, text)
		}
		if !opaque.Holds(s) || !hist.Valid(s) {
			t.Fatalf("seed %d: %s: not opaque", seed, text)
		}
		switch {
		case s.Crash:
			counts["crash"]++
		case s.Err == api.OK:
			counts["ended"]++
		case s.Err == api.ErrFuel:
			counts["fuel"]++
		default:
			t.Fatalf("seed %d: %s: error %d", seed, text, s.Err)
		}
		for _, d := range s.Attempts {
			counts[strings.Fields("? commit raise wait lost")[d.Kind]]++
		}
	}
	t.Log(counts)
	for _, what := range []string{"ended", "fuel", "crash", "commit", "raise", "wait", "lost"} {
		if counts[what] < 20 {
			t.Error("too few:", what, counts[what])
		}
	}
}

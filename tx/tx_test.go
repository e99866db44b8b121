package tx_test

import (
	"fmt"
	"hallmoot/vm"
	"hallmoot/word"
	"math/rand"
	"reflect"
	"slices"
	"strings"
	"testing"

	"hallmoot/api"
	"hallmoot/code"
	"hallmoot/disk"
	"hallmoot/durable"
	"hallmoot/layout"
	"hallmoot/mem"
	"hallmoot/parse"
	"hallmoot/tx"
)

func compile(t *testing.T, text string) api.Code {
	t.Helper()
	p, err := parse.Of(text)
	if err != api.OK {
		t.Fatalf("%q: error %d", text, err)
	}
	c, err := code.Of(p)
	if err != api.OK || !code.Right(c) {
		t.Fatalf("%q: error %d", text, err)
	}
	return c
}

func val(n int) api.Result { return api.Result{Val: n} }

var phases = strings.Fields("Begin Read Commit Take Open DoneO ClearO Undo DoneU ClearU AgainU Clear Give Watch Sleep Over")
var outcomes = strings.Fields("? commit raise wait lost open undo fail")

// machine executes threads one access at a time.
type machine struct {
	t       *testing.T
	c       api.Code
	l       api.Layout
	m       api.Mem
	d       api.Disk
	threads []api.Thread
	events  int
	log     []string // the phases that the threads entered, and the attempts that they finished
}

func start(t *testing.T, text string, manager int) *machine {
	c := compile(t, text)
	conf, _ := layout.For(c, 16, manager)
	x := &machine{t: t, c: c}
	x.l, _ = layout.Of(conf)
	x.d, _ = disk.New(16)
	x.m, _, _ = mem.All(api.Mem{Cells: make([]int, x.l.Size)}, layout.Init(x.l, c.Locs))
	for me := range c.Threads {
		th, err := tx.Start(c, x.l, me)
		if err != api.OK {
			t.Fatalf("%q: thread %d: error %d", text, me, err)
		}
		x.threads = append(x.threads, th)
		x.note(me)
	}
	return x
}

func (x *machine) note(me int) {
	th := x.threads[me]
	s := phases[th.Phase]
	switch th.Phase {
	case api.GRead, api.GTake, api.GGive:
		s += fmt.Sprint(th.Op.A)
	case api.GCommit, api.GDoneO, api.GDoneU:
		s += fmt.Sprint(th.Op.Writes, th.Op.B)
	case api.GClear, api.GClearO, api.GClearU, api.GAgainU:
		s += fmt.Sprint(th.Op.Seen, th.Op.A, ",", th.Op.B)
	case api.GBegin, api.GOpen, api.GUndo:
		s += fmt.Sprint(th.Op.Try, ",", th.Op.B)
	case api.GWatch, api.GSleep:
		s += fmt.Sprint(th.Op.Seen)
	case api.GOver:
		s += fmt.Sprint(th.Kind, th.N)
	}
	x.log = append(x.log, s)
}

// step performs the next access of a thread and its turns.
func (x *machine) step(me int) {
	th := x.threads[me]
	if th.Phase == api.GOver {
		return
	}
	a, _, _ := tx.Prog(x.l, me, th.Op, th.Log)
	m, d, r, err := durable.Do(x.m, x.d, a)
	if err != api.OK {
		x.t.Fatal("access", a, err)
	}
	x.m, x.d = m, d
	th.Log = append(slices.Clip(th.Log), r)
	th.Steps = append(slices.Clip(th.Steps), x.events)
	x.events++
	for th.Phase != api.GOver {
		_, out, done := tx.Prog(x.l, me, th.Op, th.Log)
		if !done {
			break
		}
		next, attempts, err := tx.Turn(x.c, x.l, th, me, out, x.events)
		if err != api.OK {
			x.t.Fatal("turn", err)
		}
		for _, d := range attempts {
			x.log = append(x.log, fmt.Sprintf("<%s%d v%d rv%d %v %v>", outcomes[d.Kind], d.N, d.Ver, d.Rv, d.Seen, d.Writes))
			if d.Thread != me || d.Last != x.events-1 || d.First > d.Last {
				x.t.Fatal("attempt", d)
			}
		}
		quiet := th.Phase == api.GSleep && next.Phase == api.GSleep
		th = next
		x.threads[me] = th
		if !quiet {
			x.note(me)
		}
	}
	x.threads[me] = th
}

// alone runs the only thread until it is over or sleeps.
func alone(t *testing.T, text string, manager int) *machine {
	x := start(t, text, manager)
	for range 2000 {
		x.step(0)
		if th := x.threads[0]; th.Phase == api.GOver || th.Phase == api.GSleep && len(th.Log) == 0 {
			return x
		}
	}
	t.Fatalf("%q does not end", text)
	return nil
}

const before = "ref x = 5;; ref y;; open ref o;; lock k;; lock l;; lock l2;; "

// P26.2 and P26.3: the operations and attempts of one thread.
func TestAlone(t *testing.T) {
	for text, want := range map[string]string{
		"thread print 3;;":                                                          "Over0 0",
		"thread raise 3;;":                                                          "Over1 3",
		"thread atomic ();;":                                                        "Begin1,0 Commit[] 0 <commit0 v0 rv0 [] []> Over0 0",
		"thread atomic (x := !x + 1);;":                                             "Begin1,0 Read0 Commit[{0 6}] 0 <commit0 v1 rv0 [{0 0 5}] [{0 6}]> Over0 0",
		"thread atomic (x := 1; !x + !x);;":                                         "Begin1,0 Commit[{0 1}] 0 <commit0 v1 rv0 [] [{0 1}]> Over0 0",
		"thread atomic (!x + !x);;":                                                 "Begin1,0 Read0 Commit[] 0 <commit0 v0 rv0 [{0 0 5}] []> Over0 0",
		"thread (atomic (x := 1); atomic !x);;":                                     "Begin1,0 Commit[{0 1}] 0 <commit0 v1 rv0 [] [{0 1}]> Begin2,0 Read0 Commit[] 0 <commit0 v0 rv1 [{0 1 1}] []> Over0 0",
		"thread atomic (y := 1; atomic (x := 2; y := 3));;":                         "Begin1,0 Commit[{0 2} {1 3}] 0 <commit0 v1 rv0 [] [{0 2} {1 3}]> Over0 0",
		"thread atomic (y := 1; raise 7);;":                                         "Begin1,0 <raise7 v0 rv0 [] []> Clear[] 0,0 Over1 7",
		"thread try atomic (y := !x; raise 7) with e -> print e;;":                  "Begin1,0 Read0 <raise7 v0 rv0 [{0 0 5}] []> Clear[{0 0 5}] 0,0 Over0 0",
		"thread atomic (try atomic (y := !x; raise 7) with e -> x := e);;":          "Begin1,0 Read0 Commit[{0 7}] 0 <commit0 v1 rv0 [{0 0 5}] [{0 7}]> Over0 0",
		"thread atomic ((y := !x; retry) orelse (x := !x + 1));;":                   "Begin1,0 Read0 Commit[{0 6}] 0 <commit0 v1 rv0 [{0 0 5}] [{0 6}]> Over0 0",
		"thread atomic ((y := 1) orelse (x := 2));;":                                "Begin1,0 Commit[{1 1}] 0 <commit0 v1 rv0 [] [{1 1}]> Over0 0",
		"thread atomic ((atomic (atomic (y := 2; retry))) orelse (x := 2));;":       "Begin1,0 Commit[{0 2}] 0 <commit0 v1 rv0 [] [{0 2}]> Over0 0",
		"thread atomic ((y := 1; raise 3) orelse (x := 2));;":                       "Begin1,0 <raise3 v0 rv0 [] []> Clear[] 0,0 Over1 3",
		"thread atomic (try (y := 1; (raise 3) orelse (x := 2)) with e -> ());;":    "Begin1,0 Commit[{1 1}] 0 <commit0 v1 rv0 [] [{1 1}]> Over0 0",
		"thread atomic (y := 1; if !x < 9 then retry else ());;":                    "Begin1,0 Read0 <wait0 v0 rv0 [{0 0 5}] []> Clear[{0 0 5}] 0,0 Watch[{0 0 5}] Sleep[{0 0 5}]",
		"check !x < 9;; thread atomic (x := 8);;":                                   "Begin1,0 Commit[{0 8}] 0 <commit0 v1 rv0 [] [{0 8}]> Over0 0",
		"check !x < 9;; check !y < 9;; thread atomic (x := 8);;":                    "Begin1,0 Read1 Commit[{0 8}] 0 <commit0 v1 rv0 [{1 0 0}] [{0 8}]> Over0 0",
		"check !x < 9;; check !y < 9;; thread atomic (x := 9);;":                    "Begin1,0 <raise-1 v0 rv0 [] []> Clear[] 0,0 Over1 -1",
		"check !x < 9;; check !y < 0;; thread atomic (x := 8);;":                    "Begin1,0 Read1 <raise-1 v0 rv0 [{1 0 0}] []> Clear[{1 0 0}] 0,0 Over1 -1",
		"check !x < 1;; thread atomic !x;;":                                         "Begin1,0 Read0 Commit[] 0 <commit0 v0 rv0 [{0 0 5}] []> Over0 0",
		"check raise 3;; thread try atomic (x := 8) with e -> print e;;":            "Begin1,0 <raise-1 v0 rv0 [] []> Clear[] 0,0 Over0 0",
		"thread atomic (x := 1; atomic (y := 2; (if !x < 9 then retry else ())));;": "Begin1,0 <wait0 v0 rv0 [] []> Clear[] 0,0 Watch[] Sleep[]",
		// Open blocks and compensations.
		"thread atomic (!x; open l (o := 1) undo (fun u -> o := 8); atomic (!y; open k (o := 2) undo (fun u -> o := 9); retry));;":              "Begin1,0 Read0 Take1 Open1,1 DoneO[{2 1}] 5 <open1 v1 rv0 [] [{2 1}]> Read1 Take0 Open1,1 DoneO[{2 2}] 5 <open0 v2 rv1 [] [{2 2}]> <wait0 v0 rv0 [{0 0 5} {1 0 0}] []> Clear[{0 0 5} {1 0 0}] 0,0 Undo2,0 DoneU[{2 9}] 0 <undo0 v3 rv2 [] [{2 9}]> Undo3,0 DoneU[{2 8}] 0 <undo1 v4 rv3 [] [{2 8}]> Give0 Give1 Watch[{0 0 5} {1 0 0}] Sleep[{0 0 5} {1 0 0}]",
		"thread atomic (x := 1; open l (o := !o + 1) undo fun u -> o := 0);;":                                                                   "Begin1,0 Take1 Open1,1 Read2 DoneO[{2 1}] 5 <open1 v1 rv0 [{2 0 0}] [{2 1}]> Commit[{0 1}] 0 <commit0 v2 rv0 [] [{0 1}]> Give1 Over0 0",
		"thread atomic (open l (o := 1) undo (fun u -> o := 8); raise 4);;":                                                                     "Begin1,0 Take1 Open1,1 DoneO[{2 1}] 5 <open1 v1 rv0 [] [{2 1}]> <raise4 v0 rv0 [] []> Clear[] 0,0 Undo2,0 DoneU[{2 8}] 0 <undo1 v2 rv1 [] [{2 8}]> Give1 Over1 4",
		"thread atomic (open l (o := 1) undo (fun u -> o := 8); open k (o := 2) undo (fun u -> o := 9); open l () undo (fun u -> ()); retry);;": "Begin1,0 Take1 Open1,1 DoneO[{2 1}] 5 <open1 v1 rv0 [] [{2 1}]> Take0 Open1,1 DoneO[{2 2}] 5 <open0 v2 rv1 [] [{2 2}]> Open1,1 DoneO[] 5 <open1 v0 rv2 [] []> <wait0 v0 rv0 [] []> Clear[] 0,0 Undo2,0 DoneU[] 0 <undo1 v0 rv2 [] []> Undo3,0 DoneU[{2 9}] 0 <undo0 v3 rv2 [] [{2 9}]> Undo4,0 DoneU[{2 8}] 0 <undo1 v4 rv3 [] [{2 8}]> Give0 Give1 Watch[] Sleep[]",
		"thread atomic (open l (o := !o + 1; raise 6) undo (fun u -> o := 8));;":                                                                "Begin1,0 Take1 Open1,1 Read2 <fail1 v0 rv0 [{2 0 0}] []> ClearO[{2 0 0}] 0,5 <raise6 v0 rv0 [] []> Clear[] 0,0 Give1 Over1 6",
		"thread atomic (try open l (o := 1; raise 6) undo (fun u -> ()) with e -> x := e);;":                                                    "Begin1,0 Take1 Open1,1 <fail1 v0 rv0 [] []> ClearO[] 0,5 Commit[{0 6}] 0 <commit0 v1 rv0 [] [{0 6}]> Give1 Over0 0",
		"thread atomic (open l (o := 1) undo (fun u -> (o := 3; raise 7)); raise 4);;":                                                          "Begin1,0 Take1 Open1,1 DoneO[{2 1}] 5 <open1 v1 rv0 [] [{2 1}]> <raise4 v0 rv0 [] []> Clear[] 0,0 Undo2,0 <undo1 v0 rv1 [] []> ClearU[] 0,0 Give1 Over1 4",
		"thread atomic (!x; (open l (o := 1) undo (fun u -> o := !o + 1); y := 1; retry) orelse (y := 2));;":                                    "Begin1,0 Read0 Take1 Open1,1 DoneO[{2 1}] 5 <open1 v1 rv0 [] [{2 1}]> Undo1,1 Read2 DoneU[{2 2}] 5 <undo1 v2 rv1 [{2 1 1}] [{2 2}]> Commit[{1 2}] 0 <commit0 v3 rv0 [{0 0 5}] [{1 2}]> Give1 Over0 0",
		"thread atomic (try atomic (open l (o := 1) undo (fun u -> raise 9); y := 1; raise 3) with e -> y := e);;":                              "Begin1,0 Take1 Open1,1 DoneO[{2 1}] 5 <open1 v1 rv0 [] [{2 1}]> Undo1,1 <undo1 v0 rv1 [] []> ClearU[] 0,5 Commit[{1 3}] 0 <commit0 v2 rv0 [] [{1 3}]> Give1 Over0 0",
		"check !y < 1;; thread atomic (open l (o := 1) undo (fun u -> o := 2); y := 1);;":                                                       "Begin1,0 Take1 Open1,1 DoneO[{2 1}] 5 <open1 v1 rv0 [] [{2 1}]> <raise-1 v0 rv0 [] []> Clear[] 0,0 Undo2,0 DoneU[{2 2}] 0 <undo1 v2 rv1 [] [{2 2}]> Give1 Over1 -1",
	} {
		x := alone(t, before+text, api.MTimid)
		if got := strings.Join(x.log, " "); got != want {
			t.Errorf("%q:\n%s, want\n%s", text, got, want)
		}
	}
}

// schedule runs threads in a given order, each number a number of accesses.
func (x *machine) schedule(steps ...[2]int) {
	for _, s := range steps {
		for range s[1] {
			x.step(s[0])
		}
	}
}

// until runs a thread until it enters a phase.
func (x *machine) until(me, phase int) {
	for range 1000 {
		if x.threads[me].Phase == phase && len(x.threads[me].Log) == 0 {
			return
		}
		x.step(me)
	}
	x.t.Fatal("the phase does not come", phases[phase], x.log)
}

// Lost operations: the attempt is given up, and begins again from the state at the entry of the block.
func TestLost(t *testing.T) {
	// A read of a location that is newer than an earlier read which has changed.
	x := start(t, "ref x = 5;; ref y;; ref z;; "+"thread atomic (let n = !x in (y := n; y := !y + (let m = !z in m)));; thread atomic (x := 1; z := 2);;", 0)
	x.until(0, api.GRead)
	x.schedule([2]int{0, 4})
	x.until(1, api.GOver)
	x.log = nil
	x.until(0, api.GOver)
	want := "<lost0 v0 rv0 [{0 0 5}] []> Clear[{0 0 5}] 1,0 Begin2,0 Read0 Read2 Commit[{1 3}] 0 <commit0 v2 rv1 [{0 1 1} {2 1 2}] [{1 3}]> Over0 0"
	if got := strings.Join(x.log, " "); got != want {
		t.Errorf("read: %s, want\n%s", got, want)
	}
	// A commit whose reads have changed; the second attempt keeps timestamp and karma.
	x = start(t, before+"thread atomic (y := !x + 1);; thread atomic (x := 1);;", 0)
	x.until(0, api.GCommit)
	stamp := x.threads[0].Stamp
	x.until(1, api.GOver)
	x.log = nil
	x.step(0)
	x.until(0, api.GCommit)
	th := x.threads[0]
	if th.Stamp != stamp || th.Karma != 1 || th.Aborts != 1 || th.Try != 2 || th.Op.Mine != (api.Contender{Stamp: stamp, Karma: 2, Aborts: 1}) {
		t.Error("the second attempt", th)
	}
	x.until(0, api.GOver)
	want = "<lost0 v0 rv0 [{0 0 5}] []> Clear[{0 0 5}] 1,0 Begin2,0 Read0 Commit[{1 2}] 0 <commit0 v3 rv2 [{0 1 1}] [{1 2}]> Over0 0"
	if got := strings.Join(x.log, " "); got != want {
		t.Errorf("commit: %s, want\n%s", got, want)
	}
	if th := x.threads[0]; th.Stamp != 0 || th.Karma != 0 || th.Aborts != 0 || th.Rv != 0 || th.Levels != nil || th.Undo != nil {
		t.Error("what is left of the transaction", th)
	}
}

// Reads of newer locations extend the snapshot, of the transaction and of the open block each for itself.
func TestExtension(t *testing.T) {
	x := start(t, before+"thread atomic (let n = !x in open l (o := !o + n) undo (fun u -> ()); !y);; thread (atomic (y := 1); atomic (open k (o := 7) undo (fun u -> ())));;", 0)
	x.until(0, api.GTake)
	x.until(1, api.GTake)
	x.until(0, api.GRead)
	x.until(1, api.GOver)
	if th := x.threads[0]; th.Rv != 0 || th.RvO != 1 || th.Op.B != 1 || th.Mode != api.NOpen {
		t.Error("the open block", th)
	}
	x.log = nil
	x.until(0, api.GOver)
	want := "DoneO[{2 12}] 5 <open1 v3 rv2 [{2 2 7}] [{2 12}]> Read1 Commit[] 0 <commit0 v0 rv3 [{0 0 5} {1 1 1}] []> Give1 Over0 0"
	if got := strings.Join(x.log, " "); got != want {
		t.Errorf("%s, want\n%s", got, want)
	}
}

// Fields of threads that the operations do not show.
func TestFields(t *testing.T) {
	x := start(t, before+"durable ref z;; check !y < 5;; thread (print 4; atomic (x := 1; z := 2); print 6; print 7; atomic (y := 9));;", 0)
	if th := x.threads[0]; !slices.Equal(th.Print, []int{4}) {
		t.Error(th.Print)
	}
	x.until(0, api.GCommit)
	if th := x.threads[0]; th.Check != 0 || !slices.Equal(th.Op.Durable, []bool{false, true}) {
		t.Error("at the commit", th.Check, th.Op)
	}
	x.until(0, api.GClear)
	if th := x.threads[0]; th.Check != 0 || !slices.Equal(th.Print, []int{4, 6, 7}) {
		t.Error("after the invariant", th.Check, th.Print)
	}
	// An open block whose operation is lost leaves nothing of its own.
	x = start(t, before+"thread atomic open l (o := !o + 1) undo (fun u -> ());; thread atomic (open k (o := !o + 10) undo (fun u -> ()));;", 0)
	x.until(0, api.GDoneO)
	x.until(1, api.GOver)
	x.step(0)
	x.until(0, api.GClear)
	if th := x.threads[0]; th.Mode != api.NOwn || th.Own != nil || th.Check != 0 || th.Then != api.WAgain {
		t.Error("after the loss", th)
	}
}

// Open blocks that are lost, in the transaction and in its compensations.
func TestLostOpen(t *testing.T) {
	// The lock is held: PTake is lost.
	text := before + "thread atomic (!x; open l (o := !o + 1) undo (fun u -> o := !o - 1));; thread atomic (open l (o := !o + 10) undo (fun u -> ()));;"
	x := start(t, text, 0)
	x.until(1, api.GCommit)
	x.log = nil
	x.until(0, api.GClear)
	if got, want := strings.Join(x.log, " "), "Read0 Take1 <lost0 v0 rv1 [{0 0 5}] []> Clear[{0 0 5}] 1,0"; got != want {
		t.Errorf("%s, want\n%s", got, want)
	}
	// The commit of an open block is lost because its read has changed: a failure of the block, then of the transaction.
	x = start(t, before+"thread atomic (!x; open l (o := !o + 1) undo (fun u -> o := !o - 1));; thread atomic (open k (o := !o + 10) undo (fun u -> ()));;", 0)
	x.until(0, api.GDoneO)
	x.until(1, api.GOver)
	x.log = nil
	x.until(0, api.GOver)
	want := "<fail1 v0 rv0 [{2 0 0}] []> <lost0 v0 rv0 [{0 0 5}] []> Clear[{0 0 5} {2 0 0}] 2,0 Give1 Begin2,0 Read0 Take1 Open2,1 Read2 DoneO[{2 11}] 9 <open1 v3 rv2 [{2 1 10}] [{2 11}]> Commit[] 0 <commit0 v0 rv2 [{0 0 5}] []> Give1 Over0 0"
	if got := strings.Join(x.log, " "); got != want {
		t.Errorf("%s, want\n%s", got, want)
	}
	// The commit of a compensation after the transaction is lost: the compensation runs again.
	x = start(t, before+"thread atomic (open l (o := 1) undo (fun u -> o := !o - 1); raise 4);; thread atomic (open k (o := !o + 10) undo (fun u -> ()));;", 0)
	x.until(0, api.GDoneU)
	x.until(1, api.GOver)
	x.log = nil
	x.until(0, api.GOver)
	want = "<fail1 v0 rv1 [{2 1 1}] []> AgainU[{2 1 1}] 0,0 Undo3,0 Read2 DoneU[{2 10}] 0 <undo1 v4 rv3 [{2 2 11}] [{2 10}]> Give1 Over1 4"
	if got := strings.Join(x.log, " "); got != want {
		t.Errorf("%s, want\n%s", got, want)
	}
	// The commit of a compensation within the transaction is lost: the transaction is given up, and the compensation is still the first one.
	x = start(t, before+"thread atomic (open k (o := 5) undo (fun u -> o := 6); (open l (o := 1) undo (fun u -> o := !o - 1); retry) orelse ());; thread atomic (open l2 (o := !o + 10) undo (fun u -> ()));;", 0)
	x.until(0, api.GDoneU)
	x.until(1, api.GOver)
	x.log = nil
	x.until(0, api.GBegin)
	want = "<fail1 v0 rv2 [{2 2 1}] []> <lost0 v0 rv0 [] []> Clear[{2 2 1}] 1,0 Undo2,0 Read2 DoneU[{2 10}] 0 <undo1 v5 rv4 [{2 3 11}] [{2 10}]> Undo3,0 DoneU[{2 6}] 0 <undo0 v6 rv5 [] [{2 6}]> Give1 Give0 Begin4,0"
	if got := strings.Join(x.log, " "); got != want {
		t.Errorf("%s, want\n%s", got, want)
	}
}

// Waiting threads: a change before the registration, and one after it.
func TestWait(t *testing.T) {
	text := before + "thread atomic (if !x < 9 then retry else y := !x);; thread (atomic (x := 7); atomic (x := 9));;"
	x := start(t, text, 0)
	x.until(0, api.GWatch)
	x.until(1, api.GCommit)
	x.schedule([2]int{1, 30})
	x.log = nil
	x.until(0, api.GOver)
	if got, want := strings.Join(x.log, " "), "Begin2,0 Read0 Commit[{1 9}] 0 <commit0 v3 rv2 [{0 2 9}] [{1 9}]> Over0 0"; got != want {
		t.Errorf("%s, want\n%s", got, want)
	}
	x = start(t, text, 0)
	x.until(0, api.GSleep)
	stamp := x.threads[0].Stamp
	x.schedule([2]int{0, 5})
	if x.threads[0].Phase != api.GSleep || len(x.threads[0].Log) != 0 || len(x.threads[0].Steps) != 0 {
		t.Error("not asleep")
	}
	x.until(1, api.GOver)
	x.log = nil
	x.until(0, api.GRead)
	if th := x.threads[0]; th.Stamp != stamp || th.Try != 2 || th.Aborts != 0 {
		t.Error("after sleeping", th)
	}
	x.until(0, api.GOver)
	if got, want := strings.Join(x.log, " "), "Begin2,0 Read0 Commit[{1 9}] 0 <commit0 v3 rv2 [{0 2 9}] [{1 9}]> Over0 0"; got != want {
		t.Errorf("%s, want\n%s", got, want)
	}
}

// P26.1
func TestProg(t *testing.T) {
	l, _ := layout.Of(api.Conf{Threads: 2, Locs: 1, Locks: 1})
	add := api.Access{Kind: api.AAdd, Cell: l.Stamps, New: 1}
	clock := api.Access{Kind: api.ALoad, Cell: l.Clock}
	store := func(cell, n int) api.Access { return api.Access{Kind: api.AStore, Cell: cell, New: n} }
	active := store(layout.Status(l, 1), word.Status(6, word.Active))
	for name, x := range map[string]struct {
		a, b int
		log  []api.Result
		want []api.Access
		out  api.Out
	}{
		"first":      {0, 0, []api.Result{val(4), val(9), val(9), val(7), val(8)}, []api.Access{add, store(layout.Stamp(l, 1), 5), active, clock}, api.Out{Rv: 7, Stamp: 5, Is: true}},
		"again":      {3, 0, []api.Result{val(9), val(7)}, []api.Access{active, clock}, api.Out{Rv: 7, Stamp: 3, Is: true}},
		"clock":      {3, 1, []api.Result{val(7)}, []api.Access{clock}, api.Out{Rv: 7, Stamp: 3, Is: true}},
		"clock only": {0, 1, []api.Result{val(7)}, []api.Access{clock}, api.Out{Rv: 7, Is: true}},
	} {
		var got []api.Access
		for n := 0; n <= len(x.log); n++ {
			a, out, done := tx.Prog(l, 1, api.Op{Kind: api.PBegin, A: x.a, B: x.b, Try: 6}, x.log[:n])
			if done {
				if out != x.out {
					t.Error(name, out)
				}
				continue
			}
			got = append(got, a)
		}
		if !slices.Equal(got, x.want) {
			t.Error(name, got)
		}
	}
	first := map[int]api.Access{
		api.PRead: {Kind: api.ALoad, Cell: layout.Word(l, 0)}, api.PCommit: {Kind: api.ALoad, Cell: layout.Status(l, 1)}, api.PAbort: store(layout.Karma(l, 1), 0),
		api.PWatch: store(layout.Wake(l, 1), 0), api.PSleep: {Kind: api.ALoad, Cell: layout.Wake(l, 1)}, api.PTake: {Kind: api.ALoad, Cell: layout.Lock(l, 0)}, api.PGive: store(layout.Lock(l, 0), 0),
	}
	for kind, want := range first {
		if a, _, done := tx.Prog(l, 1, api.Op{Kind: kind}, nil); done || a != want {
			t.Error(kind, a, done)
		}
	}
	for kind := -1; kind <= 9; kind++ {
		for _, me := range []int{-1, 2} {
			if _, out, done := tx.Prog(l, me, api.Op{Kind: kind}, nil); !done || out != (api.Out{Err: api.ErrArg}) {
				t.Error(kind, me, out)
			}
		}
	}
	for _, kind := range []int{-1, 0, 9} {
		if _, out, done := tx.Prog(l, 0, api.Op{Kind: kind}, nil); !done || out != (api.Out{Err: api.ErrArg}) {
			t.Error(kind, out)
		}
	}
}

// Errors of Start and Turn leave the thread as it was.
func TestErrors(t *testing.T) {
	c := compile(t, "ref x;; thread atomic (x := 1);; thread let rec f n = f n in f 1;;")
	l, _ := layout.Of(api.Conf{Threads: 2, Locs: 1})
	for _, me := range []int{-1, 2} {
		if th, err := tx.Start(c, l, me); err != api.ErrArg || !reflect.DeepEqual(th, api.Thread{}) {
			t.Error(me, err)
		}
	}
	if th, err := tx.Start(c, l, 1); err != api.ErrFuel || !reflect.DeepEqual(th, api.Thread{}) {
		t.Error(err)
	}
	th, err := tx.Start(c, l, 0)
	if err != api.OK || th.Phase != api.GBegin || th.Try != 1 {
		t.Fatal(th, err)
	}
	th.Steps = []int{4}
	for _, code := range []api.Errno{api.ErrArg, api.ErrFull, api.ErrFuel} {
		if got, attempts, err := tx.Turn(c, l, th, 0, api.Out{Is: true, Err: code}, 5); err != code || attempts != nil || !reflect.DeepEqual(got, th) {
			t.Error(code, err)
		}
	}
	next, attempts, err := tx.Turn(c, l, th, 0, api.Out{Is: true, Rv: 3, Stamp: 9}, 5)
	if err != api.OK || attempts != nil || next.Phase != api.GCommit || next.Rv != 3 || next.Stamp != 9 || next.First != 4 || len(next.Levels) != 1 || len(th.Levels) != 0 {
		t.Error(next, err)
	}
	over := next
	over.Phase = api.GOver
	if got, attempts, err := tx.Turn(c, l, over, 0, api.Out{Is: true}, 5); err != api.ErrArg || attempts != nil || !reflect.DeepEqual(got, over) {
		t.Error(err)
	}
	spent := th
	spent.Frame.Spent = vm.Fuel
	if got, _, err := tx.Turn(c, l, spent, 0, api.Out{Is: true}, 5); err != api.ErrFuel || !reflect.DeepEqual(got, spent) {
		t.Error(err)
	}
}

// Requests that are not possible in the state of a thread.
func TestForbidden(t *testing.T) {
	ins := func(ops ...api.Ins) api.Code {
		return api.Code{Funs: []api.Func{{Ins: ops}, {Ins: []api.Ins{{Op: api.ILocal}, {Op: api.IReturn}}}}, Threads: []int{0}, Checks: []int{1}, Locs: []int{0}, Open: []bool{false}, Durable: []bool{false}, Locks: 1}
	}
	op := func(o int) api.Ins { return api.Ins{Op: o} }
	num := api.Ins{Op: api.IPush, Val: api.Value{Kind: api.VInt, N: 1}}
	ref := api.Ins{Op: api.IPush, Val: api.Value{Kind: api.VRef}}
	fun := api.Ins{Op: api.IFun, A: 1}
	l, _ := layout.Of(api.Conf{Threads: 1, Locs: 1, Locks: 1})
	for name, c := range map[string]api.Code{
		"get":   ins(ref, op(api.IGet), op(api.IReturn)),
		"set":   ins(ref, num, op(api.ISet), op(api.IReturn)),
		"left":  ins(op(api.IOrElse), num, op(api.IReturn)),
		"retry": ins(op(api.IRetry)),
		"open":  ins(fun, op(api.IOpen), num, op(api.IReturn)),
	} {
		if _, err := tx.Start(c, l, 0); err != api.ErrArg {
			t.Error(name, err)
		}
	}
	inside := map[string][]api.Ins{
		"print":                 {op(api.IAtomic), num, op(api.IPrint), op(api.IReturn)},
		"a retry of all levels": {{Op: api.IOrElse}, op(api.IAtomic), op(api.IRetry)},
	}
	for name, l1 := range inside {
		c := ins(l1...)
		th, err := tx.Start(c, l, 0)
		if name == "print" {
			th.Steps = []int{0}
			_, _, err = tx.Turn(c, l, th, 0, api.Out{Is: true}, 1)
		}
		if err != api.ErrArg {
			t.Error(name, err)
		}
	}
	// Frames that do not fit the mode or the levels.
	c := ins(op(api.IAtomic), op(api.IEnd), num, op(api.IReturn))
	th, _ := tx.Start(c, l, 0)
	th.Steps = []int{0}
	for name, frame := range map[string]api.Frame{
		"done":           {Calls: []api.Call{{Fun: 0, Pc: 2}}},
		"exception":      {Raises: true},
		"undone":         {Calls: []api.Call{{Fun: 0, Pc: 2}}, Marks: []api.Mark{{Kind: api.IEndOpen}}},
		"failed open":    {Calls: []api.Call{{}}, Marks: []api.Mark{{Kind: api.IOpen, Calls: 1}}, Raises: true},
		"last left side": {Calls: []api.Call{{}}, Marks: []api.Mark{{Kind: api.IOrElse, Calls: 1}}, Raises: true},
	} {
		x := th
		x.Frame = frame
		if _, _, err := tx.Turn(c, l, x, 0, api.Out{Is: true}, 1); err != api.ErrArg {
			t.Error(name, err)
		}
	}
	open := th
	open.Phase = api.GOpen
	open.Levels = []api.Level{{}}
	for name, frame := range map[string]api.Frame{
		"atomic in an open block": {Calls: []api.Call{{}}},
		"end in an open block":    {Calls: []api.Call{{Pc: 1}}, Marks: []api.Mark{{Kind: api.IAtomic, Calls: 1}}},
		"done in an open block":   {Calls: []api.Call{{Pc: 2}}},
		"drop in an open block":   {Calls: []api.Call{{}}, Marks: []api.Mark{{Kind: api.IAtomic, Calls: 1}}, Raises: true},
	} {
		x := open
		x.Frame = frame
		if _, _, err := tx.Turn(c, l, x, 0, api.Out{Is: true}, 1); err != api.ErrArg {
			t.Error(name, err)
		}
	}
	// Requests that would be followed by a read, if they were not refused.
	call := []api.Call{{}}
	mark := func(kind int) []api.Mark {
		return []api.Mark{{Kind: kind, A: 1, Calls: 1, Top: api.Call{Fun: 0}}}
	}
	for name, x := range map[string]struct {
		first api.Ins
		marks []api.Mark
		open  bool
	}{
		"atomic in an open block": {op(api.IAtomic), nil, true}, "left in an open block": {op(api.IOrElse), nil, true}, "open in an open block": {fun, nil, true},
		"the end of an atomic block in an open one": {op(api.IEnd), mark(api.IAtomic), true}, "the end of a left side in an open block": {api.Ins{Op: api.IEndLeft, A: 1}, mark(api.IOrElse), true}, "a retry in an open block": {op(api.IRetry), mark(api.IOrElse), true}, "print in an open block": {num, nil, true},
		"the end of an open block": {op(api.IEndOpen), mark(api.IOpen), false}, "the last left side": {api.Ins{Op: api.IEndLeft, A: 1}, mark(api.IOrElse), false}, "the last retry": {op(api.IRetry), mark(api.IOrElse), false}, "print": {num, nil, false},
	} {
		rest := []api.Ins{x.first, ref, op(api.IGet), op(api.IRetry)}
		if x.first.Op == api.IFun {
			rest = []api.Ins{fun, op(api.IOpen), ref, op(api.IGet), op(api.IRetry)}
		}
		if x.first.Op == api.IPush {
			rest = []api.Ins{num, op(api.IPrint), ref, op(api.IGet), op(api.IRetry)}
		}
		c := ins(rest...)
		y := th
		y.Frame = api.Frame{Calls: call, Marks: x.marks}
		if x.open {
			y.Phase, y.Levels = api.GOpen, []api.Level{{}, {}}
		}
		if _, _, err := tx.Turn(c, l, y, 0, api.Out{Is: true}, 1); err != api.ErrArg {
			t.Error(name, err)
		}
		if x.open {
			continue
		}
		c.Funs[0].Ins = []api.Ins{ref, op(api.IGet), op(api.IRetry)}
		if next, _, err := tx.Turn(c, l, y, 0, api.Out{Is: true}, 1); err != api.OK || next.Phase != api.GRead {
			t.Error(name, "does not read", err)
		}
	}
}

// States that do not occur in any run must not stop Turn and Prog.
func TestStrangeStates(t *testing.T) {
	c := compile(t, before+"check !x < 9;; thread atomic (open l (o := 1) undo (fun u -> o := !o); x := !x + 1; (retry orelse ()));;")
	conf, _ := layout.For(c, 4, 1)
	l, _ := layout.Of(conf)
	r := rand.New(rand.NewSource(1))
	th, _ := tx.Start(c, l, 0)
	for range 3000 {
		x := th
		x.Phase, x.Mode, x.Then, x.Check = r.Intn(20)-2, r.Intn(5)-1, r.Intn(6)-1, r.Intn(4)-1
		x.Levels = make([]api.Level, r.Intn(3))
		x.Own = make([]api.Level, r.Intn(2))
		x.Steps = make([]int, r.Intn(2))
		x.Locks = make([]int, r.Intn(3))
		x.Undo = make([]api.Undo, r.Intn(2))
		if r.Intn(2) == 0 {
			x.Undoes = x.Frame
		}
		tx.Turn(c, l, x, r.Intn(3)-1, api.Out{Is: r.Intn(2) == 0, Lost: r.Intn(2) == 0, Val: r.Intn(1 << 50)}, r.Intn(9))
		log := make([]api.Result, r.Intn(20))
		for k := range log {
			log[k] = api.Result{Val: r.Intn(40) - 9, Ok: r.Intn(2) == 0}
		}
		tx.Prog(l, r.Intn(3)-1, api.Op{Kind: r.Intn(10), A: r.Intn(9) - 2, Seen: []api.Seen{{Loc: r.Intn(9) - 2}}, Writes: []api.Write{{Loc: r.Intn(4) - 1}}, Durable: []bool{true}}, log)
	}
}

// P26.5, under every manager and random schedules: increments are not lost, compensations undo exactly what was done, and locks are given back.
func TestInterleaving(t *testing.T) {
	text := before + "let add = fun r -> fun n -> r := !r + n;; let note = fun n -> o := !o + n;; let work = fun k -> atomic (open l (note k) undo (fun u -> note (0 - k)); add x k; if k == 3 then raise 1 else (if !y < 1 then retry else ()));; " +
		"thread (work 1; work 10);; thread try work 3 with e -> work 100;; thread (atomic (add x 1000); atomic (y := 1));;"
	for seed := range 120 {
		r := rand.New(rand.NewSource(int64(seed)))
		x := start(t, text, seed%4)
		for range 6000 {
			x.step(r.Intn(3))
		}
		opens, undone, taken := 0, 0, 0
		for _, s := range x.log {
			switch {
			case strings.HasPrefix(s, "<open"):
				opens++
			case strings.HasPrefix(s, "<undo"):
				undone++
			case strings.HasPrefix(s, "<commit"):
				taken++
			}
		}
		for me, th := range x.threads {
			if th.Phase != api.GOver || th.Kind != api.RVal {
				t.Fatal(seed, me, phases[th.Phase], x.log[len(x.log)-5:])
			}
		}
		if got := x.m.Cells[layout.Val(x.l, 0)]; got != 5+1111 {
			t.Error(seed, "x is", got)
		}
		if got := x.m.Cells[layout.Val(x.l, 2)]; got != 111 {
			t.Error(seed, "o is", got)
		}
		if opens-undone != 3 || taken != 5 {
			t.Error(seed, opens, undone, taken)
		}
		for k := range 2 {
			if x.m.Cells[layout.Lock(x.l, k)] != 0 {
				t.Error("a lock is held")
			}
		}
	}
}

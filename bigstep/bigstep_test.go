package bigstep_test

import (
	"fmt"
	"reflect"
	"slices"
	"strings"
	"testing"

	"hallmoot/api"
	"hallmoot/bigstep"
	"hallmoot/effect"
	"hallmoot/parse"
	"hallmoot/types"
	"hallmoot/value"
)

func must(t *testing.T, text string) api.Prog {
	t.Helper()
	p, err := parse.Of(text)
	if err != api.OK {
		t.Fatalf("%q: error %d", text, err)
	}
	return p
}

// sound returns a program that passes the checks of types and effects.
func sound(t *testing.T, text string) api.Prog {
	t.Helper()
	p := must(t, text)
	if err := effect.Why(p); err != api.OK {
		t.Fatalf("%q: error %d", text, err)
	}
	return p
}

// P9.1
func TestNames(t *testing.T) {
	p := must(t, "ref a;; lock k;; let b = 1;; check true;; array c 2;; thread fun d -> let e = d in let rec f g = (match Some e with None -> 1 | Some h -> try 2 with i -> 3) in 4;; ref z;; thread 5;;")
	want := map[int]string{}
	for k, n := range p.Nodes {
		switch {
		case n.Kind == api.ENum && n.N == 1 && k > 2, n.Kind == api.ESome, n.Kind == api.EMatch:
			want[k] = "a b c d e f g"
		case n.Kind == api.ENum && n.N == 2, n.Kind == api.ETry:
			want[k] = "a b c d e f g h"
		case n.Kind == api.ENum && n.N == 3:
			want[k] = "a b c d e f g h i"
		case n.Kind == api.ENum && n.N == 4:
			want[k] = "a b c d e f"
		case n.Kind == api.ERec:
			want[k] = "a b c d e"
		case n.Kind == api.EFun:
			want[k] = "a b c"
		case n.Kind == api.ELet:
			want[k] = "a b c d"
		case n.Kind == api.ENum && n.N == 5:
			want[k] = "a b c z"
		case k == 0, n.Kind == api.EBool:
			want[k] = map[int]string{0: "a", 1: "a b"}[k]
		}
	}
	if len(want) < 11 {
		t.Fatal(len(want))
	}
	for k, names := range want {
		if got := strings.Join(bigstep.Names(p, k), " "); got != names {
			t.Errorf("node %d: %s, want %s", k, got, names)
		}
	}
	if bigstep.Names(p, -1) != nil || bigstep.Names(p, len(p.Nodes)) != nil {
		t.Error("an invalid index")
	}
}

// P9.2
func TestLocs(t *testing.T) {
	p := must(t, "ref x = 4;; open array a 2;; lock l;; array e 0;; open ref y = 7;; array b 1;;")
	locs, open, err := bigstep.Locs(p)
	if err != api.OK || !slices.Equal(locs, []int{4, 0, 0, 7, 0}) || !slices.Equal(open, []bool{false, true, true, true, false}) {
		t.Error(locs, open, err)
	}
	for text, want := range map[string]api.Errno{"array a 32;;": api.OK, "array a 33;;": api.ErrFull, "array a 30;; ref b;; ref c;;": api.OK, "array a 30;; ref b;; array c 2;;": api.ErrFull, "array a 1099511627776;; array b 1099511627776;;": api.ErrFull} {
		p := must(t, text)
		locs, open, err := bigstep.Locs(p)
		if err != want || err != api.OK && (locs != nil || open != nil) {
			t.Error(text, err)
		}
		if _, err := bigstep.Start(p); err != want {
			t.Error(text, err)
		}
	}
}

func TestStart(t *testing.T) {
	p := sound(t, "ref x = 4;; let n = 2 * 3;; array a 2;; check true;; let f = fun u -> n;; array e 0;; let q = Some (n, a.[1]);; lock l;; let g = let rec r y = x in r;;")
	got, err := bigstep.Start(p)
	ref := api.Value{Kind: api.VRef, N: 0}
	six := value.Int(6)
	array := api.Value{Kind: api.VArray, N: 1, M: 2}
	empty := api.Value{Kind: api.VArray, N: 3}
	var fun, rec int
	for k, n := range p.Nodes {
		if n.Kind == api.EFun {
			fun = k
		}
		if n.Kind == api.ERec {
			rec = k
		}
	}
	f := api.Value{Kind: api.VFun, N: fun, Of: []api.Value{ref, six, array}}
	q := api.Value{Kind: api.VSome, Of: []api.Value{{Kind: api.VPair, Of: []api.Value{six, {Kind: api.VRef, N: 2}}}}}
	want := []api.Value{ref, six, array, f, empty, q}
	want = append(want, api.Value{Kind: api.VFun, N: rec, Of: slices.Clone(want)})
	if err != api.OK || !slices.EqualFunc(got, want, value.Same) {
		t.Error(got, err)
	}
	loop := "let rec f x = f x in f 1;;"
	for text, want := range map[string]api.Errno{
		"let y = raise 1;;": api.ErrArg, "array a 2;; let y = a.[2];;": api.ErrArg, "let y = " + loop: api.ErrFuel, "let y = raise 1;; let z = " + loop: api.ErrArg,
		"let z = " + loop + "let y = raise 1;;": api.ErrFuel, "let z = try raise 1 with e -> e;;": api.OK, "let y = raise 1;; array a 40;;": api.ErrFull,
	} {
		got, err := bigstep.Start(sound(t, text))
		if err != want || err != api.OK && got != nil {
			t.Error(text, err)
		}
	}
}

var kindNames = []string{"val", "exn", "retry", "fuel", "wrong", "stop"}

// show writes a result as text: its blocks, its output and its end.
func show(r api.ThreadResult) string {
	out := ""
	for _, b := range r.Blocks {
		out += fmt.Sprintf("%s%d%v ", kindNames[b.Kind], b.N, b.Locs)
	}
	return out + fmt.Sprintf("%v %s%d", r.Print, kindNames[r.Kind], r.N)
}

const before = "ref x;; ref y;; open ref o;; open ref q;; array a 2;; lock l;; let add = fun r -> fun n -> r := !r + n;; "

// Evaluation, of the thread's expression with memory 1 2 3 4 5 6 for every block.
func TestRun(t *testing.T) {
	for text, want := range map[string]string{
		"1":                                    "[] val0",
		"print (1 + 2 * 3)":                    "[7] val0",
		"(print 1; print 2; raise 3; print 4)": "[1 2] exn3",
		"print (let x = 4 in let x = x + 1 in x)":                           "[5] val0",
		"print ((fun u -> fun v -> u - v) 5 3)":                             "[2] val0",
		"print (let rec f n = if n < 1 then 0 else n + f (n - 1) in f 10)":  "[55] val0",
		"print (let k = 3 in let f = fun n -> n + k in let k = 100 in f k)": "[103] val0",
		"print (fst (1, 2) - snd (3, 4))":                                   "[-3] val0",
		"print (match None with None -> 1 | Some z -> z)":                   "[1] val0",
		"print (match Some 8 with None -> 1 | Some z -> z + 1)":             "[9] val0",
		"if false || true && 1 == 1 then print 1 else print 2":              "[1] val0",
		"print (try 1 + (raise 5) with e -> e * 2)":                         "[10] val0",
		"try raise 1 with e -> raise (e + 1)":                               "[] exn2",
		"print (try (print 1; a.[2]; 3) with e -> e)":                       "[1 -2] val0",
		"try (a.[0 - 1]; 1) with e -> e":                                    "[] val0",
		"print (1 - (raise 2) - (raise 3))":                                 "[] exn2",
		"((print 1; raise 8), raise 9)":                                     "[1] exn8",
		"atomic (x := !x + 1)":                                              "val0[2 2 3 4 5 6] [] val0",
		"(atomic (add x 10); print 5)":                                      "val0[11 2 3 4 5 6] [5] val0",
		"(atomic (x := 7); atomic (a.[1] := !x))":                           "val0[7 2 3 4 5 6] val0[1 2 3 4 5 1] [] val0",
		"print atomic !a.[0]":                                               "val0[1 2 3 4 5 6] [5] val0",
		"atomic (x := 9; raise 3)":                                          "exn3[1 2 3 4 5 6] [] exn3",
		"try atomic (x := 9; raise 3) with e -> print e":                    "exn3[1 2 3 4 5 6] [3] val0",
		"atomic (try (x := 9; raise 3) with e -> y := e)":                   "val0[9 3 3 4 5 6] [] val0",
		"atomic (try atomic (x := 9; raise 3) with e -> y := e)":            "val0[1 3 3 4 5 6] [] val0",
		"atomic (atomic (x := 9); y := 8)":                                  "val0[9 8 3 4 5 6] [] val0",
		"(fun u -> atomic (x := 9; raise 3)) ()":                            "exn3[1 2 3 4 5 6] [] exn3",
		"(print 1; atomic (x := 9; retry); print 2)":                        "retry0[1 2 3 4 5 6] [1] retry0",
		"try atomic retry with e -> print 1":                                "retry0[1 2 3 4 5 6] [] retry0",
		"atomic ((x := 9; retry) orelse (y := !x))":                         "val0[1 1 3 4 5 6] [] val0",
		"atomic (x := 8; (x := 9; retry) orelse (y := !x))":                 "val0[8 8 3 4 5 6] [] val0",
		"atomic ((x := 9) orelse (y := 7))":                                 "val0[9 2 3 4 5 6] [] val0",
		"atomic ((x := 9; retry) orelse (y := 7; retry) orelse (x := 5))":   "val0[5 2 3 4 5 6] [] val0",
		"atomic ((x := 9; retry) orelse retry)":                             "retry0[1 2 3 4 5 6] [] retry0",
		"atomic ((x := 9; raise 4) orelse (y := 1))":                        "exn4[1 2 3 4 5 6] [] exn4",
		"atomic (atomic ((x := 9; retry)) orelse (y := 7))":                 "val0[1 7 3 4 5 6] [] val0",
		"atomic (try ((x := 9; retry)) with e -> () orelse (y := 7))":       "retry0[1 2 3 4 5 6] [] retry0",
		"atomic ((try (x := 9; retry) with e -> ()) orelse (y := 7))":       "val0[1 7 3 4 5 6] [] val0",
		// Open blocks.
		"atomic (open l (o := 9) undo fun u -> o := 8)":                                                                                          "val0[1 2 9 4 5 6] [] val0",
		"atomic (open l (o := 9) undo (fun u -> o := 8); raise 4)":                                                                               "exn4[1 2 8 4 5 6] [] exn4",
		"atomic (x := 7; open l (o := !o + 1) undo (fun u -> o := !o - 1); raise 4)":                                                             "exn4[1 2 3 4 5 6] [] exn4",
		"atomic (open l (o := !o * 10 + 1) undo (fun u -> o := !o * 10 + 3); open l (o := !o * 10 + 2) undo (fun u -> o := !o * 10 + 4); retry)": "retry0[1 2 31243 4 5 6] [] retry0",
		"atomic (open l (o := 9; raise 5; ()) undo fun u -> o := 8)":                                                                             "exn5[1 2 3 4 5 6] [] exn5",
		"atomic (try open l (o := 9; raise 5) undo (fun u -> o := 8) with e -> x := e)":                                                          "val0[5 2 3 4 5 6] [] val0",
		"atomic (open l (o := 9) undo (fun u -> (q := 1; raise 7)); raise 4)":                                                                    "exn4[1 2 9 4 5 6] [] exn4",
		"atomic ((open l (o := 9) undo (fun u -> q := !o); x := 3; retry) orelse (y := 5))":                                                      "val0[1 5 9 9 5 6] [] val0",
		"atomic (try atomic (open l (o := 9) undo (fun u -> q := !o); x := 3; raise 1) with e -> y := e)":                                        "val0[1 1 9 9 5 6] [] val0",
		"atomic (try (open l (o := 9) undo (fun u -> q := !o); x := 3; raise 1) with e -> y := e)":                                               "val0[3 1 9 4 5 6] [] val0",
		"(atomic (open l (o := 9) undo (fun u -> q := 8)); atomic (raise 6))":                                                                    "val0[1 2 9 4 5 6] exn6[1 2 3 4 5 6] [] exn6",
		"atomic (let k = 5 in open l (o := 9; 2) undo (x := 6; fun u -> o := k); raise 1)":                                                       "exn1[1 2 5 4 5 6] [] exn1",
		"atomic ((atomic (open l (o := 9) undo (fun u -> q := !q + 1)); open l (o := 8) undo (fun u -> q := !q * 3); retry) orelse ())":          "val0[1 2 8 13 5 6] [] val0",
	} {
		p := sound(t, before+"thread "+text+";;")
		memory := []int{1, 2, 3, 4, 5, 6}
		r, err := bigstep.Run(p, 0, [][]int{memory, memory, memory}, bigstep.Fuel)
		if got := show(r); err != api.OK || got != want {
			t.Errorf("%q: %s (%d), want %s", text, got, err, want)
		}
		if !slices.Equal(memory, []int{1, 2, 3, 4, 5, 6}) {
			t.Fatal("the argument was modified")
		}
	}
}

// Blocks with invariants.
func TestChecks(t *testing.T) {
	for text, want := range map[string]string{
		"check !x < 9;; thread atomic (x := 9);;":                                    "exn-1[1] [] exn-1",
		"check !x < 9;; thread atomic (x := 8);;":                                    "val0[8] [] val0",
		"check !x < 1;; thread atomic !x;;":                                          "val0[1] [] val0",
		"check !x < 1;; thread atomic (x := !x);;":                                   "exn-1[1] [] exn-1",
		"check true;; check !x < 9;; thread try atomic (x := 9) with e -> print e;;": "exn-1[1] [-1] val0",
		"check raise 1;; thread atomic (x := 0);;":                                   "exn-1[1] [] exn-1",
		"check let rec f n = f n in f 1;; thread atomic (x := 0);;":                  "exn-1[1] [] exn-1",
		"check !x < 1;; thread atomic ((x := 9; retry) orelse ());;":                 "val0[1] [] val0",
		"check !x < 1;; thread atomic (try atomic (x := 9; raise 1) with e -> ());;": "val0[1] [] val0",
		"check !x < 1;; thread atomic (try (x := 9; raise 1) with e -> ());;":        "exn-1[1] [] exn-1",
		"let y = 9;; check !x < y;; let z = 1;; thread atomic (x := 9 - z);;":        "val0[8] [] val0",
	} {
		r, err := bigstep.Run(sound(t, "ref x;; "+text), 0, [][]int{{1}}, bigstep.Fuel)
		if got := show(r); err != api.OK || got != want {
			t.Errorf("%q: %s (%d), want %s", text, got, err, want)
		}
	}
	// The invariants see the open locations, too late for the compensation to have run; a failure compensates.
	r, _ := bigstep.Run(sound(t, "ref x;; open ref o;; lock l;; check !x < 9;; thread atomic (open l (o := 5) undo (fun u -> o := !o + 1); x := 9);;"), 0, [][]int{{1, 2}}, bigstep.Fuel)
	if got := show(r); got != "exn-1[1 6] [] exn-1" {
		t.Error(got)
	}
	r, _ = bigstep.Run(sound(t, "ref x;; open ref o;; lock l;; check false;; thread atomic open l (o := 5) undo (fun u -> o := !o + 1);;"), 0, [][]int{{1, 2}}, bigstep.Fuel)
	if got := show(r); got != "val0[1 5] [] val0" {
		t.Error("only open locations were set", got)
	}
}

// Fuel: each node takes one unit, when it is entered.
func TestFuel(t *testing.T) {
	p := sound(t, "ref x;; thread (print 1; atomic (x := 5; try x := !x + 1 with e -> ()); print 2);;")
	var want []string
	for fuel := 0; fuel <= 22; fuel++ {
		r, err := bigstep.Run(p, 0, [][]int{{3}}, fuel)
		if err != api.OK {
			t.Fatal(err)
		}
		want = append(want, show(r))
	}
	for fuel, got := range want {
		expected := "val0[6] [1 2] val0"
		switch {
		case fuel < 3:
			expected = "[] fuel0"
		case fuel < 5:
			expected = "[1] fuel0"
		case fuel < 9:
			expected = "fuel0[3] [1] fuel0"
		case fuel < 16:
			expected = "fuel0[5] [1] fuel0"
		case fuel < 18:
			expected = "val0[6] [1] fuel0"
		}
		if got != expected {
			t.Errorf("fuel %d: %s, want %s", fuel, got, expected)
		}
	}
	// Exhausted fuel is not ignored in a compensation, and invariants have fuel of their own.
	r, _ := bigstep.Run(sound(t, "open ref o;; lock l;; thread (try atomic (open l () undo (fun u -> let rec f n = f n in f 1); raise 1) with e -> print e);;"), 0, [][]int{{3}}, bigstep.Fuel)
	if got := show(r); got != "fuel0[3] [] fuel0" {
		t.Error(got)
	}
	r, _ = bigstep.Run(sound(t, "ref x;; check !x == !x;; thread atomic (x := 5);;"), 0, [][]int{{3}}, 4)
	if got := show(r); got != "val0[5] [] val0" {
		t.Error(got)
	}
}

// P9.3: blocks without an initial state, and errors in their order.
func TestRunArguments(t *testing.T) {
	p := sound(t, "ref x;; thread print 9;; let n = 4;; thread (atomic (x := n); print 1; atomic (x := 5));;")
	for _, x := range []struct {
		at   [][]int
		want string
	}{{nil, "[] stop0"}, {[][]int{{1}}, "val0[4] [1] stop0"}, {[][]int{{1}, {2}}, "val0[4] val0[5] [1] val0"}, {[][]int{{1}, {2}, {3}}, "val0[4] val0[5] [1] val0"}} {
		if r, err := bigstep.Run(p, 1, x.at, bigstep.Fuel); err != api.OK || show(r) != x.want {
			t.Error(x.at, show(r), err)
		}
	}
	if r, err := bigstep.Run(p, 0, nil, bigstep.Fuel); err != api.OK || show(r) != "[9] val0" {
		t.Error(show(r), err)
	}
	for _, x := range []struct {
		text         string
		thread, fuel int
		at           [][]int
		want         api.Errno
	}{
		{"thread 1;;", 1, 5, nil, api.ErrArg}, {"thread 1;;", -1, 5, nil, api.ErrArg}, {"thread 1;;", 0, -1, nil, api.ErrArg}, {"thread 1;;", 0, bigstep.Fuel + 1, nil, api.ErrArg},
		{"thread 1;;", 0, 0, nil, api.OK}, {"thread 1;; array a 40;;", 0, -1, nil, api.ErrArg}, {"thread 1;; array a 40;;", 0, 1, [][]int{{1}}, api.ErrFull},
		{"ref x;; thread 1;;", 0, 5, [][]int{{}}, api.ErrArg}, {"ref x;; thread 1;;", 0, 5, [][]int{{1, 2}}, api.ErrArg}, {"ref x;; thread 1;;", 0, 5, [][]int{{1}, {2}, {}}, api.ErrArg},
		{"ref x;; thread 1;;", 0, 5, [][]int{{api.Most + 1}}, api.ErrArg}, {"ref x;; thread 1;;", 0, 5, [][]int{{-api.Most - 1}}, api.ErrArg}, {"ref x;; thread 1;;", 0, 5, [][]int{{api.Most}, {-api.Most}}, api.OK},
		{"ref x;; let z = let rec f n = f n in f 1;; thread 1;;", 0, 5, [][]int{{}}, api.ErrArg}, {"ref x;; let z = let rec f n = f n in f 1;; thread 1;;", 0, 5, nil, api.ErrFuel}, {"let z = raise 1;; thread 1;;", 0, 5, nil, api.ErrArg},
	} {
		r, err := bigstep.Run(sound(t, x.text), x.thread, x.at, x.fuel)
		if err != x.want || err != api.OK && !reflect.DeepEqual(r, api.ThreadResult{}) {
			t.Error(x, err)
		}
	}
}

// P9.4
func TestHolds(t *testing.T) {
	for _, x := range []struct {
		text string
		locs []int
		fuel int
		want bool
		err  api.Errno
	}{
		{"ref x;;", []int{1}, 0, true, api.OK}, {"ref x;; check !x < 5;;", []int{4}, 100, true, api.OK}, {"ref x;; check !x < 5;;", []int{5}, 100, false, api.OK},
		{"ref x;; check !x < 5;;", []int{4}, 4, true, api.OK}, {"ref x;; check !x < 5;;", []int{4}, 3, false, api.OK}, {"ref x;; check !x < 5;; check !x < 6;;", []int{4}, 4, true, api.OK},
		{"ref x;; check !x < 5;; check !x < 3;;", []int{4}, 9, false, api.OK}, {"ref x;; check raise 1;;", []int{4}, 9, false, api.OK},
		{"ref x;;", []int{1}, -1, false, api.ErrArg}, {"ref x;;", []int{1}, bigstep.Fuel + 1, false, api.ErrArg}, {"ref x;;", nil, 1, false, api.ErrArg}, {"ref x;;", []int{1, 2}, 1, false, api.ErrArg},
		{"ref x;;", []int{api.Most + 1}, 1, false, api.ErrArg}, {"array a 33;;", nil, 1, false, api.ErrFull}, {"array a 33;;", make([]int, 33), 1, false, api.ErrFull}, {"array a 33;;", nil, -1, false, api.ErrArg}, {"let z = raise 1;;", nil, 1, false, api.ErrArg},
		{"let z = let rec f n = f n in f 1;;", nil, 1, false, api.ErrFuel}, {"let z = let rec f n = f n in f 1;;", []int{1}, 1, false, api.ErrArg},
	} {
		if got, err := bigstep.Holds(sound(t, x.text), x.locs, x.fuel); got != x.want || err != x.err {
			t.Error(x, got, err)
		}
	}
}

// Programs that are no trees must not stop Names and Locs.
func TestBroken(t *testing.T) {
	p := api.Prog{Decls: []api.Decl{{Kind: api.DThread, Body: 1}, {Kind: api.DThread, Body: 9}, {Kind: api.DCheck, Body: -1}, {Kind: api.DArray, N: -3}}, Nodes: []api.Node{{Kind: api.EApp, Name: "x", Of: []int{1, 0, 7, -1}}, {Kind: api.EFun, Name: "x", Of: []int{0, 1}}}}
	if got := bigstep.Names(p, 0); !slices.Equal(got, []string{"x"}) {
		t.Error(got)
	}
	if locs, _, err := bigstep.Locs(p); len(locs) != 0 || err != api.OK {
		t.Error(locs, err)
	}
	if _, err := bigstep.Run(p, 0, nil, 50); err != api.OK || bigstep.Fuel != 20000 {
		t.Error(err)
	}
}

// P9.5: more initial states extend the result.
func TestPrefix(t *testing.T) {
	p := sound(t, "ref x;; check !x < 50;; thread let rec f n = if n < 1 then () else (print atomic (x := !x + n; !x); (try atomic (x := 60) with e -> print e); f (n - 1)) in f 5;;")
	var at [][]int
	var last api.ThreadResult
	for i := range 12 {
		r, err := bigstep.Run(p, 0, at, bigstep.Fuel)
		if err != api.OK || len(r.Blocks) < len(last.Blocks) || len(r.Blocks) != min(i, 10) || !slices.EqualFunc(r.Blocks[:len(last.Blocks)], last.Blocks, func(a, b api.Block) bool { return reflect.DeepEqual(a, b) }) {
			t.Fatal(i, r, err)
		}
		for k, b := range r.Blocks {
			if b.Kind != api.RVal && !slices.Equal(b.Locs, at[k]) {
				t.Error("a failed block changed a location")
			}
			if holds, _ := bigstep.Holds(p, b.Locs, bigstep.Fuel); b.Kind == api.RVal && !holds {
				t.Error("an invariant does not hold")
			}
		}
		last = r
		at = append(at, []int{i})
	}
	if _, err := types.Of(p); err != api.OK {
		t.Error(err)
	}
}

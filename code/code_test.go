package code_test

import (
	"fmt"
	"math"
	"reflect"
	"slices"
	"strings"
	"testing"

	"hallmoot/api"
	"hallmoot/code"
	"hallmoot/parse"
	"hallmoot/value"
)

func must(t *testing.T, text string) api.Prog {
	t.Helper()
	p, err := parse.Of(text)
	if err != api.OK {
		t.Fatalf("%q: error %d", text, err)
	}
	return p
}

func compile(t *testing.T, text string) api.Code {
	t.Helper()
	c, err := code.Of(must(t, text))
	if err != api.OK {
		t.Fatalf("%q: error %d", text, err)
	}
	return c
}

var opNames = strings.Fields("? push local bind unbind fun call return jump false drop pair fst snd some none bin get set index raise try endtry atomic end orelse endleft retry open endopen print check")

// show writes a function as text: what it captures, and its instructions with their arguments.
func show(f api.Func) string {
	out := ""
	if f.Rec {
		out = "rec "
	}
	if f.Own > 0 {
		out += fmt.Sprintf("own%d ", f.Own)
	}
	for _, i := range f.Ins {
		out += opNames[i.Op]
		switch i.Op {
		case api.IPush:
			out += value.Show(i.Val)
		case api.ILocal, api.IUnbind, api.IJump, api.IFalse, api.INone, api.IBin, api.ITry, api.IEndTry, api.IOrElse, api.IEndLeft, api.IOpen:
			out += fmt.Sprint(i.A)
		case api.IFun:
			out += fmt.Sprintf("%d%v", i.A, i.L)
		}
		out += " "
	}
	return strings.TrimSpace(out)
}

const before = "ref x;; array a 3;; open ref o;; lock k;; lock l;; "

// P11.1 and P11.2: the functions of a program; the last one is that of the thread.
func TestFunctions(t *testing.T) {
	for text, want := range map[string]string{
		"ref x;; thread atomic x := 1;;":                                                  "atomic push@0 push1 set end return",
		before + "thread 7;;":                                                             "push7 return",
		before + "thread (true, ());;":                                                    "pushtrue push() pair return",
		before + "thread (false; None);;":                                                 "pushfalse drop pushNone return",
		before + "thread atomic (!x + !a.[2]);;":                                          "atomic push@0 get push@1#3 push2 index get bin1 end return",
		before + "thread fst snd (1, (Some 2, 3));;":                                      "push1 push2 some push3 pair pair snd fst return",
		before + "thread 1 - 2 * 3 < 4;;":                                                 "push1 push2 push3 bin3 bin2 push4 bin4 return",
		before + "thread true && (1 == 2 || false);;":                                     "pushtrue push1 push2 bin5 pushfalse bin7 bin6 return",
		before + "thread let y = 1 in let z = 2 in y + z;;":                               "push1 bind push2 bind local1 local2 bin1 unbind1 unbind1 return",
		before + "thread ((let y = 1 in y) + (let z = 2 in z));;":                         "push1 bind local1 unbind1 push2 bind local1 unbind1 bin1 return",
		before + "thread if true then print 1 else print 2;;":                             "pushtrue false5 push1 print jump7 push2 print return",
		before + "thread match Some 1 with None -> 2 | Some y -> y;;":                     "push1 some none6 local1 unbind1 jump7 push2 return",
		before + "thread match None with None -> raise 2 | Some y -> y;;":                 "pushNone none5 local1 unbind1 jump7 push2 raise return",
		before + "thread try raise 1 with e -> print e;;":                                 "try4 push1 raise endtry7 local1 print unbind1 return",
		before + "thread let y = 5 in try y with e -> e + y;;":                            "push5 bind try5 local1 endtry9 local2 local1 bin1 unbind1 unbind1 return",
		before + "thread atomic (retry orelse 1);;":                                       "atomic orelse4 retry endleft5 push1 end return",
		before + "thread atomic (open l (o := 1) undo fun u -> o := 2);;":                 "push@4 push2 set return | atomic fun0[] open1 push@4 push1 set endopen end return",
		before + "thread atomic (open k 1 undo fun u -> ());;":                            "push() return | atomic fun0[] open0 push1 endopen end return",
		before + "thread (fun y -> y + 1) 2;;":                                            "local0 push1 bin1 return | fun0[] push2 call return",
		before + "thread let y = 1 in fun z -> y + z;;":                                   "own1 local1 local0 bin1 return | push1 bind fun0[1] unbind1 return",
		before + "thread let y = 1 in let w = 2 in fun z -> let v = 3 in w + y + z + v;;": "own2 push3 bind local1 local2 bin1 local0 bin1 local3 bin1 unbind1 return | push1 bind push2 bind fun0[2 1] unbind1 unbind1 return",
		before + "thread let rec f n = f (n - 1) in f 3;;":                                "rec local1 local0 push1 bin2 call return | fun0[] bind local1 push3 call unbind1 return",
		before + "thread let y = 1 in let rec f n = (let q = y in f (n - q)) in f y;;":    "rec own1 local2 bind local1 local0 local3 bin2 call unbind1 return | push1 bind fun0[1] bind local2 local1 call unbind1 unbind1 return",
		before + "thread let rec f n = (fun m -> f (n + m)) 1 in f;;":                     "own2 local1 local2 local0 bin1 call return | rec fun0[1 0] push1 call return | fun1[] bind local1 unbind1 return",
		before + "let n = 4;; thread n + n;;":                                             "push4 return | fun0[] push() call fun0[] push() call bin1 return",
		before + "let f = fun u -> u;; let g = fun v -> f v;; thread g 1;;":               "local0 return | fun2[] push() call local0 call return | fun0[] return | fun1[] return | fun3[] push() call push1 call return",
		before + "check !x < 5;; thread 1;;":                                              "push@0 get push5 bin4 check | push1 return",
	} {
		c := compile(t, text)
		var got []string
		for _, f := range c.Funs {
			got = append(got, show(f))
			for _, i := range f.Ins {
				unused := i.Op != api.IPush && !reflect.DeepEqual(i.Val, api.Value{}) || i.Op != api.IFun && len(i.L) > 0
				switch i.Op {
				case api.IPush, api.IBind, api.ICall, api.IReturn, api.IDrop, api.IPair, api.IFst, api.ISnd, api.ISome, api.IGet, api.ISet, api.IIndex, api.IRaise, api.IAtomic, api.IEnd, api.IRetry, api.IEndOpen, api.IPrint, api.ICheck:
					unused = unused || i.A != 0
				}
				if unused {
					t.Errorf("%q: an unused field of %v", text, i)
				}
			}
		}
		if s := strings.Join(got, " | "); s != want {
			t.Errorf("%q:\n%s, want\n%s", text, s, want)
		}
	}
}

// P11.1: the other parts of the code.
func TestParts(t *testing.T) {
	c := compile(t, "ref x = 4;; check true;; thread 1;; open durable array a 2;; lock l;; let f = fun u -> u;; durable ref y;; check false;; lock m;; thread 2;;")
	if !slices.Equal(c.Locs, []int{4, 0, 0, 0}) || !slices.Equal(c.Open, []bool{false, true, true, false}) || !slices.Equal(c.Durable, []bool{false, true, true, true}) {
		t.Error(c.Locs, c.Open, c.Durable)
	}
	if c.Locks != 2 || len(c.Funs) != 6 || !slices.Equal(c.Checks, []int{1, 4}) || !slices.Equal(c.Threads, []int{2, 5}) {
		t.Error(c)
	}
	if !code.Right(c) {
		t.Error("not valid")
	}
}

func TestErrors(t *testing.T) {
	for text, want := range map[string]api.Errno{
		"thread y;;": api.ErrName, "thread 1 + true;; array a 40;;": api.ErrType, "ref x;; ref x;;": api.ErrDuplicate, "ref x;; thread !x;; array a 40;;": api.ErrEffect, "array a 33;;": api.ErrFull,
		"thread print !y;; ref y;;": api.ErrName,
	} {
		c, err := code.Of(must(t, text))
		if err != want || !reflect.DeepEqual(c, api.Code{}) {
			t.Errorf("%q: %d", text, err)
		}
	}
	if _, err := code.Of(api.Prog{Nodes: []api.Node{{}}}); err != api.ErrArg {
		t.Error(err)
	}
}

func fun(ins ...api.Ins) api.Code {
	return api.Code{Funs: []api.Func{{Ins: ins}}, Threads: []int{0}}
}

func op(op int) api.Ins    { return api.Ins{Op: op} }
func at(op, a int) api.Ins { return api.Ins{Op: op, A: a} }
func push(n int) api.Ins   { return api.Ins{Op: api.IPush, Val: value.Int(n)} }

var ret = op(api.IReturn)

// P11.3
func TestDepth(t *testing.T) {
	c := compile(t, before+"thread let y = try 5 with e -> e in match Some y with None -> if true then 1 else (raise 2; 3) | Some z -> atomic (retry orelse z);;")
	got := code.Depth(c, len(c.Funs)-1)
	names := ""
	for k, i := range c.Funs[len(c.Funs)-1].Ins {
		names += fmt.Sprintf("%s%d,%d ", opNames[i.Op], got[k][0], got[k][1])
	}
	want := "try0,0 push0,0 endtry1,0 local0,1 unbind1,1 bind1,0 local0,1 some1,1 none1,1 atomic0,2 orelse0,2 retry0,2 endleft-1,-1 local0,2 end1,2 unbind1,2 jump1,1 push0,1 false1,1 push0,1 jump1,1 push0,1 raise1,1 drop-1,-1 push-1,-1 unbind1,1 return1,0 "
	if names != want {
		t.Errorf("%s, want\n%s", names, want)
	}
	// Each instruction alone, on enough values and variables: what it does to the stack and the variables.
	effects := map[int][2]int{api.IPush: {1, 0}, api.ILocal: {1, 0}, api.IFun: {1, 0}, api.IBind: {-1, 1}, api.IUnbind: {0, -2}, api.ICall: {-1, 0}, api.IDrop: {-1, 0}, api.IPair: {-1, 0}, api.IFst: {0, 0}, api.ISnd: {0, 0}, api.ISome: {0, 0},
		api.INone: {-1, 1}, api.IBin: {-1, 0}, api.IGet: {0, 0}, api.ISet: {-1, 0}, api.IIndex: {-1, 0}, api.ITry: {0, 0}, api.IAtomic: {0, 0}, api.IEnd: {0, 0}, api.IOrElse: {0, 0}, api.IOpen: {-1, 0}, api.IEndOpen: {0, 0}, api.IPrint: {0, 0}, api.IFalse: {-1, 0}}
	start := []api.Ins{push(1), op(api.IBind), push(1), op(api.IBind), push(1), push(2), push(3)}
	for o := api.IPush; o <= api.ICheck; o++ {
		i := api.Ins{Op: o, Val: value.Int(1)}
		if o == api.IUnbind {
			i.A = 2
		}
		target := len(start) + 2
		switch o {
		case api.IJump, api.IFalse, api.INone, api.ITry, api.IEndTry, api.IOrElse, api.IEndLeft:
			i.A = target
		}
		d := code.Depth(fun(append(slices.Clone(start), i, op(api.IRetry), op(api.IRetry))...), 0)
		e, next := effects[o]
		want := [2]int{-1, -1}
		if next {
			want = [2]int{3 + e[0], 2 + e[1]}
		}
		if d == nil || d[len(start)+1] != want {
			t.Errorf("%s: %v", opNames[o], d)
			continue
		}
		jumps := map[int][2]int{api.IJump: {3, 2}, api.IFalse: {2, 2}, api.INone: {2, 2}, api.ITry: {3, 3}, api.IEndTry: {3, 2}, api.IOrElse: {3, 2}, api.IEndLeft: {3, 2}}
		want = [2]int{-1, -1}
		if w, ok := jumps[o]; ok {
			want = w
		}
		if d[target] != want {
			t.Errorf("%s at its target: %v", opNames[o], d)
		}
	}
}

func TestDepthFails(t *testing.T) {
	bad := map[string]api.Code{
		"no instructions":       fun(),
		"no function":           {},
		"pops an empty stack":   fun(op(api.IDrop), op(api.IRetry)),
		"pops two":              fun(push(1), op(api.IPair), ret),
		"return of nothing":     fun(ret),
		"raise of nothing":      fun(op(api.IRaise)),
		"unbinds too much":      fun(push(1), op(api.IBind), at(api.IUnbind, 2), op(api.IRetry)),
		"negative unbind":       fun(at(api.IUnbind, -1), op(api.IRetry)),
		"runs off the end":      fun(push(1)),
		"jumps off the end":     fun(at(api.IJump, 1)),
		"jumps before":          fun(at(api.IJump, -1)),
		"branch off the end":    fun(push(1), at(api.IFalse, 3), op(api.IRetry)),
		"two heights":           fun(push(1), at(api.IFalse, 3), push(1), op(api.IRetry)),
		"two numbers of locals": fun(push(1), at(api.INone, 2), op(api.IRetry)),
		"handler as next":       fun(at(api.ITry, 1), op(api.IRetry)),
		"a loop that grows":     fun(push(1), at(api.IJump, 0)),
		"get of nothing":        fun(op(api.IGet), op(api.IRetry)),
		"some of nothing":       fun(op(api.ISome), op(api.IRetry)),
		"print of nothing":      fun(op(api.IPrint), op(api.IRetry)),
		"set of one":            fun(push(1), op(api.ISet), op(api.IRetry)),
		"bind of nothing":       fun(op(api.IBind), op(api.IRetry)),
		"open with nothing":     fun(op(api.IOpen), op(api.IRetry)),
		"match of nothing":      fun(at(api.INone, 1), op(api.IRetry)),
		"check of nothing":      fun(op(api.ICheck)),
		"opcode 0":              fun(op(api.IRetry), op(0)),
		"opcode 32":             fun(op(api.IRetry), op(32)),
		"opcode -1":             fun(op(-1)),
	}
	for name, c := range bad {
		if d := code.Depth(c, 0); d != nil {
			t.Error(name, d)
		}
		if code.Right(c) {
			t.Error(name, "is valid")
		}
	}
	c := fun(op(api.IRetry), op(api.IDrop), at(api.IUnbind, -5), at(api.IJump, 99))
	if d := code.Depth(c, 0); !slices.Equal(d, [][2]int{{0, 0}, {-1, -1}, {-1, -1}, {-1, -1}}) || !code.Right(c) {
		t.Error("unreachable instructions", d)
	}
	if d := code.Depth(fun(at(api.IJump, 0)), 0); !slices.Equal(d, [][2]int{{0, 0}}) {
		t.Error("a loop", d)
	}
	if code.Depth(c, -1) != nil || code.Depth(c, 1) != nil || code.Depth(c, math.MaxInt) != nil {
		t.Error("an invalid index")
	}
}

// P11.4
func TestRight(t *testing.T) {
	good := func() api.Code {
		return api.Code{
			Funs: []api.Func{
				{Ins: []api.Ins{push(1), op(api.IBind), at(api.ILocal, 1), at(api.ILocal, 0), op(api.IPair), op(api.IDrop), {Op: api.IFun, A: 1, L: []int{0, 1}}, at(api.IOpen, 1), {Op: api.IPush, Val: api.Value{Kind: api.VArray, M: 2}}, ret}},
				{Own: 2, Rec: true, Ins: []api.Ins{at(api.ILocal, 3), push(2), at(api.IBin, api.OOr), ret}},
				{Ins: []api.Ins{{Op: api.IPush, Val: api.Value{Kind: api.VRef, N: 1}}, at(api.IGet, 1), op(api.ICheck)}},
			},
			Threads: []int{0}, Checks: []int{2}, Locs: []int{api.Most, -api.Most}, Open: []bool{true, false}, Durable: []bool{false, false}, Locks: 2,
		}
	}
	if !code.Right(good()) {
		t.Fatal("the code is not valid")
	}
	many := func(n int) []int { return make([]int, n) }
	for name, change := range map[string]func(*api.Code){
		"no functions":             func(c *api.Code) { c.Funs = nil },
		"too many functions":       func(c *api.Code) { c.Funs = append(c.Funs, make([]api.Func, api.MaxNode)...) },
		"too many locations":       func(c *api.Code) { c.Locs, c.Open, c.Durable = many(33), make([]bool, 33), make([]bool, 33) },
		"a large initial value":    func(c *api.Code) { c.Locs[0]++ },
		"a small initial value":    func(c *api.Code) { c.Locs[1]-- },
		"Open too short":           func(c *api.Code) { c.Open = c.Open[:1] },
		"Durable too long":         func(c *api.Code) { c.Durable = append(c.Durable, true) },
		"negative locks":           func(c *api.Code) { c.Locks = -1 },
		"too many locks":           func(c *api.Code) { c.Locks = api.MaxLock + 1 },
		"an unknown lock":          func(c *api.Code) { c.Locks = 1 },
		"no threads":               func(c *api.Code) { c.Threads = nil },
		"too many threads":         func(c *api.Code) { c.Threads = many(api.MaxThread + 1) },
		"too many invariants":      func(c *api.Code) { c.Checks = []int{2, 2, 2, 2, 2} },
		"a thread that captures":   func(c *api.Code) { c.Threads[0] = 1 },
		"a thread that is Rec":     func(c *api.Code) { c.Funs[0].Rec = true },
		"a thread that is missing": func(c *api.Code) { c.Threads[0] = 3 },
		"a negative thread":        func(c *api.Code) { c.Threads[0] = -1 },
		"an invariant is missing":  func(c *api.Code) { c.Checks[0] = 3 },
		"negative captures":        func(c *api.Code) { c.Funs[1].Own = -1 },
		"large captures":           func(c *api.Code) { c.Funs[1].Own = api.MaxNode + 1; c.Funs[0].Ins[6].L = many(api.MaxNode + 1) },
		"an unsound function":      func(c *api.Code) { c.Funs[2].Ins = c.Funs[2].Ins[:2] },
		"an unknown local":         func(c *api.Code) { c.Funs[0].Ins[2].A = 2 },
		"a negative local":         func(c *api.Code) { c.Funs[0].Ins[2].A = -1 },
		"an unknown captured one":  func(c *api.Code) { c.Funs[1].Ins[0].A = 4 },
		"an unknown function":      func(c *api.Code) { c.Funs[0].Ins[6].A = 3 },
		"a negative function":      func(c *api.Code) { c.Funs[0].Ins[6].A = -1 },
		"too few captures":         func(c *api.Code) { c.Funs[0].Ins[6].L = []int{0} },
		"too many captures":        func(c *api.Code) { c.Funs[0].Ins[6].L = []int{0, 1, 0} },
		"a capture is missing":     func(c *api.Code) { c.Funs[0].Ins[6].L = []int{0, 2} },
		"a negative capture":       func(c *api.Code) { c.Funs[0].Ins[6].L = []int{-1, 0} },
		"operator 0":               func(c *api.Code) { c.Funs[1].Ins[2].A = 0 },
		"operator 8":               func(c *api.Code) { c.Funs[1].Ins[2].A = 8 },
		"a mark of 2":              func(c *api.Code) { c.Funs[2].Ins[1].A = 2 },
		"a mark of -1":             func(c *api.Code) { c.Funs[2].Ins[1].A = -1 },
		"a negative lock":          func(c *api.Code) { c.Funs[0].Ins[7].A = -1 },
		"an invalid value":         func(c *api.Code) { c.Funs[0].Ins[0].Val = api.Value{} },
		"an unknown location":      func(c *api.Code) { c.Funs[2].Ins[0].Val.N = 2 },
		"a long array":             func(c *api.Code) { c.Funs[0].Ins[8].Val.M = 3 },
		"an empty array":           func(c *api.Code) { c.Funs[0].Ins[8].Val.M = 0 },
		"an unknown location inside": func(c *api.Code) {
			c.Funs[0].Ins[8].Val = api.Value{Kind: api.VPair, Of: []api.Value{value.Int(1), {Kind: api.VSome, Of: []api.Value{{Kind: api.VRef, N: 2}}}}}
		},
		"two values at a return": func(c *api.Code) { c.Funs[0].Ins[4], c.Funs[0].Ins[5] = op(api.IDrop), at(api.IUnbind, 0) },
		"two values at a check":  func(c *api.Code) { c.Funs[2].Ins[1] = push(1) },
	} {
		c := good()
		change(&c)
		if code.Right(c) {
			t.Error(name)
		}
	}
	c := good()
	c.Threads = []int{0, 0, 0, 0}
	c.Checks = []int{2, 2, 2, 2}
	c.Locks = api.MaxLock
	if !code.Right(c) {
		t.Error("the greatest numbers")
	}
	c = good()
	c.Funs[0].Ins[7].A = 0
	c.Funs[0].Ins[8].Val = api.Value{Kind: api.VPair, Of: []api.Value{{Kind: api.VRef, N: 1}, {Kind: api.VSome, Of: []api.Value{{Kind: api.VArray, N: 1, M: 1}}}}}
	c.Funs = append(c.Funs, api.Func{Own: api.MaxNode, Ins: []api.Ins{op(api.IRetry)}})
	for len(c.Funs) < api.MaxNode {
		c.Funs = append(c.Funs, api.Func{Ins: []api.Ins{op(api.IRetry)}})
	}
	if !code.Right(c) {
		t.Error("as many functions as possible")
	}
	c.Funs[3].Own++
	if code.Right(c) {
		t.Error("too many captured values")
	}
	c.Funs[3].Own--
	c.Funs = append(c.Funs, api.Func{Ins: []api.Ins{op(api.IRetry)}})
	if code.Right(c) {
		t.Error("too many functions")
	}
}

// P11.5: code is valid within the limits, later declarations and names do not matter.
func TestConsequences(t *testing.T) {
	text := before + "check !x < 5;; let f = fun u -> u + 1;; thread let y = f 3 in atomic (try (x := y; (retry orelse a.[y] := 2)) with e -> ());; "
	c := compile(t, text)
	if !code.Right(c) {
		t.Error("not valid")
	}
	longer := compile(t, text+"ref z = 5;; lock m;; check true;; let n = 3;; thread n;;")
	if !code.Right(longer) || !reflect.DeepEqual(longer.Funs[:len(c.Funs)], c.Funs) {
		t.Error("later declarations change the functions")
	}
	renamed := compile(t, strings.NewReplacer(" u ", " uu ", " y ", " z ", "[y]", "[z]", "y;", "z;", "x", "v1", " f ", " g ").Replace(text))
	if !reflect.DeepEqual(renamed, c) {
		t.Error("names change the code")
	}
	for text, want := range map[string]bool{
		"":                              false,
		"ref x;;":                       false,
		"thread 1;;":                    true,
		"array a 0;; thread 1;;":        true,
		"array a 0;; thread a;;":        false,
		"array a 32;; thread a;;":       true,
		strings.Repeat("thread 1;;", 4): true,
		strings.Repeat("thread 1;;", 5): false,
		strings.Repeat("check true;;", 4) + "thread 1;;":                                              true,
		strings.Repeat("check true;;", 5) + "thread 1;;":                                              false,
		"lock a;; lock b;; lock c;; lock d;; lock e;; lock f;; lock g;; lock h;; thread 1;;":          true,
		"lock a;; lock b;; lock c;; lock d;; lock e;; lock f;; lock g;; lock h;; lock i;; thread 1;;": false,
		"ref x = 1099511627776;; thread 1;;":                                                          true,
	} {
		if got := code.Right(compile(t, text)); got != want {
			t.Errorf("%q: %v", text, got)
		}
	}
}

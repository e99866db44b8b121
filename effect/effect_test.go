package effect_test

import (
	"math/bits"
	"slices"
	"testing"

	"hallmoot/api"
	"hallmoot/effect"
	"hallmoot/parse"
	"hallmoot/types"
)

func must(t *testing.T, text string) api.Prog {
	t.Helper()
	p, err := parse.Of(text)
	if err != api.OK {
		t.Fatalf("%q: error %d", text, err)
	}
	return p
}

const before = "ref x;; open ref o;; array a 3;; open array b 2;; lock l;; let get = fun u -> !x;; let deep = fun u -> fun v -> o := 1;; "

// effectOf returns the effect of the last node.
func effectOf(t *testing.T, text string) int {
	t.Helper()
	l, err := effect.Of(must(t, before+"thread "+text+";;"))
	if err != api.OK {
		t.Fatalf("%q: error %d", text, err)
	}
	return l[len(l)-1]
}

// P7.1: the equations.
func TestOf(t *testing.T) {
	for text, want := range map[string]int{
		"1": 0, "true": 0, "()": 0, "x": 0, "None": 0, "fun y -> x := 1": 0,
		"!x": api.FGet, "!o": api.FOpen, "!a.[0]": api.FGet, "!b.[0]": api.FOpen, "x := 1": api.FSet, "o := 1": api.FOpen,
		"x := !x": api.FSet | api.FGet, "o := !x": api.FOpen | api.FGet, "a.[!o] := 1": api.FSet | api.FOpen,
		"fun y -> !y": 0, "(fun y -> !y) x": api.FGet, "(fun y -> !y) o": api.FOpen,
		"retry": api.FRetry, "1 orelse 2": api.FRetry, "!x orelse (o := 1; 2)": api.FRetry | api.FGet | api.FOpen,
		"print !x": api.FPrint | api.FGet, "atomic (x := 1; retry)": api.FAtomic, "atomic (atomic ())": api.FAtomic,
		"open l (o := 1) undo fun u -> o := 2": api.FOpens, "open l (x := !o; print 1) undo (x := 3; fun u -> u)": api.FOpens | api.FSet,
		"get ()": api.FGet, "get": 0, "deep ()": 0, "deep () ()": api.FOpen,
		"let rec f y = print y in 1": 0, "let rec f y = print y in f 1": api.FPrint, "let rec f y = if y < 1 then print y else (x := 1; f (y - 1)) in f 3": api.FPrint | api.FSet,
		"let rec f y = 1 in !x":  api.FGet,
		"(!x, fun y -> print y)": api.FGet, "snd (1, fun y -> print y) 2": api.FPrint,
		"(if true then fun y -> print y else fun y -> x := y) 1":              api.FPrint | api.FSet,
		"let f = fun y -> print y in (fun g -> g 1) f":                        api.FPrint,
		"let h = fun g -> g 1 in (h (fun y -> print y); h (fun y -> x := y))": api.FPrint | api.FSet,
		"match Some !x with None -> retry | Some y -> print y":                api.FGet | api.FRetry | api.FPrint,
		"try raise !x with e -> print e":                                      api.FGet | api.FPrint, "let y = !x in print y": api.FGet | api.FPrint,
		"fst (!x, print 1)": api.FGet | api.FPrint, "Some !x": api.FGet, "if !x < 1 then print 1 else ()": api.FGet | api.FPrint, "!x + !o": api.FGet | api.FOpen,
		"(fun g -> g 1)": 0, "fun g -> g (print 1)": 0, "raise 1": 0, "(!x; 1)": api.FGet,
	} {
		if got := effectOf(t, text); got != want {
			t.Errorf("%q: %b, want %b", text, got, want)
		}
	}
	l, err := effect.Of(must(t, "ref x;; let f = fun u -> x := 1;; thread atomic f ();;"))
	if err != api.OK || !slices.Equal(l, []int{0, 0, 2, 0, 0, 0, 2, 32}) {
		t.Error(l, err)
	}
}

// P7.1: unreachable nodes have no effect and no part in the effects of arrows.
func TestUnreachable(t *testing.T) {
	p := api.Prog{Decls: []api.Decl{{Kind: api.DThread, Body: 3}}, Nodes: []api.Node{{Kind: api.ENum}, {Kind: api.EPrint, Of: []int{0}}, {Kind: api.EFun, Name: "u", Of: []int{1}}, {Kind: api.ERetry}}}
	if l, err := effect.Of(p); err != api.OK || !slices.Equal(l, []int{0, 0, 0, api.FRetry}) {
		t.Error(l, err)
	}
	p = api.Prog{Decls: []api.Decl{{Kind: api.DThread, Body: 3}}, Nodes: []api.Node{{Kind: api.ENum}, {Kind: api.EPrint, Of: []int{0}}, {Kind: api.EAtomic, Of: []int{1}}, {Kind: api.EUnit}}}
	if err := effect.Why(p); err != api.OK {
		t.Error(err)
	}
}

// P7.2
func TestWhy(t *testing.T) {
	for text, want := range map[string]api.Errno{
		"thread !x;;": api.ErrEffect, "thread x := 1;;": api.ErrEffect, "thread !o;;": api.ErrEffect, "thread retry;;": api.ErrEffect, "thread 1 orelse 2;;": api.ErrEffect,
		"thread open l () undo fun u -> u;;": api.ErrEffect, "thread get ();;": api.ErrEffect, "thread get;;": api.OK, "thread print 1;;": api.OK, "thread atomic (x := !x);;": api.OK,
		"thread (print 1; atomic retry; print 2);;": api.OK, "thread fun u -> !x;;": api.OK,
		"check !x < 1;;": api.OK, "check !o < 1;;": api.ErrEffect, "check (x := 1; true);;": api.ErrEffect, "check atomic true;;": api.ErrEffect, "check retry;;": api.ErrEffect, "check (print 1; true);;": api.ErrEffect,
		"check get () < 1;;": api.OK,
		"let y = !x;;":       api.ErrEffect, "let y = atomic 1;;": api.ErrEffect, "let y = print 1;;": api.ErrEffect, "let y = retry;;": api.ErrEffect, "let y = fun u -> print !x;;": api.OK, "let y = raise 1;;": api.OK,
		"thread atomic print 1;;": api.ErrEffect, "thread atomic !o;;": api.ErrEffect, "thread atomic (deep () ());;": api.ErrEffect, "thread atomic deep ();;": api.OK,
		"thread fun u -> atomic print 1;;": api.ErrEffect, "thread atomic atomic retry;;": api.OK, "let f = fun u -> atomic (o := 1);;": api.ErrEffect,
		"thread atomic (open l (o := 1) undo fun u -> o := 2);;": api.OK, "thread atomic (open l (x := 1) undo fun u -> ());;": api.ErrEffect,
		"thread atomic (open l !x undo fun u -> ());;": api.ErrEffect, "thread atomic (open l atomic 1 undo fun u -> ());;": api.ErrEffect, "thread atomic (open l print 1 undo fun u -> ());;": api.ErrEffect,
		"thread atomic (open l retry undo fun u -> ());;": api.ErrEffect, "thread atomic (open l (open l 1 undo fun u -> ()) undo fun u -> ());;": api.ErrEffect,
		"thread atomic (open l 1 undo fun u -> x := 1);;": api.ErrEffect, "thread atomic (open l 1 undo fun u -> print 1);;": api.ErrEffect, "thread atomic (open l 1 undo (x := 1; fun u -> ()));;": api.OK,
		"thread atomic (open l 1 undo retry);;": api.OK, "thread atomic (open l 1 undo if true then fun u -> u else fun u -> x := 1);;": api.ErrEffect,
		"thread 1 + true;;": api.ErrType, "thread q;;": api.ErrName, "ref x;;": api.ErrDuplicate,
	} {
		p := must(t, before+text)
		if got := effect.Why(p); got != want {
			t.Errorf("%q: %d, want %d", text, got, want)
		}
		l, err := effect.Of(p)
		if _, typed := types.Of(p); err != typed || err != api.OK && l != nil {
			t.Errorf("%q: Of returns %d", text, err)
		}
	}
	if err := effect.Why(api.Prog{Nodes: []api.Node{{}}}); err != api.ErrArg {
		t.Error(err)
	}
}

// P7.3: no smaller solution exists: what a chain of functions does reaches its end, and a function that is never applied does nothing.
func TestLeast(t *testing.T) {
	text := "let f0 = fun u -> print u in "
	for i := range 12 {
		a, b := string(rune('a'+i)), string(rune('a'+i+1))
		if i == 0 {
			text += "let b = fun u -> f0 u in "
			continue
		}
		text += "let " + b + " = fun u -> " + a + " u in "
	}
	if got := effectOf(t, text+"m 1"); got != api.FPrint {
		t.Errorf("%b", got)
	}
	if got := effectOf(t, text+"m"); got != 0 {
		t.Errorf("%b", got)
	}
	if got := effectOf(t, "let rec f y = f (y + 1) in f 1"); got != 0 {
		t.Errorf("%b", got)
	}
	// Backward dependence: the function is applied before its body is known to have an effect.
	if got := effectOf(t, "let rec f g = (f (fun u -> ()); g 1; retry) in f (fun u -> print u)"); bits.OnesCount(uint(got)) != 2 {
		t.Errorf("%b", got)
	}
}

package parse_test

import (
	"math/rand"
	"reflect"
	"strconv"
	"strings"
	"testing"

	"hallmoot/api"
	"hallmoot/lex"
	"hallmoot/parse"
)

func must(t *testing.T, text string) api.Prog {
	t.Helper()
	p, err := parse.Of(text)
	if err != api.OK {
		t.Fatalf("%q: error %d", text, err)
	}
	return p
}

// show writes an expression with all its fields, so that trees can be compared by text.
func show(p api.Prog, k int) string {
	n := p.Nodes[k]
	out := strconv.Itoa(n.Kind)
	if n.N != 0 {
		out += "#" + strconv.Itoa(n.N)
	}
	if n.Name != "" {
		out += ":" + n.Name
	}
	if n.Name2 != "" {
		out += ":" + n.Name2
	}
	if len(n.Of) == 0 {
		return out
	}
	var parts []string
	for _, c := range n.Of {
		parts = append(parts, show(p, c))
	}
	return out + "(" + strings.Join(parts, " ") + ")"
}

// P5.1
func TestDepth(t *testing.T) {
	for text, want := range map[string]int{"": 0, "a": 0, "()": 1, "(())()": 2, "a.[b.[(c)]]": 3, ")))((": 0, "]( ((": 2, "(a)(b)(c)": 1, "=,;": 0} {
		l, _ := lex.Words(text)
		if got := parse.Depth(l); got != want {
			t.Errorf("%q: %d", text, got)
		}
	}
}

// P5.2: declarations.
func TestDecls(t *testing.T) {
	p := must(t, "ref x;; open ref y = 4;; durable ref z=0;; open durable array a 3;; array b 0;; lock l;; check true;; let f = 1;; thread 2;;")
	want := []api.Decl{
		{Kind: api.DRef, Name: "x"}, {Kind: api.DRef, Name: "y", N: 4, Open: true}, {Kind: api.DRef, Name: "z", Durable: true},
		{Kind: api.DArray, Name: "a", N: 3, Open: true, Durable: true}, {Kind: api.DArray, Name: "b"}, {Kind: api.DLock, Name: "l"},
		{Kind: api.DCheck, Body: 0}, {Kind: api.DLet, Name: "f", Body: 1}, {Kind: api.DThread, Body: 2},
	}
	if !reflect.DeepEqual(p.Decls, want) || len(p.Nodes) != 3 {
		t.Error(p.Decls)
	}
	if p := must(t, " \n"); len(p.Decls) != 0 || len(p.Nodes) != 0 {
		t.Error(p)
	}
}

// P5.2: expressions, as the nodes' kinds, numbers, names and children.
func TestNodes(t *testing.T) {
	for text, want := range map[string]string{
		"7":                                    "1#7",
		"true":                                 "2#1",
		"false":                                "2",
		"()":                                   "3",
		"( )":                                  "3",
		"x":                                    "4:x",
		"None":                                 "14",
		"retry":                                "25",
		"((x))":                                "4:x",
		"fun x -> x":                           "5:x(4:x)",
		"f x y":                                "6(6(4:f 4:x) 4:y)",
		"let x = 1 in x; y":                    "7:x(1#1 10(4:x 4:y))",
		"let rec f x = 1 in f":                 "8:f:x(1#1 4:f)",
		"if a then b else c := d":              "9(4:a 4:b 19(4:c 4:d))",
		"(a; b; c)":                            "10(4:a 10(4:b 4:c))",
		"(a, b)":                               "11(4:a 4:b)",
		"(a; b, c; d)":                         "11(10(4:a 4:b) 10(4:c 4:d))",
		"fst snd Some !x":                      "12(13(15(18(4:x))))",
		"Some x y":                             "6(15(4:x) 4:y)",
		"f !x":                                 "6(4:f 18(4:x))",
		"!a.[1].[2]":                           "18(20(20(4:a 1#1) 1#2))",
		"a.[b; c]":                             "20(4:a 10(4:b 4:c))",
		"f a.[1]":                              "6(4:f 20(4:a 1#1))",
		"a + b - c":                            "17#2(17#1(4:a 4:b) 4:c)",
		"a + b * c f":                          "17#1(4:a 17#3(4:b 6(4:c 4:f)))",
		"a * b * c":                            "17#3(17#3(4:a 4:b) 4:c)",
		"a < b + 1":                            "17#4(4:a 17#1(4:b 1#1))",
		"a == b && c || d && e":                "17#7(17#6(17#5(4:a 4:b) 4:c) 17#6(4:d 4:e))",
		"a || b || c":                          "17#7(17#7(4:a 4:b) 4:c)",
		"a && b && c":                          "17#6(17#6(4:a 4:b) 4:c)",
		"a orelse b orelse c":                  "24(24(4:a 4:b) 4:c)",
		"a orelse b := c orelse d":             "19(24(4:a 4:b) 24(4:c 4:d))",
		"a := b := c":                          "19(4:a 19(4:b 4:c))",
		"x := !x + 1":                          "19(4:x 17#1(18(4:x) 1#1))",
		"raise a + 1":                          "21(17#1(4:a 1#1))",
		"print atomic raise 1":                 "27(23(21(1#1)))",
		"try a with x -> b":                    "22:x(4:a 4:b)",
		"open l a undo fun u -> b":             "26:l(4:a 5:u(4:b))",
		"match a with None -> b | Some x -> c": "16:x(4:a 4:b 4:c)",
		"match a with None -> match b with None -> 1 | Some x -> 2 | Some y -> z := 3": "16:y(4:a 16:x(4:b 1#1 1#2) 19(4:z 1#3))",
	} {
		p := must(t, "thread "+text+";;")
		if p.Decls[0].Body != len(p.Nodes)-1 {
			t.Errorf("%q: the last node is not the root", text)
		}
		if got := show(p, p.Decls[0].Body); got != want {
			t.Errorf("%q: %s", text, got)
		}
	}
	p := must(t, "ref x;; thread atomic x := !x + 1;;")
	var kinds []int
	for _, n := range p.Nodes {
		kinds = append(kinds, n.Kind)
	}
	if !reflect.DeepEqual(kinds, []int{api.EVar, api.EVar, api.EGet, api.ENum, api.EBin, api.ESet, api.EAtomic}) {
		t.Error("postorder", kinds)
	}
}

func TestErrors(t *testing.T) {
	for _, text := range []string{
		"a:b", "01", "ref", "ref x", "ref x;", "ref 3;;", "ref let;;", "ref x = y;;", "ref x = -1;;", "array a;;", "array a = 3;;", "durable open ref x;;", "open lock l;;",
		"durable thread 1;;", "lock;;", "lock x = 1;;", "let x;;", "let = 1;;", "check;;", "thread;;", "thread 1", "thread (1;;", "thread 1);;", "thread 1; 2;;", "1;;", ";;",
		"thread a == b == c;;", "thread a < b < c;;", "thread let x = 1;;", "thread let x = 1; 2 in x;;", "thread fun x;;", "thread fun 1 -> x;;", "thread fun if -> 1;;",
		"thread if a then b;;", "thread match a with Some x -> a | None -> b;;", "thread match a with None -> a;;", "thread try a;;", "thread open l a;;", "thread open a undo b;;",
		"thread (1, 2, 3);;", "thread (,);;", "thread (1,);;", "thread a.[1;;", "thread a.[];;", "thread f fun x -> x;;", "thread - 1;;", "thread a +;;", "thread a orelse;;",
		"thread a := ;;", "thread ref;;", "thread lock;;", "thread durable;;", "thread in;;", "thread raise;;", "thread !;;", "thread Some;;", "thread f raise 1;;", "thread let rec f = 1 in f;;",
		"thread None x -> ;;", "thread a ] b;;", "let rec f x = 1;;",
	} {
		if p, err := parse.Of(text); err != api.ErrSyntax || p.Decls != nil || p.Nodes != nil {
			t.Errorf("%q: error %d", text, err)
		}
	}
	deep := func(n int) string { return "thread " + strings.Repeat("(", n) + "1" + strings.Repeat(")", n) + ";;" }
	must(t, deep(api.MaxDeep))
	for _, text := range []string{deep(api.MaxDeep + 1), strings.Repeat("(", api.MaxDeep+1), strings.Repeat(" ", api.MaxText+1)} {
		if _, err := parse.Of(text); err != api.ErrLimit {
			t.Error(len(text), err)
		}
	}
	// 2n-1 nodes of a sum of n numbers; a syntax error comes before the limit of nodes.
	sum := func(n int) string { return "thread 1" + strings.Repeat("+1", n-1) + ";;" }
	must(t, sum(400)+"thread 1;;")
	for text, want := range map[string]api.Errno{sum(401): api.ErrLimit, sum(401) + "ref;;": api.ErrSyntax} {
		if _, err := parse.Of(text); err != want {
			t.Error(len(text), err)
		}
	}
}

// P5.3
func TestText(t *testing.T) {
	for text, want := range map[string]string{
		"": "",
		"ref x = 0;; ref y=3 ;;open durable array a 3;;lock l;;": "ref x;;ref y=3;;open durable array a 3;;lock l;;",
		"thread atomic x := !x + 1;;":                            "thread atomic(x:=((!x)+1));;",
		"check (!x < 9);;":                                       "check(!x)<9;;",
		"let f = fun x -> x;;":                                   "let f=fun x->x;;",
		"thread (a; b);;":                                        "thread(a;b);;",
		"thread f x 1 ();;":                                      "thread((f x)1)();;",
		"thread (a, (b; c, d));;":                                "thread(a,(b;c,d));;",
		"thread a.[1 + 2].[b; c];;":                              "thread a.[1+2].[b;c];;",
		"thread (f x).[1];;":                                     "thread(f x).[1];;",
		"thread let rec f x = f x in f 1;;":                      "thread let rec f x=(f x)in(f 1);;",
		"thread let y = a.[1] in None;;":                         "thread let y=a.[1]in None;;",
		"thread if a then b else true;;":                         "thread if a then b else true;;",
		"thread match Some 1 with None -> 2 | Some x -> retry;;": "thread match(Some 1)with None->2|Some x->retry;;",
		"thread try raise 1 with e -> print e;;":                 "thread try(raise 1)with e->(print e);;",
		"thread open l o := 1 undo fun u -> o := 0;;":            "thread open l(o:=1)undo(fun u->(o:=0));;",
		"thread a orelse b || c && d == e - f * g;;":             "thread a orelse(b||(c&&(d==(e-(f*g)))));;",
		"thread A9 Z9 zA a0 az_;;":                               "thread(((A9 Z9)zA)a0)az_;;",
		"thread fst snd (1,false);;":                             "thread fst(snd(1,false));;",
	} {
		if got := parse.Text(must(t, text)); got != want {
			t.Errorf("%q: %q, want %q", text, got, want)
		}
	}
}

// expr writes a random expression; in parentheses, because its context is unknown.
func expr(r *rand.Rand, depth int) string {
	simple := []string{"0", "17", "true", "false", "()", "x", "y_1", "None", "retry"}
	if depth == 0 {
		return simple[r.Intn(len(simple))]
	}
	shapes := []string{"fun x -> E", "E E", "let x = E in E", "let rec f x = E in E", "if E then E else E", "E; E", "E, E", "fst E", "snd E", "Some E",
		"match E with None -> E | Some z -> E", "E + E", "E - E", "E * E", "E < E", "E == E", "E && E", "E || E", "!E", "E := E", "E.[E]", "E.[E; E]",
		"raise E", "try E with z -> E", "atomic E", "E orelse E", "open l E undo E", "print E"}
	out := shapes[r.Intn(len(shapes))]
	for strings.Contains(out, "E") {
		out = strings.Replace(out, "E", strings.ToLower(expr(r, depth-1)), 1)
	}
	return "(" + strings.NewReplacer("none", "None", "some", "Some").Replace(out) + ")"
}

// P5.4: printing and parsing again yields the same program, and its nodes form trees.
func TestRoundTrip(t *testing.T) {
	r := rand.New(rand.NewSource(3))
	for range 2000 {
		p, err := parse.Of("ref x = 2;; open array a 3;; check " + expr(r, 2) + ";; let z = " + expr(r, 3) + ";; thread " + expr(r, 3) + ";;")
		if err != api.OK {
			t.Fatal(err)
		}
		text := parse.Text(p)
		if len(text) > api.MaxText {
			continue
		}
		again, err := parse.Of(text)
		if err != api.OK || !reflect.DeepEqual(again, p) {
			t.Fatalf("%q: %d", text, err)
		}
		used := make([]int, len(p.Nodes))
		for k, n := range p.Nodes {
			for _, c := range n.Of {
				if c < 0 || c >= k {
					t.Fatal("a child behind its parent")
				}
				used[c]++
			}
		}
		for _, d := range p.Decls {
			if d.Kind >= api.DCheck {
				used[d.Body]++
			}
		}
		for k, n := range used {
			if n != 1 {
				t.Fatal(k, n)
			}
		}
	}
	a, b := must(t, "thread(a+b);;"), must(t, "\tthread ( ( a )\n+ b ) ;; ")
	if !reflect.DeepEqual(a, b) {
		t.Error("white space and parentheses change the program")
	}
}

// Programs that Of never returns must not stop the printer.
func TestTextOfBrokenPrograms(t *testing.T) {
	loop := api.Prog{Decls: []api.Decl{{Kind: api.DThread}, {Kind: api.DThread, Body: 7}, {Kind: 99}}, Nodes: []api.Node{{Kind: api.EApp, Of: []int{0, 0}}}}
	parse.Text(loop)
	parse.Text(api.Prog{Decls: []api.Decl{{Kind: api.DThread, Body: -1}, {Kind: api.DCheck}}, Nodes: []api.Node{{Kind: api.EPair}}})
}

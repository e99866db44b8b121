package closure_test

import (
	"fmt"
	"reflect"
	"slices"
	"strings"
	"testing"

	"hallmoot/api"
	"hallmoot/closure"
	"hallmoot/parse"
)

func must(t *testing.T, text string) api.Prog {
	t.Helper()
	p, err := parse.Of(text)
	if err != api.OK {
		t.Fatalf("%q: error %d", text, err)
	}
	return p
}

// show writes for each variable, in the order of the nodes, its name and its binder (the kind of the node and the part, or the declaration), and for each function what it captures.
func show(p api.Prog, c api.Closed) string {
	binder := func(b api.Cap) string {
		if b.Node < 0 {
			return fmt.Sprintf("d%d", b.Part)
		}
		return fmt.Sprintf("%d.%d", b.Node, b.Part)
	}
	var out []string
	for k, n := range p.Nodes {
		switch n.Kind {
		case api.EVar:
			out = append(out, n.Name+"="+binder(c.Name[k]))
		case api.EFun, api.ERec:
			own := fmt.Sprintf("%d:", k)
			for _, b := range c.Own[k] {
				own += " " + binder(b)
			}
			out = append(out, own)
		}
	}
	return strings.Join(out, ", ")
}

// P10.1: binders and captured variables.
func TestOf(t *testing.T) {
	for text, want := range map[string]string{
		"ref x;; thread x;;": "x=d0",
		"lock l;; array x 1;; let y = x;; check true;; let z = 0;; thread (x.[z], y);;": "x=d1, x=d1, z=d4, y=d2",
		"thread fun x -> x;;":                                                       "x=1.0, 1:",
		"thread let x = 1 in fun y -> x + y;;":                                      "x=5.0, y=4.0, 4: 5.0",
		"thread let x = 1 in fun y -> y + x * x;;":                                  "y=6.0, x=7.0, x=7.0, 6: 7.0",
		"thread let rec f x = f x in f;;":                                           "f=4.0, x=4.1, f=4.0, 4:",
		"thread let rec f f = f + 1 in f 1;;":                                       "f=6.1, f=6.0, 6:",
		"thread let rec f x = 1 in fun y -> f y;;":                                  "f=5.0, y=4.0, 4: 5.0, 5:",
		"thread fun a -> fun b -> fun c -> a + c;;":                                 "a=5.0, c=3.0, 3: 5.0, 4: 5.0, 5:",
		"thread fun a -> fun b -> (b + a; fun c -> a + b);;":                        "b=8.0, a=9.0, a=9.0, b=8.0, 6: 9.0 8.0, 8: 9.0, 9:",
		"thread fun a -> let x = a in fun b -> x;;":                                 "a=4.0, x=3.0, 2: 3.0, 4:",
		"thread fun a -> try a with e -> (fun u -> e) ();;":                         "a=6.0, e=5.0, 2: 5.0, 6:",
		"thread fun m -> match m with None -> 1 | Some x -> (fun u -> x) 2;;":       "m=7.0, x=6.0, 3: 6.0, 7:",
		"thread let x = 1 in let x = x + 1 in x;;":                                  "x=6.0, x=5.0",
		"ref x;; thread ((let x = 1 in x); x);;":                                    "x=2.0, x=d0",
		"thread try 1 with x -> x;;":                                                "x=2.0",
		"thread let x = 1 in let rec f y = if y < 1 then x else f (y - 1) in f x;;": "y=14.1, x=15.0, f=14.0, y=14.1, f=14.0, x=15.0, 14: 15.0",
		"ref g;; thread fun a -> !g + a;;":                                          "g=d0, a=4.0, 4:",
		"thread let rec f x = ((fun y -> f (x + y)) 1; 2) in f 0;;":                 "f=13.0, x=13.1, y=5.0, 5: 13.0 13.1, f=13.0, 13:",
	} {
		p := must(t, text)
		c, err := closure.Of(p)
		if got := show(p, c); err != api.OK || got != want {
			t.Errorf("%q: %s (%d), want %s", text, got, err, want)
		}
	}
}

// P10.1: the innermost function around each node.
func TestFun(t *testing.T) {
	p := must(t, "thread (1; let rec f x = (2; fun y -> 3) in 4);;")
	c, err := closure.Of(p)
	if err != api.OK {
		t.Fatal(err)
	}
	fun, rec := 0, 0
	for k, n := range p.Nodes {
		switch n.Kind {
		case api.EFun:
			fun = k
		case api.ERec:
			rec = k
		}
	}
	for k, n := range p.Nodes {
		want := -1
		switch {
		case n.Kind == api.ENum && n.N == 3:
			want = fun
		case n.Kind == api.ENum && n.N == 2, n.Kind == api.EFun, n.Kind == api.ESeq && k < rec:
			want = rec
		}
		if c.Fun[k] != want {
			t.Errorf("node %d: %d, want %d", k, c.Fun[k], want)
		}
		if n.Kind != api.EVar && c.Name[k] != (api.Cap{}) || len(c.Own[k]) != 0 {
			t.Errorf("node %d: %v %v", k, c.Name[k], c.Own[k])
		}
	}
}

// Nodes in another order than that of the parser, and unreachable ones.
func TestOrder(t *testing.T) {
	n := func(kind int, name string, of ...int) api.Node { return api.Node{Kind: kind, Name: name, Of: of} }
	p := api.Prog{Decls: []api.Decl{{Kind: api.DThread, Body: 8}}, Nodes: []api.Node{
		n(api.EVar, "a"), n(api.EVar, "b"), n(api.EPair, "", 1, 0), n(api.EFun, "u", 2), n(api.EFun, "b", 3), n(api.EVar, "gone"), n(api.EFun, "gone", 5), n(api.EFst, "", 6), n(api.EFun, "a", 4),
	}}
	c, err := closure.Of(p)
	want := api.Closed{
		Name: []api.Cap{{Node: 8}, {Node: 4}, {}, {}, {}, {}, {}, {}, {}},
		Fun:  []int{3, 3, 3, 4, 8, -1, -1, -1, -1},
		Own:  [][]api.Cap{nil, nil, nil, {{Node: 8}, {Node: 4}}, {{Node: 8}}, nil, nil, nil, nil},
	}
	if err != api.OK || !reflect.DeepEqual(c, want) {
		t.Error(c, err)
	}
}

func TestErrors(t *testing.T) {
	for text, want := range map[string]api.Errno{"thread x;;": api.ErrName, "thread 1 + true;;": api.ErrType, "ref x;; ref x;;": api.ErrDuplicate} {
		c, err := closure.Of(must(t, text))
		if err != want || !reflect.DeepEqual(c, api.Closed{}) {
			t.Error(text, err)
		}
	}
	if _, err := closure.Of(api.Prog{Nodes: []api.Node{{}}}); err != api.ErrArg {
		t.Error(err)
	}
}

// P10.2: what an inner function captures is bound by the outer one or captured by it as well, and renaming changes nothing.
func TestConsequences(t *testing.T) {
	texts := []string{
		"thread fun a -> let rec f b = (match Some a with None -> b | Some c -> (fun d -> let e = d + c in (fun g -> f (a + b + c + d + e + g)) 1) 2) in f 3;;",
		"thread fun q -> let rec x y = (match Some q with None -> y | Some x1 -> (fun z -> let r = z + x1 in (fun s -> x (q + y + x1 + z + r + s)) 1) 2) in x 3;;",
	}
	var closed []api.Closed
	for _, text := range texts {
		p := must(t, text)
		c, err := closure.Of(p)
		if err != api.OK {
			t.Fatal(err)
		}
		closed = append(closed, c)
		captures := 0
		for k, own := range c.Own {
			for _, b := range own {
				captures++
				outer := c.Fun[k]
				if outer >= 0 && b.Node != outer && c.Fun[b.Node] != outer && !slices.Contains(c.Own[outer], b) {
					t.Error("lost on the way", k, b)
				}
			}
		}
		if captures < 8 {
			t.Error(captures)
		}
	}
	if !reflect.DeepEqual(closed[0], closed[1]) {
		t.Error("renaming changes the result")
	}
}

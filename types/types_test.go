package types_test

import (
	"math/rand"
	"reflect"
	"slices"
	"strings"
	"testing"

	"hallmoot/api"
	"hallmoot/parse"
	"hallmoot/types"
)

func must(t *testing.T, text string) api.Prog {
	t.Helper()
	p, err := parse.Of(text)
	if err != api.OK {
		t.Fatalf("%q: error %d", text, err)
	}
	return p
}

const before = "ref x;; open ref o;; array a 3;; open array b 2;; lock l;; let n = 1;; "

// P6.1 and P6.3: the type of an expression.
func TestTypes(t *testing.T) {
	for text, want := range map[string]string{
		"1": "int", "true": "bool", "()": "unit", "x": "ref", "o": "open ref", "a": "array", "b": "open array", "n": "int",
		"fun x -> !x + 1":                                   "(ref -> int)",
		"fun x -> x := 1":                                   "(ref -> unit)",
		"fun f -> fun y -> f y + 1":                         "((unit -> int) -> (unit -> int))",
		"let rec f x = f x in f":                            "(unit -> unit)",
		"let rec f x = if x < 1 then 0 else f (x - 1) in f": "(int -> int)",
		"let rec f f = f + 1 in f":                          "(int -> int)",
		"(1, (true, ()))":                                   "(int * (bool * unit))",
		"fst (1, true)":                                     "int",
		"snd (1, true)":                                     "bool",
		"fun p -> fst p + snd p":                            "((int * int) -> int)",
		"None":                                              "unit option",
		"Some Some x":                                       "ref option option",
		"match None with None -> 1 | Some y -> y":           "int",
		"fun m -> match m with None -> o | Some y -> y":     "(open ref option -> open ref)",
		"1 + 2 * 3 - 4":                                     "int",
		"1 < 2 && 3 == 4 || true":                           "bool",
		"a.[1]":                                             "ref",
		"b.[!o]":                                            "open ref",
		"fun z -> z.[0]":                                    "(array -> ref)",
		"fun z -> z.[0] := 1":                               "(array -> unit)",
		"fun z -> if z.[0] := 1 then z.[0] else o":          "ErrType",
		"fun z -> if true then z.[0] else o":                "(open array -> open ref)",
		"if true then x else x":                             "ref",
		"if true then x else o":                             "ErrType",
		"raise 1":                                           "unit",
		"1 + (raise 2)":                                     "int",
		"retry":                                             "unit",
		"retry orelse true":                                 "bool",
		"try 1 with e -> e":                                 "int",
		"try x with e -> raise e":                           "ref",
		"atomic (1, 2)":                                     "(int * int)",
		"open l 3 undo fun u -> u":                          "int",
		"open l 3 undo retry":                               "int",
		"let l = 1 in open l l undo fun u -> u":             "int",
		"print 1":                                           "unit",
		"let x = true in x":                                 "bool",
		"fun x -> fun x -> x + 1":                           "(unit -> (int -> int))",
		"let f = fun y -> y in (f 1; f 2)":                  "int",
		"let f = fun y -> y in (f 1; f true)":               "ErrType",
		"fun f -> f f":                                      "ErrType",
		"let rec f y = f in f":                              "ErrType",
		"fun y -> y (Some y)":                               "ErrType",
		"1 + true":                                          "ErrType", "true && 1": "ErrType", "true == true": "ErrType", "true < false": "ErrType", "1 2": "ErrType", "fst 1": "ErrType",
		"!1": "ErrType", "!a": "ErrType", "x := ()": "ErrType", "1 := 1": "ErrType", "x.[0]": "ErrType", "a.[x]": "ErrType", "if 1 then 2 else 3": "ErrType", "if true then 1 else ()": "ErrType",
		"match 1 with None -> 1 | Some y -> y": "ErrType", "match None with None -> 1 | Some y -> true": "ErrType", "raise true": "ErrType", "try 1 with e -> true": "ErrType",
		"try true with e -> e": "ErrType", "1 orelse ()": "ErrType", "open l 3 undo 4": "ErrType", "open l 3 undo fun u -> 1": "ErrType", "open l 3 undo fun u -> u + 1": "ErrType", "print ()": "ErrType",
		"y": "ErrName", "l": "ErrName", "fun y -> z": "ErrName", "(fun y -> y) y": "ErrName", "let y = y in 1": "ErrName", "let rec f y = 1 in y": "ErrName", "open x 1 undo fun u -> u": "ErrName",
		"open q 1 undo fun u -> u": "ErrName", "try y with y -> 1": "ErrName", "match Some 1 with None -> y | Some y -> y": "ErrName", "z 1 2 (1 + true)": "ErrName",
	} {
		p := must(t, before+"thread "+text+";;")
		got, err := types.Of(p)
		name := map[api.Errno]string{api.ErrType: "ErrType", api.ErrName: "ErrName"}[err]
		if err == api.OK {
			name = types.Show(got[len(got)-1])
		}
		if name != want {
			t.Errorf("%q: %s (%d), want %s", text, name, err, want)
		}
		if err != api.OK && got != nil {
			t.Errorf("%q: types together with an error", text)
		}
		if l, err2 := types.Arrows(p); err2 != err || err != api.OK && l != nil {
			t.Errorf("%q: Arrows returns %d", text, err2)
		}
	}
}

// Declarations: the order of visibility, duplicates, invariants and shared types of lets.
func TestDecls(t *testing.T) {
	for text, want := range map[string]api.Errno{
		"check 1;;":          api.ErrType,
		"check true;;":       api.OK,
		"thread x;; ref x;;": api.ErrName,
		"thread open l 1 undo fun u -> u;; lock l;;": api.ErrName,
		"let f = f;;":                                       api.ErrName,
		"ref x;; ref x;;":                                   api.ErrDuplicate,
		"ref x;; array x 1;;":                               api.ErrDuplicate,
		"lock x;; let x = y;;":                              api.ErrDuplicate,
		"let x = 1 + true;; lock x;;":                       api.ErrDuplicate,
		"let f = fun y -> y;; thread f 1;; thread f 2;;":    api.OK,
		"let f = fun y -> y;; thread f 1;; thread f true;;": api.ErrType,
		"check true;; check true;; thread 1;; thread 2;;":   api.OK,
		"thread 1 + true;; thread y;;":                      api.ErrName,
	} {
		if _, err := types.Of(must(t, text)); err != want {
			t.Errorf("%q: %d, want %d", text, err, want)
		}
	}
}

// P6.1: the limit of 200 parts, counted in the most general typing.
func TestLimit(t *testing.T) {
	pairs := func(n int) string { // a type of 2n-1 parts
		out := "1"
		for range n - 1 {
			out = "let p = " + out + " in (p, 1)"
			if len(out) > 2900 {
				t.Fatal("too long")
			}
		}
		return "thread " + out + ";;"
	}
	for text, want := range map[string]api.Errno{
		pairs(100): api.OK,
		pairs(101): api.ErrLimit,
		strings.Replace(pairs(100), "thread", "thread Some", 1): api.ErrSyntax,
	} {
		p, err := parse.Of(text)
		if err == api.OK {
			_, err = types.Of(p)
		}
		if err != want {
			t.Error(len(text), err, want)
		}
	}
	p := must(t, pairs(100))
	last := len(p.Nodes) - 1
	p.Nodes = append(p.Nodes, api.Node{Kind: api.ESome, Of: []int{last}})
	p.Decls[0].Body = last + 1
	if _, err := types.Of(p); err != api.OK {
		t.Error("200 parts", err)
	}
	p.Nodes = append(p.Nodes, api.Node{Kind: api.ESome, Of: []int{last + 1}})
	p.Decls[0].Body = last + 2
	if _, err := types.Of(p); err != api.ErrLimit {
		t.Error("201 parts", err)
	}
	// Doubling takes exponentially many parts, and must not take exponential time.
	double := "thread let a = (1, 1) in "
	for range 60 {
		double += "let a = (a, a) in "
	}
	if _, err := types.Of(must(t, double+"();;")); err != api.ErrLimit {
		t.Error("doubling", err)
	}
	if _, err := types.Of(must(t, double+"1 + true;;")); err != api.ErrType {
		t.Error("a type error comes first", err)
	}
}

// P6.1: well-formed programs.
func TestRight(t *testing.T) {
	n := func(kind int, of ...int) api.Node { return api.Node{Kind: kind, Of: of} }
	num := n(api.ENum)
	thread := func(body int) []api.Decl { return []api.Decl{{Kind: api.DThread, Body: body}} }
	good := []api.Prog{
		{}, {Decls: thread(0), Nodes: []api.Node{num}}, {Decls: []api.Decl{{Kind: api.DRef, Body: 77}}, Nodes: []api.Node{num}},
		{Nodes: []api.Node{num, n(api.EFst, 0)}},
		{Decls: thread(2), Nodes: []api.Node{num, num, {Kind: api.EBin, N: api.OOr, Of: []int{1, 0}}}},
	}
	for i, p := range good {
		if !types.Right(p) {
			t.Error("good", i)
		}
	}
	bad := []api.Prog{
		{Nodes: []api.Node{n(0)}}, {Nodes: []api.Node{n(28)}}, {Nodes: []api.Node{n(-1)}},
		{Nodes: []api.Node{num, n(api.ENum, 0)}}, {Nodes: []api.Node{n(api.EFst)}}, {Nodes: []api.Node{n(api.EFst, 0)}}, {Nodes: []api.Node{n(api.EFst, 1), num}},
		{Nodes: []api.Node{n(api.EFst, -1)}}, {Nodes: []api.Node{num, n(api.EPair, 0, 0)}}, {Nodes: []api.Node{num, n(api.EPair, 0)}},
		{Nodes: []api.Node{num, num, {Kind: api.EBin, Of: []int{1, 0}}}}, {Nodes: []api.Node{num, num, {Kind: api.EBin, N: 8, Of: []int{1, 0}}}},
		{Decls: []api.Decl{{Kind: 0}}}, {Decls: []api.Decl{{Kind: 7}}}, {Decls: thread(0)}, {Decls: thread(1), Nodes: []api.Node{num}}, {Decls: thread(-1), Nodes: []api.Node{num}},
		{Decls: append(thread(0), thread(0)...), Nodes: []api.Node{num}}, {Decls: thread(0), Nodes: []api.Node{num, n(api.EFst, 0)}},
		{Decls: []api.Decl{{Kind: api.DLet, Body: 3}}}, {Decls: []api.Decl{{Kind: api.DCheck, Body: 3}}},
	}
	for i, p := range bad {
		if types.Right(p) {
			t.Error("bad", i)
		}
		if l, err := types.Of(p); err != api.ErrArg || l != nil {
			t.Error("bad", i, err)
		}
		if l, err := types.Arrows(p); err != api.ErrArg || l != nil {
			t.Error("bad", i, err)
		}
	}
	kinds := map[int]int{api.EFun: 1, api.EFst: 1, api.ESnd: 1, api.ESome: 1, api.EGet: 1, api.ERaise: 1, api.EAtomic: 1, api.EPrint: 1,
		api.EApp: 2, api.ELet: 2, api.ERec: 2, api.ESeq: 2, api.EPair: 2, api.EBin: 2, api.ESet: 2, api.EIndex: 2, api.ETry: 2, api.EOrElse: 2, api.EOpen: 2, api.EIf: 3, api.EMatch: 3}
	for kind := api.ENum; kind <= api.EPrint; kind++ {
		for size := range 5 {
			p := api.Prog{Nodes: []api.Node{num, num, num, num, {Kind: kind, N: api.OAdd, Of: []int{0, 1, 2, 3}[:size]}}}
			if types.Right(p) != (size == kinds[kind]) {
				t.Error("arity", kind, size)
			}
		}
	}
}

// P6.1: unused nodes have no type, and their names need not exist.
func TestUnused(t *testing.T) {
	p := api.Prog{Decls: []api.Decl{{Kind: api.DThread, Body: 2}}, Nodes: []api.Node{
		{Kind: api.EVar, Name: "q"}, {Kind: api.EFun, Name: "x", Of: []int{0}}, {Kind: api.ENum}, {Kind: api.EOpen, Name: "w", Of: []int{1, 4}}, {Kind: api.EUnit}}}
	p.Nodes[3], p.Nodes[4] = p.Nodes[4], api.Node{Kind: api.EOpen, Name: "w", Of: []int{1, 3}}
	l, err := types.Of(p)
	if err != api.OK || !reflect.DeepEqual(l, []api.Type{{}, {}, {Kind: api.TInt}, {}, {}}) {
		t.Error(l, err)
	}
	if a, err := types.Arrows(p); err != api.OK || !slices.Equal(a, []int{-1, -1, -1, -1, -1}) {
		t.Error(a, err)
	}
}

// P6.2: arrows and the N of function types.
func TestArrows(t *testing.T) {
	for _, x := range []struct {
		text   string
		arrows []int
		last   int
	}{
		{"fun x -> x", []int{-1, 1}, 1},
		{"fun f -> f 1", []int{-1, -1, -1, 3}, 3},
		{"if true then fun x -> 1 else fun y -> 2", []int{-1, -1, 2, -1, 2, -1}, 2},
		{"let rec f x = 1 in f", []int{-1, -1, 2}, 2},
		{"if true then fun a -> 1 else (if true then fun b -> 2 else fun c -> 3)", []int{-1, -1, 2, -1, -1, 2, -1, 2, -1, -1}, 2},
		{"(fun x -> x; fun y -> y)", []int{-1, 1, -1, 3, -1}, 3},
		{"let h = fun g -> g 1 in (h (fun y -> y); h)", []int{-1, -1, -1, 3, -1, -1, 6, -1, -1, -1, -1}, 3},
	} {
		p := must(t, "thread "+x.text+";;")
		a, err := types.Arrows(p)
		if err != api.OK || !slices.Equal(a, x.arrows) {
			t.Errorf("%q: %v %v", x.text, a, err)
		}
		l, _ := types.Of(p)
		if got := l[len(l)-1]; got.Kind == api.TFun && got.N != x.last {
			t.Errorf("%q: N is %d", x.text, got.N)
		}
	}
	l, _ := types.Of(must(t, "thread fun f -> f 1;;"))
	if f := l[3].Of[0]; f.Kind != api.TFun || f.N != -1 || l[3].N != 3 || l[3].Of[1].N != 0 {
		t.Error(l)
	}
}

// P6.3: the texts of types that no program has.
func TestShow(t *testing.T) {
	i := api.Type{Kind: api.TInt}
	for _, x := range []struct {
		t    api.Type
		want string
	}{
		{api.Type{}, "?"}, {api.Type{Kind: 11}, "?"}, {api.Type{Kind: -1}, "?"}, {api.Type{Kind: api.TPair}, "?"}, {api.Type{Kind: api.TPair, Of: []api.Type{i}}, "?"},
		{api.Type{Kind: api.TOpt}, "?"}, {api.Type{Kind: api.TOpt, Of: []api.Type{i, i}}, "?"}, {api.Type{Kind: api.TFun, Of: []api.Type{i, i, i}}, "?"},
		{api.Type{Kind: api.TInt, Of: []api.Type{i}}, "int"}, {api.Type{Kind: api.TOArr, N: 3}, "open array"}, {api.Type{Kind: api.TArray}, "array"}, {api.Type{Kind: api.TUnit}, "unit"},
		{api.Type{Kind: api.TFun, Of: []api.Type{{Kind: api.TBool}, {}}}, "(bool -> ?)"}, {api.Type{Kind: api.TOpt, Of: []api.Type{{Kind: api.TOpen}}}, "open ref option"},
	} {
		if got := types.Show(x.t); got != x.want {
			t.Error(x.t, got)
		}
	}
}

// P6.4: renaming bound variables changes nothing; exchanging a literal operand makes a typable program untypable.
func TestConsequences(t *testing.T) {
	a := must(t, before+"thread let rec f y = let g = fun z -> !z + y in match Some x with None -> 1 | Some w -> try g w with e -> f e in f;;")
	b := must(t, before+"thread let rec x a = let b = fun x -> !x + a in match Some x2 with None -> 1 | Some l -> try b l with n -> x n in x;;")
	for k := range b.Nodes {
		if b.Nodes[k].Name == "x2" {
			b.Nodes[k].Name, b.Decls[0].Name = "r", "r"
		}
	}
	l1, err1 := types.Of(a)
	l2, err2 := types.Of(b)
	if err1 != api.OK || err2 != api.OK || !reflect.DeepEqual(l1, l2) {
		t.Error(err1, err2)
	}
	r := rand.New(rand.NewSource(1))
	signs := []string{"+", "-", "*", "<", "==", "&&", "||"}
	for range 300 {
		sign := signs[r.Intn(len(signs))]
		left, right := "1", "2"
		if sign == "&&" || sign == "||" {
			left, right = "true", "false"
		}
		p := must(t, "thread "+left+sign+right+";;")
		if _, err := types.Of(p); err != api.OK {
			t.Fatal(sign)
		}
		k := r.Intn(2)
		p.Nodes[k].Kind = api.ENum + api.EBool - p.Nodes[k].Kind
		if _, err := types.Of(p); err != api.ErrType {
			t.Fatal(sign, k)
		}
	}
}

// rules checks the types of a program against the typing rules.
type rules struct {
	t      *testing.T
	p      api.Prog
	types  []api.Type
	arrows []int
}

func (r *rules) need(is bool, k int) {
	if !is {
		r.t.Helper()
		r.t.Fatalf("node %d of %s: %v", k, parse.Text(r.p), r.types)
	}
}

// fun returns the components of the function type of a node.
func (r *rules) fun(t api.Type, k int) (api.Type, api.Type) {
	r.need(t.Kind == api.TFun && len(t.Of) == 2, k)
	return t.Of[0], t.Of[1]
}

func same(a, b api.Type) bool { return reflect.DeepEqual(a, b) }

// node checks a node where names have types; the type of a name is nil until a use of it tells.
func (r *rules) node(k int, env map[string]*api.Type) api.Type {
	n, t := r.p.Nodes[k], r.types[k]
	bind := func(child int, pairs ...any) api.Type {
		inner := map[string]*api.Type{}
		for name, typed := range env {
			inner[name] = typed
		}
		for i := 0; i < len(pairs); i += 2 {
			inner[pairs[i].(string)] = pairs[i+1].(*api.Type)
		}
		return r.node(n.Of[child], inner)
	}
	child := func(i int) api.Type { return r.node(n.Of[i], env) }
	integer, boolean, unit := api.Type{Kind: api.TInt}, api.Type{Kind: api.TBool}, api.Type{Kind: api.TUnit}
	isRef := func(x api.Type) bool { return x.Kind == api.TRef || x.Kind == api.TOpen }
	switch n.Kind {
	case api.ENum:
		r.need(same(t, integer), k)
	case api.EBool:
		r.need(same(t, boolean), k)
	case api.EUnit:
		r.need(same(t, unit), k)
	case api.EVar:
		if known := env[n.Name]; known.Kind == api.TVar {
			*known = t
		} else {
			r.need(same(t, *known), k)
		}
	case api.EFun:
		arg, res := r.fun(t, k)
		r.need(t.N == r.arrows[k] && same(bind(0, n.Name, &arg), res), k)
	case api.EApp:
		arg, res := r.fun(child(0), k)
		r.need(same(child(1), arg) && same(res, t), k)
	case api.ELet:
		value := child(0)
		r.need(same(bind(1, n.Name, &value), t), k)
	case api.ERec:
		self := new(api.Type)
		r.need(same(bind(1, n.Name, self), t), k)
		arg := new(api.Type)
		if self.Kind != api.TVar {
			*arg, _ = r.fun(*self, k)
			r.need(self.N == r.arrows[k], k)
		}
		res := bind(0, n.Name, self, n.Name2, arg)
		if self.Kind != api.TVar {
			r.need(same(self.Of[1], res) && (arg.Kind == api.TVar || same(self.Of[0], *arg)), k)
		}
	case api.EIf:
		r.need(same(child(0), boolean) && same(child(1), t) && same(child(2), t), k)
	case api.ESeq:
		child(0)
		r.need(same(child(1), t), k)
	case api.EPair:
		r.need(same(t, api.Type{Kind: api.TPair, Of: []api.Type{child(0), child(1)}}), k)
	case api.EFst, api.ESnd:
		pair := child(0)
		r.need(pair.Kind == api.TPair && same(t, pair.Of[n.Kind-api.EFst]), k)
	case api.ENone:
		r.need(t.Kind == api.TOpt, k)
	case api.ESome:
		r.need(same(t, api.Type{Kind: api.TOpt, Of: []api.Type{child(0)}}), k)
	case api.EMatch:
		option := child(0)
		r.need(option.Kind == api.TOpt, k)
		content := option.Of[0]
		r.need(same(child(1), t) && same(bind(2, n.Name, &content), t), k)
	case api.EBin:
		operand, result := integer, boolean
		if n.N <= api.OMul {
			result = integer
		} else if n.N >= api.OAnd {
			operand = boolean
		}
		r.need(same(child(0), operand) && same(child(1), operand) && same(t, result), k)
	case api.EGet:
		r.need(isRef(child(0)) && same(t, integer), k)
	case api.ESet:
		r.need(isRef(child(0)) && same(child(1), integer) && same(t, unit), k)
	case api.EIndex:
		array := child(0)
		r.need(same(child(1), integer) && (array.Kind == api.TArray && t.Kind == api.TRef || array.Kind == api.TOArr && t.Kind == api.TOpen), k)
	case api.ERaise:
		r.need(same(child(0), integer), k)
	case api.ETry:
		e := integer
		r.need(same(child(0), t) && same(bind(1, n.Name, &e), t), k)
	case api.EAtomic:
		r.need(same(child(0), t), k)
	case api.EOrElse:
		r.need(same(child(0), t) && same(child(1), t), k)
	case api.EOpen:
		arg, res := r.fun(child(1), k)
		r.need(same(child(0), t) && same(arg, unit) && same(res, unit), k)
	case api.EPrint:
		r.need(same(child(0), integer) && same(t, unit), k)
	}
	return t
}

// expr writes a random expression, which may have no type.
func expr(r *rand.Rand, depth int) string {
	simple := []string{"0", "17", "true", "()", "x", "y", "f", "g", "o", "a", "b", "None", "retry", "n"}
	if depth == 0 {
		return simple[r.Intn(len(simple))]
	}
	shapes := []string{"fun x -> E", "fun f -> E", "E E", "f E", "let x = E in E", "let f = fun y -> E in E", "let rec f x = E in E", "let rec g y = E in E", "if E then E else E", "E; E", "(E, E)", "fst E", "snd E", "Some E", "fst (E, E)",
		"match E with None -> E | Some x -> E", "match Some E with None -> E | Some g -> E", "E + E", "E < E", "E && E", "!E", "!x", "o := E", "a.[E]", "E.[E]", "b.[0]", "raise E", "try E with x -> E", "atomic E", "E orelse E", "open l E undo fun x -> ()", "print E"}
	out := shapes[r.Intn(len(shapes))]
	for strings.Contains(out, "E") {
		out = strings.Replace(out, "E", strings.ReplaceAll(expr(r, depth-1), "E", "e"), 1)
	}
	return "(" + out + ")"
}

// P6.4: the returned types satisfy the typing rules.
func TestRules(t *testing.T) {
	r := rand.New(rand.NewSource(1))
	typed, functions := 0, 0
	for range 60000 {
		p, err := parse.Of("ref x;; open ref o;; array a 3;; open array b 2;; lock l;; let n = 3;; ref y;; let f = fun z -> z;; let g = fun z -> z;; thread " + expr(r, 1+r.Intn(3)) + ";; thread " + expr(r, 1+r.Intn(3)) + ";;")
		if err != api.OK {
			continue
		}
		l, err := types.Of(p)
		if err != api.OK {
			continue
		}
		arrows, _ := types.Arrows(p)
		typed++
		c := &rules{t, p, l, arrows}
		env := map[string]*api.Type{"x": {Kind: api.TRef}, "y": {Kind: api.TRef}, "o": {Kind: api.TOpen}, "a": {Kind: api.TArray}, "b": {Kind: api.TOArr}}
		for _, d := range p.Decls {
			switch d.Kind {
			case api.DLet:
				value := c.node(d.Body, env)
				env[d.Name] = &value
				functions += len(l[d.Body].Of)
			case api.DThread:
				c.node(d.Body, env)
			}
		}
	}
	if typed < 2000 || functions < 4000 {
		t.Error("few typed programs", typed, functions)
	}
}

package opt_test

import (
	"math/rand"
	"reflect"
	"strings"
	"testing"

	"hallmoot/api"
	"hallmoot/code"
	"hallmoot/opt"
	"hallmoot/parse"
	"hallmoot/value"
	"hallmoot/vm"
)

func compile(t *testing.T, text string) api.Code {
	t.Helper()
	p, err := parse.Of(text)
	if err != api.OK {
		t.Fatalf("%q: error %d", text, err)
	}
	c, err := code.Of(p)
	if err != api.OK || !code.Right(c) {
		t.Fatalf("%q: error %d", text, err)
	}
	return c
}

// accesses returns the marks of the gets and sets of all functions: g and s, in capitals if they are marked.
func accesses(c api.Code) string {
	var out []string
	for fun, f := range c.Funs {
		marks := opt.Marks(c, fun)
		s := ""
		for k, i := range f.Ins {
			switch {
			case i.Op == api.IGet:
				s += []string{"g", "G"}[marks[k]]
			case i.Op == api.ISet:
				s += []string{"s", "S"}[marks[k]]
			case marks[k] != 0:
				s += "?"
			}
		}
		out = append(out, s)
	}
	return strings.Join(out, " ")
}

const before = "ref x;; ref y;; array a 3;; array o1 2;; open ref o;; lock l;; "

// P12.1: what programs are marked with; the thread's function is the last one.
func TestPrograms(t *testing.T) {
	for text, want := range map[string]string{
		"thread atomic (!x + !x);;":                                                  "gG",
		"thread atomic (!x + !y + !x);;":                                             "ggG",
		"thread atomic (!x; atomic !x);;":                                            "gg",
		"thread atomic (!x; atomic (!x; x := 1); !x);;":                              "ggSg",
		"thread atomic (x := 1; x := !x + 1);;":                                      "sGS",
		"thread (atomic !x; atomic !x);;":                                            "gg",
		"thread atomic (a.[1] := !a.[0]; a.[1] := !a.[0]; !a.[2]);;":                 "gsGSg",
		"thread atomic (!a.[1]; !y; !o1.[0]; !a.[2]; !a.[0]);;":                      "ggggg",
		"thread atomic (a.[3] := 1; a.[3] := 1);;":                                   "ss",
		"thread atomic (a.[1 + 0] := 1; a.[1 + 0] := 1);;":                           "ss",
		"thread atomic (a.[!x] := 1; a.[!x] := 1);;":                                 "gsGs",
		"thread atomic let r = x in (!r; !x; !r);;":                                  "gGG",
		"thread atomic let b = a in (!b.[1]; !a.[1]);;":                              "gG",
		"thread atomic let i = 1 in (!a.[i]; !a.[i]);;":                              "gg",
		"thread atomic let r = a.[1] in let q = r in (q := 1; !r; !a.[1]);;":         "sGG",
		"thread atomic let r = fst (x, y) in (!r; !r; !x);;":                         "gGg",
		"thread atomic let r = fst (x, y) in let q = r in (!r; !q);;":                "gG",
		"thread atomic ((let r = fst (x, y) in !r); (let r = snd (x, y) in !r));;":   "gg",
		"thread (fun r -> atomic (!r; r := 1)) x;;":                                  "gS ",
		"thread let rec f r = (!r; !r; f r) in ();;":                                 "gG ",
		"thread let r = x in (fun u -> atomic (!r; !r)) ();;":                        "gG ",
		"thread atomic (!x; if true then !x else !x; !x);;":                          "gGgg",
		"thread atomic (if true then !x else !x; !x);;":                              "ggg",
		"thread atomic (!x; match None with None -> !x | Some r -> !x);;":            "gGg",
		"thread atomic (match Some x with None -> 0 | Some r -> !r + !r);;":          "gG",
		"thread atomic (!x; (try !x with e -> !x); !x);;":                            "gGgg",
		"thread atomic (!x; (try raise 1 with e -> 2); !x);;":                        "gg",
		"thread atomic (!x; (!x orelse !x); !x);;":                                   "gggg",
		"thread atomic ((!x; !x) orelse (!x; !x));;":                                 "gGgG",
		"thread atomic (!x; (fun u -> u) (); !x);;":                                  " gG",
		"thread atomic (!x; open l (o := 1; !o) undo (fun u -> o := !o + !o); !x);;": "gGS gsGg",
		"thread atomic (!x; raise 1; !x + !x);;":                                     "ggG",
		"thread atomic ((!x, (x, !x)); x := 1);;":                                    "gGS",
		"let n = x;; thread atomic (!n; !n);;":                                       " gg",
		"check !x < !x;; thread ();;":                                                "gG ",
	} {
		if got := accesses(compile(t, before+text)); got != want {
			t.Errorf("%q: %s, want %s", text, got, want)
		}
	}
}

func op(o int) api.Ins    { return api.Ins{Op: o} }
func at(o, a int) api.Ins { return api.Ins{Op: o, A: a} }
func ref(n int) api.Ins   { return api.Ins{Op: api.IPush, Val: api.Value{Kind: api.VRef, N: n}} }
func num(n int) api.Ins   { return api.Ins{Op: api.IPush, Val: value.Int(n)} }

// P12.1: code that the compiler does not produce.
func TestCode(t *testing.T) {
	for name, x := range map[string]struct {
		f    api.Func
		want string
	}{
		"each instruction that ends a level": {api.Func{Ins: []api.Ins{ref(0), op(api.IGet), op(api.IAtomic), ref(0), op(api.IGet), op(api.IEnd), ref(0), op(api.IGet), num(0), at(api.IOpen, 0), ref(0), op(api.IGet), op(api.IEndOpen), ref(0), op(api.IGet), ref(0), op(api.IGet), op(api.IRetry)}}, "gggggG"},
		"the alternative":                    {api.Func{Ins: []api.Ins{ref(0), op(api.IGet), at(api.IOrElse, 6), ref(0), op(api.IGet), op(api.IRetry), op(api.IRetry)}}, "gg"},
		"an unbound local is gone":           {api.Func{Ins: []api.Ins{num(1), op(api.IBind), at(api.ILocal, 1), op(api.IGet), at(api.IUnbind, 1), num(1), op(api.IBind), at(api.ILocal, 1), op(api.IGet), op(api.IRetry)}}, "gg"},
		"a stacked name of a gone local":     {api.Func{Ins: []api.Ins{num(1), op(api.IBind), at(api.ILocal, 1), at(api.IUnbind, 1), op(api.IGet), num(1), op(api.IBind), at(api.ILocal, 1), op(api.IGet), op(api.IRetry)}}, "gg"},
		"two locals of one name":             {api.Func{Ins: []api.Ins{at(api.ILocal, 0), op(api.IBind), at(api.ILocal, 1), op(api.IGet), at(api.ILocal, 0), op(api.IGet), op(api.IRetry)}}, "gG"},
		"a captured one":                     {api.Func{Own: 2, Rec: true, Ins: []api.Ins{at(api.ILocal, 3), op(api.IGet), at(api.ILocal, 2), op(api.IGet), at(api.ILocal, 3), op(api.IGet), num(1), op(api.IBind), at(api.ILocal, 4), op(api.IGet), at(api.ILocal, 4), op(api.IGet), op(api.IRetry)}}, "ggGgG"},
		"a join":                             {api.Func{Ins: []api.Ins{ref(0), op(api.IGet), at(api.IJump, 3), ref(0), op(api.IGet), op(api.IRetry)}}, "gg"},
		"a stack across a join":              {api.Func{Ins: []api.Ins{ref(0), at(api.IJump, 2), op(api.IGet), ref(0), op(api.IGet), op(api.IRetry)}}, "gg"},
		"not a location":                     {api.Func{Ins: []api.Ins{num(0), op(api.IGet), num(0), op(api.IGet), op(api.IRetry)}}, "gg"},
		"a bound one behind captured ones":   {api.Func{Own: 2, Rec: true, Ins: []api.Ins{ref(0), op(api.IBind), at(api.ILocal, 4), op(api.IGet), ref(0), op(api.IGet), at(api.ILocal, 3), op(api.IGet), op(api.IRetry)}}, "gGg"},
		"jumps to nowhere":                   {api.Func{Ins: []api.Ins{ref(0), op(api.IGet), op(api.IRetry), at(api.IJump, 99), at(api.INone, -1), at(api.IUnbind, -3), at(api.IUnbind, 1<<62), ref(0), op(api.IGet)}}, "gg"},
		"the last target":                    {api.Func{Ins: []api.Ins{num(1), at(api.IFalse, 5), ref(0), op(api.IGet), op(api.IRetry), ref(0), op(api.IGet), op(api.IRetry)}}, "gg"},
		"an outer local stays":               {api.Func{Ins: []api.Ins{num(1), op(api.IBind), at(api.ILocal, 1), op(api.IGet), num(1), op(api.IBind), at(api.ILocal, 2), op(api.IGet), at(api.ILocal, 1), at(api.IUnbind, 1), op(api.IGet), at(api.ILocal, 1), op(api.IGet), op(api.IRetry)}}, "ggGG"},
		"a location stays":                   {api.Func{Ins: []api.Ins{ref(0), op(api.IGet), ref(0), ref(0), op(api.IBind), at(api.IUnbind, 1), op(api.IGet), ref(0), op(api.IGet), op(api.IRetry)}}, "gGG"},
		"an outer name stays":                {api.Func{Ins: []api.Ins{ref(0), op(api.IBind), num(1), op(api.IBind), at(api.IUnbind, 1), at(api.ILocal, 1), op(api.IGet), ref(0), op(api.IGet), op(api.IRetry)}}, "gG"},
		"an unbound name is gone":            {api.Func{Ins: []api.Ins{ref(0), op(api.IBind), at(api.IUnbind, 1), num(1), op(api.IBind), at(api.ILocal, 1), op(api.IGet), ref(0), op(api.IGet), op(api.IRetry)}}, "gg"},
		"unreachable":                        {api.Func{Ins: []api.Ins{op(api.IRetry), op(api.IDrop), ref(0), op(api.IGet), ref(0), op(api.IGet), op(api.IRetry)}}, "gG"},
		"unreachable locals":                 {api.Func{Ins: []api.Ins{op(api.IRetry), ref(0), op(api.IBind), at(api.ILocal, 0), op(api.IGet), ref(0), op(api.IGet), at(api.ILocal, 1), op(api.IGet), op(api.IRetry)}}, "gGg"},
		"a local after a jump is itself":     {api.Func{Ins: []api.Ins{ref(0), op(api.IBind), at(api.IJump, 3), at(api.ILocal, 1), op(api.IGet), ref(0), op(api.IGet), at(api.ILocal, 1), op(api.IGet), op(api.IRetry)}}, "ggG"},
		"after a check of an option":         {api.Func{Ins: []api.Ins{ref(0), op(api.IGet), num(0), at(api.INone, 5), at(api.IUnbind, 1), ref(0), op(api.IGet), op(api.IRetry)}}, "gg"},
		"print, call and operators":          {api.Func{Ins: []api.Ins{ref(0), op(api.IPrint), op(api.IGet), ref(0), ref(0), op(api.ICall), op(api.IGet), ref(0), ref(0), at(api.IBin, 1), op(api.IGet), ref(0), op(api.ISome), op(api.IGet), ref(0), op(api.IFst), op(api.IGet), ref(0), op(api.ISnd), op(api.IGet), ref(0), op(api.IGet), op(api.IRetry)}}, "gggggg" + "g"},
	} {
		c := api.Code{Funs: []api.Func{x.f, {Ins: []api.Ins{op(api.IRetry)}}}, Threads: []int{1}, Locs: []int{0}, Open: []bool{false}, Durable: []bool{false}, Locks: 1}
		if !code.Right(c) {
			t.Error(name, "is not valid")
		}
		if got := strings.TrimSpace(accesses(c)); got != x.want {
			t.Errorf("%s: %s, want %s", name, got, x.want)
		}
	}
}

// Each instruction leaves what is below its operands.
func TestStack(t *testing.T) {
	for o, operands := range map[int]int{api.ILocal: 0, api.IFun: 0, api.ICall: 2, api.IPair: 2, api.IBin: 2, api.IIndex: 2, api.IFst: 1, api.ISnd: 1, api.ISome: 1, api.IPrint: 1, api.IGet: 1, api.ISet: 2, api.IDrop: 1, api.IFalse: 1, api.IOpen: 1, api.IBind: 1, api.INone: 1} {
		ins := []api.Ins{ref(0)}
		for range operands {
			ins = append(ins, num(1))
		}
		i := op(o)
		switch o {
		case api.IFalse, api.INone:
			i.A = len(ins) + 7
		case api.IFun, api.IBin:
			i.A = 1
		}
		ins = append(ins, i)
		switch o {
		case api.IDrop, api.IFalse, api.IOpen, api.IBind, api.INone:
			ins = append(ins, num(1), op(api.IDrop))
		default:
			ins = append(ins, op(api.IDrop), at(api.IUnbind, 0))
		}
		ins = append(ins, op(api.IGet), ref(0), op(api.IGet), op(api.IRetry), op(api.IRetry))
		c := api.Code{Funs: []api.Func{{Ins: ins}, {Ins: []api.Ins{op(api.IRetry)}}}, Threads: []int{1}, Locs: []int{0}, Open: []bool{false}, Durable: []bool{false}, Locks: 1}
		if code.Depth(c, 0) == nil {
			t.Error(o, "is not sound")
		}
		if got := strings.TrimSpace(accesses(c)); !strings.HasSuffix(got, "gG") {
			t.Error(o, got)
		}
	}
}

func TestNoFunction(t *testing.T) {
	c := compile(t, "thread 1;;")
	for _, fun := range []int{-1, 1, 99} {
		if got := opt.Marks(c, fun); len(got) != 0 {
			t.Error(fun, got)
		}
	}
	bad := compile(t, before+"thread atomic (!x + !x);;")
	bad.Threads = nil
	if got := opt.Of(bad); !reflect.DeepEqual(got, bad) {
		t.Error("invalid code is changed")
	}
}

// P12.2: nothing else changes, earlier marks do not matter, and marking twice is marking once.
func TestOf(t *testing.T) {
	c := compile(t, before+"let f = fun r -> (!r; r := 1);; thread atomic (f x; !x + !y + !x);;")
	original := compile(t, before+"let f = fun r -> (!r; r := 1);; thread atomic (f x; !x + !y + !x);;")
	once := opt.Of(c)
	if !reflect.DeepEqual(c, original) {
		t.Fatal("the argument was modified")
	}
	if reflect.DeepEqual(once, c) || !reflect.DeepEqual(opt.Of(once), once) || !code.Right(once) {
		t.Error("not idempotent")
	}
	marked := 0
	for fun, f := range once.Funs {
		marks := opt.Marks(c, fun)
		for k, i := range f.Ins {
			if i.Op == api.IGet || i.Op == api.ISet {
				if i.A != marks[k] {
					t.Error(fun, k)
				}
				marked += i.A
				i.A = 0
			}
			if !reflect.DeepEqual(i, c.Funs[fun].Ins[k]) {
				t.Error("another change", fun, k)
			}
		}
	}
	if marked != 2 {
		t.Error(marked)
	}
	flipped := compile(t, before+"let f = fun r -> (!r; r := 1);; thread atomic (f x; !x + !y + !x);;")
	for _, f := range flipped.Funs {
		for k := range f.Ins {
			if f.Ins[k].Op == api.IGet || f.Ins[k].Op == api.ISet {
				f.Ins[k].A = 1
			}
		}
	}
	if !reflect.DeepEqual(opt.Of(flipped), once) {
		t.Error("earlier marks matter")
	}
}

// P12.2: on random paths through marked code, a marked read finds its location accessed before in the same nesting level.
func TestSound(t *testing.T) {
	marked := 0
	for _, text := range []string{
		"thread atomic let rec f n = (if !x < n then x := !y + 1 else (y := !x; !a.[1]; ()); (if n < 1 then 0 else f (n - 1)); a.[n] := !a.[n] + !x; !y) in f 2;;",
		"let g = fun r -> (!r; atomic (!r; r := !r + 1); !r);; thread atomic (g x; !x; g a.[0]; (try (if !y < 2 then raise !y else !x) with e -> !x + !y); !x + !y);;",
		"thread atomic ((!x; (if !x < 1 then retry else !x)) orelse (!x + (if !y < 2 then retry else !y)) orelse (x := 1; !x); !x; !y + !x);;",
		"thread atomic (!x; match (if !y < 2 then None else Some x) with None -> !y | Some r -> (!r; !r; let q = r in !q + !x));;",
		"thread atomic (o1.[!x] := 1; let b = a in (b.[1] := !b.[1]; open l (o := !o + !o) undo (fun u -> o := !o + !o); !b.[1] + !a.[1]); let r = fst (x, y) in (r := !r; if !r < 2 then r := 1 else ()));;",
	} {
		c := opt.Of(compile(t, before+text))
		for seed := range 200 {
			r := rand.New(rand.NewSource(int64(seed)))
			f, _ := vm.Start(c, 0)
			levels := []map[int]bool{{}}
			for {
				next, q, err := vm.Next(c, f)
				if err != api.OK {
					t.Fatal(text, err)
				}
				top := levels[len(levels)-1]
				switch q.Kind {
				case api.QGet:
					if q.B == 1 {
						marked++
						if !top[q.A] {
							t.Fatal(text, seed, q)
						}
					}
					top[q.A] = true
				case api.QSet:
					top[q.A] = true
				case api.QAtomic, api.QLeft, api.QOpen:
					levels = append(levels, map[int]bool{})
				case api.QEnd, api.QEndL, api.QEndO, api.QDrop, api.QFailO:
					levels = levels[:len(levels)-1]
				}
				if q.Kind == api.QRetry {
					left, blocks, ok := vm.Left(next)
					if !ok {
						break
					}
					next = left
					levels = levels[:len(levels)-blocks-1]
				}
				if q.Kind == api.QDone || q.Kind == api.QExn {
					break
				}
				f, _ = vm.Resume(next, q, r.Intn(4))
			}
		}
	}
	if marked < 1000 {
		t.Error(marked)
	}
}

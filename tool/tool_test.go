package tool_test

import (
	"math/rand"
	"slices"
	"strconv"
	"strings"
	"testing"

	"hallmoot/api"
	"hallmoot/bigstep"
	"hallmoot/code"
	"hallmoot/parse"
	"hallmoot/tool"
)

// P35.1
func TestName(t *testing.T) {
	names := strings.Fields("ok argument limit syntax name duplicate type effect address fuel full torn trace none")
	for e := api.Errno(-3); e < 20; e++ {
		want := "?"
		if e >= 0 && int(e) < len(names) {
			want = names[e]
		}
		if got := tool.Name(e); got != want {
			t.Error(e, got)
		}
	}
	if tool.Name(1<<40) != "?" {
		t.Error("a large code")
	}
}

func lines(l ...string) string { return strings.Join(l, "\n") + "\n" }

// P35.2: the example, and the parts of a text.
func TestRun(t *testing.T) {
	for text, want := range map[string]string{
		"":                                            "",
		"ref x;;":                                     "",
		"ref x;;\nrun":                                "program: syntax\n",
		"ref x;;\nthread y;;":                         "program: name\n",
		"ref x;; ref x;;\n%\nrun":                     "program: duplicate\n",
		"thread 1 + true;;\n%\nrun\nrun":              "program: type\n",
		"ref x;; thread !x;;\n%":                      "program: effect\n",
		"array a 33;;\n%":                             "program: full\n",
		"thread a:b;;\n%":                             "program: syntax\n",
		strings.Repeat(" ", 3001):                     "program: limit\n",
		strings.Repeat(" ", 3000) + "\n%\n":           "program: limit\n",
		strings.Repeat(" ", 3000):                     "",
		strings.Repeat(" ", 2999) + "\n%\n":           "",
		"%\ntext\nsize":                               lines("text: ", "size: 0 functions, 0 instructions, 0 locations"),
		"%\nrun\nstate":                               lines("run: argument", "state: none"),
		"ref x;;\n%\n\n \t\ntext\n%\n text ":          lines("text: ref x;;", "unknown: %", "text: ref x;;"),
		"ref x;;\n %\nthread 1;;\n%\ntext":            "program: syntax\n",
		"array a 0;; thread a;;\n%\nrun\nstate\nsize": lines("run: argument", "state: none", "size: 1 functions, 2 instructions, 0 locations"),
		"thread 1;; thread 2;; thread 3;; thread 4;; thread 5;;\n%\nrun": "run: argument\n",
		"array a 0;; thread print 1;;\n%\nrun\nstate\noutput\nrecover":   lines("run: 0 events, 0 attempts, ok", "a", "0: 1 done", "a"),
	} {
		if got := tool.Run(text); got != want {
			t.Errorf("%.60q: %q, want %q", text, got, want)
		}
	}
	got := tool.Run(lines("ref x = 4;; thread atomic x := !x + 1;;", "%", "limit 0", "run", "limit 1000", "state", "run", "state", "output", "serial"))
	want := lines("run: 0 events, 0 attempts, fuel", "state: none", "run: 18 events, 1 attempts, ok", "x 5", "0: done", "serial: yes")
	if got != want {
		t.Errorf("%s, want\n%s", got, want)
	}
}

const program = `ref x = 4;; open ref o;; durable array a 3;; lock l;;
thread (atomic (x := !x + 1; a.[1] := 7); print 5; print 6; raise 3);;
thread atomic (if !x < 9 then retry else ());;
thread (try atomic (open l (o := 1) undo (fun u -> o := 0); raise 8) with e -> print e);;
%
`

// P35.2: every command.
func TestCommands(t *testing.T) {
	for commands, want := range map[string]string{
		"state\noutput\nattempts\njudge\nserial\ntrace\nrecover": lines("state: none", "output: none", "attempts: none", "judge: none", "serial: none", "trace: none", "recover: none"),
		"size": lines("size: 4 functions, 56 instructions, 5 locations"),
		"run\nstate\noutput\nattempts\njudge\nserial\nrecover": lines("run: 97 events, 7 attempts, ok", "x 5", "o 0", "a 0 7 0", "0: 5 6 raised 3", "1: sleeping", "2: 8 done", "attempts: 1 1 2 1 1 1 0", "judge: yes yes yes", "serial: open", "x 4", "o 0", "a 0 7 0"),
		"limit 12\nrun\nstate\noutput\nattempts\njudge":        lines("run: 12 events, 0 attempts, fuel", "x 4", "o 0", "a 0 0 0", "0: running", "1: running", "2: running", "attempts: 0 0 0 0 0 0 0", "judge: yes yes yes"),
		"script 0x20 !\nrun\nstate\nrecover\noutput\njudge":    lines("run: 20 events, 0 attempts, crash", "x 4", "o 0", "a 0 0 0", "x 4", "o 0", "a 0 7 0", "0: running", "1: running", "2: running", "judge: yes yes yes"),
		"script 0x20 !0\nrun\nrecover":                         lines("run: 20 events, 0 attempts, crash", "x 4", "o 0", "a 0 0 0"),
		"sectors 0\nrun":                                       lines("run: 55 events, 3 attempts, full"),
		"sectors 512\nsectors 000001\nmanager karma\nmanager timid\nrun\nmanager timid\nstate\nrun\nscript\nstate\nrun\nlimit 20000\nstate\nrun\nsectors 64\nstate": lines("run: 97 events, 7 attempts, ok", "state: none", "run: 97 events, 7 attempts, ok", "state: none", "run: 97 events, 7 attempts, ok", "state: none", "run: 97 events, 7 attempts, ok", "state: none"),
		"script 4\nscript 0x10001\nrun\nscript 01\nstate": lines("script: syntax", "script: limit", "run: 97 events, 7 attempts, ok", "script: syntax", "x 5", "o 0", "a 0 7 0"),
		"run x\nstate 1\nmanager\nmanager greedy x\nmanager Greedy\nlimit\nlimit 100001\nlimit 12345678\nlimit -1\nlimit 1x\nlimit 1 2\nsectors 513\nsectors +5\nsectors\nfoo\n  foo \t  bar\ntext text\nsize 1\njudge yes\nRUN\nlimit 0x5": lines(
			"unknown: run x", "unknown: state 1", "unknown: manager", "unknown: manager greedy x", "unknown: manager Greedy", "unknown: limit", "unknown: limit 100001", "unknown: limit 12345678", "unknown: limit -1", "unknown: limit 1x", "unknown: limit 1 2", "unknown: sectors 513", "unknown: sectors +5", "unknown: sectors", "unknown: foo", "unknown: foo bar", "unknown: text text", "unknown: size 1", "unknown: judge yes", "unknown: RUN", "unknown: limit 0x5"),
		"run\nmanager foo\nlimit 100001\nstate":  lines("run: 97 events, 7 attempts, ok", "unknown: manager foo", "unknown: limit 100001", "x 5", "o 0", "a 0 7 0"),
		"text":                                   "text: ref x=4;;open ref o;;durable array a 3;;lock l;;thread((atomic((x:=((!x)+1));(a.[1]:=7)));((print 5);((print 6);(raise 3))));;thread atomic(if((!x)<9)then retry else());;thread try(atomic((open l(o:=1)undo(fun u->(o:=0)));(raise 8)))with e->(print e);;\n",
		"limit 100000\nrun\nscript 0~5 1 1\tx 2": lines("run: 97 events, 7 attempts, ok", "script: syntax"),
		"run\nlimit 0\nrun\ntrace":               lines("run: 97 events, 7 attempts, ok", "run: 0 events, 0 attempts, fuel", "trace: 2 bytes, yes"),
		"\rrun":                                  "unknown: \rrun\n",
	} {
		if got := tool.Run(program + commands); got != want {
			t.Errorf("%q:\n%s, want\n%s", commands, got, want)
		}
	}
	for _, manager := range []string{"timid", "greedy", "karma", "mixed"} {
		got := tool.Run("ref x;; thread (atomic x := !x + 1; print atomic !x);; thread (atomic x := !x + 1);;\n%\nmanager " + manager + "\nscript 0x9 1x9 0~3 0 1\nrun\nserial\njudge\ntrace\noutput")
		l := strings.Split(got, "\n")
		if len(l) != 7 || !strings.HasSuffix(l[0], ", ok") || l[1] != "serial: yes" || l[2] != "judge: yes yes yes" || !strings.HasPrefix(l[3], "trace: ") || !strings.HasSuffix(l[3], " bytes, yes") || l[5] != "1: done" {
			t.Error(manager, got)
		}
	}
}

// The ten examples of the whole.
func TestExamples(t *testing.T) {
	for i, x := range []struct{ program, commands, want string }{
		{"ref x;; thread atomic x := !x + 1;; thread atomic x := !x + 1;;", "run\nstate", "run: 51 events, 3 attempts, ok\nx 2\n"},
		{"ref x;; thread !x;;", "run", "program: effect\n"},
		{"thread atomic (print 1);;", "run", "program: effect\n"},
		{"ref x = 5;; ref y;; thread atomic ((x := 9; retry) orelse (y := !x));;", "run\nstate", "run: 18 events, 1 attempts, ok\nx 5\ny 5\n"},
		{"ref x;; thread try atomic (x := 9; raise 3) with e -> print e;;", "run\nstate\noutput", "run: 6 events, 1 attempts, ok\nx 0\n0: 3 done\n"},
		{"open ref o = 5;; lock l;; thread atomic (open l (o := !o + 1) undo (fun u -> o := !o - 1); raise 4);;", "run\nstate\noutput\nattempts", "run: 40 events, 3 attempts, ok\no 5\n0: raised 4\nattempts: 0 1 0 0 1 1 0\n"},
		{"ref x;; check !x < 9;; thread atomic (x := 9);;", "run\nstate\noutput", "run: 6 events, 1 attempts, ok\nx 0\n0: raised -1\n"},
		{"ref n;; ref m;; thread atomic (if !n < 1 then retry else m := !n);; thread atomic n := 7;;", "script 0x30\nrun\nstate\nattempts\nscript 0x30\nlimit 30\nrun\noutput", "run: 76 events, 3 attempts, ok\nn 7\nm 7\nattempts: 2 0 1 0 0 0 0\nrun: 30 events, 1 attempts, fuel\n0: sleeping\n1: running\n"},
		{"durable ref x = 4;; thread atomic x := 7;;", "script 0x13 !\nrun\nstate\nrecover\nscript 0x12 !7\nrun\nrecover\njudge", "run: 13 events, 0 attempts, crash\nx 4\nx 7\nrun: 12 events, 0 attempts, crash\nx 4\njudge: yes yes yes\n"},
		{"durable ref x;; thread atomic x := 1;; thread atomic x := 2;;", "script 0x3 1~5 1 !7\nrun\nattempts", "run: 3 events, 0 attempts, crash\nattempts: 0 0 0 0 0 0 0\n"},
	} {
		if got := tool.Run(x.program + "\n%\n" + x.commands); got != x.want {
			t.Errorf("example %d:\n%s, want\n%s", i+1, got, x.want)
		}
	}
	for seed := range 30 {
		w := &writer{Rand: rand.New(rand.NewSource(int64(seed)))}
		script := strings.ReplaceAll(strings.ReplaceAll(w.script(), "2", "0"), "!", "1~")
		if got := tool.Run("ref x;; thread atomic x := !x + 1;; thread atomic x := !x + 1;;\n%\nscript " + strings.ReplaceAll(script, ",", " ") + "\nrun\nstate"); !strings.HasSuffix(got, "\nx 2\n") {
			t.Error("the first example", script, got)
		}
	}
}

// The initial settings, and what the managers change.
func TestSettings(t *testing.T) {
	reader := "thread let rec f n = (atomic (!a; !b; !c; !d); f n) in f 1;; "
	if got := tool.Run("ref a;; ref b;; ref c;; ref d;; " + strings.Repeat(reader, 4) + "\n%\nmanager greedy\nrun"); !strings.HasPrefix(got, "run: 20000 events, ") || !strings.HasSuffix(got, " attempts, fuel\n") {
		t.Error("the limit of events", got)
	}
	if got := tool.Run("durable ref a;; thread let rec f n = (atomic (a := n); f n) in f 1;;\n%\nrun\nattempts"); !strings.HasSuffix(got, " events, 64 attempts, full\nattempts: 64 0 0 0 0 0 0\n") {
		t.Error("the number of sectors", got)
	}
	if got := tool.Run("open ref o;; lock l;; thread atomic (open l (o := 1; raise 5) undo (fun u -> ()));;\n%\nrun\nattempts"); !strings.HasSuffix(got, "attempts: 0 1 0 0 0 0 1\n") {
		t.Error("a failed open block", got)
	}
	program := "ref x = 2;; durable ref y;; array a 3;; thread (print 3; atomic (y := !y + 4));; thread atomic ((y := 0) orelse (y := !a.[1] + 4; x := 0));;\n%\n"
	seen := map[string]bool{tool.Run(program + "run"): true}
	for _, manager := range []string{"greedy", "karma", "mixed"} {
		seen[tool.Run(program+"manager "+manager+"\nrun")] = true
	}
	if len(seen) != 4 || !seen[tool.Run(program+"manager karma\nmanager timid\nrun")] {
		t.Error("the managers", seen)
	}
	if got := tool.Run(program + "limit 0000009\nrun\nlimit 00000009"); got != lines("run: 9 events, 0 attempts, fuel", "unknown: limit 00000009") {
		t.Error("seven digits", got)
	}
}

// writer writes random programs, with open blocks.
type writer struct {
	*rand.Rand
	names int
}

func (w *writer) pick(l ...string) string { return l[w.Intn(len(l))] }

// unit writes an expression of type unit: of a thread, an atomic block or an open block.
func (w *writer) unit(depth int, where string) string {
	if depth == 0 {
		return "()"
	}
	u := func() string { return w.unit(depth-1, where) }
	w.names++
	v := "v" + strconv.Itoa(w.names)
	n := strconv.Itoa(w.Intn(5))
	forms := []string{"(" + u() + "; " + u() + ")", "(let " + v + " = " + n + " in " + u() + ")"}
	switch where {
	case "thread":
		forms = append(forms, "(print "+n+"; "+u()+")", "(atomic "+w.unit(depth-1, "atomic")+")", "(try atomic "+w.unit(depth-1, "atomic")+" with "+v+" -> print "+v+")")
	case "atomic":
		loc := w.pick("x", "y", "a.[0]", "a.[1]", "a.["+n+"]")
		forms = append(forms, "("+loc+" := !"+w.pick("x", "y", "a.[1]")+" + "+n+")", "("+loc+" := "+n+")", "(atomic "+u()+")", "("+u()+" orelse "+u()+")", "(try "+u()+" with "+v+" -> "+u()+")",
			"(if !"+loc+" < "+n+" then retry else "+u()+")", "(if !"+loc+" < 1 then "+u()+" else raise "+n+")",
			"(open "+w.pick("l", "k")+" "+w.unit(depth-1, "open")+" undo (fun "+v+" -> "+w.unit(depth-1, "open")+"); "+u()+")")
	case "open":
		forms = append(forms, "("+w.pick("o", "q")+" := !"+w.pick("o", "q")+" + "+n+")", "("+w.pick("o", "q")+" := "+n+")", "(if !o < "+n+" then "+u()+" else raise "+n+")")
	}
	return w.pick(forms...)
}

func (w *writer) program() string {
	text := "ref x = 2;; durable ref y;; durable array a 3;; open ref o;; open durable ref q;; lock l;; lock k;; "
	if w.Intn(3) == 0 {
		text += "check !x < 9;; "
	}
	for range 1 + w.Intn(3) {
		text += "thread " + w.unit(5, "thread") + ";; "
	}
	return text
}

func (w *writer) script() string {
	var words []string
	for range w.Intn(60) {
		words = append(words, w.pick("0", "1", "2", "0x5", "1x7", "2x3", "0~9", "1~20", "2~4", "0x2", "1"))
	}
	if w.Intn(5) == 0 {
		words = slices.Insert(words, w.Intn(len(words)+1), "!"+strconv.Itoa(w.Intn(33))+",5")
	}
	return strings.Join(words, " ")
}

// P35.3: every run is opaque, live and durable, and serializable if it has no open blocks; printing the program changes nothing.
func TestRandom(t *testing.T) {
	open, lost := 0, 0
	for seed := range 400 {
		w := &writer{Rand: rand.New(rand.NewSource(int64(seed)))}
		text := w.program()
		p, err := parse.Of(text)
		if err != api.OK {
			continue
		}
		if _, err := code.Of(p); err != api.OK {
			t.Fatalf("%s: error %d", text, err)
		}
		if _, err := bigstep.Start(p); err != api.OK {
			t.Fatal(text, err)
		}
		commands := lines("manager "+[]string{"timid", "greedy", "karma", "mixed"}[seed%4], "limit 1500", "script "+w.script(), "run", "state", "output", "attempts", "trace", "recover", "serial", "judge")
		got := tool.Run(text + "\n%\n" + commands)
		l := strings.Split(got, "\n")
		judge, serial := l[len(l)-2], l[len(l)-3]
		crashed := strings.HasSuffix(l[0], ", crash")
		if judge != "judge: yes yes yes" || serial == "serial: no" && !crashed || !strings.Contains(got, " bytes, yes\n") {
			t.Fatalf("seed %d: %s\n%s", seed, text, got)
		}
		if serial == "serial: open" {
			open++
		}
		for _, x := range l {
			if f := strings.Fields(x); len(f) == 8 && f[0] == "attempts:" && f[4] != "0" {
				lost++
			}
		}
		printed := parse.Text(p)
		if _, err := parse.Of(printed); err != api.OK {
			continue
		}
		if again := tool.Run(printed + "\n%\n" + commands); again != got {
			t.Fatalf("seed %d: %s\n%s\n%s", seed, text, got, again)
		}
	}
	if open < 60 || lost < 20 {
		t.Error(open, lost)
	}
}

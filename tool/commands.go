package tool

import (
	"strconv"
	"strings"

	"hallmoot/api"
	"hallmoot/crash"
	"hallmoot/durable"
	"hallmoot/layout"
	"hallmoot/liveness"
	"hallmoot/opaque"
	"hallmoot/parse"
	"hallmoot/run"
	"hallmoot/script"
	"hallmoot/serial"
	"hallmoot/trace"
)

// command executes a command with its arguments; it returns false if they are not valid.
type command func(s *session, args []string) bool

// commands returns the commands by their names.
func commands() map[string]command {
	return map[string]command{
		"manager":  (*session).setManager,
		"sectors":  func(s *session, args []string) bool { return s.setNumber(args, api.MaxSector, &s.sectors) },
		"limit":    func(s *session, args []string) bool { return s.setNumber(args, mostEvents, &s.limit) },
		"script":   (*session).setScript,
		"text":     alone(func(s *session) { s.line("text:", parse.Text(s.prog)) }),
		"size":     alone((*session).size),
		"run":      alone((*session).play),
		"state":    onRun("state:", func(s *session) { s.values(run.Locs(s.state)) }),
		"output":   onRun("output:", (*session).output),
		"attempts": onRun("attempts:", (*session).attempts),
		"judge":    onRun("judge:", (*session).judge),
		"serial":   onRun("serial:", (*session).serial),
		"trace":    onRun("trace:", (*session).trace),
		"recover":  onRun("recover:", (*session).recovered),
	}
}

const (
	mostEvents = 100000
	mostDigits = 7
)

// alone returns a command without arguments.
func alone(f func(*session)) command {
	return func(s *session, args []string) bool {
		if len(args) > 0 {
			return false
		}
		f(s)
		return true
	}
}

// onRun returns a command without arguments that needs a run.
func onRun(title string, f func(*session)) command {
	return alone(func(s *session) {
		if !s.played {
			s.line(title, "none")
			return
		}
		f(s)
	})
}

func (s *session) setManager(args []string) bool {
	if len(args) != 1 {
		return false
	}
	managers := [...]string{api.MTimid: "timid", api.MGreedy: "greedy", api.MKarma: "karma", api.MMixed: "mixed"}
	for manager, name := range managers {
		if args[0] == name {
			s.manager = manager
			s.discard()
			return true
		}
	}
	return false
}

// setNumber sets a number from 0 to a greatest one.
func (s *session) setNumber(args []string, most int, to *int) bool {
	if len(args) != 1 || len(args[0]) > mostDigits || strings.Trim(args[0], "0123456789") != "" {
		return false
	}
	n, err := strconv.Atoi(args[0])
	if err != nil || n > most {
		return false
	}
	*to = n
	s.discard()
	return true
}

func (s *session) setScript(args []string) bool {
	picks, err := script.Parse(strings.Join(args, " "))
	if err != api.OK {
		s.line("script:", Name(err))
		return true
	}
	s.script = picks
	s.discard()
	return true
}

func (s *session) size() {
	instructions := 0
	for _, f := range s.code.Funs {
		instructions += len(f.Ins)
	}
	s.line("size:", strconv.Itoa(len(s.code.Funs)), "functions,", strconv.Itoa(instructions), "instructions,", strconv.Itoa(len(s.code.Locs)), "locations")
}

func (s *session) play() {
	s.discard()
	conf, err := layout.For(s.code, s.sectors, s.manager)
	if err == api.OK {
		s.state, err = run.Play(s.code, conf, s.script, s.limit)
	}
	if err != api.OK {
		s.line("run:", Name(err))
		return
	}
	s.played = true
	end := Name(s.state.Err)
	if s.state.Crash {
		end = "crash"
	}
	s.line("run:", strconv.Itoa(len(s.state.Events)), "events,", strconv.Itoa(len(s.state.Attempts)), "attempts,", end)
}

// values writes the values of all locations, a line for each declaration.
func (s *session) values(locs []int) {
	for _, d := range s.prog.Decls {
		size := 0
		switch d.Kind {
		case api.DRef:
			size = 1
		case api.DArray:
			size = d.N
		default:
			continue
		}
		size = min(size, len(locs))
		s.line(append([]string{d.Name}, numbers(locs[:size])...)...)
		locs = locs[size:]
	}
}

// numbers returns the decimal forms of numbers.
func numbers(l []int) []string {
	words := make([]string, len(l))
	for i, n := range l {
		words[i] = strconv.Itoa(n)
	}
	return words
}

func (s *session) output() {
	for k, th := range s.state.Threads {
		words := append([]string{strconv.Itoa(k) + ":"}, numbers(th.Print)...)
		s.line(append(words, status(th))...)
	}
}

// status tells what has become of a thread.
func status(th api.Thread) string {
	switch {
	case th.Phase == api.GSleep:
		return "sleeping"
	case th.Phase != api.GOver:
		return "running"
	case th.Kind == api.RExn:
		return "raised " + strconv.Itoa(th.N)
	}
	return "done"
}

func (s *session) attempts() {
	var counts [api.DFail + 1]int
	for _, d := range s.state.Attempts {
		if d.Kind >= api.DCommit && d.Kind <= api.DFail {
			counts[d.Kind]++
		}
	}
	s.line(append([]string{"attempts:"}, numbers(counts[api.DCommit:])...)...)
}

func yesNo(is bool) string {
	if is {
		return "yes"
	}
	return "no"
}

func (s *session) judge() {
	s.line("judge:", yesNo(opaque.Holds(s.state)), yesNo(liveness.All(s.state)), yesNo(crash.Holds(s.state)))
}

func (s *session) serial() {
	for _, node := range s.prog.Nodes {
		if node.Kind == api.EOpen {
			s.line("serial: open")
			return
		}
	}
	s.line("serial:", yesNo(serial.Holds(s.prog, s.state)))
}

func (s *session) trace() {
	bytes := trace.Encode(s.state.Events)
	s.line("trace:", strconv.Itoa(len(bytes)), "bytes,", yesNo(s.replays(bytes)))
}

// replays reports whether encoded events are those of the run and can be replayed.
func (s *session) replays(bytes []byte) bool {
	events, err := trace.Decode(bytes)
	if err != api.OK || len(events) != len(s.state.Events) {
		return false
	}
	for i, e := range events {
		if e != s.state.Events[i] {
			return false
		}
	}
	_, _, err = trace.Replay(s.code, s.state.Layout.Conf, events)
	return err == api.OK
}

func (s *session) recovered() {
	m, _ := durable.Boot(s.state.Layout, s.code.Locs, s.state.Disk)
	s.values(run.Locs(api.State{Layout: s.state.Layout, Mem: m}))
}

package conflict_test

import (
	"testing"

	"hallmoot/api"
	"hallmoot/conflict"
	"hallmoot/layout"
	"hallmoot/step"
	"hallmoot/word"
)

// Numbers of threads are used as they are: also the own one, and those of no thread.
func TestOddThreads(t *testing.T) {
	l, _ := layout.Of(api.Conf{Threads: 2, Manager: api.MGreedy})
	load := func(cell int) api.Access { return api.Access{Kind: api.ALoad, Cell: cell} }
	active := word.Status(2, word.Active)
	for other, cells := range map[int][3]int{0: {layout.Status(l, 0), layout.Stamp(l, 0), layout.Karma(l, 0)}, 1: {layout.Status(l, 1), layout.Stamp(l, 1), layout.Karma(l, 1)}, 2: {-1, -1, -1}, -7: {-1, -1, -1}} {
		var asked api.Contender
		c := conflict.Case{Layout: l, Me: 1, Other: other, Own: true, Mine: api.Contender{Stamp: 4}, Choose: func(kind int, mine, other api.Contender) int {
			if kind != api.MGreedy || mine.Stamp != 4 {
				t.Error(kind, mine)
			}
			asked = other
			return api.CDoom
		}}
		log := []api.Result{{Val: active}, {Val: active}, {Val: 8}, {Val: 9}, {Ok: true}}
		want := []api.Access{load(layout.Status(l, 1)), load(cells[0]), load(cells[1]), load(cells[2]), {Kind: api.ACas, Cell: cells[0], Old: active, New: word.Status(2, word.Doomed)}}
		for n, access := range want {
			if got, _, done := step.Of(log[:n], c.Resolve); done || got != access {
				t.Error(other, n, got)
			}
		}
		if _, out, done := step.Of(log, c.Resolve); !done || out != (api.Out{Val: api.CDoom}) || asked != (api.Contender{Stamp: 8, Karma: 9, Aborts: 2}) {
			t.Error(other, out, asked)
		}
	}
	for status, want := range map[int]api.Out{word.Status(2, word.Idle): {Val: api.CWait}, word.Status(2, word.Doomed): {Val: api.CDoom}, word.Status(2, word.Committing): {Val: conflict.Passed}} {
		c := conflict.Case{Layout: l, Other: 1, Choose: func(int, api.Contender, api.Contender) int { return api.CDoom }}
		if _, out, done := step.Of([]api.Result{{Val: status}, {}, {}}, c.Resolve); !done || out != want {
			t.Error(status, out)
		}
		c.Choose = func(int, api.Contender, api.Contender) int { return api.CAbort }
		if _, out, _ := step.Of([]api.Result{{Val: status}, {}, {}}, c.Resolve); word.Kind(status) != word.Idle && out != (api.Out{Val: api.CAbort}) {
			t.Error(status, out)
		}
	}
	c := conflict.Case{Layout: l, Own: true, Other: 1}
	if _, out, done := step.Of([]api.Result{{Val: word.Status(2, word.Doomed)}}, c.Resolve); !done || out != (api.Out{Val: api.CAbort, Lost: true}) {
		t.Error(out)
	}
	if conflict.Passed != 3 {
		t.Error("the constant")
	}
}

package latch_test

import (
	"testing"

	"hallmoot/api"
	"hallmoot/latch"
	"hallmoot/step"
	"hallmoot/word"
)

func val(n int) api.Result  { return api.Result{Val: n} }
func ok(is bool) api.Result { return api.Result{Ok: is} }

// The outcomes of the accesses; lock has the cell 8, the value the cell 9.
func TestOutcomes(t *testing.T) {
	take := func(r *step.Run) api.Out { return latch.Take(r, 8, 2) }
	give := func(r *step.Run) api.Out { return latch.Give(r, 8, 6) }
	look := func(r *step.Run) api.Out { return latch.Look(r, 8, 6) }
	read := func(r *step.Run) api.Out { return latch.Read(r, 8, 9) }
	load := func(cell int) api.Access { return api.Access{Kind: api.ALoad, Cell: cell} }
	free, held := val(word.Free(6)), val(word.Held(3))
	for i, x := range []struct {
		operation func(*step.Run) api.Out
		log       []api.Result
		last      api.Access
		out       api.Out
	}{
		{take, []api.Result{free, ok(true)}, api.Access{Kind: api.ACas, Cell: 8, Old: word.Free(6), New: word.Held(2)}, api.Out{Is: true, Ver: 6}},
		{take, []api.Result{free, ok(false)}, api.Access{Kind: api.ACas, Cell: 8, Old: word.Free(6), New: word.Held(2)}, api.Out{Val: latch.Nobody}},
		{take, []api.Result{held}, load(8), api.Out{Val: 3}},
		{give, []api.Result{held}, api.Access{Kind: api.AStore, Cell: 8, New: word.Free(6)}, api.Out{Is: true}},
		{look, []api.Result{free}, load(8), api.Out{Is: true}},
		{look, []api.Result{val(word.Free(7))}, load(8), api.Out{Val: latch.Nobody}},
		{look, []api.Result{held}, load(8), api.Out{Val: 3}},
		{read, []api.Result{free, val(5), free}, load(8), api.Out{Is: true, Val: 5, Ver: 6}},
		{read, []api.Result{free, val(5), held}, load(8), api.Out{Val: latch.Nobody, Ver: -1}},
		{read, []api.Result{held}, load(8), api.Out{Val: 3, Ver: -1}},
	} {
		if a, _, done := step.Of(x.log[:len(x.log)-1], x.operation); done || a != x.last {
			t.Error(i, a, done)
		}
		if _, out, done := step.Of(x.log, x.operation); !done || out != x.out {
			t.Error(i, out, done)
		}
	}
	if a, _, _ := step.Of([]api.Result{free}, read); a != load(9) || latch.Nobody != -1 {
		t.Error(a)
	}
}

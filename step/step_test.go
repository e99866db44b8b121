package step_test

import (
	"testing"

	"hallmoot/api"
	"hallmoot/step"
)

// inner loads the cells 1 and 2 and returns their sum.
func inner(log []api.Result) (api.Access, api.Out, bool) {
	return step.Of(log, func(r *step.Run) api.Out {
		first := r.Load(1)
		return api.Out{Val: first + r.Load(2)}
	})
}

func outer(r *step.Run) api.Out {
	r.Store(7, 1)
	if !r.Swap(8, 2, 3) {
		return api.Out{Lost: true}
	}
	return api.Out{Val: r.Call(inner).Val, Ver: r.Add(9, 4), Is: true}
}

func TestOf(t *testing.T) {
	log := []api.Result{{Val: 100}, {Ok: true}, {Val: 5}, {Val: 6}, {Val: 7}, {Val: 99}}
	want := []api.Access{{Kind: api.AStore, Cell: 7, New: 1}, {Kind: api.ACas, Cell: 8, Old: 2, New: 3}, {Kind: api.ALoad, Cell: 1}, {Kind: api.ALoad, Cell: 2}, {Kind: api.AAdd, Cell: 9, New: 4}}
	for n, access := range want {
		if next, out, done := step.Of(log[:n], outer); next != access || out != (api.Out{}) || done {
			t.Error(n, next, out, done)
		}
	}
	for n := len(want); n <= len(log); n++ {
		if next, out, done := step.Of(log[:n], outer); next != (api.Access{}) || out != (api.Out{Val: 11, Ver: 7, Is: true}) || !done {
			t.Error(n, next, out, done)
		}
	}
	if _, out, done := step.Of([]api.Result{{}, {}}, outer); out != (api.Out{Lost: true}) || !done {
		t.Error(out, done)
	}
	if _, out, done := step.Of(nil, func(*step.Run) api.Out { panic("broken") }); out != (api.Out{Err: api.ErrArg}) || !done {
		t.Error(out, done)
	}
}

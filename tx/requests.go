package tx

import (
	"slices"

	"hallmoot/api"
	"hallmoot/nest"
	"hallmoot/vm"
)

// run executes the frame until an operation begins or the thread terminates.
func (r *runner) run() {
requests:
	for {
		f, q, err := vm.Next(r.code, *r.frame())
		if err != api.OK {
			fail(err)
		}
		*r.frame() = f
		r.permit(q.Kind)
		if !r.serve(q) {
			break requests
		}
	}
}

// permit fails if a request is not possible in the state of the thread.
func (r *runner) permit(kind int) {
	own, inside := r.th.Mode == api.NOwn, len(r.th.Levels) > 0
	switch kind {
	case api.QPrint, api.QDone, api.QExn:
		need(own && !inside)
	case api.QGet, api.QSet:
		need(!own || inside)
	case api.QAtomic:
		need(own)
	case api.QEnd, api.QCheck, api.QLeft, api.QEndL, api.QDrop, api.QRetry, api.QOpen:
		need(own && inside)
	case api.QEndO, api.QFailO:
		need(r.th.Mode == api.NOpen)
	case api.QUndone:
		need(r.th.Mode == api.NUndo)
	}
}

// serve serves a request.
func (r *runner) serve(q api.Request) bool {
	switch q.Kind {
	case api.QGet:
		return r.get(q)
	case api.QSet:
		*r.levels() = nest.Put(*r.levels(), api.Write{Loc: q.A, Val: q.B})
		r.resume(q, 0)
	case api.QPrint:
		r.th.Print = append(slices.Clip(r.th.Print), q.A)
		r.resume(q, 0)
	case api.QAtomic:
		return r.enter()
	case api.QEnd:
		return r.leave()
	case api.QCheck:
		return r.checked(q.A == 1)
	case api.QLeft:
		r.th.Levels = nest.Begin(r.th.Levels)
	case api.QEndL:
		need(len(r.th.Levels) > 1)
		r.th.Levels = nest.End(r.th.Levels)
	case api.QDrop:
		return r.drop()
	case api.QRetry:
		return r.retry()
	case api.QOpen:
		return r.open(q)
	case api.QEndO:
		return r.beginCommit(api.GDoneO)
	case api.QFailO:
		r.recordInner(api.DFail, 0, false)
		return r.beginAbort(api.GClearO, r.statusAfter())
	case api.QUndone:
		return r.undone(q.A == 1)
	default:
		return r.over(q)
	}
	return true
}

// get reads a location from the logs, or begins to read it from memory.
func (r *runner) get(q api.Request) bool {
	val, _, how := nest.Find(*r.levels(), q.A)
	if how == nest.Unknown {
		return r.beginRead(q.A)
	}
	r.resume(q, val)
	return true
}

// enter enters an atomic block.
func (r *runner) enter() bool {
	if len(r.th.Levels) == 0 {
		r.th.Save = r.th.Frame
		return r.beginAttempt()
	}
	r.th.Levels = nest.Begin(r.th.Levels)
	return true
}

// leave leaves an atomic block. The outermost one commits, unless invariants have to be evaluated before.
func (r *runner) leave() bool {
	if len(r.th.Levels) > 1 {
		r.th.Levels = nest.End(r.th.Levels)
		return true
	}
	if _, writes := nest.All(r.th.Levels); len(writes) > 0 && len(r.code.Checks) > 0 {
		r.check(1)
		return true
	}
	return r.beginCommit(api.GCommit)
}

// check evaluates the invariant of a number, counted from 1.
func (r *runner) check(number int) {
	f, err := vm.Check(r.code, r.th.Frame, number-1)
	if err != api.OK {
		fail(err)
	}
	r.th.Check, r.th.Frame = number, f
}

func (r *runner) checked(holds bool) bool {
	switch {
	case !holds:
		r.th.Check = 0
		r.th.Frame = vm.Raise(r.th.Frame, api.ExnCheck)
		return r.giveUp(api.WExn, api.DRaise, api.ExnCheck)
	case r.th.Check < len(r.code.Checks):
		r.check(r.th.Check + 1)
		return true
	}
	r.th.Check = 0
	return r.beginCommit(api.GCommit)
}

// drop lets an exception leave an atomic block.
func (r *runner) drop() bool {
	if len(r.th.Levels) == 1 {
		return r.giveUp(api.WExn, api.DRaise, r.th.Frame.Exn)
	}
	levels, undo := nest.Drop(r.th.Levels)
	r.th.Levels = levels
	return r.compensate(undo)
}

// retry continues with the right side of an orelse, or gives up until something has changed.
func (r *runner) retry() bool {
	f, blocks, ok := vm.Left(r.th.Frame)
	if !ok {
		return r.giveUp(api.WWait, api.DWait, 0)
	}
	need(blocks+1 < len(r.th.Levels))
	r.th.Frame = f
	var undo []api.Undo
	for range blocks + 1 {
		levels, some := nest.Drop(r.th.Levels)
		r.th.Levels = levels
		undo = append(undo, some...)
	}
	return r.compensate(undo)
}

// open acquires the abstract lock of an open block, unless the thread holds it already.
func (r *runner) open(q api.Request) bool {
	r.th.Lock, r.th.Fun = q.A, q.Val
	if slices.Contains(r.th.Locks, q.A) {
		return r.beginOpen()
	}
	return r.begin(api.GTake, api.Op{Kind: api.PTake, A: q.A})
}

// undone ends a compensation that returned or raised an exception.
func (r *runner) undone(returned bool) bool {
	if returned {
		return r.beginCommit(api.GDoneU)
	}
	r.recordInner(api.DUndo, 0, false)
	return r.beginAbort(api.GClearU, r.statusAfter())
}

// over terminates the thread.
func (r *runner) over(q api.Request) bool {
	r.th.Kind, r.th.N = api.RVal, 0
	if q.Kind == api.QExn {
		r.th.Kind, r.th.N = api.RExn, q.A
	}
	r.th.Phase, r.th.Op = api.GOver, api.Op{}
	r.th.Log, r.th.Steps = nil, nil
	return false
}

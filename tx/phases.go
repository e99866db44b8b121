package tx

import (
	"slices"

	"hallmoot/api"
	"hallmoot/nest"
	"hallmoot/vm"
)

// turn continues the thread after its operation.
func (r *runner) turn() {
	actions := [...]func() bool{
		api.GBegin:  r.afterBegin,
		api.GRead:   r.afterRead,
		api.GCommit: r.afterCommit,
		api.GTake:   r.afterTake,
		api.GOpen:   r.afterOpen,
		api.GDoneO:  r.afterDoneO,
		api.GClearO: r.afterClearO,
		api.GUndo:   r.afterUndo,
		api.GDoneU:  r.afterDoneU,
		api.GClearU: r.nextButOne,
		api.GAgainU: r.next,
		api.GClear:  r.next,
		api.GGive:   r.afterGive,
		api.GWatch:  r.afterWatch,
		api.GSleep:  r.afterSleep,
	}
	need(r.th.Phase >= 0 && r.th.Phase < len(actions))
	if actions[r.th.Phase]() {
		r.run()
	}
}

// firstStep returns the event with which the operation began.
func (r *runner) firstStep() int {
	need(len(r.th.Steps) > 0)
	return r.th.Steps[0]
}

func (r *runner) afterBegin() bool {
	r.th.Rv, r.th.Stamp = r.out.Rv, r.out.Stamp
	r.th.First = r.firstStep()
	r.th.Levels = nest.Begin(nil)
	return true
}

func (r *runner) afterOpen() bool {
	r.th.Mode = api.NOpen
	r.th.Own = nest.Begin(nil)
	return r.afterUndo()
}

func (r *runner) afterUndo() bool {
	r.th.RvO, r.th.FirstO = r.out.Rv, r.firstStep()
	return true
}

func (r *runner) afterTake() bool {
	if r.out.Lost {
		return r.lost()
	}
	r.th.Locks = append(slices.Clip(r.th.Locks), r.th.Lock)
	return r.beginOpen()
}

func (r *runner) afterRead() bool {
	if r.out.Lost {
		return r.lost()
	}
	*r.rv() = r.out.Rv
	*r.levels() = nest.Read(*r.levels(), api.Seen{Loc: r.th.Op.A, Ver: r.out.Ver, Val: r.out.Val})
	r.resume(api.Request{Kind: api.QGet, A: r.th.Op.A}, r.out.Val)
	return true
}

func (r *runner) afterCommit() bool {
	if r.out.Lost {
		return r.lost()
	}
	r.recordOuter(api.DCommit, 0, r.out.Ver)
	r.th.Undo, r.th.Then = nil, api.WExn
	return r.proceed()
}

func (r *runner) afterDoneO() bool {
	if r.out.Lost {
		return r.lost()
	}
	r.recordInner(api.DOpen, r.out.Ver, true)
	r.th.Levels = nest.Keep(r.th.Levels, api.Undo{Fun: r.th.Fun, Lock: r.th.Lock})
	return r.afterClearO()
}

func (r *runner) afterClearO() bool {
	r.th.Own, r.th.Mode = nil, api.NOwn
	return true
}

func (r *runner) afterDoneU() bool {
	if r.out.Lost {
		return r.lost()
	}
	r.recordInner(api.DUndo, r.out.Ver, true)
	return r.nextButOne()
}

func (r *runner) afterGive() bool {
	need(len(r.th.Locks) > 0)
	r.th.Locks = slices.Clip(r.th.Locks[:len(r.th.Locks)-1])
	return r.proceed()
}

func (r *runner) afterWatch() bool {
	if !r.out.Is {
		return r.beginAttempt()
	}
	return r.beginWait(api.GSleep, api.Op{Kind: api.PSleep})
}

func (r *runner) afterSleep() bool {
	if r.out.Is {
		return r.beginAttempt()
	}
	return r.beginWait(api.GSleep, api.Op{Kind: api.PSleep})
}

// compensate runs compensations within the transaction.
func (r *runner) compensate(undo []api.Undo) bool {
	r.th.Then, r.th.Undo = api.WGo, undo
	return r.next()
}

// nextButOne removes the compensation that has finished and runs the next one.
func (r *runner) nextButOne() bool {
	need(len(r.th.Undo) > 0)
	r.th.Undo = r.th.Undo[1:]
	return r.next()
}

// next runs the next compensation, if there is one.
func (r *runner) next() bool {
	if len(r.th.Undo) == 0 {
		return r.proceed()
	}
	f, err := vm.Undo(r.code, r.th.Undo[0].Fun)
	if err != api.OK {
		fail(err)
	}
	r.th.Mode, r.th.Own, r.th.Undoes = api.NUndo, nest.Begin(nil), f
	op := api.Op{Kind: api.PBegin, A: r.th.Stamp}
	if r.th.Then == api.WGo {
		op.B = clockOnly
	} else {
		r.th.Try++
	}
	return r.begin(api.GUndo, op)
}

// proceed does what has to be done after the compensations.
func (r *runner) proceed() bool {
	r.th.Mode, r.th.Own = api.NOwn, nil
	if r.th.Then == api.WGo {
		return true
	}
	if n := len(r.th.Locks); n > 0 {
		return r.begin(api.GGive, api.Op{Kind: api.PGive, A: r.th.Locks[n-1]})
	}
	switch r.th.Then {
	case api.WAgain:
		return r.beginAttempt()
	case api.WWait:
		return r.beginWait(api.GWatch, api.Op{Kind: api.PWatch, B: r.th.Rv})
	}
	r.th.Levels, r.th.Undo = nil, nil
	r.th.Stamp, r.th.Karma, r.th.Aborts, r.th.Rv = 0, 0, 0, 0
	return true
}

// giveUp ends an attempt that does not commit.
func (r *runner) giveUp(then, kind, n int) bool {
	if r.th.Mode != api.NOwn {
		r.recordInner(api.DFail, 0, false)
	}
	r.recordOuter(kind, n, 0)
	for range r.th.Levels {
		levels, undo := nest.Drop(r.th.Levels)
		r.th.Levels = levels
		r.th.Undo = append(slices.Clip(r.th.Undo), undo...)
	}
	r.th.Check, r.th.Then = 0, then
	if then == api.WAgain {
		r.th.Aborts++
		r.th.Karma += len(r.allReads())
	}
	if then == api.WAgain || then == api.WWait {
		r.th.Frame = r.th.Save
	}
	r.beginAbort(api.GClear, 0)
	r.th.Own, r.th.Mode = nil, api.NOwn
	return false
}

// lost ends an operation that told the transaction to abort. A compensation outside of the transaction is tried again.
func (r *runner) lost() bool {
	if r.th.Mode == api.NUndo && r.th.Then != api.WGo {
		r.recordInner(api.DFail, 0, false)
		return r.beginAbort(api.GAgainU, r.statusAfter())
	}
	return r.giveUp(api.WAgain, api.DLost, 0)
}

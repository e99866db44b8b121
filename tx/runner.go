package tx

import (
	"slices"

	"hallmoot/api"
	"hallmoot/nest"
	"hallmoot/vm"
	"hallmoot/word"
)

// runner is a turn of a thread. Its methods that return a bool tell whether the thread continues to execute its frame; otherwise an operation has begun or the thread has terminated.
type runner struct {
	code     api.Code
	me       int
	th       api.Thread
	out      api.Out // the outcome of the thread's last operation
	events   int
	attempts []api.Attempt
}

// fail leaves the turn; attempt recovers.
func fail(err api.Errno) { panic(err) }

// need fails unless a condition holds.
func need(is bool) {
	if !is {
		fail(api.ErrArg)
	}
}

// attempt calls a function and returns the error that it fails with.
func (r *runner) attempt(f func()) (err api.Errno) {
	defer func() {
		if x := recover(); x != nil {
			err = api.ErrArg
			if e, ok := x.(api.Errno); ok {
				err = e
			}
		}
	}()
	f()
	return api.OK
}

// frame returns the frame that is executed.
func (r *runner) frame() *api.Frame {
	if r.th.Mode == api.NUndo {
		return &r.th.Undoes
	}
	return &r.th.Frame
}

// levels returns the current levels.
func (r *runner) levels() *[]api.Level {
	if r.th.Mode == api.NOwn {
		return &r.th.Levels
	}
	return &r.th.Own
}

// rv returns the read version that belongs to the current levels.
func (r *runner) rv() *int {
	if r.th.Mode == api.NOwn {
		return &r.th.Rv
	}
	return &r.th.RvO
}

// resume answers a request of the frame.
func (r *runner) resume(q api.Request, n int) {
	f, err := vm.Resume(*r.frame(), q, n)
	if err != api.OK {
		fail(err)
	}
	*r.frame() = f
}

// begin begins an operation.
func (r *runner) begin(phase int, op api.Op) bool {
	reads, _ := nest.All(r.th.Levels)
	op.Try = r.th.Try
	op.Mine = api.Contender{Stamp: r.th.Stamp, Karma: r.th.Karma + len(reads), Aborts: r.th.Aborts}
	r.th.Phase, r.th.Op = phase, op
	r.th.Log, r.th.Steps = nil, nil
	return false
}

// beginAttempt begins the transaction's next attempt.
func (r *runner) beginAttempt() bool {
	r.th.Try++
	return r.begin(api.GBegin, api.Op{Kind: api.PBegin, A: r.th.Stamp})
}

// beginOpen begins the open block whose abstract lock is held.
func (r *runner) beginOpen() bool {
	return r.begin(api.GOpen, api.Op{Kind: api.PBegin, A: r.th.Stamp, B: clockOnly})
}

func (r *runner) beginRead(loc int) bool {
	reads, _ := nest.All(*r.levels())
	return r.begin(api.GRead, api.Op{Kind: api.PRead, A: loc, B: *r.rv(), Seen: reads})
}

func (r *runner) beginCommit(phase int) bool {
	reads, writes := nest.All(*r.levels())
	durable := make([]bool, len(writes))
	for i, w := range writes {
		durable[i] = w.Loc >= 0 && w.Loc < len(r.code.Durable) && r.code.Durable[w.Loc]
	}
	return r.begin(phase, api.Op{Kind: api.PCommit, B: r.statusAfter(), Seen: reads, Writes: writes, Durable: durable})
}

// beginAbort withdraws the current levels, and leaves a status behind.
func (r *runner) beginAbort(phase, status int) bool {
	return r.begin(phase, api.Op{Kind: api.PAbort, A: r.th.Karma, B: status, Seen: r.allReads()})
}

// allReads returns the reads of the transaction and of its open block or compensation.
func (r *runner) allReads() []api.Seen {
	reads, _ := nest.All(slices.Concat(r.th.Levels, r.th.Own))
	return reads
}

// beginWait begins an operation on the locations that the transaction has read.
func (r *runner) beginWait(phase int, op api.Op) bool {
	op.Seen, _ = nest.All(r.th.Levels)
	return r.begin(phase, op)
}

// statusAfter returns the status that the end of the current levels leaves behind: that of the transaction if it goes on.
func (r *runner) statusAfter() int {
	if r.th.Mode == api.NOpen || r.th.Mode == api.NUndo && r.th.Then == api.WGo {
		return word.Status(r.th.Try, word.Active)
	}
	return word.Status(0, word.Idle)
}

// recordOuter records an attempt of the transaction.
func (r *runner) recordOuter(kind, n, ver int) {
	d := api.Attempt{Kind: kind, N: n, First: r.th.First, Ver: ver, Rv: r.th.Rv}
	r.record(d, r.th.Levels, kind == api.DCommit)
}

// recordInner records an attempt of an open block or a compensation.
func (r *runner) recordInner(kind, ver int, committed bool) {
	d := api.Attempt{Kind: kind, N: r.lock(), First: r.th.FirstO, Ver: ver, Rv: r.th.RvO}
	r.record(d, r.th.Own, committed)
}

// lock returns the abstract lock of the open block or compensation.
func (r *runner) lock() int {
	if r.th.Mode == api.NOpen {
		return r.th.Lock
	}
	return r.th.Undo[0].Lock
}

func (r *runner) record(d api.Attempt, levels []api.Level, committed bool) {
	d.Thread, d.Last = r.me, r.events-1
	reads, writes := nest.All(levels)
	d.Seen = reads
	if committed {
		d.Writes = writes
	}
	r.attempts = append(r.attempts, d)
}

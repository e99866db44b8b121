package commit

import (
	"hallmoot/api"
	"hallmoot/conflict"
	"hallmoot/latch"
	"hallmoot/layout"
	"hallmoot/manager"
	"hallmoot/wal"
	"hallmoot/word"
)

// resolve resolves the conflict with a thread, whose number comes from memory as it is.
func (a *attempt) resolve(other int, own bool) api.Out {
	c := conflict.Case{Layout: a.layout, Me: a.me, Other: other, Own: own, Mine: a.Mine, Choose: manager.Choose}
	return c.Resolve(a.Run)
}

// stayAlive aborts the commit if the attempt is doomed.
func (a *attempt) stayAlive() {
	if word.Kind(a.Load(a.status())) == word.Doomed {
		panic(aborted{})
	}
}

// acquire locks a location.
func (a *attempt) acquire(loc int) {
	for {
		got := latch.Take(a.Run, layout.Word(a.layout, loc), a.me)
		if got.Is {
			a.held = append(a.held, got.Ver)
			return
		}
		if got.Val == latch.Nobody {
			continue
		}
		if verdict := a.resolve(got.Val, true); verdict.Lost || verdict.Val == api.CAbort {
			panic(aborted{})
		}
	}
}

// challengeReaders resolves the conflicts with the visible readers of a location.
func (a *attempt) challengeReaders(loc int) {
	for _, reader := range word.Bits(a.Load(layout.Readers(a.layout, loc))) {
		if reader != a.me && a.resolve(reader, false).Val == api.CAbort {
			panic(aborted{})
		}
	}
}

// enter begins the part of the commit in which others cannot abort it.
func (a *attempt) enter() {
	if !a.Swap(a.status(), word.Status(a.Try, word.Active), word.Status(a.Try, word.Committing)) {
		panic(aborted{})
	}
}

// draw acquires the log, if there is something to log, and draws the new version.
func (a *attempt) draw() {
	if len(a.durable()) > 0 {
		for !a.Swap(a.layout.Log, 0, a.me+1) {
		}
		a.logs = true
	}
	a.ver = a.Add(a.layout.Clock, 1) + 1
}

// durable returns the durable writes.
func (a *attempt) durable() []api.Write {
	var writes []api.Write
	for i, w := range a.Writes {
		if i < len(a.Durable) && a.Durable[i] {
			writes = append(writes, w)
		}
	}
	return writes
}

// validate checks that a read is still current.
func (a *attempt) validate(s api.Seen) {
	for {
		w := a.Load(layout.Word(a.layout, s.Loc))
		mine := w == word.Held(a.me)
		if w == word.Free(s.Ver) || mine && a.heldAt(s.Loc, s.Ver) {
			return
		}
		if mine || !word.Locked(w) {
			panic(aborted{})
		}
		switch a.resolve(word.Who(w), false).Val {
		case api.CDoom, api.CWait:
			continue
		}
		panic(aborted{})
	}
}

// heldAt reports whether a location had a version when this commit first acquired it.
func (a *attempt) heldAt(loc, ver int) bool {
	for i, had := range a.held {
		if a.Writes[i].Loc == loc {
			return had == ver
		}
	}
	return false
}

// record writes the durable writes to the log; it returns false if they do not fit.
func (a *attempt) record() bool {
	sectors := wal.Record(api.Entry{Ver: a.ver, Writes: a.durable()})
	end := a.Load(a.layout.End)
	if end < 0 || end > a.layout.Conf.Sectors-len(sectors) {
		return false
	}
	for i, bytes := range sectors {
		a.Do(api.Access{Kind: api.ADisk, Cell: end + i, Bytes: bytes})
	}
	a.Do(api.Access{Kind: api.ASync})
	a.Store(a.layout.End, end+len(sectors))
	a.Store(a.layout.Log, 0)
	return true
}

// publish makes the writes visible and wakes those who wait for them.
func (a *attempt) publish() {
	for _, w := range a.Writes {
		a.Store(layout.Val(a.layout, w.Loc), w.Val)
	}
	for _, w := range a.Writes {
		a.release(w.Loc, a.ver)
	}
	for _, w := range a.Writes {
		for _, waiter := range word.Bits(a.Load(layout.Waiters(a.layout, w.Loc))) {
			if waiter != a.me {
				a.Store(layout.Wake(a.layout, waiter), 1)
			}
		}
	}
}

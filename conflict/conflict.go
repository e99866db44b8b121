// Package conflict contains the accesses by which a transaction resolves a conflict with another thread (P17.2). Several layers perform them, on thread numbers that they found in memory and do not check.
package conflict

import (
	"hallmoot/api"
	"hallmoot/layout"
	"hallmoot/step"
	"hallmoot/word"
)

// Passed is the verdict on a transaction that can no longer be aborted.
const Passed = 3

// Case is a conflict of the transaction Mine of the thread Me with the thread Other. Choose is the decision of the contention managers.
type Case struct {
	Layout api.Layout
	Me     int
	Other  int
	Own    bool // whether the own transaction may have been doomed
	Mine   api.Contender
	Choose func(kind int, mine, other api.Contender) int
}

// Resolve performs the accesses and returns the outcome.
func (c Case) Resolve(r *step.Run) api.Out {
	if c.Own && word.Kind(r.Load(layout.Status(c.Layout, c.Me))) == word.Doomed {
		return api.Out{Val: api.CAbort, Lost: true}
	}
	status := r.Load(layout.Status(c.Layout, c.Other))
	if word.Kind(status) == word.Idle {
		return api.Out{Val: api.CWait}
	}
	other := api.Contender{Aborts: word.Try(status)}
	other.Stamp = r.Load(layout.Stamp(c.Layout, c.Other))
	other.Karma = r.Load(layout.Karma(c.Layout, c.Other))
	if c.Choose(c.Layout.Conf.Manager, c.Mine, other) == api.CAbort {
		return api.Out{Val: api.CAbort}
	}
	return c.doom(r, status)
}

// doom dooms the other transaction, if that is still possible.
func (c Case) doom(r *step.Run, status int) api.Out {
	switch word.Kind(status) {
	case word.Active:
		doomed := word.Status(word.Try(status), word.Doomed)
		if !r.Swap(layout.Status(c.Layout, c.Other), status, doomed) {
			return api.Out{Val: api.CWait}
		}
		fallthrough
	case word.Doomed:
		return api.Out{Val: api.CDoom}
	}
	return api.Out{Val: Passed}
}

package liveness

import (
	"slices"

	"hallmoot/api"
	"hallmoot/layout"
	"hallmoot/word"
)

// The statuses and the stamps of threads, by their cells.
type (
	statuses map[int]int
	stamps   map[int]int
)

// replay follows the statuses and stamps of all threads through the events of a run.
type replay struct {
	statuses
	stamps
	layout api.Layout
}

// threads returns the number of threads of a layout, which is small if the layout is valid.
func threads(l api.Layout) int { return min(l.Conf.Threads, api.MaxThread) }

func newReplay(l api.Layout) *replay {
	r := &replay{statuses: statuses{}, stamps: stamps{}, layout: l}
	for t := range threads(l) {
		r.statuses[layout.Status(l, t)] = 0
		r.stamps[layout.Stamp(l, t)] = 0
	}
	return r
}

// apply executes an event.
func (r *replay) apply(e api.Event) {
	a := e.Access
	if a.Kind != api.AStore && (a.Kind != api.ACas || !e.Result.Ok) {
		return
	}
	if _, ok := r.statuses[a.Cell]; ok {
		r.statuses[a.Cell] = a.New
	}
	if _, ok := r.stamps[a.Cell]; ok {
		r.stamps[a.Cell] = a.New
	}
}

// stamp returns the stamp of a thread; it is 0 for a thread that does not exist.
func (r *replay) stamp(t int) int { return r.stamps[layout.Stamp(r.layout, t)] }

// lostAttempt is an attempt that was aborted between two numbers of events.
type lostAttempt struct {
	thread   int
	from, to int
	least    int  // the smallest stamp of another active thread so far
	seen     bool // there was another active thread
}

// look takes account of the threads that are active now.
func (d *lostAttempt) look(r *replay) {
	for t := range threads(r.layout) {
		if t == d.thread || word.Kind(r.statuses[layout.Status(r.layout, t)]) == word.Idle {
			continue
		}
		if stamp := r.stamp(t); !d.seen || stamp < d.least {
			d.least, d.seen = stamp, true
		}
	}
}

// excused reports whether there was an older transaction than that of the attempt's thread.
func (d *lostAttempt) excused(r *replay) bool { return d.seen && d.least < r.stamp(d.thread) }

// lostAttempts returns the aborted attempts in the order in which they begin; false if one of them has no events at all.
func lostAttempts(s api.State) ([]*lostAttempt, bool) {
	var lost []*lostAttempt
	// Before an event that is not there is before the first one or behind the last one.
	before := func(event int) int { return min(max(event, 0), len(s.Events)) }
	for _, d := range s.Attempts {
		if d.Kind != api.DLost {
			continue
		}
		if d.First > d.Last {
			return nil, false
		}
		// A sum could overflow, but an index behind the events is as good as any other one.
		first, last := min(d.First, len(s.Events)), min(d.Last, len(s.Events))
		lost = append(lost, &lostAttempt{thread: d.Thread, from: before(first + 1), to: before(last + 1)})
	}
	slices.SortStableFunc(lost, func(a, b *lostAttempt) int { return a.from - b.from })
	return lost, true
}

// GreedyProgress reports whether, under the greedy manager, attempts were aborted only on behalf of older transactions.
func GreedyProgress(s api.State) bool {
	if s.Layout.Conf.Manager != api.MGreedy {
		return true
	}
	waiting, ok := lostAttempts(s)
	if !ok {
		return false
	}
	var active []*lostAttempt
	r := newReplay(s.Layout)
	holds := true
scan:
	for count := 0; count <= len(s.Events); count++ {
		if count > 0 {
			r.apply(s.Events[count-1])
		}
		for len(waiting) > 0 && waiting[0].from == count {
			active = append(active, waiting[0])
			waiting = waiting[1:]
		}
		for _, d := range active {
			d.look(r)
			if d.to == count && !d.excused(r) {
				holds = false
				break scan
			}
		}
		active = slices.DeleteFunc(active, func(d *lostAttempt) bool { return d.to == count })
	}
	return holds
}

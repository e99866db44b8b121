// Package latch contains the accesses to the versioned lock of a location (P16.1 to P16.4), as parts of the operations of several layers. A location is given by the cells of its lock word and of its value.
package latch

import (
	"hallmoot/api"
	"hallmoot/step"
	"hallmoot/word"
)

// Nobody stands for the owner of a lock that is free, or that changed while it was looked at.
const Nobody = -1

// Take tries to acquire a lock for a thread.
func Take(r *step.Run, lock, thread int) api.Out {
	w := r.Load(lock)
	if word.Locked(w) {
		return api.Out{Val: word.Who(w)}
	}
	if !r.Swap(lock, w, word.Held(thread)) {
		return api.Out{Val: Nobody}
	}
	return api.Out{Is: true, Ver: word.Ver(w)}
}

// Give releases a lock with a version.
func Give(r *step.Run, lock, ver int) api.Out {
	r.Store(lock, word.Free(ver))
	return api.Out{Is: true}
}

// Look asks whether a lock is free and has a version.
func Look(r *step.Run, lock, ver int) api.Out {
	w := r.Load(lock)
	if w == word.Free(ver) {
		return api.Out{Is: true}
	}
	if word.Locked(w) {
		return api.Out{Val: word.Who(w)}
	}
	return api.Out{Val: Nobody}
}

// Read reads a value together with its version.
func Read(r *step.Run, lock, val int) api.Out {
	w := r.Load(lock)
	if word.Locked(w) {
		return api.Out{Val: word.Who(w), Ver: -1}
	}
	n := r.Load(val)
	if r.Load(lock) != w {
		return api.Out{Val: Nobody, Ver: -1}
	}
	return api.Out{Is: true, Val: n, Ver: word.Ver(w)}
}

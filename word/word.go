// Package word encodes lock words, status words and sets of threads as integers (layer 1, shared/doc/01-word.md).
package word

// The kinds of status words.
const (
	Idle = iota
	Active
	Committing
	Doomed

	kinds
)

// lastThread is the greatest thread that a mask can contain: the sign bit and the bit below it stay unused.
const lastThread = 61

// Free returns the lock word of an unlocked location with the given version.
func Free(ver int) int { return 2 * ver }

// Held returns the lock word of a location that is locked by a thread.
func Held(thread int) int { return 2*thread + 1 }

// Locked reports whether a lock word is locked.
func Locked(w int) bool { return w&1 != 0 }

// Ver returns the version in an unlocked lock word.
func Ver(w int) int { return half(w) }

// Who returns the owner in a locked lock word.
func Who(w int) int { return half(w) }

// half divides by 2; the shift rounds toward negative infinity, as the division of Go does not.
func half(w int) int { return w >> 1 }

// Status returns the status word of an attempt.
func Status(try, kind int) int { return kinds*try + kind&(kinds-1) }

// Try returns the attempt number in a status word.
func Try(s int) int { return (s - Kind(s)) / kinds }

// Kind returns the kind of a status word.
func Kind(s int) int { return s & (kinds - 1) }

// set is a set of threads, one bit a thread.
type set int

func single(thread int) set {
	if thread < 0 || thread > lastThread {
		return 0
	}
	return 1 << thread
}

func (s set) has(thread int) bool { return s&single(thread) != 0 }

func (s set) add(thread int) set { return s | single(thread) }

func (s set) remove(thread int) set { return s &^ single(thread) }

// Bit returns the mask that contains only one thread.
func Bit(thread int) int { return int(set.add(0, thread)) }

// In reports whether a mask contains a thread.
func In(mask, thread int) bool { return change(set.has, mask, thread) }

// With returns a mask with a thread added.
func With(mask, thread int) int { return int(change(set.add, mask, thread)) }

// Without returns a mask with a thread removed.
func Without(mask, thread int) int { return int(change(set.remove, mask, thread)) }

// change applies a method of sets, given as a method expression, to a plain mask.
func change[R any](method func(set, int) R, mask, thread int) R {
	return method(set(mask), thread)
}

// Bits returns the threads in a mask, in ascending order.
func Bits(mask int) []int {
	var threads []int
	for thread := 0; thread <= lastThread; thread++ {
		if In(mask, thread) {
			threads = append(threads, thread)
		}
	}
	return threads
}

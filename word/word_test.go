package word_test

import (
	"math"
	"slices"
	"testing"

	"hallmoot/word"
)

var numbers = []int{0, 1, 2, 3, 5, 1 << 20, 1<<61 - 1, 1 << 61, 1 << 62, math.MaxInt, -1, -2, -3, -4, -5, math.MinInt}

// P1.1: lock words, also of negative numbers and where the product wraps around.
func TestLockWords(t *testing.T) {
	for _, x := range []struct{ n, free, held int }{
		{0, 0, 1}, {5, 10, 11}, {2, 4, 5}, {-1, -2, -1}, {-3, -6, -5},
		{1<<61 - 1, 1<<62 - 2, 1<<62 - 1}, {1 << 62, math.MinInt, math.MinInt + 1}, {math.MinInt, 0, 1},
	} {
		if got := word.Free(x.n); got != x.free {
			t.Errorf("Free(%d) = %d, want %d", x.n, got, x.free)
		}
		if got := word.Held(x.n); got != x.held {
			t.Errorf("Held(%d) = %d, want %d", x.n, got, x.held)
		}
	}
	for _, x := range []struct {
		w, half int
		locked  bool
	}{{0, 0, false}, {1, 0, true}, {10, 5, false}, {11, 5, true}, {-1, -1, true}, {-2, -1, false}, {-3, -2, true}, {-4, -2, false}, {math.MinInt, -1 << 62, false}, {math.MaxInt, 1<<62 - 1, true}} {
		if word.Ver(x.w) != x.half || word.Who(x.w) != x.half || word.Locked(x.w) != x.locked {
			t.Errorf("word %d: Ver %d, Who %d, Locked %v", x.w, word.Ver(x.w), word.Who(x.w), word.Locked(x.w))
		}
	}
}

// P1.2: status words; kinds are taken modulo 4, and divisions round down.
func TestStatusWords(t *testing.T) {
	if word.Idle != 0 || word.Active != 1 || word.Committing != 2 || word.Doomed != 3 {
		t.Fatal("the kinds have other numbers")
	}
	for _, x := range []struct{ try, kind, s int }{
		{0, 0, 0}, {3, word.Doomed, 15}, {1, word.Active, 5}, {2, 6, 10}, {2, -1, 11}, {-1, 0, -4}, {-2, 3, -5},
		{1 << 61, 1, math.MinInt + 1}, {1 << 62, 2, 2},
	} {
		if got := word.Status(x.try, x.kind); got != x.s {
			t.Errorf("Status(%d, %d) = %d, want %d", x.try, x.kind, got, x.s)
		}
	}
	for _, x := range []struct{ s, try, kind int }{{0, 0, 0}, {15, 3, 3}, {-1, -1, 3}, {-4, -1, 0}, {-5, -2, 3}, {math.MinInt, -1 << 61, 0}} {
		if word.Try(x.s) != x.try || word.Kind(x.s) != x.kind {
			t.Errorf("status %d: Try %d, Kind %d", x.s, word.Try(x.s), word.Kind(x.s))
		}
	}
}

// P1.3: masks hold threads 0 to 61 and nothing else.
func TestMasks(t *testing.T) {
	for thread := -70; thread <= 130; thread++ {
		bit := 0
		if thread >= 0 && thread <= 61 {
			bit = 1 << thread
		}
		if word.Bit(thread) != bit {
			t.Errorf("Bit(%d) = %d", thread, word.Bit(thread))
		}
		for _, mask := range numbers {
			if word.In(mask, thread) != (mask&bit != 0) {
				t.Errorf("In(%d, %d)", mask, thread)
			}
			if word.With(mask, thread) != mask|bit || word.Without(mask, thread) != mask&^bit {
				t.Errorf("With or Without(%d, %d)", mask, thread)
			}
		}
	}
	for _, x := range []struct {
		mask int
		want []int
	}{{0, nil}, {9, []int{0, 3}}, {1 << 61, []int{61}}, {1 << 62, nil}, {math.MinInt, nil}} {
		if got := word.Bits(x.mask); !slices.Equal(got, x.want) {
			t.Errorf("Bits(%d) = %v", x.mask, got)
		}
	}
	if got := word.Bits(-1); len(got) != 62 || got[0] != 0 || got[61] != 61 || !slices.IsSorted(got) {
		t.Errorf("Bits(-1) = %v", got)
	}
}

// P1.4: decoding is inverse to encoding, and masks behave like sets.
func TestInverse(t *testing.T) {
	for _, n := range []int{0, 1, 2, 61, 1 << 40, 1<<61 - 1} {
		if word.Ver(word.Free(n)) != n || word.Locked(word.Free(n)) {
			t.Errorf("Free(%d)", n)
		}
		if word.Who(word.Held(n)) != n || !word.Locked(word.Held(n)) {
			t.Errorf("Held(%d)", n)
		}
		for kind := range 4 {
			if s := word.Status(n, kind); word.Try(s) != n || word.Kind(s) != kind {
				t.Errorf("Status(%d, %d)", n, kind)
			}
		}
	}
	mask := 0
	for thread := 61; thread >= 0; thread-- {
		mask = word.With(mask, thread)
		if got := word.Bits(mask); len(got) != 62-thread || got[0] != thread {
			t.Fatalf("Bits after adding %d: %v", thread, got)
		}
	}
	for thread := range 62 {
		mask = word.Without(word.Without(mask, thread), thread)
		if word.In(mask, thread) || len(word.Bits(mask)) != 61-thread {
			t.Fatalf("Bits after removing %d: %v", thread, word.Bits(mask))
		}
	}
}

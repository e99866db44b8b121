package nest_test

import (
	"math/rand"
	"reflect"
	"slices"
	"testing"

	"hallmoot/api"
	"hallmoot/nest"
)

func seen(loc, ver, val int) api.Seen { return api.Seen{Loc: loc, Ver: ver, Val: val} }
func put(loc, val int) api.Write      { return api.Write{Loc: loc, Val: val} }
func undo(n int) api.Undo             { return api.Undo{Fun: api.Value{Kind: api.VFun, N: n}, Lock: n + 10} }

func same(a, b []api.Level) bool {
	return slices.EqualFunc(a, b, func(x, y api.Level) bool {
		return slices.Equal(x.Reads, y.Reads) && slices.Equal(x.Writes, y.Writes) && slices.EqualFunc(x.Undo, y.Undo, sameUndo)
	})
}

func sameUndo(a, b api.Undo) bool { return reflect.DeepEqual(a, b) }

// P13.1
func TestFind(t *testing.T) {
	l := []api.Level{
		{Reads: []api.Seen{seen(1, 5, 50), seen(2, 6, 60), seen(1, 7, 70)}, Writes: []api.Write{put(3, 30), put(3, 31), put(4, 40)}},
		{Reads: []api.Seen{seen(3, 8, 80), seen(2, 9, 90)}, Writes: []api.Write{put(4, 41)}},
		{},
	}
	for loc, want := range map[int][3]int{0: {0, 0, nest.Unknown}, 1: {50, 5, nest.Known}, 2: {90, 9, nest.Known}, 3: {30, 0, nest.Written}, 4: {41, 0, nest.Written}, -1: {0, 0, nest.Unknown}} {
		val, ver, how := nest.Find(l, loc)
		if [3]int{val, ver, how} != want {
			t.Error(loc, val, ver, how)
		}
	}
	if val, ver, how := nest.Find(nil, 1); val != 0 || ver != 0 || how != nest.Unknown {
		t.Error("no levels")
	}
	if nest.Unknown != 0 || nest.Written != 1 || nest.Known != 2 {
		t.Error("constants")
	}
}

// P13.2
func TestChanges(t *testing.T) {
	l := nest.Begin(nil)
	if !same(l, []api.Level{{}}) || !same(nest.Begin(l), []api.Level{{}, {}}) {
		t.Fatal(l)
	}
	l = nest.Begin([]api.Level{{Reads: []api.Seen{seen(1, 1, 1)}, Writes: []api.Write{put(1, 1)}}})
	for _, s := range []api.Seen{seen(2, 3, 4), seen(1, 5, 6), seen(2, 7, 8)} {
		l = nest.Read(l, s)
	}
	for _, w := range []api.Write{put(5, 1), put(2, 2), put(9, 3), put(5, 4), put(3, 5)} {
		l = nest.Put(l, w)
	}
	l = nest.Keep(nest.Keep(l, undo(1)), undo(2))
	want := []api.Level{{Reads: []api.Seen{seen(1, 1, 1)}, Writes: []api.Write{put(1, 1)}},
		{Reads: []api.Seen{seen(2, 3, 4), seen(1, 5, 6)}, Writes: []api.Write{put(2, 2), put(3, 5), put(5, 4), put(9, 3)}, Undo: []api.Undo{undo(1), undo(2)}}}
	if !same(l, want) {
		t.Error(l)
	}
	// Unsorted and repeated entries: the first one counts.
	odd := []api.Level{{Writes: []api.Write{put(4, 1), put(2, 1), put(4, 2)}}}
	if got := nest.Put(odd, put(4, 9)); !same(got, []api.Level{{Writes: []api.Write{put(4, 9), put(2, 1), put(4, 2)}}}) {
		t.Error(got)
	}
	if got := nest.Put(odd, put(3, 9)); !same(got, []api.Level{{Writes: []api.Write{put(3, 9), put(4, 1), put(2, 1), put(4, 2)}}}) {
		t.Error(got)
	}
	if len(nest.Read(nil, seen(1, 1, 1))) != 0 || len(nest.Put(nil, put(1, 1))) != 0 || len(nest.Keep(nil, undo(1))) != 0 {
		t.Error("no levels")
	}
}

// P13.3
func TestEnd(t *testing.T) {
	outer := api.Level{Reads: []api.Seen{seen(1, 1, 1)}, Writes: []api.Write{put(2, 2), put(6, 6)}, Undo: []api.Undo{undo(1)}}
	inner := api.Level{Reads: []api.Seen{seen(3, 3, 3), seen(1, 9, 9)}, Writes: []api.Write{put(6, 7), put(4, 4)}, Undo: []api.Undo{undo(2), undo(3)}}
	bottom := api.Level{Reads: []api.Seen{seen(3, 8, 8)}}
	want := api.Level{Reads: []api.Seen{seen(1, 1, 1), seen(3, 3, 3)}, Writes: []api.Write{put(2, 2), put(4, 4), put(6, 7)}, Undo: []api.Undo{undo(1), undo(2), undo(3)}}
	if got := nest.End([]api.Level{bottom, outer, inner}); !same(got, []api.Level{bottom, want}) {
		t.Error(got)
	}
	if got := nest.End([]api.Level{outer, inner}); !same(got, []api.Level{want}) {
		t.Error(got)
	}
	if got := nest.End([]api.Level{outer}); !same(got, []api.Level{outer}) {
		t.Error(got)
	}
	if got := nest.End(nil); len(got) != 0 {
		t.Error(got)
	}
}

// P13.4
func TestDrop(t *testing.T) {
	outer := api.Level{Reads: []api.Seen{seen(1, 1, 1)}, Writes: []api.Write{put(2, 2)}, Undo: []api.Undo{undo(1), undo(2)}}
	inner := api.Level{Reads: []api.Seen{seen(3, 3, 3), seen(1, 9, 9)}, Writes: []api.Write{put(6, 7)}, Undo: []api.Undo{undo(3), undo(4), undo(5)}}
	got, undone := nest.Drop([]api.Level{outer, inner})
	want := []api.Level{{Reads: []api.Seen{seen(1, 1, 1), seen(3, 3, 3)}, Writes: outer.Writes, Undo: outer.Undo}}
	if !same(got, want) || !slices.EqualFunc(undone, []api.Undo{undo(5), undo(4), undo(3)}, sameUndo) {
		t.Error(got, undone)
	}
	got, undone = nest.Drop([]api.Level{outer})
	if !same(got, []api.Level{{Reads: outer.Reads}}) || !slices.EqualFunc(undone, []api.Undo{undo(2), undo(1)}, sameUndo) {
		t.Error(got, undone)
	}
	if got, undone := nest.Drop(nil); len(got) != 0 || len(undone) != 0 {
		t.Error(got, undone)
	}
}

// P13.5
func TestAll(t *testing.T) {
	reads, writes := nest.All([]api.Level{
		{Reads: []api.Seen{seen(5, 1, 1), seen(2, 2, 2), seen(5, 9, 9)}, Writes: []api.Write{put(7, 1), put(3, 1)}},
		{Reads: []api.Seen{seen(2, 8, 8), seen(1, 3, 3)}, Writes: []api.Write{put(3, 2), put(1, 2), put(3, 4)}},
	})
	if !slices.Equal(reads, []api.Seen{seen(5, 1, 1), seen(2, 2, 2), seen(1, 3, 3)}) || !slices.Equal(writes, []api.Write{put(1, 2), put(3, 4), put(7, 1)}) {
		t.Error(reads, writes)
	}
	if reads, writes := nest.All(nil); len(reads) != 0 || len(writes) != 0 {
		t.Error(reads, writes)
	}
}

// Two results from the same levels do not disturb each other.
func TestSharing(t *testing.T) {
	l := nest.Begin(nil)
	for k := range 5 {
		l = nest.Keep(nest.Put(nest.Read(l, seen(k, k, k)), put(k, k)), undo(k))
	}
	for what, change := range map[string]func(l []api.Level, n int) []api.Level{
		"Begin": func(l []api.Level, n int) []api.Level { return nest.Put(nest.Begin(l), put(n, n)) },
		"Read":  func(l []api.Level, n int) []api.Level { return nest.Read(l, seen(n, n, n)) },
		"Put":   func(l []api.Level, n int) []api.Level { return nest.Put(l, put(n, n)) },
		"over":  func(l []api.Level, n int) []api.Level { return nest.Put(l, put(1, n)) },
		"Keep":  func(l []api.Level, n int) []api.Level { return nest.Keep(l, undo(n)) },
		"End": func(l []api.Level, n int) []api.Level {
			return nest.End(nest.Keep(nest.Put(nest.Read(nest.Begin(l), seen(n, n, n)), put(n, n)), undo(n)))
		},
		"Drop": func(l []api.Level, n int) []api.Level {
			got, _ := nest.Drop(nest.Read(nest.Begin(l), seen(n, n, n)))
			return got
		},
	} {
		before := clone(l)
		one := change(l, 10)
		kept := clone(one)
		change(l, 20)
		if !same(l, before) || !same(one, kept) {
			t.Error(what)
		}
	}
}

// P13.6, on random logs whose reads of a location agree. No function modifies its arguments.
func TestProperties(t *testing.T) {
	r := rand.New(rand.NewSource(1))
	for range 500 {
		var l []api.Level
		var kept []api.Undo
		for range r.Intn(25) {
			loc := r.Intn(5)
			before := clone(l)
			old := l
			switch r.Intn(5) {
			case 0:
				l = nest.Begin(l)
			case 1:
				l = nest.Read(l, seen(loc, loc, loc*10))
			case 2:
				l = nest.Put(l, put(loc, r.Intn(100)))
			case 3:
				l = nest.Keep(l, undo(r.Intn(9)))
			case 4:
				l = nest.End(l)
			}
			if !same(old, before) {
				t.Fatal("an argument was modified")
			}
		}
		for _, level := range l {
			kept = append(kept, level.Undo...)
		}
		ended := nest.End(l)
		for loc := range 5 {
			v1, w1, h1 := nest.Find(l, loc)
			v2, w2, h2 := nest.Find(ended, loc)
			if v1 != v2 || w1 != w2 || h1 != h2 {
				t.Fatal("End changes a lookup", l, ended)
			}
		}
		inner := nest.Begin(l)
		for range r.Intn(6) {
			loc := r.Intn(5)
			inner = nest.Put(nest.Read(inner, seen(loc, loc, loc*10)), put(r.Intn(5), r.Intn(100)))
		}
		dropped, _ := nest.Drop(inner)
		for loc := range 5 {
			v1, _, h1 := nest.Find(l, loc)
			v2, _, h2 := nest.Find(dropped, loc)
			if len(l) > 0 && (h1 == nest.Unknown && h2 == nest.Written || h1 != nest.Unknown && (v1 != v2 || h1 != h2)) {
				t.Fatal("Drop changes a lookup", l, dropped)
			}
		}
		before, _ := nest.All(inner)
		after, _ := nest.All(dropped)
		for _, s := range before {
			if !slices.Contains(after, s) {
				t.Fatal("a read is lost")
			}
		}
		var undone []api.Undo
		for n := len(l); n > 0; n-- {
			var some []api.Undo
			l, some = nest.Drop(l)
			undone = append(undone, some...)
		}
		slices.Reverse(undone)
		if !slices.EqualFunc(undone, kept, sameUndo) {
			t.Fatal("the order of compensations", undone, kept)
		}
	}
}

func clone(l []api.Level) []api.Level {
	var out []api.Level
	for _, x := range l {
		out = append(out, api.Level{Reads: slices.Clone(x.Reads), Writes: slices.Clone(x.Writes), Undo: slices.Clone(x.Undo)})
	}
	return out
}

package durable_test

import (
	"math/rand"
	"reflect"
	"slices"
	"strings"
	"testing"

	"hallmoot/api"
	"hallmoot/disk"
	"hallmoot/durable"
	"hallmoot/layout"
	"hallmoot/mem"
	"hallmoot/wal"
	"hallmoot/word"
)

var bytes = strings.Repeat("x", api.Sector)

// P25.1
func TestDo(t *testing.T) {
	m := api.Mem{Cells: []int{5, 6}}
	d, _ := disk.New(2)
	written, _ := disk.Write(d, 1, bytes)
	yes := api.Result{Ok: true}
	for i, x := range []struct {
		a  api.Access
		d  api.Disk
		m  []int
		to api.Disk
		r  api.Result
		e  api.Errno
	}{
		{api.Access{Kind: api.ADisk, Cell: 1, Bytes: bytes}, d, m.Cells, written, yes, api.OK},
		{api.Access{Kind: api.ASync}, written, m.Cells, disk.Sync(written), yes, api.OK},
		{api.Access{Kind: api.ADisk, Cell: 2, Bytes: bytes}, d, m.Cells, d, api.Result{}, api.ErrAddress},
		{api.Access{Kind: api.ADisk, Cell: -1, Bytes: bytes}, d, m.Cells, d, api.Result{}, api.ErrAddress},
		{api.Access{Kind: api.ADisk, Cell: 1, Bytes: "x"}, d, m.Cells, d, api.Result{}, api.ErrArg},
		{api.Access{Kind: api.ADisk, Cell: 1, Bytes: bytes, Old: 1}, d, m.Cells, d, api.Result{}, api.ErrArg},
		{api.Access{Kind: api.ADisk, Cell: 9, Bytes: bytes, New: 1}, d, m.Cells, d, api.Result{}, api.ErrArg},
		{api.Access{Kind: api.ASync, Cell: 1}, written, m.Cells, written, api.Result{}, api.ErrArg},
		{api.Access{Kind: api.ASync, Old: 1}, written, m.Cells, written, api.Result{}, api.ErrArg},
		{api.Access{Kind: api.ASync, New: 1}, written, m.Cells, written, api.Result{}, api.ErrArg},
		{api.Access{Kind: api.ASync, Bytes: bytes}, written, m.Cells, written, api.Result{}, api.ErrArg},
		{api.Access{Kind: api.AAdd, Cell: 1, New: 4}, written, []int{5, 10}, written, api.Result{Val: 6, Ok: true}, api.OK},
		{api.Access{Kind: api.ACas, Cell: 0, Old: 4, New: 1}, d, m.Cells, d, api.Result{Val: 5}, api.OK},
		{api.Access{Kind: api.ALoad, Cell: 2}, d, m.Cells, d, api.Result{}, api.ErrAddress},
		{api.Access{Kind: 7}, d, m.Cells, d, api.Result{}, api.ErrArg},
		{api.Access{Kind: api.AStore, Bytes: "x"}, d, m.Cells, d, api.Result{}, api.ErrArg},
	} {
		gm, gd, r, err := durable.Do(m, x.d, x.a)
		if !slices.Equal(gm.Cells, x.m) || !disk.Same(gd, x.to) || r != x.r || err != x.e {
			t.Error(i, gm, gd, r, err)
		}
	}
}

// P25.2
func TestLast(t *testing.T) {
	entries := []api.Entry{{Ver: 1, Writes: []api.Write{{Loc: 0, Val: 5}, {Loc: 1, Val: 6}}}, {Ver: 4}, {Ver: 3, Writes: []api.Write{{Loc: 1, Val: 7}, {Loc: 2, Val: 8}, {Loc: 1, Val: 9}}}, {Ver: 9}}
	for loc, want := range map[int][2]int{0: {5, 1}, 1: {7, 3}, 2: {8, 3}} {
		if w, ver, ok := durable.Last(entries, loc); !ok || w != (api.Write{Loc: loc, Val: want[0]}) || ver != want[1] {
			t.Error(loc, w, ver, ok)
		}
	}
	if w, ver, ok := durable.Last(entries, 3); ok || w != (api.Write{}) || ver != 0 {
		t.Error(w, ver, ok)
	}
}

func store(d api.Disk, at int, e api.Entry) (api.Disk, int) {
	for _, s := range wal.Record(e) {
		d, _ = disk.Write(d, at, s)
		at++
	}
	return d, at
}

// P25.3
func TestBoot(t *testing.T) {
	l, _ := layout.Of(api.Conf{Threads: 1, Locs: 3, Locks: 1, Sectors: 4})
	empty, _ := disk.New(4)
	m, entries := durable.Boot(l, []int{5, 6, 7, 8}, empty)
	want, _, _ := mem.All(api.Mem{Cells: make([]int, l.Size)}, layout.Init(l, []int{5, 6, 7}))
	if !mem.Same(m, want) || len(entries) != 0 || m.Cells[l.Clock] != 0 || m.Cells[l.End] != 0 || m.Cells[l.Stamps] != 1 {
		t.Error(m, entries)
	}
	log := []api.Entry{{Ver: 2, Writes: []api.Write{{Loc: 0, Val: 70}, {Loc: 2, Val: 71}}}, {Ver: 3, Writes: []api.Write{{Loc: 0, Val: 72}, {Loc: 9, Val: 1}}}}
	d, at := store(empty, 0, log[0])
	d, _ = store(d, at, log[1])
	m, entries = durable.Boot(l, []int{5}, d)
	cells := slices.Clone(want.Cells)
	for cell, n := range map[int]int{l.Clock: 3, l.End: 2, layout.Val(l, 0): 72, layout.Word(l, 0): word.Free(3), layout.Val(l, 1): 0, layout.Val(l, 2): 71, layout.Word(l, 2): word.Free(2)} {
		cells[cell] = n
	}
	if !slices.Equal(m.Cells, cells) || !reflect.DeepEqual(entries, log) {
		t.Error(m, entries)
	}
	l, _ = layout.Of(api.Conf{Threads: 1, Locs: 1, Sectors: 1})
	one, _ := disk.New(1)
	one, _ = store(one, 0, api.Entry{Ver: 3, Writes: []api.Write{{Loc: 0, Val: 7}}})
	m, _ = durable.Boot(l, []int{5}, one)
	if m.Cells[layout.Val(l, 0)] != 7 || m.Cells[layout.Word(l, 0)] != 6 || m.Cells[l.Clock] != 3 {
		t.Error("the example", m)
	}
}

// P25.4: after any crash all synced records are recovered, and of the one that was being written all or nothing.
func TestCrashes(t *testing.T) {
	l, _ := layout.Of(api.Conf{Threads: 1, Locs: api.MaxLoc, Sectors: 64})
	for seed := range 300 {
		r := rand.New(rand.NewSource(int64(seed)))
		d, _ := disk.New(64)
		var log []api.Entry
		at := 0
		for n := r.Intn(5); ; n-- {
			e := api.Entry{Ver: 10 * (len(log) + 1)}
			for loc := range api.MaxLoc {
				if r.Intn(3) > 0 {
					e.Writes = append(e.Writes, api.Write{Loc: loc, Val: r.Intn(1 << 40)})
				}
			}
			log = append(log, e)
			d, at = store(d, at, e)
			if n <= 0 {
				break
			}
			d = disk.Sync(d)
		}
		var cuts []int
		for range d.Was {
			cuts = append(cuts, r.Intn(api.Sector+1))
		}
		if r.Intn(4) == 0 {
			cuts = nil
		}
		first := []int{1, 2, 3}
		m, entries := durable.Boot(l, first, disk.Crash(d, cuts))
		if n := len(entries); n != len(log) && n != len(log)-1 || n > 0 && !reflect.DeepEqual(entries, log[:n]) || cuts == nil && n != len(log) {
			t.Fatal(len(entries), len(log))
		}
		for loc := range api.MaxLoc {
			want := 0
			if loc < len(first) {
				want = first[loc]
			}
			for _, e := range entries {
				for _, w := range e.Writes {
					if w.Loc == loc {
						want = w.Val
					}
				}
			}
			if m.Cells[layout.Val(l, loc)] != want {
				t.Fatal("location", loc)
			}
		}
	}
}

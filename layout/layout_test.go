package layout_test

import (
	"slices"
	"testing"

	"hallmoot/api"
	"hallmoot/layout"
)

// P15.1
func TestOf(t *testing.T) {
	l, err := layout.Of(api.Conf{Threads: 1, Locs: 1})
	want := api.Layout{Conf: api.Conf{Threads: 1, Locs: 1}, Clock: 0, Stamps: 1, Log: 2, End: 3, Thread: 4, Lock: 8, Loc: 8, Size: 12}
	if err != api.OK || l != want {
		t.Error(l, err)
	}
	full := api.Conf{Threads: api.MaxThread, Locs: api.MaxLoc, Locks: api.MaxLock, Sectors: api.MaxSector, Manager: api.MMixed}
	l, err = layout.Of(full)
	want = api.Layout{Conf: full, Clock: 0, Stamps: 1, Log: 2, End: 3, Thread: 4, Lock: 20, Loc: 28, Size: 156}
	if err != api.OK || l != want || !layout.Right(l) {
		t.Error(l, err)
	}
	for i, change := range []func(*api.Conf){
		func(c *api.Conf) { c.Threads = 0 }, func(c *api.Conf) { c.Threads = api.MaxThread + 1 }, func(c *api.Conf) { c.Threads = -1 },
		func(c *api.Conf) { c.Locs = -1 }, func(c *api.Conf) { c.Locs = api.MaxLoc + 1 }, func(c *api.Conf) { c.Locks = -1 }, func(c *api.Conf) { c.Locks = api.MaxLock + 1 },
		func(c *api.Conf) { c.Sectors = -1 }, func(c *api.Conf) { c.Sectors = api.MaxSector + 1 }, func(c *api.Conf) { c.Manager = -1 }, func(c *api.Conf) { c.Manager = 4 },
	} {
		c := full
		change(&c)
		if l, err := layout.Of(c); err != api.ErrArg || l != (api.Layout{}) {
			t.Error(i, l, err)
		}
		wrong := want
		wrong.Conf = c
		if layout.Right(wrong) {
			t.Error(i)
		}
	}
	for i, change := range []func(*api.Layout){func(l *api.Layout) { l.Clock++ }, func(l *api.Layout) { l.Stamps++ }, func(l *api.Layout) { l.Log++ }, func(l *api.Layout) { l.End++ }, func(l *api.Layout) { l.Thread-- }, func(l *api.Layout) { l.Lock++ }, func(l *api.Layout) { l.Loc++ }, func(l *api.Layout) { l.Size++ }, func(l *api.Layout) { l.Conf.Locs-- }} {
		wrong := want
		change(&wrong)
		if layout.Right(wrong) {
			t.Error(i)
		}
	}
	if layout.Right(api.Layout{}) {
		t.Error("the zero layout")
	}
}

// P15.2 and P15.4: every cell belongs to exactly one variable.
func TestCells(t *testing.T) {
	for threads := 1; threads <= api.MaxThread; threads++ {
		for _, locks := range []int{0, 1, 3, api.MaxLock} {
			for _, locs := range []int{0, 1, 5, api.MaxLoc} {
				l, err := layout.Of(api.Conf{Threads: threads, Locs: locs, Locks: locks})
				if err != api.OK {
					t.Fatal(err)
				}
				cells := []int{l.Clock, l.Stamps, l.Log, l.End}
				add := func(count int, of ...func(api.Layout, int) int) {
					for k := range count {
						for i, f := range of {
							cells = append(cells, f(l, k))
							if i > 0 && f(l, k) != of[i-1](l, k)+1 {
								t.Fatal("the order of the four cells")
							}
						}
					}
					for _, f := range of {
						if f(l, -1) != -1 || f(l, count) != -1 || f(l, 1<<60) != -1 {
							t.Fatal("a cell of nothing")
						}
					}
				}
				add(threads, layout.Status, layout.Stamp, layout.Wake, layout.Karma)
				add(locks, layout.Lock)
				add(locs, layout.Word, layout.Val, layout.Readers, layout.Waiters)
				if len(cells) != l.Size {
					t.Fatal(len(cells), l.Size)
				}
				for i, c := range cells {
					if c != i {
						t.Fatal("cell", i, c)
					}
				}
			}
		}
	}
}

// P15.3
func TestForAndInit(t *testing.T) {
	c := api.Code{Threads: []int{5, 6}, Locs: []int{7, 8, 9}, Locks: 2}
	conf, err := layout.For(c, 64, api.MKarma)
	if err != api.OK || conf != (api.Conf{Threads: 2, Locs: 3, Locks: 2, Sectors: 64, Manager: api.MKarma}) {
		t.Error(conf, err)
	}
	for i, x := range []struct {
		c                api.Code
		sectors, manager int
	}{{c, -1, 0}, {c, api.MaxSector + 1, 0}, {c, 0, 4}, {c, 0, -1}, {api.Code{}, 0, 0}, {api.Code{Threads: make([]int, 5)}, 0, 0}, {api.Code{Threads: []int{0}, Locs: make([]int, 33)}, 0, 0}, {api.Code{Threads: []int{0}, Locks: 9}, 0, 0}} {
		if conf, err := layout.For(x.c, x.sectors, x.manager); err != api.ErrArg || conf != (api.Conf{}) {
			t.Error(i, conf, err)
		}
	}
	l, _ := layout.Of(conf)
	store := func(cell, n int) api.Access { return api.Access{Kind: api.AStore, Cell: cell, New: n} }
	for _, x := range []struct {
		first []int
		want  []api.Access
	}{
		{nil, []api.Access{store(1, 1)}},
		{[]int{4, 0}, []api.Access{store(1, 1), store(layout.Val(l, 0), 4), store(layout.Val(l, 1), 0)}},
		{[]int{4, 5, 6, 7, 8}, []api.Access{store(1, 1), store(layout.Val(l, 0), 4), store(layout.Val(l, 1), 5), store(layout.Val(l, 2), 6)}},
	} {
		if got := layout.Init(l, x.first); !slices.Equal(got, x.want) {
			t.Error(x.first, got)
		}
	}
}

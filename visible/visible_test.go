package visible_test

import (
	"math"
	"math/rand"
	"slices"
	"testing"

	"hallmoot/api"
	"hallmoot/layout"
	"hallmoot/mem"
	"hallmoot/visible"
	"hallmoot/word"
)

var l, _ = layout.Of(api.Conf{Threads: 4, Locs: 2})

// P18.1
func TestNeeds(t *testing.T) {
	for manager, want := range map[int][4]bool{api.MTimid: {}, api.MGreedy: {true, true, true, true}, api.MKarma: {}, api.MMixed: {false, false, true, true}} {
		for aborts := range 4 {
			l := l
			l.Conf.Manager = manager
			if got := visible.Needs(l, api.Contender{Aborts: aborts, Karma: 9}); got != want[aborts] {
				t.Error(manager, aborts, got)
			}
		}
	}
}

func val(n int) api.Result  { return api.Result{Val: n} }
func ok(is bool) api.Result { return api.Result{Ok: is} }

// P18.2 and P18.3
func TestNext(t *testing.T) {
	for kind, cell := range map[int]int{visible.Show: layout.Readers(l, 1), visible.Hide: layout.Readers(l, 1), visible.Watch: layout.Waiters(l, 1), visible.Leave: layout.Waiters(l, 1)} {
		load := api.Access{Kind: api.ALoad, Cell: cell}
		cas := func(old, new int) api.Access { return api.Access{Kind: api.ACas, Cell: cell, Old: old, New: new} }
		has, lacks := 6, 2
		if kind == visible.Hide || kind == visible.Leave {
			has, lacks = 2, 6
		}
		other := has ^ 8
		for i, x := range []struct {
			log  []api.Result
			want []api.Access
			is   bool
		}{
			{[]api.Result{val(has)}, []api.Access{load}, false},
			{[]api.Result{val(lacks), ok(true)}, []api.Access{load, cas(lacks, has)}, true},
			{[]api.Result{val(lacks), ok(false), val(has), val(1)}, []api.Access{load, cas(lacks, has), load}, false},
			{[]api.Result{val(lacks), ok(false), val(lacks ^ 8), ok(false), val(lacks), ok(true)}, []api.Access{load, cas(lacks, has), load, cas(lacks^8, other), load, cas(lacks, has)}, true},
		} {
			var got []api.Access
			for n := range len(x.log) + 1 {
				a, out, done := visible.Next(l, 2, api.Op{Kind: kind, A: 1}, x.log[:n])
				if done {
					if out != (api.Out{Is: x.is}) {
						t.Error(kind, i, out)
					}
					break
				}
				got = append(got, a)
			}
			if !slices.Equal(got, x.want) {
				t.Error(kind, i, got)
			}
		}
	}
}

// P18.4
func TestErrors(t *testing.T) {
	for i, x := range []struct {
		me int
		op api.Op
	}{{0, api.Op{}}, {0, api.Op{Kind: 5}}, {0, api.Op{Kind: visible.Show, A: 2}}, {0, api.Op{Kind: visible.Watch, A: -1}}, {4, api.Op{Kind: visible.Hide}}, {-1, api.Op{Kind: visible.Leave}}, {math.MaxInt, api.Op{Kind: visible.Show}}} {
		if a, out, done := visible.Next(l, x.me, x.op, nil); a != (api.Access{}) || out != (api.Out{Err: api.ErrArg}) || !done {
			t.Error(i, a, out, done)
		}
	}
}

// P18.5: in every interleaving a bit is set exactly if the thread's last completed operation set it.
func TestInterleaving(t *testing.T) {
	for seed := range 200 {
		r := rand.New(rand.NewSource(int64(seed)))
		m := api.Mem{Cells: make([]int, l.Size)}
		logs := make([][]api.Result, 4)
		kinds := []int{visible.Show, visible.Show, visible.Show, visible.Show}
		set := make([]bool, 4)
		for range 300 {
			me := r.Intn(4)
			op := api.Op{Kind: kinds[me], A: 1}
			a, _, _ := visible.Next(l, me, op, logs[me])
			var res api.Result
			m, res, _ = mem.Do(m, a)
			logs[me] = append(logs[me], res)
			if _, out, done := visible.Next(l, me, op, logs[me]); done {
				now := kinds[me] == visible.Show
				if out.Is != (set[me] != now) {
					t.Fatal("the outcome", out)
				}
				set[me] = now
				logs[me] = nil
				kinds[me] = []int{visible.Show, visible.Hide}[r.Intn(2)]
			}
			for thread, is := range set {
				if logs[thread] == nil && word.In(m.Cells[layout.Readers(l, 1)], thread) != is {
					t.Fatal("a bit is lost")
				}
			}
		}
	}
}

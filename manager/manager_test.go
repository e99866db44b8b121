package manager_test

import (
	"math/rand"
	"slices"
	"testing"

	"hallmoot/api"
	"hallmoot/layout"
	"hallmoot/manager"
	"hallmoot/word"
)

func who(stamp, karma, aborts int) api.Contender {
	return api.Contender{Stamp: stamp, Karma: karma, Aborts: aborts}
}

// P17.1
func TestChoose(t *testing.T) {
	for i, x := range []struct {
		kind        int
		mine, other api.Contender
		doom        bool
	}{
		{api.MTimid, who(1, 9, 9), who(2, 0, 0), false},
		{api.MGreedy, who(1, 0, 0), who(2, 9, 0), true}, {api.MGreedy, who(2, 9, 9), who(1, 0, 0), false}, {api.MGreedy, who(2, 9, 9), who(2, 0, 0), false},
		{api.MKarma, who(2, 3, 0), who(1, 2, 0), true}, {api.MKarma, who(1, 2, 0), who(2, 3, 0), false}, {api.MKarma, who(1, 3, 0), who(2, 3, 0), true}, {api.MKarma, who(2, 3, 0), who(1, 3, 0), false}, {api.MKarma, who(2, 3, 0), who(2, 3, 0), false},
		{api.MMixed, who(1, 9, 0), who(2, 0, 0), false}, {api.MMixed, who(1, 9, 1), who(2, 0, 0), false}, {api.MMixed, who(1, 0, 2), who(2, 9, 9), true}, {api.MMixed, who(2, 9, 2), who(1, 0, 0), false}, {api.MMixed, who(2, 0, 7), who(2, 0, 0), false},
		{-1, who(1, 9, 9), who(2, 0, 0), false}, {4, who(1, 9, 9), who(2, 0, 0), false}, {1 << 40, who(1, 9, 9), who(2, 0, 0), false},
	} {
		want := api.CAbort
		if x.doom {
			want = api.CDoom
		}
		if got := manager.Choose(x.kind, x.mine, x.other); got != want {
			t.Error(i, got)
		}
	}
}

func val(n int) api.Result  { return api.Result{Val: n} }
func ok(is bool) api.Result { return api.Result{Ok: is} }

// P17.2: the accesses and the outcome for each status of the other transaction.
func TestNext(t *testing.T) {
	l, _ := layout.Of(api.Conf{Threads: 3, Manager: api.MGreedy})
	load := func(cell int) api.Access { return api.Access{Kind: api.ALoad, Cell: cell} }
	own, status, stamp, karma := load(layout.Status(l, 0)), load(layout.Status(l, 2)), load(layout.Stamp(l, 2)), load(layout.Karma(l, 2))
	active := word.Status(7, word.Active)
	doom := api.Access{Kind: api.ACas, Cell: layout.Status(l, 2), Old: active, New: word.Status(7, word.Doomed)}
	for i, x := range []struct {
		manager, b int
		log        []api.Result
		want       []api.Access
		out        api.Out
	}{
		{api.MGreedy, 1, []api.Result{val(word.Status(3, word.Doomed))}, []api.Access{own}, api.Out{Lost: true, Val: api.CAbort}},
		{api.MGreedy, 1, []api.Result{val(word.Status(3, word.Active)), val(word.Status(9, word.Idle))}, []api.Access{own, status}, api.Out{Val: api.CWait}},
		{api.MGreedy, 0, []api.Result{val(0)}, []api.Access{status}, api.Out{Val: api.CWait}},
		{api.MGreedy, 2, []api.Result{val(0)}, []api.Access{status}, api.Out{Val: api.CWait}},
		{api.MGreedy, 0, []api.Result{val(active), val(4), val(0)}, []api.Access{status, stamp, karma}, api.Out{Val: api.CAbort}},
		{api.MGreedy, 0, []api.Result{val(active), val(5), val(0)}, []api.Access{status, stamp, karma}, api.Out{Val: api.CAbort}},
		{api.MGreedy, 0, []api.Result{val(active), val(6), val(0), ok(true)}, []api.Access{status, stamp, karma, doom}, api.Out{Val: api.CDoom}},
		{api.MGreedy, 0, []api.Result{val(active), val(6), val(0), ok(false), val(1)}, []api.Access{status, stamp, karma, doom}, api.Out{Val: api.CWait}},
		{api.MGreedy, 0, []api.Result{val(word.Status(7, word.Doomed)), val(6), val(0)}, []api.Access{status, stamp, karma}, api.Out{Val: api.CDoom}},
		{api.MGreedy, 0, []api.Result{val(word.Status(7, word.Doomed)), val(4), val(0)}, []api.Access{status, stamp, karma}, api.Out{Val: api.CAbort}},
		{api.MGreedy, 1, []api.Result{val(0), val(word.Status(7, word.Committing)), val(6), val(0)}, []api.Access{own, status, stamp, karma}, api.Out{Val: manager.Passed}},
		{api.MKarma, 0, []api.Result{val(active), val(1), val(9)}, []api.Access{status, stamp, karma}, api.Out{Val: api.CAbort}},
		{api.MKarma, 0, []api.Result{val(active), val(1), val(7), ok(true)}, []api.Access{status, stamp, karma, doom}, api.Out{Val: api.CDoom}},
		{api.MTimid, 0, []api.Result{val(active), val(9), val(0)}, []api.Access{status, stamp, karma}, api.Out{Val: api.CAbort}},
		{api.MMixed, 0, []api.Result{val(active), val(9), val(0), ok(true)}, []api.Access{status, stamp, karma, doom}, api.Out{Val: api.CDoom}},
	} {
		l := l
		l.Conf.Manager = x.manager
		op := api.Op{Kind: 77, A: 2, B: x.b, Mine: who(5, 8, 2)}
		var got []api.Access
		for n := range len(x.log) + 1 {
			a, out, done := manager.Next(l, 0, op, x.log[:n])
			if done {
				if out != x.out {
					t.Error(i, out)
				}
				break
			}
			got = append(got, a)
		}
		if !slices.Equal(got, x.want) {
			t.Error(i, got)
		}
	}
	if manager.Passed != 3 {
		t.Error("the constant")
	}
}

// P17.3
func TestErrors(t *testing.T) {
	l, _ := layout.Of(api.Conf{Threads: 3, Manager: api.MGreedy})
	for _, other := range []int{1, 3, -1, 99} {
		if a, out, done := manager.Next(l, 1, api.Op{A: other}, nil); a != (api.Access{}) || out != (api.Out{Err: api.ErrArg}) || !done {
			t.Error(other, a, out, done)
		}
	}
	for _, other := range []int{0, 2} {
		if _, _, done := manager.Next(l, 1, api.Op{A: other}, nil); done {
			t.Error(other)
		}
	}
}

// P17.4: with distinct stamps at most one has priority, and there are no cycles.
func TestOrder(t *testing.T) {
	r := rand.New(rand.NewSource(1))
	for range 5000 {
		l := []api.Contender{who(1, r.Intn(3), r.Intn(4)), who(2, r.Intn(3), r.Intn(4)), who(3, r.Intn(3), r.Intn(4))}
		r.Shuffle(3, func(i, k int) { l[i], l[k] = l[k], l[i] })
		for kind := api.MTimid; kind <= api.MMixed; kind++ {
			wins := func(a, b api.Contender) bool { return manager.Choose(kind, a, b) == api.CDoom }
			if wins(l[0], l[1]) && wins(l[1], l[0]) || wins(l[0], l[1]) && wins(l[1], l[2]) && wins(l[2], l[0]) {
				t.Fatal(kind, l)
			}
			if kind == api.MGreedy && l[0].Stamp == 1 && (wins(l[1], l[0]) || !wins(l[0], l[1])) {
				t.Fatal("the oldest has to yield")
			}
		}
	}
}

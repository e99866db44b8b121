package abstract_test

import (
	"math"
	"math/rand"
	"slices"
	"testing"

	"hallmoot/abstract"
	"hallmoot/api"
	"hallmoot/layout"
	"hallmoot/mem"
	"hallmoot/word"
)

func layoutOf(manager int) api.Layout {
	l, _ := layout.Of(api.Conf{Threads: 3, Locks: 2, Manager: manager})
	return l
}

func val(n int) api.Result  { return api.Result{Val: n} }
func ok(is bool) api.Result { return api.Result{Ok: is} }

// P20.1 and P20.2
func TestNext(t *testing.T) {
	l := layoutOf(api.MTimid)
	cell := layout.Lock(l, 1)
	load := func(cell int) api.Access { return api.Access{Kind: api.ALoad, Cell: cell} }
	at, own := load(cell), load(layout.Status(l, 1))
	cas := api.Access{Kind: api.ACas, Cell: cell, New: 2}
	other := func(k int) []api.Access {
		return []api.Access{own, load(layout.Status(l, k)), load(layout.Stamp(l, k)), load(layout.Karma(l, k))}
	}
	active, doomed, committing := word.Status(4, word.Active), word.Status(4, word.Doomed), word.Status(4, word.Committing)
	doom := func(k int) api.Access {
		return api.Access{Kind: api.ACas, Cell: layout.Status(l, k), Old: active, New: doomed}
	}
	cat := func(l ...[]api.Access) []api.Access { return slices.Concat(l...) }
	one := func(l ...api.Access) []api.Access { return l }
	older := api.Contender{Stamp: 1}
	for name, x := range map[string]struct {
		kind, manager int
		mine          api.Contender
		log           []api.Result
		want          []api.Access
		out           api.Out
	}{
		"free":                     {api.PTake, 0, older, []api.Result{val(0), ok(true)}, one(at, cas), api.Out{Is: true}},
		"own":                      {api.PTake, 0, older, []api.Result{val(2)}, one(at), api.Out{Is: true}},
		"free, then own":           {api.PTake, 0, older, []api.Result{val(0), ok(false), val(2)}, one(at, cas, at), api.Out{Is: true}},
		"held":                     {api.PTake, 0, older, []api.Result{val(1), val(active), val(active), val(9), val(0)}, cat(one(at), other(0)), api.Out{Lost: true}},
		"doomed myself":            {api.PTake, 0, older, []api.Result{val(1), val(doomed)}, one(at, own), api.Out{Lost: true}},
		"held by an idle thread":   {api.PTake, 0, older, []api.Result{val(3), val(active), val(0), val(0), ok(true)}, one(at, own, load(layout.Status(l, 2)), at, cas), api.Out{Is: true}},
		"held by a younger one":    {api.PTake, api.MGreedy, older, []api.Result{val(3), val(active), val(active), val(9), val(0), ok(true), val(3), val(active), val(doomed), val(9), val(0), val(0), ok(true)}, cat(one(at), other(2), one(doom(2), at), other(2), one(at, cas)), api.Out{Is: true}},
		"held by a committing one": {api.PTake, api.MGreedy, older, []api.Result{val(3), val(active), val(committing), val(9), val(0), val(2)}, cat(one(at), other(2), one(at)), api.Out{Is: true}},
		"held by an older one":     {api.PTake, api.MGreedy, api.Contender{Stamp: 9}, []api.Result{val(3), val(active), val(active), val(1), val(0)}, cat(one(at), other(2)), api.Out{Lost: true}},
		"held by no thread":        {api.PTake, 0, older, []api.Result{val(4), val(active), val(active), val(9), val(0)}, one(at, own, load(-1), load(-1), load(-1)), api.Out{Lost: true}},
		"held by thread -6":        {api.PTake, 0, older, []api.Result{val(-5), val(active), val(0), val(2)}, one(at, own, load(-1), at), api.Out{Is: true}},
		"give":                     {api.PGive, 0, older, []api.Result{val(77)}, one(api.Access{Kind: api.AStore, Cell: cell}), api.Out{Is: true}},
	} {
		l := layoutOf(x.manager)
		var got []api.Access
		for n := 0; n <= len(x.log); n++ {
			a, out, done := abstract.Next(l, 1, api.Op{Kind: x.kind, A: 1, Mine: x.mine}, x.log[:n])
			if done {
				if out != x.out || n != len(x.log) {
					t.Error(name, out)
				}
				break
			}
			got = append(got, a)
		}
		if !slices.Equal(got, x.want) {
			t.Error(name, got)
		}
	}
}

// P20.3
func TestErrors(t *testing.T) {
	l := layoutOf(api.MTimid)
	for _, op := range []api.Op{{}, {Kind: api.PRead}, {Kind: api.PTake, A: 2}, {Kind: api.PTake, A: -1}, {Kind: api.PGive, A: 2}, {Kind: api.PGive, A: math.MaxInt}} {
		if a, out, done := abstract.Next(l, 0, op, nil); a != (api.Access{}) || out != (api.Out{Err: api.ErrArg}) || !done {
			t.Error(op, a, out, done)
		}
	}
}

// P20.4: threads that take both locks in opposite orders; a thread that is Lost gives its locks back and, under MGreedy, waits for the older ones.
func TestInterleaving(t *testing.T) {
	for _, manager := range []int{api.MTimid, api.MGreedy, api.MKarma} {
		for seed := range 100 {
			r := rand.New(rand.NewSource(int64(seed)))
			l := layoutOf(manager)
			m := api.Mem{Cells: make([]int, l.Size)}
			do := func(a api.Access) api.Result {
				var res api.Result
				m, res, _ = mem.Do(m, a)
				return res
			}
			type thread struct {
				wants, held []int
				log         []api.Result
				gives, done bool
			}
			threads := make([]thread, 3)
			for k := range threads {
				threads[k].wants = []int{k % 2, 1 - k%2}
				do(api.Access{Kind: api.AStore, Cell: layout.Status(l, k), New: word.Status(1, word.Active)})
				do(api.Access{Kind: api.AStore, Cell: layout.Stamp(l, k), New: k + 1})
			}
			finished := 0
			for range 3000 {
				me := r.Intn(3)
				th := &threads[me]
				waits := manager == api.MGreedy && th.gives && len(th.held) == 0 && slices.ContainsFunc(threads[:me], func(x thread) bool { return !x.done })
				if th.done || waits {
					continue
				}
				if th.gives && len(th.held) == 0 {
					th.gives = false
					do(api.Access{Kind: api.AStore, Cell: layout.Status(l, me), New: word.Status(1, word.Active)})
				}
				op := api.Op{Kind: api.PTake, Mine: api.Contender{Stamp: me + 1}}
				if th.gives {
					op.Kind, op.A = api.PGive, th.held[len(th.held)-1]
				} else {
					op.A = th.wants[len(th.held)]
				}
				a, _, _ := abstract.Next(l, me, op, th.log)
				th.log = append(th.log, do(a))
				_, out, done := abstract.Next(l, me, op, th.log)
				if !done {
					continue
				}
				th.log = nil
				switch {
				case op.Kind == api.PGive:
					th.held = th.held[:len(th.held)-1]
					if len(th.held) == 0 && len(th.wants) == 0 {
						th.done = true
						do(api.Access{Kind: api.AStore, Cell: layout.Status(l, me)})
						finished++
					}
				case out.Lost:
					th.gives = true
				default:
					th.held = append(th.held, op.A)
					if len(th.held) == 2 {
						th.gives, th.wants = true, nil
					}
				}
				for k, other := range threads {
					for _, lock := range other.held {
						if m.Cells[layout.Lock(l, lock)] != k+1 && !(other.gives && len(other.log) == 0) {
							t.Fatal("a held lock belongs to another one")
						}
					}
				}
			}
			if manager == api.MGreedy && finished != 3 {
				t.Fatal("not all threads acquire their locks", seed, finished)
			}
			if finished == 0 {
				t.Fatal("a deadlock", manager, seed)
			}
		}
	}
}

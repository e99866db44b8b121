package script_test

import (
	"math"
	"math/rand"
	"reflect"
	"slices"
	"strings"
	"testing"

	"hallmoot/api"
	"hallmoot/script"
)

func step(a int) api.Pick        { return api.Pick{Kind: api.PStep, A: a} }
func stall(a, b int) api.Pick    { return api.Pick{Kind: api.PStall, A: a, B: b} }
func crash(cuts ...int) api.Pick { return api.Pick{Kind: api.PCrash, Cuts: cuts} }

func same(a, b []api.Pick) bool {
	return slices.EqualFunc(a, b, func(x, y api.Pick) bool {
		return x.Kind == y.Kind && x.A == y.A && x.B == y.B && slices.Equal(x.Cuts, y.Cuts)
	})
}

// P27.1
func TestRight(t *testing.T) {
	for i, p := range []api.Pick{step(0), step(2), stall(0, 0), stall(2, api.MaxStep), crash(), crash(0, 32), crash(make([]int, 64)...)} {
		if !script.Right(3, p) {
			t.Error("valid", i)
		}
	}
	for i, p := range []api.Pick{
		{}, {Kind: 4}, {Kind: -1}, step(3), step(-1), stall(3, 1), stall(-1, 1), stall(0, -1), stall(0, api.MaxStep+1), crash(33), crash(-1), crash(1, 40), crash(make([]int, 65)...),
		{Kind: api.PStep, B: 1}, {Kind: api.PStep, Cuts: []int{0}}, {Kind: api.PStall, Cuts: []int{0}}, {Kind: api.PCrash, A: 1}, {Kind: api.PCrash, B: 1}, {Kind: api.PStep, B: -1},
	} {
		if script.Right(3, p) {
			t.Error("invalid", i)
		}
	}
	if script.Right(0, step(0)) || script.Right(-5, stall(0, 0)) || !script.Right(9, step(8)) {
		t.Error("the number of threads")
	}
}

// P27.2
func TestPlain(t *testing.T) {
	for i, x := range []struct {
		threads int
		l, want []api.Pick
	}{
		{2, nil, nil},
		{2, []api.Pick{step(0), step(0), stall(1, 2), step(1), step(0), step(1), step(0), crash(3, 32), step(0)}, []api.Pick{step(0), step(0), step(0), step(1), step(0), crash(3, 32)}},
		{2, []api.Pick{stall(1, 0), step(1)}, []api.Pick{step(1)}},
		{2, []api.Pick{stall(1, 1), step(1), step(1)}, []api.Pick{step(1)}},
		{2, []api.Pick{stall(1, 1), step(2), {}, step(1), step(1)}, []api.Pick{step(1)}},
		{2, []api.Pick{stall(1, 5), stall(1, 0), step(1), step(0)}, []api.Pick{step(0)}},
		{2, []api.Pick{stall(1, 1), stall(1, 1), step(1), step(1)}, []api.Pick{step(1)}},
		{2, []api.Pick{stall(1, 2), stall(0, 1), step(0), step(0), step(1)}, []api.Pick{step(0), step(1)}},
		{2, []api.Pick{crash(), crash(1), step(0)}, []api.Pick{crash()}},
		{2, []api.Pick{crash(40), step(0), stall(0, 9), crash(1)}, []api.Pick{step(0), crash(1)}},
		{3, []api.Pick{stall(1, api.MaxStep), step(1), step(2)}, []api.Pick{step(2)}},
		{0, []api.Pick{step(0), crash()}, []api.Pick{crash()}},
	} {
		if got := script.Plain(x.threads, x.l); !same(got, x.want) {
			t.Error(i, script.Text(got))
		}
	}
}

// P27.3
func TestNext(t *testing.T) {
	on := []bool{true, false, true, true}
	for last, want := range map[int]int{-1: 0, 0: 2, 1: 2, 2: 3, 3: 0, 4: 0, -9: 0, math.MaxInt: 0, math.MinInt: 0} {
		if got := script.Next(on, last); got != want {
			t.Error(last, got)
		}
	}
	if script.Next(nil, 0) != -1 || script.Next([]bool{false, false}, 1) != -1 || script.Next([]bool{false, true}, 1) != 1 || script.Next([]bool{false, true}, 7) != 1 {
		t.Error("few threads")
	}
}

// P27.4
func TestText(t *testing.T) {
	for want, l := range map[string][]api.Pick{
		"": nil, "0": {step(0)}, "0x2 1": {step(0), step(0), step(1)}, "1~2": {stall(1, 2)}, "1~2 1~2": {stall(1, 2), stall(1, 2)}, "!": {crash()}, "! !": {crash(), crash()}, "!3,32": {crash(3, 32)},
		"0x2 1~0 0 3x3 !0 2": {step(0), step(0), stall(1, 0), step(0), step(3), step(3), step(3), crash(0), step(2)},
	} {
		if got := script.Text(l); got != want {
			t.Errorf("%q, want %q", got, want)
		}
		if got, err := script.Parse(want); err != api.OK || !same(got, l) {
			t.Errorf("%q: %v %d", want, got, err)
		}
	}
}

func TestParse(t *testing.T) {
	for text, want := range map[string][]api.Pick{
		" \t0x1\n\n 1 ": {step(0), step(1)}, "2~1048576": {stall(2, api.MaxStep)}, "!" + strings.Repeat("1,", 63) + "1": {crash(slices.Repeat([]int{1}, 64)...)}, "3x2": {step(3), step(3)},
	} {
		if got, err := script.Parse(text); err != api.OK || !same(got, want) {
			t.Errorf("%q: %v %d", text, got, err)
		}
	}
	for _, text := range []string{
		"4", "-1", "00", "01", "x", "0x", "x2", "0x0", "0x00", "0x01", "0x12345678", "4x2", "0x2x3", "0 x2", "~", "0~", "~1", "4~1", "0~01", "0~1048577", "0~-1", "0~1~2", "0~1,2", "!,", "!1,", "!,1", "!33", "!01", "!1 ,2", "!!", "1!", "!x",
		"!" + strings.Repeat("1,", 64) + "1", "0;1", "0\r1", "0\v", "0\u00a0", "a", "0a", "\xff", "1e1", "+1",
		"0x9999999 4", "4 0x9999999",
	} {
		if got, err := script.Parse(text); err != api.ErrSyntax || got != nil {
			t.Errorf("%q: %v %d", text, len(got), err)
		}
	}
	if got, err := script.Parse("0x9999 1"); err != api.OK || len(got) != script.Most {
		t.Error(len(got), err)
	}
	for _, text := range []string{"0x10001", "0x9999999", "0x9999 1 1", "0x9999999 0x9999999", strings.Repeat("0~1 ", 10001), "!3 0x10000"} {
		if got, err := script.Parse(text); err != api.ErrLimit || got != nil {
			t.Error(len(got), err)
		}
	}
	if script.Most != 10000 {
		t.Error("the constant")
	}
}

func random(r *rand.Rand) []api.Pick {
	var l []api.Pick
	for range r.Intn(40) {
		switch r.Intn(12) {
		case 0, 1:
			l = append(l, stall(r.Intn(4), r.Intn(6)))
		case 2:
			l = append(l, crash(make([]int, r.Intn(3))...))
		case 3:
			l = append(l, api.Pick{Kind: r.Intn(5), A: r.Intn(6) - 1, B: r.Intn(3)})
		default:
			l = append(l, step(r.Intn(4)))
		}
	}
	return l
}

// P27.5
func TestProperties(t *testing.T) {
	r := rand.New(rand.NewSource(1))
	for range 2000 {
		l := random(r)
		plain := script.Plain(3, l)
		if !same(script.Plain(3, plain), plain) {
			t.Fatal("not idempotent", l)
		}
		part := script.Plain(3, l[:r.Intn(len(l)+1)])
		if !same(part, plain[:len(part)]) {
			t.Fatal("not a prefix", l)
		}
		valid := slices.DeleteFunc(slices.Clone(l), func(p api.Pick) bool { return !script.Right(api.MaxThread, p) })
		if got, err := script.Parse(script.Text(valid)); err != api.OK || !same(got, valid) {
			t.Fatal(script.Text(valid), err)
		}
		steps := slices.DeleteFunc(slices.Clone(l), func(p api.Pick) bool { return p.Kind != api.PStep })
		right := slices.DeleteFunc(slices.Clone(steps), func(p api.Pick) bool { return !script.Right(3, p) })
		if !same(script.Plain(3, steps), right) {
			t.Fatal("a plain script", steps)
		}
		on := []bool{r.Intn(2) == 0, r.Intn(2) == 0, r.Intn(2) == 0, r.Intn(2) == 0}
		count := map[int]int{}
		last := r.Intn(8) - 2
		for range 8 {
			if last = script.Next(on, last); last >= 0 {
				count[last]++
			}
		}
		for k, is := range on {
			if is != (count[k] > 0) {
				t.Fatal("round robin", on, count)
			}
		}
	}
	l := []api.Pick{step(0), step(1)}
	script.Plain(2, l)
	if !reflect.DeepEqual(l, []api.Pick{step(0), step(1)}) {
		t.Error("the argument was modified")
	}
}

package script

import (
	"iter"
	"strconv"
	"strings"

	"hallmoot/api"
)

// runs yields the picks of a script; equal steps that follow each other come as one pick and their number.
func runs(l []api.Pick) iter.Seq2[api.Pick, int] {
	return func(yield func(api.Pick, int) bool) {
		for first := 0; first < len(l); {
			end := first + 1
			for end < len(l) && l[first].Kind == api.PStep && l[end].Kind == api.PStep && l[end].A == l[first].A {
				end++
			}
			if !yield(l[first], end-first) {
				return
			}
			first = end
		}
	}
}

// Text returns the textual form of a script.
func Text(l []api.Pick) string {
	var words []string
	for p, count := range runs(l) {
		words = append(words, wordOf(p, count))
	}
	return strings.Join(words, " ")
}

func wordOf(p api.Pick, count int) string {
	switch p.Kind {
	case api.PStall:
		return strconv.Itoa(p.A) + "~" + strconv.Itoa(p.B)
	case api.PCrash:
		var cuts []string
		for _, cut := range p.Cuts {
			cuts = append(cuts, strconv.Itoa(cut))
		}
		return "!" + strings.Join(cuts, ",")
	}
	if count > 1 {
		return strconv.Itoa(p.A) + "x" + strconv.Itoa(count)
	}
	return strconv.Itoa(p.A)
}

// Parse parses the textual form of a script.
func Parse(text string) ([]api.Pick, api.Errno) {
	total := 0
	var r reader
	for _, w := range strings.FieldsFunc(text, isSpace) {
		count, ok := r.word(w)
		if !ok {
			return nil, api.ErrSyntax
		}
		// A word that is malformed comes before the limit, wherever it is.
		total += count
		if total <= Most {
			r.keep(count)
		}
	}
	if total > Most {
		return nil, api.ErrLimit
	}
	return r.picks, api.OK
}

func isSpace(c rune) bool { return c == ' ' || c == '\t' || c == '\n' }

// reader parses words.
type reader struct {
	last  api.Pick // the pick of the last word
	picks []api.Pick
}

// keep appends the pick of the last word a number of times.
func (r *reader) keep(count int) {
	for range count {
		r.picks = append(r.picks, r.last)
	}
}

// word parses a word in one of its forms, and returns the number of picks that it stands for.
func (r *reader) word(w string) (int, bool) {
	for _, form := range [...]func(string) (int, bool){r.step, r.repeated, r.stall, r.crash} {
		if count, ok := form(w); ok {
			return count, true
		}
	}
	return 0, false
}

func (r *reader) step(w string) (int, bool) {
	thread, ok := number(w, api.MaxThread-1)
	r.last = api.Pick{Kind: api.PStep, A: thread}
	return 1, ok
}

func (r *reader) repeated(w string) (int, bool) {
	first, second, found := strings.Cut(w, "x")
	count, ok := number(second, mostNumber)
	if !found || !ok || count < 1 {
		return 0, false
	}
	_, ok = r.step(first)
	return count, ok
}

func (r *reader) stall(w string) (int, bool) {
	first, second, found := strings.Cut(w, "~")
	thread, ok := number(first, api.MaxThread-1)
	length, ok2 := number(second, api.MaxStep)
	r.last = api.Pick{Kind: api.PStall, A: thread, B: length}
	return 1, found && ok && ok2
}

func (r *reader) crash(w string) (int, bool) {
	list, found := strings.CutPrefix(w, "!")
	var cuts []int
	if list != "" {
		for _, part := range strings.Split(list, ",") {
			cut, ok := number(part, api.Sector)
			if !ok {
				return 0, false
			}
			cuts = append(cuts, cut)
		}
	}
	r.last = api.Pick{Kind: api.PCrash, Cuts: cuts}
	return 1, found && len(cuts) <= mostCuts
}

const (
	mostDigits = 7
	mostNumber = 9999999
)

// number parses a number without leading zeros.
func number(s string, most int) (int, bool) {
	if s == "" || len(s) > mostDigits || len(s) > 1 && s[0] == '0' {
		return 0, false
	}
	n := 0
	for _, c := range s {
		if c < '0' || c > '9' {
			return 0, false
		}
		n = 10*n + int(c-'0')
	}
	return n, n <= most
}

package lex_test

import (
	"math/rand"
	"reflect"
	"slices"
	"strings"
	"testing"

	"hallmoot/api"
	"hallmoot/lex"
)

func spellings(l []api.Token) []string {
	var out []string
	for _, x := range l {
		out = append(out, x.Text)
	}
	return out
}

// P4.1: tokens with kind, spelling, value and offset.
func TestWords(t *testing.T) {
	got, err := lex.Words("a:=!b-1;;")
	want := []api.Token{
		{Kind: api.TName, Text: "a", At: 0}, {Kind: api.TSign, Text: ":=", At: 1}, {Kind: api.TSign, Text: "!", At: 3},
		{Kind: api.TName, Text: "b", At: 4}, {Kind: api.TSign, Text: "-", At: 5}, {Kind: api.TNum, Text: "1", N: 1, At: 6},
		{Kind: api.TSign, Text: ";;", At: 7},
	}
	if err != api.OK || !reflect.DeepEqual(got, want) {
		t.Error(got, err)
	}
	for _, x := range []struct {
		text string
		want []string
	}{
		{"", nil}, {" \t\n ", nil}, {"0 10", []string{"0", "10"}}, {"1099511627776", []string{"1099511627776"}},
		{"A_9zZ Ba", []string{"A_9zZ", "Ba"}}, {"abcdefghijkl", []string{"abcdefghijkl"}},
		{";;;", []string{";;", ";"}}, {"|||", []string{"||", "|"}}, {"===", []string{"==", "="}}, {"->-", []string{"->", "-"}},
		{"&&a.[1]", []string{"&&", "a", ".[", "1", "]"}}, {"():=;,|=<+-*!", []string{"(", ")", ":=", ";", ",", "|", "=", "<", "+", "-", "*", "!"}},
		{"f(x)\ty", []string{"f", "(", "x", ")", "y"}}, {"1+2", []string{"1", "+", "2"}}, {"x1 2", []string{"x1", "2"}},
	} {
		got, err := lex.Words(x.text)
		if err != api.OK || !slices.Equal(spellings(got), x.want) {
			t.Errorf("%q: %v %v", x.text, got, err)
		}
	}
}

func TestInvalid(t *testing.T) {
	for _, text := range []string{
		"a:b", ":", "&", ".", "[", "a.b", ">", "_", "_a", "abcdefghijklm", "00", "01", "1a", "0x", "1_", "0_", "1Z",
		"1099511627777", "10000000000000", "12345678901234567890123", "a\rb", "\v", "\x00", "\u00e9", "\xff", "a\u00a0b", "a#", "~", "0 00",
	} {
		if got, err := lex.Words(text); len(got) != 0 || err != api.ErrSyntax {
			t.Errorf("%q: %v %v", text, got, err)
		}
	}
	if _, err := lex.Words(strings.Repeat(" ", api.MaxText)); err != api.OK {
		t.Error("the longest text", err)
	}
	for _, c := range []string{" ", "#", "a"} {
		if got, err := lex.Words(strings.Repeat(c, api.MaxText+1)); len(got) != 0 || err != api.ErrLimit {
			t.Errorf("a too long text: %v", err)
		}
	}
}

// P4.2
func TestShow(t *testing.T) {
	if got := lex.Show(nil); got != "" {
		t.Error(got)
	}
	if got := lex.Show([]api.Token{{Text: "a"}}); got != "a" {
		t.Error(got)
	}
	if got := lex.Show([]api.Token{{Text: "a"}, {Text: ":="}, {Text: "12"}}); got != "a := 12" {
		t.Error(got)
	}
}

func bare(l []api.Token) []api.Token {
	out := slices.Clone(l)
	for i := range out {
		out[i].At = 0
	}
	return out
}

// P4.3: offsets, showing, and joining.
func TestProperties(t *testing.T) {
	r := rand.New(rand.NewSource(1))
	pieces := []string{";;", "||", "&&", "==", ".[", ":=", "->", "(", ")", "]", ";", ",", "|", "=", "<", "+", "-", "*", "!", " ", "\n", "\t", "a", "B_1", "0", "17", "let"}
	good := []string{""}
	for range 3000 {
		text := ""
		for range r.Intn(8) {
			text += pieces[r.Intn(len(pieces))]
		}
		l, err := lex.Words(text)
		if err != api.OK {
			continue
		}
		good = append(good, text)
		end := 0
		for _, x := range l {
			if strings.TrimLeft(text[end:x.At], " \t\n") != "" || !strings.HasPrefix(text[x.At:], x.Text) {
				t.Fatalf("%q: %v", text, l)
			}
			end = x.At + len(x.Text)
		}
		if strings.Trim(text[end:], " \t\n") != "" {
			t.Fatalf("%q: rest", text)
		}
		again, err := lex.Words(lex.Show(l))
		if err != api.OK || !slices.Equal(bare(again), bare(l)) {
			t.Fatalf("%q: %v %v", text, l, again)
		}
		other := good[r.Intn(len(good))]
		m, _ := lex.Words(other)
		both, err := lex.Words(text + "\n" + other)
		if err != api.OK || !slices.Equal(bare(both), slices.Concat(bare(l), bare(m))) {
			t.Fatalf("%q and %q", text, other)
		}
	}
}

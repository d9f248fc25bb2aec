package lex_test

import (
	"strings"
	"testing"

	"heirloom/api"
	"heirloom/lex"
)

func TestP7_2Join(t *testing.T) {
	rows := []struct {
		l    []api.Token
		want string
	}{
		{nil, ""},
		{[]api.Token{}, ""},
		{[]api.Token{name("a")}, "a"},
		{[]api.Token{name("a"), name("b")}, "a b"},
		{[]api.Token{word("if"), name("b"), sign("=="), pointed("1.5", 1.5), quoted(`"x y"`, "x y")}, `if b == 1.5 "x y"`},
		{[]api.Token{sign("-"), sign("-")}, "- -"},
		{[]api.Token{{}}, ""},
		{[]api.Token{{}, {}}, " "},
		{[]api.Token{{}, name("a"), {}}, " a "},
		{[]api.Token{{Text: " "}, {Text: " "}}, "   "},
		{[]api.Token{{Kind: 77, Text: "$ \x00\xff\n"}, {Kind: -1, Text: "--"}}, "$ \x00\xff\n --"},
		{[]api.Token{{Kind: api.TokText, Says: "said"}, {Kind: api.TokNumber, V: api.Value{T: 2, N: 7}}}, " "},
		{[]api.Token{{Text: "b", At: 9, End: 3}, {Text: "a", At: -1, End: -7}}, "b a"},
	}
	for _, r := range rows {
		if s := lex.Join(r.l...); s != r.want {
			t.Errorf("Join(%+v) = %q; want %q", r.l, s, r.want)
		}
	}
	if s := lex.Join(); s != "" {
		t.Errorf("Join() = %q", s)
	}
}

// TestP7_2JoinOfMany: no bound is named, so that what is joined may be longer than a source.
func TestP7_2JoinOfMany(t *testing.T) {
	var l []api.Token
	var want []string
	for i := range 20000 {
		s := strings.Repeat("q", i%7)
		l, want = append(l, name(s)), append(want, s)
	}
	if s := lex.Join(l...); s != strings.Join(want, " ") {
		t.Errorf("Join of many has %d bytes", len(s))
	}
}

func TestP7_2Word(t *testing.T) {
	if len(allWords()) != 18 {
		t.Fatal(allWords())
	}
	for _, w := range allWords() {
		if !lex.Word(w) {
			t.Errorf("Word(%q) = false", w)
		}
		for _, s := range []string{w + " ", " " + w, w + "1", "_" + w, w[1:] + "q", strings.ToUpper(w), strings.ToUpper(w[:1]) + w[1:], w + w, w + "\x00", `"` + w + `"`} {
			if lex.Word(s) {
				t.Errorf("Word(%q) = true", s)
			}
		}
		for i := range w {
			part := w[:i]
			if lex.Word(part) != wordForm.MatchString(part) {
				t.Errorf("Word(%q) = %v", part, lex.Word(part))
			}
		}
	}
	for _, s := range append(allSigns(), "", " ", "a", "_", "in", "goto", "repeat", "until", "self", "continue", "1", "\x00", "\xff", strings.Join(allWords(), " ")) {
		if lex.Word(s) {
			t.Errorf("Word(%q) = true", s)
		}
	}
}

// TestP7_2WordIsAsLex: a name is a TokWord just if Word says so.
func TestP7_2WordIsAsLex(t *testing.T) {
	for _, s := range append(allWords(), "a", "elsei", "elseifs", "En", "nd", "functions", "_end", "or1", "no") {
		l, _, _ := lex.Lex(s)
		if len(l) != 1 || (l[0].Kind == api.TokWord) != lex.Word(s) {
			t.Errorf("Lex(%q) = %v; Word = %v", s, l, lex.Word(s))
		}
	}
}

package lex_test

import (
	"strings"
	"testing"

	"heirloom/api"
	"heirloom/lex"
)

// TestP7_1Examples: the chapter's, with all that a token has.
func TestP7_1Examples(t *testing.T) {
	rows := []struct {
		src  string
		want answer
	}{
		{"a=1..2", answer{l: []api.Token{
			placed(name("a"), 0), placed(sign("="), 1), placed(whole("1"), 2), placed(sign(".."), 3), placed(whole("2"), 5),
		}}},
		{"x--y", answer{l: []api.Token{placed(name("x"), 0)}}},
		{"1x", answer{err: api.ErrForm}},
		{"\"a", answer{err: api.ErrQuote}},
		{"a $", answer{at: 2, err: api.ErrByte}},
	}
	for _, r := range rows {
		if a := asked(r.src); !a.same(r.want) {
			t.Errorf("Lex(%q) = %v; want %v", r.src, a, r.want)
		}
	}
}

// TestP7_1Kinds: each kind has its number, its bytes and its places, and of V and Says just what is its own.
func TestP7_1Kinds(t *testing.T) {
	want := answer{l: []api.Token{
		{Kind: api.TokWord, Text: "local", At: 1, End: 6},
		{Kind: api.TokName, Text: "x1", At: 7, End: 9},
		{Kind: api.TokSign, Text: "~=", At: 9, End: 11},
		{Kind: api.TokNumber, Text: "25", V: api.Value{T: api.TInt, N: 25}, At: 12, End: 14},
		{Kind: api.TokText, Text: `"a\x0ab"`, Says: "a\nb", At: 15, End: 23},
	}}
	if a := asked("\tlocal x1~= 25\n\"a\\x0ab\" -- end"); !a.same(want) {
		t.Errorf("Lex = %v; want %v", a, want)
	}
	kinds := []int{api.TokName, api.TokWord, api.TokNumber, api.TokText, api.TokSign}
	for i, k := range kinds {
		if k != i+1 {
			t.Errorf("the kind %d is %d", i+1, k)
		}
	}
}

func TestP7_1BlanksAndRemarks(t *testing.T) {
	a, b := name("a"), name("b")
	checkTokens(t, []row{
		{"", nil},
		{" ", nil},
		{"\t\n\r ", nil},
		{strings.Repeat("\r\n\t ", 500), nil},
		{"--", nil},
		{"---", nil},
		{"----", nil},
		{"--\n", nil},
		{"--\n--", nil},
		{" -- a remark\n\t-- and one more", nil},
		{"-- a\nb", []api.Token{b}},
		{"--a\n\nb", []api.Token{b}},
		{"-- \"\nb", []api.Token{b}},
		{"-- $ \x00 \xff 1x\nb", []api.Token{b}},
		{"-- a\rb", nil},
		{"-- a\r\nb", []api.Token{b}},
		{"--\nb--\na--", []api.Token{b, a}},
		{"a--b", []api.Token{a}},
		{"a--b\nb", []api.Token{a, b}},
		{"a-- b -- c\n b", []api.Token{a, b}},
		{"and--b\nb", []api.Token{word("and"), b}},
		{"1--b\nb", []api.Token{whole("1"), b}},
		{`"a"--b` + "\nb", []api.Token{quoted(`"a"`, "a"), b}},
		{"=--=\nb", []api.Token{sign("="), b}},
		{".--.\n.b", []api.Token{sign("."), sign("."), b}},
		{"---\nb", []api.Token{b}},
		{"a---b", []api.Token{a}},
		{"a\tb", []api.Token{a, b}},
		{"a\nb", []api.Token{a, b}},
		{"a\rb", []api.Token{a, b}},
		{"a b", []api.Token{a, b}},
		{" a  b ", []api.Token{a, b}},
		{"a", []api.Token{a}},
	})
}

// TestP7_1Bytes: of each byte, alone and behind a name, what stands there.
func TestP7_1Bytes(t *testing.T) {
	for i := range 256 {
		s := string([]byte{byte(i)})
		a := asked(s)
		if want := reckoned(s); !a.same(want) {
			t.Errorf("Lex(%q) = %v; want %v", s, a, want)
		}
		begins := strings.Contains("+-*/%.=<>(){}[],;#_\t\n\r \"", s) || i >= '0' && i <= '9' || i >= 'a' && i <= 'z' || i >= 'A' && i <= 'Z'
		if begins == (a.err == api.ErrByte) {
			t.Errorf("Lex(%q) = %v", s, a)
		}
		behind := "name " + s + " more"
		if a, want := asked(behind), reckoned(behind); !a.same(want) {
			t.Errorf("Lex(%q) = %v; want %v", behind, a, want)
		}
	}
}

func TestP7_1WrongBytes(t *testing.T) {
	rows := []fault{
		{"~", 0, api.ErrByte}, {"a~b", 1, api.ErrByte}, {"a~ =b", 1, api.ErrByte}, {"~~=", 0, api.ErrByte}, {"a=~b", 2, api.ErrByte},
		{"aé", 1, api.ErrByte}, {"1é", 1, api.ErrByte}, {"a.é", 2, api.ErrByte}, {"\x00", 0, api.ErrByte}, {"a\x00b", 1, api.ErrByte},
		{"\x80", 0, api.ErrByte}, {"a = \xff", 4, api.ErrByte}, {"a\x0bb", 1, api.ErrByte}, {"a\x0cb", 1, api.ErrByte}, {"a\u00a0b", 1, api.ErrByte},
		{"\ufeffa", 0, api.ErrByte}, {"-- a\n?", 5, api.ErrByte}, {"a--b\n !", 6, api.ErrByte}, {"a\x7f", 1, api.ErrByte},
	}
	for _, b := range "!$&':?@\\^`|~" {
		rows = append(rows, fault{string(b), 0, api.ErrByte}, fault{"\n (" + string(b), 3, api.ErrByte})
	}
	checkFaults(t, rows)
}

// TestP7_1FirstError: of several faults the leftmost one is told, and nothing of what stands ahead of it.
func TestP7_1FirstError(t *testing.T) {
	checkFaults(t, []fault{
		{"$ 1x \"", 0, api.ErrByte},
		{"1x $ \"", 0, api.ErrForm},
		{"\" 1x $", 0, api.ErrQuote},
		{"a b c $ 1x", 6, api.ErrByte},
		{"a b c 1x $", 6, api.ErrForm},
		{"a b c 9223372036854775808 1x", 6, api.ErrRange},
		{"a b c \"\\\" 1x", 6, api.ErrQuote},
		{"a b c \" 1x", 6, api.ErrQuote},
		{"a -- $ 1x \"\n b ? 1x", 15, api.ErrByte},
		{"1x.5$", 0, api.ErrForm},
		{"\"a\" \"b", 4, api.ErrQuote},
		{"\"a\"b\"", 4, api.ErrQuote},
		{"\"$\n", 0, api.ErrQuote},
	})
}

// TestP7_1Length: a source has at most MaxSource bytes, whatever stands in it; a longer one is refused ahead of all else.
func TestP7_1Length(t *testing.T) {
	if api.MaxSource != 8192 {
		t.Fatal(api.MaxSource)
	}
	for _, part := range []string{"a", " ", "(", "a ", "-", ".", "\n"} {
		src := strings.Repeat(part, api.MaxSource)[:api.MaxSource]
		if a, want := asked(src), reckoned(src); !a.same(want) || a.err != api.OK {
			t.Errorf("Lex of %q to the limit: %d tokens, %d, %v", part, len(a.l), a.at, a.err)
		}
		if a := asked(src + part[:1]); !a.same(answer{err: api.ErrLong}) {
			t.Errorf("Lex of %q beyond the limit = %v", part, a)
		}
	}
	for _, n := range []int{8193, 8194, 100000} {
		for _, part := range []string{"$", "\"", "1x ", "\x00", "--", "9"} {
			if a := asked(strings.Repeat(part, n)[:n]); !a.same(answer{err: api.ErrLong}) {
				t.Errorf("Lex of %d bytes of %q = %v", n, part, a)
			}
		}
	}
	full := strings.Repeat(" ", api.MaxSource-1)
	checkFaults(t, []fault{{full + "$", 8191, api.ErrByte}, {full + "\"", 8191, api.ErrQuote}, {full[1:] + "1x", 8190, api.ErrForm}})
	longText := `"` + strings.Repeat("q", api.MaxSource-2) + `"`
	checkTokens(t, []row{
		{longText, []api.Token{quoted(longText, longText[1:api.MaxSource-1])}},
		{full + "b", []api.Token{name("b")}},
		{"--" + full[3:] + "\nb", []api.Token{name("b")}},
		{full + "7", []api.Token{whole("7")}},
	})
}

// TestP1LexIsTheCallersOwn: what is handed out is kept nowhere: changes in it are seen by no later call.
func TestP1LexIsTheCallersOwn(t *testing.T) {
	src := "local a = \"b\" + 1.5 // c -- d"
	want := reckoned(src)
	for range 3 {
		a := asked(src)
		if !a.same(want) {
			t.Fatalf("Lex = %v; want %v", a, want)
		}
		for i := range a.l {
			a.l[i] = api.Token{Kind: 99, Text: "gone"}
		}
		_ = append(a.l[:0], api.Token{Text: "else"})
	}
	l, _, _ := lex.Lex(src)
	before := append([]api.Token(nil), l...)
	lex.Join(l...)
	if !(answer{l: l}).same(answer{l: before}) {
		t.Errorf("Join changed what it was given: %v", l)
	}
}

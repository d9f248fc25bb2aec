package lex_test

import (
	"math/rand"
	"reflect"
	"strings"
	"testing"

	"heirloom/api"
	"heirloom/lex"
)

// fullSource has tokens of all kinds, with and without blanks and remarks between them.
const fullSource = `-- begins with a remark
local function f(a, b_1) -- and one behind
	if a<=b_1 and not(a==1.5)then return a..b_1,"x -- y\x22",#a//2 elseif a~=nil or true then a=a%2-1 else a={1;[2]=3.25}end
end--without a blank
for i=1,10 do f(i,-i)end while false do break end x=0f3ff0000000000000 y=1 ..2 z=1..2>3--the end`

// checkCovered: P7.3: tokens stand in order, apart, and what is between them are blanks and remarks.
func checkCovered(t *testing.T, src string, l []api.Token) {
	t.Helper()
	end := 0
	for i, tok := range l {
		if tok.At < end || tok.End <= tok.At || tok.End > len(src) || src[tok.At:tok.End] != tok.Text {
			t.Fatalf("Lex(%q): the token %d is %+v, behind the place %d", src, i, tok, end)
		}
		checkGap(t, src, end, tok.At)
		end = tok.End
	}
	checkGap(t, src, end, len(src))
}

func checkGap(t *testing.T, src string, from, to int) {
	t.Helper()
	if gap := src[from:to]; gapForm.FindString(gap) != gap {
		t.Fatalf("Lex(%q) leaves out %q at %d", src, gap, from)
	}
}

// checkAgain: P7.4: Lex of Join is the same, but for places; the places are those that one blank between two makes.
func checkAgain(t *testing.T, src string, l []api.Token) {
	t.Helper()
	joined := lex.Join(l...)
	if len(joined) > api.MaxSource {
		if a := asked(joined); !a.same(answer{err: api.ErrLong}) {
			t.Fatalf("Lex of Join of %d tokens = %v", len(l), a)
		}
		return
	}
	a := asked(joined)
	if a.err != api.OK || a.at != 0 || !reflect.DeepEqual(unplaced(a.l), unplaced(l)) {
		t.Fatalf("Lex(%q), which is Join of Lex(%q), = %v; want %v", joined, src, a, l)
	}
	at := 0
	for i, tok := range a.l {
		if tok.At != at || tok.End != at+len(tok.Text) {
			t.Fatalf("Lex(%q): the token %d is %+v; want it at %d", joined, i, tok, at)
		}
		at = tok.End + 1
	}
	if again := lex.Join(a.l...); again != joined {
		t.Fatalf("Join of Lex of %q = %q", joined, again)
	}
}

// checkAll holds Lex of a source against the model and all that follows.
func checkAll(t *testing.T, src string) {
	t.Helper()
	a := asked(src)
	if want := reckoned(src); !a.same(want) {
		t.Fatalf("Lex(%q) = %v; want %v", src, a, want)
	}
	if a.err != api.OK {
		return
	}
	checkCovered(t, src, a.l)
	checkAgain(t, src, a.l)
}

func TestP7_3CoveredAndP7_4Again(t *testing.T) {
	a := asked(fullSource)
	if a.err != api.OK || len(a.l) != 94 {
		t.Fatalf("%d tokens, %d, %v", len(a.l), a.at, a.err)
	}
	checkAll(t, fullSource)
	for i := range fullSource {
		checkAll(t, fullSource[:i])
		checkAll(t, fullSource[i:])
	}
	for _, src := range []string{"", " ", "--", "--\n", "a", "a--", "--\na", strings.Repeat("(", 4096), strings.Repeat("(", 4097), strings.Repeat("a ", 4096), strings.Repeat("..", 4096)} {
		checkAll(t, src)
	}
}

// TestP7AllShortSources: all sources of a few bytes, of those that mean something, are as the model's.
func TestP7AllShortSources(t *testing.T) {
	checkEach(t, "a_1.-=/~\" \n$", 5)
	checkEach(t, "a1.<>=-/\"\\x2f0 \n\r\t_,#(~", 3)
	checkEach(t, "do nelsif-1", 5)
}

func checkEach(t *testing.T, bytes string, most int) {
	t.Helper()
	var grow func(src string)
	grow = func(src string) {
		checkAll(t, src)
		if len(src) == most {
			return
		}
		for i := range len(bytes) {
			grow(src + bytes[i:i+1])
		}
	}
	grow("")
}

// somePieces are tokens, blanks, remarks and wrong bytes, as texts.
func somePieces() []string {
	l := append(allWords(), allSigns()...)
	return append(l,
		"a", "x_1", "_", "Then", "enda", "1", "0", "25", "1.5", "0.25", "0f3ff0000000000000", `""`, `"a b"`, `"--"`, `"\x22\x00"`,
		" ", " ", " ", "\n", "\t", "\r", "  ", "-- remark\n", "--\n", " -- \"$\n", "--1x\n")
}

// TestP7ManySources: long sources, thrown together of pieces with a fixed seed, with and without a wrong one in them.
func TestP7ManySources(t *testing.T) {
	r := rand.New(rand.NewSource(7))
	pieces := somePieces()
	wrong := []string{"$", "~", "\x00", "\x80", "\"", `"\q"`, "1x", "1.2.3", "9223372036854775808", "\"\n\""}
	for n := range 6000 {
		var b strings.Builder
		for range r.Intn(60) {
			b.WriteString(pieces[r.Intn(len(pieces))])
			if n%2 == 0 {
				b.WriteByte(' ')
			}
			if n%3 == 0 && r.Intn(40) == 0 {
				b.WriteString(wrong[r.Intn(len(wrong))])
			}
		}
		checkAll(t, b.String())
	}
	for range 3000 {
		b := make([]byte, r.Intn(20))
		for i := range b {
			b[i] = byte(r.Intn(256))
		}
		checkAll(t, string(b))
	}
}

// someGap is what may stand between two tokens: blanks, then perhaps remarks that a byte 10 ends.
func someGap(r *rand.Rand) string {
	gap := []string{" ", "\t", "\n", "\r", "\r\n", "  \n"}[r.Intn(6)]
	for range r.Intn(3) {
		gap += []string{"--\n", "-- a\n", "--\"$1x\x00\xff\n \t", "---- -\r\n"}[r.Intn(4)]
	}
	return gap
}

// TestP7_5GapsChangePlacesAlone: the same tokens with all kinds of gaps between them, ahead of them and behind them.
func TestP7_5GapsChangePlacesAlone(t *testing.T) {
	r := rand.New(rand.NewSource(75))
	want := asked(fullSource)
	for range 300 {
		var b strings.Builder
		var places []int
		for _, tok := range want.l {
			b.WriteString(someGap(r))
			places = append(places, b.Len())
			b.WriteString(tok.Text)
		}
		b.WriteString([]string{"", " ", "\n", " --", " -- no byte 10 ends it"}[r.Intn(5)])
		a := asked(b.String())
		if a.err != api.OK || !reflect.DeepEqual(unplaced(a.l), unplaced(want.l)) {
			t.Fatalf("Lex(%q) = %v", b.String(), a)
		}
		for i, tok := range a.l {
			if tok.At != places[i] {
				t.Fatalf("Lex(%q): the token %d is %+v; want it at %d", b.String(), i, tok, places[i])
			}
		}
	}
}

// TestP7_5GapsThatMayBeLeftOut: tokens that no gap parts and that are apart all the same, and a remark right behind each token.
func TestP7_5GapsThatMayBeLeftOut(t *testing.T) {
	rows := []struct{ bare, parted string }{
		{"a=1", "a = 1"}, {"a..b", "a--\n..--\nb"}, {"f(a,b)", "f ( a , b )"}, {`a"b"c`, "a \"b\" c"}, {"1..2", "1 .. 2"}, {"a<=b", "a\t<=\rb"},
		{"x=#t[1]", "x -- 1\n= # -- 2\n t [ 1--\n]"}, {"{1;2,}", "{ 1 ; 2 , }"}, {"a-b", "a - b"}, {"a//b", "a --/\n// b"}, {"a~=b", "--\na\n~=\n\nb--"},
	}
	for _, r := range rows {
		a, b := asked(r.bare), asked(r.parted)
		if a.err != api.OK || b.err != api.OK || len(a.l) == 0 || !reflect.DeepEqual(unplaced(a.l), unplaced(b.l)) {
			t.Errorf("Lex(%q) = %v; Lex(%q) = %v", r.bare, a, r.parted, b)
		}
	}
	for _, tok := range asked(fullSource).l {
		src := tok.Text + "--$\nx"
		if tok.Text == "-" {
			src = "- --$\nx" // of --- the first two bytes begin the remark
		}
		checkTokens(t, []row{{src, unplaced([]api.Token{tok, name("x")})}})
	}
}

// TestP7_5GapsWithinTokens: what stands in a token is no gap, and a gap parts what would be one token.
func TestP7_5GapsWithinTokens(t *testing.T) {
	for _, tok := range asked(fullSource).l {
		for i := 1; i < len(tok.Text); i++ {
			for _, gap := range []string{" ", "\n", "--\n"} {
				src := tok.Text[:i] + gap + tok.Text[i:]
				a := asked(src)
				if a.err == api.OK && len(a.l) == 1 && tok.Kind != api.TokText {
					t.Errorf("Lex(%q) = %v", src, a)
				}
				checkAll(t, src)
			}
		}
	}
}

// TestP1NoPanic: Lex, Join and Word end at all arguments, and tell the same each time.
func TestP1NoPanic(t *testing.T) {
	r := rand.New(rand.NewSource(1))
	for range 200 {
		b := make([]byte, r.Intn(9000))
		for i := range b {
			b[i] = " \n\"-.=/0a_~\\x"[r.Intn(13)]
		}
		src := string(b)
		first := asked(src)
		if again := asked(src); !again.same(first) {
			t.Fatalf("Lex(%q) = %v, and then %v", src, first, again)
		}
		if lex.Word(src) {
			t.Fatalf("Word(%q)", src)
		}
		if s := lex.Join(api.Token{Text: src}, api.Token{Text: src}); s != src+" "+src {
			t.Fatalf("Join = %q", s)
		}
	}
}

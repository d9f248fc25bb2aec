package parse_test

import (
	"math/rand"
	"strings"
	"testing"

	"heirloom/api"
	"heirloom/lex"
	"heirloom/parse"
)

// TestP8_1ManySources: sources that are made together with their trees, all places among them; some of them too deep somewhere.
func TestP8_1ManySources(t *testing.T) {
	r := rand.New(rand.NewSource(8))
	right, deep := 0, 0
	for i := range 6000 {
		m := newMaker(r, 1+i%9)
		if i%3 == 0 {
			m = newDeepMaker(r)
		}
		src, want := m.source()
		if len(src) > api.MaxSource {
			continue
		}
		n, at, err := parse.Parse(src)
		if bad := m.tooDeep(); bad >= 0 {
			deep++
			if err != api.ErrDeep || at != bad || told(n) != "kind0@0" {
				t.Fatalf("Parse(%q) = %d, %v; want ErrDeep at %d", src, at, err, bad)
			}
			continue
		}
		right++
		if err != api.OK || at != 0 || told(n) != told(want) {
			t.Fatalf("Parse(%q) = %d, %v, %s; want %s", src, at, err, told(n), told(want))
		}
		checkAgain(t, n)
	}
	if right < 3000 || deep < 300 {
		t.Errorf("%d right ones, %d too deep ones", right, deep)
	}
}

// TestP8_1ManyDeepAndWrong: sources that are about as deep as they may be, with a token changed: what comes ahead is told.
func TestP8_1ManyDeepAndWrong(t *testing.T) {
	r := rand.New(rand.NewSource(14))
	deep, form := 0, 0
	for range 1500 {
		m := newDeepMaker(r)
		src, _ := m.source()
		l, _, err := lex.Lex(src)
		if err != api.OK || len(l) == 0 || len(src) > api.MaxSource-10 {
			continue
		}
		tok := l[r.Intn(min(len(l), 150))]
		src = src[:tok.At] + []string{")", "=", "then", "end", ",", ";", "1"}[r.Intn(7)] + " " + src[tok.End:]
		n, at, err := parse.Parse(src)
		bad := m.tooDeep()
		switch {
		case bad >= 0 && bad < tok.At:
			deep++
			if err != api.ErrDeep || at != bad || told(n) != "kind0@0" {
				t.Fatalf("Parse(%q) = %d, %v; want ErrDeep at %d", src, at, err, bad)
			}
		case firstWrong(src) == tok.At && bad != tok.At:
			form++
			// ErrDeep, too: something that the changed token can not begin would have been too deep there
			if err != api.ErrForm && err != api.ErrDeep || at != tok.At || told(n) != "kind0@0" {
				t.Fatalf("Parse(%q) = %d, %v; want ErrForm at %d", src, at, err, tok.At)
			}
		}
	}
	if deep < 100 || form < 100 {
		t.Errorf("%d too deep ones, %d wrong ones", deep, form)
	}
}

// checkAgain: P8.4: Parse of Print is the same tree, and printed alike, unless it is too long, or parentheses make it too deep.
func checkAgain(t *testing.T, n api.Node) {
	t.Helper()
	src := parse.Print(n)
	if len(src) > api.MaxSource {
		return
	}
	again, at, err := parse.Parse(src)
	if printedLevel(n, 1) > api.MaxNest {
		if err != api.ErrDeep {
			t.Fatalf("Parse(%q), which is Print of a tree, = %d, %v; want ErrDeep", src, at, err)
		}
		return
	}
	if err != api.OK || at != 0 || !parse.Same(n, again) || shape(n) != shape(again) {
		t.Fatalf("Parse(%q), which is Print of %s, = %d, %v, %s", src, told(n), at, err, told(again))
	}
	if s := parse.Print(again); s != src {
		t.Fatalf("Print of %q is %q", src, s)
	}
	l, _, _ := lex.Lex(src)
	if lex.Join(l...) != src {
		t.Fatalf("Print tells %q: not one blank between two tokens", src)
	}
}

// printedLevel is the highest level of what Print tells of a tree that is on that level itself.
func printedLevel(n api.Node, level int) int {
	most := level
	in := func(part api.Node, level int) { most = max(most, printedLevel(part, level)) }
	for i, part := range n.L {
		head := i == 0 && (n.Kind == api.NIndex || n.Kind == api.NCall)
		switch {
		case n.Kind == api.NBin && i == 0:
			in(part, level+1)
		case n.Kind == api.NBin, n.Kind == api.NUn:
			in(part, level+2)
		case head && (part.Kind == api.NName || part.Kind == api.NIndex || part.Kind == api.NCall):
			in(part, level)
		case n.Kind == api.NItem, n.Kind == api.NPair, n.Kind == api.NBlock:
			in(part, level)
		case isName(n, i):
		default:
			in(part, level+1)
		}
	}
	return most
}

// isName: parts that are names, but no expressions.
func isName(n api.Node, i int) bool {
	switch n.Kind {
	case api.NFunc:
		return i < len(n.L)-1
	case api.NLocal:
		return i < n.Count
	case api.NFor, api.NLocalFunc:
		return i == 0
	}
	return false
}

// TestP8_4Parentheses: what Print needs them for may be too deep then, and is not, a level below.
func TestP8_4Parentheses(t *testing.T) {
	for _, r := range []struct {
		open, part, end string
		most            int // the highest level of the part's own on which its print is right
	}{
		{"(", "x", ")", 40}, {"(", "a + b", ")", 38}, {"(", "-a", ")", 38}, {"(", "- - a", ")", 36}, {"(", "a + b + c", ")", 37}, {"(", "a .. b .. c", ")", 36}, {"(", `("x").y`, ")", 39}, {"(", "(a + b).y", ")", 37}, {"(", "f().y", ")", 39},
	} {
		for level := 30; level <= 40; level++ {
			opened := strings.Repeat("f"+r.open, level-2)
			src := "return " + opened + r.part + strings.Repeat(r.end, level-2)
			n, at, err := parse.Parse(src)
			if err != api.OK {
				if level < 38 {
					t.Errorf("Parse(%q) = %d, %v", src, at, err)
				}
				continue
			}
			again, _, err := parse.Parse(parse.Print(n))
			if (err == api.OK) != (level <= r.most) || err == api.OK && !parse.Same(n, again) || err != api.OK && err != api.ErrDeep {
				t.Errorf("%q on level %d: Parse of Print is %v", r.part, level, err)
			}
		}
	}
	for _, src := range []string{strings.Repeat("function f() ", 19) + strings.Repeat("end ", 19), strings.Repeat("local function f() ", 19) + "break " + strings.Repeat("end ", 19)} {
		checkAgain(t, tree(t, src))
	}
}

// TestP8_4TooLong: what Print tells may be longer than a source can be.
func TestP8_4TooLong(t *testing.T) {
	n := tree(t, "a=1"+strings.Repeat("+1", 2000))
	src := parse.Print(n)
	if len(src) <= api.MaxSource {
		t.Fatal(len(src))
	}
	checkWrong(t, []wrong{{src, 0, api.ErrLong}})
	checkAgain(t, tree(t, "a=1"+strings.Repeat("+1", 500)))
	checkAgain(t, tree(t, manyForms))
}

// wrapped is an expression with more parentheses around it, and around what is in it, than it needs.
func wrapped(r *rand.Rand, n api.Node) string {
	l := make([]string, len(n.L))
	if n.Kind != api.NFunc {
		for i, part := range n.L {
			l[i] = wrapped(r, part)
		}
	}
	s := ""
	switch n.Kind {
	case api.NBin:
		s = "(" + l[0] + " " + n.Text + " " + l[1] + ")"
	case api.NUn:
		s = "(" + n.Text + " " + l[0] + ")"
	case api.NIndex:
		s = "(" + l[0] + ")[" + l[1] + "]"
	case api.NCall:
		s = "(" + l[0] + ")(" + strings.Join(l[1:], ",") + ")"
	case api.NTable:
		s = "{" + strings.Join(l, ",") + "}"
	case api.NItem:
		return l[0]
	case api.NPair:
		return "[" + l[0] + "]=" + l[1]
	default:
		s = parse.Print(n)
	}
	more := max(0, r.Intn(4)-1)
	return strings.Repeat("(", more) + s + strings.Repeat(")", more)
}

// TestP8_5Parentheses: parentheses around an expression change nothing but places.
func TestP8_5Parentheses(t *testing.T) {
	r := rand.New(rand.NewSource(85))
	count := 0
	for range 4000 {
		m := newMaker(r, 2+r.Intn(5))
		n := m.expr(2)
		bare := "return " + m.b.String()
		src := "return " + wrapped(r, n)
		if len(src) > api.MaxSource {
			continue
		}
		a, _, err := parse.Parse(bare)
		b, at, err2 := parse.Parse(src)
		if err != api.OK {
			t.Fatalf("Parse(%q) = %v", bare, err)
		}
		if err2 == api.ErrDeep {
			continue
		}
		count++
		if err2 != api.OK || !parse.Same(a, b) {
			t.Fatalf("Parse(%q) = %d, %v; want the tree of %q", src, at, err2, bare)
		}
	}
	if count < 2000 {
		t.Error(count)
	}
	for _, rows := range [][]string{
		{"a = b", "a = (b)", "a = ((b))", "a = (((((b)))))"}, {"f(a)", "(f)(a)", "f((a))", "((f))((a))"}, {"a.b = 1", "(a).b = 1", "((a)).b = (1)"}, {"a[b] = c", "a[(b)] = c", "(a)[(b)] = (c)"},
		{"return a + b * c", "return (a) + b * c", "return a + (b * c)", "return (a + (b * (c)))", "return ((a) + ((b) * (c)))"}, {"return -a", "return (-a)", "return -(a)"}, {"return {a, [b] = c, d = e}", "return {(a), [(b)] = (c), d = (e)}", "return ({a, [b] = c, d = e})"},
		{"if a then end", "if (a) then end"}, {"while a do end", "while ((a)) do end"}, {"for i = a, b, c do end", "for i = (a), (b), (c) do end"}, {"local a = f()", "local a = (f())", "local a = (f)()", "local a = ((f)())"},
		{"return function() end", "return (function() end)"}, {"return f()", "return (f())"}, {"return a, b", "return (a), b", "return a, (b)"},
	} {
		for _, src := range rows[1:] {
			if !parse.Same(tree(t, rows[0]), tree(t, src)) {
				t.Errorf("%q is not %q", src, rows[0])
			}
		}
	}
	for _, rows := range [][]string{{"return (a + b) * c", "return a + b * c"}, {"return (a .. b) .. c", "return a .. b .. c"}, {"return -(a + b)", "return -a + b"}, {"return a - (b - c)", "return a - b - c"}} {
		if parse.Same(tree(t, rows[0]), tree(t, rows[1])) {
			t.Errorf("%q is %q", rows[0], rows[1])
		}
	}
}

// TestP8_5Gaps: blanks and remarks, ahead of each token and behind the last one, change nothing but places; and those as the tokens' do.
func TestP8_5Gaps(t *testing.T) {
	r := rand.New(rand.NewSource(58))
	for i := range 600 {
		src := manyForms
		if i > 0 {
			src, _ = newMaker(r, 2+r.Intn(5)).source()
		}
		n, _, err := parse.Parse(src)
		if err != api.OK || len(src) > 2000 {
			continue
		}
		l, _, _ := lex.Lex(src)
		places := map[int]int{}
		var b strings.Builder
		for _, tok := range l {
			b.WriteString([]string{" ", "\n", "\t", " \r\n", " -- a\n", " --\n--\n", "\n-- ) end \"$\n "}[r.Intn(7)])
			places[tok.At] = b.Len()
			b.WriteString(tok.Text)
		}
		b.WriteString([]string{"", " ", "\n", " --", " -- the end"}[r.Intn(5)])
		if len(l) == 0 {
			places[len(src)] = b.Len()
		}
		got, at, err := parse.Parse(b.String())
		if err != api.OK || at != 0 || !parse.Same(n, got) || told(got) != told(placed(n, places)) {
			t.Fatalf("Parse(%q) = %d, %v, %s; want %s", b.String(), at, err, told(got), told(placed(n, places)))
		}
	}
}

// placed is a tree with other places.
func placed(n api.Node, places map[int]int) api.Node {
	at, is := places[n.At]
	if !is {
		at = -1
	}
	n.At = at
	l := make([]api.Node, len(n.L))
	for i, part := range n.L {
		l[i] = placed(part, places)
	}
	n.L = l
	return n
}

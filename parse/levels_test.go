package parse_test

import (
	"fmt"
	"strings"
	"testing"

	"heirloom/api"
	"heirloom/parse"
)

// way is how a level is gained: what stands ahead of the part that is on a higher level, what stands behind it, and how many levels it is higher. ^ stands ahead of a part that is on the same level as that one, and comes ahead of it.
type way struct {
	open, end string
	gain      int
}

// exprWays have an expression in an expression.
func exprWays() []way {
	l := []way{
		{"(", ")", 1}, {"( ", " )", 1}, {"(", ").b", 1}, {"f(", ")", 1}, {"f(^1,", ")", 1}, {"f(", ",1)", 1}, {"f()(", ")", 1}, {"a[", "]", 1}, {"a.b[", "].c", 1}, {"a[^1][", "](2)", 1},
		{"{", "}", 1}, {"{^1,", ",}", 1}, {"{a=", "}", 1}, {"{[", "]=1}", 1}, {"{[^1]=", "}", 1}, {"{[^a]=b,", "}", 1}, {"{^1,2,a=", ",3}", 1},
		{"(^a)(", ")", 1}, {"(^a)[", "]", 1}, {"f((", "))", 2}, {"{(", ")}", 2}, {"(-", ")", 2}, {"-f(", ")", 2}, {"a+f(", ")", 2},
		{"function()return ", " end", 2}, {"function(a,b)f(", ")end", 3}, {"function()local a=", " end", 2}, {"function()^a=", " end", 2}, {"function()a[", "]=1 end", 3}, {"function()if ", " then end end", 2},
		{"function()while ", " do end end", 2}, {"function()for i=^1,", " do end end", 2}, {"function()for i=^1,2,", " do end end", 2}, {"function()do return ", " end end", 3},
	}
	for _, s := range signsOfOne() {
		l = append(l, way{s + " ", "", 1}, way{s + " (", ")", 2})
	}
	for _, s := range signsOfTwo() {
		l = append(l, way{"a " + s + " (", ")", 2}, way{"(a " + s + " ", ")", 2}, way{"a " + s + " - ", "", 2}, way{"a " + s + " #", " " + s + " b", 2})
	}
	return append(l, way{"a .. ", "", 1}, way{"1 .. ", "", 1})
}

// blockWays have a block in a block.
func blockWays() []way {
	return []way{
		{"do ", " end", 1}, {"do ^; ", " end ;", 1}, {"do ^break ", " end ; break", 1}, {"while ^a do ", " end", 1}, {"for i=^1,2 do ", " end", 1}, {"for i=^1,2,3 do ", " end", 1},
		{"if ^a then ", " end", 1}, {"if ^a then else ", " end", 1}, {"if ^a then elseif b then ", " end", 1}, {"if ^a then ", " elseif b then else end", 1}, {"if ^a then elseif b then else ", " end", 1},
		{"if ^a then elseif b then ", " else end", 1}, {"function f() ", " end", 2}, {"function f(a,b) ", " end", 2}, {"local function f() ", " end", 2}, {"local function f(a) ", " end", 2},
		{"f = function() ", " end", 2}, {"local f = function() ", " end", 2}, {"f(function() ", " end)", 3}, {"return function() ", " end", 2}, {"f((function() ", " end))", 4}, {"a[function() ", " end] = 1", 3},
		{"do do ", " end end", 2}, {"do function f() ", " end end", 3}, {"if function() ", " end then end", 2}, {"f({function() ", " end})", 4}, {"(function() ", " end)()", 3},
	}
}

// within is a source that has a part in it, and where the part stands.
type within struct {
	src string
	at  int
}

// nested puts a part into ways, the first one outermost.
func nested(ways []way, ahead, part, behind string) within {
	var open, end strings.Builder
	for i, w := range ways {
		open.WriteString(strings.ReplaceAll(w.open, "^", ""))
		end.WriteString(ways[len(ways)-1-i].end)
	}
	return within{ahead + open.String() + part + end.String() + behind, len(ahead) + open.Len()}
}

// tooDeep puts a part into ways of which the last one brings it from a level of at most MaxNest to the next one above that; base is the level of what all of them stand in. It tells where the first part on that level stands.
func tooDeep(w, filler way, base int, ahead, part, behind string) within {
	n := nested(append(upTo(filler, filler, base, api.MaxNest+1-w.gain), w), ahead, part, behind)
	if _, rest, is := strings.Cut(w.open, "^"); is {
		n.at -= len(rest)
	} else if part == "" && strings.HasPrefix(w.end, " ") {
		n.at++ // what is empty is where the next token stands
	}
	return n
}

// upTo are ways that make a part's level from base just level: one of them as often as it fits, another one of one level for the rest.
func upTo(w, filler way, base, level int) []way {
	var l []way
	for base+w.gain <= level {
		l = append(l, w)
		base += w.gain
	}
	for ; base < level; base++ {
		l = append([]way{filler}, l...)
	}
	return l
}

func checkRight(t *testing.T, w within) {
	t.Helper()
	if n, at, err := parse.Parse(w.src); err != api.OK || at != 0 || n.Kind != api.NBlock {
		t.Errorf("Parse(%q) = %d, %v; want it right", w.src, at, err)
	}
}

func checkDeep(t *testing.T, w within) {
	t.Helper()
	checkWrong(t, []wrong{{w.src, w.at, api.ErrDeep}})
}

// TestP8_1LevelsOfExpressions: of each way an expression on the level MaxNest, and one on the next level; cut off ahead of the part, too.
func TestP8_1LevelsOfExpressions(t *testing.T) {
	if api.MaxNest != 40 {
		t.Fatal(api.MaxNest)
	}
	filler := way{"(", ")", 1}
	for _, w := range exprWays() {
		for _, part := range []string{"x", "1", `"x"`, "nil", "{}", "x.y", "x()", "x().y()"} {
			checkRight(t, nested(upTo(w, filler, 2, 40), "return ", part, ""))
			checkDeep(t, tooDeep(w, filler, 2, "return ", part, ""))
		}
		checkRight(t, nested(upTo(w, filler, 2, 40), "a[1] = ", "x", ""))
		checkDeep(t, tooDeep(w, filler, 2, "local a, b = 1, ", "x", " f()"))
		checkDeep(t, tooDeep(w, filler, 2, "return ", "x x", ""))
		if !strings.HasSuffix(w.open, "return ") && w.open != "function()^a=" { // where an expression need not come
			checkCut(t, tooDeep(w, filler, 2, "return ", "x", ""))
		}
	}
}

// checkCut: a source that ends ahead of what would be too deep in it.
func checkCut(t *testing.T, w within) {
	t.Helper()
	checkDeep(t, within{w.src[:w.at], w.at})
	checkDeep(t, within{w.src[:w.at] + " ", w.at + 1})
	checkDeep(t, within{w.src[:w.at] + " -- the end", w.at + 11})
}

// TestP8_1LevelsOfBlocks: of each way a block on the level MaxNest, and one on the next level, with statements and without.
func TestP8_1LevelsOfBlocks(t *testing.T) {
	filler := way{"do ", " end", 1}
	for _, w := range blockWays() {
		for _, part := range []string{"", ";", "break", "local a", "return", "return ;", "; break ;"} {
			checkRight(t, nested(upTo(w, filler, 1, 40), "", part, ""))
			checkDeep(t, tooDeep(w, filler, 1, "", part, ""))
			checkCut(t, tooDeep(w, filler, 1, "", part, ""))
		}
	}
}

// TestP8_1LevelsOfStatements: in a block on the level MaxNest no expression may stand, nor a block or a function; in one a level below no part of them.
func TestP8_1LevelsOfStatements(t *testing.T) {
	do := way{"do ", " end", 1}
	at40 := func(s string) within { return nested(upTo(do, do, 1, 40), "", s, "") }
	at39 := func(s string) within { return nested(upTo(do, do, 1, 39), "", s, "") }
	for _, s := range []string{"", ";", "break", "local a", "local a, b", "return", "return ;", "break break ; local a ; return"} {
		checkRight(t, at40(s))
	}
	for _, s := range []string{
		"local a = ^1", "local a, b = ^nil", "^a = 1", "^a.b = 1", "^(a).b = 1", "^a, b = 1", "^f()", "^f(1)", "^(f)()", "return ^1", "return ^(1)", "return ^-1", "if ^a then end", "while ^a do end", "for i = ^1, 2 do end",
		"do ^end", "do ^break end", "do ^; end", "^function f() end", "local ^function f() end", "local a break ; ^a = 1", "break return ^1, 2",
	} {
		ahead, behind, _ := strings.Cut(s, "^")
		w := at40(ahead + behind)
		checkDeep(t, within{w.src, w.at + len(ahead)})
	}
	for _, s := range []string{
		"local a = 1", "a = 1", "a.b = 1", "a, b.c = 1, 2", "f()", "f().a()", "return 1, 2", "return a.b", "return {}", "return f()", "if a then end", "if a then elseif b then else end", "while a do end", "for i = 1, 2, 3 do end", "do end", "do break end",
	} {
		checkRight(t, at39(s))
	}
	for _, s := range []string{
		"a = -^1", "a = (^1)", "a[^1] = 1", "a, b[^1] = 1", "(^a).b = 1", "(^f)()", "f(^1)", "f()(^1)", "a = {^1}", "a = {a = ^1}", "a = {[^1] = 1}", "a = 1 + ^1", "a = b.c[^1]", "function f() ^end", "function f() ^break end", "local function f(a) ^end",
		"a = function() ^end", "return function() ^return end", "do ^f() end", "do return ^1 end", "do do ^end end", "if a then ^f() end", "if a then if ^a then end end", "if a then else ^f() end", "if a then elseif b then ^f() end", "if a then elseif b + ^c then end",
		"while a do ^a = 1 end", "while -^a do end", "for i = 1, 2 do local a = ^1 end", "for i = -^1, 2 do end", "for i = 1, -^2 do end", "for i = 1, 2, -^3 do end", "if -^a then end", "return 1, -^1", "local a = 1, (^1)", "do ^function f() end end", "do local ^function f() end end",
	} {
		ahead, behind, _ := strings.Cut(s, "^")
		w := at39(ahead + behind)
		checkDeep(t, within{w.src, w.at + len(ahead)})
	}
}

// TestP8_1LevelsThatStay: what stands side by side, as a left part or ahead of a suffix gains no level, however much of it there is.
func TestP8_1LevelsThatStay(t *testing.T) {
	many := func(ahead, part, behind string) string { return ahead + strings.Repeat(part, 250) + behind }
	for _, src := range []string{
		many("", "f() ", ""), many("", "do end ", ""), many("", "a = 1 ", ""), many("return 1", ", 1", ""), many("f(1", ", 1", ")"), many("return {", "1,", "}"), many("return {", "[1]=1,", "}"),
		many("return a", ".b", ""), many("return a", "[1]", ""), many("f()", "()", ""), many("a", "[1](2).b", " = 1"), many("if a then", " elseif b then", " end"), many("local a", ", a", ""), many("function f(a", ", a", ") end"),
		many("return a", " + a", ""), many("return a", " - 1", ""), many("return a", " * a + a", ""), many("return a", " and a", ""), many("return a", " or a", ""), many("return a", " == a", ""), many("return a", " // -a", ""),
		many("return a", " or a and a < a .. a + a * - a", ""), many("return -a", " + (a)", ""), many("a", ", a", " = 1"),
	} {
		if n, at, err := parse.Parse(src); err != api.OK || parse.Size(n) < 250 {
			t.Errorf("Parse(%.30q ..) = %d, %v", src, at, err)
		}
	}
	for _, s := range signsOfTwo() {
		src := "return a" + strings.Repeat(" "+s+" a", 100)
		n, at, err := parse.Parse(src)
		if s == ".." {
			// the first a is on level 2, each one behind it a level above
			if err != api.ErrDeep || at != len("return a")+38*len(" .. a")+4 {
				t.Errorf("many %s: %d, %v", s, at, err)
			}
			continue
		}
		if err != api.OK || parse.Size(n) != 203 {
			t.Errorf("many %s: %d, %v", s, at, err)
		}
	}
	checkRight(t, within{src: "return a" + strings.Repeat(" .. a", 38)})
	checkRight(t, within{src: "return " + strings.Repeat("(a .. b) .. ", 37) + "c"})
}

// TestP8_1DeepOrForm: of both errors the one that comes ahead is told.
func TestP8_1DeepOrForm(t *testing.T) {
	deep := nested(upTo(way{"(", ")", 1}, way{"(", ")", 1}, 2, 41), "return ", "x", "")
	first := deep.src[:deep.at]
	for _, tail := range []string{"", "x", "x x", "x = ", "x ) ) = 1", "x" + strings.Repeat(")", 39) + " end", "x ; return", "x" + strings.Repeat(")", 38)} {
		checkDeep(t, within{first + tail, deep.at})
	}
	for _, ahead := range []string{"x ", "f() = ", "local ", "do end end ", "return 1 ", "a = ; ", "if a do end ", ") "} {
		src := ahead + first + "x"
		if _, at, err := parse.Parse(src); err != api.ErrForm || at >= len(ahead)+6 {
			t.Errorf("Parse(%q) = %d, %v; want ErrForm ahead", src, at, err)
		}
	}
	opened := strings.Repeat("do ", 39)
	checkWrong(t, []wrong{
		{opened, 117, api.ErrForm},
		{opened + "do ", 120, api.ErrDeep},
		{opened + "do", 119, api.ErrDeep},
		{opened + "do end", 120, api.ErrDeep},
		{opened + "do )", 120, api.ErrDeep},
		{opened + "do -- more", 127, api.ErrDeep},
		{opened + "break = do", 123, api.ErrForm},
		{opened + ") do", 117, api.ErrForm},
		{opened + "then", 117, api.ErrForm},
		{opened + "local a = 1", 127, api.ErrDeep},
		{opened + "local 1", 123, api.ErrForm},
		{opened + "return end", 127, api.ErrForm},
		{opened + "return", 123, api.ErrForm},
		{opened + "return 1 x", 124, api.ErrDeep},
		{"return " + strings.Repeat("(", 38), 45, api.ErrForm},
		{"return " + strings.Repeat("(", 39), 46, api.ErrDeep},
		{"return " + strings.Repeat("(", 38) + ")", 45, api.ErrForm},
		{"return " + strings.Repeat("(", 38) + "1" + strings.Repeat(")", 37), 83, api.ErrForm},
		{"return " + strings.Repeat("- ", 39), 85, api.ErrDeep},
		{"return " + strings.Repeat("- ", 38), 83, api.ErrForm},
		{"return " + strings.Repeat("{", 39), 46, api.ErrDeep},
		{"return " + strings.Repeat("f(", 39), 85, api.ErrDeep},
	})
	for _, src := range []string{"return " + strings.Repeat("{", 39) + strings.Repeat("}", 39), "return " + strings.Repeat("f(", 39) + strings.Repeat(")", 39)} {
		checkRight(t, within{src: src})
	}
}

// TestP8_1MuchDeeper: sources that are as deep as MaxSource lets them be end too.
func TestP8_1MuchDeeper(t *testing.T) {
	for _, w := range append(exprWays(), blockWays()...) {
		for _, ahead := range []string{"return ", ""} {
			open := strings.ReplaceAll(w.open, "^", "")
			src := ahead + strings.Repeat(open, (api.MaxSource-len(ahead))/len(open))
			n, at, err := parse.Parse(src)
			if err != api.ErrDeep && err != api.ErrForm || at > len(src) || told(n) != "kind0@0" {
				t.Errorf("Parse(%.40q ..) = %s, %d, %v", src, fmt.Sprint(n.Kind), at, err)
			}
		}
	}
}

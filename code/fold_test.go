package code_test

import (
	"reflect"
	"slices"
	"testing"

	"heirloom/api"
	"heirloom/code"
	"heirloom/num"
	"heirloom/parse"
)

func number(n int64) api.Node { return api.Node{Kind: api.NNumber, V: num.Int(n), At: int(n) + 100} }

func float(f float64) api.Node { return api.Node{Kind: api.NNumber, V: num.Float(f), At: 200} }

// two is a sign of two at place 9, whatever its parts.
func two(sign string, l ...api.Node) api.Node {
	return api.Node{Kind: api.NBin, Text: sign, L: l, At: 9}
}

// one is a sign of one at place 9, whatever its parts.
func one(sign string, l ...api.Node) api.Node {
	return api.Node{Kind: api.NUn, Text: sign, L: l, At: 9}
}

func told(v api.Value) api.Node { return api.Node{Kind: api.NNumber, V: v, At: 9} }

// alike: lists without members may be nil or empty.
func alike(a, b api.Node) bool {
	same := slices.EqualFunc(a.L, b.L, alike)
	a.L, b.L = nil, nil
	return same && reflect.DeepEqual(a, b)
}

func checkFold(t *testing.T, n, want api.Node) {
	t.Helper()
	if got := code.Fold(n); !alike(got, want) {
		t.Errorf("Fold(%v) = %v; want %v", n, got, want)
	}
	checkFolded(t, n)
}

// stays: a tree in which there is nothing to be reckoned.
func stays(t *testing.T, l ...api.Node) {
	t.Helper()
	for _, n := range l {
		checkFold(t, n, n)
	}
}

func TestP10_1Reckoned(t *testing.T) {
	const least = -1 << 63
	for _, r := range []struct{ n, want api.Node }{
		{two("+", number(1), number(2)), told(num.Int(3))}, {two("-", number(1), number(2)), told(num.Int(-1))}, {two("*", number(3), number(-2)), told(num.Int(-6))}, {two("/", number(1), number(2)), told(num.Float(0.5))}, {two("//", number(-7), number(2)), told(num.Int(-4))}, {two("%", number(-7), number(2)), told(num.Int(1))},
		{two("+", number(1), float(0.5)), told(num.Float(1.5))}, {two("-", float(1), number(1)), told(num.Float(0))}, {two("*", float(2), float(0.5)), told(num.Float(1))}, {two("//", float(7), number(2)), told(num.Int(3))}, {two("%", number(7), float(4)), told(num.Int(3))}, {two("/", number(0), float(1)), told(num.Float(0))},
		{one("-", number(5)), told(num.Int(-5))}, {one("-", number(-5)), told(num.Int(5))}, {one("-", float(1.5)), told(num.Float(-1.5))}, {one("-", float(0)), told(api.Value{T: api.TFloat, N: least})}, {one("-", number(0)), told(num.Int(0))},
		{two("+", told(num.Int(1<<63-1)), number(1)), told(num.Int(least))}, {one("-", told(num.Int(least))), told(num.Int(least))}, {two("//", told(num.Int(least)), number(-1)), told(num.Int(least))},
	} {
		checkFold(t, r.n, r.want)
	}
	v, _ := num.Op(num.Div, num.Int(1), num.Int(0))
	checkFold(t, two("/", number(1), number(0)), told(v))
	v, _ = num.Op(num.Div, num.Int(0), num.Int(0))
	checkFold(t, two("/", number(0), number(0)), told(v))
	if v != (api.Value{T: api.TFloat, N: 0x7ff8000000000001}) {
		t.Error(v)
	}
}

// TestP10_1Refused: what num.Op or num.Neg says is an error.
func TestP10_1Refused(t *testing.T) {
	text := api.Node{Kind: api.NNumber, V: api.Value{T: api.TStr, N: 1}}
	none := api.Node{Kind: api.NNumber}
	nan := api.Node{Kind: api.NNumber, V: api.Value{T: api.TFloat, N: 0x7ff8000000000000}}
	stays(t,
		two("//", number(1), number(0)), two("%", number(1), number(0)), two("//", number(1), float(0)), two("%", float(2.5), number(1)), two("//", number(1), float(0.5)),
		two("+", text, number(1)), two("*", number(1), none), two("/", nan, number(1)), one("-", text), one("-", none), one("-", nan),
	)
	v, _ := num.Op(num.Mod, num.Int(1), num.Int(0))
	if v != (api.Value{}) {
		t.Error(v)
	}
}

// TestP10_1Stays: signs that are not reckoned ahead, parts that are no numbers.
func TestP10_1Stays(t *testing.T) {
	a := api.Node{Kind: api.NName, Text: "a", At: 3}
	s := api.Node{Kind: api.NText, Text: "1", V: num.Int(1)}
	for _, sign := range []string{"..", "==", "~=", "<", "<=", ">", ">=", "and", "or", "", "++", "not", "#", "+ ", "&"} {
		stays(t, two(sign, number(1), number(2)))
	}
	for _, sign := range []string{"not", "#", "+", "", "--", "//"} {
		stays(t, one(sign, number(1)))
	}
	for _, sign := range []string{"+", "-", "*", "/", "//", "%"} {
		stays(t, two(sign, a, number(1)), two(sign, number(1), a), two(sign, s, number(1)), two(sign, number(1), s), two(sign, a, a))
	}
	stays(t, one("-", a), one("-", s), number(1), a, s, api.Node{}, api.Node{Kind: api.NNil}, api.Node{Kind: api.NTrue, V: num.Int(1)})
}

// TestP10_1AnyTree: trees such as no source has.
func TestP10_1AnyTree(t *testing.T) {
	sum := two("+", number(1), number(2))
	three := told(num.Int(3))
	stays(t,
		two("+"), two("+", number(1)), two("+", number(1), number(2), number(3)), one("-"), one("-", number(1), number(2)),
		api.Node{Kind: api.NIndex, Text: "+", L: []api.Node{number(1), number(2)}}, api.Node{Kind: api.NCall, Text: "-", L: []api.Node{number(1)}}, api.Node{Kind: 0, Text: "+", L: []api.Node{number(1), number(2)}}, api.Node{Kind: api.NNumber, Text: "+", L: []api.Node{number(1), number(2)}},
		api.Node{Kind: -1}, api.Node{Kind: 99, Text: "a", V: num.Int(1), Count: -5, At: -7},
	)
	for _, kind := range []int{-1, 0, api.NNil, api.NNumber, api.NText, api.NName, api.NFunc, api.NIndex, api.NCall, api.NTable, api.NItem, api.NPair, api.NBlock, api.NLocal, api.NAssign, api.NDo, api.NIf, api.NWhile, api.NFor, api.NReturn, api.NBreak, api.NLocalFunc, api.NGroup, 15, 31, 1 << 40} {
		n := api.Node{Kind: kind, Text: "t", V: num.Int(6), Count: 3, At: 5, L: []api.Node{number(1), sum, {Kind: kind, L: []api.Node{sum, sum}}}}
		want := api.Node{Kind: kind, Text: "t", V: num.Int(6), Count: 3, At: 5, L: []api.Node{number(1), three, {Kind: kind, L: []api.Node{three, three}}}}
		checkFold(t, n, want)
	}
	checkFold(t, two("+", sum, number(1), sum), two("+", three, number(1), three))
	checkFold(t, one("-", sum, sum), one("-", three, three))
	checkFold(t, two("..", sum, one("-", sum)), two("..", three, told(num.Int(-3))))
	checkFold(t, two("//", sum, two("-", number(1), number(1))), two("//", three, told(num.Int(0))))
}

// TestP10_1Within: from the leaves on, so that what is reckoned is reckoned with; and each number has the place of what it was made of, and nothing else of it.
func TestP10_1Within(t *testing.T) {
	n := two("*", two("+", number(1), number(2)), one("-", two("-", number(3), number(5))))
	checkFold(t, n, told(num.Int(6)))
	n.At, n.Count, n.V, n.L[0].Count = -4, 8, num.Int(9), 7
	n.L[0].L[0].Text, n.L[0].L[0].Count, n.L[0].L[0].L = "x", 5, []api.Node{number(4), number(5)}
	checkFold(t, n, api.Node{Kind: api.NNumber, V: num.Int(6), At: -4})
	checkFold(t, one("not", one("-", one("-", number(4)))), one("not", told(num.Int(4))))
	a := api.Node{Kind: api.NName, Text: "a"}
	checkFold(t, two("+", two("+", a, number(1)), number(2)), two("+", two("+", a, number(1)), number(2)))
	checkFold(t, two("+", two("+", number(1), number(2)), a), two("+", told(num.Int(3)), a))
}

// TestP10_1Sources: trees of sources, folded and printed.
func TestP10_1Sources(t *testing.T) {
	for src, want := range map[string]string{
		"a = 1 + 2 * 3":                                              "a = 7 ;",
		"a = a + 2 * 3 - 1":                                          "a = ( ( a + 6 ) - 1 ) ;",
		"a = 1 // 0 + 1":                                             "a = ( ( 1 // 0 ) + 1 ) ;",
		"return 1 < 1 + 1, not (2 - 2), # - 1":                       "return ( 1 < 2 ) , ( not 0 ) , ( # -1 ) ;",
		"return {1 + 1, [2 * 2] = 3 - 3}":                            "return { 2 , [ 4 ] = 0 } ;",
		"f(1 + 1)[2 + 2].x = function() return 1 + 1 end":            "f ( 2 ) [ 4 ] [ \"x\" ] = function ( ) return 2 ; end ;",
		"local a, b = 1 + 1, b":                                      "local a , b = 2 , b ;",
		"for i = 1 + 1, 2 % 2, - 1 do f(5 // 2) end":                 "for i = 2 , 0 , -1 do f ( 2 ) ; end ;",
		"if 1 + 1 then a = 1 + 1 elseif 2 + 2 then else a = - 2 end": "if 2 then a = 2 ; elseif 4 then else a = -2 ; end ;",
		"while 1 / 2 do break end":                                   "while 0f3fe0000000000000 do break ; end ;",
		"return 1 .. 2 .. 3 + 4":                                     "return ( 1 .. ( 2 .. 7 ) ) ;",
	} {
		n, _, err := parse.Parse(src)
		if got := parse.Print(code.Fold(n)); err != api.OK || got != want {
			t.Errorf("Fold of %q prints as %q, %v; want %q", src, got, err, want)
		}
		checkFolded(t, n)
	}
}

// TestP10_1Memory: what is handed in stays as it was, and shares nothing with what is handed out.
func TestP10_1Memory(t *testing.T) {
	make1 := func() api.Node {
		return api.Node{Kind: api.NReturn, L: []api.Node{two("+", number(1), number(2)), {Kind: api.NTable, L: []api.Node{{Kind: api.NItem, L: []api.Node{two("-", number(1), number(2))}}}}}}
	}
	n := make1()
	got := code.Fold(n)
	if !reflect.DeepEqual(n, make1()) {
		t.Error(n)
	}
	got.L[0].V, got.L[1].L[0].Kind, got.L[1].L[0].L[0].V = num.Int(8), 7, num.Int(9)
	if !reflect.DeepEqual(n, make1()) {
		t.Error(n)
	}
	whole := []api.Node{number(1), number(2), number(3)}
	got = code.Fold(api.Node{Kind: api.NTable, L: whole[:2]})
	got.L = append(got.L, number(7))
	got.L[0] = number(8)
	if whole[2].V != num.Int(3) || whole[0].V != num.Int(1) {
		t.Error(whole)
	}
}

// TestP10_1Deep: parts within one another, and beside one another, in great numbers.
func TestP10_1Deep(t *testing.T) {
	n, left := number(1), number(0)
	for range 1<<16 - 1 {
		n = one("-", n)
		left = two("+", left, number(1))
	}
	if got := code.Fold(n); !alike(got, told(num.Int(-1))) {
		t.Error(got)
	}
	if got := code.Fold(left); !alike(got, told(num.Int(1<<16-1))) {
		t.Error(got)
	}
	wide := api.Node{Kind: api.NTable}
	for range 50000 {
		wide.L = append(wide.L, two("*", number(2), number(3)))
	}
	got := code.Fold(wide)
	if len(got.L) != 50000 || slices.ContainsFunc(got.L, func(n api.Node) bool { return !alike(n, told(num.Int(6))) }) {
		t.Error(len(got.L))
	}
}

package parse_test

import (
	"math"
	"strings"
	"testing"

	"heirloom/api"
	"heirloom/num"
	"heirloom/parse"
)

// Trees, written short; places are left out.
func node(kind int, l ...api.Node) api.Node { return api.Node{Kind: kind, L: l} }

func name(s string) api.Node { return api.Node{Kind: api.NName, Text: s} }

func quoted(s string) api.Node { return api.Node{Kind: api.NText, Text: s} }

func number(v api.Value) api.Node { return api.Node{Kind: api.NNumber, V: v} }

func whole(n int64) api.Node { return number(num.Int(n)) }

func bin(sign string, l ...api.Node) api.Node { return api.Node{Kind: api.NBin, Text: sign, L: l} }

func un(sign string, l ...api.Node) api.Node { return api.Node{Kind: api.NUn, Text: sign, L: l} }

func counted(kind, count int, l ...api.Node) api.Node {
	return api.Node{Kind: kind, Count: count, L: l}
}

func block(l ...api.Node) api.Node { return node(api.NBlock, l...) }

// printed is a tree, and its text.
type printed struct {
	n    api.Node
	want string
}

func checkPrints(t *testing.T, rows []printed) {
	t.Helper()
	for _, r := range rows {
		ahead := told(r.n)
		if got := parse.Print(r.n); got != r.want {
			t.Errorf("Print(%s) = %q; want %q", ahead, got, r.want)
		}
		if told(r.n) != ahead {
			t.Errorf("Print changed %s to %s", ahead, told(r.n))
		}
	}
}

// TestP8_2Sources: sources, and how they are printed.
func TestP8_2Sources(t *testing.T) {
	for _, r := range []row{
		{"a = 1 + 2 * 3", "a = ( 1 + ( 2 * 3 ) ) ;"},
		{"a=b..c..d", "a = ( b .. ( c .. d ) ) ;"},
		{"", ""},
		{";;", ""},
		{"break", "break ;"},
		{"break;;break", "break ; break ;"},
		{"return", "return ;"},
		{"return;", "return ;"},
		{"return 1,2", "return 1 , 2 ;"},
		{"local a", "local a ;"},
		{"local a,b", "local a , b ;"},
		{"local a,b=1,2,3", "local a , b = 1 , 2 , 3 ;"},
		{"local function f() end", "local function f ( ) end ;"},
		{"local function f(a,b) return a end", "local function f ( a , b ) return a ; end ;"},
		{"function f(a) f(a) end", "f = function ( a ) f ( a ) ; end ;"},
		{"a,b.c,d[1]=1,2", `a , b [ "c" ] , d [ 1 ] = 1 , 2 ;`},
		{"f()", "f ( ) ;"},
		{"f(1,a)(2).b[3]()", `f ( 1 , a ) ( 2 ) [ "b" ] [ 3 ] ( ) ;`},
		{"(f)()", "f ( ) ;"},
		{"if a then end", "if a then end ;"},
		{"if a then break elseif b then f() else return end", "if a then break ; elseif b then f ( ) ; else return ; end ;"},
		{"while a do break end", "while a do break ; end ;"},
		{"for i=1,2 do end", "for i = 1 , 2 do end ;"},
		{"for i=1,2,3 do f(i) end", "for i = 1 , 2 , 3 do f ( i ) ; end ;"},
		{"do end", "do end ;"},
		{"do do break end end", "do do break ; end ; end ;"},
		{"return nil,true,false", "return nil , true , false ;"},
		{`return "a","\x22\x0a",""`, `return "a" , "\x22\x0a" , "" ;`},
		{"return 1.0,0,007", "return 0f3ff0000000000000 , 0 , 7 ;"},
		{"return -1,- -a,not a,#a", "return ( - 1 ) , ( - ( - a ) ) , ( not a ) , ( # a ) ;"},
		{"return (a+b)*c", "return ( ( a + b ) * c ) ;"},
		{"return {}", "return { } ;"},
		{"return {1,a=2,[b]=3,}", `return { 1 , [ "a" ] = 2 , [ b ] = 3 } ;`},
		{"return function() end", "return function ( ) end ;"},
		{"return function(a,b) break end", "return function ( a , b ) break ; end ;"},
		{"(function() end)()", "( function ( ) end ) ( ) ;"},
		{`return ("a").b`, `return ( "a" ) [ "b" ] ;`},
		{"return ({})[1]", "return ( { } ) [ 1 ] ;"},
		{"return (nil)(1)", "return ( nil ) ( 1 ) ;"},
		{"return (1)[2],(true).a,(false)()", `return ( 1 ) [ 2 ] , ( true ) [ "a" ] , ( false ) ( ) ;`},
		{"return (a+b).c", `return ( ( a + b ) ) [ "c" ] ;`},
		{"return (-a)(b)", "return ( ( - a ) ) ( b ) ;"},
		{"return (a.b).c,(f())()", `return a [ "b" ] [ "c" ] , f ( ) ( ) ;`},
	} {
		n := tree(t, r.src)
		if got := parse.Print(n); got != r.want {
			t.Errorf("Print of %q = %q; want %q", r.src, got, r.want)
		}
	}
}

func TestP8_2Signs(t *testing.T) {
	a, b := name("a"), name("b")
	for _, s := range signsOfTwo() {
		checkPrints(t, []printed{
			{bin(s, a, b), "( a " + s + " b )"},
			{bin(s, bin(s, a, b), bin(s, b, a)), "( ( a " + s + " b ) " + s + " ( b " + s + " a ) )"},
			{node(api.NCall, bin(s, a, b)), "( ( a " + s + " b ) ) ( )"},
		})
	}
	for _, s := range signsOfOne() {
		checkPrints(t, []printed{
			{un(s, a), "( " + s + " a )"},
			{un(s, un(s, a)), "( " + s + " ( " + s + " a ) )"},
			{node(api.NIndex, un(s, a), b), "( ( " + s + " a ) ) [ b ]"},
		})
	}
}

func TestP8_2Leaves(t *testing.T) {
	checkPrints(t, []printed{
		{node(api.NNil), "nil"}, {node(api.NTrue), "true"}, {node(api.NFalse), "false"}, {node(api.NBreak), "break"},
		{name("a_1"), "a_1"}, {quoted(""), `""`}, {quoted("a b"), `"a b"`}, {quoted("\x00\xff\""), `"\x00\xff\x22"`}, {quoted(strings.Repeat("x", 5000)), `"` + strings.Repeat("x", 5000) + `"`},
		{whole(0), "0"}, {whole(-5), "-5"}, {whole(math.MaxInt64), "9223372036854775807"}, {whole(math.MinInt64), "-9223372036854775808"},
		{number(num.Float(-2)), "0fc000000000000000"}, {number(num.Float(math.NaN())), "0f7ff8000000000001"},
	})
}

// TestP8_2EachKindAlone: a tree need not be a block.
func TestP8_2EachKindAlone(t *testing.T) {
	a, b, one := name("a"), name("b"), whole(1)
	body := block(node(api.NBreak))
	checkPrints(t, []printed{
		{node(api.NFunc, body), "function ( ) break ; end"},
		{node(api.NFunc, a, b, block()), "function ( a , b ) end"},
		{node(api.NIndex, a, quoted("b")), `a [ "b" ]`},
		{node(api.NIndex, node(api.NIndex, a, b), one), "a [ b ] [ 1 ]"},
		{node(api.NCall, a), "a ( )"},
		{node(api.NCall, node(api.NCall, a, b), one, b), "a ( b ) ( 1 , b )"},
		{node(api.NCall, node(api.NFunc, block())), "( function ( ) end ) ( )"},
		{node(api.NTable), "{ }"},
		{node(api.NTable, node(api.NItem, one), node(api.NPair, a, b)), "{ 1 , [ a ] = b }"},
		{node(api.NItem, one), "1"},
		{node(api.NPair, quoted("x"), one), `[ "x" ] = 1`},
		{block(), ""},
		{block(node(api.NBreak), node(api.NReturn, a)), "break ; return a ;"},
		{counted(api.NLocal, 1, a), "local a"},
		{counted(api.NLocal, 2, a, b, one), "local a , b = 1"},
		{counted(api.NLocal, 1, a, b, one), "local a = b , 1"},
		{counted(api.NAssign, 1, a, one), "a = 1"},
		{counted(api.NAssign, 2, a, node(api.NIndex, a, b), one, b), "a , a [ b ] = 1 , b"},
		{node(api.NDo, node(api.NCall, a)), "a ( )"},
		{node(api.NIf, a, body), "if a then break ; end"},
		{node(api.NIf, a, body, body), "if a then break ; else break ; end"},
		{node(api.NIf, a, block(), b, body, one, block(), body), "if a then elseif b then break ; elseif 1 then else break ; end"},
		{node(api.NWhile, a, body), "while a do break ; end"},
		{node(api.NFor, a, one, b, body), "for a = 1 , b do break ; end"},
		{node(api.NFor, a, one, b, one, body), "for a = 1 , b , 1 do break ; end"},
		{node(api.NReturn), "return"},
		{node(api.NReturn, a, b), "return a , b"},
		{node(api.NLocalFunc, a, node(api.NFunc, b, body)), "local function a ( b ) break ; end"},
		{node(api.NGroup, body), "do break ; end"},
		{block(block(node(api.NBreak))), "break ; ;"},
	})
}

// TestP8_2NoSuchKind: nothing for it; what stands around it is printed all the same.
func TestP8_2NoSuchKind(t *testing.T) {
	a := name("a")
	for _, kind := range []int{0, -1, 15, 16, 17, 18, 19, 31, 32, 99, 1 << 40, -1 << 63, math.MaxInt} {
		bad := api.Node{Kind: kind, Text: "x", V: num.Int(1), Count: 1, L: []api.Node{a, a}}
		checkPrints(t, []printed{
			{api.Node{Kind: kind}, ""}, {bad, ""},
			{bin("+", a, bad), "( a + )"}, {bin("+", bad, a), "( + a )"}, {un("-", bad), "( - )"},
			{node(api.NCall, a, bad, a), "a ( , a )"}, {node(api.NReturn, bad), "return"}, {node(api.NIndex, a, bad), "a [ ]"}, {node(api.NIndex, bad, a), "( ) [ a ]"},
			{block(bad, node(api.NBreak)), "; break ;"}, {node(api.NWhile, bad, block()), "while do end"}, {counted(api.NAssign, 1, a, bad), "a ="},
			{node(api.NTable, bad), "{ }"}, {node(api.NItem, bad), ""},
		})
	}
}

// TestP8_2PartsLacking: nothing for a tree that has not the parts that its kind needs; what stands around it is printed all the same.
func TestP8_2PartsLacking(t *testing.T) {
	a, one, body := name("a"), whole(1), block()
	f, call := node(api.NFunc, body), node(api.NCall, a)
	bad := []api.Node{
		node(api.NFunc), node(api.NFunc, a), node(api.NFunc, body, a), node(api.NFunc, one, body), node(api.NFunc, a, one), node(api.NFunc, body, body),
		bin("+"), bin("+", a), un("-"), node(api.NIndex), node(api.NIndex, a), node(api.NCall), node(api.NItem), node(api.NPair), node(api.NPair, a),
		number(api.Value{}), number(api.Value{T: api.TStr, N: 1}), number(api.Value{T: api.TFloat, N: 0x7ff8000000000002}),
		counted(api.NLocal, 0), counted(api.NLocal, 1), counted(api.NLocal, 0, a), counted(api.NLocal, -1, a), counted(api.NLocal, 2, a), counted(api.NLocal, 1, one), counted(api.NLocal, 2, a, one), counted(api.NLocal, math.MaxInt, a), counted(api.NLocal, math.MinInt, a),
		counted(api.NAssign, 0), counted(api.NAssign, 1), counted(api.NAssign, 0, a), counted(api.NAssign, 0, a, one), counted(api.NAssign, 1, a), counted(api.NAssign, 2, a, a), counted(api.NAssign, 3, a, a), counted(api.NAssign, -1, a, one), counted(api.NAssign, 1, one, one),
		counted(api.NAssign, 1, call, one), counted(api.NAssign, math.MaxInt, a, one), counted(api.NAssign, math.MinInt, a, one),
		node(api.NDo), node(api.NDo, a), node(api.NDo, f), node(api.NIf), node(api.NIf, a), node(api.NIf, body), node(api.NIf, a, a), node(api.NIf, a, body, a), node(api.NIf, a, body, a, a), node(api.NIf, a, body, a, body, a), node(api.NIf, a, a, body),
		node(api.NWhile), node(api.NWhile, a), node(api.NWhile, body), node(api.NWhile, a, a),
		node(api.NFor), node(api.NFor, a), node(api.NFor, a, one), node(api.NFor, a, one, one), node(api.NFor, a, one, body), node(api.NFor, a, one, one, one), node(api.NFor, one, one, one, body), node(api.NFor, a, one, one, one, one),
		node(api.NLocalFunc), node(api.NLocalFunc, a), node(api.NLocalFunc, f), node(api.NLocalFunc, a, body), node(api.NLocalFunc, a, a), node(api.NLocalFunc, f, a), node(api.NLocalFunc, one, f), node(api.NGroup), node(api.NGroup, a),
	}
	checkNothing(t, bad)
	checkPrints(t, []printed{
		{node(api.NLocalFunc, a, node(api.NFunc)), "local function a"},
		{node(api.NDo, node(api.NCall)), ""},
		{name(""), ""},
		{bin("", a, a), "( a a )"},
		{counted(api.NLocal, 1, name("")), "local"},
	})
}

// TestP8_2PartsTooMany: they are not those that the kind needs, either; of a kind that needs none they are passed over.
func TestP8_2PartsTooMany(t *testing.T) {
	a, one, body := name("a"), whole(1), block()
	f, call := node(api.NFunc, body), node(api.NCall, a)
	checkNothing(t, []api.Node{
		bin("+", a, a, a), un("-", a, a), node(api.NIndex, a, a, a), node(api.NItem, a, a), node(api.NPair, a, a, a), node(api.NDo, call, call), node(api.NWhile, a, body, body), node(api.NWhile, a, body, a),
		node(api.NFor, a, one, one, one, one, body), node(api.NFor, a, one, one, body, body, body), node(api.NLocalFunc, a, f, f), node(api.NGroup, body, body), node(api.NGroup, body, a), node(api.NIf, a, body, body, body, a),
	})
	checkPrints(t, []printed{
		{node(api.NNil, a), "nil"}, {node(api.NTrue, a), "true"}, {node(api.NFalse, a), "false"}, {node(api.NBreak, a, a), "break"},
		{api.Node{Kind: api.NName, Text: "x", L: []api.Node{a}}, "x"}, {api.Node{Kind: api.NText, Text: "x", L: []api.Node{a}}, `"x"`}, {api.Node{Kind: api.NNumber, V: num.Int(3), L: []api.Node{a}}, "3"},
		{api.Node{Kind: api.NNil, Text: "x", V: num.Int(3), Count: 9, At: -7}, "nil"},
	})
}

// checkNothing: nothing is printed for each of the trees, alone, and within others.
func checkNothing(t *testing.T, bad []api.Node) {
	t.Helper()
	a := name("a")
	for _, n := range bad {
		checkPrints(t, []printed{
			{n, ""}, {block(n), ";"}, {block(node(api.NBreak), n, node(api.NBreak)), "break ; ; break ;"}, {node(api.NReturn, a, n), "return a ,"}, {bin("+", n, n), "( + )"},
			{node(api.NItem, n), ""}, {node(api.NGroup, block(n)), "do ; end"},
		})
	}
}

// TestP8DeepTrees: trees that no source has, as deep as the document's limits let them be.
func TestP8DeepTrees(t *testing.T) {
	const depth = 1<<16 - 2
	leaf := name("a")
	ways := []struct {
		wrap      func(n api.Node) api.Node
		open, end string
		nodes     int
	}{
		{func(n api.Node) api.Node { return un("-", n) }, "( - ", " )", 1},
		{func(n api.Node) api.Node { return bin("+", n, leaf) }, "( ", " + a )", 2},
		{func(n api.Node) api.Node { return bin("+", leaf, n) }, "( a + ", " )", 2},
		{func(n api.Node) api.Node { return node(api.NCall, leaf, n) }, "a ( ", " )", 2},
		{func(n api.Node) api.Node { return node(api.NIndex, n, leaf) }, "", " [ a ]", 2},
		{func(n api.Node) api.Node { return node(api.NItem, n) }, "", "", 1},
		{func(n api.Node) api.Node { return block(n) }, "", " ;", 1},
	}
	for _, w := range ways {
		n, other, less := leaf, name("b"), leaf
		for i := range depth {
			n, other = w.wrap(n), w.wrap(other)
			if i > 0 {
				less = w.wrap(less)
			}
		}
		if s := parse.Print(n); s != strings.Repeat(w.open, depth)+"a"+strings.Repeat(w.end, depth) {
			t.Errorf("Print of a deep tree with %q has %d bytes", w.open, len(s))
		}
		if !parse.Same(n, n) || parse.Same(n, other) || parse.Same(n, less) || parse.Same(less, n) {
			t.Errorf("Same of deep trees with %q", w.open)
		}
		if s := parse.Size(n); s != 1+w.nodes*depth {
			t.Errorf("Size of a deep tree with %q = %d", w.open, s)
		}
	}
}

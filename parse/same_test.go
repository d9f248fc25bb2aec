package parse_test

import (
	"testing"

	"heirloom/api"
	"heirloom/num"
	"heirloom/parse"
)

// same holds Same both ways.
func same(t *testing.T, a, b api.Node) bool {
	t.Helper()
	is := parse.Same(a, b)
	if parse.Same(b, a) != is {
		t.Errorf("Same(%s, %s) is not the same both ways", told(a), told(b))
	}
	return is
}

// changed are trees that are like n but for one field of one node.
func changed(n api.Node) []api.Node {
	var l []api.Node
	c := n
	c.Kind++
	l = append(l, c)
	c = n
	c.Text += "x"
	l = append(l, c)
	c = n
	c.V.N++
	l = append(l, c)
	c = n
	c.V.T++
	l = append(l, c)
	c = n
	c.Count--
	l = append(l, c)
	c = n
	c.L = append(c.L[:len(c.L):len(c.L)], api.Node{})
	l = append(l, c)
	if len(n.L) > 0 {
		c = n
		c.L = n.L[1:]
		l = append(l, c)
		c = n
		c.L = n.L[:len(n.L)-1]
		l = append(l, c)
	}
	for i := range n.L {
		for _, part := range changed(n.L[i]) {
			c = n
			c.L = append([]api.Node{}, n.L...)
			c.L[i] = part
			l = append(l, c)
		}
	}
	return l
}

// moved is n with all places changed.
func moved(n api.Node, by int) api.Node {
	n.At += by
	l := make([]api.Node, 0, len(n.L)+3)
	for _, part := range n.L {
		l = append(l, moved(part, by*3+1))
	}
	n.L = l
	return n
}

const manyForms = `local a, b = 1.5, "x" ; function f(c, d) if a then return c.d[1](2, nil), -d elseif b then break else f() end end
for i = 1, #a, 3 do a[i], b = {true, x = false, [i] = not b}, function() end end while a == b do do end end local function g() end ; (g)(a .. b .. 1 + 2)`

func TestP8_3Same(t *testing.T) {
	n := tree(t, manyForms)
	if !same(t, n, n) || !same(t, n, moved(n, 5)) || !same(t, n, tree(t, "-- b\n"+manyForms)) || !same(t, moved(n, -9), moved(n, 7)) {
		t.Error("places make trees unlike")
	}
	l := changed(n)
	if len(l) < 500 {
		t.Fatal(len(l))
	}
	for _, c := range l {
		if same(t, n, c) || same(t, moved(n, 1), c) || !same(t, c, c) || !same(t, c, moved(c, 2)) {
			t.Fatalf("Same(%s, %s)", told(n), told(c))
		}
	}
}

func TestP8_3SameOfOddTrees(t *testing.T) {
	zero := api.Node{}
	for _, n := range []api.Node{
		zero, {Kind: -1}, {Kind: 99}, {Text: "x"}, {V: num.Int(1)}, {Count: -1}, node(0, zero), node(99, zero, zero), node(api.NBin, zero, zero, zero), counted(api.NLocal, 5), {Kind: api.NNumber, V: api.Value{T: 77, N: 3}},
	} {
		at := n
		at.At = 1 << 40
		if !same(t, n, n) || !same(t, n, at) {
			t.Errorf("Same(%s, itself) = false", told(n))
		}
		for _, c := range changed(n) {
			if same(t, n, c) {
				t.Errorf("Same(%s, %s) = true", told(n), told(c))
			}
		}
	}
	if !same(t, api.Node{Kind: api.NBlock}, api.Node{Kind: api.NBlock, L: []api.Node{}}) {
		t.Error("a list without members is unlike one that is nil")
	}
	if same(t, whole(1), number(num.Float(1))) || !same(t, number(num.Float(1)), number(num.Float(1))) {
		t.Error("numbers are alike by type and number")
	}
	if !same(t, tree(t, "a.b = {c = 1}"), tree(t, `a["b"] = {["c"] = 1}`)) || !same(t, tree(t, "function f() end"), tree(t, "f = function() end")) {
		t.Error("two ways to write a tree are unlike")
	}
	if same(t, tree(t, "local function f() end"), tree(t, "local f = function() end")) || same(t, tree(t, "a, b = 1"), tree(t, "a = b, 1")) || same(t, tree(t, "a = {b}"), tree(t, "a = {b = b}")) {
		t.Error("unlike trees are alike")
	}
}

func TestP8_3Size(t *testing.T) {
	for _, r := range []struct {
		src  string
		want int
	}{
		{"", 1}, {";;", 1}, {"break", 2}, {"break break", 3}, {"return", 2}, {"return 1, 2", 4}, {"a = 1 + 2 * 3", 8}, {"a = ((1))", 4}, {"f()", 4}, {"f(1)(2)", 7}, {"a.b = 1", 6}, {"local a, b", 4},
		{"local function f(a) end", 6}, {"function f() end", 5}, {"if a then else end", 5}, {"for i = 1, 2 do end", 6}, {"return {1, a = 2}", 8}, {"do end", 3}, {"return - - 1", 5}, {"while a do end", 4},
	} {
		if s := parse.Size(tree(t, r.src)); s != r.want {
			t.Errorf("Size of %q = %d; want %d", r.src, s, r.want)
		}
	}
	zero := api.Node{}
	for want, n := range []api.Node{1: zero, 2: node(99, zero), 3: node(-5, zero, zero), 4: node(api.NNil, node(api.NNil, zero), zero), 5: block(zero, zero, node(0, zero))} {
		if want > 0 && parse.Size(n) != want {
			t.Errorf("Size(%s) = %d", told(n), parse.Size(n))
		}
	}
	wide := block(make([]api.Node, 100000)...)
	if s := parse.Size(wide); s != 100001 {
		t.Errorf("Size of a wide tree = %d", s)
	}
}

// TestP8TreesAreTheCallers: what Parse tells shares nothing with what it tells elsewhere, nor one list of it with another.
func TestP8TreesAreTheCallers(t *testing.T) {
	n, other := tree(t, manyForms), tree(t, manyForms)
	want := told(n)
	grow(n)
	if told(n) != want {
		t.Error("two lists of a tree share memory")
	}
	spoil(n)
	if told(other) != want || told(tree(t, manyForms)) != want {
		t.Error("two trees share memory")
	}
}

// grow writes behind the end of each list.
func grow(n api.Node) {
	_ = append(n.L, api.Node{Kind: 77}, api.Node{Kind: 78})
	for _, part := range n.L {
		grow(part)
	}
}

func spoil(n api.Node) {
	for i := range n.L {
		spoil(n.L[i])
		n.L[i] = api.Node{Kind: 77}
	}
}

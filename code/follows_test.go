package code_test

import (
	"math/rand"
	"reflect"
	"slices"
	"strings"
	"testing"

	"heirloom/api"
	"heirloom/code"
	"heirloom/num"
	"heirloom/parse"
	"heirloom/scope"
)

// checkFollows holds a source and its program against P10.4, P10.5 and P10.6.
func checkFollows(t *testing.T, src string, p api.Program) {
	t.Helper()
	if !code.Right(p) {
		t.Fatalf("Compile(%q) is not right:\n%s", src, listings(p))
	}
	tree, _, err := parse.Parse(src)
	if err != api.OK {
		t.Fatalf("Parse(%q): %v", src, err)
	}
	checkFolded(t, tree)
	checkRenamed(t, src, p)
}

// checkFolded: P10.5.
func checkFolded(t *testing.T, n api.Node) {
	t.Helper()
	once := code.Fold(n)
	if twice := code.Fold(once); !reflect.DeepEqual(once, twice) {
		t.Fatalf("Fold of Fold of %v = %v; Fold is %v", n, twice, once)
	}
	if parse.Size(once) > parse.Size(n) {
		t.Fatalf("Fold of %v is greater: %v", n, once)
	}
}

// checkRenamed: P10.6, where what is renamed can be parsed.
func checkRenamed(t *testing.T, src string, p api.Program) {
	t.Helper()
	renamed, err := scope.Rename(src)
	if err != api.OK {
		t.Fatalf("Rename(%q): %v", src, err)
	}
	if _, _, err = parse.Parse(renamed); err != api.OK {
		return
	}
	again, at, err := code.Compile(renamed)
	if err != api.OK || at != 0 || spelt(again, "") != spelt(p, "g") {
		t.Fatalf("Compile(%q):\n%s\n%d, %v; that of %q:\n%s", renamed, spelt(again, ""), at, err, src, spelt(p, "g"))
	}
}

// spelt tells a program with what its constants say in place of their numbers, since a global and a text that are alike are one constant, but are none when the global has another name; ahead of each global's text stands what is handed in.
func spelt(p api.Program, ahead string) string {
	var out []string
	for _, f := range p.Protos {
		f.Code = slices.Clone(f.Code)
		var names []string
		for i, ins := range f.Code {
			switch ins.Op {
			case api.IConst:
				names = append(names, constText(f.Consts[ins.B]))
				f.Code[i].B = 0
			case api.IGetGlobal:
				names = append(names, ahead+f.Consts[ins.B].S)
				f.Code[i].B = 0
			case api.ISetGlobal:
				names = append(names, ahead+f.Consts[ins.A].S)
				f.Code[i].A = 0
			}
		}
		f.Consts = nil
		out = append(out, listing(f)+"; "+strings.Join(names, " "))
	}
	return strings.Join(out, "\n")
}

// TestP10_4Right: what Compile tells is right, at the limits too.
func TestP10_4Right(t *testing.T) {
	for _, src := range []string{
		"", "return", "local a return", "local a, b, c return", "for i = 1, 2 do end", "for i = 1, 2 do return end", "while a do break end", "if a then else end", "return a and b", "local function f() return f end", "local a, b, c, d = f()", "a, b, c, d = f()", "a.b, c.d, e = f()",
		"return function(a, b, c) end", "local a return function() return function() return function() a = 1 end end end", "local a do local b, c, d f(function() return d end) end", "for i = 1, 2 do for j = 1, 2 do f(function() return i + j end) end end", "while a do if b then break end end",
		locals(60) + "f(" + strings.Repeat("1,", 58) + "1)", "return " + strings.Repeat("1,", 119) + "1", strings.Repeat("for i = 1, 2 do ", 30) + "return" + strings.Repeat(" end", 30), strings.Repeat("x,", 119) + "x = f()",
	} {
		if p := compiled(t, src); !code.Right(p) {
			t.Errorf("Compile(%q) is not right:\n%s", src, listings(p))
		}
	}
}

// anyTree is a tree of any kinds, signs and numbers of parts, many of them such that something is reckoned.
func anyTree(r *rand.Rand, left int) api.Node {
	n := api.Node{Kind: r.Intn(33) - 1, Text: []string{"+", "-", "*", "/", "//", "%", "..", "not", ""}[r.Intn(9)], Count: r.Intn(3) - 1, At: r.Intn(9), V: []api.Value{num.Int(0), num.Int(3), num.Float(0.5), num.Float(2), {}, {T: api.TStr}}[r.Intn(6)]}
	if r.Intn(3) > 0 {
		n.Kind = []int{api.NNumber, api.NBin, api.NBin, api.NBin, api.NUn}[r.Intn(5)]
	}
	parts := map[int]int{api.NNumber: 0, api.NBin: 2, api.NUn: 1}[n.Kind]
	if r.Intn(8) == 0 {
		parts = r.Intn(4)
	}
	for range parts {
		if left > 0 {
			n.L = append(n.L, anyTree(r, left-1))
		} else {
			n.L = append(n.L, api.Node{Kind: api.NNumber, V: num.Int(int64(r.Intn(3))), At: 7})
		}
	}
	return n
}

// saysAny is the number that a tree of any parts says, found from its top.
func saysAny(n api.Node) (api.Value, bool) {
	var l []api.Value
	for _, part := range n.L {
		v, is := part.V, part.Kind == api.NNumber
		if !is {
			v, is = saysAny(part)
		}
		if !is {
			return api.Value{}, false
		}
		l = append(l, v)
	}
	err := api.ErrNone
	var v api.Value
	switch {
	case n.Kind == api.NBin && len(l) == 2:
		v, err = num.Op(1+slices.Index([]string{"+", "-", "*", "/", "//", "%"}, n.Text), l[0], l[1])
	case n.Kind == api.NUn && len(l) == 1 && n.Text == "-":
		v, err = num.Neg(l[0])
	}
	return v, err == api.OK
}

func modelFold(n api.Node) api.Node {
	if v, is := saysAny(n); is {
		return api.Node{Kind: api.NNumber, V: v, At: n.At}
	}
	n.L = slices.Clone(n.L)
	for i, part := range n.L {
		n.L[i] = modelFold(part)
	}
	return n
}

// TestP10_5AnyTree: Fold of trees of any kinds and parts, against the model, and folded twice.
func TestP10_5AnyTree(t *testing.T) {
	r := rand.New(rand.NewSource(5))
	less := 0
	for range 20000 {
		n := anyTree(r, r.Intn(6))
		checkFold(t, n, modelFold(n))
		if parse.Size(code.Fold(n)) < parse.Size(n) {
			less++
		}
	}
	if less < 3000 {
		t.Error(less)
	}
}

// TestP10_6Names: names that are alike or not, hidden, held, of parameters, globals and keys.
func TestP10_6Names(t *testing.T) {
	for _, src := range []string{
		"local a = a", "local a, b = b, a return a.a, a.b", "a = b b = a", "local function f(f) return f, g end f(g)", "for i = i, j do i = j end", "local x return function(x, y) return x, y, function() return x, y, z end end", "x.x = {x = x, [x] = x}", "local v0_0, g, ga = 1 a, g, ga = ga, g, a",
		"while a do local a if a then break end end", "local a = 1.5 // 0 - 0.0 / 0.0 return - a", "function f(a) f(a) end local f function f() f() end",
	} {
		checkFollows(t, src, compiled(t, src))
	}
	checkRows(t, row{`x = "x"`, []string{`Const 0 0, SetGlobal 0 0; regs 1; consts "x"`}}, row{`gx = "x"`, []string{`Const 0 0, SetGlobal 1 0; regs 1; consts "x" "gx"`}})
	p := compiled(t, "local a = b return a + c, function(d) return d, a end")
	renamed, _ := scope.Rename("local a = b return a + c, function(d) return d, a end")
	if got, want := listings(compiled(t, renamed)), strings.NewReplacer(`"b"`, `"gb"`, `"c"`, `"gc"`).Replace(listings(p)); got != want {
		t.Errorf("%s\nwant\n%s", got, want)
	}
}

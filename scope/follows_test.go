package scope_test

import (
	"cmp"
	"fmt"
	"slices"
	"strings"
	"testing"

	"heirloom/api"
	"heirloom/lex"
	"heirloom/parse"
	"heirloom/scope"
)

// checkFollows holds a source that is right against P9.2, P9.3 and P9.4.
func checkFollows(t *testing.T, src string) {
	t.Helper()
	tree, _, err := parse.Parse(src)
	if err != api.OK {
		t.Fatalf("Parse(%q): %v", src, err)
	}
	uses, _, err := scope.Resolve(src)
	if err != api.OK {
		t.Fatalf("Resolve(%q): %v", src, err)
	}
	checkEachName(t, src, tree, uses)
	checkFirstNames(t, src, uses)
	renamed, err := scope.Rename(src)
	if want := renamedTokens(parse.Print(tree), uses); renamed != want || err != api.OK {
		t.Fatalf("Rename(%q) = %q, %v; want %q", src, renamed, err, want)
	}
	checkRenamed(t, src, renamed, uses)
}

// checkEachName: P9.3: each name of the tree has one use, and nothing else has one.
func checkEachName(t *testing.T, src string, tree api.Node, uses []api.Use) {
	t.Helper()
	var names []api.Node
	var gather func(n api.Node)
	gather = func(n api.Node) {
		if n.Kind == api.NName {
			names = append(names, n)
		}
		for _, part := range n.L {
			gather(part)
		}
	}
	gather(tree)
	slices.SortFunc(names, func(a, b api.Node) int { return cmp.Compare(a.At, b.At) })
	if !slices.EqualFunc(names, uses, func(n api.Node, u api.Use) bool { return n.At == u.At && n.Text == u.Text }) {
		t.Fatalf("Resolve(%q) = %v; the names are %v", src, uses, names)
	}
}

// checkFirstNames: P9.3: a variable's first name is one in its own function, ahead of all others; and the names of one variable have one text, and are held or not alike.
func checkFirstNames(t *testing.T, src string, uses []api.Use) {
	t.Helper()
	type variable struct{ of, number int }
	first := map[variable]api.Use{}
	far := map[variable]bool{}
	for i, u := range uses {
		v := variable{u.Of, u.Var}
		if i > 0 && uses[i-1].At >= u.At {
			t.Fatalf("Resolve(%q) = %v: not by rising place", src, uses)
		}
		if (u.Of < 0) != (u.Var < 0) || u.Of < -1 || u.Var < -1 || u.Fun < 0 || u.Of > u.Fun || u.Of < 0 && u.Held {
			t.Fatalf("Resolve(%q) has %v", src, u)
		}
		if u.Of < 0 {
			continue
		}
		if _, is := first[v]; !is {
			first[v] = u
		}
		far[v] = far[v] || u.Fun != u.Of
	}
	for _, u := range uses {
		v := variable{u.Of, u.Var}
		if f := first[v]; u.Of >= 0 && (f.Fun != f.Of || f.Text != u.Text || u.Held != far[v]) {
			t.Fatalf("Resolve(%q): %v, whose first name is %v", src, u, f)
		}
		if _, is := first[variable{u.Of, u.Var - 1}]; u.Var > 0 && !is {
			t.Fatalf("Resolve(%q): %v, but no variable %d", src, u, u.Var-1)
		}
	}
}

// renamedTokens is a printed source with its names changed, token by token: in print all of them are names of variables and globals, as keys are texts there.
func renamedTokens(printed string, uses []api.Use) string {
	var out []string
	for _, s := range strings.Split(printed, " ") {
		if isName(s) && len(uses) > 0 {
			u := uses[0]
			uses = uses[1:]
			if s = "g" + u.Text; u.Of >= 0 {
				s = fmt.Sprintf("v%d_%d", u.Of, u.Var)
			}
		}
		out = append(out, s)
	}
	return strings.Join(out, " ")
}

func isName(s string) bool { return s != "" && s == nameAtEnd(s) && s[0] > '9' && !lex.Word(s) }

// checkRenamed: P9.4, where what is renamed can be parsed: it is not too long, and the parentheses in print are not too deep.
func checkRenamed(t *testing.T, src, renamed string, uses []api.Use) {
	t.Helper()
	again, at, err := scope.Resolve(renamed)
	if len(renamed) > api.MaxSource {
		if err != api.ErrLong || at != 0 {
			t.Fatalf("Resolve of %d bytes: %d, %v", len(renamed), at, err)
		}
		return
	}
	if tree, _, _ := parse.Parse(src); err == api.ErrDeep {
		if _, _, err = parse.Parse(parse.Print(tree)); err != api.ErrDeep {
			t.Fatalf("Rename(%q) = %q, which is too deep, though the printed source is not", src, renamed)
		}
		return
	}
	same := func(a, b api.Use) bool {
		return a.Fun == b.Fun && a.Of == b.Of && a.Var == b.Var && a.Held == b.Held
	}
	if err != api.OK || at != 0 || !slices.EqualFunc(uses, again, same) {
		t.Fatalf("Resolve of Rename(%q), %q, = %v, %d, %v; want, name by name, %v", src, renamed, again, at, err, uses)
	}
	twice, err := scope.Rename(renamed)
	if err != api.OK {
		t.Fatalf("Rename(%q): %v", renamed, err)
	}
	if want := globalsOnce(renamed, "g"); twice != want {
		t.Fatalf("Rename(%q) = %q; want %q", renamed, twice, want)
	}
}

// globalsOnce is a renamed source with something put ahead of each global's name.
func globalsOnce(renamed, ahead string) string {
	var out []string
	for _, s := range strings.Split(renamed, " ") {
		if isName(s) && s[0] == 'g' {
			s = ahead + s
		}
		out = append(out, s)
	}
	return strings.Join(out, " ")
}

// TestP9_3FirstNames: uses that come ahead in the order of telling, but not of standing: a list ahead of its names.
func TestP9_3FirstNames(t *testing.T) {
	for _, src := range []string{
		"local a, b = function() return a, b end, a", "for i = i, function() return i end do i() end", "local function f(a, b) return f, a, b end f()", "function f(a) f(a) end", "local a local a, b = a, function(c) local d = c return a, d end return a, b", "a = a return a, {a = a, [a] = a.a}",
	} {
		checkFollows(t, src)
	}
}

// TestP9_4Deep: print's parentheses may be too deep to be parsed again; just below that all holds.
func TestP9_4Deep(t *testing.T) {
	for n := range 39 {
		checkFollows(t, "local a return "+strings.Repeat("- ", n)+"a")
		renamed, _ := scope.Rename("local a return " + strings.Repeat("- ", n) + "a")
		if l, _, err := scope.Resolve(renamed); n <= 19 && (len(l) != 2 || err != api.OK) || n > 19 && err != api.ErrDeep {
			t.Errorf("%d signs: %v, %v", n, l, err)
		}
	}
}

// TestP9_4Again: names that look like those that Rename gives, and renamed sources once more and once more.
func TestP9_4Again(t *testing.T) {
	checkMarked(t,
		"local v0_1@0:0.0, v0_0@0:0.1 return v0_0@0:0.1, v0_1@0:0.0", "v0_0@0:g = 1 local a@0:0.0 return v0_0@0:g, a@0:0.0", "local ga@0:0.0 return a@0:g, ga@0:0.0", "local a@0:0.0 ga@0:g = a@0:0.0", "g@0:g = gg@0:g local g@0:0.0 return g@0:0.0, gg@0:g", "local gv0_0@0:0.0 return v0_0@0:g, gv0_0@0:0.0",
		"local v1_0@0:0.0! return function(v0_0@1:1.0) return v0_0@1:1.0, v1_0@1:0.0! end", "local v@0:0.0, v0@0:0.1, v0_@0:0.2, v00_0@0:0.3, v0_00@0:0.4 return v@0:0.0, v0@0:0.1, v0_@0:0.2, v00_0@0:0.3, v0_00@0:0.4, v0_0@0:g", "return oto@0:g, _@0:g, G@0:g, V0_0@0:g, v_@0:g",
	)
	src := "local a, b = a, c for i = a, b do local function f(a) return f(a, b, i, c, v0_0) end c.d = f end"
	for n := range 5 {
		next, err := scope.Rename(src)
		if err != api.OK {
			t.Fatal(src, err)
		}
		if n > 0 && next != globalsOnce(src, "g") {
			t.Errorf("Rename(%q) = %q", src, next)
		}
		if n > 0 && strings.Count(next, "g") != 5*n+5 {
			t.Errorf("Rename(%q) = %q", src, next)
		}
		src = next
	}
}

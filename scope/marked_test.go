package scope_test

import (
	"fmt"
	"slices"
	"strings"
	"testing"

	"heirloom/api"
	"heirloom/scope"
)

// unmarked parts a marked source into the source and the uses that it must have. Behind each name of a marked source stands @, the function in which it stands, : and g, or whose variable it is, a point, and which one, with ! if that is held.
func unmarked(t *testing.T, marked string) (string, []api.Use) {
	t.Helper()
	var b strings.Builder
	var l []api.Use
	parts := strings.Split(marked, "@")
	for i, part := range parts {
		if i == len(parts)-1 {
			b.WriteString(part)
			return b.String(), l
		}
		b.WriteString(part)
		all := b.String()
		u := api.Use{At: len(all) - len(nameAtEnd(all)), Text: nameAtEnd(all)}
		rest := parts[i+1]
		u.Fun, rest = digits(t, rest)
		rest = strings.TrimPrefix(rest, ":")
		if after, is := strings.CutPrefix(rest, "g"); is {
			u.Of, u.Var, rest = -1, -1, after
		} else {
			u.Of, rest = digits(t, rest)
			u.Var, rest = digits(t, strings.TrimPrefix(rest, "."))
			rest, u.Held = strings.CutPrefix(rest, "!")
		}
		parts[i+1] = rest
		l = append(l, u)
	}
	return b.String(), l
}

func nameAtEnd(s string) string {
	i := len(s)
	for i > 0 && (s[i-1] == '_' || '0' <= s[i-1] && s[i-1] <= '9' || 'A' <= s[i-1] && s[i-1] <= 'Z' || 'a' <= s[i-1] && s[i-1] <= 'z') {
		i--
	}
	return s[i:]
}

func digits(t *testing.T, s string) (int, string) {
	t.Helper()
	n, i := 0, 0
	for ; i < len(s) && '0' <= s[i] && s[i] <= '9'; i++ {
		n = n*10 + int(s[i]-'0')
	}
	if i == 0 {
		t.Fatalf("a mark without a number ahead of %q", s)
	}
	return n, s[i:]
}

// TestP9Marks: the marks by which other tests are held.
func TestP9Marks(t *testing.T) {
	src, l := unmarked(t, "local ab@0:0.12! = a@3:g.b f@10:1.0()")
	if src != "local ab = a.b f()" || fmt.Sprint(l) != "[{6 ab 0 0 12 true} {11 a 3 -1 -1 false} {15 f 10 1 0 false}]" {
		t.Errorf("%q, %v", src, l)
	}
}

// checkUses: Resolve is without an error, with just these uses.
func checkUses(t *testing.T, src string, want []api.Use) {
	t.Helper()
	got, at, err := scope.Resolve(src)
	if err != api.OK || at != 0 {
		t.Errorf("Resolve(%q) = %d, %v; want no error", src, at, err)
		return
	}
	if !slices.Equal(got, want) {
		t.Errorf("Resolve(%q) = %v; want %v", src, got, want)
	}
}

// checkMarked holds Resolve of marked sources against their marks, and each of them against what follows.
func checkMarked(t *testing.T, marked ...string) {
	t.Helper()
	for _, m := range marked {
		src, want := unmarked(t, m)
		checkUses(t, src, want)
		checkFollows(t, src)
	}
}

// checkRefused: an error, its place, and nothing beside them.
func checkRefused(t *testing.T, src string, at int, err api.Errno) {
	t.Helper()
	l, gotAt, gotErr := scope.Resolve(src)
	if len(l) != 0 || gotAt != at || gotErr != err {
		t.Errorf("Resolve(%q) = %v, %d, %v; want %d, %v", src, l, gotAt, gotErr, at, err)
	}
	if s, gotErr := scope.Rename(src); s != "" || gotErr != err {
		t.Errorf("Rename(%q) = %q, %v; want %v", src, s, gotErr, err)
	}
}

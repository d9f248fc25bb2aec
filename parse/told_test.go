package parse_test

import (
	"fmt"
	"strings"
	"testing"

	"heirloom/api"
	"heirloom/parse"
)

// kindName is how the tests write a kind.
func kindName(kind int) string {
	names := map[int]string{
		1: "nil", 2: "true", 3: "false", 4: "number", 5: "text", 6: "name", 7: "func", 8: "bin", 9: "un", 10: "index", 11: "call", 12: "table", 13: "item", 14: "pair",
		20: "block", 21: "local", 22: "assign", 23: "do", 24: "if", 25: "while", 26: "for", 27: "return", 28: "break", 29: "localfunc", 30: "group",
	}
	if s, is := names[kind]; is {
		return s
	}
	return fmt.Sprint("kind", kind)
}

// told is all of a tree in one line: kind"text"=value#count@at(parts), fields that are zero left out but At.
func told(n api.Node) string {
	var b strings.Builder
	tell(&b, n, true)
	return b.String()
}

// shape is told without places.
func shape(n api.Node) string {
	var b strings.Builder
	tell(&b, n, false)
	return b.String()
}

func tell(b *strings.Builder, n api.Node, places bool) {
	b.WriteString(kindName(n.Kind))
	if n.Text != "" {
		fmt.Fprintf(b, "%q", n.Text)
	}
	switch {
	case n.V.T == api.TInt:
		fmt.Fprintf(b, "=%d", n.V.N)
	case n.V != api.Value{}:
		fmt.Fprintf(b, "=%d:%x", n.V.T, uint64(n.V.N))
	}
	if n.Count != 0 {
		fmt.Fprintf(b, "#%d", n.Count)
	}
	if places {
		fmt.Fprintf(b, "@%d", n.At)
	}
	for i, part := range n.L {
		b.WriteByte("( "[min(i, 1)])
		tell(b, part, places)
	}
	if len(n.L) > 0 {
		b.WriteByte(')')
	}
}

// tree is the tree of a source that must have one.
func tree(t *testing.T, src string) api.Node {
	t.Helper()
	n, at, err := parse.Parse(src)
	if err != api.OK || at != 0 {
		t.Fatalf("Parse(%q) = %s, %d, %v", src, told(n), at, err)
	}
	return n
}

// row is a source, and its tree as told.
type row struct{ src, want string }

func checkTrees(t *testing.T, rows []row) {
	t.Helper()
	for _, r := range rows {
		n, at, err := parse.Parse(r.src)
		if got := told(n); got != r.want || at != 0 || err != api.OK {
			t.Errorf("Parse(%q) = %s, %d, %v; want %s", r.src, got, at, err, r.want)
		}
	}
}

// checkShapes: trees without places, for sources whose places other tests hold.
func checkShapes(t *testing.T, rows []row) {
	t.Helper()
	for _, r := range rows {
		n, at, err := parse.Parse(r.src)
		if got := shape(n); got != r.want || at != 0 || err != api.OK {
			t.Errorf("Parse(%q) = %s, %d, %v; want %s", r.src, got, at, err, r.want)
		}
	}
}

// wrong is a source that is refused, and where.
type wrong struct {
	src string
	at  int
	err api.Errno
}

// checkWrong: an error, its place, and no tree.
func checkWrong(t *testing.T, rows []wrong) {
	t.Helper()
	for _, r := range rows {
		n, at, err := parse.Parse(r.src)
		if at != r.at || err != r.err || told(n) != "kind0@0" {
			t.Errorf("Parse(%q) = %s, %d, %v; want %d, %v", r.src, told(n), at, err, r.at, r.err)
		}
	}
}

// checkForm: sources in which ^ stands ahead of the first token with which no block goes on, or at the end.
func checkForm(t *testing.T, marked ...string) {
	t.Helper()
	for _, s := range marked {
		ahead, behind, is := strings.Cut(s, "^")
		if !is {
			t.Fatalf("%q has no mark", s)
		}
		checkWrong(t, []wrong{{ahead + behind, len(ahead), api.ErrForm}})
	}
}

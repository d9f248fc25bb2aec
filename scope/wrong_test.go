package scope_test

import (
	"strings"
	"testing"

	"heirloom/api"
	"heirloom/parse"
	"heirloom/scope"
)

// TestP9_1Wrong: Parse's errors and places, with nothing beside them.
func TestP9_1Wrong(t *testing.T) {
	long := strings.Repeat(" ", api.MaxSource+1)
	for _, r := range []struct {
		src string
		at  int
		err api.Errno
	}{
		{"x", 1, api.ErrForm}, {"f() = 1", 4, api.ErrForm}, {"return 1 x", 9, api.ErrForm}, {"local", 5, api.ErrForm}, {"local a = a a", 13, api.ErrForm}, {"local a local 1", 14, api.ErrForm}, {"local a.b", 7, api.ErrForm}, {"function(a) end", 8, api.ErrForm}, {"function f(a", 12, api.ErrForm},
		{"function f(a.b) end", 12, api.ErrForm}, {"for a, b = 1 do end", 5, api.ErrForm}, {"local function end", 15, api.ErrForm}, {"local a, nil", 9, api.ErrForm}, {"do local a", 10, api.ErrForm}, {"local a end", 8, api.ErrForm}, {"nil = 1", 0, api.ErrForm}, {"end", 0, api.ErrForm},
		{"a $", 2, api.ErrByte}, {"local a = a \x00", 12, api.ErrByte}, {"x $", 2, api.ErrByte}, {"local \xc3\xa4", 6, api.ErrByte}, {"a = \"b", 4, api.ErrQuote}, {"local a = \"\\q\"", 10, api.ErrQuote}, {"a = 1x", 4, api.ErrForm},
		{long, 0, api.ErrLong}, {"$" + long, 0, api.ErrLong}, {"a = " + strings.Repeat("a", 8189), 0, api.ErrLong},
		{"a = " + strings.Repeat("(", 39) + "a" + strings.Repeat(")", 39), 43, api.ErrDeep}, {"local a " + strings.Repeat("do ", 40) + strings.Repeat("end ", 40), 128, api.ErrDeep}, {"return " + strings.Repeat("- ", 38) + "- a", 85, api.ErrDeep},
	} {
		n, at, err := parse.Parse(r.src)
		if n.Kind != 0 || at != r.at || err != r.err {
			t.Errorf("Parse(%q) = %d, %v; this test wants %d, %v", r.src, at, err, r.at, r.err)
		}
		checkRefused(t, r.src, r.at, r.err)
	}
}

// TestP9_1WrongAhead: Parse's error is told, not that of too many variables, wherever the one and the other stand.
func TestP9_1WrongAhead(t *testing.T) {
	many := "local a" + strings.Repeat(",a", api.MaxLocals) + " "
	checkRefused(t, many, len(many)-2, api.ErrMany)
	checkRefused(t, many+"$", len(many), api.ErrByte)
	checkRefused(t, many+"x", len(many)+1, api.ErrForm)
	checkRefused(t, many+"\"", len(many), api.ErrQuote)
	checkRefused(t, many+"end", len(many), api.ErrForm)
	checkRefused(t, "x "+many, 2, api.ErrForm)
	checkRefused(t, many+strings.Repeat("do ", 40)+strings.Repeat("end ", 40), len(many)+120, api.ErrDeep)
	checkRefused(t, many+strings.Repeat(" ", api.MaxSource), 0, api.ErrLong)
	checkRefused(t, many+strings.Repeat(" ", api.MaxSource-len(many)), len(many)-2, api.ErrMany)
}

// TestP9AnyBytes: calls end without a panic, and alike each time, at sources that are no sources.
func TestP9AnyBytes(t *testing.T) {
	for b := range 256 {
		for _, src := range []string{string([]byte{byte(b)}), "local a" + string([]byte{byte(b)}), "local a = a" + string([]byte{byte(b)}) + "a", strings.Repeat(string([]byte{byte(b)}), 9000)} {
			_, at, err := parse.Parse(src)
			if err != api.OK {
				checkRefused(t, src, at, err)
			} else {
				checkFollows(t, src)
			}
		}
	}
}

// TestP9OwnLists: what is handed out is the caller's own.
func TestP9OwnLists(t *testing.T) {
	src := "local a = function() return a end return a"
	l, _, _ := scope.Resolve(src)
	want := append([]api.Use{}, l...)
	for i := range l {
		l[i] = api.Use{At: -9, Text: "other"}
	}
	checkUses(t, src, want)
	if s, err := scope.Rename(src); s != "local v0_0 = function ( ) return ga ; end ; return v0_0 ;" || err != api.OK {
		t.Errorf("%q, %v", s, err)
	}
}

package scope_test

import (
	"fmt"
	"strings"
	"testing"

	"heirloom/api"
	"heirloom/lex"
	"heirloom/parse"
	"heirloom/scope"
)

// TestP9_2Rename: sources, and what they are renamed to.
func TestP9_2Rename(t *testing.T) {
	for _, r := range []struct{ src, want string }{
		{"", ""}, {" -- a", ""}, {";;", ""}, {"return", "return ;"}, {"break", "break ;"},
		{"local a = a", "local v0_0 = ga ;"},
		{"local x ; f = function(y) return x + y end", "local v0_0 ; gf = function ( v1_0 ) return ( v0_0 + v1_0 ) ; end ;"},
		{"a=1", "ga = 1 ;"}, {"g=g", "gg = gg ;"}, {"v0_0=gv0_0", "gv0_0 = ggv0_0 ;"}, {"_()", "g_ ( ) ;"},
		{"local a,b,a=a,b", "local v0_0 , v0_1 , v0_2 = ga , gb ;"},
		{"local a local a=a", "local v0_0 ; local v0_1 = v0_0 ;"},
		{"local a a.a={a=a,[a]=a.a}", `local v0_0 ; v0_0 [ "a" ] = { [ "a" ] = v0_0 , [ v0_0 ] = v0_0 [ "a" ] } ;`},
		{"function f(a) return a,f end", "gf = function ( v1_0 ) return v1_0 , gf ; end ;"},
		{"local function f(a) return a,f end f()", "local function v0_0 ( v1_0 ) return v1_0 , v0_0 ; end ; v0_0 ( ) ;"},
		{"for i=i,i,i do local j=i end i()", "for v0_0 = gi , gi , gi do local v0_1 = v0_0 ; end ; gi ( ) ;"},
		{"if a then local a elseif a then a() else a=a end", "if ga then local v0_0 ; elseif ga then ga ( ) ; else ga = ga ; end ;"},
		{"while a do local a a=1 end do a() end", "while ga do local v0_0 ; v0_0 = 1 ; end ; do ga ( ) ; end ;"},
		{"local a return function(b) return function(c) return a..b..c..d end end", "local v0_0 ; return function ( v1_0 ) return function ( v2_0 ) return ( v0_0 .. ( v1_0 .. ( v2_0 .. gd ) ) ) ; end ; end ;"},
		{"local a,b=1 a,b=b,a", "local v0_0 , v0_1 = 1 ; v0_0 , v0_1 = v0_1 , v0_0 ;"},
		{`local a=-a+#"a" return not a`, `local v0_0 = ( ( - ga ) + ( # "a" ) ) ; return ( not v0_0 ) ;`},
		{"local long_name = 1 ; (long_name)(other_name)", "local v0_0 = 1 ; v0_0 ( gother_name ) ;"},
		{"local function f() return function() return f end end local g = function(h) end", "local function v0_0 ( ) return function ( ) return v0_0 ; end ; end ; local v0_1 = function ( v3_0 ) end ;"},
	} {
		if got, err := scope.Rename(r.src); got != r.want || err != api.OK {
			t.Errorf("Rename(%q) = %q, %v; want %q", r.src, got, err, r.want)
		}
		checkFollows(t, r.src)
	}
}

// TestP9_2GreatNumbers: functions and variables whose numbers have more than one digit.
func TestP9_2GreatNumbers(t *testing.T) {
	var src, want strings.Builder
	for i := range 130 {
		src.WriteString("do local a = function(b) local c = a end end ")
		fmt.Fprintf(&want, "do local v0_%d = function ( v%d_0 ) local v%d_1 = ga ; end ; end ; ", i, i+1, i+1)
	}
	got, err := scope.Rename(src.String())
	if got != strings.TrimSuffix(want.String(), " ") || err != api.OK {
		t.Errorf("Rename = %q, %v", got, err)
	}
	checkFollows(t, src.String())
}

// TestP9_2NothingElse: but for names the printed source stays as it is: texts and numbers that look like names or hold the new ones, keys.
func TestP9_2NothingElse(t *testing.T) {
	src := `local a, b = "a", "v0_0" a.a, b["a"], c.v0_0 = {a = 1, b = 2.5, [a] = "b", ["b"] = b, g = 3}, 1000, 0f3ff0000000000000 return "local", a .. "a" .. b`
	tree, _, err := parse.Parse(src)
	if err != api.OK {
		t.Fatal(err)
	}
	got, err := scope.Rename(src)
	if err != api.OK {
		t.Fatal(err)
	}
	was, _, _ := lex.Lex(parse.Print(tree))
	is, _, err := lex.Lex(got)
	if err != api.OK || len(was) != len(is) {
		t.Fatalf("%q: %v", got, err)
	}
	for i := range was {
		if was[i].Kind != is[i].Kind || was[i].Kind != api.TokName && was[i].Text != is[i].Text {
			t.Errorf("Rename(%q) = %q: %q became %q", src, got, was[i].Text, is[i].Text)
		}
	}
}

// TestP9_2LongSources: a source of MaxSource bytes is renamed, though what comes out is longer, and could be resolved no more; one byte more is refused.
func TestP9_2LongSources(t *testing.T) {
	src := "local a " + strings.Repeat("a=b ", (api.MaxSource-8)/4)
	if len(src) != 8192 {
		t.Fatal(len(src))
	}
	want := "local v0_0 ;" + strings.Repeat(" v0_0 = gb ;", (8192-8)/4)
	got, err := scope.Rename(src)
	if got != want || err != api.OK {
		t.Errorf("Rename of a long source: %d bytes, %v; want %d", len(got), err, len(want))
	}
	checkFollows(t, src)
	checkRefused(t, got, 0, api.ErrLong)
	checkRefused(t, src+" ", 0, api.ErrLong)
	name := strings.Repeat("x", 8190)
	if got, err := scope.Rename(name + "()"); got != "g"+name+" ( ) ;" || err != api.OK {
		t.Errorf("Rename of a long name: %d bytes, %v", len(got), err)
	}
	checkFollows(t, name+"()")
	checkFollows(t, "local "+name[6:])
	checkFollows(t, "return a"+strings.Repeat("+a", (8192-8)/2))
	checkFollows(t, "a"+strings.Repeat("[a]", 2728)+"=1")
	checkFollows(t, strings.Repeat("f()", 2730))
}

// TestP9_4JustMaxSource: what is renamed to just MaxSource bytes is resolved again, with a byte more it is not.
func TestP9_4JustMaxSource(t *testing.T) {
	for more := range 2 {
		ahead := "local a " + strings.Repeat("a=b ", 600)
		renamed, err := scope.Rename(ahead)
		if err != api.OK {
			t.Fatal(err)
		}
		src := ahead + strings.Repeat("c", api.MaxSource-len(renamed)-len(" g ( ) ;")+more) + "()"
		renamed, err = scope.Rename(src)
		if len(renamed) != api.MaxSource+more || err != api.OK {
			t.Fatal(len(renamed), err)
		}
		checkFollows(t, src)
		l, at, err := scope.Resolve(renamed)
		if at != 0 || more == 0 && (err != api.OK || len(l) != 1202) || more == 1 && (err != api.ErrLong || len(l) != 0) {
			t.Errorf("%d bytes more: %d names, %d, %v", more, len(l), at, err)
		}
	}
}

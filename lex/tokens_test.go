package lex_test

import (
	"math"
	"strings"
	"testing"

	"heirloom/api"
)

func TestP7_1Words(t *testing.T) {
	for _, w := range allWords() {
		up := strings.ToUpper(w)
		first := strings.ToUpper(w[:1]) + w[1:]
		checkTokens(t, []row{
			{w, []api.Token{word(w)}},
			{w + " " + w, []api.Token{word(w), word(w)}},
			{w + "=" + w, []api.Token{word(w), sign("="), word(w)}},
			{w + "--\n" + w, []api.Token{word(w), word(w)}},
			{w + "1", []api.Token{name(w + "1")}},
			{w + "_", []api.Token{name(w + "_")}},
			{"_" + w, []api.Token{name("_" + w)}},
			{w + "q", []api.Token{name(w + "q")}},
			{"q" + w, []api.Token{name("q" + w)}},
			{"q_" + w + " " + w + "_q", []api.Token{name("q_" + w), name(w + "_q")}},
			{w + w, []api.Token{name(w + w)}},
			{w + "." + w, []api.Token{word(w), sign("."), word(w)}},
			{up, []api.Token{name(up)}},
			{first, []api.Token{name(first)}},
			{`"` + w + `"`, []api.Token{quoted(`"`+w+`"`, w)}},
		})
	}
	checkTokens(t, []row{
		{"el", []api.Token{name("el")}}, {"els", []api.Token{name("els")}}, {"elsei", []api.Token{name("elsei")}}, {"elseiff", []api.Token{name("elseiff")}},
		{"else if", []api.Token{word("else"), word("if")}}, {"functio", []api.Token{name("functio")}}, {"hile", []api.Token{name("hile")}},
		{"goto", []api.Token{name("goto")}}, {"in", []api.Token{name("in")}}, {"repeat until", []api.Token{name("repeat"), name("until")}},
	})
}

func TestP7_1Names(t *testing.T) {
	for _, n := range []string{
		"a", "z", "A", "Z", "_", "__", "_1", "a1", "a_1", "_a", "A0Z9", "x0f", "abcdefghijklmnopqrstuvwxyz", "ABCDEFGHIJKLMNOPQRSTUVWXYZ", "_0123456789_",
		strings.Repeat("n", api.MaxSource), strings.Repeat("_9", api.MaxSource/2),
	} {
		checkTokens(t, []row{{n, []api.Token{name(n)}}})
	}
	checkTokens(t, []row{
		{"a.b", []api.Token{name("a"), sign("."), name("b")}},
		{"a.1", []api.Token{name("a"), sign("."), whole("1")}},
		{"a1.5", []api.Token{name("a1"), sign("."), whole("5")}},
		{"a..b", []api.Token{name("a"), sign(".."), name("b")}},
		{"a-b", []api.Token{name("a"), sign("-"), name("b")}},
		{"f(x)", []api.Token{name("f"), sign("("), name("x"), sign(")")}},
		{`a"b"`, []api.Token{name("a"), quoted(`"b"`, "b")}},
	})
	checkFaults(t, []fault{{"a@", 1, api.ErrByte}, {"a[b`", 3, api.ErrByte}, {"a{b|", 3, api.ErrByte}, {"a^b", 1, api.ErrByte}, {"a:b", 1, api.ErrByte}})
}

func TestP7_1Signs(t *testing.T) {
	for _, s := range allSigns() {
		checkTokens(t, []row{
			{s, []api.Token{sign(s)}},
			{s + " " + s, []api.Token{sign(s), sign(s)}},
			{"a" + s + "b", []api.Token{name("a"), sign(s), name("b")}},
			{`"a"` + s + `"b"`, []api.Token{quoted(`"a"`, "a"), sign(s), quoted(`"b"`, "b")}},
		})
	}
}

func TestP7_1LongestSign(t *testing.T) {
	rows := []struct{ src, want string }{
		{"/", "/"}, {"//", "//"}, {"///", "// /"}, {"////", "// //"}, {"/ /", "/ /"}, {"/=", "/ ="}, {"//=", "// ="},
		{".", "."}, {"..", ".."}, {"...", ".. ."}, {"....", ".. .."}, {". .", ". ."},
		{"=", "="}, {"==", "=="}, {"===", "== ="}, {"====", "== =="}, {"= =", "= ="}, {"=<", "= <"}, {"=>", "= >"},
		{"<", "<"}, {"<=", "<="}, {"<==", "<= ="}, {"<<=", "< <="}, {"< =", "< ="}, {"<>", "< >"}, {"<<", "< <"},
		{">", ">"}, {">=", ">="}, {">==", ">= ="}, {">>=", "> >="}, {"> =", "> ="}, {">>", "> >"},
		{"~=", "~="}, {"~==", "~= ="}, {"~=~=", "~= ~="},
		{"-", "-"}, {"- -", "- -"}, {"- - -", "- - -"}, {"-+", "- +"}, {"-=", "- ="}, {"+-", "+ -"}, {"-\n-", "- -"},
		{"()", "( )"}, {"(({[]}))", "( ( { [ ] } ) )"}, {"[[", "[ ["}, {",;", ", ;"}, {"##", "# #"}, {"**", "* *"}, {"%%", "% %"}, {"+=", "+ ="}, {"++", "+ +"},
	}
	for _, r := range rows {
		var want []api.Token
		for _, s := range strings.Fields(r.want) {
			want = append(want, sign(s))
		}
		checkTokens(t, []row{{r.src, want}})
	}
	checkFaults(t, []fault{
		{"~", 0, api.ErrByte}, {"=~", 1, api.ErrByte}, {"~=~", 2, api.ErrByte}, {"~ =", 0, api.ErrByte}, {"~~", 0, api.ErrByte}, {"<~", 1, api.ErrByte}, {"~--", 0, api.ErrByte},
	})
}

// TestP7_1SignPairs: each two signs, one right behind the other, and each three.
func TestP7_1SignPairs(t *testing.T) {
	for _, a := range append(allSigns(), "~") {
		for _, b := range append(allSigns(), "~") {
			for _, c := range append(allSigns(), "", "~", "1") {
				if got, want := asked(a+b+c), reckoned(a+b+c); !got.same(want) {
					t.Fatalf("Lex(%q) = %v; want %v", a+b+c, got, want)
				}
			}
		}
	}
}

func TestP7_1Numbers(t *testing.T) {
	dot, two := sign("."), sign("..")
	checkTokens(t, []row{
		{"0", []api.Token{whole("0")}},
		{"007", []api.Token{whole("007")}},
		{"9223372036854775807", []api.Token{whole("9223372036854775807")}},
		{"1.5", []api.Token{pointed("1.5", 1.5)}},
		{"0.0", []api.Token{pointed("0.0", 0)}},
		{"00.50", []api.Token{pointed("00.50", 0.5)}},
		{"0.1", []api.Token{pointed("0.1", 0.1)}},
		{"12345678.1234567", []api.Token{pointed("12345678.1234567", 12345678.1234567)}},
		{"0f3ff0000000000000", []api.Token{pointed("0f3ff0000000000000", 1)}},
		{"0f7ff0000000000000", []api.Token{pointed("0f7ff0000000000000", math.Inf(1))}},
		{"0f7ff8000000000001", []api.Token{number("0f7ff8000000000001", api.Value{T: api.TFloat, N: 0x7ff8000000000001})}},
		{"0f8000000000000000", []api.Token{pointed("0f8000000000000000", math.Copysign(0, -1))}},
		{"-1", []api.Token{sign("-"), whole("1")}},
		{"-1.5", []api.Token{sign("-"), pointed("1.5", 1.5)}},
		{"1-1", []api.Token{whole("1"), sign("-"), whole("1")}},
		{"1.", []api.Token{whole("1"), dot}},
		{"1. 5", []api.Token{whole("1"), dot, whole("5")}},
		{"1 .5", []api.Token{whole("1"), dot, whole("5")}},
		{".5", []api.Token{dot, whole("5")}},
		{"1.x", []api.Token{whole("1"), dot, name("x")}},
		{"1._5", []api.Token{whole("1"), dot, name("_5")}},
		{"1.=2", []api.Token{whole("1"), dot, sign("="), whole("2")}},
		{"1..", []api.Token{whole("1"), two}},
		{"1..2", []api.Token{whole("1"), two, whole("2")}},
		{"1...2", []api.Token{whole("1"), two, dot, whole("2")}},
		{"1....2", []api.Token{whole("1"), two, two, whole("2")}},
		{"1.5..2.5", []api.Token{pointed("1.5", 1.5), two, pointed("2.5", 2.5)}},
		{"1.5.", []api.Token{pointed("1.5", 1.5), dot}},
		{"1.5.x", []api.Token{pointed("1.5", 1.5), dot, name("x")}},
		{"1..x", []api.Token{whole("1"), two, name("x")}},
		{`1"a"2`, []api.Token{whole("1"), quoted(`"a"`, "a"), whole("2")}},
		{"1[2]", []api.Token{whole("1"), sign("["), whole("2"), sign("]")}},
		{"1.--\n5", []api.Token{whole("1"), dot, whole("5")}},
		{"1--\n.5", []api.Token{whole("1"), dot, whole("5")}},
		{"1 2", []api.Token{whole("1"), whole("2")}},
	})
}

// TestP7_1WrongNumbers: letters, _ and points go on in a number, and num.Read's error is told at its beginning.
func TestP7_1WrongNumbers(t *testing.T) {
	checkFaults(t, []fault{
		{"1x", 0, api.ErrForm}, {"a = 1x", 4, api.ErrForm}, {"1_", 0, api.ErrForm}, {"1_000", 0, api.ErrForm}, {"1e5", 0, api.ErrForm}, {"1Z", 0, api.ErrForm},
		{"0x10", 0, api.ErrForm}, {"0f", 0, api.ErrForm}, {"0f3ff000000000000", 0, api.ErrForm}, {"0f3ff00000000000000", 0, api.ErrForm},
		{"0F3ff0000000000000", 0, api.ErrForm}, {"0f3FF0000000000000", 0, api.ErrForm}, {"0f7ff8000000000000", 0, api.ErrForm}, {"0fffffffffffffffff", 0, api.ErrForm},
		{"1.5.2", 0, api.ErrForm}, {"1.5x", 0, api.ErrForm}, {"1x.5", 0, api.ErrForm}, {"1.5_", 0, api.ErrForm}, {"1and", 0, api.ErrForm}, {" 1.5.2.", 1, api.ErrForm},
		{"9223372036854775808", 0, api.ErrRange}, {"-9223372036854775808", 1, api.ErrRange}, {"x=99999999999999999999", 2, api.ErrRange},
		{"12345678.12345678", 0, api.ErrRange}, {"0.000000000000000", 0, api.ErrRange}, {"a 1.000000000000000", 2, api.ErrRange},
		{strings.Repeat("9", api.MaxSource), 0, api.ErrRange}, {"1" + strings.Repeat(".1", 4095), 0, api.ErrForm},
	})
}

func TestP7_1Texts(t *testing.T) {
	empty, a := quoted(`""`, ""), quoted(`"a"`, "a")
	checkTokens(t, []row{
		{`""`, []api.Token{empty}},
		{`""""`, []api.Token{empty, empty}},
		{`"a"`, []api.Token{a}},
		{`"a""a"`, []api.Token{a, a}},
		{`"a"a`, []api.Token{a, name("a")}},
		{`"a"1`, []api.Token{a, whole("1")}},
		{`" a b "`, []api.Token{quoted(`" a b "`, " a b ")}},
		{`"--"`, []api.Token{quoted(`"--"`, "--")}},
		{`"a--b" a`, []api.Token{quoted(`"a--b"`, "a--b"), name("a")}},
		{`"a" --"b"`, []api.Token{a}},
		{`"-"--"` + "\n" + `""`, []api.Token{quoted(`"-"`, "-"), empty}},
		{`"\x22"`, []api.Token{quoted(`"\x22"`, `"`)}},
		{`"\x5c"`, []api.Token{quoted(`"\x5c"`, `\`)}},
		{`"\x00\x0a\x7f\x80\xff"`, []api.Token{quoted(`"\x00\x0a\x7f\x80\xff"`, "\x00\n\x7f\x80\xff")}},
		{`"$@~'!?"`, []api.Token{quoted(`"$@~'!?"`, "$@~'!?")}},
		{`"1x"`, []api.Token{quoted(`"1x"`, "1x")}},
		{`"x22"`, []api.Token{quoted(`"x22"`, "x22")}},
	})
}

// TestP7_1WrongTexts: ErrQuote at the text's beginning, wherever the wrong byte stands.
func TestP7_1WrongTexts(t *testing.T) {
	checkFaults(t, []fault{
		{`"`, 0, api.ErrQuote}, {`"a`, 0, api.ErrQuote}, {`"a b c`, 0, api.ErrQuote}, {`"""`, 2, api.ErrQuote}, {`a "b" "`, 6, api.ErrQuote}, {`"--`, 0, api.ErrQuote},
		{"\"a\n", 0, api.ErrQuote}, {"\"a -- \"b\"", 8, api.ErrQuote},
		{`"\"`, 0, api.ErrQuote}, {`"\""`, 0, api.ErrQuote}, {`"\n"`, 0, api.ErrQuote}, {`"\\"`, 0, api.ErrQuote}, {`"\x"`, 0, api.ErrQuote}, {`"\x2"`, 0, api.ErrQuote},
		{`"\x41"`, 0, api.ErrQuote}, {`"\x20"`, 0, api.ErrQuote}, {`"\x7e"`, 0, api.ErrQuote}, {`"\x0A"`, 0, api.ErrQuote}, {`"\X0a"`, 0, api.ErrQuote}, {`"\x5C"`, 0, api.ErrQuote},
		{"\"a\nb\"", 0, api.ErrQuote}, {"\"\t\"", 0, api.ErrQuote}, {"\"\r\"", 0, api.ErrQuote}, {"\"\x00\"", 0, api.ErrQuote}, {"\"\x7f\"", 0, api.ErrQuote},
		{"\"\x80\"", 0, api.ErrQuote}, {"\"é\"", 0, api.ErrQuote}, {"\"\xff\"", 0, api.ErrQuote},
		{`a = "b" .. "\q"`, 11, api.ErrQuote}, {"x -- \"\n\"\n\"", 7, api.ErrQuote},
	})
}

package text_test

import (
	"fmt"
	"math/rand"
	"regexp"
	"strings"
	"testing"

	"heirloom/api"
	"heirloom/text"
)

// quoteOf is Quote, told again.
func quoteOf(s string) string {
	var b strings.Builder
	for i := 0; i < len(s); i++ {
		switch c := s[i]; {
		case c == '"' || c == '\\' || c < 0x20 || c > 0x7e:
			fmt.Fprintf(&b, `\x%02x`, c)
		default:
			b.WriteByte(c)
		}
	}
	return `"` + b.String() + `"`
}

func TestP2_3QuoteRows(t *testing.T) {
	rows := []struct{ s, want string }{
		{"", `""`},
		{"a\"", `"a\x22"`},
		{"a", `"a"`},
		{"\\", `"\x5c"`},
		{`\x22`, `"\x5cx22"`},
		{" ~", `" ~"`},
		{"\x1f\x7f", `"\x1f\x7f"`},
		{"\x00\n\xff", `"\x00\x0a\xff"`},
		{"é", `"\xc3\xa9"`},
		{"'`[]", "\"'`[]\""},
	}
	for _, r := range rows {
		if got := text.Quote(r.s); got != r.want {
			t.Errorf("Quote(%q) = %s; want %s", r.s, got, r.want)
		}
		if got, err := text.Unquote(r.want); got != r.s || err != api.OK {
			t.Errorf("Unquote(%s) = %q, %v", r.want, got, err)
		}
	}
}

func TestP2_3Quote(t *testing.T) {
	for _, s := range sampleTexts() {
		if got := text.Quote(s); got != quoteOf(s) {
			t.Errorf("Quote(%q) = %s", s, got)
		}
	}
	for c := range 256 {
		s := string([]byte{byte(c)})
		if got := text.Quote(s); got != quoteOf(s) {
			t.Errorf("Quote(%q) = %s", s, got)
		}
	}
}

func TestP2_3UnquoteForm(t *testing.T) {
	wrong := []string{
		"", `"`, `a`, `a"`, `"a`, `ab`, `'a'`, ` ""`, `"" `, `"""`, `"a"b"`, `""""`, `"\"`, `"a\"`,
		`"\x"`, `"\x2"`, `"\x2`, `"\x22`, `\x22`, `"\x2 "`, `"\x 2"`, `"\xg0"`, `"\x0g"`, `"\x2/"`, `"\x:2"`, `"\x5C"`, `"\xFF"`, `"\xfF"`, `"\xFf"`, `"\X22"`,
		`"\x41"`, `"\x20"`, `"\x7e"`, `"\x61"`, `"\x30"`, `"a\x41"`, `"\x00\x41"`,
		`"\""`, `"\\"`, `"\n"`, `"\t"`, `"\0"`, `"\034"`, `"\u0022"`, `"\`, `\"`,
		"\"\n\"", "\"\x00\"", "\"\x1f\"", "\"\x7f\"", "\"\x80\"", "\"\xff\"", "\"é\"", "\"a\n",
		"\xe2\x80\x9ca\xe2\x80\x9d",
	}
	for _, s := range wrong {
		if got, err := text.Unquote(s); got != "" || err != api.ErrForm {
			t.Errorf("Unquote(%q) = %q, %v", s, got, err)
		}
	}
}

// TestP2_3UnquoteBytes: of each byte one way alone of telling it is a quote's.
func TestP2_3UnquoteBytes(t *testing.T) {
	for c := range 256 {
		s := string([]byte{byte(c)})
		for _, q := range []string{`"` + s + `"`, fmt.Sprintf(`"\x%02x"`, c), fmt.Sprintf(`"\x%02X"`, c)} {
			got, err := text.Unquote(q)
			if q == quoteOf(s) {
				if got != s || err != api.OK {
					t.Errorf("Unquote(%q) = %q, %v", q, got, err)
				}
			} else if got != "" || err != api.ErrForm {
				t.Errorf("Unquote(%q) = %q, %v", q, got, err)
			}
		}
	}
}

// TestP2_3UnquoteShort: of all short texts of a few bytes those that are quotes have an answer, no others.
func TestP2_3UnquoteShort(t *testing.T) {
	form := regexp.MustCompile(`^"([a1x2]|\\x(1a|11|12|22|aa|a1|a2))*"$`)
	var walk func(s string, n int)
	walk = func(s string, n int) {
		got, err := text.Unquote(s)
		if is := form.MatchString(s); is != (err == api.OK) || is && text.Quote(got) != s || !is && (got != "" || err != api.ErrForm) {
			t.Errorf("Unquote(%q) = %q, %v", s, got, err)
		}
		if n == 0 {
			return
		}
		for _, c := range []string{`"`, `\`, "x", "a", "1", "2"} {
			walk(s+c, n-1)
		}
	}
	walk("", 6)
	walk(`"`, 6)
}

func TestP2_4Quotes(t *testing.T) {
	r := rand.New(rand.NewSource(25))
	l := sampleTexts()
	for n := range 70 {
		l = append(l, someBytes(r, 100+n))
	}
	seen := map[string]string{}
	for _, s := range l {
		q := text.Quote(s)
		if got, err := text.Unquote(q); got != s || err != api.OK {
			t.Errorf("Unquote of Quote(%q) = %q, %v", s, got, err)
		}
		if other, is := seen[q]; is {
			t.Errorf("%q and %q have one quote", s, other)
		}
		seen[q] = s
	}
}

func TestP2_5Quotes(t *testing.T) {
	form := regexp.MustCompile(`^"([ !#-\[\]-~]|\\x[0-9a-f][0-9a-f])*"$`)
	for _, s := range append(sampleTexts(), quoteOf(everyByte())) {
		q := text.Quote(s)
		if !form.MatchString(q) {
			t.Errorf("Quote(%q) = %q", s, q)
		}
		for i := 0; i < len(q); i++ {
			if q[i] < 0x20 || q[i] > 0x7e || q[i] == '\\' && q[i+1] != 'x' {
				t.Errorf("Quote(%q) = %q: byte %d", s, q, i)
			}
		}
	}
}

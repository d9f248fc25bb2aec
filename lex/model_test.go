package lex_test

import (
	"fmt"
	"math"
	"reflect"
	"regexp"
	"strconv"
	"strings"
	"testing"

	"heirloom/api"
	"heirloom/lex"
	"heirloom/num"
	"heirloom/text"
)

// The model reckons by expressions what the chapter's Words say.
var (
	gapForm    = regexp.MustCompile(`^(?:[\x09\x0a\x0d\x20]|--[^\n]*)*`)
	nameForm   = regexp.MustCompile(`^[A-Za-z_][A-Za-z_0-9]*`)
	numberForm = regexp.MustCompile(`^[0-9](?:[A-Za-z_0-9]|\.[0-9])*`)
	textForm   = regexp.MustCompile(`^"[^"]*"`)
	signForm   = regexp.MustCompile(`^(?://|\.\.|==|~=|<=|>=|[-+*/%<>=(){}\[\],;.#])`)
	wordForm   = regexp.MustCompile(`^(?:and|break|do|else|elseif|end|false|for|function|if|local|nil|not|or|return|then|true|while)$`)
)

// allWords and allSigns stand as the chapter lists them.
func allWords() []string {
	return strings.Fields("and break do else elseif end false for function if local nil not or return then true while")
}

func allSigns() []string {
	return strings.Fields("+ - * / // % .. == ~= < <= > >= = ( ) { } [ ] , ; . #")
}

// answer is all that Lex tells.
type answer struct {
	l   []api.Token
	at  int
	err api.Errno
}

func (a answer) String() string {
	return fmt.Sprintf("%+v, %d, %v", a.l, a.at, a.err)
}

func (a answer) same(b answer) bool {
	return a.at == b.at && a.err == b.err && len(a.l) == len(b.l) && (len(a.l) == 0 || reflect.DeepEqual(a.l, b.l))
}

func asked(src string) answer {
	l, at, err := lex.Lex(src)
	return answer{l, at, err}
}

// reckoned is what the model tells of a source.
func reckoned(src string) answer {
	if len(src) > 8192 {
		return answer{err: api.ErrLong}
	}
	var l []api.Token
	at := len(gapForm.FindString(src))
	for at < len(src) {
		tok, err := reckonedToken(src[at:])
		if err != api.OK {
			return answer{at: at, err: err}
		}
		tok.At, tok.End = at, at+len(tok.Text)
		l = append(l, tok)
		at = tok.End + len(gapForm.FindString(src[tok.End:]))
	}
	return answer{l: l}
}

// reckonedToken is the token with which a text begins, but for its places.
func reckonedToken(s string) (api.Token, api.Errno) {
	if n := nameForm.FindString(s); n != "" {
		if wordForm.MatchString(n) {
			return word(n), api.OK
		}
		return name(n), api.OK
	}
	if n := numberForm.FindString(s); n != "" {
		v, err := num.Read(n)
		return number(n, v), err
	}
	if n := signForm.FindString(s); n != "" {
		return sign(n), api.OK
	}
	if s[0] != '"' {
		return api.Token{}, api.ErrByte
	}
	n := textForm.FindString(s)
	says, err := text.Unquote(n)
	if err != api.OK {
		return api.Token{}, api.ErrQuote
	}
	return quoted(n, says), api.OK
}

// Tokens without places.
func name(s string) api.Token { return api.Token{Kind: 1, Text: s} }

func word(s string) api.Token { return api.Token{Kind: 2, Text: s} }

func number(s string, v api.Value) api.Token { return api.Token{Kind: 3, Text: s, V: v} }

func quoted(s, says string) api.Token { return api.Token{Kind: 4, Text: s, Says: says} }

func sign(s string) api.Token { return api.Token{Kind: 5, Text: s} }

// whole is the number that digits say.
func whole(s string) api.Token {
	n, err := strconv.ParseInt(s, 10, 64)
	if err != nil {
		panic(err)
	}
	return number(s, api.Value{T: api.TInt, N: n})
}

// pointed is a number of that text, which says f.
func pointed(s string, f float64) api.Token {
	return number(s, api.Value{T: api.TFloat, N: int64(math.Float64bits(f))})
}

// placed is a token at a place.
func placed(tok api.Token, at int) api.Token {
	tok.At, tok.End = at, at+len(tok.Text)
	return tok
}

// unplaced are tokens without their places.
func unplaced(l []api.Token) []api.Token {
	var out []api.Token
	for _, tok := range l {
		tok.At, tok.End = 0, 0
		out = append(out, tok)
	}
	return out
}

// row is a source, and its tokens without places.
type row struct {
	src  string
	want []api.Token
}

// checkTokens holds Lex against a source's tokens, and their places against the model's.
func checkTokens(t *testing.T, rows []row) {
	t.Helper()
	for _, r := range rows {
		a := asked(r.src)
		if a.err != api.OK || a.at != 0 {
			t.Errorf("Lex(%q) = %v", r.src, a)
			continue
		}
		if got := unplaced(a.l); len(got) != len(r.want) || len(got) > 0 && !reflect.DeepEqual(got, r.want) {
			t.Errorf("Lex(%q) = %+v; want %+v", r.src, got, r.want)
		}
		if want := reckoned(r.src); !a.same(want) {
			t.Errorf("Lex(%q) = %v; the model says %v", r.src, a, want)
		}
	}
}

// fault is a source that is refused, and where.
type fault struct {
	src string
	at  int
	err api.Errno
}

// checkFaults holds Lex against an error and its place; no tokens stand beside it.
func checkFaults(t *testing.T, rows []fault) {
	t.Helper()
	for _, r := range rows {
		a := asked(r.src)
		if len(a.l) != 0 || a.at != r.at || a.err != r.err {
			t.Errorf("Lex(%q) = %v; want %d, %v", r.src, a, r.at, r.err)
		}
		if want := reckoned(r.src); !a.same(want) {
			t.Errorf("Lex(%q) = %v; the model says %v", r.src, a, want)
		}
	}
}

package lex

import (
	"strings"

	"heirloom/api"
	"heirloom/num"
	"heirloom/text"
)

// signs has those of two bytes first, as the longest sign that stands somewhere is the token.
var signs = [...]string{
	"//", "..", "==", "~=", "<=", ">=",
	"+", "-", "*", "/", "%", "<", ">", "=", "(", ")", "{", "}", "[", "]", ",", ";", ".", "#",
}

// cutter cuts one source. Each of asks knows one form of tokens, and tells the one that stands at a place; a token of the kind 0, if none of its form does.
type cutter struct {
	src   string
	words map[string]struct{}
	asks  []func(at int) (api.Token, api.Errno)
}

func newCutter(src string) *cutter {
	c := &cutter{src: src, words: words()}
	c.asks = []func(at int) (api.Token, api.Errno){c.name, c.number, c.quoted, c.sign}
	return c
}

// token takes the first answer for the only one: no byte begins tokens of two forms.
func (c *cutter) token(at int) (api.Token, api.Errno) {
	for _, ask := range c.asks {
		tok, err := ask(at)
		if err != api.OK || tok.Kind != 0 {
			return tok, err
		}
	}
	return api.Token{}, api.ErrByte
}

func (c *cutter) cut(kind, at, end int) api.Token {
	return api.Token{Kind: kind, Text: c.src[at:end], At: at, End: end}
}

func (c *cutter) name(at int) (api.Token, api.Errno) {
	if !isLetter(c.src[at]) {
		return api.Token{}, api.OK
	}
	end := at
	for end < len(c.src) && isInName(c.src[end]) {
		end++
	}
	tok := c.cut(api.TokName, at, end)
	if _, is := c.words[tok.Text]; is {
		tok.Kind = api.TokWord
	}
	return tok, api.OK
}

func (c *cutter) number(at int) (api.Token, api.Errno) {
	if !isDigit(c.src[at]) {
		return api.Token{}, api.OK
	}
	tok := c.cut(api.TokNumber, at, numberEnd(c.src, at))
	v, err := num.Read(tok.Text)
	if err != api.OK {
		return api.Token{}, err
	}
	tok.V = v
	return tok, api.OK
}

// numberEnd leaves a point standing that has no digit behind it: it is a sign, or part of one.
func numberEnd(src string, at int) int {
	end := at
inNumber:
	for end < len(src) {
		switch {
		case isInName(src[end]):
			end++
		case src[end] == '.' && end+1 < len(src) && isDigit(src[end+1]):
			end += 2
		default:
			break inNumber
		}
	}
	return end
}

func (c *cutter) quoted(at int) (api.Token, api.Errno) {
	if c.src[at] != '"' {
		return api.Token{}, api.OK
	}
	n := strings.IndexByte(c.src[at+1:], '"')
	if n < 0 {
		return api.Token{}, api.ErrQuote
	}
	tok := c.cut(api.TokText, at, at+n+2)
	says, err := text.Unquote(tok.Text)
	if err != api.OK {
		return api.Token{}, api.ErrQuote
	}
	tok.Says = says
	return tok, api.OK
}

func (c *cutter) sign(at int) (api.Token, api.Errno) {
	for _, s := range signs {
		if strings.HasPrefix(c.src[at:], s) {
			return c.cut(api.TokSign, at, at+len(s)), api.OK
		}
	}
	return api.Token{}, api.OK
}

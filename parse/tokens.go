package parse

import "heirloom/api"

// tokens hands out a source's tokens, one behind the other. Behind the last one there is always one more, without a kind, at the source's end.
type tokens struct {
	l    []api.Token
	next int
	end  int
}

// ahead is the token that n others stand ahead of.
func (t *tokens) ahead(n int) api.Token {
	if t.next+n < len(t.l) {
		return t.l[t.next+n]
	}
	return api.Token{At: t.end}
}

func (t *tokens) look() api.Token { return t.ahead(0) }

func (t *tokens) at() int { return t.look().At }

func (t *tokens) ended() bool { return t.next >= len(t.l) }

// is asks for a word or a sign by its text alone: no token of another kind has such a text.
func (t *tokens) is(s string) bool { return t.look().Text == s }

func (t *tokens) isName() bool { return t.look().Kind == api.TokName }

func (t *tokens) take() api.Token {
	tok := t.look()
	t.next++
	return tok
}

// took passes over a word or a sign, if it stands there.
func (t *tokens) took(s string) bool {
	is := t.is(s)
	if is {
		t.next++
	}
	return is
}

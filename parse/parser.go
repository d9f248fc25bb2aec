package parse

import "heirloom/api"

// parser makes a tree of the tokens that it embeds.
type parser struct{ tokens }

// fault is what a parser that stops panics with.
type fault struct {
	at  int
	err api.Errno
}

// wrong is the fault of a token with which no block goes on.
func (p *parser) wrong() fault { return fault{p.at(), api.ErrForm} }

// begin is the place of an expression or a block. Its level is looked at ahead of its tokens, as it may have none.
func (p *parser) begin(level int) int {
	if level > api.MaxNest {
		panic(fault{p.at(), api.ErrDeep})
	}
	return p.at()
}

func (p *parser) need(s string) {
	if !p.took(s) {
		panic(p.wrong())
	}
}

func (p *parser) name() api.Node {
	if !p.isName() {
		panic(p.wrong())
	}
	tok := p.take()
	return api.Node{Kind: api.NName, Text: tok.Text, At: tok.At}
}

func (p *parser) names() []api.Node {
	l := []api.Node{p.name()}
	for p.took(",") {
		l = append(l, p.name())
	}
	return l
}

// key is a name that stands for its own text.
func (p *parser) key() api.Node {
	n := p.name()
	n.Kind = api.NText
	return n
}

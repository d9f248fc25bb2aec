package parse

import "heirloom/api"

// How close signs bind, those that bind least first.
const (
	bindsLeast = iota
	bindsOr
	bindsAnd
	bindsOrder
	bindsConcat
	bindsSum
	bindsProduct
	bindsOne
)

// binding tells how close a sign of two binds (bindsLeast: it is none).
func binding(sign string) int {
	switch sign {
	case "or":
		return bindsOr
	case "and":
		return bindsAnd
	case "<", ">", "<=", ">=", "~=", "==":
		return bindsOrder
	case "..":
		return bindsConcat
	case "+", "-":
		return bindsSum
	case "*", "/", "//", "%":
		return bindsProduct
	}
	return bindsLeast
}

func (p *parser) list(level int) []api.Node {
	l := []api.Node{p.expr(level)}
	for p.took(",") {
		l = append(l, p.expr(level))
	}
	return l
}

func (p *parser) expr(level int) api.Node { return p.above(bindsLeast, level) }

// above is the longest expression in which all signs of two, outside of brackets, bind closer than bind.
func (p *parser) above(bind, level int) api.Node {
	p.begin(level)
	left := p.operand(level)
	for {
		sign := p.look().Text
		binds := binding(sign)
		if binds <= bind {
			return left
		}
		p.take()
		inner := binds
		if sign == ".." {
			inner-- // one more of them on the right is part of the right side
		}
		right := p.above(inner, level+1)
		left = api.Node{Kind: api.NBin, Text: sign, At: left.At, L: []api.Node{left, right}}
	}
}

func (p *parser) operand(level int) api.Node {
	tok := p.look()
	switch tok.Kind {
	case api.TokNumber:
		return api.Node{Kind: api.NNumber, V: tok.V, At: p.take().At}
	case api.TokText:
		return api.Node{Kind: api.NText, Text: tok.Says, At: p.take().At}
	}
	switch tok.Text {
	case "nil":
		return api.Node{Kind: api.NNil, At: p.take().At}
	case "true":
		return api.Node{Kind: api.NTrue, At: p.take().At}
	case "false":
		return api.Node{Kind: api.NFalse, At: p.take().At}
	case "function":
		return p.body(p.take().At, level)
	case "{":
		return p.table(level)
	case "not", "#", "-":
		p.take()
		return api.Node{Kind: api.NUn, Text: tok.Text, At: tok.At, L: []api.Node{p.above(bindsOne, level+1)}}
	}
	n, _ := p.suffixed(level)
	return n
}

// suffixed also tells whether it is parentheses with nothing behind them, of which the tree says nothing.
func (p *parser) suffixed(level int) (n api.Node, grouped bool) {
	at := p.begin(level)
	grouped = p.is("(")
	n = p.stem(level)
	for {
		switch {
		case p.took("."):
			n = api.Node{Kind: api.NIndex, At: at, L: []api.Node{n, p.key()}}
		case p.took("["):
			n = api.Node{Kind: api.NIndex, At: at, L: []api.Node{n, p.expr(level + 1)}}
			p.need("]")
		case p.took("("):
			n = api.Node{Kind: api.NCall, At: at, L: append([]api.Node{n}, p.arguments(level+1)...)}
		default:
			return n, grouped
		}
		grouped = false
	}
}

func (p *parser) stem(level int) api.Node {
	if !p.took("(") {
		return p.name()
	}
	n := p.expr(level + 1)
	p.need(")")
	return n
}

func (p *parser) arguments(level int) []api.Node {
	if p.took(")") {
		return nil
	}
	l := p.list(level)
	p.need(")")
	return l
}

func (p *parser) table(level int) api.Node {
	n := api.Node{Kind: api.NTable, At: p.take().At}
	for !p.is("}") {
		n.L = append(n.L, p.item(level+1))
		if !p.took(",") {
			break
		}
	}
	p.need("}")
	return n
}

func (p *parser) item(level int) api.Node {
	at := p.at()
	if !p.is("[") && !(p.isName() && p.ahead(1).Text == "=") {
		return api.Node{Kind: api.NItem, At: at, L: []api.Node{p.expr(level)}}
	}
	key := p.itemKey(level)
	p.need("=")
	return api.Node{Kind: api.NPair, At: at, L: []api.Node{key, p.expr(level)}}
}

func (p *parser) itemKey(level int) api.Node {
	if !p.took("[") {
		return p.key()
	}
	key := p.expr(level)
	p.need("]")
	return key
}

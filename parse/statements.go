package parse

import "heirloom/api"

// block ends ahead of the first token that may stand behind a block; whether it may stand behind this one, who asked for it knows.
func (p *parser) block(level int) api.Node {
	n := api.Node{Kind: api.NBlock, At: p.begin(level)}
	for !p.endsBlock() {
		switch {
		case p.took(";"):
		case p.is("return"):
			n.L = append(n.L, p.returned(level))
			return n
		default:
			n.L = append(n.L, p.statement(level))
		}
	}
	return n
}

func (p *parser) endsBlock() bool {
	return p.ended() || p.is("end") || p.is("else") || p.is("elseif")
}

// statement is one of a block on that level.
func (p *parser) statement(level int) api.Node {
	switch p.look().Text {
	case "local":
		return p.local(level)
	case "function":
		return p.function(level)
	case "if":
		return p.choice(level)
	case "while":
		return p.while(level)
	case "for":
		return p.count(level)
	case "do":
		return api.Node{Kind: api.NGroup, At: p.at(), L: []api.Node{p.doBlock(level)}}
	case "break":
		return api.Node{Kind: api.NBreak, At: p.take().At}
	}
	return p.callOrAssign(level)
}

func (p *parser) returned(level int) api.Node {
	n := api.Node{Kind: api.NReturn, At: p.take().At}
	if !p.is(";") && !p.endsBlock() {
		n.L = p.list(level + 1)
	}
	p.took(";")
	return n
}

func (p *parser) local(level int) api.Node {
	at := p.take().At
	if p.is("function") {
		name, f := p.named(level + 1)
		return api.Node{Kind: api.NLocalFunc, At: at, L: []api.Node{name, f}}
	}
	n := api.Node{Kind: api.NLocal, At: at, L: p.names()}
	n.Count = len(n.L)
	if p.took("=") {
		n.L = append(n.L, p.list(level+1)...)
	}
	return n
}

func (p *parser) function(level int) api.Node {
	name, f := p.named(level + 1)
	return api.Node{Kind: api.NAssign, Count: 1, At: f.At, L: []api.Node{name, f}}
}

// named is a function whose name stands within it. It is on the level of an expression, as it would be with its name ahead of it and a = between them.
func (p *parser) named(level int) (name, f api.Node) {
	at := p.begin(level)
	p.need("function")
	name = p.name()
	return name, p.body(at, level)
}

// body is the function on that level which begins at at.
func (p *parser) body(at, level int) api.Node {
	n := api.Node{Kind: api.NFunc, At: at}
	p.need("(")
	if !p.is(")") {
		n.L = p.names()
	}
	p.need(")")
	n.L = append(n.L, p.block(level+1))
	p.need("end")
	return n
}

func (p *parser) choice(level int) api.Node {
	n := api.Node{Kind: api.NIf, At: p.at()}
	for more := true; more; more = p.is("elseif") {
		p.take()
		n.L = append(n.L, p.expr(level+1))
		p.need("then")
		n.L = append(n.L, p.block(level+1))
	}
	if p.took("else") {
		n.L = append(n.L, p.block(level+1))
	}
	p.need("end")
	return n
}

func (p *parser) while(level int) api.Node {
	at := p.take().At
	condition := p.expr(level + 1)
	return api.Node{Kind: api.NWhile, At: at, L: []api.Node{condition, p.doBlock(level)}}
}

func (p *parser) count(level int) api.Node {
	n := api.Node{Kind: api.NFor, At: p.take().At}
	n.L = append(n.L, p.name())
	p.need("=")
	n.L = append(n.L, p.expr(level+1))
	p.need(",")
	n.L = append(n.L, p.expr(level+1))
	if p.took(",") {
		n.L = append(n.L, p.expr(level+1))
	}
	n.L = append(n.L, p.doBlock(level))
	return n
}

// doBlock is the block between do and end of a statement.
func (p *parser) doBlock(level int) api.Node {
	p.need("do")
	n := p.block(level + 1)
	p.need("end")
	return n
}

// callOrAssign is a statement that begins with an expression.
func (p *parser) callOrAssign(level int) api.Node {
	if !p.isName() && !p.is("(") {
		panic(p.wrong())
	}
	at := p.at()
	first, grouped := p.suffixed(level + 1)
	if first.Kind == api.NCall && !grouped {
		return api.Node{Kind: api.NDo, At: at, L: []api.Node{first}}
	}
	p.checkTarget(first, grouped)
	n := api.Node{Kind: api.NAssign, At: at, L: []api.Node{first}}
	for p.took(",") {
		target, grouped := p.suffixed(level + 1)
		p.checkTarget(target, grouped)
		n.L = append(n.L, target)
	}
	n.Count = len(n.L)
	p.need("=")
	n.L = append(n.L, p.list(level+1)...)
	return n
}

// checkTarget stops behind what is no target: up to there it could have become one.
func (p *parser) checkTarget(n api.Node, grouped bool) {
	if grouped || n.Kind != api.NName && n.Kind != api.NIndex {
		panic(p.wrong())
	}
}

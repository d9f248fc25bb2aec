package parse

import (
	"heirloom/api"
	"heirloom/num"
	"heirloom/text"
)

// printer puts down a tree's tokens.
type printer struct{ made []string }

// put passes over texts without bytes: they are no tokens, and no blank parts them from others.
func (p *printer) put(l ...string) {
	for _, s := range l {
		if s != "" {
			p.made = append(p.made, s)
		}
	}
}

// tree asks for the parts first: what comes then relies on them.
func (p *printer) tree(n api.Node) {
	switch {
	case !hasParts(n):
	case n.Kind < api.NBlock:
		p.expr(n)
	default:
		p.statement(n)
	}
}

func (p *printer) expr(n api.Node) {
	switch n.Kind {
	case api.NNil:
		p.put("nil")
	case api.NTrue:
		p.put("true")
	case api.NFalse:
		p.put("false")
	case api.NNumber:
		p.put(num.Text(n.V))
	case api.NText:
		p.put(text.Quote(n.Text))
	case api.NName:
		p.put(n.Text)
	case api.NFunc:
		p.put("function")
		p.body(n)
	case api.NBin:
		p.put("(")
		p.tree(n.L[0])
		p.put(n.Text)
		p.tree(n.L[1])
		p.put(")")
	case api.NUn:
		p.put("(", n.Text)
		p.tree(n.L[0])
		p.put(")")
	case api.NIndex:
		p.head(n.L[0])
		p.key(n.L[1])
	case api.NCall:
		p.head(n.L[0])
		p.enclosed("(", n.L[1:], ")")
	case api.NTable:
		p.enclosed("{", n.L, "}")
	case api.NItem:
		p.tree(n.L[0])
	case api.NPair:
		p.key(n.L[0])
		p.put("=")
		p.tree(n.L[1])
	}
}

func (p *printer) statement(n api.Node) {
	switch n.Kind {
	case api.NBlock:
		for _, s := range n.L {
			p.tree(s)
			p.put(";")
		}
	case api.NLocal:
		p.put("local")
		p.list(n.L[:n.Count])
		if len(n.L) > n.Count {
			p.put("=")
			p.list(n.L[n.Count:])
		}
	case api.NAssign:
		p.list(n.L[:n.Count])
		p.put("=")
		p.list(n.L[n.Count:])
	case api.NDo:
		p.tree(n.L[0])
	case api.NIf:
		p.choice(n.L)
	case api.NWhile:
		p.put("while")
		p.tree(n.L[0])
		p.doBlock(n.L[1])
	case api.NFor:
		last := len(n.L) - 1
		p.put("for")
		p.tree(n.L[0])
		p.put("=")
		p.list(n.L[1:last])
		p.doBlock(n.L[last])
	case api.NReturn:
		p.put("return")
		p.list(n.L)
	case api.NBreak:
		p.put("break")
	case api.NLocalFunc:
		p.put("local", "function")
		p.tree(n.L[0])
		if hasParts(n.L[1]) {
			p.body(n.L[1])
		}
	case api.NGroup:
		p.doBlock(n.L[0])
	}
}

func (p *printer) list(l []api.Node) {
	for i, n := range l {
		if i > 0 {
			p.put(",")
		}
		p.tree(n)
	}
}

func (p *printer) enclosed(open string, l []api.Node, end string) {
	p.put(open)
	p.list(l)
	p.put(end)
}

// head is what stands ahead of [ or (: a suffixed expression goes on there by itself, all others end.
func (p *printer) head(n api.Node) {
	switch n.Kind {
	case api.NName, api.NIndex, api.NCall:
		p.tree(n)
	default:
		p.enclosed("(", []api.Node{n}, ")")
	}
}

func (p *printer) key(n api.Node) { p.enclosed("[", []api.Node{n}, "]") }

// body is a function without the word function, behind which its name may stand.
func (p *printer) body(n api.Node) {
	last := len(n.L) - 1
	p.enclosed("(", n.L[:last], ")")
	p.tree(n.L[last])
	p.put("end")
}

func (p *printer) doBlock(n api.Node) {
	p.put("do")
	p.tree(n)
	p.put("end")
}

func (p *printer) choice(l []api.Node) {
	word := "if"
	for len(l) > 1 {
		p.put(word)
		p.tree(l[0])
		p.put("then")
		p.tree(l[1])
		word, l = "elseif", l[2:]
	}
	if len(l) == 1 {
		p.put("else")
		p.tree(l[0])
	}
	p.put("end")
}

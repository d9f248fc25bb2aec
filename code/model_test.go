package code_test

import (
	"math/rand"
	"slices"
	"testing"

	"heirloom/api"
	"heirloom/code"
	"heirloom/num"
	"heirloom/parse"
	"heirloom/scope"
)

// The model writes each function down as lines that tell constants, ups, kids and jumps by what they mean; all numbers are found afterwards, by going through the finished lines.

type owner struct{ of, number int }

// line is an instruction, or (op 0) a label that stands there.
type line struct {
	op, a, b, c int
	is          api.Const
	up          owner
	kid         int
	label       int
}

type modelled struct {
	params int
	vars   int // one more than the greatest register of a variable
	lines  []line
	ups    []owner
	around int
}

type model struct {
	uses   map[int]api.Use
	lies   map[owner]int
	funs   []modelled
	labels int
}

func (m *model) label() int {
	m.labels++
	return m.labels
}

func join(parts ...[]line) []line { return slices.Concat(parts...) }

func at(op, a, b, c int) []line { return []line{{op: op, a: a, b: b, c: c}} }

func here(label int) []line { return []line{{label: label}} }

func to(op, r, label int) []line { return []line{{op: op, a: r, label: label}} }

func constOf(r int, v api.Value, s string) []line {
	return []line{{op: api.IConst, a: r, is: api.Const{V: v, S: s}}}
}

// says is the number that an expression of numbers alone says.
func says(e api.Node) (api.Value, bool) {
	ops := map[string]int{"+": num.Add, "-": num.Sub, "*": num.Mul, "/": num.Div, "//": num.IDiv, "%": num.Mod}
	switch {
	case e.Kind == api.NNumber:
		return e.V, true
	case e.Kind == api.NUn && e.Text == "-":
		if v, is := says(e.L[0]); is {
			v, err := num.Neg(v)
			return v, err == api.OK
		}
	case e.Kind == api.NBin && ops[e.Text] > 0:
		a, is := says(e.L[0])
		b, too := says(e.L[1])
		if is && too {
			v, err := num.Op(ops[e.Text], a, b)
			return v, err == api.OK
		}
	}
	return api.Value{}, false
}

func (m *model) expr(f int, e api.Node, r int) []line {
	if v, is := says(e); is {
		return constOf(r, v, "")
	}
	switch e.Kind {
	case api.NNil:
		return at(api.INil, r, 0, 0)
	case api.NTrue:
		return at(api.IBool, r, 1, 0)
	case api.NFalse:
		return at(api.IBool, r, 0, 0)
	case api.NText:
		return constOf(r, api.Value{T: api.TStr}, e.Text)
	case api.NName:
		return m.read(f, e, r)
	case api.NFunc:
		return []line{{op: api.IClosure, a: r, kid: m.fun(f, e)}}
	case api.NBin:
		return m.two(f, e, r)
	case api.NUn:
		op := map[string]int{"-": api.INeg, "not": api.INot, "#": api.ILen}[e.Text]
		return join(m.expr(f, e.L[0], r), at(op, r, r, 0))
	case api.NIndex:
		return join(m.expr(f, e.L[0], r), m.expr(f, e.L[1], r+1), at(api.IIndex, r, r, r+1))
	case api.NCall:
		return m.call(f, e, r, 1)
	}
	out, k := at(api.ITable, r, 0, 0), int64(1)
	for _, item := range e.L {
		if item.Kind == api.NItem {
			out = join(out, constOf(r+1, num.Int(k), ""))
			k++
		} else {
			out = join(out, m.expr(f, item.L[0], r+1))
		}
		out = join(out, m.expr(f, item.L[len(item.L)-1], r+2), at(api.ISetIndex, r, r+1, r+2))
	}
	return out
}

func (m *model) two(f int, e api.Node, r int) []line {
	left := m.expr(f, e.L[0], r)
	switch e.Text {
	case "and", "or":
		x := m.label()
		return join(left, to(map[string]int{"and": api.IJumpNot, "or": api.IJumpIf}[e.Text], r, x), m.expr(f, e.L[1], r), here(x))
	}
	both := join(left, m.expr(f, e.L[1], r+1))
	switch e.Text {
	case "~=":
		return join(both, at(api.IEq, r, r, r+1), at(api.INot, r, r, 0))
	case ">":
		return join(both, at(api.ILt, r, r+1, r))
	case ">=":
		return join(both, at(api.ILe, r, r+1, r))
	}
	op := api.IAdd + slices.Index([]string{"+", "-", "*", "/", "//", "%", "..", "==", "<", "<="}, e.Text)
	return join(both, at(op, r, r, r+1))
}

func (m *model) read(f int, e api.Node, r int) []line {
	u := m.uses[e.At]
	v := owner{u.Of, u.Var}
	switch {
	case u.Var < 0:
		return []line{{op: api.IGetGlobal, a: r, is: api.Const{V: api.Value{T: api.TStr}, S: e.Text}}}
	case u.Of != f:
		return []line{{op: api.IGetUp, a: r, up: v}}
	case u.Held:
		return at(api.IGetBox, r, m.lies[v], 0)
	}
	return at(api.IMove, r, m.lies[v], 0)
}

func (m *model) write(f int, e api.Node, r int) []line {
	u := m.uses[e.At]
	v := owner{u.Of, u.Var}
	switch {
	case u.Var < 0:
		return []line{{op: api.ISetGlobal, b: r, is: api.Const{V: api.Value{T: api.TStr}, S: e.Text}}}
	case u.Of != f:
		return []line{{op: api.ISetUp, b: r, up: v}}
	case u.Held:
		return at(api.ISetBox, m.lies[v], r, 0)
	}
	return at(api.IMove, m.lies[v], r, 0)
}

func (m *model) row(f int, l []api.Node, r int) []line {
	var out []line
	for i, e := range l {
		out = join(out, m.expr(f, e, r+i))
	}
	return out
}

func (m *model) call(f int, e api.Node, r, answers int) []line {
	return join(m.row(f, e.L, r), at(api.ICall, r, len(e.L)-1, answers))
}

func (m *model) list(f int, l []api.Node, n, r int) []line {
	last := len(l) - 1
	if last >= 0 && last < n && l[last].Kind == api.NCall {
		return join(m.row(f, l[:last], r), m.call(f, l[last], r+last, n-last))
	}
	out := m.row(f, l, r)
	for i := len(l); i < n; i++ {
		out = join(out, at(api.INil, r+i, 0, 0))
	}
	return out
}

// know gives names registers from r on, with the boxes of those that are held.
func (m *model) know(f int, names []api.Node, r int) []line {
	var out []line
	for i, n := range names {
		u := m.uses[n.At]
		m.lies[owner{u.Of, u.Var}] = r + i
		m.funs[f].vars = max(m.funs[f].vars, r+i+1)
		if u.Held {
			out = join(out, at(api.INewBox, r+i, 0, 0))
		}
	}
	return out
}

func (m *model) fun(around int, e api.Node) int {
	last := len(e.L) - 1
	f := len(m.funs)
	m.funs = append(m.funs, modelled{params: last, around: around})
	first := m.know(f, e.L[:last], 0)
	lines := join(first, m.block(f, e.L[last], last, 0), at(api.IReturn, 0, 0, 0))
	m.funs[f].lines = lines
	return f
}

// block: behind it the first free register is what it was ahead of it, as nobody is told another one. end: the label of the innermost loop's.
func (m *model) block(f int, n api.Node, r, end int) []line {
	var out []line
	for _, s := range n.L {
		out = join(out, m.statement(f, s, r, end))
		switch s.Kind {
		case api.NLocal:
			r += s.Count
		case api.NLocalFunc:
			r++
		}
	}
	return out
}

func (m *model) statement(f int, n api.Node, r, end int) []line {
	last := len(n.L) - 1
	switch n.Kind {
	case api.NLocal:
		l := m.list(f, n.L[n.Count:], n.Count, r)
		return join(l, m.know(f, n.L[:n.Count], r))
	case api.NAssign:
		return m.assign(f, n.L[:n.Count], n.L[n.Count:], r)
	case api.NDo:
		return m.call(f, n.L[0], r, 0)
	case api.NIf:
		return m.choice(f, n.L, r, end)
	case api.NWhile:
		y, x := m.label(), m.label()
		return join(here(y), m.expr(f, n.L[0], r), to(api.IJumpNot, r, x), m.block(f, n.L[1], r, x), to(api.IJump, 0, y), here(x))
	case api.NFor:
		z, x := m.label(), m.label()
		out := m.row(f, n.L[1:last], r)
		if len(n.L) == 4 {
			out = join(out, constOf(r+2, num.Int(1), ""))
		}
		box := m.know(f, n.L[:1], r+3)
		return join(out, to(api.IForPrep, r, x), here(z), box, m.block(f, n.L[last], r+4, x), to(api.IForLoop, r, z), here(x))
	case api.NReturn:
		if len(n.L) == 1 && n.L[0].Kind == api.NCall {
			return join(m.row(f, n.L[0].L, r), at(api.ITailCall, r, len(n.L[0].L)-1, 0))
		}
		return join(m.row(f, n.L, r), at(api.IReturn, r, len(n.L), 0))
	case api.NBreak:
		return to(api.IJump, 0, end)
	case api.NLocalFunc:
		box := m.know(f, n.L[:1], r)
		if len(box) == 0 {
			return m.expr(f, n.L[1], r)
		}
		return join(at(api.INil, r, 0, 0), box, m.expr(f, n.L[1], r+1), at(api.ISetBox, r, r+1, 0))
	}
	return m.block(f, n.L[0], r, end)
}

func (m *model) choice(f int, l []api.Node, r, end int) []line {
	if len(l) == 1 {
		return m.block(f, l[0], r, end)
	}
	x := m.label()
	first := join(m.expr(f, l[0], r), to(api.IJumpNot, r, x), m.block(f, l[1], r, end))
	if len(l) == 2 {
		return join(first, here(x))
	}
	past := m.label()
	return join(first, to(api.IJump, 0, past), here(x), m.choice(f, l[2:], r, end), here(past))
}

func (m *model) assign(f int, targets, list []api.Node, r int) []line {
	var out []line
	next := r
	for _, t := range targets {
		if t.Kind == api.NIndex {
			out = join(out, m.row(f, t.L, next))
			next += 2
		}
	}
	out = join(out, m.list(f, list, len(targets), next))
	for i, t := range targets {
		if t.Kind == api.NIndex {
			out = join(out, at(api.ISetIndex, r, r+1, next+i))
			r += 2
		} else {
			out = join(out, m.write(f, t, next+i))
		}
	}
	return out
}

// finish finds a function's numbers. Those of functions within must have been found ahead.
func (m *model) finish(f int) api.Proto {
	p := api.Proto{Params: m.funs[f].params, Regs: m.funs[f].vars}
	places := map[int]int{}
	n := 0
	for _, l := range m.funs[f].lines {
		if l.op == 0 {
			places[l.label] = n
		} else {
			n++
		}
	}
	ask := func(v owner) int {
		ups := &m.funs[f].ups
		if !slices.Contains(*ups, v) {
			*ups = append(*ups, v)
		}
		return slices.Index(*ups, v)
	}
	for _, l := range m.funs[f].lines {
		i := api.Ins{Op: l.op, A: l.a, B: l.b, C: l.c}
		switch l.op {
		case 0:
			continue
		case api.IConst, api.IGetGlobal, api.ISetGlobal:
			if !slices.Contains(p.Consts, l.is) {
				p.Consts = append(p.Consts, l.is)
			}
			if k := slices.Index(p.Consts, l.is); l.op == api.ISetGlobal {
				i.A = k
			} else {
				i.B = k
			}
		case api.IGetUp:
			i.B = ask(l.up)
		case api.ISetUp:
			i.A = ask(l.up)
		case api.IClosure:
			for _, v := range m.funs[l.kid].ups {
				if v.of != f {
					ask(v)
				}
			}
			i.B = len(p.Kids)
			p.Kids = append(p.Kids, l.kid)
		case api.IJump:
			i.A = places[l.label]
		case api.IJumpIf, api.IJumpNot, api.IForPrep, api.IForLoop:
			i.B = places[l.label]
		}
		p.Regs = max(p.Regs, modelReach(i))
		p.Code = append(p.Code, i)
	}
	return p
}

// modelReach is one more than the greatest register that an instruction puts into, or finds something put into.
func modelReach(i api.Ins) int {
	switch i.Op {
	case api.ISetUp, api.ISetGlobal:
		return i.B + 1
	case api.IJump:
		return 0
	case api.IForPrep, api.IForLoop:
		return i.A + 4
	case api.ICall:
		return i.A + max(i.B+1, i.C)
	case api.ITailCall:
		return i.A + i.B + 1
	case api.IReturn:
		return i.A + i.B
	}
	return i.A + 1
}

// modelProgram is a source's program, or how many registers are needed too many.
func modelProgram(tree api.Node, uses []api.Use) (api.Program, bool) {
	m := &model{uses: map[int]api.Use{}, lies: map[owner]int{}}
	for _, u := range uses {
		m.uses[u.At] = u
	}
	m.fun(-1, api.Node{Kind: api.NFunc, L: []api.Node{tree}})
	p := api.Program{Protos: make([]api.Proto, len(m.funs))}
	fits := true
	for f := len(m.funs) - 1; f >= 0; f-- {
		p.Protos[f] = m.finish(f)
		fits = fits && p.Protos[f].Regs <= api.MaxRegs
	}
	for f := range p.Protos {
		for _, v := range m.funs[f].ups {
			around := m.funs[f].around
			if v.of == around {
				p.Protos[f].Ups = append(p.Protos[f].Ups, api.Up{Local: true, Index: m.lies[v]})
			} else {
				p.Protos[f].Ups = append(p.Protos[f].Ups, api.Up{Index: slices.Index(m.funs[around].ups, v)})
			}
		}
	}
	return p, fits
}

// modelStray is the least place of a break that is in no loop of its function; -1.
func modelStray(n api.Node, loops int) int {
	out := -1
	if n.Kind == api.NBreak && loops == 0 {
		out = n.At
	}
	for i, part := range n.L {
		inner := loops
		if n.Kind == api.NFunc {
			inner = 0
		} else if (n.Kind == api.NWhile || n.Kind == api.NFor) && i == len(n.L)-1 {
			inner++
		}
		if at := modelStray(part, inner); at >= 0 && (out < 0 || at < out) {
			out = at
		}
	}
	return out
}

// checkModel holds what Compile says of any source against the model, and what follows.
func checkModel(t *testing.T, src string) api.Errno {
	t.Helper()
	uses, at, err := scope.Resolve(src)
	if err != api.OK {
		checkWrong(t, src, at, err)
		return err
	}
	tree, _, _ := parse.Parse(src)
	checkFolded(t, tree)
	if at = modelStray(tree, 0); at >= 0 {
		checkWrong(t, src, at, api.ErrState)
		return api.ErrState
	}
	want, fits := modelProgram(tree, uses)
	if !fits {
		checkWrong(t, src, 0, api.ErrMany)
		return api.ErrMany
	}
	p, at, err := code.Compile(src)
	if got, want := listings(p), listings(want); got != want || at != 0 || err != api.OK {
		t.Fatalf("Compile(%q), %d, %v:\n%s\nwant:\n%s", src, at, err, got, want)
	}
	checkFollows(t, src, p)
	return api.OK
}

// TestP10Made: all of the layer over sources that are made, most of them right.
func TestP10Made(t *testing.T) {
	r := rand.New(rand.NewSource(10))
	count := map[api.Errno]int{}
	for n := range 6000 {
		count[checkModel(t, newMaker(r, 5+r.Intn(20+n%300), n%3).source())]++
	}
	if count[api.OK] < 3000 || count[api.ErrState] < 500 {
		t.Error(count)
	}
}

// TestP10MadeWide: sources with very many registers, near the limit.
func TestP10MadeWide(t *testing.T) {
	r := rand.New(rand.NewSource(11))
	count := map[api.Errno]int{}
	for range 1000 {
		m := newMaker(r, 60, 0)
		for range 20 + r.Intn(41) {
			m.tok("local")
			m.name()
		}
		m.tok("a", "(", "1")
		for range 20 + r.Intn(90) {
			m.tok(",")
			m.expr()
		}
		m.tok(")")
		count[checkModel(t, m.source())]++
	}
	if count[api.OK] < 300 || count[api.ErrMany] < 300 {
		t.Error(count)
	}
}

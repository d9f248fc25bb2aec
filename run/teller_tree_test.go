package run_test

import (
	"strings"

	"heirloom/api"
	"heirloom/num"
	"heirloom/table"
)

// Statements.

func (t *teller) block(n api.Node, e *env) leaving {
	for _, s := range n.L {
		var l leaving
		if e, l = t.statement(s, e); l.broken || l.returned {
			return l
		}
	}
	return leaving{}
}

// statement is what is known behind a statement, and whether the block is left.
func (t *teller) statement(n api.Node, e *env) (*env, leaving) {
	switch n.Kind {
	case api.NLocal:
		l := t.list(n.L[n.Count:], n.Count, e)
		for i, name := range n.L[:n.Count] {
			e = t.known(e, name, l[i])
		}
		for _, name := range n.L[:n.Count] {
			t.box(name)
		}
	case api.NLocalFunc:
		held := t.uses[n.L[0].At].Held
		e = t.known(e, n.L[0], api.Value{})
		if held {
			t.step(2)
			t.trace.Made++
		}
		*e.v = t.value(n.L[1], e)
		if held {
			t.step()
		}
	case api.NAssign:
		t.assign(n, e)
	case api.NDo:
		t.values(n.L[0], e)
	case api.NGroup:
		return e, t.block(n.L[0], e)
	case api.NIf:
		return e, t.choice(n, e)
	case api.NWhile:
		return e, t.while(n, e)
	case api.NFor:
		return e, t.forLoop(n, e)
	case api.NBreak:
		t.step()
		return e, leaving{broken: true}
	case api.NReturn:
		if len(n.L) == 1 && n.L[0].Kind == api.NCall {
			return e, leaving{returned: true, called: true, values: t.called(n.L[0], e)}
		}
		l := t.list(n.L, -1, e)
		t.step()
		return e, leaving{returned: true, values: l}
	}
	return e, leaving{}
}

func (t *teller) assign(n api.Node, e *env) {
	var places []api.Value
	for _, x := range n.L[:n.Count] {
		if x.Kind == api.NIndex {
			places = append(places, t.value(x.L[0], e), t.value(x.L[1], e))
		}
	}
	l := t.list(n.L[n.Count:], n.Count, e)
	for i, x := range n.L[:n.Count] {
		t.step()
		switch u := t.uses[x.At]; {
		case x.Kind == api.NIndex:
			t.setIndex(places[0], places[1], l[i])
			places = places[2:]
		case u.Of < 0:
			t.set(t.globals, t.str(x.Text), l[i])
		default:
			*e.find(u) = l[i]
		}
	}
}

func (e *env) find(u api.Use) *api.Value {
	for ; ; e = e.up {
		if e.of == u.Of && e.num == u.Var {
			return e.v
		}
	}
}

func (t *teller) isTrue(n api.Node, e *env) bool {
	v := t.value(n, e)
	t.step() // the jump
	return truthy(v)
}

func (t *teller) choice(n api.Node, e *env) leaving {
	for i := 0; i < len(n.L); i += 2 {
		if i == len(n.L)-1 {
			return t.block(n.L[i], e)
		}
		if t.isTrue(n.L[i], e) {
			l := t.block(n.L[i+1], e)
			if i+2 < len(n.L) && !l.broken && !l.returned {
				t.step()
			}
			return l
		}
	}
	return leaving{}
}

func (t *teller) while(n api.Node, e *env) leaving {
	for t.isTrue(n.L[0], e) {
		l := t.block(n.L[1], e)
		if l.broken {
			break
		}
		if l.returned {
			return l
		}
		t.step()
	}
	return leaving{}
}

func (t *teller) forLoop(n api.Node, e *env) leaving {
	from, to, step := t.value(n.L[1], e), t.value(n.L[2], e), num.Int(1)
	if len(n.L) == 5 {
		step = t.value(n.L[3], e)
	} else {
		t.step()
	}
	t.step()
	if !num.Is(from) || !num.Is(to) || !num.Is(step) {
		t.throw(api.ErrType)
	}
	side, _ := num.Cmp(step, num.Int(0))
	if side == 0 && alike(step, num.Int(0)) {
		t.throw(api.ErrZero)
	}
	within := func(v api.Value) bool {
		c, is := num.Cmp(v, to)
		return is && (c == 0 || (c < 0) == (side >= 0))
	}
	for is := within(from); is; {
		known := t.known(e, n.L[0], from)
		t.box(n.L[0])
		l := t.block(n.L[len(n.L)-1], known)
		if l.broken {
			break
		}
		if l.returned {
			return l
		}
		t.step()
		next, err := num.Op(num.Add, from, step)
		if err != api.OK {
			t.throw(err)
		}
		c, ordered := num.Cmp(next, from)
		is = ordered && c != 0 && (c > 0) == (side > 0) && side != 0 && within(next)
		from = next
	}
	return leaving{}
}

// Expressions.

// list is as many values as are asked for; -1: one of each.
func (t *teller) list(l []api.Node, count int, e *env) []api.Value {
	var values []api.Value
	for i, n := range l {
		if n.Kind == api.NCall && i == len(l)-1 && i < count {
			more := append(t.values(n, e), make([]api.Value, count)...)
			return append(values, more[:count-i]...)
		}
		values = append(values, t.value(n, e))
	}
	for len(values) < count {
		t.step()
		values = append(values, api.Value{})
	}
	return values
}

// called is a function, and its arguments, which is to be called.
func (t *teller) called(n api.Node, e *env) []api.Value {
	l := t.list(n.L, -1, e)
	t.step()
	return l
}

func (t *teller) values(n api.Node, e *env) []api.Value {
	l := t.called(n, e)
	return t.call(l[0], l[1:]...)
}

func first(l []api.Value) api.Value { return append(l, api.Value{})[0] }

func (t *teller) value(n api.Node, e *env) api.Value {
	switch n.Kind {
	case api.NCall:
		return first(t.values(n, e))
	case api.NTable:
		return t.tableOf(n, e)
	case api.NBin, api.NUn:
		return t.sign(n, e)
	case api.NIndex:
		o, k := t.value(n.L[0], e), t.value(n.L[1], e)
		t.step()
		return t.index(o, k)
	}
	t.step()
	switch n.Kind {
	case api.NTrue, api.NFalse:
		return boolean(n.Kind == api.NTrue)
	case api.NNumber:
		return n.V
	case api.NText:
		return t.str(n.Text)
	case api.NFunc:
		return t.add(api.TFunc, entity{node: n, env: e})
	case api.NName:
		if u := t.uses[n.At]; u.Of >= 0 {
			return *e.find(u)
		}
		return t.get(t.globals, t.str(n.Text))
	}
	return api.Value{}
}

func (t *teller) tableOf(n api.Node, e *env) api.Value {
	t.step()
	o, items := t.add(api.TTable, entity{}), 0
	for _, x := range n.L {
		k := api.Value{}
		if x.Kind == api.NPair {
			k = t.value(x.L[0], e)
		} else {
			t.step()
			items++
			k = num.Int(int64(items))
		}
		v := t.value(x.L[len(x.L)-1], e)
		t.step()
		t.setIndex(o, k, v)
	}
	return o
}

func (t *teller) sign(n api.Node, e *env) api.Value {
	x := t.value(n.L[0], e)
	if n.Kind == api.NUn {
		t.step()
		return t.signOfOne(n.Text, x)
	}
	if n.Text == "and" || n.Text == "or" {
		t.step()
		if truthy(x) == (n.Text == "or") {
			return x
		}
		return t.value(n.L[1], e)
	}
	y := t.value(n.L[1], e)
	t.step()
	switch n.Text {
	case "==":
		return boolean(t.equal(x, y))
	case "~=":
		is := t.equal(x, y)
		t.step()
		return boolean(!is)
	case "<", "<=":
		return boolean(t.less(n.Text, x, y))
	case ">", ">=":
		return boolean(t.less(strings.Replace(n.Text, ">", "<", 1), y, x))
	case "..":
		if (x.T == api.TStr || num.Is(x)) && (y.T == api.TStr || num.Is(y)) {
			s := t.textOf(x) + t.textOf(y)
			if len(s) > api.MaxText {
				t.throw(api.ErrLong)
			}
			return t.str(s)
		}
		return first(t.handled("__concat", x, y))
	}
	names := map[string]string{"+": "__add", "-": "__sub", "*": "__mul", "/": "__div", "//": "__idiv", "%": "__mod"}
	ops := map[string]int{"+": num.Add, "-": num.Sub, "*": num.Mul, "/": num.Div, "//": num.IDiv, "%": num.Mod}
	v, err := num.Op(ops[n.Text], x, y)
	return t.reckoned(v, err, names[n.Text], x, y)
}

func (t *teller) reckoned(v api.Value, e api.Errno, name string, x, y api.Value) api.Value {
	if e == api.ErrType {
		return first(t.handled(name, x, y))
	}
	if e != api.OK {
		t.throw(e)
	}
	return v
}

func (t *teller) signOfOne(sign string, x api.Value) api.Value {
	switch sign {
	case "not":
		return boolean(!truthy(x))
	case "-":
		v, e := num.Neg(x)
		return t.reckoned(v, e, "__unm", x, x)
	}
	if h := t.has(x, "__len"); h.T != api.TNil {
		return first(t.call(h, x))
	}
	return t.length(x)
}

func (t *teller) length(x api.Value) api.Value {
	if x.T == api.TStr {
		return num.Int(int64(len(t.at(x).text)))
	}
	if x.T != api.TTable {
		t.throw(api.ErrType)
	}
	return num.Int(int64(table.Len(shelf{t, x})))
}

func alike(x, y api.Value) bool {
	if num.Is(x) && num.Is(y) {
		c, is := num.Cmp(x, y)
		return is && c == 0
	}
	return x == y
}

func (t *teller) equal(x, y api.Value) bool {
	is := alike(x, y)
	if !is && x.T == api.TTable && y.T == api.TTable && (t.has(x, "__eq").T != api.TNil || t.has(y, "__eq").T != api.TNil) {
		return truthy(first(t.handled("__eq", x, y)))
	}
	return is
}

func (t *teller) less(sign string, x, y api.Value) bool {
	c, is := 0, true
	switch {
	case num.Is(x) && num.Is(y):
		c, is = num.Cmp(x, y)
	case x.T == api.TStr && y.T == api.TStr:
		c = strings.Compare(t.at(x).text, t.at(y).text)
	default:
		return truthy(first(t.handled(map[string]string{"<": "__lt", "<=": "__le"}[sign], x, y)))
	}
	return is && (c < 0 || c == 0 && sign == "<=")
}

// Metatables.

// has is what a value's metatable has.
func (t *teller) has(v api.Value, name string) api.Value {
	if v.T != api.TTable || t.at(v).meta.T == api.TNil {
		return api.Value{}
	}
	return t.get(t.at(v).meta, t.str(name))
}

// handled is what the handler of the first one that has it answers.
func (t *teller) handled(name string, x, y api.Value) []api.Value {
	h := t.has(x, name)
	if h.T == api.TNil {
		h = t.has(y, name)
	}
	if h.T == api.TNil {
		t.throw(api.ErrType)
	}
	return t.call(h, x, y)
}

// last is the table in which a key is looked for, or the handler of its place.
func (t *teller) last(o, k api.Value, name string) (last, h api.Value) {
	for range api.MaxChain {
		if o.T != api.TTable {
			t.throw(api.ErrType)
		}
		h = t.has(o, name)
		if h.T == api.TNil || t.get(o, k).T != api.TNil {
			return o, api.Value{}
		}
		if h.T != api.TTable {
			return o, h
		}
		o = h
	}
	t.throw(api.ErrDeep)
	return
}

func (t *teller) index(o, k api.Value) api.Value {
	o, h := t.last(o, k, "__index")
	if h.T != api.TNil {
		return first(t.call(h, o, k))
	}
	return t.get(o, k)
}

func (t *teller) setIndex(o, k, v api.Value) {
	o, h := t.last(o, k, "__newindex")
	if h.T != api.TNil {
		t.call(h, o, k, v)
		return
	}
	t.set(o, k, v)
}

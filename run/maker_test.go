package run_test

import (
	"fmt"
	"math/rand"
	"slices"
	"strings"

	"heirloom/api"
	"heirloom/code"
)

// A maker writes sources that use the whole language. It knows the kinds of its variables, so that most of what they do goes well.
type maker struct {
	r      *rand.Rand
	metas  bool // with metatables
	drops  bool // with weak tables, finalisers, collecting
	left   int  // so many parts more
	known  []variable
	names  int
	loops  int  // within so many loops of the function
	yields bool // the function is a coroutine's
	ahead  int  // variables up to here are another function's
}

// A variable's kind: n a number, s a string, t a table, f a function (of a number and something, of a number and something), c a coroutine, x anything.
type variable struct {
	name string
	kind byte
}

func (m *maker) n(n int) int                 { return m.r.Intn(n) }
func (m *maker) pick(l ...string) string     { return l[m.n(len(l))] }
func (m *maker) f(s string, l ...any) string { return fmt.Sprintf(s, l...) }

// source is a program.
func (m *maker) source() string {
	var b strings.Builder
	b.WriteString("gn = 3 gs = \"g\" gt = {1, 2, 3, a = 1, b = \"x\"} gf = function(n, x) return n, x end gc = create(function(x) while true do x = yield(x, gn) end end) ")
	if m.drops {
		b.WriteString("gw = setmeta({}, {__mode = \"" + m.pick("k", "v", "kv") + "\"}) local fin = function(n) return setmeta({n}, {__gc = function(o) emit(\"gone\", n, o[1]) end}) end fin(0) ")
	}
	for range 3 + m.n(6) {
		m.left = 30 + m.n(40)
		if m.n(3) == 0 {
			b.WriteString(m.statement() + " ")
		} else {
			b.WriteString("do local ok, e, g = pcall(" + m.function() + ", " + m.number() + ", " + m.any() + ") emit(ok, e, g) end ")
		}
	}
	if m.n(3) == 0 {
		b.WriteString(m.pick("error("+m.any()+")", "return gf("+m.number()+", 1)", "local x = nil + 1", "return 1, 2"))
	}
	return b.String()
}

// short tells whether enough was written.
func (m *maker) short() bool {
	m.left--
	return m.left < 0
}

// within writes something in whose variables nobody else sees.
func (m *maker) within(write func() string) string {
	known := len(m.known)
	s := write()
	m.known = m.known[:known]
	return s
}

// local is a new variable.
func (m *maker) local(kind byte) string {
	name := m.f("%c%d", kind, m.names)
	if m.n(4) == 0 {
		name = m.f("%c", kind) // names that are the same
	} else {
		m.names++
	}
	m.known = append(m.known, variable{name, kind})
	return name
}

// name is a variable's that is known, or a global's, of a kind.
func (m *maker) name(kind byte) string {
	var l []string
	for _, v := range m.known {
		if v.kind == kind {
			l = append(l, v.name)
		}
	}
	if len(l) == 0 || m.n(4) == 0 {
		return m.f("g%c", kind)
	}
	return l[m.n(len(l))]
}

func (m *maker) block() string {
	return m.within(func() string {
		var l []string
		for range 1 + m.n(3) {
			l = append(l, m.statement())
		}
		return strings.Join(l, " ")
	})
}

func (m *maker) statement() string {
	if m.short() || len(m.known) > 30 {
		return m.pick("emit(gn, gs)", "gn = gn + 1", "gt.a = gn", "gs = gs .. 1", "emit(#gt, next(gt))")
	}
	if m.drops && m.n(5) == 0 {
		return m.dropping()
	}
	if m.metas && m.n(5) == 0 {
		return m.meta()
	}
	switch m.n(17) {
	case 0, 1:
		kind := "nnstfcx"[m.n(7)]
		e := m.of(kind)
		return "local " + m.local(kind) + " = " + e
	case 2:
		e := m.number() + ", " + m.string()
		return m.f("local %s, %s = %s", m.local('n'), m.local('s'), e)
	case 3:
		kind := "nnstf"[m.n(5)]
		return m.name(kind) + " = " + m.of(kind)
	case 4:
		a, b := m.name('n'), m.name('n')
		return m.pick(a+", "+b+" = "+b+", "+a, a+", gt[1] = "+m.number()+", "+m.any(), "gt[gn], gn = "+m.any()+", "+m.number(), a+", "+m.name('x')+" = "+m.call())
	case 5, 6:
		return m.table() + m.pick(".a", ".b", "["+m.number()+"]", "["+m.string()+"]", "["+m.any()+"]") + " = " + m.any()
	case 7:
		return m.choice()
	case 8:
		return m.while()
	case 9:
		return m.forLoop()
	case 10:
		return m.pick("do "+m.block()+" end", "; ;", "do end")
	case 11:
		return m.recursive()
	case 12, 13:
		return "emit(" + m.any() + ", " + m.any() + ")"
	case 14:
		return m.within(func() string {
			e := m.call()
			a, b, c := m.local('x'), m.local('x'), m.local('x')
			return m.f("do local %s, %s, %s = %s emit(%s, %s, %s) end", a, b, c, e, a, b, c)
		})
	case 15:
		return m.leaving()
	}
	return m.walk()
}

// leaving goes out of something.
func (m *maker) leaving() string {
	switch {
	case m.yields && m.n(2) == 0:
		return m.within(func() string {
			e := m.any()
			x := m.local('x')
			return m.f("do local %s = yield(%s) emit(%s) end", x, e, x)
		})
	case m.loops > 0 && m.n(2) == 0:
		return "if " + m.condition() + " then break end"
	}
	return "if " + m.condition() + " then " + m.pick("error("+m.any()+")", "return "+m.call(), "return "+m.number()+", "+m.any(), "return") + " end"
}

func (m *maker) choice() string {
	s := "if " + m.condition() + " then " + m.block()
	for range m.n(3) {
		s += " elseif " + m.any() + " then " + m.block()
	}
	if m.n(2) == 0 {
		s += " else " + m.block()
	}
	return s + " end"
}

func (m *maker) while() string {
	return m.within(func() string {
		i := m.local('n')
		m.loops++
		s := m.f("do local %s = 0 while %s < %d do %s = %s + 1 %s end end", i, i, 1+m.n(4), i, i, m.within(m.block))
		m.loops--
		return s
	})
}

func (m *maker) forLoop() string {
	from, to := m.pick("1", "3", "-2", "0.5", m.number()), m.pick("2", "3", "1.5", "4")
	step := m.pick("", "", ", 1", ", 2", ", 0.5", ", -1", ", "+m.number())
	if strings.HasPrefix(from, "(") || len(step) > 5 { // else it might go on for long
		from = "2"
	}
	return m.within(func() string {
		i := m.local('n')
		m.loops++
		s := m.f("for %s = %s, %s%s do %s %s end", i, from, to, step, m.block(), m.pick("", "", "if "+i+" > 5 then break end"))
		m.loops--
		return s
	})
}

// walk goes over a table, in whatever order its keys are met.
func (m *maker) walk() string {
	return m.within(func() string {
		t, i := m.table(), m.n(5)
		k, v := m.local('x'), m.local('x')
		return m.f("do local t, i = %s, 0 local %s, %s = next(t) while %s ~= nil and i < %d do i = i + 1 emit(%s, %s) %s %s, %s = next(t, %s) end end",
			t, k, v, k, 2+i, k, v, m.pick("", "t["+k+"] = nil", "t["+k+"] = i"), k, v, k)
	})
}

// recursive is a function that calls itself.
func (m *maker) recursive() string {
	name := m.local('f')
	body := m.functionOf(func(n, x string) string {
		again := m.pick("return "+name+"("+n+" - 1, "+m.any()+")", "local r = "+name+"("+n+" - 1, "+x+") emit(r) return r, "+n, "return ("+name+"("+n+" - 1))")
		return "if " + n + " < 1 then return " + m.number() + ", " + x + " end " + m.block() + " " + again
	})
	return m.pick("local function "+name, "local "+name+" "+name+" = function") + body + m.f(" emit(%s(%d, %s))", name, m.n(4), m.any())
}

// function is one of a number and something.
func (m *maker) function() string {
	if m.short() {
		return m.name('f')
	}
	return "function" + m.functionOf(func(n, x string) string {
		return m.block() + m.pick("", " return "+m.number()+", "+m.any(), " return "+m.call(), " return "+n)
	})
}

// functionOf is a function's parameters and body.
func (m *maker) functionOf(body func(n, x string) string) string {
	loops := m.loops
	m.loops = 0
	s := m.within(func() string {
		n, x := m.local('n'), m.local('x')
		return m.f("(%s, %s) %s end", n, x, body(n, x))
	})
	m.loops = loops
	return s
}

// coroutine is one that may yield.
func (m *maker) coroutine() string {
	if m.short() || m.n(3) == 0 {
		return m.name('c')
	}
	yields := m.yields
	m.yields = true
	s := "create(" + m.function() + ")"
	m.yields = yields
	return s
}

// of is an expression of a kind; now and then of another one.
func (m *maker) of(kind byte) string {
	if m.n(40) == 0 {
		return m.any()
	}
	switch kind {
	case 'n':
		return m.number()
	case 's':
		return m.string()
	case 't':
		return m.table()
	case 'f':
		return m.function()
	case 'c':
		return m.coroutine()
	}
	return m.any()
}

func (m *maker) any() string {
	if m.short() {
		return m.pick("gn", "gs", "nil", "true", m.name('x'))
	}
	switch m.n(14) {
	case 0, 1:
		return m.number()
	case 2:
		return m.string()
	case 3:
		return m.table()
	case 4:
		return m.function()
	case 5:
		return m.coroutine()
	case 6:
		return m.pick("nil", "true", "false", "emit", "next")
	case 7, 8:
		return m.name('x')
	case 9:
		return m.table() + m.pick(".a", ".b.c", "[1]", "["+m.any()+"]")
	case 10:
		return m.call()
	case 11:
		return "(" + m.any() + m.pick(" and ", " or ") + m.any() + ")"
	case 12:
		return m.condition()
	}
	return "(" + m.call() + ")"
}

func (m *maker) condition() string {
	if m.short() {
		return m.pick("gn > 3", "true", m.name('x'))
	}
	switch m.n(5) {
	case 0:
		return "(" + m.number() + m.pick(" < ", " <= ", " > ", " >= ", " == ", " ~= ") + m.number() + ")"
	case 1:
		return "(" + m.string() + m.pick(" < ", " <= ", " > ", " >= ", " == ") + m.string() + ")"
	case 2:
		return "(" + m.any() + m.pick(" == ", " ~= ") + m.any() + ")"
	case 3:
		return "not " + m.any()
	}
	return m.any()
}

func (m *maker) number() string {
	if m.short() {
		return m.pick("gn", "1", "2", "0.5", m.name('n'))
	}
	switch m.n(9) {
	case 0, 1, 2:
		return "(" + m.number() + m.pick(" + ", " - ", " * ", " + ", " - ", " / ", " // ", " % ") + m.number() + ")"
	case 3:
		return "#" + m.pick(m.table(), m.string())
	case 4:
		return "- " + m.number()
	case 5:
		return m.pick("0", "1", "3", "7")
	case 6:
		return m.pick("1", "2", "9223372036854775807", "0f7ff0000000000000", "2.5", "0.1")
	}
	return m.name('n')
}

func (m *maker) string() string {
	if m.short() {
		return m.pick("gs", `"k"`, m.name('s'))
	}
	return m.pick(m.name('s'), `"b"`, `"\x00\xff"`, "("+m.string()+" .. "+m.string()+")", `("n" .. `+m.number()+")", "type("+m.any()+")", "tostring("+m.any()+")")
}

func (m *maker) table() string {
	if m.short() {
		return m.pick("gt", "{}", m.name('t'))
	}
	switch m.n(6) {
	case 0:
		return "{" + m.any() + ", a = " + m.any() + ", [" + m.string() + "] = " + m.any() + "}"
	case 1:
		return m.pick("{}", "{1, 2, 3}", "{{}}")
	case 2:
		if m.metas {
			return "setmeta(" + m.table() + ", " + m.metatable() + ")"
		}
	}
	return m.name('t')
}

func (m *maker) call() string {
	switch m.n(9) {
	case 0:
		return "resume(" + m.coroutine() + ", " + m.any() + ", " + m.any() + ")"
	case 1:
		return "pcall(" + m.pick("", "pcall, ") + m.function() + ", " + m.number() + ", " + m.any() + ")"
	case 2:
		return m.pick("status(", "close(", "pcall(close, ", "pcall(status, ") + m.coroutine() + ")"
	case 3:
		return m.pick("rawget("+m.table()+", "+m.any()+")", "rawset("+m.table()+", "+m.string()+", "+m.any()+")", "rawlen("+m.table()+")", "rawequal("+m.any()+", "+m.any()+")", "next("+m.table()+")", "getmeta("+m.table()+")")
	case 4:
		return m.table() + "(" + m.any() + ")"
	}
	f := m.function()
	if strings.HasPrefix(f, "function") {
		f = "(" + f + ")"
	}
	return f + "(" + m.number() + ", " + m.any() + ")"
}

// dropping uses what collecting does.
func (m *maker) dropping() string {
	return m.pick("collect()", "gt.b = fin("+m.number()+")", "fin("+m.number()+")", "gw["+m.any()+"] = "+m.any(), "gw[{}] = {}", "gw[gt] = {} gw[1] = gt",
		"for i = 1, 3 do collect() end", "emit(next(gw))", "setmeta(fin(1), {__gc = "+m.function()+"})")
}

// meta uses metatables.
func (m *maker) meta() string {
	t := m.name('t')
	return m.pick(
		"setmeta("+t+", "+m.metatable()+")",
		"emit("+t+m.pick(" + ", " - ", " * ", " / ", " // ", " % ", " .. ", " < ", " <= ", " == ", " > ", " >= ", " ~= ")+m.pick(m.any(), m.name('t'), "{}")+")",
		"emit(- "+t+", #"+t+", "+t+"("+m.any()+"), "+t+".zz)",
		t+".zz = "+m.any(),
	)
}

var events = []string{"__index", "__newindex", "__call", "__add", "__sub", "__mul", "__div", "__idiv", "__mod", "__concat", "__eq", "__lt", "__le", "__unm", "__len"}

func (m *maker) metatable() string {
	if m.short() {
		return m.pick("{}", "nil", "{__index = gt}", "{__add = gf, __index = gf}")
	}
	l := slices.Clone(events)
	if m.drops {
		l = append(l, "__gc", "__mode")
	}
	var made []string
	for range 1 + m.n(5) {
		name := l[m.n(len(l))]
		v := m.function()
		switch {
		case name == "__mode":
			v = m.pick(`"k"`, `"v"`, `"kv"`, `""`)
		case m.n(5) == 0:
			v = m.table()
		case m.n(5) == 0:
			v = m.pick("pcall", "rawget", "type", "error", m.any())
		}
		made = append(made, name+" = "+v)
	}
	return "{" + strings.Join(made, ", ") + "}"
}

// madeSource is a source that compiles: plain, with metatables, or with all that there is.
func madeSource(r *rand.Rand, metas, drops bool) string {
	for {
		m := &maker{r: r, metas: metas, drops: drops}
		s := m.source()
		if _, _, e := code.Compile(s); e == api.OK {
			return s
		}
	}
}

// anySource is a source of any kind.
func anySource(r *rand.Rand) string {
	metas := r.Intn(3) > 0
	return madeSource(r, metas, metas && r.Intn(2) == 0)
}

// anyPoints are some, of all kinds, none of which is one that a scene may not have.
func anyPoints(r *rand.Rand) []api.Point {
	var l []api.Point
	for range r.Intn(120) {
		kind := r.Intn(6)
		p := of(kind)
		switch kind {
		case api.PointStep:
			p.N = []int{0, 1, 2, 3, 5, 10, 50, 1000, 999999999}[r.Intn(9)]
		case api.PointMode:
			p.N = r.Intn(2)
		}
		l = append(l, p)
		for r.Intn(3) == 0 {
			l = append(l, p)
		}
	}
	return l[:min(len(l), api.MaxPoints)]
}

// anyScene is one of a source that compiles, in much room or in little.
func anyScene(seed int64) api.Scene {
	r := rand.New(rand.NewSource(seed))
	x := api.Scene{Size: []int{20000, 40000, api.MaxCells}[r.Intn(3)], Steps: r.Intn(2000), Points: anyPoints(r), Source: anySource(r)}
	if r.Intn(3) > 0 {
		x.Size = least(x.Source) - 3 + r.Intn(150)
	}
	return x
}

package run_test

import (
	"iter"
	"slices"
	"strconv"
	"strings"

	"heirloom/api"
	"heirloom/code"
	"heirloom/num"
	"heirloom/parse"
	"heirloom/scope"
	"heirloom/table"
	"heirloom/text"
)

// A teller walks a source's tree, as one who reads it would: no instructions, no registers, no room, nothing that is collected. How many steps that takes is told by what chapter 10 says of each part.
type teller struct {
	uses    map[int]api.Use
	ones    []*entity // by a value's N, from 1 on
	texts   map[string]api.Value
	globals api.Value
	runs    *fibre
	fibres  []*fibre
	limit   int
	within  int // so many pcalls
	trace   api.Trace
}

type entity struct {
	serial       int
	text         string
	array, nodes int
	slots        []api.Value
	meta         api.Value
	node         api.Node // a function's
	env          *env
	fibre        *fibre
}

// env is the variables that are known, the last one first.
type env struct {
	up      *env
	of, num int
	v       *api.Value
}

// fibre is a coroutine.
type fibre struct {
	status string
	frames int
	by     *fibre
	f      api.Value
	in     []api.Value // what it was resumed with
	yield  func([]api.Value) bool
	next   func() ([]api.Value, bool)
	stop   func()
	failed bool
}

type (
	failure struct{ v api.Value } // a panic's value: what was thrown
	limit   struct{}              // no step more
	cut     struct{}              // nobody resumes any more
	lost    struct{}              // registers count
)

// leaving is how a block is left: by a break, or by a return of values, or of a call.
type leaving struct {
	broken, returned bool
	values           []api.Value
	called           bool // values are a function and its arguments
}

// walked is what comes of a source that compiles, in as much room as it likes. It has an E where that hangs on how many registers there may be: pcalls that call one another without a function between go on till these run out.
func walked(src string, steps int) api.Trace {
	n, _, _ := parse.Parse(src)
	l, _, _ := scope.Resolve(src)
	t := &teller{uses: map[int]api.Use{}, ones: make([]*entity, 1), texts: map[string]api.Value{}, limit: steps}
	for _, u := range l {
		t.uses[u.At] = u
	}
	n = code.Fold(n)
	functions := 1
	each(n, func(n api.Node) {
		if n.Kind == api.NFunc {
			functions++
		}
	})
	t.trace.Made = functions // prototypes
	t.globals = t.add(api.TTable, entity{})
	for i, s := range nativeNames {
		table.Set(shelf{t, t.globals}, t.str(s), api.Value{T: api.TNative, N: int64(i)})
	}
	t.runs = &fibre{status: "running"}
	t.add(api.TThread, entity{fibre: t.runs})
	t.play(t.add(api.TFunc, entity{node: api.Node{Kind: api.NFunc, L: []api.Node{n}}}))
	for _, f := range t.fibres {
		f.stop()
	}
	return t.trace
}

func each(n api.Node, do func(api.Node)) {
	do(n)
	for _, m := range n.L {
		each(m, do)
	}
}

func (t *teller) play(f api.Value) {
	defer func() {
		switch x := recover().(type) {
		case nil:
		case failure:
			t.trace.Verdict, t.trace.Error = api.Failed, t.textOf(x.v)
		case limit:
		case lost:
			t.trace.E = api.ErrDeep
		default:
			panic(x)
		}
	}()
	t.call(f)
	t.trace.Verdict = api.Done
}

// step is that one instruction more is done, or some.
func (t *teller) step(n ...int) {
	for range append(n, 1)[0] {
		if t.trace.Steps == t.limit {
			panic(limit{})
		}
		t.trace.Steps++
	}
}

func (t *teller) throw(e api.Errno) { panic(failure{t.str(e.Error())}) }

func (t *teller) add(kind int, o entity) api.Value {
	if kind != api.TStr {
		o.serial = t.trace.Made
		t.trace.Made++
	}
	t.ones = append(t.ones, &o)
	return api.Value{T: kind, N: int64(len(t.ones) - 1)}
}

func (t *teller) str(s string) api.Value {
	v, is := t.texts[s]
	if !is {
		v = t.add(api.TStr, entity{text: s})
		t.texts[s] = v
	}
	return v
}

func (t *teller) at(v api.Value) *entity { return t.ones[v.N] }

// shelf is a table's slots.
type shelf struct {
	t *teller
	v api.Value
}

func (s shelf) Array() int                 { return s.t.at(s.v).array }
func (s shelf) Nodes() int                 { return s.t.at(s.v).nodes }
func (s shelf) Slot(i int) api.Value       { return s.t.at(s.v).slots[i] }
func (s shelf) SetSlot(i int, v api.Value) { s.t.at(s.v).slots[i] = v }

func (s shelf) Resize(a, n int) api.Errno {
	if 1+a+2*n > api.MaxParts {
		return api.ErrMany
	}
	o := s.t.at(s.v)
	o.array, o.nodes, o.slots = a, n, make([]api.Value, a+2*n)
	return api.OK
}

func (s shelf) Hash(v api.Value) uint32 {
	switch {
	case v.T == api.TStr:
		return text.Hash(s.t.at(v).text)
	case v.T > api.TStr && v.T <= api.TProto:
		return text.Mix(v.T, int64(s.t.at(v).serial))
	}
	return text.Mix(v.T, v.N)
}

func (t *teller) get(o, k api.Value) api.Value { return table.Get(shelf{t, o}, k) }

func (t *teller) set(o, k, v api.Value) {
	if e := table.Set(shelf{t, o}, k, v); e != api.OK {
		t.throw(e)
	}
}

func (t *teller) textOf(v api.Value) string {
	switch v.T {
	case api.TNil:
		return "nil"
	case api.TBool:
		return strconv.FormatBool(v.N == 1)
	case api.TInt, api.TFloat:
		return num.Text(v)
	case api.TStr:
		return t.at(v).text
	case api.TNative:
		return "native " + strconv.Itoa(int(v.N))
	}
	return typeOf(v) + " " + strconv.Itoa(t.at(v).serial)
}

// Calls.

// call is what a call of a value answers.
func (t *teller) call(f api.Value, args ...api.Value) []api.Value {
	for moves := 0; f.T != api.TFunc && f.T != api.TNative; moves++ {
		h := t.has(f, "__call")
		if h.T == api.TNil {
			t.throw(api.ErrType)
		}
		if moves == api.MaxChain {
			t.throw(api.ErrDeep)
		}
		args = append([]api.Value{f}, args...)
		f = h
	}
	if f.T == api.TNative {
		return t.native(nativeNames[f.N], args)
	}
	if t.runs.frames >= api.MaxFrames {
		t.throw(api.ErrDeep)
	}
	t.runs.frames++
	defer func() { t.runs.frames-- }()
	for {
		l := t.function(f, args)
		if !l.called {
			return l.values
		}
		f, args = l.values[0], l.values[1:]
		if f.T != api.TFunc {
			return t.call(f, args...) // on top of it
		}
	}
}

// function is how a function's block is left.
func (t *teller) function(f api.Value, args []api.Value) leaving {
	o := t.at(f)
	last := len(o.node.L) - 1
	e := o.env
	for i, p := range o.node.L[:last] {
		e = t.known(e, p, slices.Concat(args, make([]api.Value, last))[i])
	}
	for i := range last {
		t.box(o.node.L[i])
	}
	l := t.block(o.node.L[last], e)
	if !l.returned {
		t.step()
	}
	return l
}

// known is that a name's variable is known.
func (t *teller) known(e *env, name api.Node, v api.Value) *env {
	u := t.uses[name.At]
	return &env{e, u.Of, u.Var, &v}
}

// box is what comes of a variable that is held.
func (t *teller) box(name api.Node) {
	if t.uses[name.At].Held {
		t.step()
		t.trace.Made++
	}
}

func (t *teller) native(name string, args []api.Value) []api.Value {
	x := append(slices.Clone(args), make([]api.Value, 3)...)
	needs := map[string]int{"setmeta": api.TTable, "rawget": api.TTable, "rawset": api.TTable, "next": api.TTable, "create": api.TFunc, "resume": api.TThread, "status": api.TThread, "close": api.TThread}
	if kind, is := needs[name]; is && x[0].T != kind || name == "pcall" && len(args) == 0 || name == "setmeta" && x[1].T != api.TNil && x[1].T != api.TTable {
		t.throw(api.ErrType)
	}
	answer := func(v ...api.Value) []api.Value { return v }
	switch name {
	case "emit":
		var l []string
		for _, v := range args {
			l = append(l, t.textOf(v))
		}
		t.trace.Lines = append(t.trace.Lines, strings.Join(l, " "))
		return nil
	case "type":
		return answer(t.str(typeOf(x[0])))
	case "tostring":
		return answer(t.str(t.textOf(x[0])))
	case "setmeta":
		t.at(x[0]).meta = x[1]
		return x[:1]
	case "getmeta":
		if x[0].T == api.TTable {
			return answer(t.at(x[0]).meta)
		}
		return answer(api.Value{})
	case "rawget":
		return answer(t.get(x[0], x[1]))
	case "rawset":
		t.set(x[0], x[1], x[2])
		return x[:1]
	case "rawlen":
		return answer(t.length(x[0]))
	case "rawequal":
		return answer(boolean(alike(x[0], x[1])))
	case "next":
		k, v, e := table.Next(shelf{t, x[0]}, x[1])
		if e != api.OK {
			t.throw(e)
		}
		return answer(k, v)
	case "pcall":
		return t.protected(x[0], args[1:])
	case "error":
		panic(failure{x[0]})
	case "collect":
		return nil
	}
	return t.ofFibres(name, x[0], args)
}

func (t *teller) protected(f api.Value, args []api.Value) (l []api.Value) {
	runs, frames := t.runs, t.runs.frames
	if t.within++; t.within > 150 {
		panic(lost{})
	}
	defer func() {
		t.within--
		switch x := recover().(type) {
		case nil:
		case failure:
			t.runs, t.runs.frames = runs, frames
			l = []api.Value{boolean(false), x.v}
		default:
			panic(x)
		}
	}()
	return append([]api.Value{boolean(true)}, t.call(f, args...)...)
}

func (t *teller) ofFibres(name string, v api.Value, args []api.Value) []api.Value {
	switch name {
	case "create":
		f := &fibre{status: "suspended", f: v}
		f.next, f.stop = iter.Pull(t.body(f))
		t.fibres = append(t.fibres, f)
		return []api.Value{t.add(api.TThread, entity{fibre: f})}
	case "status":
		return []api.Value{t.str(t.at(v).fibre.status)}
	case "close":
		f := t.at(v).fibre
		if f.status == "running" || f.status == "normal" {
			t.throw(api.ErrState)
		}
		f.status = "dead"
		return []api.Value{boolean(true)}
	case "resume":
		return t.resume(t.at(v).fibre, args[1:])
	}
	f := t.runs // it yields
	if f.yield == nil {
		t.throw(api.ErrState)
	}
	f.status = "suspended"
	if !f.yield(args) {
		panic(cut{})
	}
	return f.in
}

// body is what a coroutine does.
func (t *teller) body(f *fibre) iter.Seq[[]api.Value] {
	return func(yield func([]api.Value) bool) {
		f.yield = yield
		defer func() {
			switch x := recover().(type) {
			case nil, cut:
			case failure:
				f.status, f.failed = "dead", true
				yield([]api.Value{x.v})
			default:
				panic(x)
			}
		}()
		l := t.call(f.f, f.in...)
		f.status = "dead"
		yield(l)
	}
}

func (t *teller) resume(f *fibre, args []api.Value) []api.Value {
	depth := 0
	for x := t.runs; x != nil; x = x.by {
		depth++
	}
	if f.status != "suspended" {
		return []api.Value{boolean(false), t.str("error 9")}
	}
	if depth >= api.MaxNest {
		return []api.Value{boolean(false), t.str("error 14")}
	}
	f.by, f.in, f.status, t.runs.status = t.runs, args, "running", "normal"
	t.runs = f
	l, _ := f.next()
	t.runs = f.by
	f.by, t.runs.status = nil, "running"
	return append([]api.Value{boolean(!f.failed)}, l...)
}

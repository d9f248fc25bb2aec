package code

import (
	"slices"

	"heirloom/api"
)

// global is the function of a name that is no variable's.
const global = -1

// source is what all functions of a source share while they are compiled.
type source struct {
	uses   map[int]api.Use // by place
	signs  map[string]sign
	protos []api.Proto // by number
	strays []int       // the places of the breaks that leave nothing
}

func newSource(uses []api.Use) *source {
	s := &source{uses: map[int]api.Use{}, signs: signs()}
	for _, u := range uses {
		s.uses[u.At] = u
	}
	return s
}

// variable is told by its function and its number there.
type variable struct{ of, number int }

// function is one that is compiled, with what is made of it.
type function struct {
	api.Proto
	*source
	number int
	around *function
	free   int         // the first register that is free
	lies   map[int]int // by the number of a variable of its own: the register
	asked  []variable  // whose boxes its ups are
	loops  [][]func()  // of each loop that is open: what is to be called at its end
}

// compile makes a function, and tells its number. That is taken ahead of those of the functions within: they begin behind it.
func (s *source) compile(around *function, params []api.Node, body api.Node) int {
	f := &function{source: s, around: around, number: len(s.protos), lies: map[int]int{}}
	s.protos = append(s.protos, api.Proto{})
	f.Params = len(params)
	f.know(params)
	f.block(body)
	f.emit(api.IReturn, 0, 0)
	s.protos[f.number] = f.Proto
	return f.number
}

// emit puts an instruction down; numbers that it has not are left out.
func (f *function) emit(op int, numbers ...int) {
	var abc [3]int
	copy(abc[:], numbers)
	f.Code = append(f.Code, api.Ins{Op: op, A: abc[0], B: abc[1], C: abc[2]})
}

// jump puts down one that leads ahead. Where to is not known yet: what it answers is called when the code has come there.
func (f *function) jump(op int, register ...int) func() {
	at := len(f.Code)
	f.emit(op, register...)
	return func() {
		if op == api.IJump {
			f.Code[at].A = len(f.Code)
			return
		}
		f.Code[at].B = len(f.Code)
	}
}

// needs notes that there is a register.
func (f *function) needs(r int) { f.Regs = max(f.Regs, r+1) }

// know gives the next registers to the variables that names stand for.
func (f *function) know(names []api.Node) {
	for _, n := range names {
		use := f.uses[n.At]
		f.lies[use.Var] = f.free
		f.needs(f.free)
		if use.Held {
			f.emit(api.INewBox, f.free)
		}
		f.free++
	}
}

func (f *function) constant(v api.Value, text string) int {
	c := api.Const{V: v, S: text}
	if i := slices.Index(f.Consts, c); i >= 0 {
		return i
	}
	f.Consts = append(f.Consts, c)
	return len(f.Consts) - 1
}

func (f *function) text(s string) int { return f.constant(api.Value{T: api.TStr}, s) }

// up is the number of the box of another function's variable. All functions between ask for it too: a box is handed on from one to the next.
func (f *function) up(v variable) int {
	if i := slices.Index(f.asked, v); i >= 0 {
		return i
	}
	up := api.Up{Local: true, Index: f.around.lies[v.number]}
	if v.of != f.around.number {
		up = api.Up{Index: f.around.up(v)}
	}
	f.asked = append(f.asked, v)
	f.Ups = append(f.Ups, up)
	return len(f.Ups) - 1
}

// kid compiles a function that stands in this one, and tells which of its kids it is.
func (f *function) kid(n api.Node) int {
	last := len(n.L) - 1
	i := len(f.Kids)
	f.Kids = append(f.Kids, f.compile(f, n.L[:last], n.L[last]))
	return i
}

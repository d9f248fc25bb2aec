package vm_test

import (
	"slices"
	"strings"
	"testing"

	"heirloom/api"
	"heirloom/heap"
	"heirloom/vm"
)

func checkRefused(t *testing.T, p api.Program, size int, want api.Errno) {
	t.Helper()
	if m, err := vm.New(p, size); m != nil || err != want {
		t.Errorf("New of %d cells: %v, %v, want nil, %v", size, m, err, want)
	}
}

// The names that a machine keeps, and those of the native functions, by number.
var (
	eventNames  = []string{"__index", "__newindex", "__call", "__add", "__sub", "__mul", "__div", "__idiv", "__mod", "__concat", "__eq", "__lt", "__le", "__unm", "__len", "__gc", "__mode"}
	nativeNames = []string{"emit", "type", "tostring", "setmeta", "getmeta", "rawget", "rawset", "rawlen", "rawequal", "next", "pcall", "error", "create", "resume", "yield", "status", "close", "collect"}
)

// end is an instruction that returns nothing.
var end = api.Ins{Op: api.IReturn}

// by is a program of functions put together by hand.
func by(l ...api.Proto) api.Program { return api.Program{Protos: l} }

// A program that is not right: ErrArg, ahead of a size that is not.
func TestP15_1NotRight(t *testing.T) {
	for _, p := range []api.Program{
		{},
		by(api.Proto{}),
		by(api.Proto{Code: []api.Ins{{Op: api.INil}}}),
		by(api.Proto{Code: []api.Ins{{Op: api.INil}, end}}),
		by(api.Proto{Code: []api.Ins{{Op: 0}, end}}),
		by(api.Proto{Code: []api.Ins{{Op: api.IReturn + 1}, end}}),
		by(api.Proto{Regs: api.MaxRegs + 1, Code: []api.Ins{end}}),
		by(api.Proto{Params: 1, Code: []api.Ins{end}}),
		by(api.Proto{Code: []api.Ins{end}, Kids: []int{0}}),
		by(api.Proto{Code: []api.Ins{end}, Consts: []api.Const{{V: api.Value{T: api.TNative, N: 3}}}}),
		by(api.Proto{Code: []api.Ins{end}, Consts: []api.Const{{V: api.Value{T: api.TBool}}}}),
		by(api.Proto{Code: []api.Ins{end}}, api.Proto{}),
	} {
		for _, size := range []int{-1, 0, 1, 5000, api.MaxCells, api.MaxCells + 1} {
			checkRefused(t, p, size, api.ErrArg)
		}
	}
}

// heap.New's error.
func TestP15_1WrongSize(t *testing.T) {
	p := by(api.Proto{Code: []api.Ins{end}})
	for _, size := range []int{-1 << 62, -1, 0, api.MaxCells + 1, 1 << 62} {
		checkRefused(t, p, size, api.ErrArg)
	}
}

// steps does with a heap what New does, word by word: the first error.
func steps(p api.Program, size int) (*heap.Heap, api.Errno) {
	h, first := heap.New(size)
	must := func(v api.Value, err api.Errno) api.Value {
		if first == api.OK {
			first = err
		}
		return v
	}
	for _, name := range eventNames {
		h.Keep(must(h.Text(name)))
	}
	var protos []api.Value
	for i, f := range p.Protos {
		var l []api.Value
		texts := 0
		for _, c := range f.Consts {
			v := c.V
			if v.T == api.TStr {
				v = must(h.Text(c.S))
				h.Keep(v)
				texts++
			}
			l = append(l, v)
			if first != api.OK {
				return h, first
			}
		}
		v := must(h.Proto(i, l...))
		h.Release(texts)
		h.Keep(v)
		protos = append(protos, v)
		if first != api.OK {
			return h, first
		}
	}
	globals := must(h.Table())
	h.Keep(globals)
	for i, name := range nativeNames {
		if first != api.OK {
			return h, first
		}
		k := must(h.Text(name))
		h.Keep(k)
		if first == api.OK {
			first = h.Set(globals, k, leading(api.TNative, i))
		}
		h.Release(1)
	}
	if first != api.OK {
		return h, first
	}
	thread := must(h.Thread(1))
	h.SetRoots(thread)
	if first == api.OK {
		f := must(h.Func(protos[0]))
		if first == api.OK {
			h.SetSlot(thread, 0, f)
		}
	}
	if first == api.OK {
		first = h.Grow(thread, 1+p.Protos[0].Regs)
	}
	return h, first
}

// In each size New answers the first error of its steps, or has just what they make.
func TestP15_1Sizes(t *testing.T) {
	t.Parallel()
	for _, src := range []string{
		``,
		`emit(1 + 2, "x")`,
		`local a, b, c, d, e, f, g = 1, 2.5, "a", "b", "abcdefghijklmnopqrstuvwxyz", nil, true local function h() return "a", "emit", "new" end emit(h())`,
		`local x, y = "` + strings.Repeat("long", 60) + `", function() return function() return "` + strings.Repeat("v", 90) + `" end end`,
	} {
		p := compiled(t, src)
		refused := 0
		for size := 1; size < 700; size++ {
			h, want := steps(p, size)
			m, err := vm.New(p, size)
			if err != want || (m == nil) != (want != api.OK) {
				t.Fatalf("%s: New of %d cells: %v, want %v", src, size, err, want)
			}
			if want != api.OK {
				refused++
				continue
			}
			checkLikeHeap(t, src, m, h)
		}
		if refused < 200 || refused > 690 {
			t.Errorf("%s: %d sizes were refused", src, refused)
		}
	}
}

// checkLikeHeap: a machine has what a heap has, object by object.
func checkLikeHeap(t *testing.T, src string, m *vm.VM, h *heap.Heap) {
	t.Helper()
	live, top, gap := m.Free()
	wantLive, wantTop, wantGap := h.Free()
	if live != wantLive || top != wantTop || gap != wantGap {
		t.Fatalf("%s: Free: %d, %d, %d, want %d, %d, %d", src, live, top, gap, wantLive, wantTop, wantGap)
	}
	made, marked, urgent := m.Counts()
	wantMade, _, wantUrgent := h.Counts()
	if made != wantMade || marked != 0 || urgent != wantUrgent {
		t.Fatalf("%s: Counts: %d, %d, %d, want %d, 0, %d", src, made, marked, urgent, wantMade, wantUrgent)
	}
	a, b := m.View(), h.View()
	if a.Mode != b.Mode || a.Phase != b.Phase || a.White != b.White || !slices.EqualFunc(a.Seen, b.Seen, sameSeen) {
		t.Fatalf("%s: %v, want %v", src, a, b)
	}
	checkRules(t, src, m)
}

func sameSeen(a, b api.Seen) bool {
	return a.H == b.H && a.Colour == b.Colour && a.Age == b.Age && a.Thing.Kind == b.Thing.Kind && slices.Equal(a.Thing.Slots, b.Thing.Slots)
}

// What is there at first: the strings, prototypes by number, the globals with all native functions, the thread that is the root, with the first function's closure.
func TestP15_1Made(t *testing.T) {
	p := compiled(t, `local a, b = 7, "x" local f = function() return a end`)
	m := open(t, p, 3000)
	made, marked, urgent := m.Counts()
	if made != 5 || marked != 0 || urgent != 0 {
		t.Errorf("Counts: %d, %d, %d", made, marked, urgent)
	}
	check(t, "strings", len(things(m, api.TStr)), len(eventNames)+1+len(nativeNames))
	protos := things(m, api.TProto)
	check(t, "prototypes", len(protos), 2)
	if l := protos[0].Slots; len(l) != 2 || l[0] != whole(7) || l[1].T != api.TStr {
		t.Errorf("the first prototype: %v", l)
	}
	tables := things(m, api.TTable)
	check(t, "tables", len(tables), 1)
	numbers := map[int64]int{}
	for _, v := range tables[0].Slots {
		if v.T == api.TNative {
			numbers[v.N]++
		}
	}
	check(t, "native functions", len(numbers), len(nativeNames))
	check(t, "boxes", len(things(m, api.TBox)), 0)
	roots := threads(m)
	if len(roots) != 1 || m.Roots()[0] != roots[0] {
		t.Fatalf("roots: %v", m.Roots())
	}
	regs := thing(t, m, roots[0]).Slots
	check(t, "registers", len(regs), 1+p.Protos[0].Regs)
	closure := thing(t, m, regs[0])
	if closure.Kind != api.TFunc || len(closure.Slots) != 1 || closure.Slots[0] != m.Roots()[1+len(eventNames)] {
		t.Errorf("the closure: %v", closure)
	}
	for _, v := range regs[1:] {
		check(t, "register", v, none)
	}
	check(t, "Verdict", m.Verdict(), api.Runs)
	check(t, "Over", m.Over(), false)
	if !zero(m.Lines()) || m.Error() != "" {
		t.Errorf("Lines %v, Error %q", m.Lines(), m.Error())
	}
}

// What is kept: strings by which metatables have something, prototypes, the globals. A name of a native function is not, a constant neither: they are held.
func TestP15_1Kept(t *testing.T) {
	m := open(t, compiled(t, `local f = function() return "b" end return "a"`), 3000)
	roots := m.Roots()
	var kinds []int
	for _, v := range roots {
		kinds = append(kinds, v.T)
	}
	want := slices.Concat([]int{api.TThread}, slices.Repeat([]int{api.TStr}, len(eventNames)), []int{api.TProto, api.TProto, api.TTable})
	if !slices.Equal(kinds, want) {
		t.Errorf("kinds of roots: %v, want %v", kinds, want)
	}
	checkTight(t, "New", m)
	check(t, "strings", len(things(m, api.TStr)), len(eventNames)+len(nativeNames)+2)
	m.Step(manySteps)
	checkTight(t, "the end", m)
	check(t, "strings behind the end", len(things(m, api.TStr)), len(eventNames)+len(nativeNames)+2)
}

// The errors of what New makes: a string of too many bytes, too many constants, a number of a function that is too great.
func TestP15_1FirstError(t *testing.T) {
	long := letters(strings.Repeat("x", api.MaxText+1))
	checkRefused(t, by(api.Proto{Code: []api.Ins{end}, Consts: []api.Const{long}}), api.MaxCells, api.ErrLong)
	checkRefused(t, by(api.Proto{Code: []api.Ins{end}, Consts: make([]api.Const, api.MaxParts+1)}), api.MaxCells, api.ErrMany)
	few := api.Proto{Code: []api.Ins{end}}
	l := slices.Repeat([]api.Proto{few}, api.MaxParts+1)
	open(t, by(l...), api.MaxCells)
	checkRefused(t, by(append(l, few)...), api.MaxCells, api.ErrArg)
	// The first one in order is told: the string of a prototype behind one with too many constants, and the other way round.
	crowded := api.Proto{Code: []api.Ins{end}, Consts: make([]api.Const, api.MaxParts+1)}
	tooLong := api.Proto{Code: []api.Ins{end}, Consts: []api.Const{long}}
	checkRefused(t, by(crowded, tooLong), api.MaxCells, api.ErrMany)
	checkRefused(t, by(tooLong, crowded), api.MaxCells, api.ErrLong)
	// In little room that comes first: the strings of events are made ahead.
	checkRefused(t, by(tooLong), 20, api.ErrFull)
	most := api.Proto{Regs: 1, Code: []api.Ins{{Op: api.IConst, A: 0, B: api.MaxParts - 1}, end}, Consts: make([]api.Const, api.MaxParts)}
	m := open(t, by(most), api.MaxCells)
	check(t, "Step", m.Step(9), 2)
}

// Nothing of what is handed in is kept, or changed.
func TestP15_1OwnMemory(t *testing.T) {
	src := `local x = 1 local f = function(a) return a .. x end emit(f("y"), f(2))`
	p, q := compiled(t, src), compiled(t, src)
	points := []api.Point{of(api.PointMajor), of(api.PointStep, 3)}
	m := open(t, p, 3000, points...)
	for i := range p.Protos {
		f := &p.Protos[i]
		clear(f.Code)
		clear(f.Consts)
		clear(f.Ups)
		clear(f.Kids)
		*f = api.Proto{}
	}
	clear(points)
	modes := []api.Point{of(api.PointMode, api.ModeGen)}
	other := open(t, q, 3000, modes...)
	clear(modes)
	other.Step(manySteps)
	check(t, "mode", other.View().Mode, api.ModeGen)
	a, b := outcomeOf(m, m.Step(manySteps)), played(t, q, 3000)
	if !same(a, b) || len(a.lines) != 1 || a.lines[0] != "y1 21" {
		t.Errorf("%v, want %v", a, b)
	}
	again := compiled(t, src)
	for i, f := range q.Protos {
		if !slices.Equal(f.Code, again.Protos[i].Code) || !slices.Equal(f.Consts, again.Protos[i].Consts) || !slices.Equal(f.Ups, again.Protos[i].Ups) {
			t.Errorf("the function %d was changed", i)
		}
	}
}

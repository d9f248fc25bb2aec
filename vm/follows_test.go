package vm_test

import (
	"fmt"
	"math/rand"
	"slices"
	"sort"
	"testing"

	"heirloom/api"
	"heirloom/code"
	"heirloom/vm"
)

// anyProgram is one of a source, plain or not, or by hand.
func anyProgram(r *rand.Rand) (string, api.Program) {
	if r.Intn(3) == 0 {
		p := madeByHand(r)
		return fmt.Sprintf("%+v", p.Protos[1:]), p
	}
	return made(r, r.Intn(2) == 0)
}

// least is the size from which on New finds room for a program.
func least(p api.Program) int {
	return sort.Search(api.MaxCells, func(size int) bool {
		_, err := vm.New(p, size)
		return err == api.OK
	})
}

// anySize is one in which a program has much room, or little.
func anySize(r *rand.Rand, p api.Program) int {
	if r.Intn(3) == 0 {
		return api.MaxCells
	}
	return least(p) + r.Intn(200)
}

// P15.4: at no time a rule is broken, whatever is collected at points of every kind, in much room and in little.
func TestP15_4Rules(t *testing.T) {
	t.Parallel()
	r := rand.New(rand.NewSource(154))
	verdicts := map[int]int{}
	for range 250 {
		src, p := anyProgram(r)
		m, err := vm.New(p, anySize(r, p), anyPoints(r)...)
		if err != api.OK {
			continue
		}
		for n := 0; n < 400 && !m.Over(); n++ {
			m.Step(1)
			checkRules(t, src, m)
		}
		verdicts[m.Verdict()]++
	}
	for _, v := range []int{api.Done, api.Failed, api.Spent} {
		check(t, fmt.Sprint("some programs have the verdict ", v), verdicts[v] > 3, true)
	}
}

// P15.5: lines, verdict, error and steps of a plain source do not hang on points, nor on the size, unless it is Spent; whether it is does not hang on points, and what was put out up to then is not wrong.
func TestP15_5Plain(t *testing.T) {
	t.Parallel()
	r := rand.New(rand.NewSource(155))
	spent := 0
	for range 250 {
		src, p := made(r, true)
		most := 1500
		m := open(t, p, api.MaxCells)
		want := outcomeOf(m, m.Step(most))
		for range 4 {
			size := anySize(r, p)
			plain, err := vm.New(p, size)
			m, again := vm.New(p, size, anyPoints(r)...)
			check(t, "New", again, err)
			if err != api.OK {
				continue
			}
			a, b := outcomeOf(plain, plain.Step(most)), outcomeOf(m, m.Step(most))
			if !same(a, b) {
				t.Fatalf("%s, %d cells: %v with points, %v without", src, size, b, a)
			}
			if b.verdict != api.Spent && !same(b, want) || !begins(want.lines, b.lines) || b.steps > want.steps {
				t.Fatalf("%s, %d cells: %v, want %v", src, size, b, want)
			}
			if b.verdict == api.Spent {
				spent++
			}
		}
	}
	check(t, "some are Spent", spent > 30, true)
}

func begins(l, first []string) bool {
	return len(l) >= len(first) && slices.Equal(l[:len(first)], first)
}

// P15.5 of all sizes in which a source finds room, and of all in which it does not: from some size on it does.
func TestP15_5Sizes(t *testing.T) {
	t.Parallel()
	for _, src := range []string{
		`local t = {} for i = 1, 12 do t[i] = {i, "a" .. i} end local n = 0 for i = 1, 12 do n = n + t[i][1] end emit(n, #t)`,
		`local function gen(n) return create(function(a, b, c) for i = 1, n do local x = yield({i}) emit(x[1]) end return "end" end) end local g, h = gen(3), gen(2) for i = 1, 4 do local ok, v = resume(g, {i}) emit(ok, type(v)) resume(h, {-i}) end`,
		`local function f(n) local a, b, c = {}, {}, n if n == 0 then return 0 end local r = f(n - 1) return r + c end emit(f(20)) local s = "" for i = 1, 8 do s = s .. s .. i end emit(#s) emit(pcall(error, {}))`,
	} {
		p := compiled(t, src)
		want := played(t, p, api.MaxCells)
		found := 0
		for size := 300; size < 1500; size++ {
			m, err := vm.New(p, size, many(api.PointYoung)[:5]...)
			if err != api.OK {
				continue
			}
			o := outcomeOf(m, m.Step(manySteps))
			switch {
			case same(o, want):
				found++
			case o.verdict != api.Spent || found > 0 || !begins(want.lines, o.lines):
				t.Fatalf("%s, %d cells: %v, want %v", src, size, o, want)
			}
		}
		check(t, src+": some sizes are enough, some are not", found > 100 && found < 1190, true)
	}
}

// P15.6: steps of a and b are one of both; P15.7: a machine is over, once Step did fewer than n.
func TestP15_6Steps(t *testing.T) {
	t.Parallel()
	r := rand.New(rand.NewSource(156))
	for range 400 {
		src, p := anyProgram(r)
		size, points := anySize(r, p), anyPoints(r)
		a, err := vm.New(p, size, points...)
		b, again := vm.New(p, size, points...)
		check(t, "New", again, err)
		if err != api.OK {
			continue
		}
		for range 8 {
			n, m := r.Intn(60), r.Intn(60)
			first := a.Step(n)
			second := a.Step(m)
			both := b.Step(n + m)
			check(t, src+": steps", first+second, both)
			check(t, src+": over", first < n || second < m, both < n+m)
			if both < n+m && (!a.Over() || !b.Over()) {
				t.Fatalf("%s: %d steps of %d, and it is not over", src, both, n+m)
			}
			x, y := outcomeOf(a, 0), outcomeOf(b, 0)
			check(t, src, x.String(), y.String())
			check(t, src+": over", a.Over(), b.Over())
			checkAlike(t, src, a, b)
		}
		if t.Failed() {
			t.FailNow()
		}
	}
}

// checkAlike: two machines have the same objects, at the same places.
func checkAlike(t *testing.T, name string, a, b *vm.VM) {
	t.Helper()
	if !slices.Equal(a.Roots(), b.Roots()) || !slices.EqualFunc(a.View().Seen, b.View().Seen, sameSeen) {
		t.Fatalf("%s: %v, %v, want %v, %v", name, a.Roots(), a.View(), b.Roots(), b.View())
	}
	l, m, n := a.Free()
	o, p, q := b.Free()
	check(t, name+": Free", [3]int{l, m, n}, [3]int{o, p, q})
	l, m, n = a.Counts()
	o, p, q = b.Counts()
	check(t, name+": Counts", [3]int{l, m, n}, [3]int{o, p, q})
}

// P15.7: every instruction ends, also of programs whose native functions call themselves; Step does as many as it is told, where there are so many.
func TestP15_7Ends(t *testing.T) {
	for src, steps := range map[string]int{
		`while true do end`:                                                                                                 1000,
		`local function f() return f() end f()`:                                                                             1000,
		`local t = setmeta({}, {__call = pcall}) t(t, t, t) t(t)`:                                                           0,
		`local t = setmeta({}, {__index = pcall, __call = pcall}) emit(t.x) emit(t[t])`:                                     0,
		`local t = setmeta({}, {__eq = pcall, __call = pcall}) emit(t == {})`:                                               0,
		`local t = setmeta({}, {}) getmeta(t).__index = t getmeta(t).__call = t emit(pcall(t), t.x)`:                        0,
		`local m = {__gc = setmeta({}, {__call = setmeta})} setmeta(m, m) setmeta({}, m) setmeta({}, m)`:                    0,
		`local m = {} m.__gc = function(o) setmeta(o, m) collect() end local function f() setmeta({}, m) end f() collect()`: 0,
	} {
		m := open(t, compiled(t, src), api.MaxCells)
		n := m.Step(1000)
		if steps == 0 {
			check(t, src, m.Over(), true)
		} else {
			check(t, src, n, steps)
			check(t, src, m.Over(), false)
		}
	}
}

// P15.8: behind Collect there is just what the roots and what is pending need, and it lies together; nobody notices.
func TestP15_8Tight(t *testing.T) {
	t.Parallel()
	r := rand.New(rand.NewSource(158))
	for range 250 {
		src, p := anyProgram(r)
		isPlain := plain(p)
		m := open(t, p, api.MaxCells, anyPoints(r)...)
		steps := 0
		for steps < 600 && !m.Over() {
			steps += m.Step(1 + r.Intn(60))
			checkTight(t, src, m)
		}
		if isPlain {
			alone := open(t, p, api.MaxCells)
			if a, b := outcomeOf(m, steps), outcomeOf(alone, alone.Step(steps)); !same(a, b) {
				t.Fatalf("%s: %v with Collect, %v without", src, a, b)
			}
		}
	}
}

// Behind the end of a source that put nothing into globals there is what New made, less the first function's closure; strings that are no constants are gone.
func TestP15_8BehindTheEnd(t *testing.T) {
	for _, src := range []string{
		`local t = {{}, {}} local g = create(function() yield() end) resume(g) local s = "a" .. "b" emit(s)`,
		`local t = {} local function f() error(t) end f()`,
		`for i = 1, 20 do setmeta({}, {__gc = function() local t = {} end}) end`,
	} {
		p := compiled(t, src)
		if !code.Right(p) {
			t.Fatal(src)
		}
		m := open(t, p, api.MaxCells)
		strings := len(things(m, api.TStr))
		m.Step(manySteps)
		m.Collect()
		check(t, src, m.Over(), true)
		kinds := []int{len(things(m, api.TStr)), len(things(m, api.TTable)), len(things(m, api.TProto)), len(things(m, api.TThread)), len(things(m, api.TBox))}
		if want := []int{strings, 1, len(p.Protos), 1, 0}; !slices.Equal(kinds, want) {
			t.Errorf("%s: %v strings, tables, prototypes, threads and boxes, want %v", src, kinds, want)
		}
	}
}

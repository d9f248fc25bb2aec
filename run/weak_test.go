package run_test

import (
	"fmt"
	"math/rand"
	"slices"
	"sort"
	"strings"
	"testing"

	"heirloom/api"
	"heirloom/run"
)

// P0.6: behind a collection a weak table has just what is held elsewhere.
func TestP0_6Rows(t *testing.T) {
	const weak = `local function w(mode) return setmeta({}, {__mode = mode}) end local function count(t) local n = 0 local k = next(t) while k ~= nil do n = n + 1 k = next(t, k) end return n end local o = {} `
	for _, r := range []row{
		{src: weak + `local function f(t) t[{}] = 1 t[o] = 2 t.x = {} t[1] = {} end local k, v, b, s = w("k"), w("v"), w("kv"), {} f(k) f(v) f(b) f(s) collect() emit(count(k), count(v), count(b), count(s), k[o], b[o], k.x ~= nil, v.x, v[1])`, lines: "3 2 1 4 2 2 true nil nil"},
		{src: weak + `local t = w("k") local function f() local a, b = {}, {} t[a] = b t[b] = a end f() collect() emit(count(t))`, lines: "0"},
		{src: weak + `local t = w("k") local function f() local a, b = {}, {} t[o] = a t[a] = b t[b] = {7} end f() collect() emit(count(t), t[t[t[o]]][1])`, lines: "3 7"},
		{src: weak + `local t = w("v") local function f() local a = {} t[1] = a t[2] = "text" t[3] = 5 t[4] = true t[o] = o t[a] = o end f() collect() emit(count(t), t[1] ~= nil, t[2], t[3], t[4], t[o] == o)`, lines: "6 true text 5 true true"},
		{src: weak + `local t = w("kv") local function f() t["te" .. "xt"] = "long" .. 1 t[o] = {} t[{}] = o t[f] = f end f() collect() emit(count(t), t.text, t[o], t[f] == f)`, lines: "2 long1 nil true"},
		{src: weak + `local t, u = w("k"), w("k") local function f() local a, b = {}, {} t[a] = b u[b] = a end f() collect() emit(count(t), count(u))`, lines: "0 0"},
		{src: weak + `local t, u = w("k"), w("k") local function f() local a, b = {}, {} t[a] = b u[b] = a o[1] = b end f() collect() emit(count(t), count(u), t[u[o[1]]] == o[1])`, lines: "1 1 true"},
		{src: weak + `local t = w("v") local function f() local a = {} t[1] = function() return a end t[2] = create(f) t[3] = t o[1] = t[1] end f() collect() emit(t[1] == o[1], t[2], t[3] == t)`, lines: "true nil true"},
		{src: weak + `local t = w("") local u = w("x") local v = w(5) t[{}] = {} u[{}] = {} v[{}] = {} collect() emit(count(t), count(u), count(v))`, lines: "1 1 1"},
		{src: weak + `local t = w("k") t[{}] = 1 setmeta(t, nil) collect() emit(count(t)) setmeta(t, {__mode = "k"}) collect() emit(count(t))`, lines: "1|0"},
		{src: weak + `local t, u = w("v"), w("k") local function f() local a = setmeta({5}, {__gc = function(o) emit("gone", o[1], t[1], u[o]) end}) t[1] = a u[a] = 6 end f() collect() emit(t[1], count(u)) for i = 1, 5 do collect() end emit(t[1], count(u))`, lines: "gone 5 nil 6|nil 1|nil 0"},
	} {
		for _, points := range [][]api.Point{nil, many(api.PointCompact), many(api.PointMode, 1), many(api.PointStep, 1), append(many(api.PointMode, 1)[:9], many(api.PointYoung)[9:]...)} {
			x := run.Play(roomy(r.src, points...))
			check(t, fmt.Sprintf("%s, %v ..", r.src, points[:min(1, len(points))]), strings.Join(x.Lines, "|")+x.Error, r.lines)
		}
	}
}

// A pool is objects by number, with what they hold, what weak tables hold, and which are held by the program.
type pool struct {
	mode    string
	links   map[int][]int
	entries map[[2]int]int // of a weak table (its number) and a key to a value; a number above 100 is no object's
	held    map[int]bool
}

// object tells whether a number is one's; else it is a text's.
func isObject(n int) bool { return n <= 100 }

// needed is what the program needs: what it holds, what that leads to, and values of pairs of tables with weak keys whose keys are needed.
func (p *pool) needed() map[int]bool {
	l := map[int]bool{}
	var need func(n int)
	need = func(n int) {
		if isObject(n) && !l[n] {
			l[n] = true
			for _, to := range p.links[n] {
				need(to)
			}
		}
	}
	for n := range p.held {
		need(n)
	}
	for before := -1; before != len(l); {
		before = len(l)
		for at, v := range p.entries {
			if p.mode == "k" && (!isObject(at[1]) || l[at[1]]) {
				need(v)
			}
		}
	}
	return l
}

// left are the lines that tell what is left in the weak tables.
func (p *pool) left() []string {
	l := p.needed()
	var lines []string
	for at, v := range p.entries {
		if strings.Contains(p.mode, "k") && isObject(at[1]) && !l[at[1]] || strings.Contains(p.mode, "v") && isObject(v) && !l[v] {
			delete(p.entries, at)
			continue
		}
		lines = append(lines, fmt.Sprint(at[0], " ", at[1], " ", v))
	}
	sort.Strings(lines)
	return lines
}

// madePool is a source, with the lines that it puts out between one "collected" and the next one, sorted.
func madePool(r *rand.Rand) (string, [][]string) {
	p := &pool{mode: []string{"k", "v", "kv"}[r.Intn(3)], links: map[int][]int{}, entries: map[[2]int]int{}, held: map[int]bool{}}
	var b strings.Builder
	fmt.Fprintf(&b, `local m = {__mode = %q} local w, held = {setmeta({}, m), setmeta({}, m)}, {} `, p.mode)
	b.WriteString(`local function new(n) held[n] = {n} end local function drop(n) held[n] = nil end local function link(a, b) held[a][#held[a] + 1] = held[b] end
local function value(n) if n > 100 then return "t" .. n end return held[n] end local function set(i, k, v) w[i][value(k)] = value(v) end
local function name(x) if type(x) == "table" then return x[1] end return x end local function show() collect() emit("collected") for i = 1, 2 do local k, v = next(w[i]) while k ~= nil do emit(i, name(k), name(v)) k, v = next(w[i], k) end end end `)
	var want [][]string
	last := 0
	some := func() int { // an object that is held, or a text
		var l []int
		for n := range p.held {
			l = append(l, n)
		}
		sort.Ints(l)
		if len(l) == 0 || r.Intn(5) == 0 {
			return 101 + r.Intn(3)
		}
		return l[r.Intn(len(l))]
	}
	for range 20 + r.Intn(40) {
		x, y, i := some(), some(), 1+r.Intn(2)
		key := x
		if p.mode == "v" && isObject(x) { // a key would be held where its value is gone
			key = 101 + x%3
		}
		switch n := r.Intn(10); {
		case n < 3:
			last++
			p.held[last] = true
			fmt.Fprintf(&b, "new(%d) ", last)
		case n < 5 && isObject(x):
			delete(p.held, x)
			fmt.Fprintf(&b, "drop(%d) ", x)
		case n < 6 && isObject(x) && isObject(y):
			p.links[x] = append(p.links[x], y)
			fmt.Fprintf(&b, "link(%d, %d) ", x, y)
		case n < 9:
			p.entries[[2]int{i, key}] = y
			fmt.Fprintf(&b, "set(%d, %d, %d) ", i, key, y)
		default:
			b.WriteString("show() ")
			want = append(want, p.left())
		}
	}
	b.WriteString("show()")
	return b.String(), append(want, p.left())
}

// P0.6: of any weak tables, keys, values and links between them, whatever the collector did ahead.
func TestP0_6Pools(t *testing.T) {
	t.Parallel()
	r := rand.New(rand.NewSource(6))
	for range 70 {
		src, want := madePool(r)
		for range 3 {
			scene := roomy(src, slices.Repeat(anyPoints(r), 3)...)
			scene.Points = scene.Points[:min(len(scene.Points), api.MaxPoints)]
			scene.Size = 6000
			x := run.Play(scene)
			if x.E != api.OK || x.Verdict != api.Done {
				t.Fatalf("%s\n%s", src, shown(x))
			}
			for i, part := range strings.Split(strings.Join(x.Lines, "\n"), "collected")[1:] {
				got := strings.Split(strings.ReplaceAll(strings.Trim(part, "\n"), "t", ""), "\n")
				sort.Strings(got)
				if got[0] == "" {
					got = nil
				}
				if !slices.Equal(got, want[i]) {
					t.Fatalf("%s\n%v\nthe collection %d: %q, want %q", src, scene.Points, i, got, want[i])
				}
			}
		}
	}
}

package run_test

import (
	"fmt"
	"math/rand"
	"slices"
	"strings"
	"testing"

	"heirloom/api"
	"heirloom/run"
)

// needy are plain sources that need room for a while, or more and more of it.
var needy = []string{
	`local t = {} for i = 1, 10 do t[i] = {i, "a" .. i} end local n = 0 for i = 1, 10 do n = n + t[i][1] end emit(n, #t)`,
	`local function gen(n) return create(function(a, b) for i = 1, n do local x = yield({i}) emit(x[1]) end return "end" end) end local g, h = gen(3), gen(2) for i = 1, 4 do local ok, v = resume(g, {i}) emit(ok, type(v)) resume(h, {-i}) end`,
	`local function f(n) local a, b, c = {}, {}, n if n == 0 then return 0 end local r = f(n - 1) return r + c end emit(f(12)) local s = "" for i = 1, 7 do s = s .. s .. i end emit(#s) emit(pcall(error, {}))`,
	`local l = nil for i = 1, 20 do l = {l, function() return i end} emit(i) end while l do emit(l[2]()) l = l[1] end`,
}

// P0.4: how much room a source needs does not hang on points: in every size it is refused, Spent or done with any points as with none.
func TestP0_4Points(t *testing.T) {
	t.Parallel()
	for _, src := range needy {
		verdicts := map[int]int{}
		ways := manyWays()
		for size := least(src) - 2; size < least(src)+500; size += 9 + size%9 {
			x := api.Scene{Size: size, Steps: 3000, Source: src}
			want := run.Play(x)
			verdicts[want.Verdict]++
			for _, x.Points = range ways {
				if got := run.Play(x); !sameButUrgent(got, want) {
					t.Fatalf("%s in %d cells, %v ..\n%s, want\n%s", src, size, x.Points[:min(3, len(x.Points))], shown(got), shown(want))
				}
			}
		}
		check(t, src+": in some sizes it is Spent", verdicts[api.Spent] > 3, true)
		check(t, src+": in some sizes it is done", verdicts[api.Done] > 3, true)
	}
}

// P0.4: from some size on a source finds room; it is no greater than what it needs at one time.
func TestP0_4Sizes(t *testing.T) {
	for _, src := range needy {
		want := run.Play(roomy(src))
		done := 0
		for size := least(src); size < least(src)+600; size += 2 {
			x := run.Play(api.Scene{Size: size, Steps: 3000, Source: src})
			switch {
			case x.Verdict == api.Spent:
				checkSpent(t, src, x, want)
				check(t, fmt.Sprint(src, ": Spent, though it was done in less than ", size), done, 0)
			case !sameButUrgent(x, want):
				t.Fatalf("%s in %d cells\n%s, want\n%s", src, size, shown(x), shown(want))
			default:
				done++
			}
		}
		check(t, src+": it is done", done > 0, true)
	}
}

// P0.4: what nobody holds gives its room back: such sources go on for as long as they like, with objects and texts of each kind.
func TestP0_4GivesBack(t *testing.T) {
	t.Parallel()
	for _, src := range []string{
		`while true do local t = {1, 2, 3, a = {}} n = (n or 0) + 1 end`,
		`local i = 0 while true do i = i + 1 local s = "number " .. i end`,
		`while true do local x = 1 local f = function() return function() return x end end x = f()() end`,
		`while true do local g = create(function(a) local b = yield({a}) return b end) resume(g, 1) end`,
		`local t = {} while true do for i = 1, 9 do t[i] = {i} end for i = 1, 9 do t[i] = nil end end`,
		`local t, i = {}, 0 while true do i = i + 1 t["k" .. i] = i t["k" .. i] = nil end`,
		`local t, i = {}, 0 while true do i = i + 1 t = {t} if i % 8 == 0 then t = {} end end`,
		`while true do local a, b = {}, {} a[1] = b b[1] = a a[b] = a end`,
		`while true do pcall(error, {}) pcall(pcall) local t = {} pcall(next, t, t) end`,
		`local function f(n) if n > 0 then return f(n - 1) end return {} end while true do f(2) end`,
		`local m = {__index = function(t, k) return {k} end} while true do local t = setmeta({}, m) t = t[{}] end`,
		`local w = setmeta({}, {__mode = "kv"}) while true do w[{}] = {} end`,
		`local e = setmeta({}, {__mode = "k"}) while true do local k = {} e[k] = {k} end`,
		`local n = 0 local m = {__gc = function(o) n = n + 1 end} while true do setmeta({}, m) collect() end`,
	} {
		for _, points := range manyWays() {
			x := run.Play(api.Scene{Size: least(src) + 260, Steps: 5000, Points: points, Source: src})
			check(t, fmt.Sprintf("%s, %v ..", src, points[:min(3, len(points))]), x.Verdict, api.Runs)
			check(t, src+": steps", x.Steps, 5000)
			if len(points) == 0 && !strings.Contains(src, "collect") {
				check(t, src+": what there is was used up", x.Urgent > 0, true)
			}
		}
	}
}

// P0.4: what is held does not.
func TestP0_4Held(t *testing.T) {
	for _, src := range []string{
		`local t = {} for i = 1, 5000 do t[i] = {} emit(i) end`,
		`local s = "" while true do s = s .. "12345678" emit(#s) end`,
		`local f = nil while true do local g = f f = function() return g end emit(1) end`,
		`local g = nil while true do local h = g g = create(function() return h end) emit(2) end`,
		`local w, i = setmeta({}, {__mode = "v"}), 0 while true do i = i + 1 w[i] = "text" .. i emit(i) end`,
		`local w, i = setmeta({}, {__mode = "kv"}), 0 while true do i = i + 1 w[i] = "text" .. i emit(i) end`,
		`local l = nil local m = {__gc = function(o) l = {o, l} emit("on") end} while true do setmeta({}, m) collect() end`,
	} {
		last := -1
		for size := 500; size < 1500; size += 250 {
			x := run.Play(api.Scene{Size: size, Steps: api.MaxSteps, Points: many(api.PointMajor)[:200], Source: src})
			check(t, src, x.Verdict, api.Spent)
			check(t, src+": it finds room for more in more", len(x.Lines) > last, true)
			check(t, src+": and looked for it", x.Urgent > 0, true)
			last = len(x.Lines)
		}
	}
}

// P0.4: a source that is Spent puts out nothing wrong, whatever it asks for, as long as collecting may not be seen.
func TestP0_4NothingWrong(t *testing.T) {
	t.Parallel()
	r := rand.New(rand.NewSource(4))
	spent := 0
	for range 80 {
		src := madeSource(r, true, false)
		want := run.Play(api.Scene{Size: 30000, Steps: 2000, Source: src})
		for range 3 {
			got := run.Play(api.Scene{Size: least(src) + r.Intn(100), Steps: 2000, Points: anyPoints(r), Source: src})
			if got.Verdict == api.Spent {
				spent++
				checkSpent(t, src, got, want)
			} else if !sameButUrgent(got, want) {
				t.Fatalf("%s\n%s, want\n%s", src, shown(got), shown(want))
			}
		}
	}
	check(t, "some are Spent", spent > 30, true)
}

// P0.4: a place at which there is room for a value is as good as another one: what lies where does not count.
func TestP0_4Holes(t *testing.T) {
	const src = `local t = {} for i = 1, 30 do t[i] = {} end for i = 1, 30, 2 do t[i] = nil end local s = "" for i = 1, 10 do s = s .. "12345678" end emit(#s, #t)`
	want := run.Play(roomy(src))
	room := 0
	for size := least(src); room == 0; size++ {
		if run.Play(api.Scene{Size: size, Steps: 3000, Source: src}).Verdict == api.Done {
			room = size
		}
	}
	for _, points := range append(manyWays(), slices.Repeat([]api.Point{of(api.PointCompact), {}, of(api.PointMajor), {}, {}}, 60)) {
		got := run.Play(api.Scene{Size: room, Steps: 3000, Points: points, Source: src})
		if !sameButUrgent(got, want) {
			t.Fatalf("%s\n%s", shown(got), shown(want))
		}
		check(t, "in one cell less", run.Play(api.Scene{Size: room - 1, Steps: 3000, Points: points, Source: src}).Verdict, api.Spent)
	}
}

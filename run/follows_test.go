package run_test

import (
	"math/rand"
	"slices"
	"strings"
	"sync"
	"testing"

	"heirloom/api"
	"heirloom/run"
)

// P17.5: what a plain source puts out, how it ends, its error and steps, and how many objects it makes do not hang on points, nor, as long as there is room, on the size. P0.2: whatever the collector does at its points.
func TestP17_5Plain(t *testing.T) {
	t.Parallel()
	r := rand.New(rand.NewSource(175))
	spent := 0
	for range 150 {
		x := api.Scene{Size: 30000, Steps: 1 + r.Intn(2000), Source: madeSource(r, false, false)}
		check(t, x.Source, run.Plain(x.Source), true)
		want := run.Play(x)
		check(t, x.Source+": emergencies", want.Urgent, 0)
		for range 4 {
			other := x
			other.Points = anyPoints(r)
			if r.Intn(3) > 0 {
				other.Size = least(x.Source) - 5 + r.Intn(120)
			}
			got := run.Play(other)
			switch {
			case got.E != api.OK:
				check(t, "refused", got.E, api.ErrFull)
			case got.Verdict == api.Spent:
				spent++
				checkSpent(t, x.Source, got, want)
			case !sameButUrgent(got, want):
				t.Fatalf("%v\n%s\n%s", other, shown(got), shown(want))
			}
		}
	}
	check(t, "some are Spent", spent > 40, true)
}

// checkSpent: P0.4: what finds no room puts out nothing wrong up to then.
func checkSpent(t *testing.T, name string, got, want api.Trace) {
	t.Helper()
	if got.Verdict != api.Spent || got.Error != "" || !begins(want.Lines, got.Lines) || got.Steps > want.Steps || got.Made > want.Made || got.Urgent == 0 {
		t.Fatalf("%s\n%s\n%s", name, shown(got), shown(want))
	}
}

// P17.5: by each way, at each of its places: one point of each kind, everything else none.
func TestP17_5EachPlace(t *testing.T) {
	t.Parallel()
	const src = `local t, s = {}, "" for i = 1, 6 do local g = create(function(a) local b = yield({a}) return b .. i end) local ok, v = resume(g, i) local w = v t["k" .. i] = function() return w[1] end ok, v = resume(g, s) s = v end
for i = 1, 6 do emit(t["k" .. i](), s) end emit(pcall(error, {})) emit(#t, next(t))`
	want := run.Play(roomy(src))
	check(t, "it ends", want.Verdict, api.Done)
	for _, ahead := range [][]api.Point{nil, {of(api.PointMode, 1)}} {
		for place := range 70 {
			for _, p := range []api.Point{of(api.PointStep, 1), of(api.PointStep, 40), of(api.PointYoung), of(api.PointMajor), of(api.PointMode, 1), of(api.PointMode, 0), of(api.PointCompact)} {
				l := append(slices.Clone(ahead), slices.Repeat([]api.Point{{}}, place)...)
				x := run.Play(api.Scene{Size: 1500, Steps: 5000, Points: append(l, p, p), Source: src})
				if !sameButUrgent(x, want) {
					t.Fatalf("%v at %d\n%s\n%s", p, place, shown(x), shown(want))
				}
			}
		}
	}
}

// P17.6: with more steps there are more lines, and none is another one; all that is counted grows.
func TestP17_6Steps(t *testing.T) {
	t.Parallel()
	for seed := range 30 {
		x := anyScene(int64(seed))
		x.Steps = 600
		last := run.Play(x)
		if last.E != api.OK {
			continue
		}
		ahead := api.Trace{}
		for n := 0; n <= last.Steps+1; n += 1 + n/40 {
			x.Steps = n
			got := run.Play(x)
			if !begins(last.Lines, got.Lines) || !begins(got.Lines, ahead.Lines) || got.Made < ahead.Made || got.Urgent < ahead.Urgent {
				t.Fatalf("%v\n%s\n%s\n%s", x, shown(ahead), shown(got), shown(last))
			}
			check(t, "steps", got.Steps, min(n, last.Steps))
			if n < last.Steps && got.Verdict == api.Runs {
				check(t, "no error", got.Error, "")
			}
			ahead = got
		}
		x.Steps = 601
		if got := run.Play(x); last.Steps < 600 {
			checkTrace(t, x.Source, got, last)
		}
	}
}

// P17.7: the same scene has the same trace, also while other ones are played.
func TestP17_7Same(t *testing.T) {
	t.Parallel()
	for seed := range 40 {
		x := anyScene(int64(seed))
		want := run.Play(x)
		var got [6]api.Trace
		var wait sync.WaitGroup
		for i := range got {
			wait.Go(func() { got[i] = run.Play(x) })
		}
		wait.Wait()
		for _, g := range got {
			checkTrace(t, x.Source, g, want)
		}
		if len(want.Lines) > 0 { // what is handed out is the caller's own
			got[0].Lines[0] += "?"
			checkTrace(t, x.Source, run.Play(x), want)
			checkTrace(t, x.Source, got[1], want)
		}
	}
}

// P1, P2: every call ends and none panics, at all arguments.
func TestP17AnyArguments(t *testing.T) {
	t.Parallel()
	r := rand.New(rand.NewSource(17))
	const letters = "size 20\nsteps 9source\nemit(1) \"\x00\xff"
	bits := func() int { return int(r.Uint64() >> r.Intn(64)) }
	for range 300 {
		b := make([]byte, r.Intn(60))
		for i := range b {
			b[i] = letters[r.Intn(len(letters))]
		}
		x := api.Scene{Size: bits() - bits(), Steps: bits() - bits(), Source: string(b)}
		for range r.Intn(4) {
			x.Points = append(x.Points, api.Point{Kind: bits() - bits(), N: bits() - bits()})
		}
		run.Play(x)
		run.Play(api.Scene{Size: 2000, Steps: 100, Source: x.Source})
		run.Do(string(b))
		run.Do("size 2000\nsteps 100\nsource\n" + string(b))
		run.Plain(string(b))
		s := run.Text(api.Trace{E: api.Errno(bits() * r.Intn(2)), At: bits(), Verdict: r.Intn(6) - 1, Lines: []string{string(b)}, Error: string(b), Steps: bits(), Made: -bits(), Urgent: bits()})
		check(t, "ends with a line end", strings.HasSuffix(s, "\n"), true)
	}
}

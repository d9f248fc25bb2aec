package script_test

import (
	"math/rand"
	"slices"
	"strconv"
	"strings"
	"testing"

	"heirloom/api"
	"heirloom/script"
)

// P16.4: what Print tells, Parse reads as the same scene.
func TestP16_4ParseOfPrint(t *testing.T) {
	r := rand.New(rand.NewSource(164))
	for range 5000 {
		x := anyScene(r)
		s, e := script.Print(x)
		if e != api.OK {
			t.Fatalf("Print: %v", e)
		}
		checkScene(t, s, x)
	}
	for _, p := range rightPoints {
		for _, q := range rightPoints {
			for _, n := range []int{1, 2, 3, 10, 1999, 2000} {
				x := api.Scene{Size: 65536, Steps: 20000, Points: append(repeat(p, n), repeat(q, n)...), Source: "source\n"}
				s, e := script.Print(x)
				if e != api.OK {
					t.Fatalf("Print: %v", e)
				}
				checkScene(t, s, x)
			}
		}
	}
}

// P16.4: a text without an x, in which no two points' lines one behind the other are alike, is told again as it is.
func TestP16_4PrintOfParse(t *testing.T) {
	r := rand.New(rand.NewSource(165))
	for range 3000 {
		var b strings.Builder
		b.WriteString("size " + strconv.Itoa(1+anyNumber(r, 65535)) + "\nsteps " + strconv.Itoa(anyNumber(r, 20000)) + "\n")
		ahead := ""
		for range r.Intn(30) {
			told, _ := modelPoint(anyPoint(r))
			if told != ahead {
				b.WriteString(told + "\n")
			}
			ahead = told
		}
		b.WriteString("source\n" + anySource(r))
		checkBack(t, b.String())
	}
	for _, s := range []string{
		"size 900\nsteps 50\nyoung x3\nmode 1\nsource\nemit(1)",
		"size 1\nsteps 0\nsource\n",
		"size 1\nsteps 0\nsource\nsource\n",
		"size 65536\nsteps 20000\nnone x4000\nsource\n",
		"size 2\nsteps 1\nmode 0 x2\nmode 1 x2\nstep 1 x2\nstep 2\nsource\n" + allBytes(),
	} {
		checkBack(t, s)
	}
	// Lines that could be one are told as one.
	x, _, _ := script.Parse("size 2\nsteps 1\nyoung\nyoung x2\nyoung\nsource\n")
	checkPrint(t, x, "size 2\nsteps 1\nyoung x4\nsource\n", api.OK)
}

func checkBack(t *testing.T, s string) {
	t.Helper()
	x, at, e := script.Parse(s)
	if e != api.OK {
		t.Fatalf("Parse(%q): %v at %d", short(s), e, at)
	}
	checkPrint(t, x, s, api.OK)
}

// P16.5: without its last line end ahead of the source a text is refused.
func TestP16_5LastLineEnd(t *testing.T) {
	r := rand.New(rand.NewSource(166))
	for range 2000 {
		x := anyScene(r)
		x.Source = ""
		s, e := script.Print(x)
		if e != api.OK {
			t.Fatalf("Print: %v", e)
		}
		cut := strings.TrimSuffix(s, "\n")
		checkFault(t, cut, strings.Count(cut, "\n"), api.ErrForm)
		// What follows then belongs to the line source, and may not.
		for _, more := range []string{"emit(1)", " ", "emit(1)\n", "x2\nsource\n", "source\n"} {
			checkFault(t, cut+more, strings.Count(cut, "\n"), api.ErrForm)
		}
	}
}

// P16.6: Shrink of what Shrink answers is that again.
func TestP16_6ShrinkOfShrink(t *testing.T) {
	r := rand.New(rand.NewSource(167))
	for range 3000 {
		l := anyPoints(r)
		for i := range l {
			if r.Intn(30) == 0 {
				l[i] = wrongPoints[r.Intn(len(wrongPoints))]
			}
		}
		once := script.Shrink(l)
		checkShrink(t, once, once)
	}
	for _, p := range append(rightPoints, wrongPoints...) {
		once := script.Shrink([]api.Point{p, p, none, p, p, none, none})
		checkShrink(t, once, once)
	}
}

// Rule 3: what is handed in is not changed, what is handed out is the caller's own.
func TestP2OwnLists(t *testing.T) {
	const s = "size 5\nsteps 5\nyoung x3\nmode 1\nsource\nx"
	x, _, _ := script.Parse(s)
	y, _, _ := script.Parse(s)
	for i := range x.Points {
		x.Points[i] = api.Point{Kind: 77, N: 77}
	}
	_ = append(x.Points[:1], api.Point{Kind: 78})
	want := []api.Point{young, young, young, mode(1)}
	if !slices.Equal(y.Points, want) {
		t.Errorf("two scenes share their points: %v", y.Points)
	}
	checkScene(t, s, api.Scene{Size: 5, Steps: 5, Points: want, Source: "x"})

	l := []api.Point{young, young, step(1), none}
	short := script.Shrink(l)
	short[0] = api.Point{Kind: 77}
	_ = append(short, major)
	if !slices.Equal(l, []api.Point{young, young, step(1), none}) {
		t.Errorf("what Shrink answers is its argument's memory: %v", l)
	}
	same := []api.Point{step(1), step(2)}
	script.Shrink(same)[0] = api.Point{Kind: 77}
	if same[0] != step(1) {
		t.Errorf("what Shrink answers is its argument's memory: %v", same)
	}
	p := []api.Point{young, young, none, mode(1)}
	script.Print(api.Scene{Size: 5, Points: p})
	if !slices.Equal(p, []api.Point{young, young, none, mode(1)}) {
		t.Errorf("Print changed the points: %v", p)
	}
}

// P1, P2: the same calls answer the same, whatever was refused between them.
func TestP1SameAgain(t *testing.T) {
	r := rand.New(rand.NewSource(168))
	for range 500 {
		x := anyScene(r)
		s, _ := script.Print(x)
		at := r.Intn(len(s) + 1)
		script.Parse(s[:at] + "\r" + s[at:])
		script.Print(api.Scene{Size: -1, Points: x.Points})
		checkPrint(t, x, s, api.OK)
		checkScene(t, s, x)
	}
}

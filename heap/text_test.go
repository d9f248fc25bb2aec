package heap_test

import (
	"math"
	"strings"
	"testing"

	"heirloom/api"
	"heirloom/heap"
	"heirloom/text"
)

func TestP14_1New(t *testing.T) {
	for _, size := range []int{math.MinInt, -1 << 32, -1, 0, api.MaxCells + 1, 1<<32 + 1, math.MaxInt} {
		if h, err := heap.New(size); h != nil || err != api.ErrArg {
			t.Errorf("New(%d): %v, %v", size, h, err)
		}
	}
	for _, size := range []int{1, 2, 40, api.MaxCells} {
		h := open(t, size)
		checkFree(t, "a new heap", h, 0, 0, size)
		checkCounts(t, "a new heap", h, 0, 0, 0)
		checkList(t, "Roots", h.Roots())
		if !same([]any{h.View()}, []any{api.View{}}) {
			t.Errorf("View of a new heap: %v", h.View())
		}
	}
}

func TestP14_1Text(t *testing.T) {
	h := open(t, api.MaxCells)
	l := map[api.Value]string{}
	add := func(s string) api.Value {
		t.Helper()
		v := one(t)(h.Text(s))
		if v.T != api.TStr {
			t.Fatalf("Text(%q): %v", s, v)
		}
		if known, is := l[v]; is && known != s {
			t.Fatalf("%q and %q are one", known, s)
		}
		l[v] = s
		return v
	}
	for _, n := range []int{0, 1, 7, 8, 9, 15, 16, 17, 255, api.MaxText - 1, api.MaxText} {
		for _, byte := range []string{"a", "\x00", "\xff"} {
			s := strings.Repeat(byte, n)
			live, _, _ := h.Free()
			is := n == 0 && byte != "a"
			v := add(s)
			if now, _, _ := h.Free(); !is && now-live != textCells(n) {
				t.Errorf("a text of %d bytes takes %d cells", n, now-live)
			}
			checkObject(t, "a text", h, v, api.Object{Head: api.Head{Kind: api.TStr, Aux: 1 + text.Cells(n)}, Aux: append([]int64{int64(n)}, text.Pack(s)...)})
			if again := one(t)(h.Text(s)); again != v {
				t.Errorf("Text of %d bytes: %v, and then %v", n, v, again)
			}
		}
	}
	for v, s := range l {
		if got, is := h.Bytes(v); got != s || !is {
			t.Errorf("Bytes(%v): %q, %v, want %q", v, got, is, s)
		}
	}
	checkCounts(t, "strings", h, 0, 0, 0)
	checkRules(t, "strings", h)
}

// A text that is too long is refused, whatever room there is, and nothing is done.
func TestP14_1Long(t *testing.T) {
	for _, size := range []int{1, 100, api.MaxCells} {
		h := open(t, size)
		v, err := h.Text(strings.Repeat("a", api.MaxText+1))
		checkRefused(t, "a text that is too long", v, err, api.ErrLong)
		checkFree(t, "a text that is too long", h, 0, 0, size)
		checkCounts(t, "a text that is too long", h, 0, 0, 0)
	}
	h := open(t, textCells(api.MaxText))
	one(t)(h.Text(strings.Repeat("a", api.MaxText)))
	checkFree(t, "a text that just fits", h, textCells(api.MaxText), textCells(api.MaxText), 0)
	checkCounts(t, "a text that just fits", h, 0, 0, 0)
}

// A string is born of the current white, and New.
func TestP14_1Birth(t *testing.T) {
	h := open(t, 100)
	checkLooks(t, "at first", h, one(t)(h.Text("a")), api.White0, api.New)
	h.Major()
	checkLooks(t, "behind Major", h, one(t)(h.Text("b")), api.White1, api.New)
	h.Step(1)
	checkLooks(t, "while marking", h, one(t)(h.Text("c")), api.White1, api.New)
	toPhase(t, h, api.PhaseSweep)
	checkLooks(t, "while sweeping", h, one(t)(h.Text("d")), api.White0, api.New)
	h.SetMode(api.ModeGen)
	checkLooks(t, "by generations", h, one(t)(h.Text("e")), api.White1, api.New)
}

// A string that is about to be swept, and is asked for again, lives.
func TestP14_1OtherWhite(t *testing.T) {
	h := open(t, 100)
	a, b := one(t)(h.Text("a")), one(t)(h.Text("b"))
	toPhase(t, h, api.PhaseSweep)
	checkLooks(t, "ahead", h, a, api.White0, api.New)
	check(t, "Text", one(t)(h.Text("a")), a)
	checkLooks(t, "behind", h, a, api.White1, api.New)
	checkLooks(t, "another one", h, b, api.White0, api.New)
	checkRules(t, "behind", h)
	toPhase(t, h, api.PhasePause)
	checkThere(t, "when the cycle is over", h, a)
	checkGone(t, "when the cycle is over", h, b)
	if s, is := h.Bytes(a); s != "a" || !is {
		t.Errorf("Bytes: %q, %v", s, is)
	}
	checkCounts(t, "when the cycle is over", h, 0, 0, 0)
	// Swept already, it is of the current white, and stays so.
	h.SetRoots(a)
	toPhase(t, h, api.PhaseSweep)
	h.Step(1)
	check(t, "Text", one(t)(h.Text("a")), a)
	checkLooks(t, "swept already", h, a, api.White0, api.New)
}

// A string that is found stays as it is, if it is not of the other white.
func TestP14_1Found(t *testing.T) {
	h := open(t, 100)
	a := one(t)(h.Text("a"))
	b := one(t)(h.Text("b"))
	h.SetRoots(a)
	h.Step(1)
	check(t, "Text", one(t)(h.Text("a")), a)
	checkLooks(t, "marked already", h, a, api.Black, api.New)
	check(t, "Text", one(t)(h.Text("b")), b)
	checkLooks(t, "not marked yet", h, b, api.White0, api.New)
	toPhase(t, h, api.PhaseSweep)
	check(t, "Text", one(t)(h.Text("a")), a)
	checkLooks(t, "not swept yet", h, a, api.Black, api.New)
	h.SetMode(api.ModeGen)
	check(t, "Text", one(t)(h.Text("a")), a)
	checkLooks(t, "Old", h, a, api.Black, api.Old)
	c := one(t)(h.Text("c"))
	h.SetRoots(a, c)
	h.Young()
	check(t, "Text", one(t)(h.Text("c")), c)
	checkLooks(t, "Survival", h, c, h.View().White, api.Survival)
}

// What was dropped is none of the texts: asked for again it is made again, and its handle may be another one's.
func TestP14_1Dropped(t *testing.T) {
	h := open(t, 100)
	a := one(t)(h.Text("a"))
	h.Major()
	checkGone(t, "dropped", h, a)
	b := one(t)(h.Text("b"))
	check(t, "the least handle", b, a)
	again := one(t)(h.Text("a"))
	if again == b {
		t.Errorf("a and b are both %v", b)
	}
	for s, v := range map[string]api.Value{"a": again, "b": b} {
		if got, is := h.Bytes(v); got != s || !is {
			t.Errorf("Bytes(%v): %q, %v, want %q", v, got, is, s)
		}
	}
}

func TestP14_1Full(t *testing.T) {
	h := open(t, 10)
	v, err := h.Text(strings.Repeat("a", 8*8))
	checkRefused(t, "more than there are cells", v, err, api.ErrFull)
	checkCounts(t, "more than there are cells", h, 0, 0, 1)
	h.Keep(one(t)(h.Text(strings.Repeat("a", 7*8))))
	v, err = h.Text("")
	checkRefused(t, "a full heap", v, err, api.ErrFull)
	checkCounts(t, "a full heap", h, 0, 0, 2)
	if again := one(t)(h.Text(strings.Repeat("a", 7*8))); again != h.Roots()[0] {
		t.Errorf("what is there needs no room: %v", again)
	}
	checkCounts(t, "what is there", h, 0, 0, 2)
	h.Release(1)
	one(t)(h.Text(""))
	checkCounts(t, "what nobody holds gives way", h, 0, 0, 3)
	checkFree(t, "what nobody holds gives way", h, headAndSize, headAndSize, 10-headAndSize)
	// A text that was refused is none of the texts.
	h = open(t, 8)
	h.Keep(one(t)(h.Table()))
	v, err = h.Text("a")
	checkRefused(t, "no room", v, err, api.ErrFull)
	h.Release(1)
	if s, is := h.Bytes(one(t)(h.Text("a"))); s != "a" || !is {
		t.Errorf("Bytes: %q, %v", s, is)
	}
}

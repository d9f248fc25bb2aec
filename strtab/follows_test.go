package strtab_test

import (
	"fmt"
	"math"
	"math/bits"
	"math/rand"
	"slices"
	"testing"

	"heirloom/api"
	"heirloom/strtab"
)

// op is a call: Put(s, h), or with gone: Drop(h).
type op struct {
	gone bool
	s    string
	h    int
}

func (o op) String() string {
	if o.gone {
		return fmt.Sprintf("Drop(%d)", o.h)
	}
	return fmt.Sprintf("Put(%q, %d)", o.s, o.h)
}

// do makes a call of the table and of the model: their answers.
func (o op) do(tab *strtab.Table, m *model) (got, want api.Errno) {
	if o.gone {
		return tab.Drop(o.h), m.drop(o.h)
	}
	return tab.Put(o.s, o.h), m.put(o.s, o.h)
}

// TestP5AllShortRuns: all runs of a few calls with a few texts and handles are as the model's.
func TestP5AllShortRuns(t *testing.T) {
	texts := append(textsIn(1, 8, 1), textsIn(5, 8, 1)...)
	handles := []int{0, 1, 2}
	var ops []op
	for _, h := range handles {
		ops = append(ops, op{true, "", h}, op{false, texts[0], h}, op{false, texts[1], h})
	}
	var runs func(path []op, left int)
	runs = func(path []op, left int) {
		tab, m := strtab.New(), newModel()
		for _, o := range path {
			if got, want := o.do(tab, m); got != want {
				t.Fatalf("%v: the last call = %v; want %v", path, got, want)
			}
		}
		if d := differs(tab, m, texts, handles); d != "" {
			t.Fatalf("%v: %s", path, d)
		}
		if left == 0 {
			return
		}
		for _, o := range ops {
			runs(append(path[:len(path):len(path)], o), left-1)
		}
	}
	runs(nil, 4)
}

// eachStep makes long runs of calls, in which there come to be more texts and fewer by turns, and has the table looked at behind each; of all texts many are in a few buckets.
func eachStep(t *testing.T, seed int64, look func(tab *strtab.Table, m *model, o op, got, want api.Errno)) {
	t.Helper()
	r := rand.New(rand.NewSource(seed))
	for range 25 {
		texts := append(row(30), textsIn(r.Intn(64), 64, 40)...)
		tab, m := strtab.New(), newModel()
		up := true
		for range 500 {
			if r.Intn(60) == 0 {
				up = !up
			}
			o := op{s: texts[r.Intn(len(texts))], h: 1 + r.Intn(90), gone: up == (r.Intn(4) == 0)}
			if o.gone && len(m.l) > 0 && r.Intn(15) != 0 {
				o.h = m.l[r.Intn(len(m.l))].h
			}
			if r.Intn(40) == 0 {
				o.h = []int{0, -1, math.MinInt, math.MaxInt}[r.Intn(4)]
			}
			got, want := o.do(tab, m)
			look(tab, m, o, got, want)
			if t.Failed() {
				return
			}
		}
	}
}

// TestP5ManyCalls: long runs of calls are as the model's.
func TestP5ManyCalls(t *testing.T) {
	most, met := 0, map[int]int{}
	eachStep(t, 50, func(tab *strtab.Table, m *model, o op, got, want api.Errno) {
		if got != want {
			t.Fatalf("%v = %v; want %v", o, got, want)
		}
		if d := differs(tab, m, []string{o.s, "", "none"}, []int{o.h, 0, -1, 91}); d != "" {
			t.Fatalf("%v: %s", o, d)
		}
		most = max(most, tab.Buckets())
		met[int(got)]++
	})
	if most < 64 || met[0] < 1000 || met[int(api.ErrArg)] < 50 || met[int(api.ErrThere)] < 500 || met[int(api.ErrNone)] < 100 {
		t.Errorf("at most %d buckets; answers: %v", most, met)
	}
}

func TestP5_4Chains(t *testing.T) {
	eachStep(t, 54, func(tab *strtab.Table, m *model, o op, _, _ api.Errno) {
		n := tab.Buckets()
		if tab.Len() > n || n < 4 || bits.OnesCount(uint(n)) != 1 {
			t.Fatalf("%v: %d texts, %d buckets", o, tab.Len(), n)
		}
		in := map[int]int{} // in how many places a handle stands
		for b := range n {
			for _, h := range tab.Chain(b) {
				in[h]++
				s, is := tab.Text(h)
				if !is || bucketOf(s, n) != b {
					t.Fatalf("%v: handle %d is in the bucket %d of %d; its text is %q, %t", o, h, b, n, s, is)
				}
			}
		}
		for h, times := range in {
			if times != 1 {
				t.Fatalf("%v: handle %d stands in %d places", o, h, times)
			}
		}
		if len(in) != tab.Len() {
			t.Fatalf("%v: %d texts, %d in chains", o, tab.Len(), len(in))
		}
	})
}

// orders are all orders in which n things can come.
func orders(n int) [][]int {
	if n == 0 {
		return [][]int{nil}
	}
	var l [][]int
	for _, o := range orders(n - 1) {
		for at := range n {
			l = append(l, slices.Insert(slices.Clone(o), at, n-1))
		}
	}
	return l
}

// TestP5_5AnyOrder: whatever the order in which texts were put, they are found, and are in the same buckets.
func TestP5_5AnyOrder(t *testing.T) {
	texts := append(textsIn(6, 8, 3), "", "a", "b")
	for _, order := range orders(len(texts)) {
		tab := strtab.New()
		for _, i := range order {
			put(t, tab, texts[i], 10*(i+1))
		}
		for i, s := range texts {
			expectFound(t, tab, s, 10*(i+1))
			if !slices.Contains(tab.Chain(bucketOf(s, 8)), 10*(i+1)) {
				t.Errorf("%v: %q is not in its bucket: %s", order, s, told(tab))
			}
		}
		expectGone(t, tab, "none", 70)
		if tab.Len() != 6 || tab.Buckets() != 8 {
			t.Errorf("%v: Len, Buckets = %d, %d", order, tab.Len(), tab.Buckets())
		}
	}
}

// TestP5_5Dropped: a table in which texts were dropped finds what one finds into which they were never put.
func TestP5_5Dropped(t *testing.T) {
	texts := append(row(8), textsIn(1, 16, 32)...)
	texts = slices.Compact(slices.Sorted(slices.Values(texts)))
	r := rand.New(rand.NewSource(55))
	for range 200 {
		plain, worn := strtab.New(), strtab.New()
		for i, s := range texts {
			put(t, worn, s, 500+i)
		}
		left := r.Intn(len(texts) + 1)
		for at, i := range r.Perm(len(texts)) {
			drop(t, worn, 500+i)
			if at < left {
				put(t, worn, texts[i], 1+i)
			}
		}
		for _, i := range r.Perm(len(texts)) {
			if _, is := worn.Text(1 + i); is {
				put(t, plain, texts[i], 1+i)
			}
		}
		if plain.Len() != left || worn.Len() != left {
			t.Fatalf("Len = %d, %d; want %d", plain.Len(), worn.Len(), left)
		}
		for i, s := range texts {
			g, found := plain.Find(s)
			h, is := worn.Find(s)
			if g != h || found != is {
				t.Fatalf("Find(%q) = %d, %t and %d, %t", s, g, found, h, is)
			}
			for _, h := range []int{1 + i, 500 + i} {
				u, found := plain.Text(h)
				v, is := worn.Text(h)
				if u != v || found != is {
					t.Fatalf("Text(%d) = %q, %t and %q, %t", h, u, found, v, is)
				}
			}
		}
	}
}

// TestP5Same: what is answered is the same each time.
func TestP5Same(t *testing.T) {
	want := ""
	for range 20 {
		tab := newTable(t, row(100)...)
		for h := 10; h <= 900; h += 10 {
			drop(t, tab, h)
		}
		if s := told(tab); want == "" {
			want = s
		} else if s != want {
			t.Fatalf("%s and %s", want, s)
		}
	}
}

// TestP2Refused: a call that is refused changes nothing.
func TestP2Refused(t *testing.T) {
	was, refused := "", 0
	var of *strtab.Table
	eachStep(t, 52, func(tab *strtab.Table, _ *model, o op, got, _ api.Errno) {
		if tab == of && got != api.OK {
			refused++
			if told(tab) != was {
				t.Fatalf("%v = %v left %s; it was %s", o, got, told(tab), was)
			}
		}
		of, was = tab, told(tab)
	})
	if refused < 1000 {
		t.Errorf("%d calls were refused", refused)
	}
}

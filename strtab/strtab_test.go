package strtab_test

import (
	"math"
	"slices"
	"strings"
	"testing"

	"heirloom/api"
	"heirloom/strtab"
)

// TestP5_2Example is the chapter's.
func TestP5_2Example(t *testing.T) {
	tab := strtab.New()
	put(t, tab, "a", 7)
	put(t, tab, "b", 3)
	expectFound(t, tab, "a", 7)
	if err := tab.Put("a", 9); err != api.ErrThere {
		t.Errorf(`Put("a", 9) = %v`, err)
	}
	drop(t, tab, 7)
	expectGone(t, tab, "a", 7)
	expectFound(t, tab, "b", 3)
	if tab.Buckets() != 4 {
		t.Errorf("Buckets = %d", tab.Buckets())
	}
}

// TestP5_1NoTexts: a table without texts has none, neither at first nor when the last one went.
func TestP5_1NoTexts(t *testing.T) {
	one := newTable(t, "x")
	drop(t, one, 10)
	empty := newTable(t, "")
	drop(t, empty, 10)
	for _, tab := range []*strtab.Table{strtab.New(), one, empty} {
		for _, s := range []string{"", "a", "x", "\x00"} {
			for _, h := range []int{0, 1, 10, -1, math.MinInt, math.MaxInt} {
				expectGone(t, tab, s, h)
			}
		}
		if tab.Len() != 0 || tab.Buckets() != 4 {
			t.Errorf("Len, Buckets = %d, %d", tab.Len(), tab.Buckets())
		}
		for b := -1; b <= 4; b++ {
			expectChain(t, tab, b)
		}
	}
}

func TestP5_1OneText(t *testing.T) {
	for _, s := range []string{"a", "", "\x00", "\xff\xfe", strings.Repeat("long", 5000)} {
		for _, h := range []int{1, 2, api.MaxCells, math.MaxInt} {
			tab := strtab.New()
			put(t, tab, s, h)
			expectFound(t, tab, s, h)
			expectGone(t, tab, s+"b", h-1)
			expectGone(t, tab, s+"\x00", -h)
			expectGone(t, tab, "b"+s, 0)
			if tab.Len() != 1 || tab.Buckets() != 4 {
				t.Errorf("Len, Buckets = %d, %d", tab.Len(), tab.Buckets())
			}
			for b := range 4 {
				if b == bucketOf(s, 4) {
					expectChain(t, tab, b, h)
				} else {
					expectChain(t, tab, b)
				}
			}
		}
	}
}

// TestP5_1Alike: texts are told apart by all of their bytes.
func TestP5_1Alike(t *testing.T) {
	long := strings.Repeat("x", api.MaxText)
	texts := []string{
		"", "\x00", "\x00\x00", "a", "A", "a\x00", "aa", "ab", "ba", "é", "\xc3", "\xa9", "�", "\xff",
		long, long + "x", long[1:], long[1:] + "y", "y" + long[1:],
		"costarring", "liquid", // of one hash
	}
	if bucketOf("costarring", 1<<32) != bucketOf("liquid", 1<<32) {
		t.Fatal("they are not of one hash")
	}
	tab := strtab.New()
	for i, s := range texts {
		expectGone(t, tab, s, i+1)
		put(t, tab, s, i+1)
	}
	for i, s := range texts {
		expectFound(t, tab, s, i+1)
	}
	for i, s := range texts {
		drop(t, tab, i+1)
		expectGone(t, tab, s, i+1)
		for k := i + 1; k < len(texts); k++ {
			expectFound(t, tab, texts[k], k+1)
		}
	}
}

// TestP5_1Bytes: a text is its bytes, not where they stand.
func TestP5_1Bytes(t *testing.T) {
	source := []byte("name = name")
	tab := strtab.New()
	put(t, tab, string(source[:4]), 1)
	source[0] = 'g'
	expectFound(t, tab, string(source[7:]), 1)
	expectGone(t, tab, string(source[:4]), 2)
}

func TestP5_2PutRefused(t *testing.T) {
	rows := []struct {
		s    string
		h    int
		want api.Errno
	}{
		{"new", 0, api.ErrArg}, {"new", -1, api.ErrArg}, {"new", math.MinInt, api.ErrArg}, {"", 0, api.ErrArg},
		{"a", 0, api.ErrArg}, {"a", -1, api.ErrArg}, {"b", math.MinInt, api.ErrArg}, {"a", -10, api.ErrArg}, // ErrArg goes ahead of ErrThere
		{"a", 1, api.ErrThere}, {"b", 7, api.ErrThere}, {"a", math.MaxInt, api.ErrThere}, // the text is there
		{"new", 10, api.ErrThere}, {"", 20, api.ErrThere}, {"A", 40, api.ErrThere}, // the handle is
		{"a", 10, api.ErrThere}, {"d", 40, api.ErrThere}, // both are, of one another
		{"a", 20, api.ErrThere}, {"d", 10, api.ErrThere}, // both are, not of one another
	}
	for _, r := range rows {
		tab := newTable(t, "a", "b", "c", "d") // one more would renew the chains
		was := told(tab)
		for range 2 {
			if err := tab.Put(r.s, r.h); err != r.want {
				t.Errorf("Put(%q, %d) = %v; want %v", r.s, r.h, err, r.want)
			}
			if told(tab) != was {
				t.Errorf("Put(%q, %d) left %s; it was %s", r.s, r.h, told(tab), was)
			}
		}
		if _, is := tab.Find("new"); is {
			t.Errorf("Put(%q, %d): the text is there", r.s, r.h)
		}
	}
}

func TestP5_2PutHandles(t *testing.T) {
	tab := strtab.New()
	for i, h := range []int{1, math.MaxInt, 2, 5, 3} { // any order, with gaps
		put(t, tab, row(5)[i], h)
	}
	for i, h := range []int{1, math.MaxInt, 2, 5, 3} {
		expectFound(t, tab, row(5)[i], h)
	}
	expectGone(t, tab, "none", 4)
}

// TestP5_2Grow: as many texts as buckets are no reason for more of these, one more is.
func TestP5_2Grow(t *testing.T) {
	texts := row(1025)
	tab := strtab.New()
	for i, s := range texts {
		put(t, tab, s, i+1)
		want := 4
		for want < i+1 {
			want *= 2
		}
		if tab.Len() != i+1 || tab.Buckets() != want {
			t.Fatalf("%d texts: Len, Buckets = %d, %d; want %d buckets", i+1, tab.Len(), tab.Buckets(), want)
		}
	}
	for i, s := range texts {
		expectFound(t, tab, s, i+1)
	}
}

// TestP5_2GrowOneBucket: how full one bucket is does not matter.
func TestP5_2GrowOneBucket(t *testing.T) {
	texts := textsIn(3, 16, 9)
	for n, want := range []int{4, 4, 4, 4, 4, 8, 8, 8, 8, 16} {
		tab := newTable(t, texts[:n]...)
		if tab.Buckets() != want {
			t.Errorf("%d texts: Buckets = %d; want %d", n, tab.Buckets(), want)
		}
		var all []int
		for i := n; i > 0; i-- {
			all = append(all, 10*i)
		}
		expectChain(t, tab, 3, all...)
	}
}

func TestP5_2DropRefused(t *testing.T) {
	rows := []struct {
		texts int // put
		gone  int // dropped then, from the first one on
	}{
		{0, 0}, {1, 0}, {1, 1}, {4, 0}, {5, 0}, {5, 3}, {9, 5}, {9, 9}, // 5, 3 and 9, 5: one fewer would renew the chains
	}
	for _, r := range rows {
		tab := newTable(t, row(r.texts)...)
		wrong := []int{0, -1, 1, 9, 11, -10, 10 * (r.texts + 1), math.MinInt, math.MaxInt}
		for i := range r.gone {
			drop(t, tab, 10*(i+1))
			wrong = append(wrong, 10*(i+1)) // gone already
		}
		was := told(tab)
		for _, h := range wrong {
			if err := tab.Drop(h); err != api.ErrNone {
				t.Errorf("%v: Drop(%d) = %v", r, h, err)
			}
			if told(tab) != was {
				t.Errorf("%v: Drop(%d) left %s; it was %s", r, h, told(tab), was)
			}
		}
	}
}

// TestP5_2Shrink: just a quarter of the buckets is no reason for fewer of these, one text fewer is; there are never fewer than 4.
func TestP5_2Shrink(t *testing.T) {
	rows := []struct {
		texts int
		want  []int // how many buckets there are behind each Drop
	}{
		{1, []int{4}},
		{4, []int{4, 4, 4, 4}},
		{5, []int{8, 8, 8, 4, 4}},                  // left: 4, 3, 2, 1, 0
		{9, []int{16, 16, 16, 16, 16, 8, 8, 4, 4}}, // left: 8, 7, 6, 5, 4, 3, 2, 1, 0
		{8, []int{8, 8, 8, 8, 8, 8, 4, 4}},         // left: 7, .., 2, 1, 0
		{17, []int{32, 32, 32, 32, 32, 32, 32, 32, 32, 16, 16, 16, 16, 8, 8, 4, 4}},
	}
	for _, r := range rows {
		for _, order := range [][2]int{{1, 1}, {r.texts, -1}} { // from the first one on, from the last one on
			texts := row(r.texts)
			tab := newTable(t, texts...)
			for k, want := range r.want {
				i := order[0] + k*order[1]
				drop(t, tab, 10*i)
				expectGone(t, tab, texts[i-1], 10*i)
				if tab.Len() != r.texts-k-1 || tab.Buckets() != want {
					t.Errorf("%d texts, %d dropped: Len, Buckets = %d, %d; want %d buckets", r.texts, k+1, tab.Len(), tab.Buckets(), want)
				}
			}
		}
	}
}

// TestP5_2Between: from a quarter of the buckets up to all of them, neither call makes them more or fewer.
func TestP5_2Between(t *testing.T) {
	tab := newTable(t, row(17)...)
	for h := 10; h <= 100; h += 10 {
		drop(t, tab, h)
	}
	for i, s := range row(9) { // 7 texts of 16 buckets, and 9 more: as many
		put(t, tab, "more"+s, 1000+i)
		if tab.Buckets() != 16 {
			t.Errorf("%d texts: Buckets = %d", tab.Len(), tab.Buckets())
		}
	}
	for h := 110; h <= 170; h += 10 {
		drop(t, tab, h)
	}
	for h := 1000; h < 1005; h++ { // just a quarter is left
		drop(t, tab, h)
		if tab.Buckets() != 16 {
			t.Errorf("%d texts: Buckets = %d", tab.Len(), tab.Buckets())
		}
	}
	drop(t, tab, 1005)
	if tab.Len() != 3 || tab.Buckets() != 8 {
		t.Errorf("Len, Buckets = %d, %d", tab.Len(), tab.Buckets())
	}
}

// TestP5_2Again: a text and a handle that went may come again, with one another or with others.
func TestP5_2Again(t *testing.T) {
	tab := newTable(t, "a", "b")
	drop(t, tab, 10)
	put(t, tab, "a", 30) // another handle
	expectFound(t, tab, "a", 30)
	expectGone(t, tab, "c", 10)
	put(t, tab, "c", 10) // another text
	expectFound(t, tab, "c", 10)
	drop(t, tab, 10)
	put(t, tab, "c", 10)
	expectFound(t, tab, "c", 10)
	expectFound(t, tab, "b", 20)
	if tab.Len() != 3 {
		t.Errorf("Len = %d", tab.Len())
	}
}

func TestP5_3Apart(t *testing.T) {
	a, b := newTable(t, "a"), newTable(t, "b")
	was := told(b)
	for i, s := range row(9) {
		put(t, a, s, i+1)
	}
	if told(b) != was {
		t.Errorf("a table has what was put into another: %s", told(b))
	}
	expectGone(t, b, "a", 20)
}

// TestP1Nil: a table that no call made.
func TestP1Nil(t *testing.T) {
	for _, tab := range []*strtab.Table{nil, {}} {
		for _, s := range []string{"", "a"} {
			for _, h := range []int{math.MinInt, -1, 0, 1, math.MaxInt} { // ErrNil goes ahead of ErrArg and ErrNone
				if err := tab.Put(s, h); err != api.ErrNil {
					t.Errorf("Put(%q, %d) = %v", s, h, err)
				}
				if err := tab.Drop(h); err != api.ErrNil {
					t.Errorf("Drop(%d) = %v", h, err)
				}
				expectGone(t, tab, s, h)
				if l := tab.Chain(h); len(l) != 0 {
					t.Errorf("Chain(%d) = %v", h, l)
				}
			}
		}
		if tab.Len() != 0 || tab.Buckets() != 0 {
			t.Errorf("Len, Buckets = %d, %d", tab.Len(), tab.Buckets())
		}
	}
}

// TestP5_3ChainIsTheCallers: what is done to an answer is not seen in the table, and what is done to the table not in an answer.
func TestP5_3ChainIsTheCallers(t *testing.T) {
	texts := textsIn(2, 4, 4)
	tab := newTable(t, texts[:3]...)
	l := tab.Chain(2)
	for i := range l {
		l[i] = 99
	}
	l = append(l, 98)
	slices.Reverse(l[:cap(l)])
	expectChain(t, tab, 2, 30, 20, 10)
	first, second := tab.Chain(2), tab.Chain(2)
	first[0] = 97
	if !slices.Equal(second, []int{30, 20, 10}) {
		t.Errorf("an answer is %v behind a change of another", second)
	}
	drop(t, tab, 20)
	put(t, tab, texts[3], 40)
	if !slices.Equal(second, []int{30, 20, 10}) {
		t.Errorf("an answer is %v behind calls of the table", second)
	}
	expectChain(t, tab, 2, 40, 30, 10)
}

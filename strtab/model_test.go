package strtab_test

import (
	"fmt"
	"hash/fnv"
	"slices"
	"testing"

	"heirloom/api"
	"heirloom/strtab"
)

// pair is a text with its handle.
type pair struct {
	s string
	h int
}

// model is a table told again: all texts in one list, in the order in which they were put; chains are picked out of it.
type model struct {
	l       []pair
	buckets int
}

func newModel() *model { return &model{buckets: 4} }

// bucketOf is a text's bucket among n, by the library's hash.
func bucketOf(s string, n int) int {
	h := fnv.New32a()
	h.Write([]byte(s))
	return int(uint64(h.Sum32()) % uint64(n))
}

func (m *model) ofText(s string) int {
	return slices.IndexFunc(m.l, func(p pair) bool { return p.s == s })
}

func (m *model) ofHandle(h int) int {
	return slices.IndexFunc(m.l, func(p pair) bool { return p.h == h })
}

func (m *model) put(s string, h int) api.Errno {
	if h <= 0 {
		return api.ErrArg
	}
	if m.ofText(s) >= 0 || m.ofHandle(h) >= 0 {
		return api.ErrThere
	}
	m.l = append(m.l, pair{s, h})
	if len(m.l) > m.buckets {
		m.buckets *= 2
	}
	return api.OK
}

func (m *model) drop(h int) api.Errno {
	i := m.ofHandle(h)
	if i < 0 {
		return api.ErrNone
	}
	m.l = slices.Delete(m.l, i, i+1)
	if m.buckets > 4 && 4*len(m.l) < m.buckets {
		m.buckets /= 2
	}
	return api.OK
}

func (m *model) chain(b int) []int {
	var l []int
	for _, p := range slices.Backward(m.l) {
		if bucketOf(p.s, m.buckets) == b {
			l = append(l, p.h)
		}
	}
	return l
}

// differs tells how a table is not as the model is, asked for these texts and handles beside those that are there; "": it is.
func differs(tab *strtab.Table, m *model, texts []string, handles []int) string {
	if tab.Len() != len(m.l) || tab.Buckets() != m.buckets {
		return fmt.Sprintf("Len, Buckets = %d, %d; want %d, %d", tab.Len(), tab.Buckets(), len(m.l), m.buckets)
	}
	for _, p := range m.l {
		texts, handles = append(texts[:len(texts):len(texts)], p.s), append(handles[:len(handles):len(handles)], p.h)
	}
	for _, s := range texts {
		want := pair{}
		i := m.ofText(s)
		if i >= 0 {
			want = m.l[i]
		}
		if h, is := tab.Find(s); h != want.h || is != (i >= 0) {
			return fmt.Sprintf("Find(%q) = %d, %t; want %d", s, h, is, want.h)
		}
	}
	for _, h := range handles {
		want := pair{}
		i := m.ofHandle(h)
		if i >= 0 {
			want = m.l[i]
		}
		if s, is := tab.Text(h); s != want.s || is != (i >= 0) {
			return fmt.Sprintf("Text(%d) = %q, %t; want %q", h, s, is, want.s)
		}
	}
	for b := -2; b <= m.buckets+1; b++ {
		if l := tab.Chain(b); !slices.Equal(l, m.chain(b)) {
			return fmt.Sprintf("Chain(%d) of %d = %v; want %v", b, m.buckets, l, m.chain(b))
		}
	}
	return ""
}

// told is all that can be asked of a table, as a text.
func told(tab *strtab.Table) string {
	s := fmt.Sprint(tab.Len(), tab.Buckets())
	for b := range tab.Buckets() {
		s += fmt.Sprint(" ", tab.Chain(b))
		for _, h := range tab.Chain(b) {
			says, is := tab.Text(h)
			g, found := tab.Find(says)
			s += fmt.Sprintf(" %q %t %d %t", says, is, g, found)
		}
	}
	return s
}

// newTable is a table with these texts, put in this order; their handles are 10, 20, 30, ..
func newTable(t *testing.T, texts ...string) *strtab.Table {
	t.Helper()
	tab := strtab.New()
	for i, s := range texts {
		put(t, tab, s, 10*(i+1))
	}
	return tab
}

func put(t *testing.T, tab *strtab.Table, s string, h int) {
	t.Helper()
	if err := tab.Put(s, h); err != api.OK {
		t.Fatalf("Put(%q, %d) = %v", s, h, err)
	}
}

func drop(t *testing.T, tab *strtab.Table, l ...int) {
	t.Helper()
	for _, h := range l {
		if err := tab.Drop(h); err != api.OK {
			t.Fatalf("Drop(%d) = %v", h, err)
		}
	}
}

// expectFound holds Find and Text against a text that is there.
func expectFound(t *testing.T, tab *strtab.Table, s string, h int) {
	t.Helper()
	if g, is := tab.Find(s); g != h || !is {
		t.Errorf("Find(%q) = %d, %t; want %d", s, g, is, h)
	}
	if r, is := tab.Text(h); r != s || !is {
		t.Errorf("Text(%d) = %q, %t; want %q", h, r, is, s)
	}
}

// expectGone holds Find and Text against a text and a handle that are not there.
func expectGone(t *testing.T, tab *strtab.Table, s string, h int) {
	t.Helper()
	if g, is := tab.Find(s); g != 0 || is {
		t.Errorf("Find(%q) = %d, %t; it is not there", s, g, is)
	}
	if r, is := tab.Text(h); r != "" || is {
		t.Errorf("Text(%d) = %q, %t; it is not there", h, r, is)
	}
}

// expectChain holds a chain against what it must be.
func expectChain(t *testing.T, tab *strtab.Table, b int, want ...int) {
	t.Helper()
	if l := tab.Chain(b); !slices.Equal(l, want) {
		t.Errorf("Chain(%d) of %d = %v; want %v", b, tab.Buckets(), l, want)
	}
}

// textsIn are the first texts of a row whose bucket among n is b.
func textsIn(b, n, count int) []string {
	var l []string
	for i := 0; len(l) < count; i++ {
		if s := fmt.Sprint("t", i); bucketOf(s, n) == b {
			l = append(l, s)
		}
	}
	return l
}

// row are count texts, no two alike.
func row(count int) []string { return textsIn(0, 1, count) }

package strtab

import (
	"cmp"
	"iter"
	"maps"
	"slices"

	"heirloom/text"
)

// fewest is how many buckets a table has at least; as all numbers of buckets it is a power of two.
const fewest = 4

// item is a text, and the number of its Put: chains that become one are put in order by it.
type item struct {
	text string
	when int
}

// bucket is the one of n in which a text is.
func bucket(s string, n int) int { return int(text.Hash(s) % uint32(n)) }

// made: New made the table. A zero one is taken as nil is.
func (t *Table) made() bool { return t != nil && t.texts != nil }

// has: the text is there, or the handle.
func (t *Table) has(s string, h int) bool {
	_, named := t.texts[h]
	_, found := t.Find(s)
	return named || found
}

// link puts a handle that has its text into its chain: behind all others, as the one that was put last.
func (t *Table) link(h int) {
	b := bucket(t.texts[h].text, len(t.chains))
	t.chains[b] = append(t.chains[b], h)
}

// unlink takes a handle that has its text still out of its chain.
func (t *Table) unlink(h int) {
	b := bucket(t.texts[h].text, len(t.chains))
	at := slices.Index(t.chains[b], h)
	t.chains[b] = slices.Delete(t.chains[b], at, at+1)
}

// renew gives a table n buckets.
func (t *Table) renew(n int) {
	t.chains = make([][]int, n)
	for h := range t.inOrder() {
		t.link(h)
	}
}

// inOrder goes over the handles of all texts, the one that was put first ahead.
func (t *Table) inOrder() iter.Seq[int] {
	return func(yield func(int) bool) {
		for _, h := range slices.SortedFunc(maps.Keys(t.texts), t.earlier) {
			if !yield(h) {
				return
			}
		}
	}
}

// earlier compares two handles by when their texts were put.
func (t *Table) earlier(g, h int) int {
	return cmp.Compare(t.texts[g].when, t.texts[h].when)
}

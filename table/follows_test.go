package table_test

import (
	"fmt"
	"math"
	"math/rand"
	"slices"
	"testing"

	"heirloom/api"
	"heirloom/table"
)

// op is a call: Set(k, v), or with kill: Kill(i).
type op struct {
	kill bool
	i    int
	k, v api.Value
}

func (o op) String() string {
	if o.kill {
		return fmt.Sprintf("Kill(%d)", o.i)
	}
	return fmt.Sprintf("Set(%v, %v)", o.k, o.v)
}

// do makes a call of the table and of the model: their answers.
func (o op) do(s table.Store, m *model) (got, want api.Errno) {
	if o.kill {
		table.Kill(s, o.i)
		m.kill(o.i)
		return api.OK, api.OK
	}
	return table.Set(s, o.k, o.v), m.set(o.k, o.v)
}

// TestP6AllShortRuns: all runs of a few calls with a few keys are as the model's.
func TestP6AllShortRuns(t *testing.T) {
	keys := []api.Value{integer(1), float(2), integer(3), str(1), str(3), dead(1)}
	var ops []op
	for _, k := range keys[:5] {
		ops = append(ops, op{k: k, v: some}, op{k: k, v: null})
	}
	for i := range 4 {
		ops = append(ops, op{kill: true, i: i})
	}
	for _, most := range []int{3, 100} {
		var runs func(path []op, left int)
		runs = func(path []op, left int) {
			s, m := newShelf(t, most, low), newModel(most, low)
			for _, o := range path {
				if got, want := o.do(s, m); got != want {
					t.Fatalf("%v: the last call = %v; want %v", path, got, want)
				}
			}
			if d := differs(s, m, keys); d != "" {
				t.Fatalf("%v: %s", path, d)
			}
			if left == 0 {
				return
			}
			for _, o := range ops {
				runs(append(path[:len(path):len(path)], o), left-1)
			}
		}
		runs(nil, 4)
	}
}

// someKeys are keys for long runs: small ints, floats that are these and such as are not, objects, far ints.
func someKeys(r *rand.Rand) []api.Value {
	l := joined(ints(-1, 20), strs(12), []api.Value{float(2), float(3), float(21), float(2.5), float(-0.5), integer(1 << 40), value(api.TBool, 0), value(api.TBool, 1), value(api.TNative, 5)})
	for range 10 {
		l = append(l, value(api.TTable+r.Intn(5), 1+r.Int63n(api.MaxCells)), integer(r.Int63n(70)))
	}
	return l
}

// someOp is a call in a run: with up mostly values that are not nil.
func someOp(r *rand.Rand, keys []api.Value, m *model, up bool) op {
	if r.Intn(12) == 0 {
		return op{kill: true, i: r.Intn(len(m.slots())+4) - 2}
	}
	o := op{k: keys[r.Intn(len(keys))], v: integer(r.Int63n(1000))}
	if up == (r.Intn(5) == 0) {
		o.v = null
		if l := m.entries(); len(l) > 0 && r.Intn(8) != 0 {
			o.k = l[r.Intn(len(l))].k
		}
	}
	switch r.Intn(60) {
	case 0:
		o.k = noKeys()[r.Intn(len(noKeys()))]
	case 1:
		o.v = dead(r.Int63n(9))
	}
	return o
}

// eachStep makes long runs of calls, in which there come to be more keys and fewer by turns, over stores of many kinds, and has the table looked at behind each.
func eachStep(t *testing.T, seed int64, look func(s table.Store, m *model, o op, got, want api.Errno)) {
	t.Helper()
	r := rand.New(rand.NewSource(seed))
	for run := range 40 {
		most := []int{1 << 20, 40, 1 << 20, 90}[run%4]
		hash := []func(api.Value) uint32{mixed, low, one, mixed, func(v api.Value) uint32 { return uint32(v.N) / 5 }}[run%5]
		var s table.Store = newShelf(t, most, hash)
		if run%5 == 0 {
			s = table.NewMem(most)
		}
		m, keys, up := newModel(most, hash), someKeys(r), true
		for range 400 {
			if r.Intn(50) == 0 {
				up = !up
			}
			o := someOp(r, keys, m, up)
			got, want := o.do(s, m)
			look(s, m, o, got, want)
			if t.Failed() {
				return
			}
		}
	}
}

// TestP6ManyCalls: long runs of calls are as the model's.
func TestP6ManyCalls(t *testing.T) {
	arrays, nodes, errs := map[int]int{}, map[int]int{}, map[api.Errno]int{}
	eachStep(t, 60, func(s table.Store, m *model, o op, got, want api.Errno) {
		if got != want {
			t.Fatalf("%v = %v; want %v", o, got, want)
		}
		if d := differs(s, m, []api.Value{null, o.k, str(99), integer(99), float(1), dead(1), bitsOf(0x7ff8000000000001)}); d != "" {
			t.Fatalf("%v: %s", o, d)
		}
		arrays[s.Array()]++
		nodes[s.Nodes()]++
		errs[got]++
	})
	if len(arrays) < 6 || len(nodes) < 6 || errs[api.OK] < 10000 || errs[api.ErrKey] < 100 || errs[api.ErrFull] < 100 {
		t.Errorf("arrays %v, nodes %v, answers %v", arrays, nodes, errs)
	}
}

// TestP6ManyKeys: arrays as great as they can be, in orders of all kinds.
func TestP6ManyKeys(t *testing.T) {
	r := rand.New(rand.NewSource(61))
	orders := [][]api.Value{ints(1, 5000), ints(1, 5000), ints(1, 5000), ints(-100, 2100)}
	slices.Reverse(orders[1])
	r.Shuffle(5000, func(i, j int) { orders[2][i], orders[2][j] = orders[2][j], orders[2][i] })
	r.Shuffle(2201, func(i, j int) { orders[3][i], orders[3][j] = orders[3][j], orders[3][i] })
	for _, keys := range orders {
		s, m := table.NewMem(1<<20), newModel(1<<20, mixed)
		for i, k := range keys {
			v := integer(int64(i) + 1)
			if got, want := table.Set(s, k, v), m.set(k, v); got != want || s.Array() != len(m.array) || s.Nodes() != len(m.nodes) {
				t.Fatalf("%d keys: Set(%v) = %v; sizes %d, %d; want %v, %d, %d", i, k, got, s.Array(), s.Nodes(), want, len(m.array), len(m.nodes))
			}
		}
		if !slices.Equal(slotsOf(s), m.slots()) || table.Len(s) != m.length() {
			t.Errorf("%d keys from %v on: slots differ", len(keys), keys[0])
		}
		if l := met(t, s); !slices.Equal(l, m.entries()) {
			t.Errorf("%d keys from %v on: met are %d", len(keys), keys[0], len(l))
		}
	}
}

// TestP6_5Map: a key has the value that it was given last.
func TestP6_5Map(t *testing.T) {
	last := map[api.Value]api.Value{}
	var of table.Store
	eachStep(t, 65, func(s table.Store, m *model, o op, got, _ api.Errno) {
		if s != of {
			of, last = s, map[api.Value]api.Value{}
		}
		if o.kill { // what lies otherwise then
			for k := range last {
				if m.get(k) == null {
					delete(last, k)
				}
			}
		} else if k, is := taken(o.k); is && got == api.OK {
			last[k] = o.v
		}
		for k, v := range last {
			if got := table.Get(s, k); got != v {
				t.Fatalf("%v: Get(%v) = %v; want %v", o, k, got, v)
			}
		}
	})
}

// TestP6_6GoneOver: each key whose value is not nil is met once.
func TestP6_6GoneOver(t *testing.T) {
	eachStep(t, 66, func(s table.Store, m *model, o op, _, _ api.Errno) {
		seen := map[api.Value]int{}
		for _, p := range met(t, s) {
			seen[p.k]++
			if seen[p.k] > 1 || table.Get(s, p.k) != p.v {
				t.Fatalf("%v: met is %v, %d times", o, p, seen[p.k])
			}
		}
		if len(seen) != len(m.entries()) {
			t.Fatalf("%v: %d keys are met; there are %d", o, len(seen), len(m.entries()))
		}
	})
}

// TestP6_6ChangedBetween: also where values of keys that are there are changed, or made nil, between.
func TestP6_6ChangedBetween(t *testing.T) {
	r := rand.New(rand.NewSource(67))
	for run := range 2000 {
		s := newShelf(t, 1<<20, []func(api.Value) uint32{mixed, low, one}[run%3])
		keys := someKeys(r)
		for _, k := range keys[:r.Intn(len(keys))] {
			set(t, s, k, some)
		}
		want := map[api.Value]int{} // 1: to be met, 2: was met, 0: went ahead of that
		l := met(t, s)
		for _, p := range l {
			want[p.k] = 1
		}
		asked := s.asked
		at, _, err := table.Next(s, null)
		for ; at != null; at, _, err = table.Next(s, at) {
			if err != api.OK || want[at] != 1 {
				t.Fatalf("met is %v, %v: %d", at, err, want[at])
			}
			want[at] = 2
			for range r.Intn(4) {
				k, v := l[r.Intn(len(l))].k, integer(r.Int63n(50))
				if r.Intn(2) == 0 {
					k = at
				}
				if want[k] == 0 { // it would come again
					continue
				}
				if r.Intn(2) == 0 {
					v = null
				}
				set(t, s, k, v)
				if want[k] == 1 && v == null {
					want[k] = 0
				}
			}
		}
		if err != api.OK {
			t.Fatalf("the last Next = %v", err)
		}
		for k, n := range want {
			if n == 1 {
				t.Fatalf("%v was not met", k)
			}
		}
		if s.asked != asked {
			t.Fatalf("%d Resizes", s.asked-asked)
		}
	}
}

// TestP6_6Emptied: all keys go while they are gone over.
func TestP6_6Emptied(t *testing.T) {
	m := table.NewMem(1 << 20)
	keys := joined(ints(1, 300), strs(300))
	add(t, m, keys...)
	n := 0
	k, _, err := table.Next(m, null)
	for ; k != null; k, _, err = table.Next(m, k) {
		set(t, m, k, null)
		n++
	}
	if n != 600 || err != api.OK || len(met(t, m)) != 0 {
		t.Errorf("%d keys are met: %v", n, err)
	}
}

// TestP6_7Refused: a Set that is refused changes nothing.
func TestP6_7Refused(t *testing.T) {
	was, refused := "", map[api.Errno]int{}
	var of table.Store
	eachStep(t, 68, func(s table.Store, _ *model, o op, got, _ api.Errno) {
		if s == of && got != api.OK {
			refused[got]++
			if told(s) != was {
				t.Fatalf("%v = %v left %s; it was %s", o, got, told(s), was)
			}
		}
		of, was = s, told(s)
	})
	if refused[api.ErrKey] < 100 || refused[api.ErrFull] < 100 {
		t.Errorf("refused: %v", refused)
	}
}

// TestP6_7Renewed: behind a renewal no node that has a key is without a value, and more than half of the array slots have one.
func TestP6_7Renewed(t *testing.T) {
	asked, renewed := 0, 0
	var of table.Store
	eachStep(t, 69, func(s table.Store, _ *model, o op, got, _ api.Errno) {
		sh, is := s.(*shelf)
		if !is {
			return
		}
		if s != of {
			of, asked = s, 0
		}
		if sh.asked != asked && got == api.OK {
			renewed++
			values := 0
			for _, v := range sh.slots[:sh.array] {
				if v != null {
					values++
				}
			}
			if sh.array > 0 && 2*values <= sh.array {
				t.Fatalf("%v: %d of %d array slots have values", o, values, sh.array)
			}
			for i := sh.array; i < len(sh.slots); i += 2 {
				if (sh.slots[i] == null) != (sh.slots[i+1] == null) || sh.slots[i].T == api.TDead {
					t.Fatalf("%v: the node %d is %v, %v", o, (i-sh.array)/2, sh.slots[i], sh.slots[i+1])
				}
			}
			if n := len(met(t, s)) - values; 2*n <= sh.nodes && sh.nodes > 0 {
				t.Fatalf("%v: %d keys in %d nodes", o, n, sh.nodes)
			}
		}
		asked = sh.asked
	})
	if renewed < 300 {
		t.Errorf("%d renewals", renewed)
	}
}

// TestP6Reads: Get, Len and Next change nothing and ask for no other sizes.
func TestP6Reads(t *testing.T) {
	s := newShelf(t, 100, mixed)
	add(t, s, joined(ints(1, 5), strs(5))...)
	set(t, s, integer(3), null, str(3), null)
	was, asked, writes := told(s), s.asked, s.writes
	for _, k := range append(allKeys(), noKeys()...) {
		table.Get(s, k)
		table.Next(s, k)
		table.Len(s)
	}
	if told(s) != was || s.asked != asked || s.writes != writes {
		t.Errorf("it was %s, is %s", was, told(s))
	}
}

// TestP6Same: what is answered is the same each time.
func TestP6Same(t *testing.T) {
	want := ""
	for range 20 {
		m := table.NewMem(1000)
		add(t, m, joined(allKeys(), ints(1, 40), strs(60))...)
		for _, k := range ints(5, 25) {
			set(t, m, k, null)
		}
		add(t, m, joined(ints(100, 200))...)
		if s := told(m) + fmt.Sprint(met(t, m)); want == "" {
			want = s
		} else if s != want {
			t.Fatalf("%s and %s", want, s)
		}
	}
}

// TestP1ManyArguments: all calls end, whatever they are given.
func TestP1ManyArguments(t *testing.T) {
	l := append(allKeys(), noKeys()...)
	l = append(l, value(api.TNil, 5), value(api.TNil, -1), value(math.MinInt, 0), value(api.TInt, math.MaxInt64))
	for _, most := range []int{-1, 0, 3, 50, math.MaxInt} {
		m := table.NewMem(most)
		for _, k := range l {
			for _, v := range l {
				table.Set(m, k, v)
				table.Get(m, k)
				next, nv, err := table.Next(m, k)
				if err != api.OK && (next != null || nv != null) {
					t.Fatalf("Next(%v) = %v, %v, %v", k, next, nv, err)
				}
			}
			table.Len(m)
			table.Kill(m, int(k.N))
		}
	}
}

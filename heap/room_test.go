package heap_test

import (
	"slices"
	"testing"

	"heirloom/api"
	"heirloom/heap"
)

func TestP14_6Compact(t *testing.T) {
	h := open(t, 100)
	check(t, "Compact of nothing", h.Compact(), 0)
	var l []api.Value
	for i := range 8 {
		l = append(l, one(t)(h.Box(whole(i))))
	}
	check(t, "Compact of what lies together", h.Compact(), 0)
	checkFree(t, "together", h, 32, 32, 68)
	h.SetRoots(l[0], l[2], l[5], l[7])
	h.Major()
	checkFree(t, "apart", h, 16, 32, 68)
	check(t, "Compact", h.Compact(), 3)
	checkFree(t, "together", h, 16, 16, 84)
	for i, at := range map[int]int{0: 0, 2: 4, 5: 8, 7: 12} {
		checkObject(t, "moved", h, l[i], api.Object{Head: api.Head{Kind: api.TBox, Serial: i, Slots: 1}, Slots: []api.Value{whole(i)}})
		check(t, "Addr", h.Addr(int(l[i].N)), at)
	}
	check(t, "Compact again", h.Compact(), 0)
	checkCounts(t, "Compact", h, 8, 0, 0)
	h.SetRoots()
	h.Major()
	checkFree(t, "nothing", h, 0, 0, 100)
}

// Gaps are told as the arena has them.
func TestP14_6Free(t *testing.T) {
	h := open(t, 50)
	var l []api.Value
	for range 10 {
		l = append(l, one(t)(h.Box(none)))
	}
	h.SetRoots(l[0], l[4], l[8])
	h.Major()
	checkFree(t, "gaps", h, 12, 36, 14)
	h.Keep(one(t)(h.Thread(5))) // the first gap of 12 cells is its place
	checkFree(t, "a gap is filled", h, 24, 36, 14)
	h.Keep(one(t)(h.Thread(6)))
	checkFree(t, "the last gap is filled", h, 38, 50, 12)
}

func TestP14_6Counts(t *testing.T) {
	h := open(t, 30)
	checkCounts(t, "at first", h, 0, 0, 0)
	tab := one(t)(h.Table())
	one(t)(h.Text("a"))
	checkCounts(t, "made", h, 1, 0, 0)
	check(t, "Mark", h.Mark(tab), api.OK)
	check(t, "Mark", h.Mark(tab), api.ErrState)
	checkCounts(t, "marked", h, 1, 1, 0)
	h.Major()
	h.SetMode(api.ModeGen)
	h.Young()
	h.Compact()
	checkCounts(t, "no emergencies", h, 1, 1, 0)
	v, err := h.Thread(14) // what is pending takes its room
	checkRefused(t, "Thread", v, err, api.ErrFull)
	checkCounts(t, "refused", h, 1, 1, 1)
	h.Take()
	one(t)(h.Thread(14))
	checkCounts(t, "made", h, 2, 1, 2)
}

// Room that is there is taken without an emergency; what nobody holds gives way only in one.
func TestP14_2RoomBehindEmergency(t *testing.T) {
	for _, mode := range []int{api.ModeInc, api.ModeGen} {
		h := open(t, 40)
		h.SetMode(mode)
		held := one(t)(h.Box(whole(3)))
		h.SetRoots(held)
		lost := one(t)(h.Text("lost"))
		fill(t, h, tableCells)
		one(t)(h.Table())
		checkThere(t, "room", h, lost)
		_, _, emergencies := h.Counts()
		check(t, "emergencies", emergencies, 0)
		tab := one(t)(h.Table())
		_, _, emergencies = h.Counts()
		check(t, "emergencies", emergencies, 1)
		checkThere(t, "an emergency", h, held, tab)
		checkFree(t, "an emergency", h, boxCells+tableCells, boxCells+tableCells, 30)
		if l := h.View().Seen; len(l) != 2 {
			t.Errorf("objects: %v", l)
		}
		checkRules(t, "an emergency", h)
	}
}

// gaps makes a heap of this size with boxes, every second one held; nothing is free behind them.
func gaps(t *testing.T, size int) (*heap.Heap, []api.Value) {
	t.Helper()
	h := open(t, size)
	var l []api.Value
	for i := range size / boxCells {
		v := one(t)(h.Box(whole(i)))
		if i%2 == 1 {
			l = append(l, v)
		}
	}
	h.SetRoots(l...)
	return h, l
}

func TestP14_2RoomBehindCompact(t *testing.T) {
	h, l := gaps(t, 40)
	h.Major()
	checkFree(t, "gaps", h, 20, 40, 4)
	v := one(t)(h.Thread(9)) // all 20 cells
	checkFree(t, "no cell is free", h, 40, 40, 0)
	checkCounts(t, "Compact", h, 11, 0, 1)
	check(t, "Addr", h.Addr(int(v.N)), 20)
	for i, b := range l {
		got, err := h.Slot(b, 0)
		checkAnswer(t, "what was moved", got, err, whole(2*i+1), api.OK)
	}
	h, _ = gaps(t, 40)
	refused, err := h.Thread(10)
	checkRefused(t, "one slot more", refused, err, api.ErrFull)
	checkFree(t, "one slot more", h, 20, 20, 20) // the emergency and the compaction have been
	checkCounts(t, "one slot more", h, 10, 0, 1)
}

// What is handed to a call is kept in that call's emergency, and no longer.
func TestP14_2Handed(t *testing.T) {
	h := open(t, 40)
	in := one(t)(h.Table())
	fill(t, h, 0)
	b := one(t)(h.Box(in))
	checkThere(t, "Box", h, in)
	checkRules(t, "Box", h)
	checkList(t, "Roots", h.Roots())
	got, err := h.Slot(b, 0)
	checkAnswer(t, "Box", got, err, in, api.OK)

	fill(t, h, 0)
	p := one(t)(h.Proto(1, in, b, whole(3), in))
	checkThere(t, "Proto", h, in, b)
	checkRules(t, "Proto", h)

	h = open(t, 40)
	p = one(t)(h.Proto(1))
	x, y := one(t)(h.Box(none)), one(t)(h.Box(whole(1)))
	fill(t, h, 0)
	f := one(t)(h.Func(p, x, y))
	checkObject(t, "Func", h, f, api.Object{Head: api.Head{Kind: api.TFunc, Serial: 10, Slots: 3}, Slots: []api.Value{p, x, y}})
	checkRules(t, "Func", h)
	checkCounts(t, "Func", h, 11, 0, 1)
	checkList(t, "Roots", h.Roots())
	h.Keep(whole(1))
	fill(t, h, 0)
	one(t)(h.Func(p))
	checkList(t, "Roots", h.Roots(), whole(1))
	checkGone(t, "not handed in", h, x, y, f)
	h.Major()
	checkGone(t, "kept no longer", h, p)

	// It is kept also where there is no room in the end.
	h = open(t, 20)
	in = one(t)(h.Table())
	one(t)(h.Box(none))
	v, err := h.Proto(0, in, none, none, none, none, none)
	checkRefused(t, "Proto", v, err, api.ErrFull)
	checkThere(t, "Proto", h, in)
	checkFree(t, "Proto", h, tableCells, tableCells, 20-tableCells)
	checkList(t, "Roots", h.Roots())
}

// A thread grows where it lies, elsewhere, behind an emergency, behind all others that lie together, and not at all.
func TestP14_2GrowRoom(t *testing.T) {
	h := open(t, 40)
	a := one(t)(h.Thread(1))
	check(t, "Grow", h.Grow(a, 2), api.OK)
	check(t, "where it lies", h.Addr(int(a.N)), 0)
	b := one(t)(h.Box(none))
	check(t, "Grow", h.Grow(a, 5), api.OK)
	check(t, "behind", h.Addr(int(a.N)), 10)
	h.SetRoots(a, b)
	checkFree(t, "Grow", h, 16, 22, 18)
	fill(t, h, 0)
	checkCounts(t, "ahead", h, 7, 0, 0)
	check(t, "Grow", h.Grow(a, 13), api.OK) // 28 cells: from 4 on there are 36, behind an emergency
	checkCounts(t, "an emergency", h, 7, 0, 1)
	checkFree(t, "an emergency", h, 32, 32, 8)
	check(t, "Grow", h.Grow(a, 17), api.OK) // 36 cells
	checkCounts(t, "its own cells are free", h, 7, 0, 1)
	checkFree(t, "all cells", h, 40, 40, 0)
	check(t, "Grow", h.Grow(a, 18), api.ErrFull)
	checkCounts(t, "refused", h, 7, 0, 2)
	check(t, "slots", head(t, h, a).Slots, 17)
	checkRules(t, "Grow", h)

	// Only Extend finds room: others lie on both sides.
	h, l := gaps(t, 40)
	h.Major()
	c := one(t)(h.Thread(1))
	check(t, "SetSlot", h.SetSlot(c, 0, whole(77)), api.OK)
	h.SetRoots(l...) // nobody holds the thread but the call
	check(t, "Grow", h.Grow(c, 9), api.OK)
	checkFree(t, "Extend", h, 40, 40, 0)
	check(t, "behind all others", h.Addr(int(c.N)), 20)
	want := make([]api.Value, 9)
	want[0] = whole(77)
	checkObject(t, "Extend", h, c, api.Object{Head: api.Head{Kind: api.TThread, Serial: 10, Slots: 9}, Slots: want})
	for i, b := range l {
		got, err := h.Slot(b, 0)
		checkAnswer(t, "others", got, err, whole(2*i+1), api.OK)
	}
	checkList(t, "Roots", h.Roots(), l...)
	check(t, "Grow", h.Grow(c, 10), api.ErrFull)
	checkObject(t, "refused", h, c, api.Object{Head: api.Head{Kind: api.TThread, Serial: 10, Slots: 9}, Slots: want})
	h.Major()
	checkGone(t, "kept no longer", h, c)
}

// A table is renewed where it lies, elsewhere, behind an emergency, behind all others that lie together, and not at all.
func TestP14_4Room(t *testing.T) {
	h, l := gaps(t, 60)
	h.Major()
	// 28 cells are held, in gaps of 4; 4 more are free at the end.
	h.Compact()
	tab := one(t)(h.Table())
	check(t, "Addr", h.Addr(int(tab.N)), 28)
	k, x := one(t)(h.Text("k")), one(t)(h.Text("x"))
	lost := one(t)(h.Box(none))
	fill(t, h, 0)
	_, _, gap := h.Free()
	check(t, "Gap", gap, 2)
	check(t, "Set", h.Set(tab, k, x), api.OK)
	_, _, emergencies := h.Counts()
	check(t, "an emergency", emergencies, 1)
	checkGone(t, "not handed in", h, lost)
	checkGet(t, "handed in", h, tab, k, x)
	check(t, "behind all others", h.Addr(int(tab.N)), 28+2*textCells(1))
	checkFree(t, "Extend", h, 28+2*textCells(1)+tableCells+nodeCells, 46, 14)
	checkList(t, "Roots", h.Roots(), l...)
	checkRules(t, "Extend", h)

	// Its own cells are among the free ones: 36 cells are others', and it has 10 of 24, then 14, then 22.
	check(t, "Set", h.Set(tab, yes, yes), api.OK)
	check(t, "Set", h.Set(tab, none, yes), api.ErrKey)
	check(t, "Set", h.Set(tab, whole(-1), yes), api.OK)
	checkFree(t, "own cells", h, 58, 58, 2)
	check(t, "Set", h.Set(tab, whole(-2), yes), api.OK)
	before, _ := h.Object(tab)
	check(t, "Set", h.Set(tab, whole(-3), yes), api.ErrFull)
	checkObject(t, "refused", h, tab, before)
	check(t, "Set of a key that is there", h.Set(tab, whole(-2), l[0]), api.OK)
	checkGet(t, "Get", h, tab, whole(-2), l[0])
	checkRules(t, "refused", h)
	h.Major()
	checkGone(t, "kept no longer", h, tab, k, x)
	for i, b := range l {
		got, err := h.Slot(b, 0)
		checkAnswer(t, "others", got, err, whole(2*i+1), api.OK)
	}
}

// A table of the last 38 cells of 40, with blocks of others apart: it can be renewed only over itself, behind a compaction.
func TestP14_4ExtendOverItself(t *testing.T) {
	h := open(t, 50)
	first := one(t)(h.Box(none))
	a := one(t)(h.Box(whole(1)))
	tab := one(t)(h.Table())
	for i := range 3 {
		check(t, "Set", h.Set(tab, whole(-i), whole(i)), api.OK)
	}
	b := one(t)(h.Box(whole(2)))
	h.SetRoots(first, a, tab, b)
	if _, _, emergencies := h.Counts(); emergencies != 0 {
		t.Fatal("an emergency too early")
	}
	h.SetRoots(a, tab, b)
	check(t, "Set", h.Set(tab, whole(-3), whole(3)), api.OK)
	check(t, "Set", h.Set(tab, whole(-4), whole(4)), api.OK) // 38 cells of 42
	_, _, emergencies := h.Counts()
	check(t, "an emergency", emergencies, 1)
	check(t, "behind all others", h.Addr(int(tab.N)), 8)
	checkFree(t, "Extend", h, 46, 46, 4)
	for i := range 5 {
		checkGet(t, "Get", h, tab, whole(-i), whole(i))
	}
	for v, x := range map[api.Value]api.Value{a: whole(1), b: whole(2)} {
		got, err := h.Slot(v, 0)
		checkAnswer(t, "others", got, err, x, api.OK)
	}
	checkRules(t, "Extend", h)
}

// An emergency may clear what a weak table has: it asks for fewer slots then.
func TestP14_4WeakRoom(t *testing.T) {
	h := open(t, 60)
	tab := one(t)(h.Table())
	h.SetRoots(tab)
	check(t, "SetMeta", h.SetMeta(tab, none, api.WeakKeys), api.OK)
	for i := range 4 {
		check(t, "Set", h.Set(tab, one(t)(h.Box(none)), whole(i)), api.OK)
	}
	check(t, "nodes", head(t, h, tab).Slots, 9)
	k := one(t)(h.Box(whole(5)))
	check(t, "Set", h.Set(tab, k, k), api.OK)
	checkCounts(t, "Set", h, 6, 0, 1)
	checkObject(t, "one node", h, tab, api.Object{Head: api.Head{Kind: api.TTable, Weak: api.WeakKeys, Aux: 2, Slots: 3}, Aux: []int64{0, 1}, Slots: []api.Value{none, k, k}})
	checkRules(t, "Set", h)
	checkFree(t, "Set", h, boxCells+tableCells+nodeCells, 14, 46)
}

// An emergency ends what was under way, and is the same in each phase and mode.
func TestP14_2Phases(t *testing.T) {
	for _, phase := range []int{api.PhasePause, api.PhaseMark, api.PhaseSweep} {
		h, l := gaps(t, 40)
		toPhase(t, h, phase)
		v := one(t)(h.Proto(1, l...)) // 13 cells
		check(t, "Phase", h.View().Phase, api.PhasePause)
		checkThere(t, "held", h, append(slices.Clone(l), v)...)
		checkLooks(t, "what is made", h, v, h.View().White, api.New)
		checkFree(t, "an emergency", h, 33, 33, 7)
		checkRules(t, "an emergency", h)
	}
	h, l := gaps(t, 40)
	h.SetMode(api.ModeGen)
	v := one(t)(h.Proto(1, l...))
	check(t, "Mode", h.View().Mode, api.ModeGen)
	checkLooks(t, "what is made", h, v, h.View().White, api.New)
	for _, b := range l {
		checkLooks(t, "held", h, b, api.Black, api.Old)
	}
	checkRules(t, "an emergency", h)
}

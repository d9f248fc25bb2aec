package object_test

import (
	"math/rand"
	"slices"
	"testing"

	"heirloom/api"
	"heirloom/object"
)

func TestP4_5UnlikeHeads(t *testing.T) {
	of := map[[2]int64]api.Head{}
	heads := rightHeads()
	for _, h := range heads {
		a, b, err := object.Pack(h)
		if err != api.OK {
			t.Fatalf("Pack(%+v) = %v", h, err)
		}
		if g, there := of[[2]int64{a, b}]; there {
			t.Fatalf("%+v and %+v have the cells %d, %d", g, h, a, b)
		}
		of[[2]int64{a, b}] = h
	}
	if len(of) != len(heads) {
		t.Errorf("%d heads have %d cells", len(heads), len(of))
	}
}

func TestP4_5ReadOfCells(t *testing.T) {
	for _, o := range sampleObjects() {
		l, err := object.Cells(o)
		if err != api.OK {
			t.Fatalf("Cells of %+v = %v", o.Head, err)
		}
		if got, err := object.Read(l); told(got) != told(o) || err != api.OK {
			t.Errorf("Read of Cells of %+v = %+v, %v", o.Head, got.Head, err)
		}
	}
}

// pool is values from which objects are made at random.
type pool struct{ right, wrong []api.Value }

func newPool() pool { return pool{sampleValues(true), sampleValues(false)} }

// value is one of them, most often one that is right.
func (p pool) value(r *rand.Rand) api.Value {
	if r.Intn(40) == 0 {
		return p.wrong[r.Intn(len(p.wrong))]
	}
	return p.right[r.Intn(len(p.right))]
}

// object is one at random, most often one that has cells.
func (p pool) object(r *rand.Rand) api.Object {
	heads := plainHeads()
	h := heads[r.Intn(len(heads))]
	h.Colour, h.Age, h.Serial = r.Intn(4), r.Intn(7), r.Intn(maxCount)
	o := api.Object{Head: h, Aux: some(r.Intn(4))}
	for range r.Intn(6) {
		o.Slots = append(o.Slots, p.value(r))
	}
	o.Head.Aux, o.Head.Slots = len(o.Aux), len(o.Slots)
	if r.Intn(5) == 0 {
		l := fields()
		f := l[r.Intn(len(l))]
		*f.of(&o.Head) += r.Intn(5) - 2
	}
	return o
}

// wantErr is what Cells must say of an object.
func wantErr(o api.Object) api.Errno {
	if err := wantRight(o.Head); err != api.OK {
		return err
	}
	if o.Head.Aux != len(o.Aux) || o.Head.Slots != len(o.Slots) {
		return api.ErrArg
	}
	for _, v := range o.Slots {
		if !wantValue(v) {
			return api.ErrForm
		}
	}
	return api.OK
}

// TestP4_5ManyObjects: of objects at random Cells, Read and Layout are as told, and each is the other's way back.
func TestP4_5ManyObjects(t *testing.T) {
	r := rand.New(rand.NewSource(45))
	from, met := newPool(), map[api.Errno]int{}
	for range 20000 {
		o := from.object(r)
		want := wantErr(o)
		met[want]++
		l, err := object.Cells(o)
		if err != want || want != api.OK && len(l) != 0 {
			t.Fatalf("Cells(%s) = %v, %v; want %v", told(o), l, err, want)
		}
		if want != api.OK {
			if err := object.Layout(o); err != want {
				t.Fatalf("Layout(%s) = %v; want %v", told(o), err, want)
			}
			continue
		}
		if got, err := object.Read(l); told(got) != told(o) || err != api.OK {
			t.Fatalf("Read of Cells of %s = %s, %v", told(o), told(got), err)
		}
		if err := object.Layout(o); err != wantLayout(o) {
			t.Fatalf("Layout(%s) = %v; want %v", told(o), err, wantLayout(o))
		}
	}
	if len(met) != 3 {
		t.Errorf("answers met: %v", met)
	}
}

// TestP4_5ManyCells: what Read takes of cells with a fault or two is what Cells tells.
func TestP4_5ManyCells(t *testing.T) {
	r := rand.New(rand.NewSource(54))
	from, read := newPool(), 0
	for range 50000 {
		o := from.object(r)
		if wantErr(o) != api.OK {
			continue
		}
		l := wantCells(o)
		for range 1 + r.Intn(2) {
			switch i := r.Intn(len(l)); r.Intn(5) {
			case 0:
				l[i] ^= 1 << r.Intn(64)
			case 1:
				l[i] += int64(r.Intn(5) - 2)
			case 2:
				l = slices.Insert(l, i, int64(r.Intn(12)))
			case 3:
				l = append(l, int64(r.Intn(12)))
			case 4:
				l = slices.Delete(l, i, i+1)
			}
			if len(l) == 0 {
				break
			}
		}
		got, err := object.Read(l)
		if err != api.OK {
			if told(got) != told(api.Object{}) || err != api.ErrForm {
				t.Fatalf("Read(%v) = %s, %v", l, told(got), err)
			}
			if isObject(l) {
				t.Fatalf("Read(%v) = %v, but it is an object's", l, err)
			}
			continue
		}
		read++
		if !isObject(l) || !slices.Equal(wantCells(got), l) {
			t.Fatalf("Read(%v) = %s, whose cells are others", l, told(got))
		}
		if back, err := object.Cells(got); !slices.Equal(back, l) || err != api.OK {
			t.Fatalf("Read(%v) = %s, whose Cells are %v, %v", l, told(got), back, err)
		}
	}
	if read < 1000 {
		t.Errorf("%d lists of cells were read", read)
	}
}

// isObject tells whether cells are an object's, reckoned without Read.
func isObject(l []int64) bool {
	if len(l) < 2 {
		return false
	}
	h, is := wantUnpacked(l[0], l[1])
	if !is || len(l) != 2+h.Aux+2*h.Slots {
		return false
	}
	for i := 2 + h.Aux; i < len(l); i += 2 {
		if !wantValue(api.Value{T: int(l[i]), N: l[i+1]}) {
			return false
		}
	}
	return true
}

// TestP2HandedInAndOut: what is handed in is not changed, and what is handed out shares nothing with it.
func TestP2HandedInAndOut(t *testing.T) {
	for _, o := range sampleObjects() {
		o.Aux, o.Slots = slices.Grow(o.Aux, 8), slices.Grow(o.Slots, 8) // room behind them, to be seen written to
		spareAux, spareSlots := o.Aux[:cap(o.Aux)], o.Slots[:cap(o.Slots)]
		was, wasAux, wasSlots := told(o), slices.Clone(spareAux), slices.Clone(spareSlots)
		l, _ := object.Cells(o)
		object.Layout(o)
		refs := object.Refs(o)
		cells := slices.Clone(l)
		got, _ := object.Read(l)
		if !slices.Equal(l, cells) {
			t.Fatalf("Read changed the cells of %+v", o.Head)
		}
		for i := range l {
			l[i] = -9
		}
		for i := range refs {
			refs[i] = -9
		}
		if told(got) != was || told(o) != was || !slices.Equal(spareAux, wasAux) || !slices.Equal(spareSlots, wasSlots) {
			t.Fatalf("%+v changed with its cells", o.Head)
		}
		for i := range got.Aux {
			got.Aux[i] = -8
		}
		_ = append(got.Aux, 3)
		_ = append(got.Slots, api.Value{T: 9, N: 9})
		if told(o) != was || slices.Contains(l, -8) {
			t.Fatalf("%+v shares its parts with what was read", o.Head)
		}
	}
}

// TestP2Refused: a call that is refused leaves what it was given, and later answers, as they were.
func TestP2Refused(t *testing.T) {
	good := made(api.TThread, nil, ints(3)...)
	want, _ := object.Cells(good)
	for _, v := range sampleValues(false) {
		o := made(api.TThread, nil, v, api.Value{})
		was := told(o)
		object.Cells(o)
		object.Layout(o)
		object.Read([]int64{8, 8192, int64(v.T), v.N})
		object.Unpack(v.N, v.N)
		object.Pack(api.Head{Kind: v.T, Slots: int(v.N)})
		if told(o) != was {
			t.Errorf("%s is %s behind refused calls", was, told(o))
		}
		if l, err := object.Cells(good); !slices.Equal(l, want) || err != api.OK {
			t.Errorf("Cells = %v, %v behind refused calls", l, err)
		}
	}
}

// TestP1Whatever: no call panics at heads, values and cells at random.
func TestP1Whatever(t *testing.T) {
	r := rand.New(rand.NewSource(41))
	ns := sampleNs()
	n := func() int64 {
		if r.Intn(2) == 0 {
			return int64(r.Intn(12))
		}
		return ns[r.Intn(len(ns))]
	}
	for range 50000 {
		o := api.Object{Head: api.Head{
			Kind: int(n()), Colour: int(n()), Age: int(n()), Weak: int(n()), Serial: int(n()), Fin: int(n()), Aux: int(n()), Slots: int(n()),
		}}
		for range r.Intn(4) {
			o.Aux = append(o.Aux, n())
		}
		for range r.Intn(4) {
			o.Slots = append(o.Slots, api.Value{T: int(n()), N: n()})
		}
		checkHead(t, o.Head)
		l, err := object.Cells(o)
		if want := wantErr(o); err != want || err != api.OK && len(l) != 0 {
			t.Fatalf("Cells(%s) = %v, %v; want %v", told(o), l, err, want)
		}
		want := wantErr(o)
		if want == api.OK {
			want = wantLayout(o)
		}
		if err := object.Layout(o); err != want {
			t.Fatalf("Layout(%s) = %v; want %v", told(o), err, want)
		}
		object.Refs(o)
		checkUnpack(t, n(), n())
		cells := append([]int64{n(), n()}, o.Aux...)
		if _, err := object.Read(cells); (err == api.OK) != isObject(cells) {
			t.Fatalf("Read(%v) = %v", cells, err)
		}
	}
}

package ages_test

import (
	"fmt"
	"math/rand"
	"slices"
	"testing"

	"heirloom/ages"
	"heirloom/api"
)

// after is an age behind so many young collections.
func after(age, times int) int {
	for range times {
		age = ages.Next(age)
	}
	return age
}

func TestP12_3NeverWrittenInto(t *testing.T) {
	least := map[int]int{api.New: 3, api.Survival: 2, api.Old0: 2, api.Old1: 1, api.Old: 0}
	for age, times := range least {
		for n := range 10 {
			if got := after(age, n) == api.Old; got != (n >= times) {
				t.Errorf("%d behind %d young collections is %d", age, n, after(age, n))
			}
		}
	}
}

func TestP12_3WrittenInto(t *testing.T) {
	for _, age := range allAges {
		if !ages.Old(age) {
			continue
		}
		touched := ages.Back(age)
		if got := []int{touched, after(touched, 1), after(touched, 2), after(touched, 3)}; !slices.Equal(got, []int{api.Touched1, api.Touched2, api.Old, api.Old}) {
			t.Errorf("%d, written into, is %v one behind the other", age, got)
		}
		for _, young := range []int{api.New, api.Survival} {
			written := ages.Forward(age, young)
			if got := []int{written, after(written, 1), after(written, 2), after(written, 3)}; !slices.Equal(got, []int{api.Old0, api.Old1, api.Old, api.Old}) {
				t.Errorf("%d, written into %d, is %v one behind the other", young, age, got)
			}
		}
	}
}

// What lives long is Old, however often it is written into, two collections behind the last time.
func TestP12_3Lives(t *testing.T) {
	r := rand.New(rand.NewSource(123))
	for range 2000 {
		age, lived, since := api.New, 0, 0
		for range 60 {
			if r.Intn(3) == 0 {
				was := age
				age, since = ages.Back(age), 0
				if ages.Old(was) != ages.Old(age) {
					t.Fatalf("Back(%d) = %d", was, age)
				}
			}
			age = ages.Next(age)
			lived++
			since++
			if !slices.Contains(allAges, age) || ages.Old(age) != (lived >= 2) {
				t.Fatalf("behind %d collections the age is %d", lived, age)
			}
			if (age == api.Old) != (lived >= 3 && since >= 2) {
				t.Fatalf("behind %d collections, %d behind a write, the age is %d", lived, since, age)
			}
		}
	}
}

// youngViews are views in which all are young (in ModeInc: New) and of the current white, and each slot leads somewhere.
func youngViews(r *rand.Rand, do func(name string, v api.View)) {
	seen := make([]api.Seen, r.Intn(8)+1)
	for i := range seen {
		seen[i] = as(kinds[r.Intn(len(kinds))], one(100-7*i, r.Intn(2), api.New))
	}
	for i := range seen {
		seen[i].Colour = seen[0].Colour
		for range r.Intn(6) {
			to := seen[r.Intn(len(seen))]
			seen[i].Thing.Slots = append(seen[i].Thing.Slots, leading(to.Thing.Kind, to.H), api.Value{T: r.Intn(4), N: int64(r.Intn(120))})
		}
	}
	for _, phase := range phases {
		do(fmt.Sprintf("phase %d", phase), inc(phase, seen[0].Colour, seen...))
	}
	aged := slices.Clone(seen)
	for i := range aged {
		aged[i].Age = r.Intn(2)
	}
	v := gen(seen[0].Colour, aged...)
	v.Again = r.Perm(3)
	do("by generations", v)
}

func TestP12_4YoungAndWhite(t *testing.T) {
	r := rand.New(rand.NewSource(124))
	for range 3000 {
		youngViews(r, func(name string, v api.View) {
			check(t, name, v)
			if t.Failed() {
				t.FailNow()
			}
		})
	}
}

// With one slot of one object that leads nowhere, just that is told.
func TestP12_4ButOne(t *testing.T) {
	r := rand.New(rand.NewSource(1240))
	for range 3000 {
		youngViews(r, func(name string, v api.View) {
			v.Seen = slices.Clone(v.Seen)
			s := &v.Seen[r.Intn(len(v.Seen))]
			slots := slices.Clone(s.Thing.Slots)
			s.Thing.Slots = append(slots, leading(kinds[r.Intn(len(kinds))], 101+r.Intn(3)), api.Value{})
			check(t, name, v, at(s.H, len(slots)))
			if t.Failed() {
				t.FailNow()
			}
		})
	}
}

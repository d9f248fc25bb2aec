package ages_test

import (
	"slices"
	"testing"

	"heirloom/ages"
	"heirloom/api"
)

// Of each age: what Next, Old and Back answer.
var ofAges = []struct {
	age, next int
	old       bool
	back      int
}{
	{api.New, api.Survival, false, api.New},
	{api.Survival, api.Old1, false, api.Survival},
	{api.Old0, api.Old1, true, api.Touched1},
	{api.Old1, api.Old, true, api.Touched1},
	{api.Old, api.Old, true, api.Touched1},
	{api.Touched1, api.Touched2, true, api.Touched1},
	{api.Touched2, api.Old, true, api.Touched1},
}

func TestP12_1NextOldBack(t *testing.T) {
	for i, x := range ofAges {
		if x.age != allAges[i] {
			t.Fatalf("the row %d is of the age %d", i, x.age)
		}
		if got := ages.Next(x.age); got != x.next {
			t.Errorf("Next(%d) = %d, want %d", x.age, got, x.next)
		}
		if got := ages.Old(x.age); got != x.old {
			t.Errorf("Old(%d) = %v, want %v", x.age, got, x.old)
		}
		if got := ages.Back(x.age); got != x.back {
			t.Errorf("Back(%d) = %d, want %d", x.age, got, x.back)
		}
	}
}

func TestP12_1NoAges(t *testing.T) {
	for _, age := range noAges {
		if got := ages.Next(age); got != age {
			t.Errorf("Next(%d) = %d", age, got)
		}
		if ages.Old(age) {
			t.Errorf("Old(%d)", age)
		}
		if got := ages.Back(age); got != age {
			t.Errorf("Back(%d) = %d", age, got)
		}
	}
}

// Of owners down, of ages across, as in allAges.
var forwards = [][]int{
	{api.New, api.Survival, api.Old0, api.Old1, api.Old, api.Touched1, api.Touched2},
	{api.New, api.Survival, api.Old0, api.Old1, api.Old, api.Touched1, api.Touched2},
	{api.Old0, api.Old0, api.Old0, api.Old1, api.Old, api.Touched1, api.Touched2},
	{api.Old0, api.Old0, api.Old0, api.Old1, api.Old, api.Touched1, api.Touched2},
	{api.Old0, api.Old0, api.Old0, api.Old1, api.Old, api.Touched1, api.Touched2},
	{api.Old0, api.Old0, api.Old0, api.Old1, api.Old, api.Touched1, api.Touched2},
	{api.Old0, api.Old0, api.Old0, api.Old1, api.Old, api.Touched1, api.Touched2},
}

func TestP12_1Forward(t *testing.T) {
	for i, owner := range allAges {
		for j, age := range allAges {
			if got := ages.Forward(owner, age); got != forwards[i][j] {
				t.Errorf("Forward(%d, %d) = %d, want %d", owner, age, got, forwards[i][j])
			}
		}
	}
}

func TestP12_1ForwardOfNoAges(t *testing.T) {
	for _, none := range noAges {
		for _, age := range slices.Concat(allAges, noAges) {
			if got := ages.Forward(none, age); got != age {
				t.Errorf("Forward(%d, %d) = %d", none, age, got)
			}
			if got := ages.Forward(age, none); got != none {
				t.Errorf("Forward(%d, %d) = %d", age, none, got)
			}
		}
	}
}

func TestP12_1P12_2Example(t *testing.T) {
	if ages.Next(api.New) != api.Survival || ages.Back(api.Old) != api.Touched1 {
		t.Error("Next or Back")
	}
	if ages.Back(api.Survival) != api.Survival || ages.Forward(api.Old1, api.New) != api.Old0 {
		t.Error("Back or Forward")
	}
	v := gen(api.White0, one(7, api.Black, api.Old, api.Value{}, tab(9)), one(9, api.White0, api.New))
	check(t, "an Old table with a New one", v, at(7, 1))
}

package object

import "heirloom/api"

// Where the fields of a head begin in its two cells: those of the first one, then those of the second one.
const (
	colourAt = 4
	ageAt    = 6
	weakAt   = 9
	serialAt = 11

	slotsAt = 13
	finAt   = 26
)

// Serial and Fin have so many bits, and this is the greatest of both.
const (
	countBits = 31
	maxCount  = 1<<countBits - 1
)

// headCells are the two cells of a head.
type headCells [2]int64

// Right is what is wrong with a head.
func Right(h api.Head) api.Errno {
	switch {
	case !objectType(h.Kind):
		return api.ErrType
	case !upTo(h.Colour, api.Black), !upTo(h.Age, api.Touched2), !upTo(h.Weak, api.WeakBoth):
		return api.ErrArg
	case !upTo(h.Serial, maxCount), !upTo(h.Fin, maxCount):
		return api.ErrArg
	case h.Kind != api.TTable && (h.Weak != 0 || h.Fin != 0):
		return api.ErrArg
	case !upTo(h.Aux, api.MaxParts), !upTo(h.Slots, api.MaxParts):
		return api.ErrArg
	}
	return api.OK
}

// upTo tells whether n is from 0 to most.
func upTo(n, most int) bool { return n >= 0 && n <= most }

// Size is how many cells an object has.
func Size(h api.Head) int {
	if Right(h) != api.OK {
		return 0
	}
	return len(headCells{}) + h.Aux + 2*h.Slots
}

// Pack is a head as two cells.
func Pack(h api.Head) (int64, int64, api.Errno) {
	if err := Right(h); err != api.OK {
		return 0, 0, err
	}
	c := joined(h)
	return c[0], c[1], api.OK
}

// Unpack is the head of two cells.
func Unpack(a, b int64) (api.Head, api.Errno) {
	c := headCells{a, b}
	h := c.split()
	if Right(h) != api.OK || joined(h) != c { // c may have bits that are no field's
		return api.Head{}, api.ErrForm
	}
	return h, api.OK
}

// joined are the two cells of a head that is right.
func joined(h api.Head) headCells {
	return headCells{
		int64(h.Kind) | int64(h.Colour)<<colourAt | int64(h.Age)<<ageAt | int64(h.Weak)<<weakAt | int64(h.Serial)<<serialAt,
		int64(h.Aux) | int64(h.Slots)<<slotsAt | int64(h.Fin)<<finAt,
	}
}

// split is the head of two cells, which may be not right.
func (c headCells) split() api.Head {
	return api.Head{
		Kind:   field(c[0], 0, colourAt),
		Colour: field(c[0], colourAt, ageAt),
		Age:    field(c[0], ageAt, weakAt),
		Weak:   field(c[0], weakAt, serialAt),
		Serial: field(c[0], serialAt, serialAt+countBits),
		Aux:    field(c[1], 0, slotsAt),
		Slots:  field(c[1], slotsAt, finAt),
		Fin:    field(c[1], finAt, finAt+countBits),
	}
}

// field is what the bits of a cell say, from one place up to another.
func field(cell int64, from, to int) int { return int(cell >> from & (1<<(to-from) - 1)) }

package script

import (
	"strconv"
	"strings"

	"heirloom/api"
)

// How great numbers of lines may be.
const (
	mostDigits = 9
	mostNumber = 999999999
)

// manyWord stands, behind a blank and ahead of a number, where a line tells several points.
const manyWord = " x"

// A row is how points of a kind are told.
type row struct {
	kind     int
	word     string
	numbered bool // their lines have a number
	most     int  // how great that may be; 0 of those without one
}

var rows = [...]row{
	{api.PointNone, "none", false, 0},
	{api.PointStep, "step", true, mostNumber},
	{api.PointYoung, "young", false, 0},
	{api.PointMajor, "major", false, 0},
	{api.PointMode, "mode", true, 1},
	{api.PointCompact, "compact", false, 0},
}

// rowOfKind is the row of a kind; false, if there is none.
func rowOfKind(kind int) (row, bool) {
	for _, r := range rows {
		if r.kind == kind {
			return r, true
		}
	}
	return row{}, false
}

// rowOfWord is the row of a word; false, if there is none.
func rowOfWord(word string) (row, bool) {
	for _, r := range rows {
		if r.word == word {
			return r, true
		}
	}
	return row{}, false
}

// mayBePoint tells whether there is a line for a point.
func mayBePoint(p api.Point) bool {
	r, is := rowOfKind(p.Kind)
	return is && p.N >= 0 && p.N <= r.most
}

// pointLine is the line of a point that may be, n times over, without its end.
func pointLine(p api.Point, n int) string {
	r, _ := rowOfKind(p.Kind)
	line := r.word
	if r.numbered {
		line += " " + strconv.Itoa(p.N)
	}
	if n > 1 {
		line += manyWord + strconv.Itoa(n)
	}
	return line
}

// pointsOf is the point that a line tells, and how many of them; false, if it is no point's line.
func pointsOf(line string) (api.Point, int, bool) {
	told, times, many := strings.Cut(line, manyWord)
	n := 1
	if many {
		var is bool
		if n, is = number(times); !is || n < 2 {
			return api.Point{}, 0, false
		}
	}
	p, is := pointOf(told)
	return p, n, is
}

// pointOf is the point that a line without an x tells.
func pointOf(told string) (api.Point, bool) {
	word, digits, numbered := strings.Cut(told, " ")
	r, is := rowOfWord(word)
	if !is || r.numbered != numbered {
		return api.Point{}, false
	}
	p := api.Point{Kind: r.kind}
	if numbered {
		if p.N, is = number(digits); !is || p.N > r.most {
			return api.Point{}, false
		}
	}
	return p, true
}

// alike is how many points at a list's beginning are alike.
func alike(l []api.Point) int {
	n := 1
	for n < len(l) && l[n] == l[0] {
		n++
	}
	return n
}

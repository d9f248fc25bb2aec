package script

import (
	"strings"

	"heirloom/api"
)

// The words of the lines that are no points'.
const (
	sizeWord   = "size"
	stepsWord  = "steps"
	sourceWord = "source"
)

// A reader reads a text's lines, one behind the other.
type reader struct {
	rest  string // what is not read yet
	scene api.Scene
	next  func(line string) api.Errno // reads a line, of those that may come next; nil, if none may
}

func newReader(s string) *reader {
	r := &reader{rest: s}
	r.next = r.size
	return r
}

// over tells whether all lines are read.
func (r *reader) over() bool { return r.next == nil }

// line reads the line that comes next.
func (r *reader) line() api.Errno {
	line, rest, ends := strings.Cut(r.rest, "\n")
	if !ends {
		return api.ErrForm
	}
	r.rest = rest
	return r.next(line)
}

func (r *reader) size(line string) api.Errno {
	n, is := behind(sizeWord, line)
	if !is {
		return api.ErrForm
	}
	if !mayBeSize(n) {
		return api.ErrRange
	}
	r.scene.Size, r.next = n, r.steps
	return api.OK
}

func (r *reader) steps(line string) api.Errno {
	n, is := behind(stepsWord, line)
	if !is {
		return api.ErrForm
	}
	if !mayBeSteps(n) {
		return api.ErrRange
	}
	r.scene.Steps, r.next = n, r.pointsOrSource
	return api.OK
}

func (r *reader) pointsOrSource(line string) api.Errno {
	if line == sourceWord {
		return r.source()
	}
	p, n, is := pointsOf(line)
	if !is {
		return api.ErrForm
	}
	// Asked ahead of making them: a short line may tell very many.
	if n > api.MaxPoints-len(r.scene.Points) {
		return api.ErrMany
	}
	for range n {
		r.scene.Points = append(r.scene.Points, p)
	}
	return api.OK
}

// source takes all that is not read yet, whatever it is.
func (r *reader) source() api.Errno {
	if len(r.rest) > api.MaxSource {
		return api.ErrLong
	}
	r.scene.Source, r.next = strings.Clone(r.rest), nil
	return api.OK
}

// behind is the number of a line that is a word, a blank and a number.
func behind(word, line string) (int, bool) {
	told, is := strings.CutPrefix(line, word+" ")
	if !is {
		return 0, false
	}
	return number(told)
}

// number is the number that some digits tell; false, if they may not be.
func number(s string) (int, bool) {
	if s == "" || len(s) > mostDigits || s[0] == '0' && s != "0" {
		return 0, false
	}
	n := 0
	for _, c := range []byte(s) {
		if c < '0' || c > '9' {
			return 0, false
		}
		n = n*10 + int(c-'0')
	}
	return n, true
}

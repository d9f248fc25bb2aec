package code_test

import (
	"fmt"
	"reflect"
	"strconv"
	"strings"
	"testing"

	"heirloom/api"
	"heirloom/code"
	"heirloom/num"
)

// insName is how an instruction is called, and how many numbers it has.
type insName struct {
	name    string
	numbers int
}

// insNames are the chapter's names, by its numbers.
var insNames = map[int]insName{
	1: {"Nil", 1}, 2: {"Bool", 2}, 3: {"Const", 2}, 4: {"Move", 2}, 5: {"GetBox", 2}, 6: {"SetBox", 2}, 7: {"NewBox", 1}, 8: {"GetUp", 2}, 9: {"SetUp", 2}, 10: {"GetGlobal", 2}, 11: {"SetGlobal", 2}, 12: {"Closure", 2}, 13: {"Table", 1}, 14: {"Index", 3}, 15: {"SetIndex", 3},
	16: {"Add", 3}, 17: {"Sub", 3}, 18: {"Mul", 3}, 19: {"Div", 3}, 20: {"IDiv", 3}, 21: {"Mod", 3}, 22: {"Concat", 3}, 23: {"Eq", 3}, 24: {"Lt", 3}, 25: {"Le", 3}, 26: {"Neg", 2}, 27: {"Not", 2}, 28: {"Len", 2}, 29: {"Jump", 1}, 30: {"JumpIf", 2}, 31: {"JumpNot", 2}, 32: {"ForPrep", 2}, 33: {"ForLoop", 2},
	34: {"Call", 3}, 35: {"TailCall", 2}, 36: {"Return", 2},
}

// insText tells an instruction; numbers that it has no use for are told only where they are not 0, which they must be.
func insText(i api.Ins) string {
	is, there := insNames[i.Op]
	if !there {
		return fmt.Sprint(i)
	}
	out := is.name
	for k, n := range []int{i.A, i.B, i.C} {
		if k < is.numbers {
			out += " " + strconv.Itoa(n)
		} else if n != 0 {
			out += " unused:" + strconv.Itoa(n)
		}
	}
	return out
}

func constText(c api.Const) string {
	switch {
	case c.V == api.Value{T: api.TStr}:
		return strconv.Quote(c.S)
	case num.Is(c.V) && c.S == "":
		return num.Text(c.V)
	}
	return fmt.Sprint(c)
}

func upText(u api.Up) string {
	if u.Local {
		return "L" + strconv.Itoa(u.Index)
	}
	return "U" + strconv.Itoa(u.Index)
}

// listed is a part of a listing: nothing, if the list has no members.
func listed[T any](name string, l []T, text func(T) string) string {
	out := ""
	for _, x := range l {
		out += " " + text(x)
	}
	if out == "" {
		return ""
	}
	return "; " + name + out
}

// listing tells a function: its instructions but for the last Return 0 0, its registers, and the rest as far as there is some.
func listing(p api.Proto) string {
	var l []string
	for _, i := range p.Code {
		l = append(l, insText(i))
	}
	last := len(l) - 1
	if last < 0 || l[last] != "Return 0 0" {
		l = append(l, "and no Return 0 0")
	} else {
		l = l[:last]
	}
	out := strings.Join(l, ", ") + "; regs " + strconv.Itoa(p.Regs)
	if p.Params != 0 {
		out += "; params " + strconv.Itoa(p.Params)
	}
	return out + listed("consts", p.Consts, constText) + listed("ups", p.Ups, upText) + listed("kids", p.Kids, strconv.Itoa)
}

// listings are all functions' listings, a line each.
func listings(p api.Program) string {
	var l []string
	for _, f := range p.Protos {
		l = append(l, listing(f))
	}
	return strings.Join(l, "\n")
}

// row is a source, and the listings of its functions.
type row struct {
	src  string
	want []string
}

func checkRows(t *testing.T, rows ...row) {
	t.Helper()
	for _, r := range rows {
		p := compiled(t, r.src)
		if got, want := listings(p), strings.Join(r.want, "\n"); got != want {
			t.Errorf("Compile(%q):\n%s\nwant:\n%s", r.src, got, want)
		}
		checkFollows(t, r.src, p)
	}
}

// checkBodies: rows of a source and what its first function's listing is; what stands in functions within is left to other tests.
func checkBodies(t *testing.T, rows ...[2]string) {
	t.Helper()
	for _, r := range rows {
		p := compiled(t, r[0])
		if got := listing(p.Protos[0]); got != r[1] {
			t.Errorf("Compile(%q):\n%s\nwant:\n%s", r[0], got, r[1])
		}
		checkFollows(t, r[0], p)
	}
}

// compiled is the program of a source that is right: the place is 0, and it is the same each time.
func compiled(t *testing.T, src string) api.Program {
	t.Helper()
	p, at, err := code.Compile(src)
	if err != api.OK || at != 0 || len(p.Protos) == 0 {
		t.Fatalf("Compile(%q) = %v, %d, %v", src, p, at, err)
	}
	if again, _, _ := code.Compile(src); !reflect.DeepEqual(p, again) {
		t.Fatalf("Compile(%q) twice: %v, %v", src, p, again)
	}
	return p
}

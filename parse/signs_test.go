package parse_test

import (
	"fmt"
	"strings"
	"testing"
)

// signRanks are the signs of two, those that bind least first, as the chapter lists them.
func signRanks() [][]string {
	return [][]string{
		{"or"}, {"and"}, {"<", ">", "<=", ">=", "~=", "=="}, {".."}, {"+", "-"}, {"*", "/", "//", "%"},
	}
}

func signsOfTwo() []string {
	var l []string
	for _, rank := range signRanks() {
		l = append(l, rank...)
	}
	return l
}

func signsOfOne() []string { return []string{"not", "#", "-"} }

// rankOf is which of the ranks a sign of two stands in.
func rankOf(sign string) int {
	for i, rank := range signRanks() {
		for _, s := range rank {
			if s == sign {
				return i
			}
		}
	}
	panic(sign)
}

// leftFirst: of a SIGN b OTHER c, whether the left sign binds first.
func leftFirst(left, right string) bool {
	if rankOf(left) == rankOf(right) {
		return left != ".."
	}
	return rankOf(left) > rankOf(right)
}

func TestP8_1SignsAlone(t *testing.T) {
	if len(signsOfTwo()) != 15 {
		t.Fatal(signsOfTwo())
	}
	for _, s := range signsOfTwo() {
		checkTrees(t, []row{{"return a " + s + " b", fmt.Sprintf(`block@0(return@0(bin%q@7(name"a"@7 name"b"@%d)))`, s, 10+len(s))}})
	}
	for _, s := range signsOfOne() {
		checkTrees(t, []row{{"return " + s + " a", fmt.Sprintf(`block@0(return@0(un%q@7(name"a"@%d)))`, s, 8+len(s))}})
	}
}

// TestP8_1SignsBesideEachOther: each sign of two beside each other one, as they are and with parentheses for the other way.
func TestP8_1SignsBesideEachOther(t *testing.T) {
	for _, x := range signsOfTwo() {
		for _, y := range signsOfTwo() {
			left := fmt.Sprintf(`block(return(bin%q(bin%q(name"a" name"b") name"c")))`, y, x)
			right := fmt.Sprintf(`block(return(bin%q(name"a" bin%q(name"b" name"c"))))`, x, y)
			bare := right
			if leftFirst(x, y) {
				bare = left
			}
			checkShapes(t, []row{
				{fmt.Sprintf("return a %s b %s c", x, y), bare},
				{fmt.Sprintf("return (a %s b) %s c", x, y), left},
				{fmt.Sprintf("return a %s (b %s c)", x, y), right},
			})
		}
	}
}

// TestP8_1SignsByThree: what leftFirst says of two signs says how three, four and five of them bind.
func TestP8_1SignsByThree(t *testing.T) {
	signs := []string{"or", "and", "==", "<", "..", "+", "-", "*", "%"}
	var grow func(l []string)
	grow = func(l []string) {
		if len(l) > 2 {
			checkBound(t, l)
		}
		if len(l) == 4 {
			return
		}
		for _, s := range signs {
			grow(append(l[:len(l):len(l)], s))
		}
	}
	grow(nil)
	for _, s := range signsOfTwo() {
		checkBound(t, []string{s, s, s, s, s, s, s})
	}
}

func checkBound(t *testing.T, signs []string) {
	t.Helper()
	var b strings.Builder
	b.WriteString("return v0")
	for i, s := range signs {
		fmt.Fprintf(&b, " %s v%d", s, i+1)
	}
	checkShapes(t, []row{{b.String(), "block(return(" + bound(signs, 0) + "))"}})
}

// bound is the shape of v0 SIGN v1 SIGN v2 .., whose names begin with number first: parted at the sign that binds last.
func bound(signs []string, first int) string {
	if len(signs) == 0 {
		return fmt.Sprintf(`name"v%d"`, first)
	}
	at := lastBound(signs)
	return fmt.Sprintf("bin%q(%s %s)", signs[at], bound(signs[:at], first), bound(signs[at+1:], first+at+1))
}

// lastBound is the sign that binds after all others.
func lastBound(signs []string) int {
	at := 0
	for i := 1; i < len(signs); i++ {
		if leftFirst(signs[at], signs[i]) {
			at = i
		}
	}
	return at
}

func TestP8_1SignsOfOne(t *testing.T) {
	for _, u := range signsOfOne() {
		for _, s := range signsOfTwo() {
			checkShapes(t, []row{
				{fmt.Sprintf("return %s a %s b", u, s), fmt.Sprintf(`block(return(bin%q(un%q(name"a") name"b")))`, s, u)},
				{fmt.Sprintf("return a %s %s b", s, u), fmt.Sprintf(`block(return(bin%q(name"a" un%q(name"b"))))`, s, u)},
				{fmt.Sprintf("return %s (a %s b)", u, s), fmt.Sprintf(`block(return(un%q(bin%q(name"a" name"b"))))`, u, s)},
				{fmt.Sprintf("return %s a %s %s b %s c", u, s, u, s), fmt.Sprintf("block(return(%s))", map[bool]string{
					true:  fmt.Sprintf(`bin%q(un%q(name"a") bin%q(un%q(name"b") name"c"))`, s, u, s, u),
					false: fmt.Sprintf(`bin%q(bin%q(un%q(name"a") un%q(name"b")) name"c")`, s, s, u, u),
				}[s == ".."])},
			})
		}
		for _, v := range signsOfOne() {
			checkShapes(t, []row{{fmt.Sprintf("return %s %s a", u, v), fmt.Sprintf(`block(return(un%q(un%q(name"a"))))`, u, v)}})
		}
		checkShapes(t, []row{
			{"return " + u + " a.b[c](d)", fmt.Sprintf(`block(return(un%q(call(index(index(name"a" text"b") name"c") name"d"))))`, u)},
			{"return " + u + " {}", fmt.Sprintf("block(return(un%q(table)))", u)},
			{"return " + u + " function() end", fmt.Sprintf("block(return(un%q(func(block))))", u)},
			{"return (" + u + " a).b", fmt.Sprintf(`block(return(index(un%q(name"a") text"b")))`, u)},
		})
	}
	checkTrees(t, []row{
		{"return - - - 1", `block@0(return@0(un"-"@7(un"-"@9(un"-"@11(number=1@13)))))`},
		{"return not not nil", `block@0(return@0(un"not"@7(un"not"@11(nil@15))))`},
		{"return -1", `block@0(return@0(un"-"@7(number=1@8)))`},
		{"return not(a)==b", `block@0(return@0(bin"=="@7(un"not"@7(name"a"@11) name"b"@15)))`},
	})
}

// TestP8_1PlacesOfSigns: At of a NBin is that of its left part, also where that stands in parentheses.
func TestP8_1PlacesOfSigns(t *testing.T) {
	checkTrees(t, []row{
		{"return (a) + b", `block@0(return@0(bin"+"@8(name"a"@8 name"b"@13)))`},
		{"return ((a)) + (b)", `block@0(return@0(bin"+"@9(name"a"@9 name"b"@16)))`},
		{"return (a + b) * c", `block@0(return@0(bin"*"@8(bin"+"@8(name"a"@8 name"b"@12) name"c"@17)))`},
		{"return a - b - c", `block@0(return@0(bin"-"@7(bin"-"@7(name"a"@7 name"b"@11) name"c"@15)))`},
		{"return (a).b + c", `block@0(return@0(bin"+"@7(index@7(name"a"@8 text"b"@11) name"c"@15)))`},
		{"return - (a) + b", `block@0(return@0(bin"+"@7(un"-"@7(name"a"@10) name"b"@15)))`},
		{"return (- a) + b", `block@0(return@0(bin"+"@8(un"-"@8(name"a"@10) name"b"@15)))`},
		{"return (a .. (b) .. c)", `block@0(return@0(bin".."@8(name"a"@8 bin".."@14(name"b"@14 name"c"@20))))`},
		{"return f() and (g)()", `block@0(return@0(bin"and"@7(call@7(name"f"@7) call@15(name"g"@16))))`},
	})
}

// TestP8_1WhatIsNoSign: signs and words that stand elsewhere, and signs of one, bind no two.
func TestP8_1WhatIsNoSign(t *testing.T) {
	checkForm(t, "return a ^= b", "return a ^# b", "return a ^not b", "return a ~= ^= b", "return a + ^+ b", "return a .. ^. b", "return ^or b", "return ^+ b", "return a - ^* b", "return - ^")
}

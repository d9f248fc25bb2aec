package parse_test

import (
	"math/rand"
	"slices"
	"strings"
	"testing"

	"heirloom/api"
	"heirloom/lex"
	"heirloom/parse"
)

// The grammar is the chapter's table of forms, for a recogniser that knows of each token whether a block goes on with it. Small letters, signs and NAME, LIT, ONE, TWO are tokens, the rest are forms.
// Of an expression that ends with a suffixed one (O) a ( behind it is always part; so no statement that begins with ( (P) comes right behind one; it may behind all that ends otherwise (C).
const grammar = `
Block : Seq | Seq Return
Return : return | return ; | return List | return List ;
Seq : SeqC | SeqO
SeqC : | SeqC ; | SeqO ; | SeqC StC | SeqC PStC | SeqO StC
SeqO : SeqC StO | SeqC PStO | SeqO StO
StC : local function NAME Body | local Names | local Names = ListC | function NAME Body | if Expr then Block Elseifs end | if Expr then Block Elseifs else Block end
StC : while Expr do Block end | for NAME = Expr , Expr do Block end | for NAME = Expr , Expr , Expr do Block end | do Block end | break | TargetsN = ListC
StO : local Names = ListO | TargetsN = ListO | CallN
PStC : TargetsP = ListC
PStO : TargetsP = ListO | CallP
Elseifs : | Elseifs elseif Expr then Block
Body : ( ) Block end | ( Names ) Block end
Names : NAME | Names , NAME
List : ListC | ListO
ListC : ExprC | List , ExprC
ListO : ExprO | List , ExprO
TargetsN : TargetN | TargetsN , TargetN | TargetsN , TargetP
TargetsP : TargetP | TargetsP , TargetN | TargetsP , TargetP
TargetN : NAME | SufN . NAME | SufN [ Expr ]
TargetP : SufP . NAME | SufP [ Expr ]
CallN : SufN Args
CallP : SufP Args
Args : ( ) | ( List )
SufN : NAME | SufN . NAME | SufN [ Expr ] | CallN
SufP : ( Expr ) | SufP . NAME | SufP [ Expr ] | CallP
Expr : ExprC | ExprO
ExprC : OperC | Expr TWO OperC | Expr - OperC
ExprO : OperO | Expr TWO OperO | Expr - OperO
OperC : LIT | function Body | Table | ONE OperC | - OperC
OperO : SufN | SufP | ONE OperO | - OperO
Table : { } | { Items } | { Items , }
Items : Item | Items , Item
Item : [ Expr ] = Expr | NAME = Expr | Expr
`

// rule is one way to make a form.
type rule struct {
	form  string
	parts []string
}

// state is a rule of which dot parts stood from set from on.
type state struct{ rule, dot, from int }

// recogniser is Earley's: of each token, counted from 0 on, a set of the states ahead of it.
type recogniser struct {
	rules  []rule
	byForm map[string][]int
	empty  map[string]bool
	sets   [][]state
}

func newRecogniser() *recogniser {
	r := &recogniser{byForm: map[string][]int{}, empty: map[string]bool{}}
	for _, line := range strings.Split(strings.TrimSpace(grammar), "\n") {
		form, rest, _ := strings.Cut(line, " : ")
		for _, alternative := range strings.Split(" "+rest+" ", " | ") {
			r.byForm[form] = append(r.byForm[form], len(r.rules))
			r.rules = append(r.rules, rule{form, strings.Fields(alternative)})
		}
	}
	for range r.rules {
		for _, x := range r.rules {
			if !slices.ContainsFunc(x.parts, func(s string) bool { return !r.empty[s] }) {
				r.empty[x.form] = true
			}
		}
	}
	var first []state
	for _, i := range r.byForm["Block"] {
		first = append(first, state{i, 0, 0})
	}
	r.sets = [][]state{r.close(first, 0)}
	return r
}

// close adds to a set all that follows from what is in it; at is its number.
func (r *recogniser) close(set []state, at int) []state {
	seen := map[state]bool{}
	var out []state
	add := func(s state) {
		if !seen[s] {
			seen[s] = true
			out = append(out, s)
		}
	}
	for _, s := range set {
		add(s)
	}
	for i := 0; i < len(out); i++ {
		s := out[i]
		x := r.rules[s.rule]
		if s.dot == len(x.parts) {
			waits := out
			if s.from < at {
				waits = r.sets[s.from]
			}
			for _, w := range slices.Clone(waits) {
				if y := r.rules[w.rule]; w.dot < len(y.parts) && y.parts[w.dot] == x.form {
					add(state{w.rule, w.dot + 1, w.from})
				}
			}
			continue
		}
		next := x.parts[s.dot]
		for _, j := range r.byForm[next] {
			add(state{j, 0, at})
		}
		if r.empty[next] {
			add(state{s.rule, s.dot + 1, s.from})
		}
	}
	return out
}

// take goes on by a token; false, if no block does.
func (r *recogniser) take(class string) bool {
	var next []state
	for _, s := range r.sets[len(r.sets)-1] {
		if x := r.rules[s.rule]; s.dot < len(x.parts) && x.parts[s.dot] == class {
			next = append(next, state{s.rule, s.dot + 1, s.from})
		}
	}
	if len(next) == 0 {
		return false
	}
	r.sets = append(r.sets, r.close(next, len(r.sets)))
	return true
}

func (r *recogniser) untake() { r.sets = r.sets[:len(r.sets)-1] }

// whole tells whether what was taken is a block.
func (r *recogniser) whole() bool {
	return slices.ContainsFunc(r.sets[len(r.sets)-1], func(s state) bool {
		x := r.rules[s.rule]
		return x.form == "Block" && s.from == 0 && s.dot == len(x.parts)
	})
}

// class is what the grammar calls a token.
func class(tok api.Token) string {
	switch {
	case tok.Kind == api.TokName:
		return "NAME"
	case tok.Kind == api.TokNumber, tok.Kind == api.TokText, slices.Contains([]string{"nil", "true", "false"}, tok.Text):
		return "LIT"
	case tok.Text != "-" && slices.Contains(signsOfOne(), tok.Text):
		return "ONE"
	case tok.Text != "-" && slices.Contains(signsOfTwo(), tok.Text):
		return "TWO"
	}
	return tok.Text
}

// firstWrong is the place of the first token with which no block goes on, or -1.
func firstWrong(src string) int {
	l, _, err := lex.Lex(src)
	if err != api.OK {
		panic(src)
	}
	r := newRecogniser()
	for _, tok := range l {
		if !r.take(class(tok)) {
			return tok.At
		}
	}
	if !r.whole() {
		return len(src)
	}
	return -1
}

// checkPlace holds Parse against the place of a first wrong token, -1 being none.
func checkPlace(t *testing.T, src string, want int) {
	t.Helper()
	n, at, err := parse.Parse(src)
	switch {
	case want < 0 && (err != api.OK || at != 0 || n.Kind != api.NBlock):
		t.Fatalf("Parse(%q) = %d, %v; the grammar has it", src, at, err)
	case want >= 0 && (err != api.ErrForm || at != want || told(n) != "kind0@0"):
		t.Fatalf("Parse(%q) = %s, %d, %v; want ErrForm at %d", src, told(n), at, err, want)
	case want < 0:
		checkAgain(t, n)
	}
}

// TestP8_1AllShortSources: with each token behind each short beginning of a block it goes on, or that token is the first wrong one.
func TestP8_1AllShortSources(t *testing.T) {
	tokens := strings.Fields("a 1 local function if then elseif else end while do for break return not + - ; , = ( ) [ ] { } .")
	count := 0
	r := newRecogniser()
	var grow func(src string, left int)
	grow = func(src string, left int) {
		for _, s := range tokens {
			count++
			l, _, _ := lex.Lex(s)
			if !r.take(class(l[0])) {
				checkPlace(t, src+s, len(src))
				checkPlace(t, src+s+" ; end", len(src))
				continue
			}
			if r.whole() {
				checkPlace(t, src+s, -1)
			} else {
				checkPlace(t, src+s, len(src+s))
			}
			if left > 1 {
				grow(src+s+" ", left-1)
			}
			r.untake()
		}
	}
	grow("", 5)
	if count < 50000 {
		t.Error(count)
	}
}

// TestP8_1GrammarIsAsWritten: sources by which the recogniser itself is held.
func TestP8_1GrammarIsAsWritten(t *testing.T) {
	for _, s := range []string{
		"", ";", "x^", "f() ^= 1", "return 1 ^x", "a = b(c).d ^= 1", "(a) ^= 1", "f() (g)()", "a = 1 (f)()", "a, f() ^= 1", "if a then else ^elseif", "for i = 1 ^do", "return ; ^;", "x = {a, b = 1, [c] = d,}", "local function f() (g)() end", "do^", "a = - not #b .. 1 < 2",
	} {
		ahead, behind, is := strings.Cut(s, "^")
		want := -1
		if is {
			want = len(ahead)
		}
		if got := firstWrong(ahead + behind); got != want {
			t.Errorf("the grammar's first wrong token of %q: %d", s, got)
		}
		checkPlace(t, ahead+behind, want)
	}
}

// TestP8_1ManyWrongSources: right sources, made with a fixed seed, with a few tokens taken out, put in, changed or cut off.
func TestP8_1ManyWrongSources(t *testing.T) {
	r := rand.New(rand.NewSource(81))
	some := strings.Fields(`a b 1 "x" nil local function if then elseif else end while do for break return not # or and == .. + - * ; , = ( ) [ ] { } .`)
	for range 3000 {
		m := newMaker(r, 2+r.Intn(5))
		src, _ := m.source()
		l, _, _ := lex.Lex(src)
		if len(l) > 200 {
			l = l[:200]
		}
		var texts []string
		for _, tok := range l {
			texts = append(texts, tok.Text)
		}
		for range 1 + r.Intn(2) {
			texts = spoilt(r, texts, some[r.Intn(len(some))])
		}
		bad := strings.Join(texts, " ")
		checkPlace(t, bad, firstWrong(bad))
	}
}

func spoilt(r *rand.Rand, texts []string, token string) []string {
	if len(texts) == 0 {
		return []string{token}
	}
	i := r.Intn(len(texts))
	switch r.Intn(4) {
	case 0:
		return slices.Insert(texts, i, token)
	case 1:
		return slices.Delete(texts, i, i+1)
	case 2:
		texts[i] = token
		return texts
	}
	return texts[:i]
}

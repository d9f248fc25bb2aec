package scope_test

import (
	"math/rand"
	"slices"
	"testing"

	"heirloom/api"
	"heirloom/parse"
	"heirloom/scope"
)

// later tells whether a variable became known behind another one.
func (v *madeVar) later(w *madeVar) bool { return v.from > w.from || v.from == w.from && v.at > w.at }

// oneTooMany is the place of the first name with which a function has more than MaxLocals variables, or -1.
func (m *maker) oneTooMany() int {
	var first *madeVar
	for _, v := range m.vars {
		count := 1
		for _, w := range m.vars {
			if w.fun == v.fun && v.later(w) && w.to >= v.from {
				count++
			}
		}
		if count > 60 && (first == nil || first.later(v)) {
			first = v
		}
	}
	if first == nil {
		return -1
	}
	return first.at
}

// uses looks each name up among all variables there are.
func (m *maker) uses() []api.Use {
	for _, v := range m.vars {
		for _, w := range m.vars {
			if w.fun == v.fun && v.later(w) {
				v.number++
			}
		}
	}
	found := make([]*madeVar, len(m.names))
	for i, n := range m.names {
		if found[i] = m.lookUp(n); found[i] != nil && found[i].fun != n.fun {
			found[i].held++
		}
	}
	var l []api.Use
	for i, n := range m.names {
		u := api.Use{At: n.at, Text: n.text, Fun: n.fun, Of: -1, Var: -1}
		if v := found[i]; v != nil {
			u.Of, u.Var, u.Held = v.fun, v.number, v.held > 0
		}
		l = append(l, u)
	}
	slices.SortFunc(l, func(a, b api.Use) int { return a.At - b.At })
	return l
}

func (m *maker) lookUp(n *madeName) *madeVar {
	if n.first != nil {
		return n.first
	}
	var last *madeVar
	for _, v := range m.vars {
		if v.text == n.text && v.from <= n.at && n.at < v.to && (last == nil || v.later(last)) {
			last = v
		}
	}
	return last
}

// checkMade holds Resolve of a made source against the model, and tells its uses, or which error there is.
func checkMade(t *testing.T, m *maker) ([]api.Use, api.Errno) {
	t.Helper()
	src := m.source()
	_, at, err := parse.Parse(src)
	if err == api.ErrLong || err == api.ErrDeep {
		checkRefused(t, src, at, err)
		return nil, err
	}
	if err != api.OK {
		t.Fatalf("Parse(%q) = %d, %v", src, at, err)
	}
	if at := m.oneTooMany(); at >= 0 {
		checkRefused(t, src, at, api.ErrMany)
		return nil, api.ErrMany
	}
	got, at, err := scope.Resolve(src)
	want := m.uses()
	if err != api.OK || at != 0 || !slices.Equal(got, want) {
		t.Fatalf("Resolve(%q) = %v, %d, %v; want %v", src, got, at, err, want)
	}
	checkFollows(t, src)
	return want, api.OK
}

// TestP9_1ManySources: made sources, some short, some long, some with long lists of names.
func TestP9_1ManySources(t *testing.T) {
	r := rand.New(rand.NewSource(9))
	told := map[api.Errno]int{}
	held, globals, far := 0, 0, 0
	for i := range 6000 {
		m := newMaker(r, 10+r.Intn(150), 1+r.Intn(4))
		if i%4 == 0 {
			m = newMaker(r, 500+r.Intn(500), 30)
		}
		uses, err := checkMade(t, m)
		told[err]++
		if t.Failed() {
			return
		}
		for _, u := range uses {
			switch {
			case u.Of < 0:
				globals++
			case u.Held && u.Fun-u.Of > 1:
				far++
			case u.Held:
				held++
			}
		}
	}
	if told[api.OK] < 4000 || told[api.ErrMany] < 100 || held < 1000 || globals < 1000 || far < 300 {
		t.Errorf("%v; %d held, %d held from further in, %d globals", told, held, far, globals)
	}
}

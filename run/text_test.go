package run_test

import (
	"fmt"
	"slices"
	"strings"
	"testing"

	"heirloom/api"
	"heirloom/run"
)

// P17.2: traces of all kinds, word by word.
func TestP17_2Text(t *testing.T) {
	for _, r := range []struct {
		x    api.Trace
		want string
	}{
		{api.Trace{}, "runs steps 0 made 0 urgent 0\n"},
		{api.Trace{Verdict: api.Runs, Steps: 5}, "runs steps 5 made 0 urgent 0\n"},
		{api.Trace{Verdict: api.Done, Made: 4}, "done steps 0 made 4 urgent 0\n"},
		{api.Trace{Verdict: api.Spent, Urgent: 7}, "spent steps 0 made 0 urgent 7\n"},
		{api.Trace{Verdict: api.Failed, Error: "a", Steps: 1, Made: 2, Urgent: 3}, "error \"a\"\nfailed steps 1 made 2 urgent 3\n"},
		{api.Trace{Verdict: api.Failed}, "error \"\"\nfailed steps 0 made 0 urgent 0\n"},
		{api.Trace{Verdict: api.Failed, Lines: []string{"b"}, Error: "\n\""}, "put \"b\"\nerror \"\\x0a\\x22\"\nfailed steps 0 made 0 urgent 0\n"},
		{api.Trace{Verdict: api.Done, Lines: []string{"", "a b", "\"", "\\x", "\n\xff"}}, "put \"\"\nput \"a b\"\nput \"\\x22\"\nput \"\\x5cx\"\nput \"\\x0a\\xff\"\ndone steps 0 made 0 urgent 0\n"},
		{api.Trace{E: api.ErrFull}, "refused 8 at 0\n"},
		{api.Trace{E: api.ErrState, At: 4}, "refused 9 at 4\n"},
	} {
		check(t, shown(r.x), run.Text(r.x), r.want)
	}
}

// P17.2: an error is told of a trace that failed alone; beside an E nothing is told but its place; traces that no scene has.
func TestP17_2NoScene(t *testing.T) {
	full := api.Trace{Lines: []string{"a"}, Error: "b", At: 9, Steps: -1, Made: -2, Urgent: -3}
	for verdict, word := range map[int]string{api.Runs: "runs", api.Done: "done", api.Spent: "spent", -1: "", 4: "", maxInt: "", minInt: "", 1 << 40: "", 256: "", -4: ""} {
		full.Verdict = verdict
		check(t, shown(full), run.Text(full), "put \"a\"\n"+word+" steps -1 made -2 urgent -3\n")
	}
	full.Verdict = api.Failed
	for _, n := range []int{0, 1, -1, 10, maxInt, minInt, 1 << 31, -1 << 31, 1 << 53, 9007199254740993} {
		full.Steps, full.Made, full.Urgent, full.At = n, n, n, n
		check(t, shown(full), run.Text(full), fmt.Sprintf("put \"a\"\nerror \"b\"\nfailed steps %d made %d urgent %d\n", n, n, n))
		for _, e := range []api.Errno{1, 17, 18, -1, api.Errno(maxInt), api.Errno(minInt)} {
			refused := full
			refused.E = e
			check(t, shown(refused), run.Text(refused), fmt.Sprintf("refused %d at %d\n", int(e), n))
		}
	}
}

// P17.2: lines and errors of any bytes, however many; what is handed in stays as it is.
func TestP17_2AnyBytes(t *testing.T) {
	var lines, want []string
	for c := range 256 {
		b := string([]byte{byte(c)})
		q := b
		if c < 0x20 || c > 0x7e || b == `"` || b == `\` {
			q = fmt.Sprintf(`\x%02x`, c)
		}
		lines = append(lines, b, "a"+b+b)
		want = append(want, `put "`+q+`"`, `put "a`+q+q+`"`)
	}
	lines, want = append(lines, "§€", strings.Repeat("a", 100000)), append(want, `put "\xc2\xa7\xe2\x82\xac"`, `put "`+strings.Repeat("a", 100000)+`"`)
	x := api.Trace{Verdict: api.Failed, Lines: slices.Clone(lines), Error: strings.Join(lines[:256], "")}
	told := run.Text(x)
	check(t, "the lines are as they were", slices.Equal(x.Lines, lines), true)
	got := strings.SplitAfter(told, "\n")
	if len(got) != len(want)+3 || got[len(got)-1] != "" {
		t.Fatalf("%d lines", len(got))
	}
	for i, s := range want {
		check(t, fmt.Sprintf("line %d", i), got[i], s+"\n")
	}
	check(t, "the error's line", strings.HasPrefix(got[len(want)], `error "\x00a\x00\x00\x01a`), true)
}

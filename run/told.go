package run

import (
	"strconv"
	"strings"

	"heirloom/api"
	"heirloom/text"
)

// verdictWords are verdicts' words, by number.
var verdictWords = [...]string{api.Runs: "runs", api.Done: "done", api.Failed: "failed", api.Spent: "spent"}

// Text tells a trace.
func Text(t api.Trace) string {
	var b strings.Builder
	line := func(parts ...string) {
		b.WriteString(strings.Join(parts, " ") + "\n")
	}
	if t.E != api.OK {
		line("refused", strconv.Itoa(int(t.E)), "at", strconv.Itoa(t.At))
		return b.String()
	}
	for _, s := range t.Lines {
		line("put", text.Quote(s))
	}
	if t.Verdict == api.Failed {
		line("error", text.Quote(t.Error))
	}
	line(verdictWord(t.Verdict), "steps", strconv.Itoa(t.Steps), "made", strconv.Itoa(t.Made), "urgent", strconv.Itoa(t.Urgent))
	return b.String()
}

// verdictWord is a verdict's word; of a number that is none there is no word.
func verdictWord(n int) string {
	if n < 0 || n >= len(verdictWords) {
		return ""
	}
	return verdictWords[n]
}

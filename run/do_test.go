package run_test

import (
	"fmt"
	"math/rand"
	"strings"
	"testing"

	"heirloom/api"
	"heirloom/run"
	"heirloom/script"
)

// P17.3: the chapter's examples, and texts at fault in each of their lines.
func TestP17_3Do(t *testing.T) {
	for s, want := range map[string]string{
		"size 2000\nsteps 100\nsource\nemit(1)":           "put \"1\"\ndone steps 4 made 4 urgent 0\n",
		"":                                                "scene 6 line 0\n",
		"\n":                                              "scene 6 line 0\n",
		"size 2000":                                       "scene 6 line 0\n",
		"size 02000\nsteps 100\nsource\n":                 "scene 6 line 0\n",
		"size 0\nsteps 100\nsource\n":                     "scene 7 line 0\n",
		"size 65537\nsteps 100\nsource\n":                 "scene 7 line 0\n",
		"steps 100\n":                                     "scene 6 line 0\n",
		"size 2000\n":                                     "scene 6 line 1\n",
		"size 2000\nsize 2000\n":                          "scene 6 line 1\n",
		"size 2000\nsteps 20001\nsource\n":                "scene 7 line 1\n",
		"size 2000\nsteps 1\n":                            "scene 6 line 2\n",
		"size 2000\nsteps 1\nsource":                      "scene 6 line 2\n",
		"size 2000\nsteps 1\nstep\nsource\n":              "scene 6 line 2\n",
		"size 2000\nsteps 1\nmode 2\nsource\n":            "scene 6 line 2\n",
		"size 2000\nsteps 1\nyoung x1\nsource\n":          "scene 6 line 2\n",
		"size 2000\nsteps 1\nnone x4001\nsource\n":        "scene 4 line 2\n",
		"size 2000\nsteps 1\nnone x4000\nmajor\nsource\n": "scene 4 line 3\n",
		"size 2000\nsteps 1\nnone x3999\nmajor\nmajor\nmajor x\n":                     "scene 4 line 4\n",
		"size 2000\nsteps 1\nnone\nmajor\nsteps 2\n":                                  "scene 6 line 4\n",
		"size 2000\nsteps 1\nsource\n" + strings.Repeat(" ", api.MaxSource+1):         "scene 3 line 2\n",
		"size 2000\nsteps 1\nnone\nsource\n" + strings.Repeat(" ", api.MaxSource+1):   "scene 3 line 3\n",
		strings.Repeat("a", api.MaxSource+65536+1):                                    "scene 3 line 0\n",
		"size 2000\nsteps 1\nsource\n" + strings.Repeat(" ", api.MaxSource):           "done steps 1 made 4 urgent 0\n",
		"size 2000\nsteps 9\nsource\nemit(1)\n\n-- end":                               "put \"1\"\ndone steps 4 made 4 urgent 0\n",
		"size 2000\nsteps 3\nmajor\nsource\nemit(1)":                                  "put \"1\"\nruns steps 3 made 4 urgent 0\n",
		"size 2000\nsteps 9\nsource\nerror(\"\\x0a\")":                                "error \"\\x0a\"\nfailed steps 3 made 4 urgent 0\n",
		"size 2000\nsteps 9\nsource\nbreak":                                           "refused 9 at 0\n",
		"size 2000\nsteps 9\nsource\n\n\"":                                            "refused 16 at 1\n",
		"size 200\nsteps 9\nsource\n":                                                 "refused 8 at 0\n",
		"size 1\nsteps 0\nsource\n x":                                                 "refused 6 at 2\n",
		"size 2000\nsteps 0\nstep 3 x2\nyoung\nmode 1\ncompact x9\nmajor\nsource\n":   "runs steps 0 made 4 urgent 0\n",
		"size 2000\nsteps 99\nmode 1\nyoung x4\nsource\nlocal t = {} t = {} return 1": "done steps 5 made 6 urgent 0\n",
	} {
		check(t, fmt.Sprintf("%.80q", s), run.Do(s), want)
	}
}

// P17.3: of a scene's text it is Text of Play of the scene; of others Parse's error and line.
func TestP17_3Play(t *testing.T) {
	t.Parallel()
	for seed := range 200 {
		x := anyScene(int64(seed))
		s, e := script.Print(x)
		if e != api.OK {
			t.Fatal(e)
		}
		check(t, s, run.Do(s), run.Text(run.Play(x)))
		r := rand.New(rand.NewSource(int64(seed)))
		head := strings.Index(s, "source\n") + len("source\n")
		for range 8 {
			b := []byte(s)
			b[r.Intn(head)] = "0x \n-19as"[r.Intn(9)]
			x, line, e := script.Parse(string(b))
			want := fmt.Sprintf("scene %d line %d\n", int(e), line)
			if e == api.OK {
				want = run.Text(run.Play(x))
			}
			check(t, string(b), run.Do(string(b)), want)
		}
	}
}

package script_test

import (
	"regexp"
	"strconv"
	"strings"

	"heirloom/api"
)

// The lines, as the chapter says them.
var (
	sizeLine   = regexp.MustCompile(`\Asize (0|[1-9][0-9]{0,8})\z`)
	stepsLine  = regexp.MustCompile(`\Asteps (0|[1-9][0-9]{0,8})\z`)
	pointLine  = regexp.MustCompile(`\A(none|step (0|[1-9][0-9]{0,8})|young|major|mode ([01])|compact)( x([2-9]|[1-9][0-9]{1,8}))?\z`)
	modelKinds = map[string]int{"none": 0, "step": 1, "young": 2, "major": 3, "mode": 4, "compact": 5}
)

// modelParse says P16.1 word by word. It takes the source off ahead, and looks at the lines from behind: the fault that it finds last is the first one.
func modelParse(s string) (api.Scene, int, api.Errno) {
	if len(s) > 8192+65536 {
		return api.Scene{}, 0, api.ErrLong
	}
	lines := strings.SplitAfter(s, "\n")
	faults := make([]api.Errno, len(lines))
	var x api.Scene
	points, source := 0, -1
	for i, l := range lines {
		e := api.OK
		body, ends := strings.CutSuffix(l, "\n")
		switch {
		case !ends:
			e = api.ErrForm
		case i == 0:
			x.Size, e = modelNumber(sizeLine.FindStringSubmatch(body), 1, 65536)
		case i == 1:
			x.Steps, e = modelNumber(stepsLine.FindStringSubmatch(body), 0, 20000)
		case body == "source":
			source = i
		default:
			m := pointLine.FindStringSubmatch(body)
			if m == nil {
				e = api.ErrForm
				break
			}
			n := 1
			if m[4] != "" {
				n, _ = strconv.Atoi(m[5])
			}
			if points += n; points > 4000 {
				e = api.ErrMany
				break
			}
			p := api.Point{Kind: modelKinds[strings.Fields(m[1])[0]]}
			p.N, _ = strconv.Atoi(m[2] + m[3])
			for range n {
				x.Points = append(x.Points, p)
			}
		}
		faults[i] = e
		if source >= 0 {
			x.Source = strings.Join(lines[i+1:], "")
			if len(x.Source) > 8192 {
				faults[i] = api.ErrLong
			}
			faults = faults[:i+1]
			break
		}
	}
	for i, e := range faults {
		if e != api.OK {
			return api.Scene{}, i, e
		}
	}
	return x, 0, api.OK
}

func modelNumber(m []string, least, most int) (int, api.Errno) {
	if m == nil {
		return 0, api.ErrForm
	}
	n, err := strconv.Atoi(m[1])
	if err != nil || n < least || n > most {
		return 0, api.ErrRange
	}
	return n, api.OK
}

// modelPrint says P16.2 word by word: a line for each point, of which those alike are told together afterwards.
func modelPrint(x api.Scene) (string, api.Errno) {
	if x.Size < 1 || x.Size > 65536 || x.Steps < 0 || x.Steps > 20000 {
		return "", api.ErrRange
	}
	if len(x.Points) > 4000 {
		return "", api.ErrMany
	}
	var told []string
	for _, p := range x.Points {
		s, is := modelPoint(p)
		if !is {
			return "", api.ErrForm
		}
		told = append(told, s)
	}
	if len(x.Source) > 8192 {
		return "", api.ErrLong
	}
	lines := []string{"size " + strconv.Itoa(x.Size), "steps " + strconv.Itoa(x.Steps)}
	times := 0
	for i, s := range told {
		times++
		if i+1 < len(told) && told[i+1] == s {
			continue
		}
		if times >= 2 {
			s += " x" + strconv.Itoa(times)
		}
		lines, times = append(lines, s), 0
	}
	return strings.Join(append(lines, "source", x.Source), "\n"), api.OK
}

func modelPoint(p api.Point) (string, bool) {
	switch {
	case p.Kind == 1 && p.N >= 0 && p.N <= 999999999:
		return "step " + strconv.Itoa(p.N), true
	case p.Kind == 4 && (p.N == 0 || p.N == 1):
		return "mode " + strconv.Itoa(p.N), true
	case p.N != 0:
		return "", false
	}
	words := map[int]string{0: "none", 2: "young", 3: "major", 5: "compact"}
	s, is := words[p.Kind]
	return s, is
}

// modelShrink says P16.3 word by word, of each point by itself.
func modelShrink(l []api.Point) []api.Point {
	last := -1 // of those that are not of the kind PointNone
	for i, p := range l {
		if p.Kind != 0 {
			last = i
		}
	}
	var kept []api.Point
	for i, p := range l {
		same := i > 0 && l[i-1].Kind == p.Kind && (p.Kind == 2 || p.Kind == 3 || p.Kind == 5)
		if i <= last && !same {
			kept = append(kept, p)
		}
	}
	return kept
}

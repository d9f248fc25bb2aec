package script_test

import (
	"math/rand"
	"slices"
	"strconv"
	"strings"
	"testing"

	"heirloom/api"
	"heirloom/script"
)

// behindSteps is a text of which these are the lines behind the first two, each with its end.
func behindSteps(lines ...string) string {
	return "size 900\nsteps 50\n" + strings.Join(lines, "\n") + "\n"
}

func TestP16_1Example(t *testing.T) {
	checkScene(t, "size 900\nsteps 50\nyoung x3\nmode 1\nsource\nemit(1)", api.Scene{Size: 900, Steps: 50,
		Points: []api.Point{young, young, young, mode(1)}, Source: "emit(1)"})
	checkFault(t, "size 0\n", 0, api.ErrRange)
	checkFault(t, "steps 5\n", 0, api.ErrForm)
}

func TestP16_1Points(t *testing.T) {
	for _, c := range []struct {
		lines string
		want  []api.Point
	}{
		{"", nil},
		{"none\n", []api.Point{none}},
		{"step 0\n", []api.Point{step(0)}},
		{"step 7\n", []api.Point{step(7)}},
		{"step 100\n", []api.Point{step(100)}},
		{"step 999999999\n", []api.Point{step(999999999)}},
		{"young\n", []api.Point{young}},
		{"major\n", []api.Point{major}},
		{"mode 0\n", []api.Point{mode(0)}},
		{"mode 1\n", []api.Point{mode(1)}},
		{"compact\n", []api.Point{compact}},
		{"none x2\n", []api.Point{none, none}},
		{"step 0 x2\n", []api.Point{step(0), step(0)}},
		{"step 30 x10\n", repeat(step(30), 10)},
		{"step 999999999 x3\n", repeat(step(999999999), 3)},
		{"young x9\n", repeat(young, 9)},
		{"major x100\n", repeat(major, 100)},
		{"mode 0 x2\n", []api.Point{mode(0), mode(0)}},
		{"mode 1 x3\n", []api.Point{mode(1), mode(1), mode(1)}},
		{"compact x4000\n", repeat(compact, 4000)},
		{"young\nyoung\nyoung x2\nyoung\n", repeat(young, 5)},
		{"none\nstep 3\nyoung\nmajor\nmode 1\ncompact\n", []api.Point{none, step(3), young, major, mode(1), compact}},
		{"compact\nmode 0 x2\nmajor\nmajor\nyoung\nstep 5 x2\nstep 6\nnone x2\nmode 1\n", []api.Point{
			compact, mode(0), mode(0), major, major, young, step(5), step(5), step(6), none, none, mode(1)}},
	} {
		checkScene(t, "size 1\nsteps 0\n"+c.lines+"source\nx", api.Scene{Size: 1, Points: c.want, Source: "x"})
	}
}

func TestP16_1Sources(t *testing.T) {
	for _, src := range sources {
		checkScene(t, "size 65536\nsteps 20000\nsource\n"+src, api.Scene{Size: 65536, Steps: 20000, Source: src})
		checkScene(t, "size 12\nsteps 3\nnone\nsource\n"+src, api.Scene{Size: 12, Steps: 3, Points: []api.Point{none}, Source: src})
	}
	most := strings.Repeat("s\n", api.MaxSource/2)
	checkScene(t, behindSteps("source")+most, api.Scene{Size: 900, Steps: 50, Source: most})
	checkFault(t, behindSteps("source")+most+"x", 2, api.ErrLong)
	checkFault(t, behindSteps("source")+most+"\n", 2, api.ErrLong)
	checkFault(t, behindSteps("young", "step 5 x2", "source")+most+"x", 4, api.ErrLong)
	checkFault(t, behindSteps("source")+strings.Repeat("source\n", 2000), 2, api.ErrLong)
}

// Of a text of numbers: what Parse answers to size, to steps, to step, to mode, and to x behind a point.
func TestP16_1Numbers(t *testing.T) {
	for _, c := range []struct {
		told                          string
		size, steps, step, mode, many api.Errno
	}{
		{"0", api.ErrRange, api.OK, api.OK, api.OK, api.ErrForm},
		{"1", api.OK, api.OK, api.OK, api.OK, api.ErrForm},
		{"2", api.OK, api.OK, api.OK, api.ErrForm, api.OK},
		{"9", api.OK, api.OK, api.OK, api.ErrForm, api.OK},
		{"10", api.OK, api.OK, api.OK, api.ErrForm, api.OK},
		{"4000", api.OK, api.OK, api.OK, api.ErrForm, api.OK},
		{"4001", api.OK, api.OK, api.OK, api.ErrForm, api.ErrMany},
		{"20000", api.OK, api.OK, api.OK, api.ErrForm, api.ErrMany},
		{"20001", api.OK, api.ErrRange, api.OK, api.ErrForm, api.ErrMany},
		{"65536", api.OK, api.ErrRange, api.OK, api.ErrForm, api.ErrMany},
		{"65537", api.ErrRange, api.ErrRange, api.OK, api.ErrForm, api.ErrMany},
		{"100000000", api.ErrRange, api.ErrRange, api.OK, api.ErrForm, api.ErrMany},
		{"999999999", api.ErrRange, api.ErrRange, api.OK, api.ErrForm, api.ErrMany},
	} {
		checkFault(t, "size "+c.told+"\nsteps 1\nsource\n", 0, c.size)
		at := 1
		if c.steps == api.OK {
			at = 0
		}
		checkFault(t, "size 1\nsteps "+c.told+"\nsource\n", at, c.steps)
		for line, e := range map[string]api.Errno{"step " + c.told: c.step, "mode " + c.told: c.mode, "none x" + c.told: c.many, "step 3 x" + c.told: c.many} {
			at := 2
			if e == api.OK {
				at = 0
			}
			checkFault(t, behindSteps(line, "source"), at, e)
		}
	}
}

// Texts that are no N.
var noNumbers = []string{
	"", "00", "01", "007", "0000000000", "0000000001", "1000000000", "9999999999", "4294967297", "18446744073709551617", strings.Repeat("9", 400),
	"+1", "-1", "-0", "+0", "--1", "1.0", "1e1", "0x1", "0b1", "1_0", "1,0", "a", "x", "1a", "a1", "１", "1\x00", "\x001", "1\t", "\t1", "1\r", " 1", "1 ", "1 2", "/", ":", "1:", "1/",
}

func TestP16_1NoNumbers(t *testing.T) {
	for _, told := range noNumbers {
		checkFault(t, "size "+told+"\nsteps 1\nsource\n", 0, api.ErrForm)
		checkFault(t, "size 1\nsteps "+told+"\nsource\n", 1, api.ErrForm)
		for _, line := range []string{"step " + told, "mode " + told, "step " + told + " x2", "mode " + told + " x2", "none x" + told, "step 1 x" + told, "mode 1 x" + told, "young x" + told} {
			checkFault(t, behindSteps(line, "source"), 2, api.ErrForm)
			checkFault(t, behindSteps("major", line, "source"), 3, api.ErrForm)
		}
	}
}

func TestP16_1Many(t *testing.T) {
	single := func(n int) string { return "size 5\nsteps 5\n" + strings.Repeat("young\n", n) }
	checkScene(t, single(4000)+"source\n", api.Scene{Size: 5, Steps: 5, Points: repeat(young, 4000)})
	checkFault(t, single(4001)+"source\n", 4002, api.ErrMany)
	checkFault(t, single(5000)+"source\n", 4002, api.ErrMany)
	checkFault(t, single(4001), 4002, api.ErrMany)
	checkFault(t, single(4000)+"young", 4002, api.ErrForm)
	checkFault(t, single(4000)+"nonsense\n", 4002, api.ErrForm)
	checkFault(t, single(4000)+"step 1 x1\n", 4002, api.ErrForm)
	for _, c := range []struct {
		lines []string
		at    int
		e     api.Errno
	}{
		{[]string{"none x4000"}, 0, api.OK},
		{[]string{"none x4001"}, 2, api.ErrMany},
		{[]string{"none x999999999"}, 2, api.ErrMany},
		{[]string{"step 999999999 x999999999"}, 2, api.ErrMany},
		{[]string{"none x1000000000"}, 2, api.ErrForm},
		{[]string{"none x3999", "major"}, 0, api.OK},
		{[]string{"none x3999", "major x2"}, 3, api.ErrMany},
		{[]string{"none x3999", "major", "none"}, 4, api.ErrMany},
		{[]string{"none x4000", "compact"}, 3, api.ErrMany},
		{[]string{"major", "step 3 x3998", "mode 1"}, 0, api.OK},
		{[]string{"major", "step 3 x3998", "mode 1 x2"}, 4, api.ErrMany},
		{[]string{"young x2000", "young x2000"}, 0, api.OK},
		{[]string{"young x2000", "young x2001"}, 3, api.ErrMany},
		{[]string{"young x3000", "young x999999999"}, 3, api.ErrMany},
	} {
		checkFault(t, behindSteps(append(c.lines, "source")...), c.at, c.e)
		checkModel(t, behindSteps(append(c.lines, "source")...))
	}
}

// A text that may not be for its length alone has its fault at 0, whatever stands in it.
func TestP16_1Long(t *testing.T) {
	const most = 8192 + 65536
	fill := func(head, unit string, n int) string {
		return (head + strings.Repeat(unit, n/len(unit)+1))[:n]
	}
	for _, c := range []struct {
		head, unit string
		at         int
		e          api.Errno
	}{
		{"", "x", 0, api.ErrForm},
		{"", "\n", 0, api.ErrForm},
		{"size 0\n", "x", 0, api.ErrRange},
		{"size 1\n", "x", 1, api.ErrForm},
		{"size 1\nsteps 20001\n", "x", 1, api.ErrRange},
		{"size 1\nsteps 1\nsource\n", "\n", 2, api.ErrLong},
		{"size 1\nsteps 1\nyoung\nsource\n", "x", 3, api.ErrLong},
		{"size 1\nsteps 1\n", "step 999999999\n", 4002, api.ErrMany},
		{"size 1\nsteps 1\n", "none\n", 4002, api.ErrMany},
		{"size 1\nsteps 1\nnone x", "9", 2, api.ErrForm},
	} {
		checkFault(t, fill(c.head, c.unit, most), c.at, c.e)
		checkFault(t, fill(c.head, c.unit, most+1), 0, api.ErrLong)
		checkFault(t, fill(c.head, c.unit, most*2), 0, api.ErrLong)
	}
	// The longest text that may be.
	longest := api.Scene{Size: 65536, Steps: 20000, Source: strings.Repeat("\n", api.MaxSource)}
	head := "size 65536\nsteps 20000\n"
	for i := range 4000 {
		longest.Points = append(longest.Points, step(999999998+i%2))
		head += "step " + strconv.Itoa(999999998+i%2) + "\n"
	}
	checkScene(t, head+"source\n"+longest.Source, longest)
	checkFault(t, head+"source\n"+longest.Source+"\n", 4002, api.ErrLong)
}

func TestP16_1Order(t *testing.T) {
	right := []string{"size 900", "steps 50", "young", "source"}
	for _, c := range []struct {
		lines []string
		at    int
		e     api.Errno
	}{
		{right, 0, api.OK},
		{[]string{"steps 50", "size 900", "young", "source"}, 0, api.ErrForm},
		{[]string{"young", "size 900", "steps 50", "source"}, 0, api.ErrForm},
		{[]string{"source", "size 900", "steps 50", "young"}, 0, api.ErrForm},
		{[]string{"size 900", "young", "steps 50", "source"}, 1, api.ErrForm},
		{[]string{"size 900", "source", "steps 50", "young"}, 1, api.ErrForm},
		{[]string{"size 900", "size 900", "steps 50", "source"}, 1, api.ErrForm},
		{[]string{"size 900", "steps 50", "steps 50", "source"}, 2, api.ErrForm},
		{[]string{"size 900", "steps 50", "size 900", "source"}, 2, api.ErrForm},
		{[]string{"size 900", "steps 50", "young", "steps 50", "source"}, 3, api.ErrForm},
		{[]string{"steps 50", "young", "source"}, 0, api.ErrForm},
		{[]string{"size 900", "young", "source"}, 1, api.ErrForm},
		{[]string{"size 900", "source"}, 1, api.ErrForm},
		{[]string{"source"}, 0, api.ErrForm},
		{[]string{"size 900", "steps 50", "source"}, 0, api.OK},
		{[]string{"size 900", "steps 50", "source", "source"}, 0, api.OK},
		{[]string{"size 900", "steps 50", "young"}, 3, api.ErrForm},
		{[]string{"size 900", "steps 50"}, 2, api.ErrForm},
		{[]string{"size 900"}, 1, api.ErrForm},
		{[]string{"", "size 900", "steps 50", "source"}, 0, api.ErrForm},
		{[]string{"size 900", "", "steps 50", "source"}, 1, api.ErrForm},
		{[]string{"size 900", "steps 50", "", "source"}, 2, api.ErrForm},
		{[]string{"size 900", "steps 50", "young", "", "source"}, 3, api.ErrForm},
		// The first fault is told, whatever comes behind it.
		{[]string{"size 0", "steps 20001", "x", "source"}, 0, api.ErrRange},
		{[]string{"size x", "steps 20001", "x", "source"}, 0, api.ErrForm},
		{[]string{"size 1", "steps 20001", "x", "source"}, 1, api.ErrRange},
		{[]string{"size 1", "steps 1", "x", "none x4001", "source"}, 2, api.ErrForm},
		{[]string{"size 1", "steps 1", "none x4001", "x", "source"}, 2, api.ErrMany},
		{[]string{"size 1", "steps 1", "none x4001", "source", strings.Repeat("s", 9000)}, 2, api.ErrMany},
		{[]string{"size 1", "steps 1", "none", "source", strings.Repeat("s", 9000)}, 3, api.ErrLong},
		{[]string{"size 65537", "steps 1", "none", "source", strings.Repeat("s", 9000)}, 0, api.ErrRange},
	} {
		checkFault(t, strings.Join(c.lines, "\n")+"\n", c.at, c.e)
	}
	checkFault(t, "", 0, api.ErrForm)
	checkFault(t, "\n", 0, api.ErrForm)
}

// Lines that are no points', nor the line source.
var noLines = []string{
	"", " ", "x", "x2", " x2", "0", "1", "5", "5 step", "none 0", "none 1", "young 0", "young 3", "young 3 x2", "major 0", "major 1", "compact 0", "compact 5",
	"step", "step ", "step x2", "step  x2", "mode", "mode ", "mode x2", "mode 2", "mode 3 x2", "mode 10", "mode 00", "step 5x2", "step5", "mode1", "youngx2",
	"young  x2", "young x 2", "young x2 ", "young x2 x2", "young x2x2", "young x2 x3", "young 2", "young *2", "young X2", "young x2 3", "step  5", "step 5 ", "step 5  x2", "step 5 6", "step 5 x2 6", "step x2 5",
	" young", "young ", "\tyoung", "young\t", "young\r", "young x2\r", "step 5\r", "step\t5", "step 5\tx2", "Young", "YOUNG", "younger", "youn", "yyoung", "none none", "none,young", "none;", "nones", "compacted", "majors", "modes 1", "steps", "steps 5",
	"source ", " source", "source x2", "source 1", "sources", "Source", "source\r", "sourc", "source\x00", "size 1", "collect", "minor", "nil", "-- none", "young\x00", "\x00young", "é", "\xff",
}

func TestP16_1NoLines(t *testing.T) {
	for _, line := range noLines {
		checkFault(t, behindSteps(line, "source"), 2, api.ErrForm)
		checkFault(t, behindSteps("none x2", line, "source"), 3, api.ErrForm)
		checkFault(t, behindSteps(line), 2, api.ErrForm)
	}
	for _, line := range []string{"size", "size ", "size  5", " size 5", "size 5 ", "size 5 x2", "size 5 6", "size5", "Size 5", "sizes 5", "size\t5", "size 5\r", "size 5\x00", "siz 5", "size x2"} {
		checkFault(t, line+"\nsteps 5\nsource\n", 0, api.ErrForm)
	}
	for _, line := range []string{"steps", "steps ", "steps  5", " steps 5", "steps 5 ", "steps 5 x2", "steps 5 6", "steps5", "Steps 5", "step 5", "steps\t5", "steps 5\r", "stepss 5", "steps x2"} {
		checkFault(t, "size 5\n"+line+"\nsource\n", 1, api.ErrForm)
	}
	checkFault(t, "size 5\r\nsteps 5\r\nsource\r\n", 0, api.ErrForm)
	checkFault(t, "size 5\rsteps 5\rsource\r", 0, api.ErrForm)
}

// A text that is cut off: the fault stands in the line that does not end, which is ErrForm's whatever else is wrong with it.
func TestP16_1Cut(t *testing.T) {
	s := "size 900\nsteps 50\nnone\nstep 12 x3\nmode 1\ncompact x10\nsource\n"
	src := "emit(1)\nemit(2)"
	for i := range s {
		checkFault(t, s[:i], strings.Count(s[:i], "\n"), api.ErrForm)
	}
	for i := range len(src) + 1 {
		x, at, e := script.Parse(s + src[:i])
		if e != api.OK || at != 0 || x.Source != src[:i] {
			t.Errorf("cut in its source: %q, %d, %v", x.Source, at, e)
		}
	}
	for _, s := range []string{"size 0", "size 65537", "size 1\nsteps 20001", "size 1\nsteps 1\nnone x4001", "size 1\nsteps 1\nsource"} {
		checkFault(t, s, strings.Count(s, "\n"), api.ErrForm)
	}
}

// Each byte of a text is left out, written twice, or another one; the model says what comes of it.
func TestP16_1Bytes(t *testing.T) {
	bytes := []string{"\n", "\r", "\t", " ", "x", "0", "1", "2", "9", "-", "+", "s", "e", "n", "\x00", "\xff", "source\n", " x2", "\n\n"}
	for _, s := range []string{
		"size 900\nsteps 50\nnone\nstep 12 x3\nyoung x12\nmajor\nmode 1\ncompact x10\nmode 0 x2\nsource\nemit(1)\nsource\n",
		"size 1\nsteps 0\nsource\n",
		"size 65536\nsteps 20000\nstep 999999999 x4000\nsource\n",
	} {
		for i := range len(s) {
			checkModel(t, s[:i]+s[i+1:])
			checkModel(t, s[:i]+s[i:i+1]+s[i:])
			for _, b := range bytes {
				checkModel(t, s[:i]+b+s[i+1:])
				checkModel(t, s[:i]+b+s[i:])
			}
		}
	}
}

// All lines of up to four parts.
func TestP16_1AllLines(t *testing.T) {
	parts := []string{"none", "step", "young", "major", "mode", "compact", "source", "size", "steps", " ", "x", " x", "0", "1", "2", "12", "01", "-", "\n"}
	var say func(line string, left int)
	say = func(line string, left int) {
		checkModel(t, behindSteps(line, "source"))
		if left == 0 {
			return
		}
		for _, p := range parts {
			say(line+p, left-1)
		}
	}
	say("", 4)
}

// Texts of lines in any order, right and wrong.
func TestP16_1AnyTexts(t *testing.T) {
	pool := slices.Concat(noLines, []string{
		"size 1", "size 900", "size 65537", "steps 0", "steps 50", "steps 20001", "none", "young", "major", "compact", "mode 0", "mode 1", "step 5", "step 0",
		"none x2", "young x3", "step 5 x10", "mode 1 x2", "compact x1999", "major x3999", "source", "source", "source"})
	r := rand.New(rand.NewSource(161))
	for range 30000 {
		var b strings.Builder
		if r.Intn(4) > 0 {
			b.WriteString("size 77\n")
			if r.Intn(8) > 0 {
				b.WriteString("steps 7\n")
			}
		}
		for range r.Intn(8) {
			from := 0
			if r.Intn(6) > 0 {
				from = len(noLines)
			}
			b.WriteString(pool[from+r.Intn(len(pool)-from)])
			if r.Intn(40) > 0 {
				b.WriteByte('\n')
			}
		}
		checkModel(t, b.String())
	}
}

package tests

import (
	"math/rand/v2"
	"strings"
	"testing"

	"loop.example/g01260/impl"
)

// eachWalk calls a function for lines of walks over desks, with the desk ahead of each line.
func eachWalk(t *testing.T, seed uint64, do func(r *rand.Rand, d impl.Desk, line string)) {
	t.Helper()
	r := rand.New(rand.NewPCG(11, seed))
	for range 120 {
		d := randomDesk(t, r)
		for range 25 {
			line := randomLine(t, r, d)
			if r.IntN(5) == 0 {
				line = disturbed(r, line)
			}
			do(r, d, line)
			d, _ = impl.RunLine(d, line)
		}
	}
}

func TestLinesLeadFromDesksToDesks(t *testing.T) {
	wrong, changed, shown := 0, 0, 0
	eachWalk(t, 10, func(_ *rand.Rand, d impl.Desk, line string) {
		next, output := impl.RunLine(d, line)
		if !impl.IsDesk(next) || output == "" || strings.Contains(output, "\n") {
			t.Errorf("RunLine(%v, %q) = %v, %q", d, line, next, output)
		}
		same := sameDesk(next, d)
		switch {
		case output == "error":
			wrong++
			if !same {
				t.Errorf("RunLine(%v, %q) = %v, %q", d, line, next, output)
			}
		case same:
			shown++
		default:
			changed++
		}
	})
	for _, held := range []int{wrong, changed, shown} {
		checkHeld(t, held)
	}
}

// What is shown leads back, and is what the line before has shown.
func TestOutputsLeadBack(t *testing.T) {
	held := 0
	eachWalk(t, 11, func(_ *rand.Rand, d impl.Desk, line string) {
		_, x := impl.RunLine(d, "show")
		_, y := impl.RunLine(d, "other")
		_, p := impl.RunLine(d, "way")
		back := impl.Desk{First: impl.Series{Letters: d.First.Letters, Level: d.First.Level}, Second: impl.Series{Letters: d.First.Letters, Level: d.First.Level}}
		for _, c := range []struct{ name, text string }{{"first", x}, {"second", y}, {"path", p}} {
			next, output := impl.RunLine(back, c.name+" "+c.text)
			if back = next; output != c.text {
				t.Errorf("%s %s has the output %q", c.name, c.text, output)
			}
		}
		if held++; !sameDesk(back, d) {
			t.Errorf("%v comes back as %v", d, back)
		}
	})
	checkHeld(t, held)
}

// joinedOutputs returns what single lines do, one after the other, from the new desk on.
func joinedOutputs(lines []string) (impl.Desk, string) {
	d, outputs := impl.NewDesk(), ""
	for _, line := range lines {
		if line != "" {
			next, output := impl.RunLine(d, line)
			d, outputs = next, outputs+output+"\n"
		}
	}
	return d, outputs
}

func TestConsoleJoinsTheOutputsOfLines(t *testing.T) {
	r := rand.New(rand.NewPCG(11, 12))
	held := 0
	for range 200 {
		lines := randomText(t, r)
		d, outputs := joinedOutputs(lines)
		checkConsole(t, strings.Join(lines, "\n"), outputs, d)
		// The outputs of a beginning are a beginning of the outputs.
		for cut := range lines {
			begun := impl.Console(strings.Join(lines[:cut], "\n"))
			if !strings.HasPrefix(outputs, begun) {
				t.Errorf("the outputs of %q are %q, and those of its first %d lines %q", lines, outputs, cut, begun)
			}
			held++
		}
	}
	checkHeld(t, held)
}

// A line that is wrong may be left out, but for its output.
func TestWrongLinesMayBeLeftOut(t *testing.T) {
	r := rand.New(rand.NewPCG(11, 13))
	held := 0
	for range 200 {
		lines := randomText(t, r)
		var right []string
		d := impl.NewDesk()
		for _, line := range lines {
			next, output := impl.RunLine(d, line)
			if d = next; output != "error" {
				right = append(right, line)
			}
		}
		if len(right) == len(lines) {
			continue
		}
		held++
		all, rest := impl.Console(strings.Join(lines, "\n")), impl.Console(strings.Join(right, "\n"))
		checkConsole(t, strings.Join(right, "\n"), strings.ReplaceAll(all, "error\n", ""), d)
		if strings.Contains(rest, "error") {
			t.Errorf("%q has the outputs %q", right, rest)
		}
	}
	checkHeld(t, held)
}

// The promises of other chapters hold along lines.
func TestLinesThatLeadBack(t *testing.T) {
	held := map[string]int{}
	thereAndBack := []string{"exp\nlog", "log\nexp", "inverse\ninverse", "reversal\nreversal", "antipode\nantipode", "swap\nswap", "turn\nturn", "power 1", "scale 1"}
	eachWalk(t, 14, func(_ *rand.Rand, d impl.Desk, _ string) {
		for _, lines := range thereAndBack {
			next, fits := d, true
			for line := range strings.SplitSeq(lines, "\n") {
				after, output := impl.RunLine(next, line)
				next, fits = after, fits && output != "error"
			}
			if !fits {
				continue
			}
			if held[lines]++; !sameDesk(next, d) {
				t.Errorf("%q lead from %v to %v", lines, d, next)
			}
		}
	})
	for _, lines := range thereAndBack {
		if held[lines] < 60 {
			t.Errorf("%q led back %d times", lines, held[lines])
		}
	}
}

func TestLinesLeadToCoordinatesOfPaths(t *testing.T) {
	held := 0
	eachWalk(t, 15, func(_ *rand.Rand, d impl.Desk, _ string) {
		letters, level := d.First.Letters, d.First.Level
		list, code := impl.PathCoordinates(letters, level, d.Path)
		want, _ := impl.SeriesText(impl.Series{Letters: letters, Level: level, Terms: list})
		next, _ := impl.RunLine(d, "signature")
		next, _ = impl.RunLine(next, "log")
		if _, output := impl.RunLine(next, "lie"); code == impl.ErrNone && output != want {
			t.Errorf("%v has the coordinates %q, want %q", d, output, want)
		}
		if code == impl.ErrNone {
			held++
		}
	})
	checkHeld(t, held)
}

package tests

import (
	"slices"
	"strconv"
	"strings"
	"testing"

	"loop.example/g01260/impl"
)

// stepsOf returns the list of steps with a text, which need not be a path. The text may be none.
func stepsOf(t *testing.T, text string) path {
	t.Helper()
	if text == "none" {
		return nil
	}
	var p path
	for _, piece := range strings.Split(text, ";") {
		var step []int64
		for _, word := range strings.Split(piece, ",") {
			number, err := strconv.Atoi(word)
			if err != nil {
				t.Fatalf("%q is no list of steps", text)
			}
			step = append(step, int64(number))
		}
		p = append(p, step)
	}
	return p
}

// textOfSteps returns the text of a path.
func textOfSteps(p path) string {
	text := ""
	for _, step := range p {
		for i, number := range step {
			if i > 0 {
				text += ","
			}
			text += strconv.Itoa(int(number))
		}
		text += ";"
	}
	if text == "" {
		return "none"
	}
	return strings.TrimSuffix(text, ";")
}

// deskOf returns the desk that is told by its letters and level, its series and its path, as in
// "2 2|1/1*0|0|1,0;0,1".
func deskOf(t *testing.T, text string) impl.Desk {
	t.Helper()
	parts := strings.Split(text, "|")
	if len(parts) != 4 || len(parts[0]) != 3 {
		t.Fatalf("%q tells no desk", text)
	}
	d, n := int64(parts[0][0]-'0'), int64(parts[0][2]-'0')
	return impl.Desk{First: seriesOf(t, d, n, parts[1]), Second: seriesOf(t, d, n, parts[2]), Path: stepsOf(t, parts[3])}
}

// sameDesk reports whether two desks are equal.
func sameDesk(a impl.Desk, b impl.Desk) bool {
	return sameSeries(a.First, b.First) && sameSeries(a.Second, b.Second) && samePath(a.Path, b.Path)
}

// isZeroDesk reports whether a desk is the zero value.
func isZeroDesk(d impl.Desk) bool {
	return sameDesk(d, impl.Desk{})
}

// checkRun requires an output of a line, and the desk after it.
func checkRun(t *testing.T, d impl.Desk, line string, output string, after impl.Desk) {
	t.Helper()
	got, gotOutput := impl.RunLine(d, line)
	if gotOutput != output || !sameDesk(got, after) {
		t.Errorf("RunLine(%v, %q) = %v, %q, want %v, %q", d, line, got, gotOutput, after, output)
	}
}

// checkWrong requires the output error of a line, and an unchanged desk after it.
func checkWrong(t *testing.T, d impl.Desk, line string) {
	t.Helper()
	checkRun(t, d, line, "error", d)
}

func TestNewDesk(t *testing.T) {
	if impl.MaxConsole != 3000 || impl.MaxLines != 40 {
		t.Errorf("MaxConsole = %d, MaxLines = %d", impl.MaxConsole, impl.MaxLines)
	}
	d := impl.NewDesk()
	if !impl.IsDesk(d) || !sameDesk(d, deskOf(t, "2 2|0|0|none")) {
		t.Errorf("NewDesk() = %v", d)
	}
}

func TestIsDesk(t *testing.T) {
	eachShape(func(d int64, n int64) {
		empty, full := impl.Series{Letters: d, Level: n}, largeSeries(d, n)
		for _, p := range []path{nil, {}, {flatStep(d, 0)}, {flatStep(d, 1), flatStep(d, -1)}, repeated(impl.MaxSteps, flatStep(d, impl.MaxStep)...), repeated(impl.MaxSteps, flatStep(d, -impl.MaxStep)...)} {
			for _, x := range []impl.Series{empty, unitOf(d, n), full, mixedSeries(d, n, 3, 4)} {
				for _, y := range []impl.Series{empty, full} {
					for _, desk := range []impl.Desk{{First: x, Second: y, Path: p}, {First: y, Second: x, Path: p}} {
						if !impl.IsDesk(desk) {
							t.Errorf("IsDesk(%v) = false", desk)
						}
					}
				}
			}
		}
	})
}

// namedDesk is what is no desk, by what is wrong with it.
type namedDesk struct {
	name string
	desk impl.Desk
}

// desksOfNoSeries have one or two series that are none.
func desksOfNoSeries() []namedDesk {
	var list []namedDesk
	for what, bad := range notSeries() {
		d := max(1, min(bad.Letters, impl.MaxLetter))
		x := impl.Series{Letters: d, Level: max(1, min(bad.Level, levelsOf(d)))}
		for _, p := range []path{nil, {flatStep(d, 1)}} {
			list = append(list,
				namedDesk{"first: " + what, impl.Desk{First: bad, Second: x, Path: p}},
				namedDesk{"second: " + what, impl.Desk{First: x, Second: bad, Path: p}},
				namedDesk{"both: " + what, impl.Desk{First: bad, Second: bad, Path: p}})
		}
	}
	return list
}

// desksOfUnlikeSeries have two series that are not alike.
func desksOfUnlikeSeries() []namedDesk {
	var list []namedDesk
	eachShape(func(d int64, n int64) {
		eachShape(func(e int64, m int64) {
			if d == e && n == m {
				return
			}
			for _, p := range []path{nil, {flatStep(d, 1)}, {flatStep(e, 1)}} {
				x, y := impl.Series{Letters: d, Level: n}, impl.Series{Letters: e, Level: m}
				list = append(list, namedDesk{"not alike", impl.Desk{First: x, Second: y, Path: p}}, namedDesk{"units not alike", impl.Desk{First: unitOf(d, n), Second: unitOf(e, m), Path: p}})
			}
		})
	})
	return list
}

// desksOfNoPath have what is no path for their letters, or one for others.
func desksOfNoPath() []namedDesk {
	var list []namedDesk
	for _, bad := range notPaths() {
		if bad.letters >= 1 && bad.letters <= impl.MaxLetter {
			x := impl.Series{Letters: bad.letters, Level: 2}
			list = append(list, namedDesk{bad.name, impl.Desk{First: x, Second: x, Path: bad.path}})
		}
	}
	for d := int64(1); d <= impl.MaxLetter; d++ {
		for e := int64(1); e <= impl.MaxLetter; e++ {
			if d != e {
				list = append(list, namedDesk{"letters of the path", impl.Desk{First: unitOf(d, 2), Second: unitOf(d, 2), Path: path{flatStep(e, 1)}}})
			}
		}
	}
	return list
}

// notDesks returns what is no desk.
func notDesks() []namedDesk {
	return slices.Concat([]namedDesk{{"zero value", impl.Desk{}}, {"zero value with a path", impl.Desk{Path: path{{1, 0}}}}},
		desksOfNoSeries(), desksOfUnlikeSeries(), desksOfNoPath())
}

func TestWhatIsNoDesk(t *testing.T) {
	for _, bad := range notDesks() {
		if impl.IsDesk(bad.desk) {
			t.Errorf("IsDesk(%v), %s", bad.desk, bad.name)
		}
	}
}

// What is no desk stays without output even for lines that take nothing from it, and for those that are wrong.
func TestLinesOnWhatIsNoDesk(t *testing.T) {
	lines := []string{"", " ", "fly", "new 2 2", "new 0 0", "reset", "show", "other", "way", "swap", "unit", "first 0", "second 0", "path none", "plus", "signature", "value ", "area 0 0", "power 13"}
	for _, bad := range notDesks() {
		for _, line := range lines {
			if d, output := impl.RunLine(bad.desk, line); output != "" || !isZeroDesk(d) {
				t.Errorf("RunLine(%v, %q), %s = %v, %q", bad.desk, line, bad.name, d, output)
			}
		}
	}
}

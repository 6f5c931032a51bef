package tests

import (
	"strings"
	"testing"

	"loop.example/g01260/impl"
)

// checkConsole requires outputs of a text, each one with its newline, and the desk after it.
func checkConsole(t *testing.T, text string, outputs string, after impl.Desk) {
	t.Helper()
	if got := impl.Console(text); got != outputs {
		t.Errorf("Console(%q) = %q, want %q", text, got, outputs)
	}
	if d, ok := impl.DeskAfter(text); !ok || !sameDesk(d, after) {
		t.Errorf("DeskAfter(%q) = %v, %v, want %v", text, d, ok, after)
	}
}

// checkTooLong requires a text to be refused.
func checkTooLong(t *testing.T, text string) {
	t.Helper()
	if got := impl.Console(text); got != "" {
		t.Errorf("Console of %d bytes and %d newlines = %q", len(text), strings.Count(text, "\n"), got)
	}
	if d, ok := impl.DeskAfter(text); ok || !isZeroDesk(d) {
		t.Errorf("DeskAfter of %d bytes and %d newlines = %v, %v", len(text), strings.Count(text, "\n"), d, ok)
	}
}

func TestConsole(t *testing.T) {
	checkConsole(t, "path 1,0;0,1\nsignature\nvalue 01\nlog\nlie\narea 0 1\nturn\nreduce\nexp\nantipode\nsecond 1/1*0\nplus\nswap\nother\nfly\nshow\n",
		"1,0;0,1\n1/1*+1/1*0+1/1*1+1/2*00+1/1*01+1/2*11\n1/1\n1/1*0+1/1*1+1/2*01+-1/2*10\n1/1*0+1/1*1+1/2*01\n1\n0,-1;-1,0\n0,-1;-1,0\n"+
			"1/1*+1/1*0+1/1*1+1/2*00+1/1*01+1/2*11\n1/1*+-1/1*0+-1/1*1+1/2*00+1/1*10+1/2*11\n1/1*0\n1/1*+-1/1*1+1/2*00+1/1*10+1/2*11\n1/1*0\n1/1*+-1/1*1+1/2*00+1/1*10+1/2*11\nerror\n1/1*0\n",
		deskOf(t, "2 2|1/1*0|1/1*+-1/1*1+1/2*00+1/1*10+1/2*11|0,-1;-1,0"))
	checkConsole(t, "new 1 3\npath 1;2;3\nstrict\ninverse\nweak\nscale 2\nway\nnew 3 5\nother\nreset\nway\nunit\n",
		"ok\n1;2;3\n1/1*+6/1*0+11/1*00+6/1*000\n1/1*+-6/1*0+25/1*00+-90/1*000\n1/1*+6/1*0+25/1*00+90/1*000\n2;4;6\n2;4;6\nerror\n0\nok\nnone\n1/1*\n",
		deskOf(t, "2 2|1/1*|0|none"))
	checkConsole(t, "bracket 01\nsecond 1/1*0\ncommutator\nnew 2 3\nbracket 01\nsecond 1/1*0\nswap\ncommutator\nlie\ndynkin\npower 0\n",
		"1/1*01+-1/1*10\n1/1*0\n0\nok\n1/1*01+-1/1*10\n1/1*0\n1/1*0\n1/1*001+-2/1*010+1/1*100\n1/1*001\n1/1*001+-2/1*010+1/1*100\n1/1*\n",
		deskOf(t, "2 3|1/1*|1/1*01+-1/1*10|none"))
}

func TestTextsWithoutLines(t *testing.T) {
	for _, text := range []string{"", "\n", "\n\n", "\n\n\n", strings.Repeat("\n", impl.MaxLines-1), strings.Repeat("\n", impl.MaxLines)} {
		checkConsole(t, text, "", impl.NewDesk())
	}
}

func TestEmptyLinesAreLeftOut(t *testing.T) {
	after := deskOf(t, "2 2|1/1*|0|none")
	for _, text := range []string{"unit", "unit\n", "\nunit", "\nunit\n", "unit\n\n", "\n\nunit\n\n\n"} {
		checkConsole(t, text, "1/1*\n", after)
	}
	checkConsole(t, "unit\n\nswap\n\n\nshow", "1/1*\n0\n0\n", deskOf(t, "2 2|0|1/1*|none"))
	// Lines of blanks, or of other ends of lines, are not empty.
	for _, line := range []string{" ", "  ", "\r", "\t", "\x00", "\v", "\f", "\u0085", "\u2028"} {
		checkConsole(t, line, "error\n", impl.NewDesk())
		checkConsole(t, line+"\n", "error\n", impl.NewDesk())
		checkConsole(t, "unit\n"+line+"\nshow\n", "1/1*\nerror\n1/1*\n", after)
		checkConsole(t, "unit"+line+"swap", "error\n", impl.NewDesk())
	}
	checkConsole(t, "unit\r\nshow\r\n", "error\nerror\n", impl.NewDesk())
}

func TestNumbersOfLinesOfTexts(t *testing.T) {
	after := deskOf(t, "2 2|1/1*|0|none")
	for lines := 1; lines <= impl.MaxLines+3; lines++ {
		for _, text := range []string{strings.Repeat("unit\n", lines), strings.Repeat("unit\n", lines-1) + "unit"} {
			if lines > impl.MaxLines {
				checkTooLong(t, text)
				continue
			}
			checkConsole(t, text, strings.Repeat("1/1*\n", lines), after)
		}
	}
	// Empty lines count, but nothing behind the last newline does.
	for _, lines := range []int{impl.MaxLines - 1, impl.MaxLines, impl.MaxLines + 1} {
		for _, text := range []string{"unit\n" + strings.Repeat("\n", lines-1), strings.Repeat("\n", lines-1) + "unit", strings.Repeat("\n", lines-1) + "unit\n", strings.Repeat("\n", lines-2) + "unit\n\n"} {
			if lines > impl.MaxLines {
				checkTooLong(t, text)
				continue
			}
			checkConsole(t, text, "1/1*\n", after)
		}
	}
	for _, text := range []string{strings.Repeat("\n", impl.MaxLines+1), strings.Repeat("\n", impl.MaxLines) + "x", strings.Repeat("\n", impl.MaxConsole), strings.Repeat("x\n", impl.MaxLines) + " "} {
		checkTooLong(t, text)
	}
}

func TestBytesOfTexts(t *testing.T) {
	after := deskOf(t, "2 2|1/1*|0|none")
	for length := impl.MaxConsole - 2; length <= impl.MaxConsole+2; length++ {
		for _, c := range []struct{ ahead, outputs string }{{"unit\n", "1/1*\nerror\n"}, {"\nunit\n\n", "1/1*\nerror\n"}} {
			for _, ending := range []string{"", "\n"} {
				text := c.ahead + strings.Repeat("x", length-len(c.ahead)-len(ending)) + ending
				if length > impl.MaxConsole {
					checkTooLong(t, text)
					continue
				}
				checkConsole(t, text, c.outputs, after)
			}
		}
	}
	// Bytes are counted, and no letters beyond ASCII.
	checkConsole(t, "unit\n"+strings.Repeat("\u00e9", (impl.MaxConsole-6)/2), "1/1*\nerror\n", after)
	checkTooLong(t, "unit\n"+strings.Repeat("\u00e9", impl.MaxConsole/2))
	checkTooLong(t, strings.Repeat("unit\n", 1000000))
}

// A line may be as long as a text, and need not be wrong.
func TestLongLines(t *testing.T) {
	x := largeSeries(3, 4)
	text, _ := impl.SeriesText(x)
	after := impl.Desk{First: x, Second: impl.Series{Letters: 3, Level: 4}}
	checkConsole(t, "new 3 4\nfirst "+text, "ok\n"+text+"\n", after)
	checkWrong(t, after, "first "+strings.Repeat(" ", 100000)+text)
	checkWrong(t, after, strings.Repeat("x", 1000000))
	checkWrong(t, after, strings.Repeat(" ", 1000000))
	checkWrong(t, after, "path "+strings.TrimSuffix(strings.Repeat("0,0,0;", 100000), ";"))
	checkWrong(t, after, "power "+strings.Repeat("1", 1000000))
}

// The steps on the way do not depend on those ahead of them that were wrong.
func TestWrongLinesOfTextsChangeNothing(t *testing.T) {
	wrong := []string{"fly", "new 3 5", "first 1/1*2", "second x", "path 1", "power 13", "log", "inverse", "value 000", "scale 101", "area 0 2", "bracket 10", "swap ", "reset ", " reset", "new 2 2 "}
	right := []string{"first 1/1*0+1/2*01", "second 3/1*1", "path 1,2;3,4", "plus", "turn", "times", "swap", "scale 2"}
	text, want := "", ""
	for i, line := range right {
		d, ok := impl.DeskAfter(strings.Join(right[:i], "\n"))
		_, output := impl.RunLine(d, line)
		if !ok || output == "error" {
			t.Fatalf("%q behind %q = %q, %v", line, right[:i], output, ok)
		}
		text, want = text+wrong[2*i]+"\n"+wrong[2*i+1]+"\n"+line+"\n", want+"error\nerror\n"+output+"\n"
	}
	after, _ := impl.DeskAfter(strings.Join(right, "\n"))
	checkConsole(t, text, want, after)
}

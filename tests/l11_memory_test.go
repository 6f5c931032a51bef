package tests

import (
	"math/rand/v2"
	"slices"
	"strings"
	"testing"

	"loop.example/g01260/impl"
)

// deskMemory is a desk with spare capacities everywhere, and copies of all that they hold.
type deskMemory struct {
	desk           impl.Desk
	x, y           []impl.Term
	oldX, oldY     []impl.Term
	steps, oldPath path
}

// memoryOf returns a copy of a desk, or of what is none, with spare capacities.
func memoryOf(d impl.Desk) deskMemory {
	var m deskMemory
	m.desk.First, m.x = withSpare(d.First)
	m.desk.Second, m.y = withSpare(d.Second)
	m.steps = spacious(d.Path)
	m.desk.Path = m.steps
	m.oldX, m.oldY, m.oldPath = slices.Clone(m.x), slices.Clone(m.y), wholeOf(m.steps)
	return m
}

// isUnchanged reports whether nothing was written into the desk.
func (m deskMemory) isUnchanged() bool {
	return slices.Equal(m.x, m.oldX) && slices.Equal(m.y, m.oldY) && samePath(wholeOf(m.steps), m.oldPath)
}

// shareDesks reports whether two desks share memory.
func shareDesks(a impl.Desk, b impl.Desk) bool {
	for _, x := range []impl.Series{a.First, a.Second} {
		for _, y := range []impl.Series{b.First, b.Second} {
			if shareMemory(x.Terms, y.Terms) || shareWords(x.Terms, y.Terms) {
				return true
			}
		}
	}
	return shareRows(a.Path, b.Path)
}

// checkOwnDesk requires that no two slices of a desk share memory.
func checkOwnDesk(t *testing.T, name string, d impl.Desk) {
	t.Helper()
	if shareMemory(d.First.Terms, d.Second.Terms) {
		t.Errorf("the series behind %q share memory", name)
	}
	checkOwnMemory(t, name, d.Path)
}

// changedDesk changes whatever a desk reaches, and returns a copy of what it was.
func changedDesk(d impl.Desk) impl.Desk {
	old := impl.Desk{First: d.First, Second: d.Second}
	for _, list := range []*[]impl.Term{&old.First.Terms, &old.Second.Terms} {
		whole := (*list)[:cap(*list)]
		*list = slices.Clone(*list)
		for i := range whole {
			whole[i] = spareTerm
		}
	}
	old.Path = changedAfter(d.Path)
	return old
}

// checkLineMemory runs a line twice on a desk, or on what is none, and looks for what it writes and shares.
func checkLineMemory(t *testing.T, d impl.Desk, line string) {
	t.Helper()
	m, text := memoryOf(d), strings.Clone(line)
	next, output := impl.RunLine(m.desk, text)
	if !m.isUnchanged() || text != line {
		t.Errorf("%q writes into %v", line, d)
	}
	checkOwnDesk(t, line, next)
	if shareDesks(next, m.desk) || shareBytes(output, text) {
		t.Errorf("%q on %v shares its memory", line, d)
	}
	for _, term := range slices.Concat(next.First.Terms, next.Second.Terms) {
		if shareBytes(term.Word, text) {
			t.Errorf("%q on %v keeps its text", line, d)
		}
	}
	want := changedDesk(next)
	again, secondOutput := impl.RunLine(m.desk, text)
	if !sameDesk(again, want) || secondOutput != output || shareDesks(again, next) || !m.isUnchanged() {
		t.Errorf("%q on %v = %v, %q, and then %v, %q", line, d, want, output, again, secondOutput)
	}
}

// memoryDesks are desks of all kinds.
func memoryDesks(t *testing.T) []impl.Desk {
	list := append(lineDesks(t), deskOf(t, used), impl.NewDesk(), deskOf(t, "3 4|1/2*012+1/3*0120|1/1*+5/1*2|1,2,3;2,4,6;0,0,0"), deskOf(t, "1 5|1000000000/1*0|1000000000/1*|100;100"))
	r := rand.New(rand.NewPCG(11, 20))
	for range 10 {
		list = append(list, randomDesk(t, r))
	}
	return list
}

func TestDesksAreNeitherWrittenNorShared(t *testing.T) {
	lines := append(fullLines(), "", " ", "fly", "swap ", "new 0 2", "power 13", "scale 101", "area 9 9", "value 000000", "bracket 10", "path none", "path 1", "path 1,2", "path 3,2,1;1,2,3", "path 7", "first 0", "first 1/2*+1/3*00", "second 1/2*+1/3*00", "second x")
	for _, d := range memoryDesks(t) {
		for _, line := range lines {
			checkLineMemory(t, d, line)
		}
	}
	r := rand.New(rand.NewPCG(11, 21))
	for range 2000 {
		d := randomDesk(t, r)
		checkLineMemory(t, d, randomLine(t, r, d))
	}
}

func TestWhatIsNoDeskIsNotWritten(t *testing.T) {
	for _, bad := range notDesks() {
		if len(bad.desk.Path) > impl.MaxSteps+1 {
			continue
		}
		for _, line := range []string{"swap", "turn", "plus", "fly", "reset"} {
			m := memoryOf(bad.desk)
			impl.IsDesk(m.desk)
			impl.RunLine(m.desk, line)
			if !m.isUnchanged() {
				t.Errorf("%q writes into %v", line, bad.desk)
			}
		}
	}
}

func TestIsDeskWritesNothing(t *testing.T) {
	for _, d := range memoryDesks(t) {
		m := memoryOf(d)
		if !impl.IsDesk(m.desk) || !m.isUnchanged() {
			t.Errorf("IsDesk writes into %v, or takes it for none", d)
		}
	}
}

// Both series of a desk may be one, and a path may have one step at several places. The desk behind a line must
// not.
func TestDesksWithOneSliceTwice(t *testing.T) {
	for _, line := range append(fullLines(), "fly", "", "path none") {
		x := seriesOf(t, 2, 2, "1/1*0+1/1*1")
		step := []int64{1, 2}
		next, output := impl.RunLine(impl.Desk{First: x, Second: x, Path: path{step, step, step}}, line)
		apart, outputApart := impl.RunLine(deskOf(t, "2 2|1/1*0+1/1*1|1/1*0+1/1*1|1,2;1,2;1,2"), line)
		checkOwnDesk(t, line, next)
		if !sameDesk(next, apart) || output != outputApart {
			t.Errorf("%q = %v, %q, and apart %v, %q", line, next, output, apart, outputApart)
		}
		changedDesk(next)
		if !sameSeries(x, seriesOf(t, 2, 2, "1/1*0+1/1*1")) || !slices.Equal(step, []int64{1, 2}) {
			t.Errorf("%q shares the memory of its desk", line)
		}
	}
}

func TestNewDesksAreNew(t *testing.T) {
	text := strings.Clone("path 1,0;0,1\nfirst 1/1*0+1/2*01\nsecond 1/3*1\n")
	for name, build := range map[string]func() impl.Desk{
		"NewDesk":          impl.NewDesk,
		"DeskAfter":        func() impl.Desk { d, _ := impl.DeskAfter(text); return d },
		"DeskAfter \"\"":   func() impl.Desk { d, _ := impl.DeskAfter(""); return d },
		"DeskAfter errors": func() impl.Desk { d, _ := impl.DeskAfter(text + "swap\nfly\n"); return d },
		"DeskAfter shown":  func() impl.Desk { d, _ := impl.DeskAfter(text + "swap\nshow\nway"); return d },
	} {
		first := build()
		checkOwnDesk(t, name, first)
		for _, term := range slices.Concat(first.First.Terms, first.Second.Terms) {
			if shareBytes(term.Word, text) {
				t.Errorf("%s keeps its text", name)
			}
		}
		want := changedDesk(first)
		if second := build(); !sameDesk(second, want) || shareDesks(first, second) || !impl.IsDesk(second) {
			t.Errorf("%s = %v, and then %v", name, want, second)
		}
	}
	if text != "path 1,0;0,1\nfirst 1/1*0+1/2*01\nsecond 1/3*1\n" {
		t.Errorf("the text has become %q", text)
	}
}

// A fresh desk of a line has two series of its own, too.
func TestDesksOfNewAndResetAreNew(t *testing.T) {
	for _, line := range []string{"new 3 4", "new 1 1", "reset"} {
		first, _ := impl.RunLine(deskOf(t, used), line)
		first.First.Terms = append(first.First.Terms, spareTerm)
		first.Path = append(first.Path, []int64{spareNumber})
		second, output := impl.RunLine(deskOf(t, used), line)
		if output != "ok" || len(first.Second.Terms) != 0 || len(second.First.Terms) != 0 || len(second.Path) != 0 {
			t.Errorf("%q = %v, and then %v", line, first, second)
		}
	}
}

func TestOutputsOfTextsAreNew(t *testing.T) {
	for _, text := range []string{"unit", "unit\n", "first 0", "path none\nway", "error", "ok", "fly\n"} {
		own := strings.Clone(text)
		first := impl.Console(own)
		second := impl.Console(own)
		if own != text || first != second || shareBytes(first, own) {
			t.Errorf("Console(%q) = %q, and then %q", text, first, second)
		}
	}
}

// Functions may be called at the same time, as nothing is kept between calls.
func TestConsolesAtTheSameTime(t *testing.T) {
	text := "path 1,0;0,1\nsignature\nlog\nlie\nstrict\nweak\nfly\nswap\n"
	want := impl.Console(text)
	d, _ := impl.DeskAfter(text)
	results := make(chan bool)
	for range 50 {
		go func() {
			after, ok := impl.DeskAfter(text)
			next, output := impl.RunLine(d, "turn")
			results <- ok && sameDesk(after, d) && impl.Console(text) == want && output == "0,-1;-1,0" && impl.IsDesk(next)
		}()
	}
	for range 50 {
		if !<-results {
			t.Errorf("%q run at the same time are not the same", text)
		}
	}
}

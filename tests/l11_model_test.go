package tests

import (
	"math/rand/v2"
	"regexp"
	"slices"
	"strconv"
	"strings"
	"testing"

	"loop.example/g01260/impl"
)

// answer is what a line leads to, if it is right.
type answer struct {
	desk   impl.Desk
	output string
	right  bool
}

// form is the form of a line, with what it does. The words of the line are those that the form puts in
// parentheses.
type form struct {
	pattern string
	do      func(d impl.Desk, words []string) answer
}

// The forms of the words of lines.
const (
	numberForm = `(0|[1-9][0-9]{0,8})`
	textForm   = `(.*)`
)

// wholeNumber returns a number of a line.
func wholeNumber(word string) int64 {
	number, _ := strconv.ParseInt(word, 10, 64)
	return number
}

// firstAnswer returns what it leads to that a function has returned a new first series.
func firstAnswer(d impl.Desk, x impl.Series, code int64) answer {
	text, textCode := impl.SeriesText(x)
	d.First = x
	return answer{d, text, code == impl.ErrNone && textCode == impl.ErrNone}
}

// pathAnswer returns what it leads to that a function has returned a new path.
func pathAnswer(d impl.Desk, p path, code int64) answer {
	d.Path = p
	return answer{d, textOfSteps(p), code == impl.ErrNone}
}

// bareForms are lines of one word.
func bareForms() []form {
	of := func(pattern string, do func(d impl.Desk) answer) form {
		return form{pattern, func(d impl.Desk, words []string) answer { return do(d) }}
	}
	single := func(pattern string, do func(x impl.Series) (impl.Series, int64)) form {
		return of(pattern, func(d impl.Desk) answer { x, code := do(d.First); return firstAnswer(d, x, code) })
	}
	pair := func(pattern string, do func(x impl.Series, y impl.Series) (impl.Series, int64)) form {
		return of(pattern, func(d impl.Desk) answer { x, code := do(d.First, d.Second); return firstAnswer(d, x, code) })
	}
	along := func(pattern string, do func(d int64, n int64, p path) (impl.Series, int64)) form {
		return of(pattern, func(d impl.Desk) answer {
			x, code := do(d.First.Letters, d.First.Level, d.Path)
			return firstAnswer(d, x, code)
		})
	}
	return []form{
		pair(`plus`, impl.AddSeries), pair(`times`, impl.MultiplySeries), pair(`commutator`, impl.CommutatorOf), pair(`join`, impl.JoinedSeries),
		single(`inverse`, impl.InverseSeries), single(`exp`, impl.ExponentialOf), single(`log`, impl.LogarithmOf),
		single(`reversal`, impl.ReversalOf), single(`antipode`, impl.AntipodeOf), single(`dynkin`, impl.DynkinMap),
		along(`signature`, impl.SignatureOf), along(`strict`, impl.StrictSeries), along(`weak`, impl.WeakSeries),
		of(`unit`, func(d impl.Desk) answer { return firstAnswer(d, unitOf(d.First.Letters, d.First.Level), impl.ErrNone) }),
		of(`swap`, func(d impl.Desk) answer {
			return firstAnswer(impl.Desk{Second: d.First, Path: d.Path}, d.Second, impl.ErrNone)
		}),
		of(`show`, func(d impl.Desk) answer { return firstAnswer(d, d.First, impl.ErrNone) }),
		of(`other`, func(d impl.Desk) answer { return answer{d, firstAnswer(d, d.Second, impl.ErrNone).output, true} }),
		of(`way`, func(d impl.Desk) answer { return pathAnswer(d, d.Path, impl.ErrNone) }),
		of(`reduce`, func(d impl.Desk) answer {
			p, code := impl.ReducePath(d.First.Letters, d.Path)
			return pathAnswer(d, p, code)
		}),
		of(`turn`, func(d impl.Desk) answer {
			p, code := impl.ReversePath(d.First.Letters, d.Path)
			return pathAnswer(d, p, code)
		}),
		of(`lie`, func(d impl.Desk) answer {
			list, code := impl.LieCoordinates(d.First)
			text, _ := impl.SeriesText(impl.Series{Letters: d.First.Letters, Level: d.First.Level, Terms: list})
			return answer{d, text, code == impl.ErrNone}
		}),
		of(`reset`, func(d impl.Desk) answer {
			empty := impl.Series{Letters: 2, Level: 2}
			return answer{impl.Desk{First: empty, Second: empty}, "ok", true}
		}),
	}
}

// wordForms are lines with words behind the command.
func wordForms() []form {
	return []form{
		{`new ` + numberForm + ` ` + numberForm, func(d impl.Desk, words []string) answer {
			letters, level := wholeNumber(words[0]), wholeNumber(words[1])
			fresh := impl.Series{Letters: letters, Level: level}
			return answer{impl.Desk{First: fresh, Second: fresh}, "ok", letters >= 1 && letters <= 3 && level >= 1 && level <= levelsOf(letters)}
		}},
		{`first ` + textForm, func(d impl.Desk, words []string) answer {
			x, code := impl.ParseSeries(d.First.Letters, d.First.Level, words[0])
			return firstAnswer(d, x, code)
		}},
		{`second ` + textForm, func(d impl.Desk, words []string) answer {
			y, code := impl.ParseSeries(d.First.Letters, d.First.Level, words[0])
			return answer{impl.Desk{First: d.First, Second: y, Path: d.Path}, words[0], code == impl.ErrNone}
		}},
		{`path ((?:(?:0|-?[1-9][0-9]{0,2})[,;])*(?:0|-?[1-9][0-9]{0,2}))`, func(d impl.Desk, words []string) answer {
			var p path
			for _, piece := range strings.Split(words[0], ";") {
				var step []int64
				for _, word := range strings.Split(piece, ",") {
					step = append(step, wholeNumber(word))
				}
				p = append(p, step)
			}
			return answer{impl.Desk{First: d.First, Second: d.Second, Path: p}, words[0], impl.IsPath(d.First.Letters, p)}
		}},
		{`path none`, func(d impl.Desk, words []string) answer { return pathAnswer(d, nil, impl.ErrNone) }},
		{`power ` + numberForm, func(d impl.Desk, words []string) answer {
			x, code := impl.PowerSeries(d.First, wholeNumber(words[0]))
			return firstAnswer(d, x, code)
		}},
		{`value ([0-2]*)`, func(d impl.Desk, words []string) answer {
			a, code := impl.CoefficientOf(d.First, words[0])
			return answer{d, strconv.Itoa(int(a.Num)) + "/" + strconv.Itoa(int(a.Den)), code == impl.ErrNone}
		}},
		{`scale ` + numberForm, func(d impl.Desk, words []string) answer {
			p, code := impl.ScalePath(d.First.Letters, d.Path, wholeNumber(words[0]))
			return pathAnswer(d, p, code)
		}},
		{`area ` + numberForm + ` ` + numberForm, func(d impl.Desk, words []string) answer {
			area, code := impl.DoubleArea(d.First.Letters, d.Path, wholeNumber(words[0]), wholeNumber(words[1]))
			return answer{d, strconv.Itoa(int(area)), code == impl.ErrNone}
		}},
		{`bracket ` + textForm, func(d impl.Desk, words []string) answer {
			x, code := impl.BracketOf(d.First.Letters, d.First.Level, words[0])
			return firstAnswer(d, x, code)
		}},
	}
}

// lineModel tells what lines lead to. It looks at a line as a whole, and takes it for none if no form is that of
// the line.
type lineModel struct {
	forms    []form
	patterns []*regexp.Regexp
}

func newLineModel() lineModel {
	m := lineModel{forms: append(bareForms(), wordForms()...)}
	for _, f := range m.forms {
		m.patterns = append(m.patterns, regexp.MustCompile(`(?s)\A(?:`+f.pattern+`)\z`))
	}
	return m
}

// run returns the desk after a line, and its output.
func (m lineModel) run(d impl.Desk, line string) (impl.Desk, string) {
	for i, pattern := range m.patterns {
		if words := pattern.FindStringSubmatch(line); words != nil {
			if a := m.forms[i].do(d, words[1:]); a.right {
				return a.desk, a.output
			}
			break
		}
	}
	return d, "error"
}

// randomSeries returns a series of a kind that some commands ask for, or one of any kind.
func randomSeries(t *testing.T, r *rand.Rand, d int64, n int64) impl.Series {
	var c calls
	x := bracketSeries(&c, r, d, n)
	samples := modelSamples(r, d, n)
	switch r.IntN(7) {
	case 0:
		return withConstant(t, samples[r.IntN(len(samples))], zero)
	case 1:
		return withConstant(t, samples[r.IntN(len(samples))], fr(1, 1))
	case 2:
		y, _ := impl.SeriesOfCoordinates(d, n, lyndonTerms(samples[r.IntN(2)]))
		return y
	case 3:
		if y, code := impl.ExponentialOf(x); code == impl.ErrNone {
			return y
		}
	case 4:
		return impl.Series{Letters: d, Level: n}
	case 5:
		return samples[r.IntN(len(samples))]
	}
	return x
}

// randomDesk returns a desk of any shape.
func randomDesk(t *testing.T, r *rand.Rand) impl.Desk {
	d := r.Int64N(impl.MaxLetter) + 1
	n := r.Int64N(levelsOf(d)) + 1
	most := []int64{0, 1, 3, 20, 60, impl.MaxStep}[r.IntN(6)]
	desk := impl.Desk{First: randomSeries(t, r, d, n), Second: randomSeries(t, r, d, n), Path: windingPath(r, d, r.IntN(6), most)}
	if r.IntN(3) == 0 {
		desk.Path = randomPath(r, d, r.IntN(impl.MaxSteps+1), most)
	}
	if !impl.IsDesk(desk) {
		return randomDesk(t, r)
	}
	return desk
}

// randomLine returns a line with a command, and with words that are often right for a desk.
func randomLine(t *testing.T, r *rand.Rand, d impl.Desk) string {
	letters, level := d.First.Letters, d.First.Level
	words := allWords(letters, level)
	series, _ := impl.SeriesText(randomSeries(t, r, letters, level))
	number := func(most int) string { return strconv.Itoa(r.IntN(most + 1)) }
	lines := []string{
		"new " + number(4) + " " + number(6), "first " + series, "second " + series, "value " + words[r.IntN(len(words))], "bracket " + words[r.IntN(len(words))],
		"power " + number(14), "scale " + number(5), "scale " + number(110), "area " + number(2) + " " + number(3),
		"path " + textOfSteps(randomPath(r, letters, r.IntN(impl.MaxSteps+3), 102)), "path " + textOfSteps(windingPath(r, letters, r.IntN(5), 5)),
		"path " + textOfSteps(randomPath(r, r.Int64N(impl.MaxLetter)+1, 2, 5)),
	}
	if r.IntN(2) == 0 {
		return lines[r.IntN(len(lines))]
	}
	return bareCommands[r.IntN(len(bareCommands))]
}

// disturbed returns a line in which a few bytes are put in, left out, or changed.
func disturbed(r *rand.Rand, line string) string {
	bytes := []byte(line)
	for range 1 + r.IntN(2) {
		put := "  0012-+,;/*xe\n\t\x00\xff"[r.IntN(18)]
		i := r.IntN(len(bytes) + 1)
		switch {
		case r.IntN(3) == 0 || i == len(bytes):
			bytes = slices.Insert(bytes, i, put)
		case r.IntN(2) == 0:
			bytes = slices.Delete(bytes, i, i+1)
		default:
			bytes[i] = put
		}
	}
	return string(bytes)
}

func TestLinesFollowTheModel(t *testing.T) {
	r := rand.New(rand.NewPCG(11, 1))
	m := newLineModel()
	right, wrong := map[string]int{}, map[string]int{}
	for range 12000 {
		d := randomDesk(t, r)
		line := randomLine(t, r, d)
		after, output := m.run(d, line)
		checkRun(t, d, line, output, after)
		name, _, _ := strings.Cut(line, " ")
		if output == "error" {
			wrong[name]++
		} else {
			right[name]++
		}
	}
	for _, name := range allCommands() {
		if right[name] < 40 {
			t.Errorf("%q was right %d times", name, right[name])
		}
		// The others take whatever is on a desk.
		mayFail := !slices.Contains([]string{"swap", "unit", "reversal", "antipode", "show", "other", "way", "turn", "reset", "first", "second", "value"}, name)
		if mayFail != (wrong[name] > 0) {
			t.Errorf("%q was wrong %d times", name, wrong[name])
		}
	}
}

func TestDisturbedLinesFollowTheModel(t *testing.T) {
	r := rand.New(rand.NewPCG(11, 2))
	m := newLineModel()
	right, wrong := 0, 0
	for range 12000 {
		d := randomDesk(t, r)
		line := disturbed(r, randomLine(t, r, d))
		after, output := m.run(d, line)
		checkRun(t, d, line, output, after)
		if output == "error" {
			wrong++
		} else {
			right++
		}
	}
	if min(right, wrong) < 200 {
		t.Errorf("%d disturbed lines were right, and %d wrong", right, wrong)
	}
}

// randomText returns the lines of a text within the limits, some of which are empty, or wrong.
func randomText(t *testing.T, r *rand.Rand) []string {
	d := impl.NewDesk()
	var lines []string
	length := 0
	for range r.IntN(impl.MaxLines + 1) {
		line := randomLine(t, r, d)
		switch r.IntN(8) {
		case 0:
			line = ""
		case 1:
			line = strings.ReplaceAll(disturbed(r, line), "\n", "")
		}
		if length += len(line) + 1; length > impl.MaxConsole {
			break
		}
		lines = append(lines, line)
		if line != "" {
			d, _ = impl.RunLine(d, line)
		}
	}
	return lines
}

func TestConsolesFollowTheModel(t *testing.T) {
	r := rand.New(rand.NewPCG(11, 3))
	m := newLineModel()
	run := 0
	for range 400 {
		lines := randomText(t, r)
		d, outputs := deskOf(t, "2 2|0|0|none"), ""
		for _, line := range lines {
			if line != "" {
				next, output := m.run(d, line)
				d, outputs = next, outputs+output+"\n"
				run++
			}
		}
		text := strings.Join(lines, "\n")
		checkConsole(t, text, outputs, d)
		if text != "" {
			checkConsole(t, text+"\n", outputs, d)
		}
	}
	if run < 2000 {
		t.Errorf("only %d lines were run", run)
	}
}

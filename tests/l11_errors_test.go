package tests

import (
	"strings"
	"testing"

	"loop.example/g01260/impl"
)

// checkAllWrong requires the output error of lines on a desk, and an unchanged desk after each one.
func checkAllWrong(t *testing.T, desk string, lines ...string) {
	t.Helper()
	d := deskOf(t, desk)
	if !impl.IsDesk(d) {
		t.Fatalf("%q is no desk", desk)
	}
	for _, line := range lines {
		checkWrong(t, d, line)
	}
}

// checkCode requires a code, as that for which the lines behind it have the output error.
func checkCode(t *testing.T, name string, code int64, want int64) {
	t.Helper()
	if code != want {
		t.Errorf("the code of %s is %d, want %d", name, code, want)
	}
}

func TestNewDesksOutOfRange(t *testing.T) {
	checkAllWrong(t, used, "new 0 2", "new 4 2", "new 2 0", "new 2 6", "new 1 0", "new 1 6", "new 3 0", "new 3 5", "new 3 6", "new 0 0", "new 5 4", "new 999999999 1", "new 1 999999999", "new 999999999 999999999")
}

func TestTextsOfNoSeries(t *testing.T) {
	texts := []string{
		"", " ", "x", "1", "1/1", "*", "*0", "1*0", "/1*0", "1/*0", "1/0*0", "0/1*0", "2/2*0", "01/1*0", "+1/1*0", "-0/1*0", "1/-1*0", "1000000001/1*0", "1/1000000001*0",
		"1/1*0+", "+", "1/1*0++1/1*1", "1/1*1+1/1*0", "1/1*0+1/1*0", "1/1*0+1/1*", "00", "-0", "+0", "0/1", "0/1*", "1/1*0+0",
		" 1/1*0", "1/1*0 ", "1/1*0 +1/1*1", "1/1*0+ 1/1*1", "1/1*0 1/1*1", "1/1*0 1", "0 ", " 0", "0 0", "1/1*0\r", "1/1*0\n", "1/1*0;", "1/1*0\x00", "1/1*\xff",
		// Letters and lengths that the desk does not have.
		"1/1*2", "1/1*0+1/1*2", "1/1*02", "1/1*000", "1/1*0+1/1*111", "1/1*00000",
	}
	for _, text := range texts {
		checkAllWrong(t, used, "first "+text, "second "+text)
	}
	checkAllWrong(t, "1 1|1/1*0|1/1*|5", "first 1/1*1", "second 1/1*1", "first 1/1*00", "second 1/1*00")
	checkAllWrong(t, "3 4|1/1*0|1/1*|5,5,5", "first 1/1*3", "second 1/1*3", "first 1/1*00000", "second 1/1*00000")
	checkAllWrong(t, "1 5|1/1*0|1/1*|5", "first 1/1*000000", "second 1/1*000000", "first 1/1*1", "second 1/1*00001")
}

func TestTextsOfNoPath(t *testing.T) {
	checkAllWrong(t, used,
		"path ", "path  ", "path x", "path none ", "path  none", "path None", "path NONE", "path non", "path nonee", "path none;none", "path none;1,0", "path 1,0;none", "path ;", "path ,", "path 0",
		"path 1", "path 1,", "path ,1", "path 1,2,3", "path 1,2;", "path ;1,2", "path 1,2;;3,4", "path 1,2;3", "path 1;2,3", "path 1,2;3,4,5", "path 1,2,3;4,5", "path 1,2,", "path ,1,2", "path 1,,2",
		"path -0,1", "path 1,-0", "path +1,0", "path 1,+0", "path 01,0", "path 0,00", "path -01,0", "path 1,0;0,-0", "path --1,0", "path -,0", "path 1-,0", "path 1.0,0", "path 1_0,0", "path 0x1,0", "path 1e1,0", "path a,b",
		"path 101,0", "path 0,101", "path -101,0", "path 0,-101", "path 1,1;1,101", "path 1,1;-101,1;1,1", "path 1000000000,0", "path 9223372036854775807,0", "path -9223372036854775808,0", "path 9223372036854775808,0", "path 18446744073709551617,0", "path 1,"+strings.Repeat("9", 100),
		"path 1, 0", "path 1 ,0", "path 1,0 ", "path  1,0", "path 1,0; 0,1", "path 1,0 ;0,1", "path 1,0 0,1", "path 1 0", "path 1,0\n", "path 1,0\r", "path 1,0\t", "path\t1,0", "path 1:0", "path 1,0\x00", "path 1,\xff", "path [1,0]", "path \uff11,0")
	checkAllWrong(t, "1 2|1/1*0|0|5", "path 1,0", "path 1;1,0", "path ;", "path 1;", "path 101", "path 5;-101", "path -0", "path 0;-0")
	checkAllWrong(t, "3 2|1/1*0|0|5,5,5", "path 1", "path 1,0", "path 1,0,0,0", "path 1,0,0;1,0", "path 1,0,0;;", "path 0,0,101", "path 1,2,-101", "path 0,0,-0")
	for d, step := range []string{"1", "1,2", "1,2,3"} {
		many := strings.Repeat(step+";", impl.MaxSteps) + step
		desk := impl.Desk{First: unitOf(int64(d)+1, 2), Second: unitOf(int64(d)+1, 2), Path: path{flatStep(int64(d)+1, 7)}}
		checkWrong(t, desk, "path "+many)
		checkWrong(t, desk, "path "+many+";"+many)
	}
}

func TestTextsOfPaths(t *testing.T) {
	for _, c := range []struct {
		d    int64
		text string
	}{
		{1, "none"}, {2, "none"}, {3, "none"}, {1, "0"}, {1, "5"}, {1, "-5"}, {1, "100"}, {1, "-100"}, {1, "99;-99;10;-1;0"},
		{2, "0,0"}, {2, "100,-100"}, {2, "-100,100;0,0;1,-1"}, {3, "0,0,0"}, {3, "100,100,100;-100,-100,-100"}, {3, "1,2,3"},
		{1, strings.TrimSuffix(strings.Repeat("1;", impl.MaxSteps), ";")}, {1, strings.TrimSuffix(strings.Repeat("-100;", impl.MaxSteps), ";")},
		{2, strings.TrimSuffix(strings.Repeat("0,0;", impl.MaxSteps), ";")}, {3, strings.TrimSuffix(strings.Repeat("100,-7,0;", impl.MaxSteps), ";")},
	} {
		for _, before := range []path{nil, {flatStep(c.d, 7)}, repeated(impl.MaxSteps, flatStep(c.d, -1)...)} {
			d := impl.Desk{First: mixedSeries(c.d, 2, 3, 4), Second: unitOf(c.d, 2), Path: before}
			after := impl.Desk{First: d.First, Second: d.Second, Path: stepsOf(t, c.text)}
			checkRun(t, d, "path "+c.text, c.text, after)
			checkRun(t, after, "way", c.text, after)
		}
	}
}

func TestSumsThatDoNotFit(t *testing.T) {
	const large = "2 2|1000000000/1*0|1/1*0+1/1*1|none"
	checkAllWrong(t, large, "plus")
	x, y := seriesOf(t, 2, 2, "1000000000/1*0"), seriesOf(t, 2, 2, "1/1*0+1/1*1")
	_, code := impl.AddSeries(x, y)
	checkCode(t, "AddSeries", code, impl.ErrLimit)
	checkAllWrong(t, "2 2|-1000000000/1*|-1/1*|none", "plus")
	checkAllWrong(t, "2 2|1/999999999*01|1/1000000000*01|1,0", "plus")
}

func TestProductsThatDoNotFit(t *testing.T) {
	const large = "2 2|31623/1*0|31623/1*1|1,0"
	checkAllWrong(t, large, "times", "commutator", "power 2", "power 12", "exp")
	x, y := seriesOf(t, 2, 2, "31623/1*0"), seriesOf(t, 2, 2, "31623/1*1")
	_, code := impl.MultiplySeries(x, y)
	checkCode(t, "MultiplySeries", code, impl.ErrLimit)
	_, code = impl.CommutatorOf(x, y)
	checkCode(t, "CommutatorOf", code, impl.ErrLimit)
	_, code = impl.PowerSeries(x, 2)
	checkCode(t, "PowerSeries", code, impl.ErrLimit)
	_, code = impl.ExponentialOf(x)
	checkCode(t, "ExponentialOf", code, impl.ErrLimit)
	// Powers that fit are not held back by greater ones.
	checkLines(t, []lineCase{{large, "power 0", "1/1*", "2 2|1/1*|31623/1*1|1,0"}, {large, "power 1", "31623/1*0", ""}})
}

func TestPowersOutOfRange(t *testing.T) {
	checkAllWrong(t, used, "power 13", "power 14", "power 100", "power 999999999")
	checkAllWrong(t, "1 1|1/1*|0|none", "power 13", "power 999999999")
	_, code := impl.PowerSeries(unitOf(1, 1), 13)
	checkCode(t, "PowerSeries", code, impl.ErrRange)
}

func TestInversesExponentialsAndLogarithmsOfWrongSeries(t *testing.T) {
	checkAllWrong(t, used, "inverse", "log")
	checkAllWrong(t, "2 2|0|1/1*|none", "inverse", "log")
	checkAllWrong(t, "2 2|1/1*+1/1*0|0|none", "exp")
	checkAllWrong(t, "2 2|-1/1*+1/1*0|0|none", "exp", "log")
	checkAllWrong(t, "2 2|1/2*|0|none", "exp", "log")
	for name, do := range map[string]func(x impl.Series) (impl.Series, int64){"InverseSeries": impl.InverseSeries, "LogarithmOf": impl.LogarithmOf} {
		_, code := do(seriesOf(t, 2, 2, "1/1*0"))
		checkCode(t, name, code, impl.ErrState)
		_, code = do(seriesOf(t, 2, 2, "1/1*+31623/1*0"))
		checkCode(t, name, code, impl.ErrLimit)
	}
	_, code := impl.ExponentialOf(seriesOf(t, 2, 2, "1/1*"))
	checkCode(t, "ExponentialOf", code, impl.ErrState)
	checkAllWrong(t, "2 2|1/1*+31623/1*0|0|none", "inverse", "log", "exp")
}

func TestValuesOutOfRange(t *testing.T) {
	checkAllWrong(t, used, "value 000", "value 2", "value 02", "value 20", "value x", "value  ", "value 0 ", "value  0", "value 0 1", "value -0", "value +0", "value 0\n", "value 0,1", "value \x00", "value \xff", "value \u0660", "value "+strings.Repeat("0", 1000))
	checkAllWrong(t, "1 5|1/1*0|0|none", "value 000000", "value 1", "value 01")
	checkAllWrong(t, "3 4|1/1*0|0|none", "value 00000", "value 3", "value 0123")
	_, code := impl.CoefficientOf(unitOf(2, 2), "000")
	checkCode(t, "CoefficientOf", code, impl.ErrRange)
}

func TestSeriesOfPathsThatDoNotFit(t *testing.T) {
	// Words of five letters have sums of products of five hundreds.
	hundreds := strings.TrimSuffix(strings.Repeat("100;", impl.MaxSteps), ";")
	p := repeated(impl.MaxSteps, 100)
	_, code := impl.SignatureOf(1, 5, p)
	checkCode(t, "SignatureOf", code, impl.ErrLimit)
	_, code = impl.StrictSeries(1, 5, p)
	checkCode(t, "StrictSeries", code, impl.ErrLimit)
	_, code = impl.WeakSeries(1, 5, p)
	checkCode(t, "WeakSeries", code, impl.ErrLimit)
	checkAllWrong(t, "1 5|1/1*0|1/1*|"+hundreds, "signature", "strict", "weak")
	checkAllWrong(t, "1 5|0|1/1*|100;100", "signature", "weak")
	checkLines(t, []lineCase{{"1 5|0|0|100;100", "strict", "1/1*+200/1*0+10000/1*00", "1 5|1/1*+200/1*0+10000/1*00|0|100;100"}})
}

func TestPathsThatDoNotFit(t *testing.T) {
	checkAllWrong(t, "2 2|1/1*0|0|100,0;1,0", "reduce")
	checkAllWrong(t, "1 2|1/1*0|0|-60;-60;100", "reduce")
	_, code := impl.ReducePath(2, path{{100, 0}, {1, 0}})
	checkCode(t, "ReducePath", code, impl.ErrLimit)
	checkAllWrong(t, used, "scale 51", "scale 100", "scale 101", "scale 1000", "scale 999999999")
	checkAllWrong(t, "1 1|0|0|none", "scale 101", "scale 999999999")
	checkAllWrong(t, "1 1|0|0|0;0", "scale 101")
	checkAllWrong(t, "1 1|0|0|-2", "scale 51")
	_, code = impl.ScalePath(2, path{{2, 2}}, 51)
	checkCode(t, "ScalePath", code, impl.ErrLimit)
	_, code = impl.ScalePath(1, nil, 101)
	checkCode(t, "ScalePath", code, impl.ErrRange)
}

func TestAreasOutOfRange(t *testing.T) {
	checkAllWrong(t, used, "area 0 2", "area 2 0", "area 2 2", "area 3 0", "area 999999999 0", "area 0 999999999")
	checkAllWrong(t, "1 1|0|0|5;7", "area 0 1", "area 1 0", "area 1 1")
	checkAllWrong(t, "3 1|0|0|none", "area 0 3", "area 3 0")
	_, code := impl.DoubleArea(2, nil, 0, 2)
	checkCode(t, "DoubleArea", code, impl.ErrRange)
}

func TestLieSeriesThatAreNone(t *testing.T) {
	for _, text := range []string{"1/1*", "1/1*+1/1*0", "1/1*01", "1/1*0+1/1*10", "1/1*00", "1/1*01+1/1*10", used} {
		desk := "2 2|" + text + "|1/1*|1,0"
		if text == used {
			desk = used
		}
		checkAllWrong(t, desk, "lie")
	}
	_, code := impl.LieCoordinates(seriesOf(t, 2, 2, "1/1*01"))
	checkCode(t, "LieCoordinates", code, impl.ErrState)
	// Twice the coordinate at 001 would stand at 010.
	_, code = impl.LieCoordinates(seriesOf(t, 2, 3, "1000000000/1*001"))
	checkCode(t, "LieCoordinates", code, impl.ErrLimit)
	checkAllWrong(t, "2 3|1000000000/1*001|0|none", "lie")
}

func TestJoinedSeriesAndDynkinMapsThatDoNotFit(t *testing.T) {
	checkAllWrong(t, "2 2|1/1*+1/1*0|1/1*1|1,0", "join")
	checkAllWrong(t, "2 2|1/1*0|1/1*+1/1*1|1,0", "join")
	checkAllWrong(t, "2 2|31623/1*0|31623/1*1|1,0", "join")
	_, code := impl.JoinedSeries(seriesOf(t, 2, 2, "1/1*0"), unitOf(2, 2))
	checkCode(t, "JoinedSeries", code, impl.ErrState)
	_, code = impl.JoinedSeries(seriesOf(t, 2, 2, "31623/1*0"), seriesOf(t, 2, 2, "31623/1*1"))
	checkCode(t, "JoinedSeries", code, impl.ErrLimit)
	checkAllWrong(t, "2 2|1/1000000000*01|0|1,0", "dynkin")
	_, code = impl.DynkinMap(seriesOf(t, 2, 2, "1/1000000000*01"))
	checkCode(t, "DynkinMap", code, impl.ErrLimit)
}

func TestBracketsOfWrongWords(t *testing.T) {
	checkAllWrong(t, used, "bracket ", "bracket 00", "bracket 10", "bracket 11", "bracket 001", "bracket 2", "bracket 02", "bracket x", "bracket  ", "bracket 01 ", "bracket  01", "bracket 0 1", "bracket [0,1]", "bracket 0\n", "bracket \xff", "bracket "+strings.Repeat("0", 1000)+"1")
	checkAllWrong(t, "1 5|1/1*|0|none", "bracket 1", "bracket 00", "bracket 01")
	checkAllWrong(t, "3 4|1/1*|0|none", "bracket 3", "bracket 00001", "bracket 0101", "bracket 210")
	for word, want := range map[string]int64{"": impl.ErrState, "10": impl.ErrState, "001": impl.ErrRange, "2": impl.ErrInvalid} {
		_, code := impl.BracketOf(2, 2, word)
		checkCode(t, "BracketOf "+word, code, want)
	}
}

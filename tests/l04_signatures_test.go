package tests

import (
	"testing"

	"loop.example/g01260/impl"
)

// signatureCase is a path with the text of its signature, or of another series that it has.
type signatureCase struct {
	d, n int64
	p    path
	want string
}

func TestStepSignature(t *testing.T) {
	for _, c := range []struct {
		d, n int64
		step []int64
		want string
	}{
		{1, 1, []int64{0}, "1/1*"},
		{3, 4, []int64{0, 0, 0}, "1/1*"},
		{1, 1, []int64{5}, "1/1*+5/1*0"},
		{1, 5, []int64{1}, "1/1*+1/1*0+1/2*00+1/6*000+1/24*0000+1/120*00000"},
		{1, 5, []int64{-2}, "1/1*+-2/1*0+2/1*00+-4/3*000+2/3*0000+-4/15*00000"},
		{2, 2, []int64{1, 0}, "1/1*+1/1*0+1/2*00"},
		{2, 2, []int64{0, 1}, "1/1*+1/1*1+1/2*11"},
		{2, 2, []int64{2, -3}, "1/1*+2/1*0+-3/1*1+2/1*00+-3/1*01+-3/1*10+9/2*11"},
		{3, 1, []int64{7, 0, -8}, "1/1*+7/1*0+-8/1*2"},
		{3, 2, []int64{0, 1, 4}, "1/1*+1/1*1+4/1*2+1/2*11+2/1*12+2/1*21+8/1*22"},
		{3, 3, []int64{0, 0, 6}, "1/1*+6/1*2+18/1*22+36/1*222"},
	} {
		x, code := impl.StepSignature(c.d, c.n, c.step)
		checkSeries(t, "StepSignature", x, code, c.d, c.n, c.want)
		x, code = impl.SignatureOf(c.d, c.n, path{c.step})
		checkSeries(t, "SignatureOf a step", x, code, c.d, c.n, c.want)
	}
}

func TestSignatureOf(t *testing.T) {
	for _, c := range []signatureCase{
		{1, 1, nil, "1/1*"},
		{2, 5, path{}, "1/1*"},
		{3, 4, nil, "1/1*"},
		{3, 4, repeated(12, 0, 0, 0), "1/1*"},
		{2, 2, path{{1, 0}, {0, 1}}, "1/1*+1/1*0+1/1*1+1/2*00+1/1*01+1/2*11"},
		{2, 2, path{{0, 1}, {1, 0}}, "1/1*+1/1*0+1/1*1+1/2*00+1/1*10+1/2*11"},
		{2, 3, path{{1, 0}, {0, 1}}, "1/1*+1/1*0+1/1*1+1/2*00+1/1*01+1/2*11+1/6*000+1/2*001+1/2*011+1/6*111"},
		{1, 3, path{{1}, {1}}, "1/1*+2/1*0+2/1*00+4/3*000"},
		{1, 3, path{{1}, {-1}}, "1/1*"},
		{2, 2, path{{1, 0}, {0, 1}, {-1, 0}, {0, -1}}, "1/1*+1/1*01+-1/1*10"},
		{3, 2, path{{0, 0, 2}, {3, 0, 0}}, "1/1*+3/1*0+2/1*2+9/2*00+6/1*20+2/1*22"},
		{3, 3, path{{1, 0, 0}, {0, 1, 0}, {0, 0, 1}},
			"1/1*+1/1*0+1/1*1+1/1*2+1/2*00+1/1*01+1/1*02+1/2*11+1/1*12+1/2*22+1/6*000+1/2*001+1/2*002" +
				"+1/2*011+1/1*012+1/2*022+1/6*111+1/2*112+1/2*122+1/6*222"},
		{1, 1, repeated(12, 100), "1/1*+1200/1*0"},
		{2, 1, repeated(12, -100, 100), "1/1*+-1200/1*0+1200/1*1"},
	} {
		x, code := impl.SignatureOf(c.d, c.n, c.p)
		checkSeries(t, "SignatureOf", x, code, c.d, c.n, c.want)
	}
}

func TestLogSignature(t *testing.T) {
	for _, c := range []signatureCase{
		{1, 1, nil, "0"},
		{3, 4, path{}, "0"},
		{2, 5, repeated(12, 0, 0), "0"},
		{1, 5, path{{7}}, "7/1*0"},
		{1, 5, path{{7}, {-7}}, "0"},
		{1, 5, path{{3}, {4}}, "7/1*0"},
		{3, 4, path{{1, -2, 3}}, "1/1*0+-2/1*1+3/1*2"},
		{2, 1, path{{1, 0}, {0, 1}}, "1/1*0+1/1*1"},
		{2, 2, path{{1, 0}, {0, 1}}, "1/1*0+1/1*1+1/2*01+-1/2*10"},
		{2, 2, path{{0, 1}, {1, 0}}, "1/1*0+1/1*1+-1/2*01+1/2*10"},
		{2, 3, path{{1, 0}, {0, 1}},
			"1/1*0+1/1*1+1/2*01+-1/2*10+1/12*001+-1/6*010+1/12*011+1/12*100+-1/6*101+1/12*110"},
		{2, 2, path{{1, 0}, {0, 1}, {-1, 0}, {0, -1}}, "1/1*01+-1/1*10"},
		{3, 2, path{{0, 0, 2}, {3, 0, 0}}, "3/1*0+2/1*2+-3/1*02+3/1*20"},
	} {
		x, code := impl.LogSignature(c.d, c.n, c.p)
		checkSeries(t, "LogSignature", x, code, c.d, c.n, c.want)
	}
}

func TestMeanSignature(t *testing.T) {
	for _, c := range []struct {
		d, n  int64
		steps path
		k     int64
		want  string
	}{
		{1, 1, path{{1}}, 0, "1/1*"},
		{2, 5, path{{1, 2}, {3, 4}}, 0, "1/1*"},
		{1, 2, path{{1}}, 1, "1/1*+1/1*0+1/2*00"},
		{1, 2, path{{1}}, 8, "1/1*+8/1*0+32/1*00"},
		{1, 2, path{{1}, {1}}, 1, "1/1*+1/1*0+1/2*00"},
		{1, 2, path{{1}, {-1}}, 1, "1/1*+1/2*00"},
		{1, 4, path{{1}, {-1}}, 2, "1/1*+1/1*00+1/3*0000"},
		{1, 2, path{{1}, {-1}}, 8, "1/1*+4/1*00"},
		{1, 2, path{{0}}, 8, "1/1*"},
		{1, 2, path{{0}, {3}, {0}}, 1, "1/1*+1/1*0+3/2*00"},
		{1, 2, path{{0}, {3}, {0}}, 2, "1/1*+2/1*0+4/1*00"},
		{2, 1, path{{1, 0}, {0, 1}}, 2, "1/1*+1/1*0+1/1*1"},
		{2, 2, path{{1, 0}, {0, 1}}, 1, "1/1*+1/2*0+1/2*1+1/4*00+1/4*11"},
		{2, 2, path{{1, 0}, {0, 1}}, 2, "1/1*+1/1*0+1/1*1+3/4*00+1/4*01+1/4*10+3/4*11"},
		// Means of steps are not steps of means.
		{2, 2, path{{1, 1}}, 1, "1/1*+1/1*0+1/1*1+1/2*00+1/2*01+1/2*10+1/2*11"},
		{3, 2, path{{1, 0, 0}, {0, 1, 0}, {0, 0, 1}}, 1, "1/1*+1/3*0+1/3*1+1/3*2+1/6*00+1/6*11+1/6*22"},
		{3, 1, path{{1, 0, 0}, {0, 1, 0}, {0, 0, 1}}, 8, "1/1*+8/3*0+8/3*1+8/3*2"},
		{1, 1, repeated(12, 100), 8, "1/1*+800/1*0"},
		{1, 1, append(repeated(11, 0), []int64{1}), 1, "1/1*+1/12*0"},
	} {
		x, code := impl.MeanSignature(c.d, c.n, c.steps, c.k)
		checkSeries(t, "MeanSignature", x, code, c.d, c.n, c.want)
	}
}

func TestAreSignaturesEqual(t *testing.T) {
	for _, c := range []struct {
		d, n int64
		a, b path
		want bool
	}{
		{1, 1, nil, path{}, true},
		{3, 4, nil, path{{0, 0, 0}}, true},
		{1, 1, nil, path{{1}}, false},
		{1, 5, path{{1}, {-1}}, nil, true},
		{1, 5, path{{1}, {2}}, path{{3}}, true},
		{1, 5, path{{1}, {2}}, path{{2}, {1}}, true},
		{1, 1, path{{1}}, path{{-1}}, false},
		{1, 1, path{{1}}, path{{2}}, false},
		{2, 1, path{{1, 0}}, path{{0, 1}}, false},
		{2, 1, path{{1, 0}, {0, 1}}, path{{0, 1}, {1, 0}}, true},
		{2, 2, path{{1, 0}, {0, 1}}, path{{0, 1}, {1, 0}}, false},
		{2, 1, path{{1, 0}, {0, 1}}, path{{1, 1}}, true},
		{2, 2, path{{1, 0}, {0, 1}}, path{{1, 1}}, false},
		{3, 4, path{{1, 2, 3}, {4, 5, 6}}, path{{1, 2, 3}, {4, 5, 6}}, true},
		{3, 1, path{{1, 2, 3}, {4, 5, 6}}, path{{1, 2, 3}, {4, 5, 7}}, false},
		// Paths of the same end and area that differ at the level 3.
		{2, 2, path{{1, 0}, {0, 2}, {1, 0}}, path{{0, 1}, {2, 0}, {0, 1}}, true},
		{2, 3, path{{1, 0}, {0, 2}, {1, 0}}, path{{0, 1}, {2, 0}, {0, 1}}, false},
		// One signature has the first terms of the other one.
		{2, 2, path{{1, 0}}, path{{1, 0}, {0, 1}, {1, 0}, {0, -1}, {-1, 0}}, false},
	} {
		for _, pair := range [][2]path{{c.a, c.b}, {c.b, c.a}} {
			got, code := impl.AreSignaturesEqual(c.d, c.n, pair[0], pair[1])
			if got != c.want || code != impl.ErrNone {
				t.Errorf("AreSignaturesEqual(%d, %d, %v, %v) = %v, %d", c.d, c.n, pair[0], pair[1], got, code)
			}
		}
	}
}

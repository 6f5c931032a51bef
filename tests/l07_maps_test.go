package tests

import (
	"math"
	"testing"

	"loop.example/g01260/impl"
)

// rowList is the rows of a map, or a list that may be none.
type rowList = [][]int64

// flatRows returns rows of a map from d to e letters with the same number everywhere.
func flatRows(d int64, e int64, number int64) rowList {
	return repeated(int(d), flatStep(e, number)...)
}

// unitMap returns the map that leads each letter to itself.
func unitMap(d int64) rowList {
	m := flatRows(d, d, 0)
	for i := range m {
		m[i][i] = 1
	}
	return m
}

// namedMap is a list with numbers of letters for which it may be no map.
type namedMap struct {
	name string
	d, e int64
	rows rowList
}

// notMapsOf returns what is no map from d to e letters, with d and e in their ranges, by what is wrong
// with it.
func notMapsOf(d int64, e int64) []namedMap {
	list := []namedMap{
		{"no rows", d, e, nil},
		{"no rows but a list", d, e, rowList{}},
		{"a row too few", d, e, flatRows(d-1, e, 1)},
		{"a row too much", d, e, flatRows(d+1, e, 1)},
		{"an empty row too much", d, e, append(flatRows(d, e, 1), nil)},
		{"many rows", d, e, flatRows(1000, e, 0)},
		{"rows too short", d, e, flatRows(d, e-1, 1)},
		{"rows too long", d, e, flatRows(d, e+1, 1)},
		{"long rows", d, e, flatRows(d, 1000, 0)},
	}
	for i := range d {
		for name, row := range map[string][]int64{
			"a nil row": nil, "an empty row": {}, "a row too short": flatStep(e-1, 0), "a row too long": flatStep(e+1, 0),
		} {
			m := flatRows(d, e, impl.MaxMapped)
			m[i] = row
			list = append(list, namedMap{name, d, e, m})
		}
		for k := range e {
			for _, number := range []int64{impl.MaxMapped + 1, -impl.MaxMapped - 1, math.MaxInt64, math.MinInt64, math.MinInt64 + 1} {
				m := flatRows(d, e, 0)
				m[i][k] = number
				list = append(list, namedMap{"too great a number", d, e, m})
			}
		}
	}
	return list
}

// eachPair calls a function for all numbers of letters of a map.
func eachPair(do func(d int64, e int64)) {
	for d := int64(1); d <= impl.MaxLetter; d++ {
		for e := int64(1); e <= impl.MaxLetter; e++ {
			do(d, e)
		}
	}
}

// notMaps returns what is no map, also because numbers of letters are out of their ranges.
func notMaps() []namedMap {
	var list []namedMap
	eachPair(func(d int64, e int64) { list = append(list, notMapsOf(d, e)...) })
	for _, bad := range badLetters() {
		for k := int64(1); k <= impl.MaxLetter; k++ {
			size := max(0, min(bad, 4))
			for _, m := range []rowList{nil, {}, flatRows(size, k, 1), flatRows(k, size, 1), flatRows(k, k, 0)} {
				list = append(list, namedMap{"letters out of range", bad, k, m}, namedMap{"letters out of range", k, bad, m},
					namedMap{"both out of range", bad, bad, m})
			}
		}
	}
	return list
}

func TestIsMap(t *testing.T) {
	if impl.MaxMapped != 100 {
		t.Errorf("MaxMapped = %d", impl.MaxMapped)
	}
	for _, bad := range notMaps() {
		if impl.IsMap(bad.d, bad.e, bad.rows) {
			t.Errorf("IsMap(%d, %d, %v), %s", bad.d, bad.e, bad.rows, bad.name)
		}
	}
	eachPair(func(d int64, e int64) {
		for _, number := range []int64{0, 1, -1, impl.MaxMapped, -impl.MaxMapped} {
			for rows := int64(0); rows <= 4; rows++ {
				for width := int64(0); width <= 4; width++ {
					m := flatRows(rows, width, number)
					if got := impl.IsMap(d, e, m); got != (rows == d && width == e) {
						t.Errorf("IsMap(%d, %d, %v) = %v", d, e, m, got)
					}
				}
			}
		}
	})
	for _, c := range []namedMap{
		{"", 1, 1, rowList{{7}}}, {"", 2, 1, rowList{{100}, {-100}}}, {"", 1, 3, rowList{{100, 0, -100}}},
		{"", 3, 2, rowList{{1, 2}, {0, 0}, {-3, 99}}}, {"", 3, 3, rowList{{0, 0, 1}, {0, 1, 0}, {1, 0, 0}}},
	} {
		if !impl.IsMap(c.d, c.e, c.rows) {
			t.Errorf("IsMap(%d, %d, %v) = false", c.d, c.e, c.rows)
		}
	}
}

func TestMapPath(t *testing.T) {
	for _, c := range []struct {
		d, e    int64
		m       rowList
		p, want path
	}{
		{1, 1, rowList{{5}}, nil, nil},
		{3, 2, flatRows(3, 2, 100), path{}, nil},
		{1, 1, rowList{{5}}, path{{3}, {-20}, {0}}, path{{15}, {-100}, {0}}},
		{1, 3, rowList{{1, 2, -3}}, path{{4}, {-1}}, path{{4, 8, -12}, {-1, -2, 3}}},
		{3, 1, rowList{{1}, {2}, {-3}}, path{{4, 5, 6}, {1, 0, 0}, {0, 1, 0}, {0, 0, 1}}, path{{-4}, {1}, {2}, {-3}}},
		{2, 2, rowList{{0, 1}, {1, 0}}, path{{1, 2}, {-3, 4}}, path{{2, 1}, {4, -3}}},
		{2, 2, rowList{{1, 2}, {3, 4}}, path{{1, 0}, {0, 1}, {5, -6}}, path{{1, 2}, {3, 4}, {-13, -14}}},
		{2, 3, rowList{{1, 2, 3}, {4, 5, 6}}, path{{1, 1}, {10, -1}}, path{{5, 7, 9}, {6, 15, 24}}},
		{3, 2, rowList{{1, 2}, {3, 4}, {5, 6}}, path{{1, -1, 1}, {7, 0, 2}}, path{{3, 4}, {17, 26}}},
		{3, 3, flatRows(3, 3, 0), path{{100, 100, 100}, {1, 2, 3}}, path{{0, 0, 0}, {0, 0, 0}}},
		{2, 2, unitMap(2), repeated(12, 100, -100), repeated(12, 100, -100)},
		// Steps of zeros stay, and parallel ones are not put together.
		{2, 1, rowList{{1}, {0}}, path{{0, 5}, {1, 5}, {2, -5}}, path{{0}, {1}, {2}}},
		// Numbers on the way to a step may be greater than those of steps.
		{2, 1, rowList{{100}, {100}}, path{{100, -99}}, path{{100}}},
		{3, 1, rowList{{100}, {100}, {-100}}, path{{50, 50, 100}, {-50, -50, -99}}, path{{0}, {-100}}},
		{1, 1, rowList{{2}}, path{{50}, {-50}}, path{{100}, {-100}}},
		{1, 1, rowList{{100}}, path{{1}}, path{{100}}},
		{1, 2, rowList{{1, -100}}, path{{1}}, path{{1, -100}}},
	} {
		got, code := impl.MapPath(c.d, c.p, c.e, c.m)
		checkPath(t, "MapPath", got, code, c.want)
	}
}

func TestMappedPathsAreTooGreat(t *testing.T) {
	for _, c := range []struct {
		d, e int64
		m    rowList
		p    path
	}{
		{1, 1, rowList{{2}}, path{{51}}},
		{1, 1, rowList{{2}}, path{{-51}}},
		{1, 1, rowList{{-100}}, path{{100}}},
		{2, 1, rowList{{1}, {1}}, path{{100, 1}}},
		{2, 1, rowList{{-1}, {1}}, path{{100, -1}}},
		{1, 3, rowList{{1, 1, 2}}, path{{51}}},
		{1, 3, rowList{{-2, 1, 1}}, path{{51}}},
		{3, 1, rowList{{1}, {1}, {1}}, path{{50, 50, 1}}},
		{3, 1, rowList{{100}, {100}, {-100}}, path{{50, 50, 100}, {-50, -50, -98}}},
		// One step of many is enough.
		{2, 2, rowList{{1, 0}, {1, 1}}, path{{1, 2}, {100, 1}, {0, 0}}},
		{2, 2, rowList{{1, 0}, {0, 2}}, append(repeated(11, 1, 1), []int64{0, 51})},
		{3, 3, flatRows(3, 3, 100), repeated(12, 100, 100, 100)},
	} {
		got, code := impl.MapPath(c.d, c.p, c.e, c.m)
		checkPathError(t, "MapPath", got, code, impl.ErrLimit)
	}
}

// composition is two maps with their composition, or with none if it is none.
type composition struct {
	d, e, f             int64
	first, second, want rowList
}

func TestComposeMaps(t *testing.T) {
	for _, c := range []composition{
		{1, 1, 1, rowList{{3}}, rowList{{-5}}, rowList{{-15}}},
		{1, 2, 1, rowList{{3, 4}}, rowList{{5}, {6}}, rowList{{39}}},
		{2, 1, 2, rowList{{3}, {4}}, rowList{{5, 6}}, rowList{{15, 18}, {20, 24}}},
		{2, 2, 2, rowList{{1, 2}, {3, 4}}, rowList{{5, 6}, {7, 8}}, rowList{{19, 22}, {43, 50}}},
		{2, 2, 2, rowList{{5, 6}, {7, 8}}, rowList{{1, 2}, {3, 4}}, rowList{{23, 34}, {31, 46}}},
		{3, 2, 1, rowList{{1, 2}, {3, 4}, {5, 6}}, rowList{{-1}, {1}}, rowList{{1}, {1}, {1}}},
		{1, 2, 3, rowList{{2, -1}}, rowList{{1, 2, 3}, {4, 5, 6}}, rowList{{-2, -1, 0}}},
		{1, 3, 2, rowList{{1, 10, -1}}, rowList{{1, 2}, {3, 4}, {5, 6}}, rowList{{26, 36}}},
		{3, 3, 3, unitMap(3), rowList{{1, 2, 3}, {4, 5, 6}, {-7, 8, 100}}, rowList{{1, 2, 3}, {4, 5, 6}, {-7, 8, 100}}},
		{3, 3, 3, rowList{{1, 2, 3}, {4, 5, 6}, {-7, 8, 100}}, unitMap(3), rowList{{1, 2, 3}, {4, 5, 6}, {-7, 8, 100}}},
		{3, 3, 3, rowList{{0, 1, 0}, {0, 0, 1}, {1, 0, 0}}, rowList{{0, 1, 0}, {0, 0, 1}, {1, 0, 0}}, rowList{{0, 0, 1}, {1, 0, 0}, {0, 1, 0}}},
		{2, 3, 1, flatRows(2, 3, 0), flatRows(3, 1, 100), flatRows(2, 1, 0)},
		{2, 3, 1, flatRows(2, 3, 100), flatRows(3, 1, 0), flatRows(2, 1, 0)},
		// At the limit, and beyond it by one.
		{1, 1, 1, rowList{{10}}, rowList{{10}}, rowList{{100}}}, {1, 1, 1, rowList{{10}}, rowList{{-10}}, rowList{{-100}}},
		{1, 1, 1, rowList{{1}}, rowList{{100}}, rowList{{100}}}, {1, 1, 1, rowList{{100}}, rowList{{100}}, nil},
		{1, 2, 1, rowList{{10, 1}}, rowList{{10}, {1}}, nil}, {1, 2, 1, rowList{{-10, 1}}, rowList{{10}, {-1}}, nil},
		{1, 2, 1, rowList{{10, 1}}, rowList{{10}, {-1}}, rowList{{99}}}, {1, 2, 1, rowList{{33, 1}}, rowList{{3}, {1}}, rowList{{100}}},
		{2, 2, 2, rowList{{1, 0}, {0, 1}}, rowList{{1, 0}, {0, 100}}, rowList{{1, 0}, {0, 100}}},
		{2, 2, 2, rowList{{1, 0}, {1, 1}}, rowList{{1, 1}, {0, 100}}, nil}, {2, 2, 2, rowList{{1, 1}, {1, 0}}, rowList{{1, -1}, {0, -100}}, nil},
		// Only on the way a number would be too great.
		{1, 2, 1, rowList{{100, -100}}, rowList{{100}, {99}}, rowList{{100}}}, {1, 2, 1, rowList{{-100, 100}}, rowList{{100}, {99}}, rowList{{-100}}},
		{3, 3, 3, flatRows(3, 3, 100), rowList{{100, 100, 100}, {-100, -50, 0}, {0, -50, -100}}, flatRows(3, 3, 0)},
	} {
		got, code := impl.ComposeMaps(c.d, c.e, c.f, c.first, c.second)
		if c.want == nil {
			checkPathError(t, "ComposeMaps", got, code, impl.ErrLimit)
			continue
		}
		checkPath(t, "ComposeMaps", got, code, c.want)
	}
}

func TestTransposeMap(t *testing.T) {
	for _, c := range []struct {
		d, e    int64
		m, want rowList
	}{
		{1, 1, rowList{{7}}, rowList{{7}}},
		{1, 2, rowList{{3, 4}}, rowList{{3}, {4}}},
		{3, 1, rowList{{1}, {2}, {3}}, rowList{{1, 2, 3}}},
		{2, 2, rowList{{1, 2}, {3, 4}}, rowList{{1, 3}, {2, 4}}},
		{2, 3, rowList{{1, 2, 3}, {4, 5, 6}}, rowList{{1, 4}, {2, 5}, {3, 6}}},
		{3, 2, rowList{{1, 2}, {3, 4}, {5, 6}}, rowList{{1, 3, 5}, {2, 4, 6}}},
		{3, 3, rowList{{1, 2, 3}, {4, 5, 6}, {7, 8, 9}}, rowList{{1, 4, 7}, {2, 5, 8}, {3, 6, 9}}},
		{3, 3, unitMap(3), unitMap(3)},
		{2, 3, flatRows(2, 3, -100), flatRows(3, 2, -100)},
		{2, 3, flatRows(2, 3, 0), flatRows(3, 2, 0)},
	} {
		got, code := impl.TransposeMap(c.d, c.e, c.m)
		checkPath(t, "TransposeMap", got, code, c.want)
		back, code := impl.TransposeMap(c.e, c.d, got)
		checkPath(t, "TransposeMap twice", back, code, c.m)
	}
}

package tests

import (
	"slices"
	"testing"

	"loop.example/g01260/impl"
)

// powerSumCase is a list and a composition with their power sum.
type powerSumCase struct {
	list, parts []int64
	want        int64
}

// checkPowerSums compares power sums with those that cases tell.
func checkPowerSums(t *testing.T, cases []powerSumCase) {
	t.Helper()
	for _, c := range cases {
		got, code := impl.PowerSum(c.list, c.parts)
		if got != c.want || code != impl.ErrNone {
			t.Errorf("PowerSum(%v, %v) = %d, %d, want %d", c.list, c.parts, got, code, c.want)
		}
	}
}

func TestPowerSum(t *testing.T) {
	oneToSix := []int64{1, 2, 3, 4, 5, 6}
	checkPowerSums(t, []powerSumCase{
		{nil, nil, 1}, {[]int64{}, []int64{}, 1}, {nil, []int64{1}, 0}, {nil, []int64{5, 5, 5, 5, 5, 5}, 0}, {[]int64{7}, nil, 1}, {[]int64{0}, nil, 1},
		{[]int64{5}, []int64{1}, 5}, {[]int64{5}, []int64{2}, 25}, {[]int64{5}, []int64{5}, 3125}, {[]int64{-5}, []int64{5}, -3125}, {[]int64{-5}, []int64{4}, 625},
		{[]int64{5}, []int64{1, 1}, 0}, {[]int64{0}, []int64{3}, 0}, {[]int64{0, 0, 0}, []int64{1, 2}, 0},
		{[]int64{1, 2}, []int64{1, 2}, 4}, {[]int64{2, 1}, []int64{1, 2}, 2}, {[]int64{1, 2}, []int64{2, 1}, 2}, {[]int64{1, 2}, []int64{1, 1, 1}, 0},
		{[]int64{1, 2, 3}, []int64{1, 1}, 11}, {[]int64{1, 2, 3}, []int64{2}, 14}, {[]int64{1, 2, 3}, []int64{1, 2}, 31}, {[]int64{1, 2, 3}, []int64{2, 1}, 17},
		{[]int64{1, 2, 3}, []int64{3, 2, 1}, 12}, {[]int64{1, 2, 3}, []int64{1, 2, 3}, 108}, {[]int64{-1, 2, -3}, []int64{3}, -20}, {[]int64{-1, 2, -3}, []int64{1, 2}, 5},
		{[]int64{0, 1, 0, 2, 0, 3, 0}, []int64{1, 2}, 31}, {[]int64{1, -1}, []int64{1}, 0}, {[]int64{1, -1}, []int64{2}, 2},
		{oneToSix, []int64{1, 1, 1, 1, 1, 1}, 720}, {oneToSix, []int64{1, 2, 3, 4, 5, 5}, 671846400000}, {oneToSix[:5], []int64{1, 1, 1, 1, 1, 1}, 0},
		{slices.Repeat([]int64{1}, impl.MaxSteps), []int64{1, 2, 3, 4, 5, 1}, 924}, {slices.Repeat([]int64{-1}, impl.MaxSteps), []int64{1, 1, 1, 1, 1}, -792},
		{[]int64{100}, []int64{5}, 10000000000}, {[]int64{-100}, []int64{5}, -10000000000}, {slices.Repeat([]int64{-100}, impl.MaxSteps), []int64{5}, -120000000000},
	})
}

// quasiCase are two compositions with what their quasi product is.
type quasiCase struct {
	u, v  []int64
	lists rowList
	ways  []int64
}

// checkQuasiProducts compares quasi products, in either order, with those that cases tell.
func checkQuasiProducts(t *testing.T, cases []quasiCase) {
	t.Helper()
	for _, c := range cases {
		for _, pair := range []rowList{{c.u, c.v}, {c.v, c.u}} {
			lists, ways, code := impl.QuasiProduct(pair[0], pair[1])
			if code != impl.ErrNone || !samePath(lists, c.lists) || !slices.Equal(ways, c.ways) {
				t.Errorf("QuasiProduct of %v = %v, %v, %d, want %v, %v", pair, lists, ways, code, c.lists, c.ways)
			}
		}
	}
}

func TestQuasiProduct(t *testing.T) {
	checkQuasiProducts(t, []quasiCase{
		{nil, nil, rowList{{}}, []int64{1}}, {[]int64{}, []int64{3}, rowList{{3}}, []int64{1}}, {[]int64{5, 1, 5, 1}, nil, rowList{{5, 1, 5, 1}}, []int64{1}},
		{[]int64{1}, []int64{2}, rowList{{1, 2}, {2, 1}, {3}}, []int64{1, 1, 1}},
		{[]int64{2}, []int64{1, 3}, rowList{{1, 2, 3}, {1, 3, 2}, {1, 5}, {2, 1, 3}, {3, 3}}, []int64{1, 1, 1, 1, 1}},
		{[]int64{1, 2}, []int64{3, 4}, rowList{
			{1, 2, 3, 4}, {1, 3, 2, 4}, {1, 3, 4, 2}, {1, 3, 6}, {1, 5, 4}, {3, 1, 2, 4}, {3, 1, 4, 2}, {3, 1, 6}, {3, 4, 1, 2}, {3, 5, 2}, {4, 2, 4}, {4, 4, 2}, {4, 6},
		}, []int64{1, 1, 1, 1, 1, 1, 1, 1, 1, 1, 1, 1, 1}},
		// Compositions that arise in several ways.
		{[]int64{1}, []int64{1}, rowList{{1, 1}, {2}}, []int64{2, 1}},
		{[]int64{1}, []int64{1, 1}, rowList{{1, 1, 1}, {1, 2}, {2, 1}}, []int64{3, 1, 1}},
		{[]int64{1}, []int64{1, 2}, rowList{{1, 1, 2}, {1, 2, 1}, {1, 3}, {2, 2}}, []int64{2, 1, 1, 1}},
		{[]int64{1, 1}, []int64{1, 1}, rowList{{1, 1, 1, 1}, {1, 1, 2}, {1, 2, 1}, {2, 1, 1}, {2, 2}}, []int64{6, 2, 2, 2, 1}},
		{[]int64{1, 2}, []int64{1, 2}, rowList{{1, 1, 2, 2}, {1, 1, 4}, {1, 2, 1, 2}, {1, 3, 2}, {2, 2, 2}, {2, 4}}, []int64{4, 2, 2, 2, 2, 1}},
		{[]int64{1, 2}, []int64{2, 1}, rowList{
			{1, 2, 1, 2}, {1, 2, 2, 1}, {1, 2, 3}, {1, 4, 1}, {2, 1, 1, 2}, {2, 1, 2, 1}, {2, 1, 3}, {2, 2, 2}, {3, 1, 2}, {3, 2, 1}, {3, 3},
		}, []int64{1, 2, 1, 1, 2, 1, 1, 1, 1, 1, 1}},
		// Parts that are greater than 5. They are ordered as numbers, and not as texts.
		{[]int64{5}, []int64{5}, rowList{{5, 5}, {10}}, []int64{2, 1}},
		{[]int64{5}, []int64{1}, rowList{{1, 5}, {5, 1}, {6}}, []int64{1, 1, 1}},
		{[]int64{4}, []int64{5, 5}, rowList{{4, 5, 5}, {5, 4, 5}, {5, 5, 4}, {5, 9}, {9, 5}}, []int64{1, 1, 1, 1, 1}},
		{[]int64{5, 2}, []int64{5}, rowList{{5, 2, 5}, {5, 5, 2}, {5, 7}, {10, 2}}, []int64{1, 2, 1, 1}},
	})
}

// The quasi product of the greatest compositions has all numbers of ways that there may be.
func TestGreatestQuasiProducts(t *testing.T) {
	for part := int64(1); part <= 5; part++ {
		four := slices.Repeat([]int64{part}, 4)
		lists, ways, code := impl.QuasiProduct(four, four)
		if code != impl.ErrNone || len(lists) == 0 || len(lists) != len(ways) {
			t.Fatalf("QuasiProduct of %v twice = %v, %v, %d", four, lists, ways, code)
		}
		sum := int64(0)
		for _, number := range ways {
			sum += number
		}
		last := len(lists) - 1
		if sum != 321 || !slices.Equal(lists[0], slices.Repeat([]int64{part}, 8)) || ways[0] != 70 || !slices.Equal(lists[last], slices.Repeat([]int64{2 * part}, 4)) || ways[last] != 1 {
			t.Errorf("QuasiProduct of %v twice = %v, %v", four, lists, ways)
		}
	}
	lists, ways, code := impl.QuasiProduct([]int64{1, 2, 3, 4}, []int64{5, 5, 5, 5})
	if code != impl.ErrNone || !slices.Equal(lists[0], []int64{1, 2, 3, 4, 5, 5, 5, 5}) || !slices.Equal(lists[len(lists)-1], []int64{6, 7, 8, 9}) || len(lists) != len(ways) {
		t.Errorf("QuasiProduct of 1, 2, 3, 4 and 5, 5, 5, 5 = %v, %v, %d", lists, ways, code)
	}
}

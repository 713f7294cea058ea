package lists_test

import (
	"slices"
	"strconv"
	"testing"

	"earshot/lists"
)

func TestMap(t *testing.T) {
	x := []int{3, -1, 3}
	if got := lists.Map(x, strconv.Itoa); !slices.Equal(got, []string{"3", "-1", "3"}) {
		t.Errorf("%v", got)
	}
	got := lists.Map(x, func(n int) int { return 2 * n })
	if !slices.Equal(got, []int{6, -2, 6}) || !slices.Equal(x, []int{3, -1, 3}) {
		t.Errorf("%v of %v", got, x)
	}
	if got := lists.Map(nil, strconv.Itoa); len(got) != 0 {
		t.Errorf("%v of nothing", got)
	}
}

func TestCombine(t *testing.T) {
	a, b := []int{3, -1, 3}, []int{1, 1, 7}
	got := lists.Combine(a, b, func(x, y int) int { return 10*x - y })
	if !slices.Equal(got, []int{29, -11, 23}) || !slices.Equal(a, []int{3, -1, 3}) || !slices.Equal(b, []int{1, 1, 7}) {
		t.Errorf("%v of %v and %v", got, a, b)
	}
	if got := lists.Combine(nil, nil, func(x, y int) int { return x + y }); len(got) != 0 {
		t.Errorf("%v of nothing", got)
	}
}

func TestColumns(t *testing.T) {
	rows := [][]int{{1, 2, 3}, {4, 5, 6}}
	got := lists.Columns(rows)
	if !slices.EqualFunc(got, [][]int{{1, 4}, {2, 5}, {3, 6}}, slices.Equal) {
		t.Errorf("%v", got)
	}
	got[0][0] = 9
	if rows[0][0] != 1 {
		t.Error("columns share memory with rows")
	}
	if got := lists.Columns([][]int{{}}); len(got) != 0 {
		t.Errorf("%v of an empty row", got)
	}
}

package tests

import (
	"fmt"
	"math"
	"slices"
	"testing"

	"loop.example/g00959/impl"
)

// noMatrices are lists that every function of the chapter refuses.
func noMatrices() [][][]int {
	lists := [][][]int{
		nil, {}, {nil}, {{}}, {{}, {}}, {nil, nil, nil}, {nil, {1}}, {{1}, nil},
		{{1, 0}}, {{1, 0, 0}}, {{1}, {0}}, {{1}, {0}, {0}}, {{1, 0, 0}, {0, 1, 0}},
		{{1, 0}, {0, 1}, {0, 0}}, {{1, 0}, {0}}, {{1}, {0, 1}}, {{1, 0}, {0, 1, 0}},
		{{1, 0, 0}, {0, 1, 0}, {0, 0}}, {{1, 0}, {0, 1, 0}, {0, 0, 1}}, {{1, 0, 0}, {0, 1}, {0, 0, 1}},
		{{1, 0, 0}, {0, 1, 0}, {0, 0, 1, 0}}, {{1, 0, 0}, {0, 1, 0}, nil}, {{1, 0, 0}, {0, 1, 0}, {0, 0, 1}, {}},
		unitOf(4), unitOf(5), make([][]int, 1000), {make([]int, 1000)}, {make([]int, 1000), {0}},
	}
	for _, n := range []int{101, -101, 1000, -1001, math.MaxInt64, math.MinInt64, 1 << 32, 1 << 61} {
		for size := 1; size <= 3; size++ {
			for place := range size * size {
				m := unitOf(size)
				m[place/size][place%size] = n
				lists = append(lists, m)
			}
		}
	}
	return lists
}

func unitOf(size int) [][]int {
	m := make([][]int, size)
	for k := range m {
		m[k] = make([]int, size)
		m[k][k] = 1
	}
	return m
}

// matricesOf lists all matrices of these numbers with the size.
func matricesOf(size int, list ...int) [][][]int {
	all := [][][]int{nil}
	rows := vectorsOver(list...)
	for range size {
		var longer [][][]int
		for _, m := range all {
			for _, row := range rows {
				if len(row) == size {
					longer = append(longer, append(slices.Clone(m), row))
				}
			}
		}
		all = longer
	}
	return all
}

// mixedMatrices lists matrices of each size with small and great numbers.
func mixedMatrices() [][][]int {
	all := matricesOf(1, -100, -99, -2, -1, 0, 1, 2, 5, 99, 100)
	all = append(all, matricesOf(2, -7, -1, 0, 1, 2, 12)...)
	all = append(all, matricesOf(2, -100, -33, 1, 100)...)
	all = append(all, matricesOf(3, -1, 0, 1)...)
	return append(all, scatteredMatrices(4000)...)
}

// scatteredMatrices lists matrices whose numbers follow a rule without a pattern.
func scatteredMatrices(count int) [][][]int {
	var all [][][]int
	state := 12345
	for n := range count {
		most := []int{100, 10, 4, 30}[n%4]
		m := unitOf(2 + n/4%2)
		for _, row := range m {
			for k := range row {
				state = (state*1103515245 + 12345) % (1 << 31)
				row[k] = state>>8%(2*most+1) - most
			}
		}
		all = append(all, m)
	}
	return all
}

// leibniz is the determinant as the sum over the orders of the columns.
func leibniz(m [][]int) int {
	switch len(m) {
	case 1:
		return m[0][0]
	case 2:
		return m[0][0]*m[1][1] - m[0][1]*m[1][0]
	}
	sum := 0
	for _, order := range [][4]int{{0, 1, 2, 1}, {1, 2, 0, 1}, {2, 0, 1, 1}, {0, 2, 1, -1}, {1, 0, 2, -1}, {2, 1, 0, -1}} {
		sum += order[3] * m[0][order[0]] * m[1][order[1]] * m[2][order[2]]
	}
	return sum
}

func productOf(a [][]int, b [][]int) [][]int {
	m := unitOf(len(a))
	for i := range m {
		for j := range m {
			m[i][j] = 0
			for k := range m {
				m[i][j] += a[i][k] * b[k][j]
			}
		}
	}
	return m
}

func isWithin(m [][]int, most int) bool {
	for _, row := range m {
		for _, n := range row {
			if n < -most || n > most {
				return false
			}
		}
	}
	return true
}

func areSame(a [][]int, b [][]int) bool {
	return slices.EqualFunc(a, b, slices.Equal[[]int])
}

// shown is the beginning of the text of m, which may be long.
func shown(m [][]int) string { return fmt.Sprintf("%.80s", fmt.Sprint(m)) }

func checkMatrix(t *testing.T, call string, got [][]int, ok bool, want [][]int, wantOK bool) {
	t.Helper()
	if ok != wantOK || !areSame(got, want) {
		t.Errorf("%s = %v, %v, want %v, %v", call, got, ok, want, wantOK)
	}
}

func TestMatrixLimits(t *testing.T) {
	if impl.MaxEntry != 100 {
		t.Errorf("MaxEntry = %d", impl.MaxEntry)
	}
}

func TestIsMatrix(t *testing.T) {
	for _, m := range mixedMatrices() {
		if !impl.IsMatrix(m) {
			t.Errorf("IsMatrix(%v) = false", m)
		}
	}
	for size := 1; size <= 3; size++ {
		for place := range size * size {
			for _, n := range []int{100, -100} {
				m := unitOf(size)
				m[place/size][place%size] = n
				if !impl.IsMatrix(m) {
					t.Errorf("IsMatrix(%v) = false", m)
				}
			}
		}
	}
	for _, m := range noMatrices() {
		if impl.IsMatrix(m) {
			t.Errorf("IsMatrix(%s) = true", shown(m))
		}
	}
}

func TestDetOf(t *testing.T) {
	cases := []struct {
		m    [][]int
		want int
	}{
		{[][]int{{7}}, 7},
		{[][]int{{0}}, 0},
		{[][]int{{-100}}, -100},
		{[][]int{{1, 2}, {3, 4}}, -2},
		{[][]int{{0, 1}, {1, 0}}, -1},
		{[][]int{{1, 1}, {2, 2}}, 0},
		{[][]int{{100, -100}, {100, 100}}, 20000},
		{[][]int{{2, 0, 0}, {0, 3, 0}, {1, 1, 1}}, 6},
		{[][]int{{1, 2, 3}, {4, 5, 6}, {7, 8, 10}}, -3},
		{[][]int{{0, 1, 0}, {0, 0, 1}, {1, 0, 0}}, 1},
		{[][]int{{0, 0, 1}, {0, 1, 0}, {1, 0, 0}}, -1},
		{[][]int{{100, 100, 100}, {100, -100, 100}, {100, 100, -100}}, 4000000},
		{[][]int{{0, 0, 0}, {0, 0, 0}, {0, 0, 0}}, 0},
	}
	for _, c := range cases {
		if got := impl.DetOf(c.m); got != c.want {
			t.Errorf("DetOf(%v) = %d, want %d", c.m, got, c.want)
		}
	}
	for _, m := range mixedMatrices() {
		if got, want := impl.DetOf(m), leibniz(m); got != want {
			t.Errorf("DetOf(%v) = %d, want %d", m, got, want)
		}
	}
	for _, m := range noMatrices() {
		if got := impl.DetOf(m); got != 0 {
			t.Errorf("DetOf(%s) = %d, want 0", shown(m), got)
		}
	}
}

func TestDeterminantsMultiply(t *testing.T) {
	products := 0
	list := scatteredMatrices(300)
	list = append(list, matricesOf(1, -10, -3, 0, 1, 10, 100)...)
	for _, a := range list {
		for _, b := range list {
			m, ok := impl.TimesMatrix(a, b)
			if !ok {
				continue
			}
			products++
			if impl.DetOf(m) != impl.DetOf(a)*impl.DetOf(b) {
				t.Errorf("the determinant of %v times %v is %d", a, b, impl.DetOf(m))
			}
		}
	}
	if products < 1000 {
		t.Errorf("only %d products", products)
	}
}

func checkApply(t *testing.T, m [][]int, v []int, want []int, wantOK bool) {
	t.Helper()
	got, ok := impl.ApplyMatrix(m, v)
	checkVector(t, fmt.Sprintf("ApplyMatrix(%s, %v)", shown(m), v), got, ok, want, wantOK)
}

func TestApplyMatrix(t *testing.T) {
	checkApply(t, [][]int{{7}}, []int{-3}, []int{-21}, true)
	checkApply(t, [][]int{{1, 2}, {3, 4}}, []int{1, -1}, []int{-1, -1}, true)
	checkApply(t, [][]int{{1, 2}, {3, 4}}, []int{1, 0}, []int{1, 3}, true)
	checkApply(t, [][]int{{0, 0}, {0, 0}}, []int{1000, -1000}, []int{0, 0}, true)
	checkApply(t, [][]int{{1, 2, 3}, {4, 5, 6}, {7, 8, 9}}, []int{1, 10, 100}, []int{321, 654, 987}, true)
	checkApply(t, [][]int{{1, 0, 0}, {0, 1, 0}, {0, 0, 1}}, []int{1000, -1000, 999}, []int{1000, -1000, 999}, true)
	checkApply(t, [][]int{{100}}, []int{10}, []int{1000}, true)
	checkApply(t, [][]int{{-100}}, []int{10}, []int{-1000}, true)
	checkApply(t, [][]int{{100, 1}, {0, 1}}, []int{10, 0}, []int{1000, 0}, true)
	checkApply(t, [][]int{{100, 1}, {0, 1}}, []int{10, 1}, nil, false)
	checkApply(t, [][]int{{100, 1}, {0, 1}}, []int{-10, -1}, nil, false)
	checkApply(t, [][]int{{1, 0, 0}, {0, 1, 0}, {1, 1, 0}}, []int{500, 501, 0}, nil, false)
	checkApply(t, [][]int{{1, 0, 0}, {1, 1, 0}, {0, 1, 0}}, []int{500, 501, 0}, nil, false)
	checkApply(t, [][]int{{100, 100, 100}, {0, 0, 0}, {0, 0, 0}}, []int{1000, 1000, 1000}, nil, false)
	checkApply(t, [][]int{{100, 100, -100}, {0, 0, 0}, {0, 0, 0}}, []int{505, 505, 1000}, []int{1000, 0, 0}, true)
}

func TestApplyMatrixRefuses(t *testing.T) {
	for size := 1; size <= 3; size++ {
		for n := range 5 {
			if n != size {
				checkApply(t, unitOf(size), make([]int, n), nil, false)
			}
		}
		for _, v := range noVectors() {
			checkApply(t, unitOf(size), v, nil, false)
			// The result would be a vector.
			zeros := unitOf(size)
			for k := range zeros {
				zeros[k][k] = 0
			}
			checkApply(t, zeros, v, nil, false)
		}
	}
	for _, m := range noMatrices() {
		for n := range 5 {
			checkApply(t, m, make([]int, n), nil, false)
		}
	}
}

func checkTimes(t *testing.T, a [][]int, b [][]int, want [][]int, wantOK bool) {
	t.Helper()
	got, ok := impl.TimesMatrix(a, b)
	checkMatrix(t, fmt.Sprintf("TimesMatrix(%s, %s)", shown(a), shown(b)), got, ok, want, wantOK)
}

func TestTimesMatrix(t *testing.T) {
	checkTimes(t, [][]int{{-4}}, [][]int{{25}}, [][]int{{-100}}, true)
	checkTimes(t, [][]int{{-4}}, [][]int{{-25}}, [][]int{{100}}, true)
	checkTimes(t, [][]int{{-4}}, [][]int{{26}}, nil, false)
	checkTimes(t, [][]int{{4}}, [][]int{{26}}, nil, false)
	checkTimes(t, [][]int{{101}}, [][]int{{0}}, nil, false)
	checkTimes(t, [][]int{{0}}, [][]int{{-101}}, nil, false)
	checkTimes(t, [][]int{{1, 2}, {3, 4}}, [][]int{{0, 1}, {1, 0}}, [][]int{{2, 1}, {4, 3}}, true)
	checkTimes(t, [][]int{{0, 1}, {1, 0}}, [][]int{{1, 2}, {3, 4}}, [][]int{{3, 4}, {1, 2}}, true)
	checkTimes(t, [][]int{{1, 2, 0}, {0, 1, 0}, {0, 0, 1}}, [][]int{{1, 0, 0}, {0, 1, 3}, {0, 0, 1}},
		[][]int{{1, 2, 6}, {0, 1, 3}, {0, 0, 1}}, true)
	checkTimes(t, [][]int{{10, 0}, {0, 0}}, [][]int{{10, 0}, {0, 0}}, [][]int{{100, 0}, {0, 0}}, true)
	checkTimes(t, [][]int{{10, 1}, {0, 0}}, [][]int{{10, 0}, {1, 0}}, nil, false)
	for size := 1; size <= 3; size++ {
		for other := 1; other <= 3; other++ {
			if size == other {
				checkTimes(t, unitOf(size), unitOf(other), unitOf(size), true)
			} else {
				checkTimes(t, unitOf(size), unitOf(other), nil, false)
			}
		}
	}
	for _, m := range noMatrices() {
		for size := range 5 {
			checkTimes(t, m, unitOf(size), nil, false)
			checkTimes(t, unitOf(size), m, nil, false)
		}
		checkTimes(t, m, m, nil, false)
	}
}

func TestTimesMatrixIsApplied(t *testing.T) {
	list := append(scatteredMatrices(120), matricesOf(1, -100, -50, -2, 0, 1, 2, 50, 51)...)
	for _, a := range list {
		for _, b := range list {
			if len(a) != len(b) {
				checkTimes(t, a, b, nil, false)
				continue
			}
			want := productOf(a, b)
			if isWithin(want, 100) {
				checkTimes(t, a, b, want, true)
			} else {
				checkTimes(t, a, b, nil, false)
			}
			checkAppliedInTurn(t, a, b)
		}
	}
}

// checkAppliedInTurn checks that the product is applied like b and then a.
func checkAppliedInTurn(t *testing.T, a [][]int, b [][]int) {
	t.Helper()
	m, ok := impl.TimesMatrix(a, b)
	v := []int{2, -3, 1}[:len(a)]
	first, one := impl.ApplyMatrix(b, v)
	want, two := impl.ApplyMatrix(a, first)
	if !ok || !one || !two {
		return
	}
	checkApply(t, m, v, want, true)
}

// A product with one number beyond the limit, in each place, is no matrix.
func TestTimesMatrixChecksEachPlace(t *testing.T) {
	for size := 1; size <= 3; size++ {
		for place := range size * size {
			for _, sign := range []int{1, -1} {
				a, b := unitOf(size), unitOf(size)
				for k := range size {
					a[k][k], b[k][k] = 0, 0
				}
				i, j := place/size, place%size
				a[i][0], b[0][j] = 51*sign, 2
				checkTimes(t, a, b, nil, false)
				a[i][0] = 50 * sign
				checkTimes(t, a, b, productOf(a, b), true)
			}
		}
	}
}

func TestIsUnimodular(t *testing.T) {
	for _, m := range [][][]int{
		{{1}}, {{-1}}, unitOf(2), unitOf(3), {{0, 1}, {1, 0}}, {{1, 100}, {0, -1}}, {{2, 1}, {1, 1}},
		{{99, 100}, {98, 99}}, {{0, 0, 1}, {0, 1, 0}, {1, 0, 0}}, {{1, 2, 3}, {0, 1, 4}, {0, 0, 1}},
	} {
		if !impl.IsUnimodular(m) {
			t.Errorf("IsUnimodular(%v) = false", m)
		}
	}
	for _, m := range [][][]int{
		{{0}}, {{2}}, {{-2}}, {{100}}, {{1, 1}, {1, 1}}, {{2, 0}, {0, 1}}, {{1, 1}, {1, -1}},
		{{0, 0}, {0, 0}}, {{1, 0, 0}, {0, 1, 0}, {0, 0, -2}}, {{1, 2, 3}, {4, 5, 6}, {7, 8, 9}},
	} {
		if impl.IsUnimodular(m) {
			t.Errorf("IsUnimodular(%v) = true", m)
		}
	}
	for _, m := range mixedMatrices() {
		d := leibniz(m)
		if got, want := impl.IsUnimodular(m), d == 1 || d == -1; got != want {
			t.Errorf("IsUnimodular(%v) = %v", m, got)
		}
	}
	for _, m := range noMatrices() {
		if impl.IsUnimodular(m) {
			t.Errorf("IsUnimodular(%s) = true", shown(m))
		}
	}
}

func checkInverse(t *testing.T, m [][]int, want [][]int, wantOK bool) {
	t.Helper()
	got, ok := impl.InverseMatrix(m)
	checkMatrix(t, fmt.Sprintf("InverseMatrix(%s)", shown(m)), got, ok, want, wantOK)
}

func TestInverseMatrix(t *testing.T) {
	checkInverse(t, [][]int{{1}}, [][]int{{1}}, true)
	checkInverse(t, [][]int{{-1}}, [][]int{{-1}}, true)
	checkInverse(t, [][]int{{1, 1}, {0, 1}}, [][]int{{1, -1}, {0, 1}}, true)
	checkInverse(t, [][]int{{0, 1}, {1, 0}}, [][]int{{0, 1}, {1, 0}}, true)
	checkInverse(t, [][]int{{0, 1}, {-1, 0}}, [][]int{{0, -1}, {1, 0}}, true)
	checkInverse(t, [][]int{{2, 3}, {1, 1}}, [][]int{{-1, 3}, {1, -2}}, true)
	checkInverse(t, [][]int{{99, 100}, {98, 99}}, [][]int{{99, -100}, {-98, 99}}, true)
	checkInverse(t, [][]int{{0, 1, 0}, {0, 0, 1}, {1, 0, 0}}, [][]int{{0, 0, 1}, {1, 0, 0}, {0, 1, 0}}, true)
	checkInverse(t, [][]int{{1, 2, 3}, {0, 1, 4}, {0, 0, 1}}, [][]int{{1, -2, 5}, {0, 1, -4}, {0, 0, 1}}, true)
	checkInverse(t, [][]int{{1, 2, 3}, {0, -1, 4}, {0, 0, 1}}, [][]int{{1, 2, -11}, {0, -1, 4}, {0, 0, 1}}, true)
	checkInverse(t, [][]int{{1, 10, 0}, {0, 1, 10}, {0, 0, 1}}, [][]int{{1, -10, 100}, {0, 1, -10}, {0, 0, 1}}, true)
	checkInverse(t, [][]int{{1, -10, 0}, {0, 1, 10}, {0, 0, 1}}, [][]int{{1, 10, -100}, {0, 1, -10}, {0, 0, 1}}, true)
	checkInverse(t, [][]int{{1, 10, -1}, {0, 1, 10}, {0, 0, 1}}, nil, false)
	checkInverse(t, [][]int{{1, -10, 1}, {0, 1, 10}, {0, 0, 1}}, nil, false)
	checkInverse(t, [][]int{{1, 0, 0}, {100, 1, 0}, {0, 100, 1}}, nil, false)
	for _, m := range [][][]int{
		{{0}}, {{2}}, {{-2}}, {{100}}, {{1, 1}, {1, 1}}, {{0, 0}, {0, 0}}, {{2, 0}, {0, 1}}, {{1, 2}, {3, 4}},
		{{1, 0, 0}, {0, 1, 0}, {0, 0, 0}}, {{1, 0, 0}, {0, 3, 0}, {0, 0, 1}}, {{1, 1, 0}, {1, 0, 1}, {0, 1, 1}},
	} {
		checkInverse(t, m, nil, false)
	}
	for _, m := range noMatrices() {
		checkInverse(t, m, nil, false)
	}
}

func TestInverseMatrixUndoes(t *testing.T) {
	undone := 0
	for _, m := range append(mixedMatrices(), matricesOf(3, 1, 0, 2)...) {
		d := leibniz(m)
		got, ok := impl.InverseMatrix(m)
		if d != 1 && d != -1 {
			checkMatrix(t, fmt.Sprintf("InverseMatrix(%v)", m), got, ok, nil, false)
			continue
		}
		if !ok {
			// Small numbers have small cofactors, so that the inverse is a matrix.
			if isWithin(m, 7) {
				t.Errorf("InverseMatrix(%v) fails", m)
			}
			continue
		}
		undone++
		if !areSame(productOf(m, got), unitOf(len(m))) || !isWithin(got, 100) {
			t.Errorf("InverseMatrix(%v) = %v", m, got)
		}
	}
	if undone < 5000 {
		t.Errorf("only %d inverses", undone)
	}
}

func checkHermite(t *testing.T, m [][]int, want [][]int, wantOK bool) {
	t.Helper()
	got, ok := impl.HermiteOf(m)
	checkMatrix(t, fmt.Sprintf("HermiteOf(%s)", shown(m)), got, ok, want, wantOK)
}

func TestHermiteOf(t *testing.T) {
	checkHermite(t, [][]int{{3}}, [][]int{{3}}, true)
	checkHermite(t, [][]int{{-3}}, [][]int{{3}}, true)
	checkHermite(t, [][]int{{-100}}, [][]int{{100}}, true)
	checkHermite(t, [][]int{{0}}, nil, false)
	checkHermite(t, [][]int{{2, 4}, {1, 1}}, [][]int{{1, 1}, {0, 2}}, true)
	checkHermite(t, [][]int{{0, 1}, {1, 0}}, [][]int{{1, 0}, {0, 1}}, true)
	checkHermite(t, [][]int{{2, -1}, {0, 3}}, [][]int{{2, 2}, {0, 3}}, true)
	checkHermite(t, [][]int{{2, 3}, {0, 3}}, [][]int{{2, 0}, {0, 3}}, true)
	checkHermite(t, [][]int{{2, -3}, {0, 3}}, [][]int{{2, 0}, {0, 3}}, true)
	checkHermite(t, [][]int{{-2, -1}, {0, -3}}, [][]int{{2, 1}, {0, 3}}, true)
	checkHermite(t, [][]int{{6, 1}, {4, 1}}, [][]int{{2, 0}, {0, 1}}, true)
	checkHermite(t, [][]int{{2, 0, 0}, {0, 3, 0}, {1, 1, 1}}, [][]int{{1, 0, 3}, {0, 1, 4}, {0, 0, 6}}, true)
	checkHermite(t, [][]int{{1, 0, -1}, {0, 1, -1}, {0, 0, 5}}, [][]int{{1, 0, 4}, {0, 1, 4}, {0, 0, 5}}, true)
	checkHermite(t, [][]int{{1, 7, 7}, {0, 2, 9}, {0, 0, 5}}, [][]int{{1, 1, 0}, {0, 2, 4}, {0, 0, 5}}, true)
	checkHermite(t, [][]int{{0, 0, 2}, {0, 3, 0}, {5, 0, 0}}, [][]int{{5, 0, 0}, {0, 3, 0}, {0, 0, 2}}, true)
	checkHermite(t, [][]int{{1, 1}, {2, 2}}, nil, false)
	checkHermite(t, [][]int{{0, 0}, {0, 1}}, nil, false)
	checkHermite(t, [][]int{{1, 2, 3}, {4, 5, 6}, {7, 8, 9}}, nil, false)
	for _, m := range noMatrices() {
		checkHermite(t, m, nil, false)
	}
}

func TestHermiteOfBeyondTheLimit(t *testing.T) {
	checkHermite(t, [][]int{{10, 1}, {0, 10}}, [][]int{{10, 1}, {0, 10}}, true)
	checkHermite(t, [][]int{{1, 0}, {1, 100}}, [][]int{{1, 0}, {0, 100}}, true)
	checkHermite(t, [][]int{{1, -1}, {1, 99}}, [][]int{{1, 99}, {0, 100}}, true)
	checkHermite(t, [][]int{{1, -1}, {1, 100}}, nil, false)
	checkHermite(t, [][]int{{1, 50}, {50, 1}}, nil, false)
	checkHermite(t, [][]int{{1, 1, 0}, {1, -1, 0}, {0, 0, 100}}, [][]int{{1, 1, 0}, {0, 2, 0}, {0, 0, 100}}, true)
	checkHermite(t, [][]int{{1, -1, 0}, {1, 100, 0}, {0, 0, 1}}, nil, false)
	checkHermite(t, [][]int{{1, 0, 0}, {0, 1, -1}, {0, 1, 100}}, nil, false)
	checkHermite(t, [][]int{{100, 99, 98}, {97, -100, 89}, {-83, 96, 100}}, nil, false)
	checkHermite(t, [][]int{{100, 0, 0}, {0, 100, 0}, {0, 0, 100}}, [][]int{{100, 0, 0}, {0, 100, 0}, {0, 0, 100}}, true)
	checkHermite(t, [][]int{{100, 0, 0}, {100, 100, 0}, {100, 100, -100}}, [][]int{{100, 0, 0}, {0, 100, 0}, {0, 0, 100}}, true)
}

func sizeOf(n int) int { return max(n, -n) }

func divisorOfTwo(a int, b int) int {
	for b != 0 {
		a, b = b, a%b
	}
	return sizeOf(a)
}

// diagonalOf tells the diagonal of the form from the divisors of the minors.
func diagonalOf(m [][]int) []int {
	first, second := 0, 0
	for i, row := range m {
		first = divisorOfTwo(first, row[0])
		for j := range i {
			if len(m) > 1 {
				second = divisorOfTwo(second, row[0]*m[j][1]-row[1]*m[j][0])
			}
		}
	}
	d := sizeOf(leibniz(m))
	switch len(m) {
	case 1:
		return []int{d}
	case 2:
		return []int{first, d / first}
	}
	return []int{first, second / first, d / second}
}

// isGenerated reports whether v is a sum of multiples of the rows of a
// matrix with zeros below the diagonal.
func isGenerated(rows [][]int, v []int) bool {
	rest := slices.Clone(v)
	for k, row := range rows {
		if rest[k]%row[k] != 0 {
			return false
		}
		factor := rest[k] / row[k]
		for i := range rest {
			rest[i] -= factor * row[i]
		}
	}
	return true
}

func checkForm(t *testing.T, m [][]int, form [][]int) {
	t.Helper()
	diagonal := diagonalOf(m)
	if len(form) != len(m) {
		t.Fatalf("HermiteOf(%v) = %v", m, form)
	}
	for i, row := range form {
		if len(row) != len(m) {
			t.Fatalf("HermiteOf(%v) = %v", m, form)
		}
		for j, n := range row {
			right := n == 0
			if i == j {
				right = n == diagonal[j]
			} else if i < j {
				right = n >= 0 && n < diagonal[j]
			}
			if !right {
				t.Fatalf("HermiteOf(%v) = %v", m, form)
			}
		}
	}
	// The rows are in a lattice with as many classes, so it is theirs.
	for _, row := range m {
		if !isGenerated(form, row) {
			t.Errorf("HermiteOf(%v) = %v, which does not generate %v", m, form, row)
		}
	}
}

func TestHermiteOfKeepsTheLattice(t *testing.T) {
	forms, beyond := 0, 0
	for _, m := range mixedMatrices() {
		if leibniz(m) == 0 || slices.Max(diagonalOf(m)) > 100 {
			checkHermite(t, m, nil, false)
			beyond++
			continue
		}
		form, ok := impl.HermiteOf(m)
		if !ok {
			t.Errorf("HermiteOf(%v) fails", m)
			continue
		}
		forms++
		checkForm(t, m, form)
		checkHermite(t, form, form, true)
	}
	if forms < 10000 || beyond < 2000 {
		t.Errorf("only %d forms and %d failures", forms, beyond)
	}
}

func cloneRows(m [][]int) [][]int {
	if m == nil {
		return nil
	}
	rows := make([][]int, len(m))
	for k, row := range m {
		// The places beyond the length hold numbers that must stay, too.
		rows[k] = append(slices.Clone(row), 99, 98)[:len(row)]
	}
	return append(rows, []int{97}, []int{96})[:len(m)]
}

// isKept reports whether rows is as cloneRows made it of m.
func isKept(rows [][]int, m [][]int) bool {
	if !areSame(rows, m) {
		return false
	}
	for _, row := range rows {
		if all := row[:len(row)+2]; all[len(row)] != 99 || all[len(row)+1] != 98 {
			return false
		}
	}
	if m == nil {
		return true
	}
	all := rows[:len(rows)+2]
	return areSame(all[len(rows):], [][]int{{97}, {96}})
}

func TestMatricesAreKept(t *testing.T) {
	lists := append(noMatrices(), unitOf(1), unitOf(2), unitOf(3), [][]int{{-3}}, [][]int{{0}},
		[][]int{{2, 4}, {1, 1}}, [][]int{{0, -5}, {5, 3}}, [][]int{{1, 1}, {2, 2}}, [][]int{{2, 3}, {1, 1}},
		[][]int{{4, 6, 1}, {6, -4, 3}, {5, 5, -5}}, [][]int{{0, 0, 1}, {0, -1, 4}, {1, 2, 3}})
	for _, a := range lists {
		for _, b := range lists {
			x, y, v := cloneRows(a), cloneRows(b), []int{4, -7, 9}
			impl.IsMatrix(x)
			impl.DetOf(x)
			impl.ApplyMatrix(x, v[:min(len(x), 3)])
			impl.TimesMatrix(x, y)
			impl.IsUnimodular(x)
			impl.InverseMatrix(x)
			impl.HermiteOf(x)
			if !isKept(x, a) || !isKept(y, b) || !slices.Equal(v, []int{4, -7, 9}) {
				t.Fatalf("arguments %s, %s and 4,-7,9 became %s, %s and %v", shown(a), shown(b), shown(x), shown(y), v)
			}
		}
	}
}

func TestMatricesAreNew(t *testing.T) {
	for size := 1; size <= 3; size++ {
		unit := unitOf(size)
		product, _ := impl.TimesMatrix(unit, unit)
		inverse, _ := impl.InverseMatrix(unit)
		form, _ := impl.HermiteOf(unit)
		for _, got := range [][][]int{product, inverse, form} {
			if !areSame(got, unitOf(size)) {
				t.Fatalf("the result is %v", got)
			}
			for k := range got {
				// Writing to one row, or beyond it, must not reach another one.
				_ = append(got[k], 55, 56, 57, 58, 59, 60)
				got[k][0] += 77
				if size > 1 {
					got[k][1] += 77
				}
			}
			for k := range got {
				got[k][0] -= 77
				if size > 1 {
					got[k][1] -= 77
				}
			}
			if !areSame(got, unitOf(size)) {
				t.Errorf("the rows of a result share memory: %v", got)
			}
		}
		if !areSame(unit, unitOf(size)) {
			t.Errorf("results share memory with the argument: %v", unit)
		}
	}
	v := []int{3, 5}
	image, _ := impl.ApplyMatrix(unitOf(2), v)
	image[0] = 77
	if v[0] != 3 {
		t.Errorf("ApplyMatrix returns its argument")
	}
}

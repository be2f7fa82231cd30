package tests

import (
	"fmt"
	"math/rand/v2"
	"slices"
	"testing"

	"loop.example/g00959/impl"
)

// readMatrix is the matrix of a text such as "2,1 -1,1".
func readMatrix(text string) [][]int { return readPoints(text) }

func indexOf(m [][]int) int { return sizeOf(leibniz(m)) }

// factorsOf are the factors of the rows in the sum x, by Cramer's rule; each one
// is to be divided by indexOf(m).
func factorsOf(m [][]int, x []int) []int {
	d := leibniz(m)
	var list []int
	for k := range m {
		changed := slices.Clone(m)
		changed[k] = x
		list = append(list, leibniz(changed)*d/sizeOf(d))
	}
	return list
}

// areClassmates reports whether x - y is a sum of whole multiples of the rows.
func areClassmates(m [][]int, x []int, y []int) bool {
	return !slices.ContainsFunc(factorsOf(m, difference(x, y)), func(n int) bool { return n%indexOf(m) != 0 })
}

func difference(x []int, y []int) []int {
	z := slices.Clone(x)
	for k := range z {
		z[k] -= y[k]
	}
	return z
}

// isInCell reports whether all factors are at least 0 and less than 1.
func isInCell(m [][]int, x []int) bool {
	return !slices.ContainsFunc(factorsOf(m, x), func(n int) bool { return n < 0 || n >= indexOf(m) })
}

// hasForm reports whether HermiteOf succeeds, told without it.
func hasForm(m [][]int) bool { return leibniz(m) != 0 && slices.Max(diagonalOf(m)) <= 100 }

// pointsBelow lists the points with numbers from 0 up to and without those of the edge, in order.
func pointsBelow(edge []int) [][]int {
	all := [][]int{{}}
	for _, most := range edge {
		var longer [][]int
		for _, x := range all {
			for n := range most {
				longer = append(longer, append(slices.Clone(x), n))
			}
		}
		all = longer
	}
	return all
}

// sumOfRows is the sum of the rows with these factors.
func sumOfRows(m [][]int, factors ...int) []int {
	x := make([]int, len(m))
	for k, row := range m {
		for i := range x {
			x[i] += factors[k] * row[i]
		}
	}
	return x
}

// someVectors lists vectors with that many numbers: small and negative ones, and those at the limits.
func someVectors(size int) [][]int {
	var list [][]int
	for _, v := range vectorsOver(0, 1, -1, 7, -20, 333, 1000, -1000) {
		if len(v) == size {
			list = append(list, v)
		}
	}
	return list
}

// unimodularMatrices have lattices with one class.
func unimodularMatrices() [][][]int {
	list := [][][]int{unitOf(1), unitOf(2), unitOf(3)}
	for _, text := range []string{
		"-1", "-1,0 0,-1", "0,1 1,0", "0,1 -1,0", "1,1 0,1", "1,0 -7,1", "2,1 1,1", "3,-4 -2,3", "5,7 2,3", "99,100 98,99", "100,99 99,98", "1,100 0,-1", "-50,49 51,-50",
		"0,0,1 0,1,0 1,0,0", "0,1,0 0,0,1 1,0,0", "-1,0,0 0,-1,0 0,0,-1", "1,2,3 0,1,4 0,0,1", "1,0,0 100,1,0 -100,100,-1", "2,1,1 1,1,0 1,0,2", "2,3,0 1,1,1 0,1,-1",
	} {
		list = append(list, readMatrix(text))
	}
	return list
}

// smallLattices have few classes, and rows in all directions.
func smallLattices() [][][]int {
	list := slices.Concat(unimodularMatrices(), matricesOf(1, -5, -2, 1, 2, 3, 7), matricesOf(2, -3, -1, 0, 2, 4), matricesOf(3, -1, 0, 2)[:3000])
	for _, text := range []string{
		"2,0 0,3", "0,3 2,0", "1,1 0,2", "2,1 -1,1", "-1,1 2,1", "-2,-1 1,-1", "3,1 1,2", "1,-3 3,1", "2,4 4,2", "-3,0 0,-3", "6,4 -4,6", "5,-7 4,4", "1,7 -8,3", "10,1 1,10",
		"2,0,0 0,3,0 0,0,4", "0,0,4 0,3,0 2,0,0", "2,0,0 0,3,0 1,1,1", "1,1,0 1,0,1 0,1,1", "-1,-1,0 1,0,1 0,1,1", "1,1,1 1,-1,1 1,1,-1", "3,1,0 -1,2,1 0,-2,3", "2,-1,-1 -1,2,-1 1,1,1", "4,1,-3 0,-5,2 1,1,1",
	} {
		list = append(list, readMatrix(text))
	}
	return slices.DeleteFunc(list, func(m [][]int) bool { return leibniz(m) == 0 })
}

// someLattices are the small ones and others, also those at which HermiteOf fails.
func someLattices() [][][]int {
	list := slices.Concat(smallLattices(), scatteredMatrices(1500), matricesOf(1, -100, -99, 50, 100), matricesOf(2, -100, -33, 1, 100))
	return slices.DeleteFunc(list, func(m [][]int) bool { return leibniz(m) == 0 })
}

// formless are matrices at which HermiteOf fails, although their lattices have no more than 500 classes.
func formless() [][][]int {
	var list [][][]int
	for _, text := range []string{
		"1,-1 1,100", "-1,1 1,100", "1,-1 -1,-100", "1,100 -1,1", "1,50 2,-1", "1,50 -2,1", "1,99 -5,5", "20,20 -1,24", "24,-1 20,20", "-20,-20 -1,24", "99,1 -1,5", "3,100 1,100",
		"1,0,0 0,1,-1 0,1,100", "1,-1,0 1,100,0 0,0,1", "1,-1,0 1,100,0 0,0,-2", "1,0,0 0,20,20 0,-1,24", "0,20,20 0,-1,24 1,0,0", "1,7,0 0,1,7 5,0,1", "3,-5,1 2,7,-4 -6,1,6",
	} {
		list = append(list, readMatrix(text))
	}
	return list
}

// flatMatrices have the determinant 0.
func flatMatrices() [][][]int {
	list := [][][]int{{{0}}}
	for _, text := range []string{
		"0,0 0,0", "1,1 1,1", "1,0 0,0", "0,0 0,1", "0,1 0,0", "2,4 1,2", "2,-4 -1,2", "100,-100 -100,100", "1,0 1,0", "0,5 0,7", "99,-33 -3,1",
		"0,0,0 0,0,0 0,0,0", "1,2,3 4,5,6 7,8,9", "1,0,0 0,1,0 0,0,0", "1,0,0 0,1,0 1,1,0", "0,1,0 0,0,1 0,1,1", "1,1,1 1,1,1 2,0,0", "100,100,100 -100,-100,-100 0,0,1", "1,-1,0 0,1,-1 -1,0,1",
	} {
		list = append(list, readMatrix(text))
	}
	return list
}

func checkIndex(t *testing.T, m [][]int, want int) {
	t.Helper()
	if got := impl.LatticeIndex(m); got != want {
		t.Errorf("LatticeIndex(%s) = %d, want %d", shown(m), got, want)
	}
}

func TestLatticeIndex(t *testing.T) {
	for text, want := range map[string]int{
		"1": 1, "-1": 1, "7": 7, "-7": 7, "100": 100, "-100": 100, "0": 0,
		"2,0 0,3": 6, "0,3 2,0": 6, "1,1 1,1": 0, "2,1 -1,1": 3, "-1,1 2,1": 3, "0,1 1,0": 1, "100,-100 100,100": 20000, "100,100 100,-100": 20000, "20,20 -1,24": 500, "20,21 -1,24": 501,
		"2,0,0 0,3,0 1,1,1": 6, "1,2,3 4,5,6 7,8,10": 3, "1,2,3 4,5,6 7,8,9": 0, "0,0,1 0,1,0 1,0,0": 1, "100,100,100 100,-100,100 100,100,-100": 4000000, "100,100,-100 100,-100,100 100,100,100": 4000000,
	} {
		checkIndex(t, readMatrix(text), want)
	}
	for _, m := range mixedMatrices() {
		checkIndex(t, m, indexOf(m))
	}
}

func checkLeader(t *testing.T, m [][]int, x []int, want []int, wantOK bool) {
	t.Helper()
	got, ok := impl.ClassLeader(m, x)
	checkVector(t, fmt.Sprintf("ClassLeader(%s, %v)", shown(m), x), got, ok, want, wantOK)
}

func TestClassLeader(t *testing.T) {
	for _, c := range []struct{ m, x, want string }{
		{"2,0 0,3", "5,-1", "1,2"}, {"2,0 0,3", "0,0", "0,0"}, {"2,0 0,3", "1,2", "1,2"}, {"2,0 0,3", "2,3", "0,0"}, {"2,0 0,3", "-1,-1", "1,2"}, {"2,0 0,3", "-2,-3", "0,0"}, {"0,-3 -2,0", "5,-1", "1,2"},
		{"7", "0", "0"}, {"7", "6", "6"}, {"7", "7", "0"}, {"7", "-1", "6"}, {"-7", "-1", "6"}, {"-7", "-8", "6"}, {"7", "1000", "6"}, {"7", "-1000", "1"}, {"100", "1000", "0"}, {"-100", "-999", "1"}, {"1", "-1000", "0"},
		// The form is 1,1 0,2: a step of the first number is one of the second number, too.
		{"1,1 0,2", "1,0", "0,1"}, {"1,1 0,2", "1,1", "0,0"}, {"1,1 0,2", "-1,0", "0,1"}, {"1,1 0,2", "-3,5", "0,0"}, {"1,1 0,2", "1000,999", "0,1"}, {"1,1 0,2", "-1000,1000", "0,0"},
		// The form is 1,2 0,3.
		{"2,1 -1,1", "1,0", "0,1"}, {"2,1 -1,1", "2,0", "0,2"}, {"2,1 -1,1", "0,-1", "0,2"}, {"2,1 -1,1", "4,5", "0,0"},
		{"10,3 0,10", "25,1", "5,5"}, {"10,3 0,10", "-1,0", "9,3"}, {"10,3 0,10", "9,9", "9,9"}, {"10,3 0,10", "10,0", "0,7"},
		{"2,0,0 0,3,0 0,0,4", "5,-1,9", "1,2,1"}, {"2,0,0 0,3,0 0,0,4", "1,2,3", "1,2,3"}, {"2,0,0 0,3,0 0,0,4", "-1000,-1000,-1000", "0,2,0"},
		// The form is 1,0,3 0,1,4 0,0,6.
		{"2,0,0 0,3,0 1,1,1", "1,0,0", "0,0,3"}, {"2,0,0 0,3,0 1,1,1", "0,1,0", "0,0,2"}, {"2,0,0 0,3,0 1,1,1", "0,0,-1", "0,0,5"}, {"2,0,0 0,3,0 1,1,1", "1,1,1", "0,0,0"}, {"2,0,0 0,3,0 1,1,1", "1000,-1000,1000", "0,0,2"},
	} {
		checkLeader(t, readMatrix(c.m), readPoints(c.x)[0], readPoints(c.want)[0], true)
	}
}

// In a lattice with one class, 0 leads all.
func TestLeadersOfLatticesWithOneClass(t *testing.T) {
	for _, m := range unimodularMatrices() {
		zero := make([]int, len(m))
		checkIndex(t, m, 1)
		checkLeaders(t, m, [][]int{zero})
		checkCell(t, m, [][]int{zero})
		for _, x := range someVectors(len(m)) {
			checkLeader(t, m, x, zero, true)
			checkSame(t, m, x, zero, true)
		}
	}
}

func TestClassLeaderIsInTheClass(t *testing.T) {
	led, failed := 0, 0
	for _, m := range someLattices() {
		for k, x := range someVectors(len(m)) {
			got, ok := impl.ClassLeader(m, x)
			if !hasForm(m) {
				failed++
				checkVector(t, fmt.Sprintf("ClassLeader(%v, %v)", m, x), got, ok, nil, false)
				continue
			}
			led++
			if !ok || len(got) != len(m) || !areClassmates(m, x, got) {
				t.Fatalf("ClassLeader(%v, %v) = %v, %v", m, x, got, ok)
			}
			for i, n := range diagonalOf(m) {
				if got[i] < 0 || got[i] >= n {
					t.Fatalf("ClassLeader(%v, %v) = %v", m, x, got)
				}
			}
			if k%16 == 0 {
				checkLeader(t, m, got, got, true)
			}
		}
	}
	if led < 20000 || failed < 20000 {
		t.Errorf("only %d leaders and %d failures", led, failed)
	}
}

// Every vector of the class has the same leader, and a leader is its own.
func TestLeadersOfOneClass(t *testing.T) {
	for _, m := range smallLattices() {
		if !hasForm(m) {
			continue
		}
		for k, leader := range pointsBelow(diagonalOf(m)) {
			checkLeader(t, m, leader, leader, true)
			for _, factors := range [][]int{{1, 0, 0}, {-3, 2, 5}, {20, -30, -10 - k}} {
				x := difference(leader, sumOfRows(m, factors...))
				if isWithin([][]int{x}, 1000) {
					checkLeader(t, m, x, leader, true)
				}
			}
		}
	}
}

// The class counts, and not the rows by which the lattice is told.
func TestLeadersOfTheSameLattice(t *testing.T) {
	for _, m := range smallLattices() {
		form, ok := impl.HermiteOf(m)
		if !ok {
			continue
		}
		turned := slices.Clone(m)
		slices.Reverse(turned)
		turned[0] = negative(turned[0])
		for _, x := range someVectors(len(m))[:8] {
			want, ok := impl.ClassLeader(m, x)
			checkLeader(t, form, x, want, ok)
			checkLeader(t, turned, x, want, ok)
		}
		checkLeaders(t, form, impl.ClassLeaders(m))
		checkLeaders(t, turned, impl.ClassLeaders(m))
	}
}

func TestClassLeaderRefuses(t *testing.T) {
	for size := 1; size <= 3; size++ {
		for _, m := range unimodularMatrices() {
			if len(m) != size {
				continue
			}
			for n := range 6 {
				if n != size {
					checkLeader(t, m, make([]int, n), nil, false)
				}
			}
			for _, x := range noVectors() {
				checkLeader(t, m, x, nil, false)
			}
			for place := range size {
				for _, n := range []int{1000, -1000} {
					x := make([]int, size)
					x[place] = n
					checkLeader(t, m, x, make([]int, size), true)
					x[place] += n / 1000
					checkLeader(t, m, x, nil, false)
				}
			}
		}
	}
}

func TestLatticesRefuseMatrices(t *testing.T) {
	for _, m := range append(noMatrices(), flatMatrices()...) {
		checkIndex(t, m, 0)
		checkLeaders(t, m, nil)
		checkCell(t, m, nil)
		for n := range 5 {
			x := make([]int, n)
			checkLeader(t, m, x, nil, false)
			checkSame(t, m, x, x, false)
		}
		for _, row := range m {
			checkLeader(t, m, row, nil, false)
			checkSame(t, m, row, row, false)
		}
	}
}

// Where HermiteOf fails there are no leaders, but there are cell points.
func TestLatticesWithoutForm(t *testing.T) {
	for _, m := range formless() {
		if hasForm(m) || indexOf(m) < 101 || indexOf(m) > 500 {
			t.Fatalf("%v is no matrix to test with", m)
		}
		checkIndex(t, m, indexOf(m))
		checkLeaders(t, m, nil)
		for _, x := range append(someVectors(len(m)), m...) {
			checkLeader(t, m, x, nil, false)
			checkSame(t, m, x, x, false)
		}
		checkJustTheCell(t, m)
	}
}

func checkLeaders(t *testing.T, m [][]int, want [][]int) {
	t.Helper()
	got := impl.ClassLeaders(m)
	if !areSame(got, want) || (got == nil) != (want == nil) {
		t.Errorf("ClassLeaders(%s) = %s, want %s", shown(m), shown(got), shown(want))
	}
}

func TestClassLeaders(t *testing.T) {
	for m, want := range map[string]string{
		"1": "0", "-1": "0", "3": "0 1 2", "-3": "0 1 2", "-12": "0 1 2 3 4 5 6 7 8 9 10 11",
		"2,0 0,3": "0,0 0,1 0,2 1,0 1,1 1,2", "0,3 2,0": "0,0 0,1 0,2 1,0 1,1 1,2", "3,0 0,-2": "0,0 0,1 1,0 1,1 2,0 2,1", "1,1 0,2": "0,0 0,1", "2,0 1,1": "0,0 0,1", "2,1 0,1": "0,0 1,0", "2,1 -1,1": "0,0 0,1 0,2", "2,2 0,2": "0,0 0,1 1,0 1,1", "2,1 1,1": "0,0",
		"2,0,0 0,2,0 0,0,2": "0,0,0 0,0,1 0,1,0 0,1,1 1,0,0 1,0,1 1,1,0 1,1,1", "2,0,0 0,3,0 1,1,1": "0,0,0 0,0,1 0,0,2 0,0,3 0,0,4 0,0,5", "2,1,1 0,1,0 0,0,1": "0,0,0 1,0,0", "1,1,1 0,-3,0 0,0,1": "0,0,0 0,1,0 0,2,0", "1,1,0 1,0,1 0,1,1": "0,0,0 0,0,1",
	} {
		checkLeaders(t, readMatrix(m), readPoints(want))
	}
}

// Promise 8: there are as many classes as the determinant tells.
func TestThereAreAsManyClassesAsTheDeterminantTells(t *testing.T) {
	listed, refused := 0, 0
	for _, m := range someLattices() {
		if !hasForm(m) || indexOf(m) > 500 {
			refused++
			checkLeaders(t, m, nil)
			continue
		}
		listed++
		checkLeaders(t, m, pointsBelow(diagonalOf(m)))
		if n := len(impl.ClassLeaders(m)); n != impl.LatticeIndex(m) || n != sizeOf(impl.DetOf(m)) {
			t.Errorf("%d classes of %v, whose determinant is %d", n, m, impl.DetOf(m))
		}
	}
	if listed < 2000 || refused < 500 {
		t.Errorf("only %d lists, and %d matrices without", listed, refused)
	}
}

// Every vector is in just one of the classes.
func TestClassesHaveAllVectors(t *testing.T) {
	for _, text := range []string{"-4", "1,1 0,2", "2,1 -1,1", "2,0 0,3", "3,1 1,2", "0,-3 2,1", "2,0,0 0,3,0 1,1,1", "1,1,0 1,0,1 0,1,1", "1,1,1 1,-1,1 1,1,-1"} {
		m := readMatrix(text)
		leaders := impl.ClassLeaders(m)
		for _, x := range pointsOfBox(len(m), 4) {
			count := 0
			for _, leader := range leaders {
				if impl.SameClass(m, x, leader) {
					count++
				}
			}
			if count != 1 {
				t.Errorf("%v is in %d classes of %v", x, count, m)
			}
		}
	}
}

// No matrix with numbers to 100 on its form's diagonal has the index 501, 502 or 503.
func TestClassesAtTheLimit(t *testing.T) {
	for text, classes := range map[string]bool{
		"5,0 0,100": true, "100,0 0,5": true, "-20,7 0,25": true, "20,7 0,-25": true, "10,-3 0,50": true, "0,5 100,3": true, "5,0,0 0,10,0 0,0,10": true, "1,0,0 0,5,0 0,0,100": true, "-5,2,3 0,10,4 0,0,10": true,
		"7,0 0,72": false, "72,0 0,-7": false, "21,5 0,24": false, "51,0 0,10": false, "1,0,0 0,7,0 0,0,72": false, "8,1,1 0,7,2 0,0,-9": false, "100,0 0,100": false, "100,0,0 0,100,0 0,0,100": false,
	} {
		m := readMatrix(text)
		if !hasForm(m) || indexOf(m) != 500 && classes || indexOf(m) <= 500 && !classes {
			t.Fatalf("%v is no matrix to test with", m)
		}
		checkIndex(t, m, indexOf(m))
		if classes {
			checkLeaders(t, m, pointsBelow(diagonalOf(m)))
			checkJustTheCell(t, m)
		} else {
			checkLeaders(t, m, nil)
			checkCell(t, m, nil)
		}
		// Single leaders are told for any index.
		zero := make([]int, len(m))
		checkLeader(t, m, m[0], zero, true)
		checkSame(t, m, m[0], m[1], true)
	}
}

func checkSame(t *testing.T, m [][]int, x []int, y []int, want bool) {
	t.Helper()
	if got := impl.SameClass(m, x, y); got != want {
		t.Errorf("SameClass(%s, %s, %s) = %v", shown(m), shown([][]int{x}), shown([][]int{y}), got)
	}
}

func TestSameClass(t *testing.T) {
	m := readMatrix("2,0 0,3")
	checkSame(t, m, []int{0, 0}, []int{0, 0}, true)
	checkSame(t, m, []int{0, 0}, []int{2, -3}, true)
	checkSame(t, m, []int{0, 0}, []int{1, 0}, false)
	checkSame(t, m, []int{0, 0}, []int{0, 1}, false)
	checkSame(t, m, []int{1, 2}, []int{-1, -1}, true)
	checkSame(t, m, []int{1, 2}, []int{2, 1}, false)
	checkSame(t, m, []int{1000, -1000}, []int{-1000, -1}, true)
	checkSame(t, m, []int{1000, -1000}, []int{-1000, 1000}, false)
	checkSame(t, readMatrix("100"), []int{1000}, []int{-1000}, true)
	checkSame(t, readMatrix("100"), []int{1000}, []int{999}, false)
	checkSame(t, readMatrix("1,1 0,2"), []int{1, 0}, []int{0, 1}, true)
	checkSame(t, readMatrix("1,1 0,2"), []int{1, 0}, []int{0, 0}, false)
	checkSame(t, readMatrix("2,0,0 0,3,0 1,1,1"), []int{1, 0, 0}, []int{0, 0, 3}, true)
	checkSame(t, readMatrix("2,0,0 0,3,0 1,1,1"), []int{1, 0, 0}, []int{0, 0, 2}, false)
}

func TestSameClassIsTheDifference(t *testing.T) {
	counts := map[bool]int{}
	numbers := rand.New(rand.NewPCG(8, 8))
	for k, m := range someLattices() {
		for range 12 {
			x, y := make([]int, len(m)), make([]int, len(m))
			for i := range x {
				most := []int{2, 5, 30, 1000}[k%4]
				x[i], y[i] = numbers.IntN(2*most+1)-most, numbers.IntN(2*most+1)-most
			}
			want := hasForm(m) && areClassmates(m, x, y)
			counts[want]++
			checkSame(t, m, x, y, want)
			checkSame(t, m, y, x, want)
			checkSame(t, m, x, x, hasForm(m))
		}
	}
	if counts[true] < 3000 || counts[false] < 3000 {
		t.Errorf("too few pairs of a kind: %v", counts)
	}
}

func TestSameClassRefuses(t *testing.T) {
	for _, m := range unimodularMatrices() {
		right := make([]int, len(m))
		for n := range 6 {
			wrong := make([]int, n)
			if n == len(m) {
				wrong[0] = 1001
			}
			checkSame(t, m, right, wrong, false)
			checkSame(t, m, wrong, right, false)
			checkSame(t, m, wrong, wrong, false)
		}
		for _, x := range noVectors() {
			checkSame(t, m, right, x, false)
			checkSame(t, m, x, right, false)
			checkSame(t, m, x, x, false)
			checkSame(t, m, x, nil, false)
		}
	}
}

func checkCell(t *testing.T, m [][]int, want [][]int) {
	t.Helper()
	got := impl.CellPoints(m)
	if !areSame(got, want) || (got == nil) != (want == nil) {
		t.Errorf("CellPoints(%s) = %s, want %s", shown(m), shown(got), shown(want))
	}
}

// checkJustTheCell needs an index from 1 to 500. In the cell there are as many
// points as the index, one in each class, so that a list of so many points of
// the cell, each once, has all of them.
func checkJustTheCell(t *testing.T, m [][]int) {
	t.Helper()
	list := impl.CellPoints(m)
	if len(list) != indexOf(m) {
		t.Fatalf("CellPoints(%v) has %d points", m, len(list))
	}
	for k, x := range list {
		if len(x) != len(m) || !isInCell(m, x) {
			t.Fatalf("CellPoints(%v) has %v, which is not in the cell", m, x)
		}
		if k > 0 && slices.Compare(list[k-1], x) >= 0 {
			t.Fatalf("CellPoints(%v) has %v, and then %v", m, list[k-1], x)
		}
	}
}

func TestCellPoints(t *testing.T) {
	for m, want := range map[string]string{
		"1": "0", "-1": "0", "3": "0 1 2", "-3": "-2 -1 0",
		// A point at which a factor is 0 counts, and one at which a factor is 1 does not.
		"2,0 0,3": "0,0 0,1 0,2 1,0 1,1 1,2", "2,0 0,-3": "0,-2 0,-1 0,0 1,-2 1,-1 1,0", "-2,0 0,3": "-1,0 -1,1 -1,2 0,0 0,1 0,2", "0,-3 -2,0": "-1,-2 -1,-1 -1,0 0,-2 0,-1 0,0",
		"1,1 0,2": "0,0 0,1", "0,2 1,1": "0,0 0,1", "1,1 0,-2": "0,-1 0,0", "-1,-1 0,2": "0,0 0,1", "2,2 0,1": "0,0 1,1", "2,1 -1,1": "0,0 0,1 1,1", "-1,1 2,1": "0,0 0,1 1,1", "-2,-1 1,-1": "-1,-1 0,-1 0,0", "2,-1 1,1": "0,0 1,0 2,0",
		"1,0 3,1": "0,0", "1,0 3,2": "0,0 2,1", "1,0 -3,2": "0,0 -1,1", "3,0 0,1": "0,0 1,0 2,0", "2,2 2,-2": "0,0 1,-1 1,0 1,1 2,-1 2,0 2,1 3,0", "5,2 3,4": "0,0 1,1 2,1 2,2 3,2 3,3 4,2 4,3 4,4 5,3 5,4 6,4 6,5 7,5",
		"2,0,0 0,2,0 0,0,2": "0,0,0 0,0,1 0,1,0 0,1,1 1,0,0 1,0,1 1,1,0 1,1,1", "-2,0,0 0,1,0 0,0,2": "-1,0,0 -1,0,1 0,0,0 0,0,1", "1,1,0 1,0,1 0,1,1": "0,0,0 1,1,1", "-1,-1,0 -1,0,-1 0,-1,-1": "-1,-1,-1 0,0,0",
		"2,0,0 0,3,0 1,1,1": "0,0,0 0,1,0 0,2,0 1,0,0 1,1,0 1,2,0", "1,0,0 0,1,0 1,2,3": "0,0,0 1,1,1 1,2,2", "1,0,0 0,1,0 -1,-2,-3": "0,-1,-2 0,0,-1 0,0,0",
	} {
		points := readPoints(want)
		slices.SortFunc(points, slices.Compare[[]int])
		checkCell(t, readMatrix(m), points)
	}
}

// All points of a box around the cell are asked for their factors.
func TestCellPointsAreAllPointsOfTheCell(t *testing.T) {
	asked := 0
	for _, m := range smallLattices() {
		low, high := make([]int, len(m)), make([]int, len(m))
		for _, row := range m {
			for k, n := range row {
				low[k], high[k] = low[k]+min(n, 0)-1, high[k]+max(n, 0)+1
			}
		}
		var want [][]int
		for _, step := range pointsBelow(difference(high, low)) {
			x := difference(low, negative(step))
			if isInCell(m, x) {
				want = append(want, x)
			}
			asked++
		}
		checkCell(t, m, want)
	}
	if asked < 100000 {
		t.Errorf("asked only %d points", asked)
	}
}

func TestThereIsACellPointForEachClass(t *testing.T) {
	listed, refused := 0, 0
	for _, m := range append(someLattices(), formless()...) {
		if indexOf(m) > 500 {
			refused++
			checkCell(t, m, nil)
			continue
		}
		listed++
		checkJustTheCell(t, m)
		if !hasForm(m) {
			continue
		}
		var leaders [][]int
		for _, x := range impl.CellPoints(m) {
			leader, _ := impl.ClassLeader(m, x)
			leaders = append(leaders, leader)
		}
		slices.SortFunc(leaders, slices.Compare[[]int])
		checkLeaders(t, m, leaders)
	}
	if listed < 2000 || refused < 500 {
		t.Errorf("only %d lists, and %d matrices without", listed, refused)
	}
}

func TestCellPointsAtTheLimit(t *testing.T) {
	for text, index := range map[string]int{
		"20,20 -1,24": 500, "24,-1 20,20": 500, "-20,-20 -1,24": 500, "5,0 0,100": 500, "99,1 5,-5": 500, "1,0,0 0,20,20 0,-1,24": 500, "0,0,-1 20,20,0 -1,24,0": 500, "5,1,1 0,10,3 0,0,-10": 500, "5,0 100,100": 500, "100,95 -100,-100": 500,
		"20,21 -1,24": 501, "24,-1 21,20": 501, "-20,-21 -1,24": 501, "1,0,0 0,20,21 0,-1,24": 501, "0,0,-1 20,21,0 -1,24,0": 501, "100,99 3,8": 503, "10,1 8,51": 502,
	} {
		m := readMatrix(text)
		if indexOf(m) != index {
			t.Fatalf("the index of %v is %d", m, indexOf(m))
		}
		checkIndex(t, m, index)
		if index == 500 {
			checkJustTheCell(t, m)
		} else {
			checkCell(t, m, nil)
		}
	}
}

// Sums of rows with factors 0 and 1 are corners of the cell: only 0 is in it.
func TestCellPointsAtTheCorners(t *testing.T) {
	for _, m := range smallLattices() {
		list := impl.CellPoints(m)
		for _, factors := range pointsBelow(slices.Repeat([]int{2}, len(m))) {
			x := sumOfRows(m, factors...)
			found := slices.ContainsFunc(list, func(y []int) bool { return slices.Equal(x, y) })
			if found != (slices.Max(factors) == 0) {
				t.Errorf("CellPoints(%v): the place of %v is wrong", m, x)
			}
		}
	}
}

func TestLatticesKeepTheirArguments(t *testing.T) {
	for _, m := range slices.Concat(noMatrices(), flatMatrices(), formless(), smallLattices()[:400], scatteredMatrices(60)) {
		for n := 1; n <= 3; n++ {
			a, x, y := cloneRows(m), []int{-4, 7, 1000, 99}[:n], []int{5, -1, 0, 98}[:n]
			impl.LatticeIndex(a)
			impl.ClassLeader(a, x)
			impl.ClassLeaders(a)
			impl.SameClass(a, x, y)
			impl.CellPoints(a)
			if !isKept(a, m) || !slices.Equal(x[:4], []int{-4, 7, 1000, 99}) || !slices.Equal(y[:4], []int{5, -1, 0, 98}) {
				t.Fatalf("arguments %s, -4,7,1000 and 5,-1,0 became %s, %v and %v", shown(m), shown(a), x[:4], y[:4])
			}
		}
	}
}

func TestLatticesAreNew(t *testing.T) {
	for _, m := range slices.Concat(unimodularMatrices(), smallLattices()[:100], [][][]int{readMatrix("2,0 0,3"), readMatrix("2,0,0 0,3,0 1,1,1")}) {
		a := cloneRows(m)
		leaders, cell := impl.ClassLeaders(a), impl.CellPoints(a)
		leadersAgain, cellAgain := impl.ClassLeaders(a), impl.CellPoints(a)
		wantLeaders, wantCell := cloneRows(leaders), cloneRows(cell)
		checkNew(t, "ClassLeaders", leaders)
		checkNew(t, "CellPoints", cell)
		if !isKept(a, m) || !areSame(leadersAgain, wantLeaders) || !areSame(cellAgain, wantCell) {
			t.Fatalf("a result shares memory with its argument %v, or with another result", m)
		}
	}
}

// A vector that is its own leader is not the result itself.
func TestLeadersAreNew(t *testing.T) {
	for _, text := range []string{"7", "7,0 0,7", "7,0,0 0,7,0 0,0,7"} {
		m := readMatrix(text)
		x := []int{1, 2, 3, 99}[:len(m)]
		leader, _ := impl.ClassLeader(m, x)
		again, _ := impl.ClassLeader(m, x)
		if !slices.Equal(leader, x) {
			t.Fatalf("ClassLeader(%v, %v) = %v", m, x, leader)
		}
		_ = append(leader, 55)
		for k := range leader {
			leader[k] += 77
		}
		if !slices.Equal(x[:4], []int{1, 2, 3, 99}[:4]) || !slices.Equal(again, x) || !areSame(m, readMatrix(text)) {
			t.Errorf("ClassLeader returns memory of its argument, or of another result: %v, %v", x[:4], again)
		}
	}
}

package tests

import (
	"fmt"
	"math"
	"slices"
	"testing"

	"loop.example/g00959/impl"
)

// term has the Shift and the Gens of a text such as "1,1 2,0", the Shift first.
func term(sign int, text string) impl.Term {
	p := readPoints(text)
	return impl.Term{Sign: sign, Shift: p[0], Gens: p[1:]}
}

func termsEqual(a impl.Term, b impl.Term) bool {
	return a.Sign == b.Sign && slices.Equal(a.Shift, b.Shift) && areSame(a.Gens, b.Gens)
}

func isTermByHand(t impl.Term) bool {
	if sizeOf(t.Sign) != 1 || len(t.Shift) != 2 || !isWithin([][]int{t.Shift}, 1000) || !isWithin(t.Gens, 30) || len(t.Gens) > 2 {
		return false
	}
	for _, v := range t.Gens {
		if len(v) != 2 || v[0] == 0 && v[1] == 0 {
			return false
		}
	}
	return len(t.Gens) < 2 || leftOf([]int{0, 0}, t.Gens[0], t.Gens[1]) != 0
}

// noGens are vectors that are not among the Gens of any term.
func noGens() [][]int {
	list := [][]int{nil, {}, {0}, {1}, {30}, {0, 0}, {0, 0, 0}, {1, 0, 0}, {0, 1, 0}, {1, 1, 1}, {1, 2, 3, 4}, make([]int, 1000)}
	for _, n := range []int{31, -31, 32, 60, 1000, 1001, 1 << 32, 1<<32 + 1, 1 << 61, math.MaxInt64, -math.MaxInt64, math.MinInt64} {
		list = append(list, []int{n, 0}, []int{0, n}, []int{n, 1}, []int{-1, n}, []int{n, n}, []int{n})
	}
	return list
}

// noShifts are the Shift of no term.
func noShifts() [][]int {
	return append(noVectors(), []int{0}, []int{1}, []int{1000}, []int{0, 0, 0}, []int{1, 0, 0}, []int{1, 2, 3}, []int{1001, 1001}, []int{-1001, 1000}, []int{1000, -1001})
}

// dependentGens are two and two on one line through 0,0.
func dependentGens() [][][]int {
	var list [][][]int
	for _, text := range []string{
		"1,0 1,0", "0,1 0,1", "1,1 1,1", "1,1 2,2", "2,2 1,1", "2,4 3,6", "30,0 1,0", "0,30 0,7", "30,30 1,1", "28,-14 -2,1", "30,29 30,29",
		"1,0 -1,0", "0,1 0,-1", "1,1 -1,-1", "3,-6 -2,4", "30,-29 -30,29", "30,30 -30,-30", "-30,0 1,0", "0,-30 0,30",
	} {
		list = append(list, readPoints(text))
	}
	return list
}

// noTerms are refused, each for one reason or for several ones.
func noTerms() []impl.Term {
	gens := [][][]int{nil, readPoints("1,0"), readPoints("1,0 0,1")}
	list := []impl.Term{{}, {Sign: 1}, {Sign: -1}, {Sign: 1, Gens: gens[2]}, {Shift: []int{0, 0}}}
	for _, g := range gens {
		for _, sign := range []int{0, 2, -2, 3, -3, 1 << 32, 1<<32 + 1, math.MaxInt64, math.MinInt64} {
			list = append(list, impl.Term{Sign: sign, Shift: []int{0, 0}, Gens: g})
		}
		for _, shift := range noShifts() {
			list = append(list, impl.Term{Sign: 1, Shift: shift, Gens: g}, impl.Term{Sign: -1, Shift: shift, Gens: g})
		}
	}
	for _, v := range noGens() {
		for _, g := range [][][]int{{v}, {v, {1, 0}}, {{0, 1}, v}, {v, {-7, 30}}, {{30, -1}, v}, {v, v}} {
			list = append(list, impl.Term{Sign: 1, Shift: []int{0, 0}, Gens: g}, impl.Term{Sign: -1, Shift: []int{1, 1}, Gens: g})
		}
	}
	for _, g := range dependentGens() {
		list = append(list, impl.Term{Sign: 1, Shift: []int{0, 0}, Gens: g}, impl.Term{Sign: -1, Shift: []int{3, -4}, Gens: g})
	}
	for _, text := range []string{"0,0 1,0 0,1 1,1", "0,0 1,0 0,1 1,0", "0,0 1,2 -1,3 4,4", "0,0 0,0 1,0 0,1", "0,0 1,0 0,1 0,0", "0,0 1,0 1,0 0,1", "0,0 1,0 0,1 -1,0 0,-1"} {
		list = append(list, term(1, text), term(-1, text))
	}
	return append(list, impl.Term{Sign: 1, Shift: []int{0, 0}, Gens: make([][]int, 1000)}, impl.Term{Sign: 1, Shift: []int{0, 0}, Gens: slices.Repeat([][]int{{1, 0}, {0, 1}}, 500)})
}

// someTermTexts are those of terms with no, one and two Gens, with common divisors, and at the limits.
func someTermTexts() []string {
	return []string{
		"0,0", "1,-1", "1000,1000", "-1000,-1000", "-1000,1000",
		"0,0 1,0", "0,0 0,-1", "3,4 2,0", "3,4 2,4", "-3,4 -6,9", "0,0 30,30", "0,0 -30,30", "1000,-1000 30,-30", "-1000,0 1,0", "5,5 0,30",
		"0,0 1,0 0,1", "0,0 0,1 1,0", "1,1 2,0 0,3", "1,1 0,3 2,0", "0,0 1,2 2,1", "0,0 2,2 2,-2", "-7,3 1,-1 -1,-1", "0,0 30,29 29,30", "0,0 29,30 30,29", "0,0 30,-30 30,30", "0,0 -30,-30 30,-30", "1000,1000 -1,0 0,-1", "-1000,-1000 30,1 1,30", "2,2 1,0 -30,1", "2,2 1,0 -30,-1", "0,0 4,6 6,4",
	}
}

func someTerms() []impl.Term {
	var list []impl.Term
	for _, text := range someTermTexts() {
		list = append(list, term(1, text), term(-1, text))
	}
	return list
}

func TestSeriesLimits(t *testing.T) {
	if impl.MaxTerms != 60 {
		t.Errorf("MaxTerms = %d", impl.MaxTerms)
	}
}

func checkIsTerm(t *testing.T, a impl.Term, want bool) {
	t.Helper()
	if got := impl.IsTerm(a); got != want {
		t.Errorf("IsTerm(%.100v) = %v", fmt.Sprint(a), got)
	}
}

func TestIsTerm(t *testing.T) {
	for _, a := range someTerms() {
		checkIsTerm(t, a, true)
	}
	for _, shift := range readPoints("0,0 1000,0 0,1000 -1000,0 0,-1000 1000,-1000 999,-999") {
		for _, g := range [][][]int{nil, {}, readPoints("1,0"), readPoints("30,-30"), readPoints("1,0 0,1"), readPoints("-30,30 30,30")} {
			checkIsTerm(t, impl.Term{Sign: 1, Shift: shift, Gens: g}, true)
			checkIsTerm(t, impl.Term{Sign: -1, Shift: shift, Gens: g}, true)
		}
	}
}

func TestIsTermOfAllSmallGens(t *testing.T) {
	list := pointsOfBox(2, 4)
	for _, u := range list {
		one := impl.Term{Sign: 1, Shift: []int{2, -3}, Gens: [][]int{u}}
		checkIsTerm(t, one, isTermByHand(one))
		for _, v := range list {
			two := impl.Term{Sign: -1, Shift: []int{2, -3}, Gens: [][]int{u, v}}
			checkIsTerm(t, two, isTermByHand(two))
		}
	}
}

// Each vector of a somewhat greater box than the limits allow stands as the only one of the Gens, as the first and as the second one.
func TestGensAtTheLimits(t *testing.T) {
	for _, v := range pointsOfBox(2, 32) {
		lists := [][][]int{{v}}
		for _, other := range readPoints("1,0 0,-1 30,30 -30,30 29,30") {
			lists = append(lists, [][]int{v, other}, [][]int{other, v})
		}
		for _, g := range lists {
			a := impl.Term{Sign: 1, Shift: []int{0, 0}, Gens: g}
			checkIsTerm(t, a, isTermByHand(a))
		}
	}
}

func TestTermsRefuse(t *testing.T) {
	good := term(1, "0,0 1,0 0,1")
	for _, a := range noTerms() {
		if isTermByHand(a) {
			t.Fatalf("%.100v is a term", fmt.Sprint(a))
		}
		checkIsTerm(t, a, false)
		points := append(readPoints("0,0 1,0 0,1 1,1 2,0 3,-4 -1,0 1000,1000 0 0,0,0"), a.Shift)
		for _, x := range append(points, a.Gens[:min(3, len(a.Gens))]...) {
			checkTermAt(t, a, x, 0)
			checkSeriesAt(t, []impl.Term{a}, x, 0)
			checkSeriesAt(t, []impl.Term{good, a}, x, 0)
			checkSeriesAt(t, []impl.Term{a, good}, x, 0)
		}
	}
}

func checkTermAt(t *testing.T, a impl.Term, x []int, want int) {
	t.Helper()
	if got := impl.TermAt(a, x); got != want {
		t.Errorf("TermAt(%.100v, %.80v) = %d, want %d", fmt.Sprint(a), fmt.Sprint(x), got, want)
	}
}

func checkSeriesAt(t *testing.T, list []impl.Term, x []int, want int) {
	t.Helper()
	if got := impl.SeriesAt(list, x); got != want {
		t.Errorf("SeriesAt(%.100v, %.80v) = %d, want %d", fmt.Sprint(list), fmt.Sprint(x), got, want)
	}
}

func TestTermAt(t *testing.T) {
	for _, c := range []struct{ term, in, out string }{
		{"0,0", "0,0", "1,0 0,1 -1,0 0,-1 1,1 1000,1000"},
		{"1,-1", "1,-1", "0,0 1,0 0,-1 -1,1 2,-2 1,1"},
		{"1000,-1000", "1000,-1000", "-1000,1000 0,0 999,-1000 1000,-999"},
		// Shift itself, Shift plus the only one of the Gens, behind Shift, between the multiples, and beside the line.
		{"1,1 2,0", "1,1 3,1 5,1 999,1", "-1,1 0,1 2,1 4,1 1000,1 -3,1 1,2 3,0 3,2 1,0 2,2 -999,1"},
		{"0,0 2,4", "0,0 2,4 4,8 500,1000", "1,2 3,6 -2,-4 -1,-2 4,6 2,3 2,5 4,2 -2,4 2,-4"},
		{"0,0 0,-3", "0,0 0,-3 0,-6 0,-999", "0,3 0,-1 0,-2 0,-4 0,-1000 3,0 -3,0 1,-3"},
		{"3,4 -6,9", "3,4 -3,13 -9,22", "9,-5 1,7 -1,10 5,1 -6,9 6,-9 0,0 -3,12 -4,13"},
		{"0,0 30,30", "0,0 30,30 60,60 990,990", "1,1 15,15 29,29 31,31 -30,-30 1000,1000 30,0 30,31"},
		{"1000,-1000 -30,30", "1000,-1000 970,-970 10,-10 -20,20 -980,980", "0,0 1000,-970 -1000,1000 999,-999"},
		{"-1000,-1000 1,1", "-1000,-1000 0,0 1000,1000 7,7", "0,1 1,0 -1000,-999 1000,999"},
		// The first quarter, and one with gaps; the order of the Gens does not matter.
		{"0,0 1,0 0,1", "0,0 1,0 0,1 1,1 1000,1000 1000,0 0,1000", "-1,0 0,-1 -1,-1 1,-1 -1,1 1000,-1 -1,1000"},
		{"0,0 0,1 1,0", "0,0 1,0 0,1 1,1 1000,1000 1000,0 0,1000", "-1,0 0,-1 -1,-1 1,-1 -1,1 1000,-1 -1,1000"},
		{"1,1 2,0 0,3", "1,1 3,1 1,4 3,4 5,7 999,1000", "0,0 2,1 1,2 1,3 2,4 3,3 -1,1 1,-2 -1,4 3,-2 1000,1000 4,4"},
		{"1,1 0,3 2,0", "1,1 3,1 1,4 3,4 5,7 999,1000", "0,0 2,1 1,2 1,3 2,4 3,3 -1,1 1,-2 -1,4 3,-2 1000,1000 4,4"},
		// Both factors are whole, or just one, or none; the sum of both halves of the Gens is not there.
		{"0,0 2,2 2,-2", "0,0 2,2 2,-2 4,0 4,4 6,-2 6,2 1000,1000 1000,-1000", "1,1 1,-1 2,0 1,0 3,1 3,-1 6,0 -2,2 -2,-2 0,2 -4,0 0,4 0,-4 5,1"},
		{"0,0 1,2 2,1", "0,0 1,2 2,1 3,3 2,4 4,5 999,999", "1,1 2,2 1,0 0,1 5,5 -1,-2 1,-1 -1,1 3,0 0,3 2,5 1000,999 1000,1000"},
		{"0,0 2,1 1,2", "0,0 1,2 2,1 3,3 2,4 4,5 999,999", "1,1 2,2 1,0 0,1 5,5 -1,-2 1,-1 -1,1 3,0 0,3 2,5 1000,999"},
		{"2,2 1,0 -30,1", "2,2 3,2 -28,3 -27,3 1000,2 -58,4 1000,35 -998,36 -88,5 -1000,1000", "1,2 -29,3 0,2 2,1 3,1 32,1 -59,4 -1000,35 0,0"},
		{"2,2 1,0 -30,-1", "2,2 3,2 -28,1 -27,1 1000,2 -58,0 0,0 -1000,-1000", "1,2 -29,1 0,2 2,3 3,3 32,3 -59,0 -1000,-31"},
		{"0,0 30,29 29,30", "0,0 30,29 29,30 59,59 30,29 60,58 944,944", "1,1 2,2 58,58 30,30 29,29 -30,-29 -59,-59 885,886 1,-1 -1,1 30,-29"},
		{"1000,1000 -1,0 0,-1", "1000,1000 999,1000 1000,999 0,0 -1000,-1000 -1000,1000", "1001,1000 1000,1001 1001,1001 0 0,0,0"},
	} {
		for _, sign := range []int{1, -1} {
			a := term(sign, c.term)
			for _, x := range readPoints(c.in) {
				checkTermAt(t, a, x, sign)
				checkSeriesAt(t, []impl.Term{a}, x, sign)
			}
			for _, x := range readPoints(c.out) {
				checkTermAt(t, a, x, 0)
				checkSeriesAt(t, []impl.Term{a}, x, 0)
			}
		}
	}
}

// At the limits of vectors, a point counts; beyond them, it would be a sum, but it is no vector.
func TestTermsAtTheLimitsOfVectors(t *testing.T) {
	for _, c := range []struct {
		term, at string
		want     int
	}{
		{"1000,0 1,0", "1000,0", 1}, {"1000,0 1,0", "1001,0", 0}, {"999,0 1,0", "1000,0", 1}, {"0,-999 0,-1", "0,-1000", 1}, {"0,-1000 0,-1", "0,-1001", 0},
		{"999,999 1,0 0,1", "1000,1000", 1}, {"999,999 1,0 0,1", "1001,1000", 0}, {"999,999 1,0 0,1", "1000,1001", 0}, {"-1000,-1000 1,0 0,1", "1000,1000", 1}, {"1000,1000 -1,0 0,-1", "-1000,-1000", 1}, {"1000,1000 -1,0 0,-1", "-1001,-1000", 0},
		// The way from Shift is longer than a vector.
		{"-1000,1000 1,-1", "1000,-1000", 1}, {"-1000,1000 2,-2", "1000,-1000", 1}, {"-1000,1000 3,-3", "1000,-1000", 0}, {"-1000,1000 3,-3", "998,-998", 1}, {"1000,0 -30,0 0,30", "-980,30", 1}, {"1000,0 -30,0 0,30", "-1000,30", 0},
	} {
		checkTermAt(t, term(1, c.term), readPoints(c.at)[0], c.want)
		checkTermAt(t, term(-1, c.term), readPoints(c.at)[0], -c.want)
	}
}

func TestTermAtRefusesNoPoints(t *testing.T) {
	for _, a := range someTerms() {
		checkTermAt(t, a, a.Shift, a.Sign)
		for _, x := range append(noVectors(), a.Shift[:1], []int{0}, []int{0, 0, 0}, []int{a.Shift[0], a.Shift[1], 0}, []int{a.Shift[0], a.Shift[1], 0, 0}) {
			checkTermAt(t, a, x, 0)
			checkSeriesAt(t, []impl.Term{a}, x, 0)
		}
	}
}

// sumsOf are all sums of the Gens with factors below most.
func sumsOf(gens [][]int, most int) map[[2]int]bool {
	sums := map[[2]int]bool{{0, 0}: true}
	for _, v := range gens {
		longer := map[[2]int]bool{}
		for x := range sums {
			for k := range most {
				longer[[2]int{x[0] + k*v[0], x[1] + k*v[1]}] = true
			}
		}
		sums = longer
	}
	return sums
}

func TestTermAtIsAtTheSums(t *testing.T) {
	var lists [][][]int
	rays := pointsOfBox(2, 2)
	for _, u := range rays {
		lists = append(lists, [][]int{u})
		for _, v := range rays {
			lists = append(lists, [][]int{u, v})
		}
	}
	inside := 0
	for _, g := range lists {
		a := impl.Term{Sign: -1, Shift: []int{7, -5}, Gens: g}
		if !isTermByHand(a) {
			continue
		}
		// No factor is greater: they are at most determinants of a point of the box and one of the Gens.
		sums := sumsOf(g, 25)
		for _, x := range pointsOfBox(2, 6) {
			want := 0
			if sums[[2]int{x[0], x[1]}] {
				want = -1
				inside++
			}
			checkTermAt(t, a, []int{x[0] + 7, x[1] - 5}, want)
		}
	}
	if inside < 8000 {
		t.Errorf("only %d points at terms", inside)
	}
}

// The factors of greater Gens are asked by their sums, and by the points beside these.
func TestTermAtOfGreatGens(t *testing.T) {
	for _, a := range someTerms() {
		sums := sumsOf(a.Gens, 40)
		for x := range sumsOf(a.Gens, 4) {
			for _, step := range pointsOfBox(2, 1) {
				y := [2]int{x[0] + step[0], x[1] + step[1]}
				at := []int{a.Shift[0] + y[0], a.Shift[1] + y[1]}
				want := 0
				if sums[y] && isWithin([][]int{at}, 1000) {
					want = a.Sign
				}
				checkTermAt(t, a, at, want)
			}
		}
	}
}

func TestSeriesAt(t *testing.T) {
	quarter, line, point := term(1, "0,0 1,0 0,1"), term(-1, "0,0 1,0"), term(1, "0,0")
	for _, c := range []struct {
		list []impl.Term
		at   string
		want int
	}{
		{nil, "0,0", 0}, {[]impl.Term{}, "0,0", 0}, {nil, "1,1", 0},
		{[]impl.Term{quarter, line}, "0,0", 0}, {[]impl.Term{quarter, line}, "0,1", 1}, {[]impl.Term{quarter, line}, "3,0", 0}, {[]impl.Term{line}, "3,0", -1}, {[]impl.Term{quarter, line}, "-1,0", 0},
		{[]impl.Term{quarter, line, point}, "0,0", 1}, {[]impl.Term{quarter, line, point}, "1,0", 0}, {[]impl.Term{quarter, quarter, quarter}, "2,2", 3}, {[]impl.Term{line, line, point}, "0,0", -1}, {[]impl.Term{line, line, point}, "5,0", -2},
		{[]impl.Term{quarter, term(1, "2,2 1,0 0,1"), term(1, "4,4 -1,0 0,-1")}, "3,3", 3}, {[]impl.Term{quarter, term(1, "2,2 1,0 0,1"), term(1, "4,4 -1,0 0,-1")}, "1,1", 2}, {[]impl.Term{quarter, term(1, "2,2 1,0 0,1"), term(1, "4,4 -1,0 0,-1")}, "-1,4", 1},
	} {
		checkSeriesAt(t, c.list, readPoints(c.at)[0], c.want)
	}
}

func TestSeriesAtLimits(t *testing.T) {
	one, back := term(1, "0,0 1,0 0,1"), term(-1, "1,1 1,0 0,1")
	for _, n := range []int{1, 2, 59, 60, 61, 62, 120, 5000} {
		want := n
		if n > 60 {
			want = 0
		}
		checkSeriesAt(t, slices.Repeat([]impl.Term{one}, n), []int{1, 1}, want)
		checkSeriesAt(t, slices.Repeat([]impl.Term{back}, n), []int{1, 1}, -want)
		checkSeriesAt(t, slices.Repeat([]impl.Term{back}, n), []int{0, 0}, 0)
	}
	// One that is no term stands in each place.
	for _, bad := range []impl.Term{{}, term(0, "0,0"), term(2, "1,1"), term(1, "0,0 0,0"), term(-1, "0,0 1,1 2,2"), term(1, "0"), term(1, "0,1001"), term(1, "0,0 1,0 0,1 1,1")} {
		for _, n := range []int{1, 2, 3, 60} {
			for k := range n {
				list := slices.Repeat([]impl.Term{one}, n)
				list[k] = bad
				checkSeriesAt(t, list, []int{1, 1}, 0)
				checkSeriesAt(t, list, []int{0, 0}, 0)
			}
		}
	}
}

func checkSeriesOfCone(t *testing.T, c impl.Cone, shift []int, want []impl.Term, wantOK bool) {
	t.Helper()
	got, ok := impl.SeriesOfCone(c, shift)
	if ok != wantOK || !slices.EqualFunc(got, want, termsEqual) {
		t.Errorf("SeriesOfCone(%.80v, %.80v) = %.200v, %v, want %.200v, %v", fmt.Sprint(c), fmt.Sprint(shift), fmt.Sprint(got), ok, fmt.Sprint(want), wantOK)
	}
}

func TestSeriesOfCone(t *testing.T) {
	for _, c := range []struct{ cone, shift, plus, minus string }{
		{"1,0 0,1", "0,0", "1,0 0,1", ""},
		{"0,1 -1,0", "5,-7", "0,1 -1,0", ""},
		{"30,29 -29,-28", "1000,-1000", "30,29 -29,-28", ""},
		{"1,0 1,2", "0,0", "1,0 1,1 1,1 1,2", "1,1"},
		{"1,0 -1,2", "-1000,1000", "1,0 0,1 0,1 -1,2", "0,1"},
		{"1,0 2,5", "3,4", "1,0 1,1 1,1 1,2 1,2 2,5", "1,1 1,2"},
		{"3,1 1,2", "-3,0", "3,1 2,1 2,1 1,1 1,1 1,2", "2,1 1,1"},
		{"30,-1 30,1", "0,1", "30,-1 1,0 1,0 30,1", "1,0"},
		{"5,-3 -7,11", "1,1", "5,-3 2,-1 2,-1 1,0 1,0 0,1 0,1 -1,2 -1,2 -3,5 -3,5 -5,8 -5,8 -7,11", "2,-1 1,0 0,1 -1,2 -3,5 -5,8"},
	} {
		shift := readPoints(c.shift)[0]
		var want []impl.Term
		for pair := range slices.Chunk(readPoints(c.plus), 2) {
			want = append(want, impl.Term{Sign: 1, Shift: shift, Gens: pair})
		}
		for _, v := range readPoints(c.minus) {
			want = append(want, impl.Term{Sign: -1, Shift: shift, Gens: [][]int{v}})
		}
		checkSeriesOfCone(t, readCone(c.cone), shift, want, true)
	}
}

// seriesByHand has the neighbors of the split first, then the vectors between.
func seriesByHand(split [][]int, shift []int) []impl.Term {
	var plus, minus []impl.Term
	for k := 1; k < len(split); k++ {
		plus = append(plus, impl.Term{Sign: 1, Shift: shift, Gens: [][]int{split[k-1], split[k]}})
		if k > 1 {
			minus = append(minus, impl.Term{Sign: -1, Shift: shift, Gens: [][]int{split[k-1]}})
		}
	}
	return append(plus, minus...)
}

func TestSeriesHasTheTermsOfTheSplit(t *testing.T) {
	small, great := pointsOfBox(2, 4), pointsOfBox(2, 30)
	for _, c := range smallCones(4) {
		checkSeriesOfCone(t, c, []int{-9, 6}, seriesByHand(splitByHand(t, c, small), []int{-9, 6}), true)
	}
	made, refused := 0, 0
	for _, c := range greatCones() {
		want := seriesByHand(splitByHand(t, c, great), []int{1000, -1000})
		if len(want) > 60 {
			refused++
			checkSeriesOfCone(t, c, []int{1000, -1000}, nil, false)
			continue
		}
		made++
		checkSeriesOfCone(t, c, []int{1000, -1000}, want, true)
	}
	if made < 200 || refused < 5 {
		t.Errorf("only %d series, and %d cones with more terms", made, refused)
	}
}

func TestSeriesOfUnimodularConesAreOneTerm(t *testing.T) {
	for _, c := range unimodularCones() {
		for _, shift := range readPoints("0,0 7,-20 1000,1000 -1000,-1000 1000,-1000") {
			checkSeriesOfCone(t, c, shift, []impl.Term{{Sign: 1, Shift: shift, Gens: [][]int{c.U, c.V}}}, true)
		}
	}
}

// A split of 31 vectors has 59 terms, one of 32 has 61, and the greatest one has 119.
func TestSeriesOfConesWithManyVectors(t *testing.T) {
	for _, c := range []struct {
		cone  string
		from  string
		step  string
		count int
	}{
		{"1,0 1,29", "1,0", "0,1", 30}, {"1,0 1,30", "1,0", "0,1", 31}, {"1,-1 1,30", "1,-1", "0,1", 32}, {"1,-2 1,30", "1,-2", "0,1", 33}, {"1,-30 1,30", "1,-30", "0,1", 61},
		{"1,0 -29,30", "1,0", "-1,1", 31}, {"15,1 -15,1", "15,1", "-1,0", 31}, {"16,1 -15,1", "16,1", "-1,0", 32}, {"15,1 -16,1", "15,1", "-1,0", 32}, {"-30,-1 0,-1", "-30,-1", "1,0", 31}, {"-30,-1 1,-1", "-30,-1", "1,0", 32}, {"-30,-1 30,-1", "-30,-1", "1,0", 61}, {"30,1 -30,1", "30,1", "-1,0", 61},
	} {
		split := line(readPoints(c.from)[0], readPoints(c.step)[0], c.count)
		checkSplit(t, readCone(c.cone), split)
		want, ok := seriesByHand(split, []int{2, 3}), c.count < 32
		if !ok {
			want = nil
		}
		checkSeriesOfCone(t, readCone(c.cone), []int{2, 3}, want, ok)
	}
}

// The vectors of these splits stand on two lines; 0 is for a series that is refused.
func TestSeriesOfBentCones(t *testing.T) {
	for text, terms := range map[string]int{"30,-29 1,0": 57, "30,-29 1,1": 59, "30,-29 1,2": 0, "30,-29 29,30": 0, "29,-28 28,29": 59, "28,-27 27,28": 57, "30,-29 0,1": 59, "30,-29 -1,1": 1, "30,-29 -1,2": 0} {
		list, ok := impl.SeriesOfCone(readCone(text), []int{0, 0})
		if ok != (terms > 0) || len(list) != terms {
			t.Errorf("the series of %s has %d terms, %v", text, len(list), ok)
		}
	}
}

func TestSeriesOfConeRefuses(t *testing.T) {
	for _, c := range noCones() {
		checkSeriesOfCone(t, c, []int{0, 0}, nil, false)
		checkSeriesOfCone(t, c, nil, nil, false)
	}
	for _, shift := range noShifts() {
		for _, text := range []string{"1,0 0,1", "1,0 2,5", "30,-1 30,1", "-30,-1 30,-1"} {
			checkSeriesOfCone(t, readCone(text), shift, nil, false)
		}
	}
}

func isInByHand(c impl.Cone, x []int) bool {
	zero := []int{0, 0}
	return leftOf(zero, c.U, x) >= 0 && leftOf(zero, x, c.V) >= 0
}

// Promise 10: the series of a cone has each of its points once.
func TestTheSeriesOfAConeHasEachPointOnce(t *testing.T) {
	inside, most := 0, 0
	for _, c := range append(smallCones(3), greatCones()[:120]...) {
		for _, shift := range [][]int{{0, 0}, {-4, 9}, {998, -999}} {
			list, ok := impl.SeriesOfCone(c, shift)
			if !ok {
				continue
			}
			most = max(most, len(list))
			split := impl.SplitCone(c)
			// On the rays between, two parts count, and a term is taken away.
			for _, x := range append(pointsOfBox(2, 4), split...) {
				at, want := difference(x, negative(shift)), 0
				if isWithin([][]int{at}, 1000) && isInByHand(c, x) {
					want = 1
					inside++
				}
				checkSeriesAt(t, list, at, want)
			}
		}
	}
	if inside < 20000 || most != 59 {
		t.Errorf("only %d points in cones, and no series with more than %d terms", inside, most)
	}
}

// Far from the corner of the cone, and on the rays themselves.
func TestSeriesFarFromTheCorner(t *testing.T) {
	for _, c := range append(smallCones(2), greatCones()[:60]...) {
		list, ok := impl.SeriesOfCone(c, []int{0, 0})
		if !ok {
			continue
		}
		points := someVectors(2)
		for _, v := range impl.SplitCone(c) {
			for _, k := range []int{1, 2, 7, 33} {
				points = append(points, []int{k * v[0], k * v[1]}, []int{-k * v[0], -k * v[1]}, []int{k*v[0] + 1, k * v[1]}, []int{k * v[0], k*v[1] - 1})
			}
		}
		for _, x := range points {
			want := 0
			if isInByHand(c, x) {
				want = 1
			}
			checkSeriesAt(t, list, x, want)
		}
	}
}

func TestTermsOfASeriesAreTerms(t *testing.T) {
	for _, c := range someCones() {
		list, _ := impl.SeriesOfCone(c, []int{1000, -1000})
		for _, a := range list {
			checkIsTerm(t, a, true)
		}
	}
}

func checkCountTerms(t *testing.T, list []impl.Term, want int) {
	t.Helper()
	if got := impl.CountTerms(list); got != want {
		t.Errorf("CountTerms(%.100v) = %d, want %d", fmt.Sprint(list), got, want)
	}
}

func TestCountTerms(t *testing.T) {
	plus, minus := term(1, "0,0 1,0 0,1"), term(-1, "0,0 1,0")
	for _, c := range []struct {
		list []impl.Term
		want int
	}{
		{nil, 0}, {[]impl.Term{}, 0}, {[]impl.Term{plus}, 1}, {[]impl.Term{minus}, -1}, {[]impl.Term{plus, minus}, 0}, {[]impl.Term{plus, plus, minus}, 1}, {[]impl.Term{minus, plus, minus}, -1}, {[]impl.Term{minus, minus, minus}, -3},
		{slices.Repeat([]impl.Term{plus}, 60), 60}, {slices.Repeat([]impl.Term{minus}, 61), -61}, {slices.Repeat([]impl.Term{plus}, 5000), 5000}, {slices.Repeat([]impl.Term{plus, minus, minus}, 100), -100},
		// What is no term counts, too: only a Sign of -1 makes a difference.
		{[]impl.Term{{}}, 1}, {[]impl.Term{{Sign: -1}}, -1}, {[]impl.Term{{Sign: 2}, {Sign: -2}, {Sign: math.MinInt64}, {Sign: math.MaxInt64}}, 4}, {[]impl.Term{plus, {}, minus}, 1}, {[]impl.Term{minus, term(0, "0,0"), term(-1, "0,0 0,0"), term(-1, "0")}, -2}, {[]impl.Term{term(1, "0,0 1,1 2,2"), plus, minus}, 1},
	} {
		checkCountTerms(t, c.list, c.want)
	}
}

// There is one part more than there are rays between.
func TestCountTermsOfASeriesIsOne(t *testing.T) {
	for _, c := range someCones() {
		if list, ok := impl.SeriesOfCone(c, []int{0, 0}); ok {
			checkCountTerms(t, list, 1)
		}
	}
}

// cloneTerm has the numbers of a, with numbers beyond them that must stay, too.
func cloneTerm(a impl.Term) impl.Term {
	return impl.Term{Sign: a.Sign, Shift: cloneRows([][]int{a.Shift})[0], Gens: cloneRows(a.Gens)}
}

// isKeptTerm reports whether copied is as cloneTerm made it of a.
func isKeptTerm(copied impl.Term, a impl.Term) bool {
	shift := append([][]int{copied.Shift}, []int{97}, []int{96})[:1]
	return copied.Sign == a.Sign && isKept(shift, [][]int{a.Shift}) && isKept(copied.Gens, a.Gens)
}

func TestSeriesKeepTheirArguments(t *testing.T) {
	others := someTerms()
	for k, a := range append(someTerms(), noTerms()...) {
		// The Signs of neighbors differ, so that an order by them would be seen.
		second := others[(k+1)%len(others)]
		one, other, beyond := cloneTerm(a), cloneTerm(second), term(-1, "55,56 57,58")
		list := []impl.Term{one, other, beyond}[:2]
		x := []int{5, -3, 99, 98}[:2]
		impl.IsTerm(one)
		impl.TermAt(one, x)
		impl.SeriesAt(list, x)
		impl.CountTerms(list)
		if !isKeptTerm(one, a) || !isKeptTerm(list[0], a) || !isKeptTerm(list[1], second) || !termsEqual(list[:3][2], term(-1, "55,56 57,58")) || !slices.Equal(x[:4], []int{5, -3, 99, 98}) {
			t.Fatalf("the arguments %.100v and 5,-3 became %v and %v", fmt.Sprint(a), list[:3], x[:4])
		}
	}
	for _, c := range slices.Concat(smallCones(2), greatCones()[:60], noCones()) {
		copied, shift := cloneCone(c), []int{5, -3, 99, 98}[:2]
		impl.SeriesOfCone(copied, shift)
		if !isKeptCone(copied, c) || !slices.Equal(shift[:4], []int{5, -3, 99, 98}) {
			t.Fatalf("the arguments %v and 5,-3 became %v and %v", c, copied, shift[:4])
		}
	}
}

// cloneTerms has all numbers of the list in memory of its own.
func cloneTerms(list []impl.Term) []impl.Term {
	var copied []impl.Term
	for _, a := range list {
		copied = append(copied, cloneTerm(a))
	}
	return copied
}

// spoilTerm changes all that a holds, and writes beyond the ends of its lists.
func spoilTerm(a impl.Term) {
	_ = append(a.Shift, 55, 56)
	_ = append(a.Gens, []int{57}, []int{58}, []int{59})
	for k := range a.Gens {
		_ = append(a.Gens[k], 55, 56)
		for i := range a.Gens[k] {
			a.Gens[k][i] += 77
		}
		// Not only the numbers: the list of the Gens is its own, too.
		a.Gens[k] = nil
	}
	for i := range a.Shift {
		a.Shift[i] += 77
	}
}

// spoilVectors changes the vectors one by one, and asks whether the ones after it stay.
func spoilVectors(t *testing.T, a impl.Term) {
	t.Helper()
	checkNew(t, "SeriesOfCone", append([][]int{a.Shift}, a.Gens...))
}

func TestSeriesAreNew(t *testing.T) {
	for _, c := range slices.Concat(smallCones(2), unimodularCones(), greatCones()[:40]) {
		copied, shift := cloneCone(c), []int{5, -3, 99, 98}[:2]
		list, _ := impl.SeriesOfCone(copied, shift)
		again, _ := impl.SeriesOfCone(copied, shift)
		third, _ := impl.SeriesOfCone(copied, shift)
		want := cloneTerms(list)
		for k := range list {
			spoilTerm(list[k])
			if !slices.EqualFunc(list[k+1:], want[k+1:], termsEqual) {
				t.Fatalf("two terms of the series of %v share memory", c)
			}
		}
		for k := range third {
			spoilVectors(t, third[k])
			if !slices.EqualFunc(third[k+1:], want[k+1:], termsEqual) {
				t.Fatalf("two terms of the series of %v share memory", c)
			}
		}
		if !slices.EqualFunc(again, want, termsEqual) || !isKeptCone(copied, c) || !slices.Equal(shift[:4], []int{5, -3, 99, 98}) {
			t.Fatalf("a series shares memory with its arguments %v and 5,-3, or with another one", c)
		}
	}
}

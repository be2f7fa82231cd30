package tests

import (
	"fmt"
	"math"
	"math/rand/v2"
	"slices"
	"testing"

	"loop.example/g00959/impl"
)

// readCone is the cone of a text such as "1,0 2,5".
func readCone(text string) impl.Cone {
	p := readPoints(text)
	return impl.Cone{U: p[0], V: p[1]}
}

func isPrimitive(v []int) bool {
	return len(v) == 2 && isWithin([][]int{v}, 30) && divisorOf(v) == 1
}

func indexOfCone(c impl.Cone) int { return leftOf([]int{0, 0}, c.U, c.V) }

func isConeByHand(c impl.Cone) bool {
	return isPrimitive(c.U) && isPrimitive(c.V) && indexOfCone(c) > 0
}

// raysOfBox lists the vectors without common divisors whose numbers are from -most to most.
func raysOfBox(most int) [][]int {
	return slices.DeleteFunc(pointsOfBox(2, most), func(v []int) bool { return !isPrimitive(v) })
}

func conesOf(rays [][]int) []impl.Cone {
	var list []impl.Cone
	for _, u := range rays {
		for _, v := range rays {
			if c := (impl.Cone{U: u, V: v}); indexOfCone(c) > 0 {
				list = append(list, c)
			}
		}
	}
	return list
}

// smallCones are all with numbers from -most to most.
func smallCones(most int) []impl.Cone { return conesOf(raysOfBox(most)) }

// greatCones have rays at the limits: narrow and wide ones, those with many vectors, and those with great turns.
func greatCones() []impl.Cone {
	var list []impl.Cone
	for _, text := range []string{
		"30,-29 29,30", "29,-30 30,29", "-30,-29 29,-30", "-29,30 -30,-29", "30,-29 30,29", "-30,29 -29,-30",
		"-30,-1 30,-1", "30,1 -30,1", "1,-30 1,30", "-1,30 -1,-30", "-30,-1 29,-30", "-30,-1 -1,-30", "-30,-23 30,-1", "-30,-13 30,-1", "0,-1 30,29",
		"-30,1 -30,-1", "30,-1 30,1", "-30,-29 -29,-30", "30,29 29,30", "1,30 -1,30", "30,29 -29,-28", "-30,-29 29,28", "-1,-1 30,29", "30,-1 -29,1", "1,0 -29,30", "1,0 -1,30", "1,0 29,30", "1,0 -30,1", "1,0 30,1", "0,-1 1,30", "0,1 -30,-29",
	} {
		list = append(list, readCone(text))
	}
	numbers := rand.New(rand.NewPCG(9, 9))
	rays := raysOfBox(30)
	for range 600 {
		c := impl.Cone{U: rays[numbers.IntN(len(rays))], V: rays[numbers.IntN(len(rays))]}
		if isConeByHand(c) {
			list = append(list, c)
		}
	}
	return list
}

func someCones() []impl.Cone { return append(smallCones(4), greatCones()...) }

// unimodularCones have the determinant 1.
func unimodularCones() []impl.Cone {
	var list []impl.Cone
	for _, text := range []string{
		"1,0 0,1", "0,1 -1,0", "-1,0 0,-1", "0,-1 1,0", "1,0 1,1", "1,1 0,1", "1,0 -1,1", "-1,1 0,-1", "1,0 -30,1", "1,0 30,1", "-1,30 0,-1", "2,1 1,1", "5,7 2,3", "-4,3 -3,2", "30,29 -29,-28", "-1,-1 30,29", "30,29 1,1", "1,1 -30,-29", "29,30 -1,-1", "30,-1 -29,1", "30,1 29,1", "13,8 21,13",
	} {
		list = append(list, readCone(text))
	}
	return list
}

// noRays are the U or V of no cone.
func noRays() [][]int {
	list := [][]int{nil, {}, {0}, {1}, {-1}, {30}, {0, 0, 0}, {1, 0, 0}, {0, 1, 0}, {1, 1, 1}, {1, 0, 0, 0}, make([]int, 1000)}
	for _, text := range []string{"0,0", "2,0", "0,2", "-2,0", "0,-2", "30,0", "0,-30", "2,2", "-2,2", "2,4", "4,6", "-6,4", "3,9", "15,-25", "30,30", "-30,30", "30,28", "30,27", "25,30", "-21,28", "14,-26", "29,29"} {
		list = append(list, readPoints(text)[0])
	}
	for _, n := range []int{31, -31, 32, 37, 1000, 1001, 1 << 32, 1<<32 + 1, 1 << 61, math.MaxInt64, -math.MaxInt64, math.MinInt64} {
		list = append(list, []int{n, 0}, []int{0, n}, []int{n, 1}, []int{-1, n}, []int{n, n}, []int{n, n - 1}, []int{n})
	}
	return list
}

// noCones are refused by every function of the chapter.
func noCones() []impl.Cone {
	list := []impl.Cone{{}, {U: []int{}, V: []int{}}, {U: []int{1, 0}}, {V: []int{0, 1}}}
	for _, text := range []string{
		// The determinant is 0: equal and opposite ones.
		"1,0 1,0", "0,1 0,1", "1,0 -1,0", "-1,0 1,0", "0,1 0,-1", "2,3 2,3", "2,3 -2,-3", "-30,29 30,-29", "30,29 30,29",
		// It is negative.
		"0,1 1,0", "1,0 0,-1", "-1,0 0,1", "1,1 1,0", "2,5 1,0", "1,0 -1,-1", "1,0 30,-1", "29,30 30,29", "29,30 30,-29", "30,-1 -30,-1", "30,29 -1,-1",
	} {
		list = append(list, readCone(text))
	}
	for _, v := range noRays() {
		list = append(list, impl.Cone{U: v, V: []int{0, 1}}, impl.Cone{U: []int{1, 0}, V: v}, impl.Cone{U: v, V: []int{-1, 0}}, impl.Cone{U: []int{-1, -1}, V: v}, impl.Cone{U: v, V: []int{-29, 30}}, impl.Cone{U: []int{30, -29}, V: v}, impl.Cone{U: v, V: v})
	}
	return list
}

func TestConeLimits(t *testing.T) {
	if impl.MaxRay != 30 {
		t.Errorf("MaxRay = %d", impl.MaxRay)
	}
}

func checkIsCone(t *testing.T, c impl.Cone, want bool) {
	t.Helper()
	if got := impl.IsCone(c); got != want {
		t.Errorf("IsCone(%.80v) = %v", fmt.Sprint(c), got)
	}
}

func checkConeIndex(t *testing.T, c impl.Cone, want int) {
	t.Helper()
	if got := impl.ConeIndex(c); got != want {
		t.Errorf("ConeIndex(%.80v) = %d, want %d", fmt.Sprint(c), got, want)
	}
}

func TestConeIndex(t *testing.T) {
	for text, want := range map[string]int{
		"1,0 0,1": 1, "1,0 2,5": 5, "1,0 -2,5": 5, "1,0 -3,5": 5, "3,1 1,2": 5, "1,2 -3,-1": 5, "-1,-2 3,1": 5, "1,-1 1,1": 2, "2,1 -1,2": 5, "0,-1 3,7": 3, "7,-3 -2,5": 29,
		"30,-29 29,30": 1741, "29,-30 30,29": 1741, "30,-29 30,29": 1740, "-30,-1 30,-1": 60, "30,29 29,30": 59, "30,29 -29,-28": 1, "1,0 -29,30": 30, "1,0 30,1": 1,
		"0,1 1,0": 0, "1,0 1,0": 0, "1,0 -1,0": 0, "2,0 0,1": 0, "1,0 0,2": 0, "1,0 31,1": 0, "1,0 1,31": 0, "1 0,1": 0, "1,0 0,1,0": 0, "0,0 0,1": 0,
	} {
		checkConeIndex(t, readCone(text), want)
		checkIsCone(t, readCone(text), want > 0)
	}
}

func TestIsConeOfAllSmallPairs(t *testing.T) {
	rays := pointsOfBox(2, 5)
	for _, u := range rays {
		for _, v := range rays {
			c := impl.Cone{U: u, V: v}
			checkIsCone(t, c, isConeByHand(c))
			if isConeByHand(c) {
				checkConeIndex(t, c, indexOfCone(c))
			} else {
				checkConeIndex(t, c, 0)
			}
		}
	}
}

// Each vector of a somewhat greater box than the limits allow stands as U and as V.
func TestRaysAtTheLimits(t *testing.T) {
	for _, v := range pointsOfBox(2, 33) {
		for _, other := range readPoints("1,0 0,1 -1,0 0,-1 30,29 -29,-30") {
			for _, c := range []impl.Cone{{U: v, V: other}, {U: other, V: v}} {
				checkIsCone(t, c, isConeByHand(c))
			}
		}
	}
}

func TestConesRefuse(t *testing.T) {
	for _, c := range noCones() {
		checkIsCone(t, c, false)
		checkConeIndex(t, c, 0)
		checkSplit(t, c, nil)
		checkTurns(t, c, nil)
		for _, x := range append(readPoints("0,0 1,0 0,1 1,1 -1,0 1 0,0,0"), c.U, c.V) {
			checkInCone(t, c, x, false)
		}
	}
}

func checkInCone(t *testing.T, c impl.Cone, x []int, want bool) {
	t.Helper()
	if got := impl.InCone(c, x); got != want {
		t.Errorf("InCone(%.80v, %.80v) = %v", fmt.Sprint(c), fmt.Sprint(x), got)
	}
}

func TestInCone(t *testing.T) {
	for _, c := range []struct{ cone, in, out string }{
		{"1,0 0,1", "0,0 1,0 0,1 1,1 7,0 0,7 1000,0 0,1000 1000,1000 1,1000", "-1,0 0,-1 -1,-1 1,-1 -1,1 1000,-1 -1,1000 -1000,-1000"},
		{"1,0 2,5", "0,0 1,0 2,5 1,1 1,2 3,1 4,10 3,7 6,15 1000,1000 400,1000 1000,0", "0,1 1,3 -1,0 -2,-5 2,6 4,11 399,1000 1,-1 1000,-1 -1,-1 -3,-1 -1,1"},
		{"1,-1 1,1", "0,0 1,-1 1,1 1,0 2,-1 2,2 1000,-1000 1000,1000 1000,999", "0,1 0,-1 -1,0 -1,1 -1,-1 1,2 1,-2 999,1000 -1000,0 0,1000"},
		// Wider than a quarter, almost a half plane.
		{"1,0 -30,1", "0,0 1,0 -30,1 0,1 -29,1 -1,1 -60,2 5,7 1000,1 -1000,34 -1000,1000", "-1,0 -31,1 -1000,33 0,-1 1,-1 30,-1 1000,-1 -61,2"},
		{"-30,29 -29,-30", "0,0 -30,29 -29,-30 -1,0 -1,-1 0,0 -1000,-1000 -60,58 -2,-2 -58,-60", "1,0 0,1 0,-1 30,-29 29,30 -1,1 -29,29 -29,-31 -1000,1000 1,1"},
		{"30,29 -29,-28", "0,0 30,29 -29,-28 1,1 0,1 -1,0 1000,1000 -58,-56 -28,-27 -29,0", "0,-1 1,0 -1,-1 31,29 29,28 -30,-29 -31,-30 30,28 -30,-30"},
		{"-1,-1 1,0", "0,0 -1,-1 1,0 0,-1 -5,-6 7,0 7,-1", "0,1 -1,0 -5,-4 1,1 7,1 -7,0"},
	} {
		for _, x := range readPoints(c.in) {
			checkInCone(t, readCone(c.cone), x, true)
		}
		for _, x := range readPoints(c.out) {
			checkInCone(t, readCone(c.cone), x, false)
		}
	}
}

// x is in the cone just if ConeIndex times x is a sum of multiples of U and V.
func TestInConeIsASumOfBothRays(t *testing.T) {
	inside := 0
	for _, c := range smallCones(3) {
		sums := map[[2]int]bool{}
		// No factor is greater: both are determinants of vectors with numbers to 3.
		for i := range 19 {
			for j := range 19 {
				sums[[2]int{i*c.U[0] + j*c.V[0], i*c.U[1] + j*c.V[1]}] = true
			}
		}
		d := indexOfCone(c)
		for _, x := range pointsOfBox(2, 3) {
			want := sums[[2]int{d * x[0], d * x[1]}]
			checkInCone(t, c, x, want)
			if want {
				inside++
			}
		}
	}
	if inside < 2000 {
		t.Errorf("only %d points in cones", inside)
	}
}

// A point but 0,0 is on one side of 0,0 or on the other one.
func TestInConeIsOnOneSide(t *testing.T) {
	for _, c := range someCones() {
		checkInCone(t, c, []int{0, 0}, true)
		for _, v := range [][]int{c.U, c.V, sumOfRows([][]int{c.U, c.V}, 1, 1), sumOfRows([][]int{c.U, c.V}, 7, 2), sumOfRows([][]int{c.U, c.V}, 0, 33), sumOfRows([][]int{c.U, c.V}, 33, 0)} {
			checkInCone(t, c, v, true)
			checkInCone(t, c, negative(v), false)
		}
		for _, factors := range [][]int{{1, -1}, {-1, 1}, {30, -1}, {-1, 30}, {-30, 2}, {0, -1}, {-1, 0}} {
			checkInCone(t, c, sumOfRows([][]int{c.U, c.V}, factors...), false)
		}
	}
}

func TestInConeRefusesNoPoints(t *testing.T) {
	for _, c := range append(unimodularCones(), greatCones()[:30]...) {
		for _, x := range append(noVectors(), []int{0}, []int{1}, c.U[:1], []int{0, 0, 0}, []int{c.U[0], c.U[1], 0}, []int{c.V[0], c.V[1], 1}) {
			checkInCone(t, c, x, false)
		}
	}
	for text, in := range map[string]bool{
		"1000,1000": true, "1000,0": true, "0,1000": true, "1001,0": false, "0,1001": false, "1001,1001": false, "1000,1001": false, "1001,1000": false, "1001,1": false, "1,1001": false,
		"1": false, "1,1,1": false, "1,1,0": false, "0,1,1": false, "0,0,0": false, "1,1,1,1": false, "1001": false,
	} {
		checkInCone(t, readCone("1,0 0,1"), readPoints(text)[0], in)
	}
	for text, in := range map[string]bool{"-1000,-1000": true, "-1001,-1000": false, "-1000,-1001": false, "-1000,0": true, "-1001,0": false, "0,-1001": false} {
		checkInCone(t, readCone("-1,0 0,-1"), readPoints(text)[0], in)
	}
}

func checkSplit(t *testing.T, c impl.Cone, want [][]int) {
	t.Helper()
	got := impl.SplitCone(c)
	if !areSame(got, want) || (got == nil) != (want == nil) {
		t.Errorf("SplitCone(%.80v) = %s, want %s", fmt.Sprint(c), shown(got), shown(want))
	}
}

func checkTurns(t *testing.T, c impl.Cone, want []int) {
	t.Helper()
	if got := impl.TurnsOf(c); !slices.Equal(got, want) {
		t.Errorf("TurnsOf(%.80v) = %v, want %v", fmt.Sprint(c), got, want)
	}
}

// line lists count points, each one a step after the one before.
func line(from []int, step []int, count int) [][]int {
	list := [][]int{from}
	for k := 1; k < count; k++ {
		list = append(list, difference(list[k-1], negative(step)))
	}
	return list
}

func TestSplitCone(t *testing.T) {
	for _, c := range []struct {
		cone, split string
		turns       []int
	}{
		{"1,0 2,5", "1,0 1,1 1,2 2,5", []int{2, 3}},
		{"1,0 -3,5", "1,0 0,1 -1,2 -3,5", []int{2, 3}},
		{"1,0 -2,5", "1,0 0,1 -1,3 -2,5", []int{3, 2}},
		{"1,0 1,5", "1,0 1,1 1,2 1,3 1,4 1,5", []int{2, 2, 2, 2}},
		{"1,0 4,5", "1,0 1,1 4,5", []int{5}},
		{"1,0 -1,2", "1,0 0,1 -1,2", []int{2}},
		{"1,-1 1,1", "1,-1 1,0 1,1", []int{2}},
		{"3,1 1,2", "3,1 2,1 1,1 1,2", []int{2, 3}},
		{"3,-2 1,7", "3,-2 2,-1 1,0 1,1 1,2 1,3 1,4 1,5 1,6 1,7", []int{2, 3, 2, 2, 2, 2, 2, 2}},
		{"0,1 -7,-3", "0,1 -1,0 -3,-1 -5,-2 -7,-3", []int{3, 2, 2}},
		{"-2,-3 3,-1", "-2,-3 -1,-2 0,-1 1,-1 2,-1 3,-1", []int{2, 3, 2, 2}},
		{"5,-3 -7,11", "5,-3 2,-1 1,0 0,1 -1,2 -3,5 -5,8 -7,11", []int{3, 2, 2, 3, 2, 2}},
		{"1,0 -8,13", "1,0 0,1 -1,2 -3,5 -8,13", []int{2, 3, 3}},
		{"1,0 -1,30", "1,0 0,1 -1,30", []int{30}},
		{"30,-1 30,1", "30,-1 1,0 30,1", []int{60}},
		{"30,29 29,30", "30,29 1,1 29,30", []int{59}},
		{"30,29 28,29", "30,29 1,1 28,29", []int{58}},
		{"-13,30 -29,-30", "-13,30 -10,23 -7,16 -4,9 -1,2 -1,1 -1,0 -1,-1 -29,-30", []int{2, 2, 2, 5, 2, 2, 30}},
	} {
		checkSplit(t, readCone(c.cone), readPoints(c.split))
		checkTurns(t, readCone(c.cone), c.turns)
	}
}

// With the determinant 1, the split has two vectors and no turns.
func TestSplitUnimodularCones(t *testing.T) {
	list := unimodularCones()
	for _, c := range smallCones(7) {
		if indexOfCone(c) == 1 {
			list = append(list, c)
		}
	}
	for _, c := range list {
		checkIsCone(t, c, true)
		checkConeIndex(t, c, 1)
		checkSplit(t, c, [][]int{c.U, c.V})
		checkTurns(t, c, nil)
	}
	if len(list) < 200 {
		t.Errorf("only %d cones", len(list))
	}
}

func TestSplitConesWithManyVectors(t *testing.T) {
	for _, c := range []struct {
		cone  string
		split [][]int
		turns []int
	}{
		{"-30,-1 30,-1", line([]int{-30, -1}, []int{1, 0}, 61), slices.Repeat([]int{2}, 59)},
		{"30,1 -30,1", line([]int{30, 1}, []int{-1, 0}, 61), slices.Repeat([]int{2}, 59)},
		{"1,-30 1,30", line([]int{1, -30}, []int{0, 1}, 61), slices.Repeat([]int{2}, 59)},
		{"-1,30 -1,-30", line([]int{-1, 30}, []int{0, -1}, 61), slices.Repeat([]int{2}, 59)},
		{"1,0 -29,30", line([]int{1, 0}, []int{-1, 1}, 31), slices.Repeat([]int{2}, 29)},
		{"30,-29 29,30", append(line([]int{30, -29}, []int{-1, 1}, 30), []int{1, 1}, []int{29, 30}), append(slices.Repeat([]int{2}, 28), 3, 30)},
		{"29,-30 30,29", append([][]int{{29, -30}, {1, -1}}, line([]int{1, 0}, []int{1, 1}, 30)...), append([]int{30, 3}, slices.Repeat([]int{2}, 28)...)},
	} {
		checkSplit(t, readCone(c.cone), c.split)
		checkTurns(t, readCone(c.cone), c.turns)
	}
}

// splitByHand looks for each next vector among all of the box, where there must be just one.
func splitByHand(t *testing.T, c impl.Cone, box [][]int) [][]int {
	t.Helper()
	zero := []int{0, 0}
	list := [][]int{c.U}
	for at := c.U; !slices.Equal(at, c.V); at = list[len(list)-1] {
		var found [][]int
		for _, w := range box {
			if k := leftOf(zero, w, c.V); leftOf(zero, at, w) == 1 && k >= 0 && k < leftOf(zero, at, c.V) {
				found = append(found, w)
			}
		}
		if len(found) != 1 {
			t.Fatalf("%v follow %v in the split of %v", found, at, c)
		}
		list = append(list, found...)
	}
	return list
}

// turnsByHand are the quotients, rounded up, of the determinant and that of the second vector and V.
func turnsByHand(c impl.Cone, second []int) []int {
	var turns []int
	d, k := indexOfCone(c), leftOf([]int{0, 0}, second, c.V)
	for k > 0 {
		b := (d + k - 1) / k
		turns = append(turns, b)
		d, k = k, b*k-d
	}
	return turns
}

func TestEachVectorOfTheSplitIsTheOnlyOne(t *testing.T) {
	small, great := pointsOfBox(2, 4), pointsOfBox(2, 30)
	for _, c := range smallCones(4) {
		split := splitByHand(t, c, small)
		checkSplit(t, c, split)
		checkTurns(t, c, turnsByHand(c, split[1]))
	}
	for _, c := range greatCones() {
		split := splitByHand(t, c, great)
		checkSplit(t, c, split)
		checkTurns(t, c, turnsByHand(c, split[1]))
	}
}

// Promise 9: a cone is split into unimodular ones.
func TestAConeIsSplitIntoUnimodularOnes(t *testing.T) {
	most := 0
	for _, c := range someCones() {
		split, turns := impl.SplitCone(c), impl.TurnsOf(c)
		if len(split) < 2 || len(turns) != len(split)-2 || !slices.Equal(split[0], c.U) || !slices.Equal(split[len(split)-1], c.V) {
			t.Fatalf("%v is split into %v, with the turns %v", c, split, turns)
		}
		for k, v := range split[1:] {
			checkConeIndex(t, impl.Cone{U: split[k], V: v}, 1)
			checkInCone(t, c, v, true)
		}
		for k, b := range turns {
			sum := difference(split[k], negative(split[k+2]))
			if b < 2 || !slices.Equal(sum, []int{b * split[k+1][0], b * split[k+1][1]}) {
				t.Fatalf("%v is no turn of %v at %v", b, c, split[k+1])
			}
		}
		most = max(most, len(split))
	}
	if most != 61 {
		t.Errorf("no split has more than %d vectors", most)
	}
}

// A point of the cone is in a part, and in two parts just if it is on a ray between them.
func TestPartsHaveThePointsOfTheCone(t *testing.T) {
	for _, c := range append(smallCones(2), greatCones()[:20]...) {
		split := impl.SplitCone(c)
		for _, x := range pointsOfBox(2, 6) {
			parts, between := 0, 0
			for k, v := range split[1:] {
				if impl.InCone(impl.Cone{U: split[k], V: v}, x) {
					parts++
				}
			}
			for _, v := range split[1 : len(split)-1] {
				if leftOf([]int{0, 0}, v, x) == 0 && v[0]*x[0]+v[1]*x[1] >= 0 {
					between++
				}
			}
			if in := impl.InCone(c, x); !in && parts > 0 || in && parts != between+1 {
				t.Fatalf("%v is in %d parts of %v, and on %d rays between", x, parts, c, between)
			}
		}
	}
}

// The vectors of the split are just those points of the cone that are no sum of two others but 0,0.
func TestSplitHasThePointsThatAreNoSums(t *testing.T) {
	for _, c := range smallCones(3) {
		// A point beyond the parallelogram of U and V is one of the sums.
		points := slices.DeleteFunc(pointsOfBox(2, 6), func(x []int) bool {
			return leftOf([]int{0, 0}, c.U, x) < 0 || leftOf([]int{0, 0}, x, c.V) < 0 || x[0] == 0 && x[1] == 0
		})
		sums := map[[2]int]bool{}
		for _, x := range points {
			for _, y := range points {
				sums[[2]int{x[0] + y[0], x[1] + y[1]}] = true
			}
		}
		var want [][]int
		for _, x := range points {
			if isWithin([][]int{x}, 3) && !sums[[2]int{x[0], x[1]}] {
				want = append(want, x)
			}
		}
		got := impl.SplitCone(c)
		slices.SortFunc(got, slices.Compare[[]int])
		if !areSame(got, want) {
			t.Fatalf("the split of %v has %v, want %v", c, got, want)
		}
	}
}

// A mirror takes the split to one that goes back; a turn by a quarter keeps its order.
func TestSplitsOfMirroredAndTurnedCones(t *testing.T) {
	mirror := func(x []int) []int { return []int{x[1], x[0]} }
	quarter := func(x []int) []int { return []int{-x[1], x[0]} }
	for _, c := range someCones() {
		split, turns := impl.SplitCone(c), impl.TurnsOf(c)
		var mirrored, turned [][]int
		for _, v := range split {
			mirrored, turned = append(mirrored, mirror(v)), append(turned, quarter(v))
		}
		checkSplit(t, impl.Cone{U: quarter(c.U), V: quarter(c.V)}, turned)
		checkTurns(t, impl.Cone{U: quarter(c.U), V: quarter(c.V)}, turns)
		slices.Reverse(mirrored)
		slices.Reverse(turns)
		checkSplit(t, impl.Cone{U: mirror(c.V), V: mirror(c.U)}, mirrored)
		checkTurns(t, impl.Cone{U: mirror(c.V), V: mirror(c.U)}, turns)
	}
}

func checkConeOfTurns(t *testing.T, list []int, want string) {
	t.Helper()
	c, ok := impl.ConeOfTurns(list)
	if want == "" {
		if ok || c.U != nil || c.V != nil {
			t.Errorf("ConeOfTurns(%.80v) = %v, %v", fmt.Sprint(list), c, ok)
		}
		return
	}
	if !ok || !slices.Equal(c.U, readCone(want).U) || !slices.Equal(c.V, readCone(want).V) {
		t.Errorf("ConeOfTurns(%.80v) = %v, %v, want %s", fmt.Sprint(list), c, ok, want)
	}
}

func TestConeOfTurns(t *testing.T) {
	for _, c := range []struct {
		list []int
		want string
	}{
		{[]int{2}, "1,0 -1,2"}, {[]int{3}, "1,0 -1,3"}, {[]int{29}, "1,0 -1,29"}, {[]int{30}, "1,0 -1,30"},
		{[]int{2, 3}, "1,0 -3,5"}, {[]int{3, 2}, "1,0 -2,5"}, {[]int{2, 2}, "1,0 -2,3"}, {[]int{2, 3, 3}, "1,0 -8,13"}, {[]int{4, 5}, "1,0 -5,19"},
		// V is the last one at the limit, or the first one beyond it.
		{[]int{2, 15}, "1,0 -15,29"}, {[]int{2, 16}, ""}, {[]int{15, 2}, "1,0 -2,29"}, {[]int{16, 2}, ""}, {[]int{2, 30}, ""}, {[]int{30, 2}, ""}, {[]int{3, 10}, "1,0 -10,29"}, {[]int{10, 3}, "1,0 -3,29"}, {[]int{3, 11}, ""},
		{[]int{4, 8}, ""}, {[]int{8, 4}, ""}, {[]int{2, 2, 10}, "1,0 -19,28"}, {[]int{2, 2, 11}, ""}, {[]int{7, 2, 3}, ""}, {[]int{2, 3, 2, 4, 2}, ""}, {[]int{30, 30}, ""}, {[]int{30, 30, 30}, ""},
		{slices.Repeat([]int{2}, 9), "1,0 -9,10"}, {slices.Repeat([]int{2}, 10), "1,0 -10,11"}, {slices.Repeat([]int{2}, 11), ""}, {slices.Repeat([]int{2}, 12), ""},
		{[]int{2, 2, 2, 2, 2, 2, 2, 2, 2, 3}, "1,0 -19,21"}, {[]int{3, 2, 2, 2, 2, 2, 2, 2, 2, 2}, "1,0 -10,21"}, {[]int{2, 2, 2, 2, 2, 2, 2, 2, 2, 4}, ""},
		{nil, ""}, {[]int{}, ""}, {[]int{1}, ""}, {[]int{0}, ""}, {[]int{-1}, ""}, {[]int{-2}, ""}, {[]int{-30}, ""}, {[]int{31}, ""}, {[]int{32}, ""}, {[]int{2, 1}, ""}, {[]int{1, 2}, ""}, {[]int{3, 1, 3}, ""}, {[]int{2, 0}, ""}, {[]int{31, 2}, ""}, {[]int{2, 31}, ""}, {[]int{-3, -2}, ""}, {[]int{2, -2}, ""},
		{slices.Repeat([]int{30}, 10), ""}, {slices.Repeat([]int{1}, 10), ""}, {make([]int, 1000), ""}, {slices.Repeat([]int{2}, 1000), ""},
	} {
		checkConeOfTurns(t, c.list, c.want)
	}
}

// With a turn of 1, or with one so great that the product wraps around, V may be within the limits; only the rule refuses these.
func TestConeOfTurnsChecksEachTurn(t *testing.T) {
	for _, list := range [][]int{{2, 2, 2}, {2, 3, 2, 3}, slices.Repeat([]int{2}, 10)} {
		for place := range list {
			for _, n := range []int{1, 0, -1, -2, -30, 31, 32, 1 << 32, 1<<32 + 2, 1 << 62, 1<<62 + 2, math.MaxInt64, math.MinInt64, math.MinInt64 + 2} {
				changed := slices.Clone(list)
				changed[place] = n
				checkConeOfTurns(t, changed, "")
			}
		}
	}
	for last := 3; last <= 30; last++ {
		// The product with the last turn is 2 to the power 64, and at most twice the last turn more.
		for great := range 2 {
			checkConeOfTurns(t, []int{int(math.MaxUint64/uint64(last)) + 1 + great, last}, "")
		}
	}
}

// fraction is the continued fraction of the turns with differences, as its two numbers.
func fraction(turns []int) (int, int) {
	above, below := turns[len(turns)-1], 1
	for k := len(turns) - 2; k >= 0; k-- {
		above, below = turns[k]*above-below, above
	}
	return above, below
}

// someTurns lists all lists of up to four numbers from 2 to 5, and longer ones of 2 and 3.
func someTurns() [][]int {
	var list [][]int
	for length := 1; length <= 10; length++ {
		most := 2
		if length <= 4 {
			most = 4
		}
		edge := slices.Repeat([]int{most}, length)
		for _, x := range pointsBelow(edge) {
			for k := range x {
				x[k] += 2
			}
			list = append(list, x)
		}
	}
	for a := 2; a <= 30; a++ {
		list = append(list, []int{a})
		for b := 2; b <= 30; b++ {
			list = append(list, []int{a, b}, []int{2, a, b}, []int{a, 2, b}, []int{a, b, 2})
		}
	}
	return list
}

// The turns of the cone of a list are that list.
func TestConesHaveTheirTurns(t *testing.T) {
	made, refused := 0, 0
	for _, list := range someTurns() {
		above, below := fraction(list)
		if above > 30 {
			refused++
			checkConeOfTurns(t, list, "")
			continue
		}
		made++
		checkConeOfTurns(t, list, fmt.Sprintf("1,0 %d,%d", -below, above))
		c, _ := impl.ConeOfTurns(list)
		checkIsCone(t, c, true)
		checkTurns(t, c, list)
		if split := impl.SplitCone(c); len(split) < 2 || !slices.Equal(split[1], []int{0, 1}) {
			t.Errorf("the cone of %v is split into %v", list, split)
		}
	}
	if made < 250 || refused < 1000 {
		t.Errorf("only %d cones, and %d lists without", made, refused)
	}
}

// Each cone with U 1,0 and 0,1 after it is that of its turns, unless there are more than 10.
func TestConesAreToldByTheirTurns(t *testing.T) {
	made, refused := 0, 0
	for _, v := range raysOfBox(30) {
		if v[0] >= 0 || v[1] <= -v[0] {
			continue
		}
		c := impl.Cone{U: []int{1, 0}, V: v}
		turns := impl.TurnsOf(c)
		if above, below := fraction(turns); above != v[1] || below != -v[0] {
			t.Errorf("the turns of %v are %v", c, turns)
		}
		if len(turns) > 10 {
			refused++
			checkConeOfTurns(t, turns, "")
			continue
		}
		made++
		checkConeOfTurns(t, turns, "1,0 "+textOfPoints([][]int{v}))
	}
	if made < 200 || refused < 20 {
		t.Errorf("only %d cones, and %d with more turns", made, refused)
	}
}

// cloneCone has the numbers of c, with numbers beyond them that must stay, too.
func cloneCone(c impl.Cone) impl.Cone {
	rows := cloneRows([][]int{c.U, c.V})
	return impl.Cone{U: rows[0], V: rows[1]}
}

// isKeptCone reports whether copied is as cloneCone made it of c.
func isKeptCone(copied impl.Cone, c impl.Cone) bool {
	rows := append([][]int{copied.U, copied.V}, []int{97}, []int{96})[:2]
	return isKept(rows, [][]int{c.U, c.V})
}

func TestConesKeepTheirArguments(t *testing.T) {
	for _, c := range slices.Concat(smallCones(2), greatCones(), noCones()) {
		copied, x := cloneCone(c), []int{5, -3, 99, 98}[:2]
		impl.IsCone(copied)
		impl.ConeIndex(copied)
		impl.InCone(copied, x)
		impl.SplitCone(copied)
		impl.TurnsOf(copied)
		if !isKeptCone(copied, c) || !slices.Equal(x[:4], []int{5, -3, 99, 98}) {
			t.Fatalf("arguments %v and 5,-3 became %v and %v", c, copied, x)
		}
	}
	for _, list := range append(someTurns()[:500], nil, []int{1}, []int{31}, slices.Repeat([]int{2}, 11), slices.Repeat([]int{30}, 10)) {
		copied := cloneRows([][]int{list})
		impl.ConeOfTurns(copied[0])
		if !isKept(copied, [][]int{list}) {
			t.Fatalf("the argument %v became %v", list, copied[0])
		}
	}
}

func TestConesAreNew(t *testing.T) {
	for _, c := range slices.Concat(smallCones(2), unimodularCones(), greatCones()[:40]) {
		copied := cloneCone(c)
		split, again := impl.SplitCone(copied), impl.SplitCone(copied)
		turns, turnsAgain := impl.TurnsOf(copied), impl.TurnsOf(copied)
		wantSplit, wantTurns := cloneRows(split), slices.Clone(turns)
		checkNew(t, "SplitCone", split)
		checkNew(t, "TurnsOf", [][]int{turns})
		if !isKeptCone(copied, c) || !areSame(again, wantSplit) || !slices.Equal(turnsAgain, wantTurns) {
			t.Fatalf("a result shares memory with its argument %v, or with another result", c)
		}
	}
}

func TestConesOfTurnsAreNew(t *testing.T) {
	for _, list := range [][]int{{2}, {2, 3}, {2, 2, 2}, slices.Repeat([]int{2}, 10)} {
		copied := cloneRows([][]int{list})
		c, _ := impl.ConeOfTurns(copied[0])
		again, _ := impl.ConeOfTurns(copied[0])
		want := cloneCone(again)
		checkNew(t, "ConeOfTurns", [][]int{c.U, c.V})
		if !isKept(copied, [][]int{list}) || !areSame([][]int{again.U, again.V}, [][]int{want.U, want.V}) {
			t.Fatalf("a cone shares memory with its turns %v, or with another cone", list)
		}
	}
}

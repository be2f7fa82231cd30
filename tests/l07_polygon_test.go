package tests

import (
	"fmt"
	"math"
	"math/rand/v2"
	"slices"
	"strconv"
	"strings"
	"testing"

	"loop.example/g00959/impl"
)

// readPoints is the list of a text such as "0,0 1,-2", made without the functions under test.
func readPoints(text string) [][]int {
	var list [][]int
	for _, part := range strings.Fields(text) {
		var x []int
		for _, digits := range strings.Split(part, ",") {
			n, err := strconv.Atoi(digits)
			if err != nil {
				panic("no points: " + text)
			}
			x = append(x, n)
		}
		list = append(list, x)
	}
	return list
}

func textOfPoints(list [][]int) string {
	var parts []string
	for _, x := range list {
		parts = append(parts, strings.Trim(strings.ReplaceAll(fmt.Sprint(x), " ", ","), "[]"))
	}
	return strings.Join(parts, " ")
}

// leftOf is positive if x is to the left of the way from a to b, and 0 on its line.
func leftOf(a []int, b []int, x []int) int {
	return (b[0]-a[0])*(x[1]-a[1]) - (x[0]-a[0])*(b[1]-a[1])
}

func isBetween(a []int, b []int, x []int) bool {
	return leftOf(a, b, x) == 0 && (x[0]-a[0])*(x[0]-b[0]) <= 0 && (x[1]-a[1])*(x[1]-b[1]) <= 0
}

func areCoords(list [][]int) bool {
	return !slices.ContainsFunc(list, func(x []int) bool { return len(x) != 2 }) && isWithin(list, 50)
}

// isConvex is what IsPolygon must return: all other corners are to the left of each side.
func isConvex(p [][]int) bool {
	if len(p) < 3 || len(p) > 12 || !areCoords(p) {
		return false
	}
	for k, a := range p {
		if k > 0 && slices.Compare(p[0], a) >= 0 {
			return false
		}
		for i := 2; i < len(p); i++ {
			if leftOf(a, p[(k+1)%len(p)], p[(k+i)%len(p)]) <= 0 {
				return false
			}
		}
	}
	return true
}

// hullBySteps goes from the least point always to the one that leaves none on
// the right, of several the farthest one; it needs at most some hundreds of points.
func hullBySteps(list [][]int) [][]int {
	if len(list) == 0 {
		return nil
	}
	at := slices.MinFunc(list, slices.Compare[[]int])
	hull := [][]int{at}
	for {
		next := at
		for _, x := range list {
			if side := leftOf(at, next, x); slices.Equal(next, at) || side < 0 || side == 0 && isBetween(at, x, next) {
				next = x
			}
		}
		if slices.Equal(next, hull[0]) {
			return hull
		}
		hull, at = append(hull, next), next
	}
}

// fanArea adds the triangles of the first corner.
func fanArea(p [][]int) int {
	sum := 0
	for k := 2; k < len(p); k++ {
		sum += leftOf(p[0], p[k-1], p[k])
	}
	return sum
}

// placeByRay is PlaceOf, told by the sides that a ray from x upwards crosses.
func placeByRay(p [][]int, x []int) int {
	crossed := false
	for k, a := range p {
		b := p[(k+1)%len(p)]
		if isBetween(a, b, x) {
			return 0
		}
		if a[0] > b[0] {
			a, b = b, a
		}
		if a[0] <= x[0] && x[0] < b[0] && leftOf(a, b, x) < 0 {
			crossed = !crossed
		}
	}
	if crossed {
		return 1
	}
	return -1
}

// listed are the whole points of a polygon, and how many of them are on its sides.
func listed(p [][]int) ([][]int, int) {
	var list [][]int
	boundary := 0
	for _, x := range pointsOfBox(2, 50) {
		switch placeByRay(p, x) {
		case 0:
			boundary++
			list = append(list, x)
		case 1:
			list = append(list, x)
		}
	}
	return list, boundary
}

// parabola has corners on a parabola; up to 13 are within -50 to 50.
func parabola(count int) [][]int {
	var p [][]int
	for n := range count {
		p = append(p, []int{n - count/2, (n - count/2) * (n - count/2)})
	}
	return p
}

// roundPolygon has the sides in turn, from the least corner on.
func roundPolygon(at []int, sides ...[]int) [][]int {
	p := [][]int{at}
	for _, s := range sides[:len(sides)-1] {
		at = []int{at[0] + s[0], at[1] + s[1]}
		p = append(p, at)
	}
	return p
}

func twelveCorners() [][]int {
	return roundPolygon([]int{-3, 0}, []int{1, -2}, []int{1, -1}, []int{1, 0}, []int{2, 1}, []int{1, 1}, []int{0, 1},
		[]int{-1, 2}, []int{-1, 1}, []int{-1, 0}, []int{-2, -1}, []int{-1, -1}, []int{0, -1})
}

// knownPolygons are written down, from triangles to the greatest ones.
func knownPolygons() [][][]int {
	var list [][][]int
	for _, text := range []string{
		"0,0 1,0 0,1", "0,0 2,0 0,2", "-1,-1 1,-1 1,1 -1,1", "0,0 3,0 1,2", "-1,-1 2,-1 -1,2", "0,0 5,2 3,4",
		"0,0 1,0 1,1 0,1", "0,-1 1,0 0,0", "-1,0 0,-1 1,0 0,1", "-2,5 0,-7 1,-7 1,3", "-50,-50 50,-50 50,50 -50,50", "-50,0 0,-50 50,0 0,50",
		"-50,-50 50,49 50,50", "-50,-50 -49,-50 50,50", "-50,50 49,-50 50,-50", "-50,-50 50,-50 -50,50", "0,0 50,0 0,50", "0,0 13,8 21,13", "0,0 50,1 49,1",
		"-7,3 -6,-2 0,-4 5,-3 6,1 2,6 -4,6", "10,-20 20,-30 30,-20 30,-10 20,0 10,-10", "1,0 2,-1 3,-1 4,0 4,1 3,2 2,2 1,1",
	} {
		list = append(list, readPoints(text))
	}
	return append(list, parabola(3), parabola(11), parabola(12), twelveCorners())
}

// scatteredPoints lists points, always the same: few and many, near to each other and far.
func scatteredPoints(count int) [][][]int {
	var all [][][]int
	numbers := rand.New(rand.NewPCG(7, 7))
	for k := range count {
		most := []int{1, 2, 3, 5, 9, 20, 50}[k%7]
		var list [][]int
		for range []int{3, 4, 5, 8, 14, 40, 200}[k/7%7] - k/49%2 {
			list = append(list, []int{numbers.IntN(2*most+1) - most, numbers.IntN(2*most+1) - most})
		}
		all = append(all, list)
	}
	return all
}

// somePolygons are the known ones and the hulls of scattered points.
func somePolygons(count int) [][][]int {
	list := knownPolygons()
	for _, points := range scatteredPoints(count) {
		if p := hullBySteps(points); isConvex(p) {
			list = append(list, p)
		}
	}
	return list
}

// noCorners are points that no polygon has.
func noCorners() [][]int {
	list := [][]int{nil, {}, {0}, {1}, {0, 0, 0}, {0, 1, 0}, {1, 0, 1}, {0, 0, 0, 0}, make([]int, 1000)}
	for _, n := range []int{51, -51, 52, 1000, -1000, 1001, 1 << 32, 1<<32 + 1, 1 << 61, math.MaxInt64, math.MinInt64} {
		list = append(list, []int{n, 0}, []int{0, n}, []int{n, n}, []int{n}, []int{0, 0, n})
	}
	return list
}

// otherOrders are the corners of a polygon in orders that are none.
func otherOrders(p [][]int) [][][]int {
	var list [][][]int
	for k := 1; k < len(p); k++ {
		list = append(list, slices.Concat(p[k:], p[:k]))
	}
	clockwise := slices.Clone(p)
	slices.Reverse(clockwise)
	list = append(list, clockwise, slices.Concat(clockwise[len(p)-1:], clockwise[:len(p)-1]))
	if len(p) > 3 {
		exchanged := slices.Clone(p)
		exchanged[1], exchanged[2] = p[2], p[1]
		list = append(list, exchanged)
	}
	return list
}

// starOf takes every step-th corner; all of them if step and their number have no common divisor.
func starOf(p [][]int, step int) [][]int {
	var list [][]int
	for k := range p {
		list = append(list, p[k*step%len(p)])
	}
	return list
}

// turningLists turn to the left at each corner, and begin with the least one,
// but go around more than once.
func turningLists() [][][]int {
	heptagon := readPoints("-7,3 -6,-2 0,-4 5,-3 6,1 2,6 -4,6")
	list := [][][]int{
		starOf(readPoints("-5,1 -3,-5 3,-5 5,1 0,5"), 2), starOf(heptagon, 2), starOf(heptagon, 3), starOf(parabola(11), 4), starOf(parabola(11), 5),
		starOf(twelveCorners(), 5), starOf(parabola(12), 5), starOf(parabola(9), 2), starOf(parabola(9), 4),
	}
	for _, text := range []string{"0,0 1,0 0,1", "-1,-1 1,-1 1,1 -1,1", "-5,1 -3,-5 3,-5 5,1 0,5"} {
		p := readPoints(text)
		list = append(list, slices.Concat(p, p))
	}
	list = append(list, slices.Repeat(readPoints("0,0 1,0 0,1"), 3), slices.Repeat(readPoints("0,0 1,0 0,1"), 4), slices.Repeat(readPoints("0,0 2,0 2,2 0,2"), 3))
	// Around once far outside, and once more inside.
	return append(list, readPoints("-9,0 0,-9 9,0 0,8 -7,0 0,-7 7,0 0,7"), readPoints("-9,0 0,-9 9,0 0,9 -8,1 -3,-6 6,0 0,6"))
}

// noPolygons are lists that every function of the chapter but HullOf refuses.
func noPolygons() [][][]int {
	list := [][][]int{nil, {}, {{0, 0}}, {{0, 0}, {1, 0}}, {nil, nil, nil}, {{}, {}, {}}, parabola(13), make([][]int, 12), make([][]int, 1000)}
	for _, text := range []string{
		// Fewer corners, on one line, or equal ones.
		"0,0 0,0", "0,0 0,0 0,0", "0,0 0,0 1,0", "0,0 1,0 0,0", "0,0 1,1 2,2", "-3,0 0,0 3,0", "0,-3 0,0 0,3", "-4,2 0,0 4,-2 6,-3", "0,0 1,0 2,0 3,0 4,0",
		// Three points in a row on one side, at each place.
		"0,0 1,0 2,0 0,1", "0,0 2,0 1,1 0,2", "0,0 2,0 2,2 1,2 0,2", "0,0 2,0 0,2 0,1", "0,0 1,0 2,0 3,0 0,1", "-1,0 0,-1 1,-2 2,0", "0,0 1,0 2,0 1,1 0,2 0,1",
		// Equal corners that follow each other, at each place.
		"0,0 0,0 1,0 0,1", "0,0 1,0 1,0 0,1", "0,0 1,0 0,1 0,1", "0,0 1,0 0,1 0,0", "0,0 2,0 2,2 0,0 0,2",
		// A turn to the right at each place, and a way back.
		"0,0 4,0 1,1 0,4", "0,0 4,0 4,4 2,1", "0,0 1,2 4,0 4,4 0,4", "0,0 4,0 4,4 2,3 0,4", "0,0 4,0 3,2 4,4 0,4", "0,0 2,1 4,0 4,4", "0,0 2,0 1,0 0,1", "0,0 4,0 4,4 4,2 0,2",
		// Sides that cross.
		"0,0 2,2 2,0 0,2", "0,0 2,0 0,2 2,2",
		// Coordinates beyond the limit, and points with one or three numbers.
		"0,0 51,0 0,1", "0,0 1,0 0,51", "-51,0 0,0 0,1", "0,0 1,-51 1,1", "-51,-51 51,-51 51,51 -51,51", "0 1 2", "0,0,0 1,0,0 0,1,0", "0,0,1 1,0,1 0,1,1", "0 1,0 0,1", "0,0 1,0 0,1,0",
	} {
		list = append(list, readPoints(text))
	}
	for _, x := range noCorners() {
		for place := range 3 {
			p := readPoints("0,0 1,0 0,1")
			p[place] = x
			list = append(list, p, slices.Insert(readPoints("-2,-2 2,-2 2,2 -2,2"), place+1, x))
		}
	}
	for _, p := range knownPolygons() {
		list = append(list, otherOrders(p)...)
	}
	return append(list, turningLists()...)
}

func TestPolygonLimits(t *testing.T) {
	if impl.MaxCorners != 12 || impl.MaxCoord != 50 {
		t.Errorf("MaxCorners, MaxCoord = %d, %d", impl.MaxCorners, impl.MaxCoord)
	}
}

func checkIsPolygon(t *testing.T, p [][]int, want bool) {
	t.Helper()
	if got := impl.IsPolygon(p); got != want {
		t.Errorf("IsPolygon(%s) = %v", shown(p), got)
	}
}

func TestIsPolygon(t *testing.T) {
	for _, p := range somePolygons(400) {
		if !isConvex(p) {
			t.Errorf("%v is no polygon to test with", p)
		}
		checkIsPolygon(t, p, true)
		for _, q := range otherOrders(p) {
			checkIsPolygon(t, q, false)
		}
	}
}

func TestIsPolygonOfScatteredLists(t *testing.T) {
	counts := map[bool]int{}
	numbers := rand.New(rand.NewPCG(7, 1))
	for k := range 60000 {
		most := 1 + k%4
		p := make([][]int, 3+k%3)
		for i := range p {
			p[i] = []int{numbers.IntN(2*most+1) - most, numbers.IntN(2*most+1) - most}
		}
		want := isConvex(p)
		checkIsPolygon(t, p, want)
		counts[want]++
	}
	if counts[true] < 1000 || counts[false] < 1000 {
		t.Errorf("only %d polygons, and %d lists that are none", counts[true], counts[false])
	}
}

// Every list of three corners, and of four, with numbers from -1 to 1.
func TestIsPolygonOfAllSmallLists(t *testing.T) {
	lists := [][][]int{nil}
	for range 4 {
		var longer [][][]int
		for _, p := range lists {
			for _, x := range pointsOfBox(2, 1) {
				longer = append(longer, append(slices.Clone(p), x))
			}
		}
		lists = longer
		for _, p := range lists {
			checkIsPolygon(t, p, isConvex(p))
		}
	}
}

func TestTurningListsTurnLeft(t *testing.T) {
	for _, p := range turningLists() {
		for k, a := range p {
			if leftOf(a, p[(k+1)%len(p)], p[(k+2)%len(p)]) <= 0 || slices.Compare(a, p[0]) < 0 {
				t.Errorf("%v turns to the right, or does not begin with the least corner", p)
			}
		}
		checkIsPolygon(t, p, false)
	}
}

func TestCornersAtTheLimits(t *testing.T) {
	checkIsPolygon(t, parabola(12), true)
	checkIsPolygon(t, parabola(13), false)
	checkIsPolygon(t, twelveCorners(), true)
	for place := range 4 {
		for k := range 2 {
			p := readPoints("-50,-50 50,-50 50,50 -50,50")
			checkIsPolygon(t, p, true)
			p[place][k] += p[place][k] / 50
			checkIsPolygon(t, p, false)
			checkHull(t, p, nil, false)
		}
	}
}

func TestPolygonsRefuse(t *testing.T) {
	for _, p := range noPolygons() {
		checkIsPolygon(t, p, false)
		if n := impl.AreaTwice(p); n != -1 {
			t.Errorf("AreaTwice(%s) = %d", shown(p), n)
		}
		if n := impl.BoundaryCount(p); n != -1 {
			t.Errorf("BoundaryCount(%s) = %d", shown(p), n)
		}
		if n := impl.InnerCount(p); n != -1 {
			t.Errorf("InnerCount(%s) = %d", shown(p), n)
		}
		for _, x := range append(pointsOfBox(2, 3), []int{50, 50}) {
			checkPlace(t, p, x, -1)
		}
		if got := impl.PolygonPoints(p); got != nil {
			t.Errorf("PolygonPoints(%s) = %s", shown(p), shown(got))
		}
		if got := impl.PolygonText(p); got != "" {
			t.Errorf("PolygonText(%s) = %q", shown(p), got)
		}
		checkParsePolygon(t, textOfPoints(p), nil, false)
	}
}

func checkHull(t *testing.T, list [][]int, want [][]int, wantOK bool) {
	t.Helper()
	got, ok := impl.HullOf(list)
	checkMatrix(t, "HullOf("+shown(list)+")", got, ok, want, wantOK)
	if !ok && got != nil {
		t.Errorf("HullOf(%s) = %s, false", shown(list), shown(got))
	}
}

func checkHullText(t *testing.T, text string, want string) {
	t.Helper()
	checkHull(t, readPoints(text), readPoints(want), want != "")
}

func TestHullOf(t *testing.T) {
	checkHullText(t, "1,1 2,0 0,2 0,0 1,0 0,0", "0,0 2,0 0,2")
	checkHullText(t, "0,0 1,0 0,1", "0,0 1,0 0,1")
	// Clockwise lists, lists that begin at another corner, and other orders.
	checkHullText(t, "0,0 0,1 1,0", "0,0 1,0 0,1")
	checkHullText(t, "1,0 0,0 0,1", "0,0 1,0 0,1")
	checkHullText(t, "2,2 0,0 2,0 0,2", "0,0 2,0 2,2 0,2")
	checkHullText(t, "0,0 2,2 2,0 0,2", "0,0 2,0 2,2 0,2")
	// Points inside and on the sides, also on the line through the first corner, are no corners.
	checkHullText(t, "0,0 1,0 2,0 3,0 2,1 1,2 0,3 0,2 0,1 1,1", "0,0 3,0 0,3")
	checkHullText(t, "1,1 1,2 0,2 2,2 0,0 0,1 1,0 2,1 2,0", "0,0 2,0 2,2 0,2")
	checkHullText(t, "-1,0 0,0 1,0 0,1 0,-1", "-1,0 0,-1 1,0 0,1")
	checkHullText(t, "0,0 2,1 4,2 6,3 0,1", "0,0 6,3 0,1")
	checkHullText(t, "0,0 0,1 0,2 0,3 1,0", "0,0 1,0 0,3")
	checkHullText(t, "3,0 3,1 3,2 3,3 1,0", "1,0 3,0 3,3")
	// Points that stand twice.
	checkHullText(t, "0,0 0,0 1,0 1,0 0,1 0,1", "0,0 1,0 0,1")
	checkHullText(t, "0,1 0,0 1,0 0,1 0,0 1,0 0,1", "0,0 1,0 0,1")
	checkHullText(t, "0,0 0,0 0,0 0,0 5,0 5,0 5,0 2,0 2,0 2,3 2,3 2,3 2,1 2,1", "0,0 5,0 2,3")
	// The least corner is the first one: first the first number decides, then the second.
	checkHullText(t, "0,3 1,-9 0,-3 5,0", "0,-3 1,-9 5,0 0,3")
	checkHullText(t, "-2,8 -1,-8 4,0", "-2,8 -1,-8 4,0")
	checkHullText(t, "-50,-50 50,50 50,-50 -50,50 0,0", "-50,-50 50,-50 50,50 -50,50")
}

// Lists whose points are all on one line have no hull, however long they are.
func TestHullOfPointsOnOneLine(t *testing.T) {
	for _, text := range []string{
		"", "0,0", "5,-7", "0,0 1,0", "0,0 0,0", "3,4 3,4", "0,0 0,0 0,0", "-50,50 -50,50 -50,50 -50,50", "0,0 0,0 1,0", "0,0 1,0 0,0", "1,0 0,0 0,0", "1,0 0,0 1,0 0,0 1,0",
		"0,0 1,1 2,2", "2,2 0,0 1,1", "0,5 0,1 0,3 0,3 0,-50", "50,0 -50,0 3,0 1,0", "-4,2 0,0 4,-2 6,-3 -4,2", "0,0 7,3 14,6 21,9 -7,-3", "-50,-50 50,50 -50,-50", "50,-50 -50,50 49,-49", "1,1 1,1 1,2 1,2 1,3 1,3",
	} {
		checkHullText(t, text, "")
	}
	for _, step := range [][]int{{1, 0}, {0, 1}, {1, 1}, {1, -1}, {2, 1}, {-1, 2}, {3, -5}} {
		var list [][]int
		for k := range 200 {
			list = append(list, []int{k * 7 % 10 * step[0], k * 7 % 10 * step[1]})
			checkHull(t, list, nil, false)
		}
		// One point beside the line is enough.
		list[77] = []int{-step[1], step[0]}
		checkHull(t, list, hullBySteps(list), true)
	}
}

func TestHullsOfScatteredPoints(t *testing.T) {
	found, without, many := 0, 0, 0
	for _, list := range scatteredPoints(4000) {
		hull := hullBySteps(list)
		switch {
		case len(hull) < 3:
			without++
			checkHull(t, list, nil, false)
		case len(hull) > 12:
			many++
			checkHull(t, list, nil, false)
		default:
			found++
			checkHull(t, list, hull, true)
			slices.Reverse(list)
			checkHull(t, append(list, list[0])[1:], hull, true)
		}
	}
	if found < 2000 || without < 20 || many < 50 {
		t.Errorf("only %d hulls, %d lists on one line and %d hulls with many corners", found, without, many)
	}
}

// The hull is a polygon that has all the points, and each of its corners is one of them.
func TestHullsHaveTheirPoints(t *testing.T) {
	for _, list := range scatteredPoints(1000) {
		hull, ok := impl.HullOf(list)
		if !ok {
			continue
		}
		checkIsPolygon(t, hull, true)
		for _, x := range list {
			if impl.PlaceOf(hull, x) == -1 {
				t.Errorf("%v is outside of the hull %v", x, hull)
			}
		}
		for _, x := range hull {
			if !slices.ContainsFunc(list, func(y []int) bool { return slices.Equal(x, y) }) {
				t.Errorf("%v of the hull %v is not in the list", x, hull)
			}
		}
		checkHull(t, hull, hull, true)
	}
}

func TestHullOfManyPoints(t *testing.T) {
	for _, p := range [][][]int{readPoints("0,0 1,0 0,1"), readPoints("-1,-1 1,-1 1,1 -1,1"), twelveCorners()} {
		inside := [][]int{slices.Clone(p[0])}
		for _, count := range []int{199, 200} {
			list := append(slices.Repeat(inside, count-len(p)), p...)
			checkHull(t, list, p, true)
			checkHull(t, slices.Concat(p, slices.Repeat(inside, count-len(p))), p, true)
		}
		for _, count := range []int{201, 202, 400, 100000} {
			checkHull(t, append(slices.Repeat(inside, count-len(p)), p...), nil, false)
		}
	}
	// All of the 200 points are different, and hardly any is a corner.
	square := pointsOfBox(2, 7)[:200]
	checkHull(t, square, hullBySteps(square), true)
	checkHull(t, pointsOfBox(2, 7)[:201], nil, false)
}

func TestHullsWithManyCorners(t *testing.T) {
	checkHull(t, parabola(11), parabola(11), true)
	checkHull(t, parabola(12), parabola(12), true)
	checkHull(t, parabola(13), nil, false)
	checkHull(t, append(parabola(12), []int{0, 30}, []int{-1, 20}, []int{0, 0}), parabola(12), true)
	checkHull(t, append(parabola(13), []int{0, 30}), nil, false)
	// The thirteenth corner may stand at any place, and a further point may cover corners.
	for place := range 13 {
		p := slices.Insert(twelveCorners(), place, []int{9, 9})
		checkHull(t, p, hullBySteps(p), true)
		checkHull(t, slices.Insert(parabola(12), place, []int{6, 36}), nil, false)
	}
	checkHull(t, append(parabola(13), []int{0, -50}), readPoints("-6,36 0,-50 6,36"), true)
	for _, p := range turningLists() {
		checkHull(t, p, hullBySteps(p), true)
	}
}

func TestHullOfRefusesPoints(t *testing.T) {
	for _, x := range noCorners() {
		for place := range 5 {
			checkHull(t, slices.Insert(readPoints("0,0 3,0 3,3 0,3"), place, x), nil, false)
		}
		checkHull(t, [][]int{x}, nil, false)
		checkHull(t, append(slices.Repeat(readPoints("0,0 3,0 0,3"), 66), x), nil, false)
	}
	// A point within the hull of the others is not left out before it is checked.
	checkHull(t, [][]int{{-50, -50}, {50, -50}, {0, 50}, {0, 0, 0}}, nil, false)
	checkHull(t, [][]int{{-50, -50}, {50, -50}, {0, 50}, {0}}, nil, false)
	for _, n := range []int{50, -50} {
		checkHull(t, [][]int{{0, 0}, {1, 0}, {0, n}}, hullBySteps([][]int{{0, 0}, {1, 0}, {0, n}}), true)
		checkHull(t, [][]int{{0, 0}, {n, 0}, {0, 1}}, hullBySteps([][]int{{0, 0}, {n, 0}, {0, 1}}), true)
	}
}

// checkCounts expects AreaTwice, BoundaryCount and InnerCount.
func checkCounts(t *testing.T, p [][]int, area int, boundary int, inner int) {
	t.Helper()
	if a, b, c := impl.AreaTwice(p), impl.BoundaryCount(p), impl.InnerCount(p); a != area || b != boundary || c != inner {
		t.Errorf("AreaTwice, BoundaryCount and InnerCount(%v) = %d, %d, %d, want %d, %d, %d", p, a, b, c, area, boundary, inner)
	}
}

func TestPolygonCounts(t *testing.T) {
	for _, c := range []struct {
		text                  string
		area, boundary, inner int
	}{
		{"0,0 1,0 0,1", 1, 3, 0}, {"0,0 2,0 0,2", 4, 6, 0}, {"-1,-1 1,-1 1,1 -1,1", 8, 8, 1}, {"0,0 3,0 1,2", 6, 6, 1}, {"-1,-1 2,-1 -1,2", 9, 9, 1}, {"0,0 5,2 3,4", 14, 4, 6},
		{"-50,-50 50,-50 50,50 -50,50", 20000, 400, 9801}, {"-50,0 0,-50 50,0 0,50", 10000, 200, 4901}, {"0,0 13,8 21,13", 1, 3, 0}, {"-50,-50 -49,-50 50,50", 100, 102, 0}, {"-50,-50 50,49 50,50", 100, 102, 0}, {"-50,-50 50,50 49,50", 100, 102, 0}, {"-50,50 49,-50 50,-49", 199, 3, 99},
		{"0,0 50,1 49,1", 1, 3, 0}, {"0,0 6,0 6,4 0,4", 48, 20, 15}, {"-3,-3 3,-1 3,3 -3,1", 48, 12, 19}, {"-2,0 0,-1 2,0 0,1", 8, 4, 3},
	} {
		checkCounts(t, readPoints(c.text), c.area, c.boundary, c.inner)
	}
	checkCounts(t, twelveCorners(), fanArea(twelveCorners()), 12, (fanArea(twelveCorners())-12+2)/2)
}

// Promise 7: the counts are those of the points that are listed without them.
func TestPolygonsHaveThePointsThatAreaAndSidesTell(t *testing.T) {
	withList, withoutList := 0, 0
	for _, p := range somePolygons(350) {
		all, boundary := listed(p)
		area := fanArea(p)
		checkCounts(t, p, area, boundary, len(all)-boundary)
		if area > 2000 {
			withoutList++
			checkPolygonPoints(t, p, nil)
			continue
		}
		withList++
		checkPolygonPoints(t, p, all)
		if 2*len(impl.PolygonPoints(p)) != impl.AreaTwice(p)+impl.BoundaryCount(p)+2 {
			t.Errorf("the polygon %v does not have the points that AreaTwice and BoundaryCount tell", p)
		}
	}
	if withList < 100 || withoutList < 20 {
		t.Errorf("only %d polygons with listed points, and %d without", withList, withoutList)
	}
}

func TestCountsStayForMovedPolygons(t *testing.T) {
	for _, p := range somePolygons(300) {
		for _, v := range [][]int{{1, 0}, {0, -1}, {-7, 20}, {30, -29}} {
			q := cloneRows(p)
			for _, x := range q {
				x[0], x[1] = x[0]+v[0], x[1]+v[1]
			}
			if isWithin(q, 50) {
				checkCounts(t, q, impl.AreaTwice(p), impl.BoundaryCount(p), impl.InnerCount(p))
			}
		}
	}
}

func checkPlace(t *testing.T, p [][]int, x []int, want int) {
	t.Helper()
	if got := impl.PlaceOf(p, x); got != want {
		t.Errorf("PlaceOf(%s, %s) = %d, want %d", shown(p), shown([][]int{x}), got, want)
	}
}

func TestPlaceOf(t *testing.T) {
	p := readPoints("0,0 4,0 4,2 2,4 0,4")
	for want, text := range map[int]string{
		1: "1,1 2,2 3,2 2,3 1,3 3,1",
		// On a side, and at a corner.
		0: "1,0 2,0 3,0 4,1 3,3 1,4 0,1 0,2 0,3 0,0 4,0 4,2 2,4 0,4",
		// Near, far, and on the line of a side beyond it, on both ends of each.
		-1: "4,3 3,4 4,4 -1,1 1,-1 5,1 1,5 1000,1000 -1000,1000 1000,-1000 -1000,-1000 -1,0 5,0 1000,0 -1000,0 4,-1 4,3 4,1000 5,1 1,5 6,0 0,6 -1,4 3,4 -1000,4 0,5 0,-1 0,1000 0,-1000 -1,-1 5,-1 5,5 -1,5",
	} {
		for _, x := range readPoints(text) {
			checkPlace(t, p, x, want)
		}
	}
	// The point of two lines of sides that is outside of others.
	checkPlace(t, readPoints("-1,-1 1,-1 2,1 0,3 -2,1"), []int{-3, -1}, -1)
	checkPlace(t, readPoints("-2,0 -1,-1 1,-1 2,0"), []int{0, -2}, -1)
	checkPlace(t, readPoints("-50,-50 50,49 50,50"), []int{0, 0}, 0)
	checkPlace(t, readPoints("-50,-50 50,48 50,50"), []int{0, -1}, 0)
	checkPlace(t, readPoints("-50,-50 50,47 50,50"), []int{0, -1}, 1)
}

func TestPlaceOfRefusesNoPoints(t *testing.T) {
	p := readPoints("-1,-1 1,-1 1,1 -1,1")
	for _, x := range [][]int{{0}, {0, 0, 0}, {1, 1, 0}, {1}, {0, 0, 5}, {0, 0, 0, 0}} {
		checkPlace(t, p, x, -1)
	}
	for _, x := range noVectors() {
		checkPlace(t, p, x, -1)
	}
	// A product with such a number wraps around, and could be of any sign.
	for _, n := range []int{1 << 61, 1 << 62, 1 << 63 >> 1, math.MaxInt64, math.MinInt64, 1<<32 + 1} {
		for _, x := range [][]int{{n, 0}, {0, n}, {n, n}, {n, -n}, {n, 1}} {
			checkPlace(t, p, x, -1)
			checkPlace(t, readPoints("-50,-50 50,-50 50,50 -50,50"), x, -1)
		}
	}
}

func TestPlacesOfAllPoints(t *testing.T) {
	counts := map[int]int{}
	far := readPoints("1000,1000 -1000,1000 1000,0 0,1000 0,-1000 51,51 -51,0 0,51 100,-100")
	for k, p := range somePolygons(140) {
		points := pointsOfBox(2, 8)
		if k%5 == 0 {
			points = pointsOfBox(2, 51)
		}
		for _, x := range slices.Concat(points, p, far) {
			want := placeByRay(p, x)
			counts[want]++
			checkPlace(t, p, x, want)
		}
		// On the lines of the sides, on both ends.
		for i, a := range p {
			b := p[(i+1)%len(p)]
			checkPlace(t, p, []int{2*b[0] - a[0], 2*b[1] - a[1]}, -1)
			checkPlace(t, p, []int{2*a[0] - b[0], 2*a[1] - b[1]}, -1)
			checkPlace(t, p, a, 0)
		}
	}
	if counts[1] < 1000 || counts[0] < 1000 || counts[-1] < 1000 {
		t.Errorf("too few points of a kind: %v", counts)
	}
}

func checkPolygonPoints(t *testing.T, p [][]int, want [][]int) {
	t.Helper()
	got := impl.PolygonPoints(p)
	if !areSame(got, want) || (got == nil) != (want == nil) {
		t.Errorf("PolygonPoints(%s) = %s, want %s", shown(p), shown(got), shown(want))
	}
}

func TestPolygonPoints(t *testing.T) {
	checkPolygonPoints(t, readPoints("0,0 1,0 0,1"), readPoints("0,0 0,1 1,0"))
	checkPolygonPoints(t, readPoints("0,0 2,0 0,2"), readPoints("0,0 0,1 0,2 1,0 1,1 2,0"))
	checkPolygonPoints(t, readPoints("-1,-1 1,-1 1,1 -1,1"), pointsOfBox(2, 1))
	checkPolygonPoints(t, readPoints("-2,5 -1,-1 0,3"), readPoints("-2,5 -1,-1 -1,0 -1,1 -1,2 -1,3 -1,4 0,3"))
	checkPolygonPoints(t, readPoints("0,0 13,8 21,13"), readPoints("0,0 13,8 21,13"))
	checkPolygonPoints(t, readPoints("48,50 49,48 50,50"), readPoints("48,50 49,48 49,49 49,50 50,50"))
	checkPolygonPoints(t, readPoints("-50,-50 -48,-50 -49,-48"), readPoints("-50,-50 -49,-50 -49,-49 -49,-48 -48,-50"))
}

func TestPolygonPointsAtTheLimit(t *testing.T) {
	for text, area := range map[string]int{
		"0,0 50,0 0,40": 2000, "-1,40 0,0 50,1": 2001, "0,0 50,0 1,40": 2000, "-50,-50 50,-50 50,-40 -50,-40": 2000, "-20,-20 20,-20 20,5 -20,5": 2000,
		"-1,1 49,-38 49,2": 2000, "0,0 43,0 0,47": 2021, "0,0 1,-50 40,1": 2001, "-50,-50 49,0 50,20": 1930, "-50,-50 50,-30 50,-10": 2000, "-40,0 0,-25 40,0": 2000, "-40,0 0,-25 40,0 39,1": 2080,
		"0,0 27,-50 47,-13": 1999, "-50,-50 50,-50 50,50 -50,50": 20000,
	} {
		p := readPoints(text)
		all, _ := listed(p)
		if area > 2000 {
			all = nil
		}
		if got := impl.AreaTwice(p); got != area {
			t.Errorf("AreaTwice(%s) = %d, want %d", text, got, area)
		}
		checkPolygonPoints(t, p, all)
	}
}

func TestPolygonPointsAreInOrder(t *testing.T) {
	for _, p := range somePolygons(300) {
		list := impl.PolygonPoints(p)
		for k := 1; k < len(list); k++ {
			if !impl.BeforeVector(list[k-1], list[k]) {
				t.Fatalf("PolygonPoints(%v) has %v, and then %v", p, list[k-1], list[k])
			}
		}
	}
}

func checkParsePolygon(t *testing.T, text string, want [][]int, wantOK bool) {
	t.Helper()
	got, ok := impl.ParsePolygon(text)
	checkMatrix(t, fmt.Sprintf("ParsePolygon(%.80q)", text), got, ok, want, wantOK)
	if !ok && got != nil {
		t.Errorf("ParsePolygon(%.80q) = %s, false", text, shown(got))
	}
}

func TestPolygonIsParsedFromItsText(t *testing.T) {
	if got := impl.PolygonText([][]int{{-5, 0}, {10, -50}, {0, 50}}); got != "-5,0 10,-50 0,50" {
		t.Errorf("PolygonText = %q", got)
	}
	for _, p := range somePolygons(700) {
		text := impl.PolygonText(p)
		if want := textOfPoints(p); text != want {
			t.Errorf("PolygonText(%v) = %q, want %q", p, text, want)
		}
		checkParsePolygon(t, text, p, true)
	}
}

func TestParsePolygonRefuses(t *testing.T) {
	for _, text := range []string{
		"", " ", "  ", ",", "0,0", "0,0 1,0", "0 1 2", "0,0,0 1,0,0 0,1,0", "0,0,0 1,0 0,1", "0,0 1,0 0,1,0", "0 1,0 0,1",
		// Other or more separators.
		" 0,0 1,0 0,1", "0,0 1,0 0,1 ", "0,0  1,0 0,1", "0,0 1,0  0,1", "0,0 1,0 0,1\n", "\n0,0 1,0 0,1", "0,0\n1,0\n0,1", "0,0\t1,0 0,1", "0,0;1,0;0,1", "0,0,1,0,0,1", "0,0 1,0,0,1", "0 0 1 0 0 1",
		"0, 0 1,0 0,1", "0 ,0 1,0 0,1", "0;0 1;0 0;1", "0.0 1.0 0.1", "0,,0 1,0 0,1", ",0,0 1,0 0,1", "0,0, 1,0 0,1", "0,0 1,0 0,1,", "(0,0) (1,0) (0,1)", "[[0 0] [1 0] [0 1]]", "0,0\x001,0 0,1", "0,0 1,0 0,1\x00", "0,0\u00a01,0 0,1",
		// Corners in another order, and lists that are no polygons.
		"1,0 0,1 0,0", "0,1 0,0 1,0", "0,0 0,1 1,0", "0,0 2,2 2,0 0,2", "0,0 2,0 1,0 0,1", "0,0 1,0 2,0 0,1", "0,0 1,1 2,2", "0,0 0,0 0,0", "0,0 1,0 0,1 0,0", "0,0 1,0 0,1 0,0 1,0 0,1",
		// Numbers that are written otherwise, or are beyond the limits.
		"0,0 01,0 0,1", "0,0 1,00 0,1", "-0,0 1,0 0,1", "0,0 +1,0 0,1", "0,0 1,0 0,0x1", "0,0 1e0,0 0,1", "0,0 1,0 0,1_0", "0,0 1.0,0 0,1", "0,0 1,0 0,--1", "-,0 1,0 0,1", "a,0 1,0 0,1", "0,0 1,0 0,\u0661", "0,0 1,0 0,\xff",
		"0,0 51,0 0,1", "0,0 1,0 0,51", "-51,0 0,-1 0,0", "0,0 1001,0 0,1", "0,0 1000000000000,0 0,1", "0,0 18446744073709551617,0 0,1",
		textOfPoints(parabola(13)), strings.Repeat("0,0 ", 100000) + "0,0", "0,0 1,0 0,1 " + strings.Repeat(" ", 10),
	} {
		checkParsePolygon(t, text, nil, false)
	}
	checkParsePolygon(t, "0,0 1,0 0,1", readPoints("0,0 1,0 0,1"), true)
}

// Of all texts with one byte changed, left out or added, just those are accepted that are the text of what was parsed.
func TestParsePolygonAcceptsNothingElse(t *testing.T) {
	accepted := 0
	for _, text := range []string{"0,0 1,0 0,1", "-10,3 0,-5 12,0", "-1,-1 1,-1 1,1 -1,1", "-7,3 -6,-2 0,-4 5,-3 6,1 2,6 -4,6"} {
		for k := range len(text) + 1 {
			for n := range 256 {
				for _, rest := range []string{text[k:], text[min(k+1, len(text)):]} {
					changed := text[:k] + string([]byte{byte(n)}) + rest
					p, ok := impl.ParsePolygon(changed)
					if ok && (textOfPoints(p) != changed || !isConvex(p)) {
						t.Errorf("ParsePolygon(%q) = %v", changed, p)
					}
					if ok {
						accepted++
					}
				}
			}
		}
	}
	if accepted < 100 {
		t.Errorf("accepted only %d texts", accepted)
	}
}

func TestPolygonsKeepTheirArguments(t *testing.T) {
	for _, p := range slices.Concat(somePolygons(150), noPolygons(), scatteredPoints(100)) {
		q, x := cloneRows(p), append([]int{1, 2}, 99, 98)[:2]
		impl.IsPolygon(q)
		impl.HullOf(q)
		impl.AreaTwice(q)
		impl.BoundaryCount(q)
		impl.InnerCount(q)
		impl.PlaceOf(q, x)
		impl.PolygonPoints(q)
		impl.PolygonText(q)
		if !isKept(q, p) || !slices.Equal(x[:4], []int{1, 2, 99, 98}) {
			t.Fatalf("arguments %v and 1,2 became %v and %v", p, q, x)
		}
	}
}

// checkNew writes to the points of a result, and beyond them.
func checkNew(t *testing.T, call string, list [][]int) {
	t.Helper()
	want := cloneRows(list)
	for k := range list {
		_ = append(list[k], 55, 56, 57)
	}
	for k := range list {
		if !areSame(list[k:], want[k:]) {
			t.Fatalf("the points of one result of %s share memory: %s", call, shown(list))
		}
		for i := range list[k] {
			list[k][i] += 77
		}
	}
}

func TestPolygonsAreNew(t *testing.T) {
	for _, p := range knownPolygons() {
		q := cloneRows(p)
		hull, _ := impl.HullOf(q)
		again, _ := impl.HullOf(q)
		parsed, _ := impl.ParsePolygon(textOfPoints(p))
		points, pointsAgain := impl.PolygonPoints(q), impl.PolygonPoints(q)
		checkNew(t, "HullOf", hull)
		checkNew(t, "ParsePolygon", parsed)
		checkNew(t, "PolygonPoints", points)
		for k := range hull {
			hull[k] = nil
		}
		if !isKept(q, p) || !areSame(again, p) {
			t.Fatalf("a result shares memory with its argument %v, or with another result: %v, %v", p, q, again)
		}
		checkPolygonPoints(t, p, pointsAgain)
	}
}

package tests

import (
	"fmt"
	"math"
	"math/big"
	"math/bits"
	"math/rand/v2"
	"slices"
	"strconv"
	"strings"
	"testing"

	"loop.example/g00959/impl"
)

func rational(den int, num ...int) impl.Rational {
	return impl.Rational{Num: num, Den: den}
}

func rationalsEqual(p impl.Rational, q impl.Rational) bool {
	return p.Den == q.Den && slices.Equal(p.Num, q.Num)
}

// readRational is the point of a text such as "1,-2/3", made without the functions under test.
func readRational(text string) impl.Rational {
	nums, den, broken := strings.Cut(text, "/")
	p := rational(1)
	if broken {
		p.Den, _ = strconv.Atoi(den)
	}
	for _, part := range strings.Split(nums, ",") {
		n, err := strconv.Atoi(part)
		if err != nil {
			panic("no rational: " + text)
		}
		p.Num = append(p.Num, n)
	}
	return p
}

func readRationals(text string) []impl.Rational {
	var list []impl.Rational
	for _, part := range strings.Fields(text) {
		list = append(list, readRational(part))
	}
	return list
}

// fractions are the num, each divided by den.
func fractions(num []int, den int) []*big.Rat {
	var x []*big.Rat
	for _, n := range num {
		x = append(x, big.NewRat(int64(n), int64(den)))
	}
	return x
}

func sumOf(normal []int, x []*big.Rat) *big.Rat {
	sum := new(big.Rat)
	for k, n := range normal {
		sum.Add(sum, new(big.Rat).Mul(big.NewRat(int64(n), 1), x[k]))
	}
	return sum
}

// sideOf is negative, 0 or positive if x is within the half, on its border or beyond it.
func sideOf(h impl.Half, x []*big.Rat) int {
	return sumOf(h.Normal, x).Cmp(big.NewRat(int64(h.Bound), 1))
}

func areWithin(r impl.Region, x []*big.Rat) bool {
	return !slices.ContainsFunc(r.Halves, func(h impl.Half) bool { return sideOf(h, x) > 0 })
}

// solved is the only point on the borders of the halves, by elimination; nil if there is not just one.
func solved(halves []impl.Half) []*big.Rat {
	size := len(halves)
	var rows [][]*big.Rat
	for _, h := range halves {
		rows = append(rows, fractions(append(slices.Clone(h.Normal), h.Bound), 1))
	}
	for k := range size {
		pivot := k
		for pivot < size && rows[pivot][k].Sign() == 0 {
			pivot++
		}
		if pivot == size {
			return nil
		}
		rows[k], rows[pivot] = rows[pivot], rows[k]
		by := new(big.Rat).Inv(rows[k][k])
		for _, x := range rows[k] {
			x.Mul(x, by)
		}
		for i := range rows {
			if factor := new(big.Rat).Set(rows[i][k]); i != k {
				for j, x := range rows[i] {
					x.Sub(x, new(big.Rat).Mul(factor, rows[k][j]))
				}
			}
		}
	}
	var x []*big.Rat
	for _, row := range rows {
		x = append(x, row[size])
	}
	return x
}

// compareFractions is -1, 0 or 1, as CompareRationals asks for it.
func compareFractions(x []*big.Rat, y []*big.Rat) int {
	for k := range x {
		if c := x[k].Cmp(y[k]); c != 0 {
			return c
		}
	}
	return 0
}

// inLowestTerms has the least common multiple of the denominators as its Den.
func inLowestTerms(x []*big.Rat) impl.Rational {
	p := rational(1)
	for _, n := range x {
		d := int(n.Denom().Int64())
		p.Den = p.Den / divisorOfTwo(p.Den, d) * d
	}
	for _, n := range x {
		p.Num = append(p.Num, int(n.Num().Int64())*(p.Den/int(n.Denom().Int64())))
	}
	return p
}

// verticesOf lists what VerticesOf must return for a region.
func verticesOf(r impl.Region) []impl.Rational {
	var all [][]*big.Rat
	for set := range 1 << len(r.Halves) {
		if bits.OnesCount(uint(set)) != r.Dim {
			continue
		}
		var chosen []impl.Half
		for k, h := range r.Halves {
			if set>>k&1 == 1 {
				chosen = append(chosen, h)
			}
		}
		x := solved(chosen)
		isOld := func(y []*big.Rat) bool { return compareFractions(x, y) == 0 }
		if x != nil && areWithin(r, x) && !slices.ContainsFunc(all, isOld) {
			all = append(all, x)
		}
	}
	slices.SortFunc(all, compareFractions)
	var list []impl.Rational
	for _, x := range all {
		list = append(list, inLowestTerms(x))
	}
	return list
}

func checkVertices(t *testing.T, r impl.Region, want []impl.Rational) {
	t.Helper()
	if got := impl.VerticesOf(r); !slices.EqualFunc(got, want, rationalsEqual) {
		t.Errorf("VerticesOf(%s) = %v, want %v", shownRegion(r), got, want)
	}
	isWhole := len(want) > 0 && !slices.ContainsFunc(want, func(p impl.Rational) bool { return p.Den != 1 })
	if got := impl.IsWholeRegion(r); got != isWhole {
		t.Errorf("IsWholeRegion(%s) = %v, but its vertices are %v", shownRegion(r), got, want)
	}
}

// checkVertexTexts expects the vertices of the text as those of the region of the other text.
func checkVertexTexts(t *testing.T, text string, want string) {
	t.Helper()
	checkVertices(t, parsed(text), readRationals(want))
}

// vertexRegions are the regions of someRegions and of pointRegions, and regions
// with bounded points, many vertices, and vertices at which many halves meet.
func vertexRegions() []impl.Region {
	list := append(someRegions(900), pointRegions()...)
	for k, r := range someRegions(600) {
		// Within a box and with a few halves more, there mostly are vertices.
		size := 1 + k%7
		box := region(r.Dim)
		for place := range r.Dim {
			normal := make([]int, r.Dim)
			normal[place] = 1 + k%3
			box.Halves = append(box.Halves, half(size, normal...), half(size+k%5, negative(normal)...))
		}
		for _, h := range r.Halves[:min(len(r.Halves), 8-2*r.Dim)] {
			// A border through a corner of the box, and one near 0.
			if k%2 == 0 {
				h = half(productWith(h.Normal, slices.Repeat([]int{1}, r.Dim)), h.Normal...)
			} else {
				h = half(h.Bound%9+2, h.Normal...)
			}
			box.Halves = append(box.Halves, h)
		}
		list = append(list, box)
	}
	for _, text := range []string{
		"3;1,1,1<2;1,1,-1<2;1,-1,1<2;1,-1,-1<2;-1,1,1<2;-1,1,-1<2;-1,-1,1<2;-1,-1,-1<2",
		"3;1,0,1<0;-1,0,1<0;0,1,1<0;0,-1,1<0;0,0,-1<3", "3;20,20,-20<200;20,-20,20<-200;-20,20,20<200",
		"2;20,20<200;-20,20<200;20,-20<199;-20,-20<199", "2;19,20<200;-20,19<-200;20,-19<199",
	} {
		list = append(list, parsed(text))
	}
	return list
}

func TestVerticesOf(t *testing.T) {
	checkVertexTexts(t, "2;-1,0<0;0,-1<0;1,1<2", "0,0 0,2 2,0")
	checkVertexTexts(t, "2;1,0<2;0,1<1;-2,-1<0", "-1,2/2 2,-4 2,1")
	checkVertexTexts(t, "2;1,0<1;0,1<1;-1,0<1;0,-1<1", "-1,-1 -1,1 1,-1 1,1")
	checkVertexTexts(t, "1;2<3;-1<0", "0 3/2")
	checkVertexTexts(t, "1;1<5", "5")
	checkVertexTexts(t, "1;-3<7", "-7/3")
	checkVertexTexts(t, "1;1<2;1<3;-1<1;-1<5", "-1 2")
	checkVertexTexts(t, "3;-1,0,0<0;0,-1,0<0;0,0,-1<0;1,1,1<3", "0,0,0 0,0,3 0,3,0 3,0,0")
	checkVertexTexts(t, "3;1,0,0<1;0,2,0<1;0,0,3<1", "6,3,2/6")
	checkVertexTexts(t, "3;1,0,0<1;-1,0,0<0;0,1,0<1;0,-1,0<0;0,0,1<1;0,0,-1<0", "0,0,0 0,0,1 0,1,0 0,1,1 1,0,0 1,0,1 1,1,0 1,1,1")
}

func TestRegionsWithoutVertices(t *testing.T) {
	for _, text := range []string{
		// No halves, and fewer than Dim.
		"1", "2", "3", "2;1,0<1", "2;3,5<-7", "3;1,0,0<1", "3;1,0,0<1;0,1,0<1", "3;1,2,3<4;-3,2,1<0",
		// Normals that are not linearly independent.
		"2;1,0<1;-1,0<1", "2;1,2<3;2,4<5;-3,-6<7", "2;1,2<3;1,2<3", "2;1,1<0;-1,-1<0;2,2<0",
		"3;1,0,0<1;0,1,0<1;1,1,0<1;-1,-2,0<5", "3;1,-1,0<1;0,1,-1<1;-1,0,1<1;2,-1,-1<0", "3;1,2,3<1;2,4,6<1;3,2,1<1",
		// No points at all.
		"1;1<0;-1<-1", "1;2<1;-3<-2", "2;1,0<0;0,1<0;-1,-1<-1", "2;1,0<0;-1,0<-1;0,1<2;0,-1<2", "2;1,0<0;-1,0<-1",
		"3;1,0,0<0;0,1,0<0;0,0,1<0;-1,-1,-1<-1", "3;1,0,0<0;-1,0,0<-1;0,1,0<0;0,0,1<0",
	} {
		checkVertexTexts(t, text, "")
	}
	for dim := 1; dim <= 3; dim++ {
		checkVertices(t, impl.Region{Dim: dim, Halves: []impl.Half{}}, nil)
	}
}

// Halves that are not needed, or stand twice, add no vertices, and none twice.
func TestVerticesOfHalvesThatStandTwice(t *testing.T) {
	checkVertexTexts(t, "1;1<2;1<2", "2")
	checkVertexTexts(t, "1;1<2;3<6;-1<-2;-20<-40", "2")
	checkVertexTexts(t, "1;2<1;4<2;20<10;-1<0;-7<0", "0 1/2")
	checkVertexTexts(t, "2;1,0<1;1,0<1;0,1<1;0,1<1", "1,1")
	checkVertexTexts(t, "2;1,0<1;2,0<2;0,1<1;0,5<5;0,1<2", "1,1")
	checkVertexTexts(t, "2;1,0<1;0,1<1;1,0<1;-1,-1<0;0,1<1;-1,-1<0", "-1,1 1,-1 1,1")
	checkVertexTexts(t, "3;1,0,0<1;0,1,0<1;0,0,2<1;1,0,0<1;0,3,0<3;0,0,4<2", "2,2,1/2")
	checkVertexTexts(t, "3;1,0,0<1;1,0,0<1;0,1,0<1;0,1,0<1", "")
}

func TestVerticesWithManyHalves(t *testing.T) {
	checkVertexTexts(t, "2;1,0<0;0,1<0;1,1<0", "0,0")
	checkVertexTexts(t, "2;1,0<0;0,1<0;1,1<0;1,2<0;2,1<0;3,1<0;1,3<0;5,2<0", "0,0")
	checkVertexTexts(t, "2;1,0<1;0,1<1;1,1<2;-1,0<0;0,-1<0;-1,-1<0", "0,0 0,1 1,0 1,1")
	checkVertexTexts(t, "2;2,0<1;0,2<1;1,1<1;4,2<3;-1,-1<2", "-5,1/2 1,-5/2 1,1/2")
	checkVertexTexts(t, "2;1,0<0;-1,0<0;0,1<0;0,-1<0;1,1<0;-1,-1<0;1,-1<0;-1,1<0", "0,0")
	// At the top of the pyramid four halves meet, and five in the second case.
	checkVertexTexts(t, "3;1,0,1<0;-1,0,1<0;0,1,1<0;0,-1,1<0;0,0,-1<3", "-3,-3,-3 -3,3,-3 0,0,0 3,-3,-3 3,3,-3")
	checkVertexTexts(t, "3;1,0,1<0;-1,0,1<0;0,1,1<0;0,-1,1<0;0,0,-1<3;0,0,1<0", "-3,-3,-3 -3,3,-3 0,0,0 3,-3,-3 3,3,-3")
	// At each corner of the octahedron four halves meet.
	checkVertexTexts(t, "3;1,1,1<2;1,1,-1<2;1,-1,1<2;1,-1,-1<2;-1,1,1<2;-1,1,-1<2;-1,-1,1<2;-1,-1,-1<2", "-2,0,0 0,-2,0 0,0,-2 0,0,2 0,2,0 2,0,0")
}

// A point at which Dim halves meet is none if another half excludes it, however narrowly.
func TestMeetingPointsOutsideOfTheRegion(t *testing.T) {
	checkVertexTexts(t, "1;1<2;1<3", "2")
	checkVertexTexts(t, "1;3<2;2<1", "1/2")
	checkVertexTexts(t, "2;1,0<1;0,1<1;1,1<1", "0,1 1,0")
	checkVertexTexts(t, "2;1,0<1;0,1<1;20,19<38", "19,20/20 19,18/19")
	checkVertexTexts(t, "2;1,0<1;0,1<1;1,1<2", "1,1")
	checkVertexTexts(t, "2;1,0<1;0,1<1;1,1<3", "1,1")
	checkVertexTexts(t, "2;7,0<3;0,5<2;20,20<16", "2,2/5 15,13/35")
	checkVertexTexts(t, "2;-1,0<0;0,-1<0;1,1<2;1,0<3;0,1<3", "0,0 0,2 2,0")
	checkVertexTexts(t, "3;1,0,0<1;0,1,0<1;0,0,1<1;1,1,1<2", "0,1,1 1,0,1 1,1,0")
	checkVertexTexts(t, "3;1,0,0<1;0,1,0<1;0,0,1<1;1,1,1<3", "1,1,1")
	// No place of the half that excludes matters.
	for place := range 4 {
		halves := slices.Insert([]impl.Half{half(0, -1, 0), half(0, 0, -1), half(2, 1, 1)}, place, half(-1, 0, 1))
		checkVertices(t, region(2, halves...), nil)
		halves[place] = half(1, 0, 1)
		checkVertices(t, region(2, halves...), readRationals("0,0 0,1 1,1 2,0"))
	}
}

func TestVerticesAreReduced(t *testing.T) {
	checkVertexTexts(t, "1;4<6", "3/2")
	checkVertexTexts(t, "1;-4<6", "-3/2")
	checkVertexTexts(t, "1;20<0", "0")
	checkVertexTexts(t, "1;-20<0", "0")
	checkVertexTexts(t, "1;-20<200", "-10")
	checkVertexTexts(t, "1;20<-190", "-19/2")
	checkVertexTexts(t, "1;7<-200", "-200/7")
	checkVertexTexts(t, "2;2,0<4;0,2<6", "2,3")
	checkVertexTexts(t, "2;2,0<1;0,3<1", "3,2/6")
	checkVertexTexts(t, "2;6,0<3;0,4<2", "1,1/2")
	checkVertexTexts(t, "2;0,4<2;6,0<3", "1,1/2")
	checkVertexTexts(t, "2;6,0<0;0,4<2", "0,1/2")
	checkVertexTexts(t, "2;6,0<2;0,6<3", "2,3/6")
	checkVertexTexts(t, "2;0,6<-2;-6,0<3", "-3,-2/6")
	checkVertexTexts(t, "2;1,1<1;1,-1<0", "1,1/2")
	checkVertexTexts(t, "3;2,0,0<1;0,2,0<2;0,0,2<3", "1,2,3/2")
	checkVertexTexts(t, "3;2,0,0<0;0,-2,0<0;0,0,2<0", "0,0,0")
	checkVertexTexts(t, "3;0,0,-20<-200;0,20,0<200;-20,0,0<-200", "10,10,10")
	checkVertexTexts(t, "3;0,3,0<1;5,0,0<-1;0,0,-7<1", "-21,35,-15/105")
}

// The greatest determinants, of Normals and of Bounds, and the greatest Den.
func TestVerticesOfGreatNumbers(t *testing.T) {
	checkVertexTexts(t, "1;1<200;-1<200", "-200 200")
	checkVertexTexts(t, "1;20<199", "199/20")
	checkVertexTexts(t, "2;20,20<200;20,-20<200", "10,0")
	checkVertexTexts(t, "2;20,19<-200;19,18<200", "7400,-7800")
	checkVertexTexts(t, "2;20,19<200;19,18<-200", "-7400,7800")
	checkVertexTexts(t, "2;20,19<199;-19,20<200", "180,7781/761")
	checkVertexTexts(t, "3;20,20,-20<199;20,-20,20<-199;-20,20,20<199", "0,199,0/20")
	checkVertexTexts(t, "3;20,0,0<199;0,19,0<-199;0,0,17<198", "64277,-67660,75240/6460")
	for _, r := range vertexRegions() {
		for _, p := range impl.VerticesOf(r) {
			if p.Den > 32000 || slices.ContainsFunc(p.Num, func(n int) bool { return sizeOf(n) > 320000 }) {
				t.Errorf("%v, a vertex of %s, is greater than any can be", p, shownRegion(r))
			}
		}
	}
}

// The vertices are ordered by fractions: not by Num, and not by Den.
func TestVerticesAreInOrder(t *testing.T) {
	checkVertexTexts(t, "1;3<2;-2<-1", "1/2 2/3")
	checkVertexTexts(t, "1;1<2;-2<-3", "3/2 2")
	checkVertexTexts(t, "1;3<-1;-1<1", "-1 -1/3")
	checkVertexTexts(t, "2;3,0<2;-2,0<-1;0,1<5", "1,10/2 2,15/3")
	checkVertexTexts(t, "2;1,0<5;0,3<2;0,-2<-1", "10,1/2 15,2/3")
	checkVertexTexts(t, "2;-1,0<-5;0,3<-1;0,-1<1", "5,-1 15,-1/3")
	checkVertexTexts(t, "2;4,0<3;-1,-1<0;-1,1<5", "-5,5/2 3,-3/4 3,23/4")
	checkVertexTexts(t, "3;1,0,0<0;-1,0,0<0;0,1,0<0;0,-1,0<0;0,0,3<2;0,0,-2<-1", "0,0,1/2 0,0,2/3")
	checkVertexTexts(t, "3;0,0,1<2;0,0,-1<-2;0,2,0<3;0,-1,0<0;3,0,0<1;-1,0,0<0", "0,0,2 0,3,4/2 1,0,6/3 2,9,12/6")
	for _, r := range vertexRegions() {
		list := impl.VerticesOf(r)
		for k := 1; k < len(list); k++ {
			if compareFractions(fractions(list[k-1].Num, list[k-1].Den), fractions(list[k].Num, list[k].Den)) != -1 {
				t.Errorf("VerticesOf(%s) has %v, and then %v", shownRegion(r), list[k-1], list[k])
			}
		}
	}
}

func TestVerticesAreJustTheVertices(t *testing.T) {
	none, whole, broken, many := 0, 0, 0, 0
	for _, r := range vertexRegions() {
		want := verticesOf(r)
		checkVertices(t, r, want)
		switch {
		case len(want) == 0:
			none++
		case impl.IsWholeRegion(r):
			whole++
		default:
			broken++
		}
		if len(want) > 5 {
			many++
		}
	}
	if none < 200 || whole < 100 || broken < 200 || many < 50 {
		t.Errorf("only %d regions without vertices, %d whole ones, %d others, and %d with many vertices", none, whole, broken, many)
	}
}

// Promise 6.
func TestVerticesAreInTheRegion(t *testing.T) {
	for _, r := range vertexRegions() {
		for _, p := range impl.VerticesOf(r) {
			x, borders := fractions(p.Num, p.Den), 0
			for _, h := range r.Halves {
				if sideOf(h, x) == 0 {
					borders++
				}
			}
			if !areWithin(r, x) || borders < r.Dim || len(p.Num) != r.Dim || p.Den < 1 {
				t.Errorf("%v is a vertex of %s", p, shownRegion(r))
			}
			if !impl.HasRational(r, p) {
				t.Errorf("HasRational(%s, %v) = false for a vertex", shownRegion(r), p)
			}
			if p.Den == 1 && isWithin([][]int{p.Num}, 1000) && !impl.HasPoint(r, p.Num) {
				t.Errorf("HasPoint(%s, %v) = false for a vertex", shownRegion(r), p.Num)
			}
		}
	}
}

// The order of the halves, and halves that stand again, do not change the vertices.
func TestVerticesOfHalvesInAnotherOrder(t *testing.T) {
	for k, r := range vertexRegions() {
		if k%3 != 0 {
			continue
		}
		want, s := impl.VerticesOf(r), cloneRegion(r)
		slices.Reverse(s.Halves)
		checkVertices(t, s, want)
		if len(s.Halves) > 0 && len(s.Halves) < 8 {
			s.Halves = append(s.Halves, s.Halves[k%len(s.Halves)])
			checkVertices(t, s, want)
		}
	}
}

func TestVerticesMoveWithTheRegion(t *testing.T) {
	moved := 0
	for k, r := range vertexRegions() {
		v := []int{k%7 - 3, 5 - k%11, k%5 - 2}[:r.Dim]
		s, ok := impl.MoveRegion(r, v)
		if !ok {
			continue
		}
		var want []impl.Rational
		for _, p := range impl.VerticesOf(r) {
			num := make([]int, r.Dim)
			for i, n := range p.Num {
				num[i] = n + v[i]*p.Den
			}
			want = append(want, rational(p.Den, num...))
			moved++
		}
		checkVertices(t, s, want)
	}
	if moved < 1000 {
		t.Errorf("only %d vertices", moved)
	}
}

func TestIsWholeRegion(t *testing.T) {
	for text, want := range map[string]bool{
		"2;-1,0<0;0,-1<0;1,1<2": true, "1;2<3;-1<0": false, "2": false, "1": false, "3": false, "1;1<5": true, "1;2<4": true, "1;2<5": false,
		"1;1<3;-2<1": false, "1;1<3;2<7;-1<0": true, "2;1,0<1": false, "2;1,0<1;-1,0<-1": false, "1;1<0;-1<-1": false,
		// Only the first, only one in the middle and only the last vertex are not whole.
		"2;1,0<2;0,1<1;-2,-1<0": false, "2;0,1<1;0,-1<0;-1,0<0;2,2<3": false, "1;-1<0;2<1": false, "1;1<0;-2<1": false,
		"3;-1,0,0<0;0,-1,0<0;0,0,-1<0;1,1,1<3": true, "3;-1,0,0<0;0,-1,0<0;0,0,-1<0;1,1,2<3": false, "3;2,0,0<-2;0,5,0<5;0,0,1<0": true,
		// Half points at which halves meet outside of the region do not count.
		"2;1,0<0;0,1<0;2,2<1": true, "2;1,0<0;0,1<0;2,2<-1": false,
	} {
		if got := impl.IsWholeRegion(parsed(text)); got != want {
			t.Errorf("IsWholeRegion(%s) = %v", text, got)
		}
	}
}

func TestVerticesRefuseNoRegions(t *testing.T) {
	for _, r := range append(noRegions(), impl.Region{}) {
		if got := impl.VerticesOf(r); got != nil {
			t.Errorf("VerticesOf(%s) = %v", shownRegion(r), got)
		}
		if impl.IsWholeRegion(r) {
			t.Errorf("IsWholeRegion(%s) = true", shownRegion(r))
		}
		for size := range 5 {
			checkRational(t, r, rational(1, make([]int, size)...), false)
			checkRational(t, r, rational(1, slices.Repeat([]int{-1000}, size)...), false)
		}
	}
}

func checkRational(t *testing.T, r impl.Region, p impl.Rational, want bool) {
	t.Helper()
	if got := impl.HasRational(r, p); got != want {
		t.Errorf("HasRational(%s, %v) = %v", shownRegion(r), p, got)
	}
}

func TestHasRational(t *testing.T) {
	for _, c := range []struct {
		text, point string
		want        bool
	}{
		{"1;2<1", "1/2", true}, {"1;3<1", "1/2", false}, {"1;2<1", "2/4", true}, {"1;2<1", "5/10", true}, {"1;2<1", "3/5", false}, {"1;-2<1", "-1/2", true},
		{"1;-2<1", "-3/5", false}, {"1;1<0", "0/7", true}, {"1;-1<0", "0/7", true}, {"1;-1<-1", "99999/100000", false}, {"1;-1<-1", "100000/100000", true},
		{"1;1<1", "100000/99999", false}, {"1;1<1", "99999/100000", true}, {"1;1<0;-1<0", "0/100000", true}, {"1;1<0;-1<0", "1/100000", false}, {"1;1<0;-1<0", "-1/100000", false},
		{"2;-1,0<0;0,-1<0;1,1<2", "1,1/2", true}, {"2;-1,0<0;0,-1<0;1,1<2", "1,1", true}, {"2;-1,0<0;0,-1<0;1,1<2", "7,6/6", false}, {"2;-1,0<0;0,-1<0;1,1<2", "6,6/6", true},
		{"2;-1,0<0;0,-1<0;1,1<2", "-1,6/6", false}, {"2;-1,0<0;0,-1<0;1,1<2", "6,-1/6", false}, {"2;1,-2<-3", "1,5/3", true}, {"2;1,-2<-3", "1,4/3", false}, {"2;1,-2<-3", "-1,7/5", true}, {"2;1,-2<-3", "-1,7/6", false},
		{"3;1,2,-3<4", "1,2,-3/4", true}, {"3;1,2,-3<4", "1,2,-4/4", false}, {"3;1,2,-3<4", "1,2,-4/5", true}, {"3;1,2,-3<4", "2,7,0/4", true}, {"3;1,2,-3<4;0,0,1<0", "2,7,1/4", false},
	} {
		checkRational(t, parsed(c.text), readRational(c.point), c.want)
	}
}

func TestHasRationalIsForAllHalves(t *testing.T) {
	for dim := 1; dim <= 3; dim++ {
		p := rational(2, slices.Repeat([]int{1}, dim)...)
		for place := range 8 {
			halves := slices.Repeat([]impl.Half{half(dim, slices.Repeat([]int{2}, dim)...)}, 8)
			checkRational(t, region(dim, halves...), p, true)
			halves[place].Bound--
			checkRational(t, region(dim, halves...), p, false)
		}
	}
}

// limitCases are rational points of each size, and whether they are within the limits.
func limitCases(most int) map[bool][]impl.Rational {
	all := map[bool][]impl.Rational{}
	for size := 1; size <= most; size++ {
		for _, den := range []int{1, 2, 7, 99999, 100000} {
			all[true] = append(all[true], rational(den, make([]int, size)...))
			for place := range size {
				for _, n := range []int{1, -1, 9999999, -9999999, 10000000, -10000000} {
					num := make([]int, size)
					num[place] = n
					all[true] = append(all[true], rational(den, num...))
				}
				for _, n := range []int{10000001, -10000001, 10000000 * 2, 1 << 32, 1 << 62, math.MaxInt64, math.MinInt64, math.MinInt64 + 1} {
					num := make([]int, size)
					num[place] = n
					all[false] = append(all[false], rational(den, num...))
				}
			}
		}
		for _, den := range []int{0, -1, -2, -100000, 100001, 200000, 1 << 32, 1<<32 + 1, math.MaxInt64, math.MinInt64} {
			all[false] = append(all[false], rational(den, make([]int, size)...), rational(den, slices.Repeat([]int{-10000000}, size)...))
		}
	}
	return all
}

func TestHasRationalChecksTheLimits(t *testing.T) {
	for isRight, list := range limitCases(3) {
		for _, p := range list {
			checkRational(t, region(len(p.Num)), p, isRight)
			if !isRight {
				normal := slices.Repeat([]int{1}, len(p.Num))
				checkRational(t, region(len(p.Num), half(200, normal...)), p, false)
				checkRational(t, region(len(p.Num), half(200, negative(normal)...)), p, false)
			}
		}
	}
}

func TestHasRationalChecksTheSize(t *testing.T) {
	for dim := 1; dim <= 3; dim++ {
		for size := range 7 {
			for _, r := range []impl.Region{region(dim), region(dim, half(1, slices.Repeat([]int{1}, dim)...))} {
				checkRational(t, r, rational(1, make([]int, size)...), size == dim)
				checkRational(t, r, rational(3, slices.Repeat([]int{-5}, size)...), size == dim)
			}
		}
		checkRational(t, region(dim), impl.Rational{}, false)
		checkRational(t, region(dim), rational(1, make([]int, 1000)...), false)
	}
}

// somePoints lists rational points of a size, always the same: small, middle and great ones.
func somePoints(size int, count int) []impl.Rational {
	var list []impl.Rational
	numbers := rand.New(rand.NewPCG(uint64(size), 6))
	for k := range count {
		most := []int{2, 3, 400, 10000000}[k%4]
		p := rational(1 + numbers.IntN([]int{1, 4, 500, 100000}[k/4%4]))
		for range size {
			p.Num = append(p.Num, numbers.IntN(2*most+1)-most)
		}
		list = append(list, p)
	}
	return list
}

func TestHasRationalIsInAllHalves(t *testing.T) {
	inside, outside := 0, 0
	points := [][]impl.Rational{nil, somePoints(1, 64), somePoints(2, 64), somePoints(3, 64)}
	for k, r := range vertexRegions() {
		if k%2 == 0 {
			continue
		}
		for _, p := range points[r.Dim] {
			want := areWithin(r, fractions(p.Num, p.Den))
			checkRational(t, r, p, want)
			if want {
				inside++
			} else {
				outside++
			}
		}
	}
	if inside < 1000 || outside < 1000 {
		t.Errorf("only %d points inside and %d outside", inside, outside)
	}
}

// A border that a point of the greatest size just reaches, or just misses.
func TestHasRationalOfGreatNumbers(t *testing.T) {
	for dim := 1; dim <= 3; dim++ {
		for _, sign := range []int{1, -1} {
			p, normal := rational(100000, slices.Repeat([]int{10000000 * sign}, dim)...), slices.Repeat([]int{20 * sign}, dim)
			checkRational(t, region(dim, half(200, normal...)), p, false)
			checkRational(t, region(dim, half(-200, negative(normal)...)), p, true)
		}
	}
	checkRational(t, parsed("1;2<200"), rational(100000, 10000000), true)
	checkRational(t, parsed("1;2<199"), rational(100000, 10000000), false)
	checkRational(t, parsed("1;2<200"), rational(99999, 10000000), false)
	checkRational(t, parsed("1;-2<200"), rational(100000, -10000000), true)
	checkRational(t, parsed("2;1,1<200;-1,-1<-200"), rational(100000, 10000000, 10000000), true)
	checkRational(t, parsed("2;1,1<200;-1,-1<-200"), rational(100000, 10000000, 9999999), false)
	checkRational(t, parsed("3;20,-20,1<100;-20,20,-1<-100"), rational(100000, -10000000, -10000000, 10000000), true)
	checkRational(t, parsed("3;20,20,20<-200"), rational(1, -10000000, -10000000, -10000000), true)
	checkRational(t, parsed("3;-20,-20,-20<-200"), rational(1, -10000000, -10000000, -10000000), false)
}

// HasRational of a whole point is HasPoint, however it is written.
func TestHasRationalOfWholePoints(t *testing.T) {
	for k, r := range pointRegions() {
		for _, x := range pointsOfBox(r.Dim, 2) {
			den := 1 + k%5
			num := make([]int, r.Dim)
			for i, n := range x {
				num[i] = n * den
			}
			checkRational(t, r, rational(den, num...), impl.HasPoint(r, x))
		}
	}
}

func TestRationalText(t *testing.T) {
	for _, c := range []struct {
		p    impl.Rational
		want string
	}{
		{rational(2, 1), "1/2"}, {rational(1, 1), "1"}, {rational(1, 0), "0"}, {rational(7, 0), "0/7"}, {rational(1, -5), "-5"}, {rational(3, -5), "-5/3"},
		{rational(4, 2), "2/4"}, {rational(2, 2), "2/2"}, {rational(1, 1, -2), "1,-2"}, {rational(6, 3, 2), "3,2/6"}, {rational(1, 1, 2, 3), "1,2,3"}, {rational(9, -1, 0, 1), "-1,0,1/9"},
		// More than MaxDim numbers, and numbers beyond every limit.
		{rational(1, 1, 2, 3, 4, 5), "1,2,3,4,5"}, {rational(10, 1, 2, 3, 4), "1,2,3,4/10"}, {rational(1, 1001, -1001), "1001,-1001"}, {rational(100000, 10000000), "10000000/100000"},
		{rational(100001, 10000001, -10000001), "10000001,-10000001/100001"}, {rational(1, 1000000000000), "1000000000000"},
		{rational(math.MaxInt64, math.MinInt64, math.MaxInt64), "-9223372036854775808,9223372036854775807/9223372036854775807"},
		// No Num, or a Den less than 1.
		{impl.Rational{}, ""}, {rational(1), ""}, {rational(5), ""}, {rational(1, []int{}...), ""}, {rational(-1), ""}, {rational(0, 1), ""}, {rational(0, 0), ""},
		{rational(-1, 1), ""}, {rational(-2, 1, 2), ""}, {rational(math.MinInt64, 1, 2, 3), ""}, {rational(-1, 0, 0, 0, 0), ""},
	} {
		if got := impl.RationalText(c.p); got != c.want {
			t.Errorf("RationalText(%v) = %q, want %q", c.p, got, c.want)
		}
	}
	long := rational(2, slices.Repeat([]int{7}, 3000)...)
	if got, want := impl.RationalText(long), strings.Repeat("7,", 2999)+"7/2"; got != want {
		t.Errorf("RationalText of 3000 numbers = %.40q", got)
	}
}

func TestRationalTextsAreRead(t *testing.T) {
	for size := 1; size <= 5; size++ {
		for _, p := range somePoints(size, 60) {
			text := impl.RationalText(p)
			if got := readRational(text); !rationalsEqual(got, p) || strings.Contains(text, "/") != (p.Den != 1) {
				t.Errorf("RationalText(%v) = %q", p, text)
			}
		}
	}
}

// checkCompare expects the number, and its negative if the points are exchanged.
func checkCompare(t *testing.T, p impl.Rational, q impl.Rational, want int) {
	t.Helper()
	if got := impl.CompareRationals(p, q); got != want {
		t.Errorf("CompareRationals(%.60s, %.60s) = %d, want %d", fmt.Sprint(p), fmt.Sprint(q), got, want)
	}
	if got := impl.CompareRationals(q, p); got != -want {
		t.Errorf("CompareRationals(%.60s, %.60s) = %d, want %d", fmt.Sprint(q), fmt.Sprint(p), got, -want)
	}
}

func TestCompareRationals(t *testing.T) {
	for _, c := range []struct {
		p, q string
		want int
	}{
		{"1/2", "1/2", 0}, {"1/2", "2/4", 0}, {"0", "0/5", 0}, {"0/100000", "0/99999", 0}, {"-3/6", "-1/2", 0}, {"4/2", "2", 0}, {"100000/100000", "1", 0},
		{"1/2", "2/3", -1}, {"0", "1/2", -1}, {"-1/2", "0", -1}, {"-1/2", "-1/3", -1}, {"-2/3", "-1/2", -1}, {"3/2", "2", -1}, {"1", "3/2", -1}, {"-1", "1", -1}, {"-2", "-3/2", -1},
		{"1/3", "1/2", -1}, {"2/7", "3/10", -1}, {"99999/100000", "1", -1}, {"99998/99999", "99999/100000", -1},
		{"1,2/2", "2,4/4", 0}, {"1,2/2", "2,5/4", -1}, {"1,2/2", "2,3/4", 1}, {"1,9/2", "2,-9/3", -1}, {"1,-9/2", "2,9/3", -1}, {"5,1/2", "5,1/3", 1},
		{"0,0,1/2", "0,0,2/3", -1}, {"0,0,0", "0,0,0/9", 0}, {"0,1,5", "0,2,-5", -1}, {"1,-1,-1", "0,5,5", 1}, {"3,6,9/3", "1,2,3", 0}, {"3,6,9/3", "1,2,4", -1},
		{"1,2,3,4,5", "1,2,3,4,5", 0}, {"1,2,3,4,5", "1,2,3,4,6", -1}, {"1,2,3,4/2", "1,2,3,4/3", 1}, {"2,4,6,8/2", "1,2,3,4", 0},
		{"10000000", "-10000000", 1}, {"10000000", "9999999", 1}, {"10000000/100000", "10000000/99999", -1}, {"-10000000/100000", "-10000000/99999", 1}, {"10000000/100000", "100", 0}, {"9999999/100000", "100", -1},
	} {
		checkCompare(t, readRational(c.p), readRational(c.q), c.want)
	}
}

func TestCompareRationalsComparesFractions(t *testing.T) {
	counts := map[int]int{}
	for size := 1; size <= 4; size++ {
		list := somePoints(size, 80)
		for _, p := range list {
			double := rational(min(2*p.Den, 100000))
			for _, n := range p.Num {
				double.Num = append(double.Num, max(min(2*n, 10000000), -10000000))
			}
			for _, q := range append(list, double) {
				want := compareFractions(fractions(p.Num, p.Den), fractions(q.Num, q.Den))
				checkCompare(t, p, q, want)
				counts[want]++
			}
		}
	}
	// What differs above mostly is the first number: here the first ones are equal.
	for _, p := range somePoints(2, 80) {
		for _, n := range []int{-1, 0, 1} {
			q := rational(p.Den, p.Num[0], max(min(p.Num[1]+n, 10000000), -10000000))
			checkCompare(t, p, q, compareFractions(fractions(p.Num, p.Den), fractions(q.Num, q.Den)))
		}
	}
	if counts[0] < 300 || counts[1] < 5000 || counts[-1] < 5000 {
		t.Errorf("only %v comparisons", counts)
	}
}

func TestCompareRationalsChecksTheLimits(t *testing.T) {
	cases := limitCases(4)
	for _, p := range cases[true] {
		// The point of the least numbers: most others are greater, and none is less.
		low := rational(1, slices.Repeat([]int{-10000000}, len(p.Num))...)
		want := compareFractions(fractions(p.Num, p.Den), fractions(low.Num, 1))
		checkCompare(t, p, low, want)
		checkCompare(t, p, p, 0)
	}
	for _, p := range cases[false] {
		size := len(p.Num)
		for _, n := range []int{-10000000, 10000000, -1, 1, 0, 7} {
			checkCompare(t, p, rational(1, slices.Repeat([]int{n}, size)...), 0)
			checkCompare(t, p, rational(100000, slices.Repeat([]int{n}, size)...), 0)
		}
		checkCompare(t, p, p, 0)
		checkCompare(t, p, impl.Rational{}, 0)
	}
	// The number that is too great may stand behind one that differs.
	checkCompare(t, rational(1, 1, 10000001), rational(1, 2, 0), 0)
	checkCompare(t, rational(1, 1, 10000000), rational(1, 2, 0), -1)
	checkCompare(t, rational(1, 1, 5, -10000001), rational(1, 2, 5, 0), 0)
}

func TestCompareRationalsOfDifferentLengths(t *testing.T) {
	for a := range 7 {
		for b := range 7 {
			p, q := rational(1, make([]int, a)...), rational(1, slices.Repeat([]int{5}, b)...)
			want := 0
			if a == b && a > 0 {
				want = -1
			}
			checkCompare(t, p, q, want)
			if a != b {
				checkCompare(t, rational(2, slices.Repeat([]int{1}, a)...), q, 0)
			}
		}
	}
	checkCompare(t, impl.Rational{}, impl.Rational{}, 0)
	checkCompare(t, rational(1, 1), rational(1), 0)
	checkCompare(t, rational(1, 1), impl.Rational{}, 0)
}

// cloneRational has two numbers beyond its Num that must stay.
func cloneRational(p impl.Rational) impl.Rational {
	return rational(p.Den, append(slices.Clone(p.Num), 99, 98)[:len(p.Num)]...)
}

func isKeptRational(q impl.Rational, p impl.Rational) bool {
	return rationalsEqual(q, p) && slices.Equal(q.Num[len(q.Num):len(q.Num)+2], []int{99, 98})
}

func TestVerticesKeepTheirArguments(t *testing.T) {
	points := [][]impl.Rational{{rational(1)}, somePoints(1, 8), somePoints(2, 8), somePoints(3, 8)}
	for k, r := range append(vertexRegions(), noRegions()[:60]...) {
		c := cloneRegion(r)
		impl.VerticesOf(c)
		impl.IsWholeRegion(c)
		p := points[max(0, min(r.Dim, 3))]
		one, two := cloneRational(p[k%len(p)]), cloneRational(p[k/3%len(p)])
		impl.HasRational(c, one)
		impl.RationalText(one)
		impl.CompareRationals(one, two)
		if !isKeptRegion(c, r) {
			t.Fatalf("the region %v became %v", r, c)
		}
		if !isKeptRational(one, p[k%len(p)]) || !isKeptRational(two, p[k/3%len(p)]) {
			t.Fatalf("the points %v and %v became %v and %v", p[k%len(p)], p[k/3%len(p)], one, two)
		}
	}
}

func TestVerticesAreNew(t *testing.T) {
	for _, text := range []string{"1;1<3;-2<7;1<3", "2;-1,0<0;0,-1<0;1,1<2", "3;1,0,1<0;-1,0,1<0;0,1,1<0;0,-1,1<0;0,0,-1<3"} {
		r := parsed(text)
		want := verticesOf(r)
		list, again := impl.VerticesOf(r), impl.VerticesOf(r)
		for k := range list {
			// Writing beyond one point must not reach another one.
			_ = append(list[k].Num, 55, 56, 57)
			list[k].Den = 44
		}
		for k := range list {
			for i := range list[k].Num {
				list[k].Num[i] = 66
			}
			if k+1 < len(list) && !slices.Equal(list[k+1].Num, want[k+1].Num) {
				t.Fatalf("the vertices of one result share memory: %v", list)
			}
		}
		if !slices.EqualFunc(again, want, rationalsEqual) || impl.RegionText(r) != text {
			t.Errorf("the vertices of two results, or of the region, share memory: %v, %v", again, r)
		}
		checkVertices(t, r, want)
	}
}

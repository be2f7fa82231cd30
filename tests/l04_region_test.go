package tests

import (
	"fmt"
	"math"
	"regexp"
	"slices"
	"strings"
	"testing"

	"loop.example/g00959/impl"
)

func half(bound int, normal ...int) impl.Half {
	return impl.Half{Normal: normal, Bound: bound}
}

func region(dim int, halves ...impl.Half) impl.Region {
	return impl.Region{Dim: dim, Halves: halves}
}

// manyHalves returns count different halves of the dimension.
func manyHalves(dim int, count int) []impl.Half {
	list := make([]impl.Half, count)
	for k := range list {
		normal := make([]int, dim)
		normal[k%dim] = 1 - 2*(k%2)
		list[k] = half(k, normal...)
	}
	return list
}

// noHalves are halves that are none for the dimension.
func noHalves(dim int) []impl.Half {
	list := []impl.Half{{}, half(0, []int{}...), half(5, make([]int, dim)...)}
	for size := range 6 {
		if size != dim {
			list = append(list, half(0, slices.Repeat([]int{1}, size)...))
		}
	}
	for _, n := range []int{21, -21, 1000, -1001, math.MaxInt64, math.MinInt64, 1 << 32, 1 << 61} {
		for place := range dim {
			normal := slices.Repeat([]int{1}, dim)
			normal[place] = n
			list = append(list, half(0, normal...))
		}
	}
	for _, n := range []int{201, -201, 1000, 1 << 32, math.MaxInt64, math.MinInt64} {
		list = append(list, half(n, slices.Repeat([]int{1}, dim)...))
	}
	return list
}

// noRegions are regions that every function of the chapter but EqualRegion refuses.
func noRegions() []impl.Region {
	var list []impl.Region
	for _, dim := range []int{0, -1, 4, 5, 1000, -1000, math.MaxInt64, math.MinInt64, 1 << 32, 1<<32 + 2} {
		list = append(list, region(dim))
		for size := range 5 {
			list = append(list, region(dim, half(1, slices.Repeat([]int{1}, size)...)))
		}
	}
	for dim := 1; dim <= 3; dim++ {
		list = append(list, region(dim, manyHalves(dim, 9)...), region(dim, manyHalves(dim, 1000)...))
		for _, h := range noHalves(dim) {
			for place := range 8 {
				halves := manyHalves(dim, 8)
				halves[place] = h
				list = append(list, region(dim, halves...))
			}
			list = append(list, region(dim, h))
		}
	}
	return list
}

// someRegions lists regions of each dimension with no to eight halves.
func someRegions(count int) []impl.Region {
	var all []impl.Region
	state := 4321
	next := func(most int) int {
		state = (state*1103515245 + 12345) % (1 << 31)
		return state>>8%(2*most+1) - most
	}
	for n := range count {
		r := region(1 + n%3)
		for range n / 3 % 9 {
			normal := make([]int, r.Dim)
			for k := range normal {
				normal[k] = next([]int{20, 1, 3}[n%7%3])
			}
			if !slices.ContainsFunc(normal, func(n int) bool { return n != 0 }) {
				normal[next(20)&1%r.Dim] = -1
			}
			r.Halves = append(r.Halves, half(next([]int{200, 3, 20}[n%5%3]), normal...))
		}
		all = append(all, r)
	}
	return all
}

// halvesEqual and regionsEqual compare fields without the functions under test.
func halvesEqual(a impl.Half, b impl.Half) bool {
	return a.Bound == b.Bound && slices.Equal(a.Normal, b.Normal)
}

func regionsEqual(a impl.Region, b impl.Region) bool {
	return a.Dim == b.Dim && slices.EqualFunc(a.Halves, b.Halves, halvesEqual)
}

// isIn tells a point of a region from the sums themselves.
func isIn(r impl.Region, x []int) bool {
	for _, h := range r.Halves {
		sum := 0
		for k, n := range h.Normal {
			sum += n * x[k]
		}
		if sum > h.Bound {
			return false
		}
	}
	return true
}

// pointsOfBox lists the points with numbers from -most to most.
func pointsOfBox(dim int, most int) [][]int {
	all := [][]int{{}}
	for range dim {
		var longer [][]int
		for _, x := range all {
			for n := -most; n <= most; n++ {
				longer = append(longer, append(slices.Clone(x), n))
			}
		}
		all = longer
	}
	return all
}

func checkRegion(t *testing.T, call string, got impl.Region, ok bool, want impl.Region, wantOK bool) {
	t.Helper()
	if ok != wantOK || !regionsEqual(got, want) {
		t.Errorf("%s = %v, %v, want %v, %v", call, got, ok, want, wantOK)
	}
}

func shownRegion(r impl.Region) string { return fmt.Sprintf("%.120s", fmt.Sprint(r)) }

func TestRegionLimits(t *testing.T) {
	if impl.MaxHalves != 8 || impl.MaxNormal != 20 || impl.MaxBound != 200 {
		t.Errorf("MaxHalves, MaxNormal, MaxBound = %d, %d, %d", impl.MaxHalves, impl.MaxNormal, impl.MaxBound)
	}
}

func TestIsHalf(t *testing.T) {
	for dim := 1; dim <= 3; dim++ {
		for place := range dim {
			for _, n := range []int{1, -1, 7, 19, -19, 20, -20} {
				for _, bound := range []int{0, 1, -1, 199, -199, 200, -200} {
					normal := make([]int, dim)
					normal[place] = n
					if !impl.IsHalf(dim, half(bound, normal...)) {
						t.Errorf("IsHalf(%d, %v < %d) = false", dim, normal, bound)
					}
				}
			}
		}
		for _, n := range []int{20, -20} {
			if h := half(n*10, slices.Repeat([]int{n}, dim)...); !impl.IsHalf(dim, h) {
				t.Errorf("IsHalf(%d, %v) = false", dim, h)
			}
		}
		for _, h := range noHalves(dim) {
			if impl.IsHalf(dim, h) {
				t.Errorf("IsHalf(%d, %v) = true", dim, h)
			}
		}
	}
}

func TestIsHalfChecksTheDimension(t *testing.T) {
	for _, dim := range []int{0, -1, 1, 2, 3, 4, 5, 1000, -3, math.MaxInt64, math.MinInt64, 1<<32 + 1} {
		for size := range 6 {
			want := dim == size && size >= 1 && size <= 3
			if got := impl.IsHalf(dim, half(1, slices.Repeat([]int{1}, size)...)); got != want {
				t.Errorf("IsHalf(%d, a Normal with %d numbers) = %v", dim, size, got)
			}
		}
	}
}

func TestIsRegion(t *testing.T) {
	for dim := 1; dim <= 3; dim++ {
		for count := range 12 {
			r := region(dim, manyHalves(dim, count)...)
			if got := impl.IsRegion(r); got != (count <= 8) {
				t.Errorf("IsRegion of %d halves of %d dimensions = %v", count, dim, got)
			}
		}
		if !impl.IsRegion(impl.Region{Dim: dim}) || !impl.IsRegion(impl.Region{Dim: dim, Halves: []impl.Half{}}) {
			t.Errorf("a region of %d dimensions without halves is none", dim)
		}
	}
	for _, r := range someRegions(500) {
		if !impl.IsRegion(r) {
			t.Errorf("IsRegion(%v) = false", r)
		}
	}
	for _, r := range noRegions() {
		if impl.IsRegion(r) {
			t.Errorf("IsRegion(%s) = true", shownRegion(r))
		}
	}
	// The same half may stand more than once, and halves may exclude each other.
	if !impl.IsRegion(region(1, half(1, 1), half(1, 1), half(-5, 1), half(-5, -1))) {
		t.Error("a region with equal halves is none")
	}
}

func checkHas(t *testing.T, r impl.Region, x []int, want bool) {
	t.Helper()
	if got := impl.HasPoint(r, x); got != want {
		t.Errorf("HasPoint(%s, %v) = %v", shownRegion(r), x, got)
	}
}

func TestHasPoint(t *testing.T) {
	r := region(2, half(2, 1, 0), half(0, -1, -1))
	checkHas(t, r, []int{2, 0}, true)
	checkHas(t, r, []int{2, -2}, true)
	checkHas(t, r, []int{3, 0}, false)
	checkHas(t, r, []int{2, -3}, false)
	checkHas(t, r, []int{-1000, 1000}, true)
	checkHas(t, r, []int{-1000, 999}, false)
	checkHas(t, region(1, half(-3, 2)), []int{-1}, false)
	checkHas(t, region(1, half(-3, 2)), []int{-2}, true)
	checkHas(t, region(1, half(0, 1), half(-1, -1)), []int{0}, false)
	checkHas(t, region(1, half(0, 1), half(-1, -1)), []int{1}, false)
	checkHas(t, region(3, half(6, 1, 2, 3)), []int{1, 1, 1}, true)
	checkHas(t, region(3, half(5, 1, 2, 3)), []int{1, 1, 1}, false)
	checkHas(t, region(3, half(200, 20, 20, 20)), []int{-1000, -1000, -1000}, true)
	checkHas(t, region(3, half(200, 20, 20, 20)), []int{1000, 1000, 1000}, false)
	for _, r := range someRegions(300) {
		for _, x := range pointsOfBox(r.Dim, 3) {
			checkHas(t, r, x, isIn(r, x))
		}
	}
}

// Each of eight halves decides alone, whichever place it has.
func TestHasPointAsksAllHalves(t *testing.T) {
	for place := range 8 {
		r := region(2, slices.Repeat([]impl.Half{half(5, 1, 1)}, 8)...)
		r.Halves[place] = half(4, 1, 0)
		checkHas(t, r, []int{4, 1}, true)
		checkHas(t, r, []int{5, 0}, false)
	}
}

func TestHasPointRefuses(t *testing.T) {
	for dim := 1; dim <= 3; dim++ {
		for size := range 6 {
			checkHas(t, region(dim), make([]int, size), size == dim)
			checkHas(t, region(dim, manyHalves(dim, 8)...), make([]int, size), size == dim)
		}
		for _, n := range []int{1000, -1000} {
			checkHas(t, region(dim), slices.Repeat([]int{n}, dim), true)
		}
		for _, x := range noVectors() {
			checkHas(t, region(dim), x, false)
			checkHas(t, region(dim, half(200, slices.Repeat([]int{1}, dim)...)), x, false)
		}
	}
	for _, r := range noRegions() {
		for size := range 5 {
			checkHas(t, r, make([]int, size), false)
		}
	}
}

func checkMove(t *testing.T, r impl.Region, v []int, want impl.Region, wantOK bool) {
	t.Helper()
	got, ok := impl.MoveRegion(r, v)
	checkRegion(t, fmt.Sprintf("MoveRegion(%s, %v)", shownRegion(r), v), got, ok, want, wantOK)
}

func TestMoveRegion(t *testing.T) {
	r := region(2, half(2, 1, 0), half(0, -1, -1))
	checkMove(t, r, []int{1, 1}, region(2, half(3, 1, 0), half(-2, -1, -1)), true)
	checkMove(t, r, []int{0, 0}, r, true)
	checkMove(t, r, []int{-3, 3}, region(2, half(-1, 1, 0), half(0, -1, -1)), true)
	checkMove(t, region(1, half(0, 20)), []int{10}, region(1, half(200, 20)), true)
	checkMove(t, region(1, half(0, 20)), []int{-10}, region(1, half(-200, 20)), true)
	checkMove(t, region(1, half(0, 20)), []int{11}, impl.Region{}, false)
	checkMove(t, region(1, half(0, 20)), []int{-11}, impl.Region{}, false)
	checkMove(t, region(1, half(200, 1)), []int{1}, impl.Region{}, false)
	checkMove(t, region(1, half(200, 1)), []int{-400}, region(1, half(-200, 1)), true)
	checkMove(t, region(1, half(200, 1)), []int{-401}, impl.Region{}, false)
	checkMove(t, region(1, half(-200, 1)), []int{-1}, impl.Region{}, false)
	checkMove(t, region(3, half(1, 1, 2, 3)), []int{4, 5, 6}, region(3, half(33, 1, 2, 3)), true)
	// Great moves are right as long as the bounds are.
	checkMove(t, region(2, half(7, 20, -20)), []int{1000, 1000}, region(2, half(7, 20, -20)), true)
	checkMove(t, region(2, half(7, 20, 20)), []int{1000, -1000}, region(2, half(7, 20, 20)), true)
	checkMove(t, region(2, half(7, 20, 20)), []int{1000, 1000}, impl.Region{}, false)
	for place := range 8 {
		halves := manyHalves(1, 8)
		for k := range halves {
			halves[k] = half(0, 1)
		}
		halves[place].Bound = 200
		checkMove(t, region(1, halves...), []int{1}, impl.Region{}, false)
		halves[place].Bound = -200
		checkMove(t, region(1, halves...), []int{-1}, impl.Region{}, false)
	}
}

func TestMoveRegionWithoutHalves(t *testing.T) {
	for dim := 1; dim <= 3; dim++ {
		checkMove(t, region(dim), slices.Repeat([]int{-1000}, dim), region(dim), true)
		checkMove(t, region(dim), slices.Repeat([]int{1000}, dim), region(dim), true)
	}
}

func TestMoveRegionRefuses(t *testing.T) {
	for dim := 1; dim <= 3; dim++ {
		full := region(dim, manyHalves(dim, 8)...)
		for size := range 6 {
			if size != dim {
				checkMove(t, region(dim), make([]int, size), impl.Region{}, false)
				checkMove(t, full, make([]int, size), impl.Region{}, false)
			}
		}
		for _, v := range noVectors() {
			checkMove(t, region(dim), v, impl.Region{}, false)
			checkMove(t, full, v, impl.Region{}, false)
		}
	}
	// The moved ones would be regions.
	checkMove(t, region(1, half(201, 1)), []int{-1}, impl.Region{}, false)
	checkMove(t, region(1, half(-201, 1)), []int{1}, impl.Region{}, false)
	for _, r := range noRegions() {
		for size := range 5 {
			checkMove(t, r, make([]int, size), impl.Region{}, false)
		}
	}
}

func TestMovedPointsAreInMovedRegions(t *testing.T) {
	moved := 0
	for n, r := range someRegions(240) {
		v := []int{n%5 - 2, 3 - n%7, n%3 - 1}[:r.Dim]
		want := region(r.Dim)
		for _, h := range r.Halves {
			want.Halves = append(want.Halves, half(h.Bound+impl.DotOf(h.Normal, v), h.Normal...))
		}
		if slices.ContainsFunc(want.Halves, func(h impl.Half) bool { return h.Bound < -200 || h.Bound > 200 }) {
			checkMove(t, r, v, impl.Region{}, false)
			continue
		}
		moved++
		checkMove(t, r, v, want, true)
		got, _ := impl.MoveRegion(r, v)
		for _, x := range pointsOfBox(r.Dim, 2) {
			y, _ := impl.AddVectors(x, v)
			checkHas(t, got, y, isIn(r, x))
		}
		back, ok := impl.MoveRegion(got, negative(v))
		checkRegion(t, "MoveRegion back", back, ok, r, true)
	}
	if moved < 150 {
		t.Errorf("only %d moved regions", moved)
	}
}

func checkMeet(t *testing.T, r impl.Region, s impl.Region, want impl.Region, wantOK bool) {
	t.Helper()
	got, ok := impl.MeetRegions(r, s)
	checkRegion(t, fmt.Sprintf("MeetRegions(%s, %s)", shownRegion(r), shownRegion(s)), got, ok, want, wantOK)
}

func TestMeetRegions(t *testing.T) {
	a, b, c := half(2, 1, 0), half(0, -1, -1), half(1, 0, 1)
	checkMeet(t, region(2, a, b), region(2, c, a), region(2, a, b, c), true)
	checkMeet(t, region(2, c, a), region(2, a, b), region(2, c, a, b), true)
	checkMeet(t, region(2, a, b), region(2, a, b), region(2, a, b), true)
	checkMeet(t, region(2, a, b), region(2, b, a), region(2, a, b), true)
	checkMeet(t, region(2, a), region(2, c, b), region(2, a, c, b), true)
	checkMeet(t, region(2), region(2, c, b), region(2, c, b), true)
	checkMeet(t, region(2, c, b), region(2), region(2, c, b), true)
	// A half that stands twice in one region stays twice unless it is in the first one.
	checkMeet(t, region(2, a, a), region(2, b), region(2, a, a, b), true)
	checkMeet(t, region(2, a), region(2, b, b), region(2, a, b, b), true)
	checkMeet(t, region(2), region(2, b, b), region(2, b, b), true)
	checkMeet(t, region(2, b), region(2, b, b), region(2, b), true)
	checkMeet(t, region(2, b, a, b), region(2, b, c, b), region(2, b, a, b, c), true)
	// Halves that have the same points, or one number in common less, are not equal.
	checkMeet(t, region(2, a), region(2, half(4, 2, 0)), region(2, a, half(4, 2, 0)), true)
	checkMeet(t, region(2, a), region(2, half(3, 1, 0)), region(2, a, half(3, 1, 0)), true)
	checkMeet(t, region(2, a), region(2, half(2, 1, 1)), region(2, a, half(2, 1, 1)), true)
	checkMeet(t, region(2, a), region(2, half(2, 0, 1)), region(2, a, half(2, 0, 1)), true)
	checkMeet(t, region(2, a), region(2, half(-2, -1, 0)), region(2, a, half(-2, -1, 0)), true)
	for dim := 1; dim <= 3; dim++ {
		checkMeet(t, region(dim), region(dim), region(dim), true)
		for place := range dim {
			ones, others := slices.Repeat([]int{1}, dim), slices.Repeat([]int{1}, dim)
			others[place] = 2
			x, y := half(1, ones...), half(1, others...)
			checkMeet(t, region(dim, x), region(dim, y), region(dim, x, y), true)
			checkMeet(t, region(dim, x, y), region(dim, y, x), region(dim, x, y), true)
		}
	}
}

func TestMeetRegionsCountsHalves(t *testing.T) {
	for dim := 1; dim <= 3; dim++ {
		list := manyHalves(dim, 16)
		for n := range 9 {
			for m := range 9 {
				r, s := region(dim, list[:n]...), region(dim, list[8:8+m]...)
				if n+m <= 8 {
					checkMeet(t, r, s, region(dim, slices.Concat(r.Halves, s.Halves)...), true)
				} else {
					checkMeet(t, r, s, impl.Region{}, false)
				}
				// Here the first n of s are in r.
				checkMeet(t, r, region(dim, list[:m]...), region(dim, list[:max(n, m)]...), true)
			}
		}
		full := region(dim, list[:8]...)
		checkMeet(t, full, region(dim, slices.Repeat(list[7:8], 8)...), full, true)
		checkMeet(t, full, region(dim, list[8]), impl.Region{}, false)
		checkMeet(t, region(dim, list[8]), full, impl.Region{}, false)
		checkMeet(t, region(dim, list[:7]...), region(dim, list[8], list[8]), impl.Region{}, false)
		checkMeet(t, region(dim, list[:6]...), region(dim, list[8], list[8]),
			region(dim, append(slices.Clone(list[:6]), list[8], list[8])...), true)
	}
}

func TestMeetRegionsRefuses(t *testing.T) {
	for dim := 1; dim <= 3; dim++ {
		for other := 1; other <= 3; other++ {
			if dim != other {
				checkMeet(t, region(dim), region(other), impl.Region{}, false)
				checkMeet(t, region(dim, manyHalves(dim, 2)...), region(other, manyHalves(other, 2)...), impl.Region{}, false)
				checkMeet(t, region(dim, manyHalves(dim, 2)...), region(other), impl.Region{}, false)
				checkMeet(t, region(dim), region(other, manyHalves(other, 2)...), impl.Region{}, false)
			}
		}
	}
	for _, r := range noRegions() {
		for dim := 1; dim <= 3; dim++ {
			checkMeet(t, r, region(dim), impl.Region{}, false)
			checkMeet(t, region(dim), r, impl.Region{}, false)
		}
		checkMeet(t, r, r, impl.Region{}, false)
	}
}

func TestMetRegionsHaveTheCommonPoints(t *testing.T) {
	list := someRegions(90)
	met := 0
	for _, r := range list {
		for _, s := range list {
			got, ok := impl.MeetRegions(r, s)
			if !ok {
				checkRegion(t, "MeetRegions", got, ok, impl.Region{}, false)
				continue
			}
			met++
			for _, x := range pointsOfBox(r.Dim, 1) {
				checkHas(t, got, x, isIn(r, x) && isIn(s, x))
			}
		}
	}
	if met < 1000 {
		t.Errorf("only %d common regions", met)
	}
}

func checkEqual(t *testing.T, a impl.Region, b impl.Region, want bool) {
	t.Helper()
	if impl.EqualRegion(a, b) != want || impl.EqualRegion(b, a) != want {
		t.Errorf("EqualRegion(%s, %s) is not %v both ways", shownRegion(a), shownRegion(b), want)
	}
}

func TestEqualRegion(t *testing.T) {
	a, b := half(2, 1, 0), half(0, -1, -1)
	checkEqual(t, region(2, a, b), region(2, half(2, 1, 0), half(0, -1, -1)), true)
	checkEqual(t, region(2, a, b), region(2, b, a), false)
	checkEqual(t, region(2, a, b), region(2, a), false)
	checkEqual(t, region(2, a, b), region(2, b), false)
	checkEqual(t, region(2, a), region(2, a, a), false)
	checkEqual(t, region(2, a), region(2), false)
	checkEqual(t, region(2, a), region(2, half(3, 1, 0)), false)
	checkEqual(t, region(2, a), region(2, half(2, 2, 0)), false)
	checkEqual(t, region(2, a), region(2, half(2, 1, 1)), false)
	checkEqual(t, region(2, a), region(2, half(4, 2, 0)), false)
	checkEqual(t, region(2), region(3), false)
	checkEqual(t, region(2), impl.Region{Dim: 2, Halves: []impl.Half{}}, true)
	list := someRegions(60)
	for i, r := range list {
		for j, s := range list {
			checkEqual(t, r, s, i == j || regionsEqual(r, s))
		}
	}
	// Each of eight halves is compared.
	for place := range 8 {
		halves := manyHalves(3, 8)
		halves[place].Bound++
		checkEqual(t, region(3, manyHalves(3, 8)...), region(3, halves...), false)
		halves[place].Bound--
		checkEqual(t, region(3, manyHalves(3, 8)...), region(3, halves...), true)
		for k := range 3 {
			halves[place].Normal[k]++
			checkEqual(t, region(3, manyHalves(3, 8)...), region(3, halves...), false)
			halves[place].Normal[k]--
		}
	}
}

// Values that are no regions are compared in all fields, too.
func TestEqualRegionOfNoRegions(t *testing.T) {
	checkEqual(t, impl.Region{}, impl.Region{}, true)
	checkEqual(t, impl.Region{}, region(1), false)
	checkEqual(t, region(0), region(-1), false)
	checkEqual(t, region(4), region(4), true)
	checkEqual(t, region(math.MinInt64), region(math.MaxInt64), false)
	checkEqual(t, region(1), region(1<<32+1), false)
	checkEqual(t, region(2, half(0)), region(2, impl.Half{Normal: []int{}}), true)
	checkEqual(t, region(2, half(0)), region(2), false)
	checkEqual(t, region(2, half(0)), region(2, half(0, 0)), false)
	checkEqual(t, region(2, half(0, 0)), region(2, half(0, 0, 0)), false)
	checkEqual(t, region(2, half(1, 1)), region(2, half(1, 1, 0)), false)
	checkEqual(t, region(2, half(1, 1, 0)), region(2, half(1, 1, 0, 0)), false)
	checkEqual(t, region(3, half(1, 1, 2, 3)), region(3, half(1, 1, 2, 3, 0)), false)
	checkEqual(t, region(3, half(1, 1, 2, 3, 4)), region(3, half(1, 1, 2, 3, 5)), false)
	checkEqual(t, region(3, half(1, 1, 2, 3, 4)), region(3, half(1, 1, 2, 3, 4)), true)
	checkEqual(t, region(1, half(201, 1)), region(1, half(202, 1)), false)
	checkEqual(t, region(1, half(201, 21)), region(1, half(201, 21)), true)
	checkEqual(t, region(2, manyHalves(2, 9)...), region(2, manyHalves(2, 9)...), true)
	checkEqual(t, region(2, manyHalves(2, 9)...), region(2, manyHalves(2, 8)...), false)
	checkEqual(t, region(2, manyHalves(2, 9)...), region(2, append(manyHalves(2, 8), half(8, 1, 1))...), false)
	for _, r := range noRegions() {
		checkEqual(t, r, cloneRegion(r), true)
		checkEqual(t, r, region(r.Dim, append(slices.Clone(r.Halves), half(0, 1))...), false)
	}
}

// textOf is the text that the chapter asks for, made of the fields alone.
func textOf(r impl.Region) string {
	text := fmt.Sprint(r.Dim)
	for _, h := range r.Halves {
		normal := strings.Trim(strings.ReplaceAll(fmt.Sprint(h.Normal), " ", ","), "[]")
		text += fmt.Sprintf(";%s<%d", normal, h.Bound)
	}
	return text
}

func checkParseRegion(t *testing.T, text string, want impl.Region, wantOK bool) {
	t.Helper()
	got, ok := impl.ParseRegion(text)
	checkRegion(t, fmt.Sprintf("ParseRegion(%.80q)", text), got, ok, want, wantOK)
}

func TestRegionText(t *testing.T) {
	cases := []struct {
		r    impl.Region
		want string
	}{
		{region(1), "1"},
		{region(2), "2"},
		{region(3), "3"},
		{region(1, half(0, -1)), "1;-1<0"},
		{region(2, half(2, 1, 0), half(0, -1, -1)), "2;1,0<2;-1,-1<0"},
		{region(2, half(2, 1, 0), half(2, 1, 0)), "2;1,0<2;1,0<2"},
		{region(3, half(-200, 20, -20, 0)), "3;20,-20,0<-200"},
		{region(3, half(200, 0, 0, 7)), "3;0,0,7<200"},
	}
	for _, c := range cases {
		if got := impl.RegionText(c.r); got != c.want {
			t.Errorf("RegionText(%v) = %q, want %q", c.r, got, c.want)
		}
		checkParseRegion(t, c.want, c.r, true)
	}
	for _, r := range noRegions() {
		if got := impl.RegionText(r); got != "" {
			t.Errorf("RegionText(%s) = %q", shownRegion(r), got)
		}
	}
}

func TestRegionIsParsedFromItsText(t *testing.T) {
	list := someRegions(1000)
	for dim := 1; dim <= 3; dim++ {
		for count := range 9 {
			list = append(list, region(dim, manyHalves(dim, count)...))
		}
	}
	for n := -200; n <= 200; n++ {
		list = append(list, region(1, half(n, 1)), region(2, half(-n, 0, -1), half(n, 5, 5)), region(3, half(n, 1, -20, 20)))
	}
	for n := -20; n <= 20; n++ {
		if n != 0 {
			list = append(list, region(1, half(1, n)), region(2, half(0, 0, n), half(0, n, 0)))
			list = append(list, region(3, half(0, n, 0, 0), half(0, 0, n, 0), half(0, 0, 0, n)))
		}
	}
	for _, r := range list {
		text := impl.RegionText(r)
		if want := textOf(r); text != want {
			t.Fatalf("RegionText(%v) = %q, want %q", r, text, want)
		}
		checkParseRegion(t, text, r, true)
	}
}

func TestParseRegionRefuses(t *testing.T) {
	for _, text := range []string{
		"", ";", ";;", "<", "0", "4", "-1", "10", "22", "1000000", "18446744073709551618",
		"02", "+2", "-2", " 2", "2 ", "2\n", "2\x00", "a", "2a", "\xff", "\u0662", "\uff12",
		"0;1<2", "4;1,0,0,0<1", "4;1,0,0<1", ";1,0<1", "1,0<1", "1,0<1;2", "<1", "2<1", "2,1",
		"2;", "2;;", "2;1,0<2;", "2;;1,0<2", "2;1,0<2;;1,1<1", ";2;1,0<2", "2;1,0<2;;",
		"2;1,0", "2;1,0<", "2;<1", "2;<", "2;1,0<2<3", "2;1,0<2<", "2;1,0<<2", "2;<1,0<2", "2;1,0>2", "2;1,0=2", "2;1,0<=2", "2;1,0;2",
		"2;1<1", "2;1,0,0<1", "2;1,0<1;1<1", "2;1,0<1;1,0,0<1", "1;1,0<1", "3;1,0<1", "3;1,0,0,0<1", "2;,<1", "2;1,<1", "2;,1<1", "2;1,,0<1",
		"1;0<1", "2;0,0<1", "3;0,0,0<1", "2;1,0<1;0,0<0", "2;0,0<-1",
		"2;21,0<1", "2;0,-21<1", "1;21<1", "1;-21<1", "3;1,1,21<1", "3;1,-21,1<1", "2;1001,0<1", "2;18446744073709551617,0<1",
		"2;1,0<201", "2;1,0<-201", "2;1,0<1000000000000", "2;1,0<18446744073709551617", "2;1,0<1;1,0<201",
		"2;01,0<1", "2;1,00<1", "2;-0,1<1", "2;1,-0<1", "2;+1,0<1", "2;1,0<01", "2;1,0<-0", "2;1,0<+1", "2;1,0<-", "2;1,0<--1", "2;1,0<1,0", "2;1,0<00",
		"2; 1,0<2", "2;1,0 <2", "2;1,0< 2", "2;1,0<2 ", "2;1, 0<2", "2 ;1,0<2", "2;1 0<2", "2;1,0<2\n", "2;1,0<2\n;1,1<1", "2:1,0<2", "2|1,0<2",
		"2;1,0<a", "2;a,0<1", "2;(1,0)<1", "2;1.0,0<1", "2;1,0<1e1", "2;1,0<0x1", "2;1,0<\xff", "2;1,0<\u0661", "2\uff1b1,0<1",
		"2" + strings.Repeat(";1,0<1", 9), "1" + strings.Repeat(";1<1", 9), "2" + strings.Repeat(";1,0<1", 50000), strings.Repeat(";", 100000), "2" + strings.Repeat(";", 8),
		"2;1,0" + strings.Repeat("<1", 1000), "2;1" + strings.Repeat(",0", 1000) + "<1",
	} {
		checkParseRegion(t, text, impl.Region{}, false)
	}
	eight := region(2, slices.Repeat([]impl.Half{half(1, 1, 0)}, 8)...)
	checkParseRegion(t, "2"+strings.Repeat(";1,0<1", 8), eight, true)
}

const numberLetters = `(0|-?[1-9][0-9]{0,3})`

var regionLetters = regexp.MustCompile(`^[123](;` + numberLetters + `(,` + numberLetters + `)*<` + numberLetters + `){0,8}$`)

// isRegionText tells the texts of regions by their letters and the limits of their numbers.
func isRegionText(text string) bool {
	if !regionLetters.MatchString(text) {
		return false
	}
	parts := strings.Split(text, ";")
	for _, part := range parts[1:] {
		sides := strings.Split(part, "<")
		largest, count := 0, 0
		for _, word := range strings.Split(sides[0], ",") {
			n := 0
			fmt.Sscan(word, &n)
			largest = max(largest, n, -n)
			count++
		}
		bound := 0
		fmt.Sscan(sides[1], &bound)
		if fmt.Sprint(count) != parts[0] || largest < 1 || largest > 20 || bound < -200 || bound > 200 {
			return false
		}
	}
	return true
}

// Of many short texts just those are accepted that are the text of a region.
func TestParseRegionAcceptsNothingElse(t *testing.T) {
	accepted := 0
	words := wordsOver([]byte{'0', '2', '1', '-', ',', ';', '<'}, 5)
	for _, start := range []string{"", "1;", "2;", "2;1,", "3;0,1,", "1;1<2", "2;0,2<", "3;1,1,1<-2"} {
		for _, word := range words {
			text := start + word
			got, ok := impl.ParseRegion(text)
			if want := isRegionText(text); ok != want {
				t.Fatalf("ParseRegion(%q) = %v, %v", text, got, ok)
			}
			if !ok {
				checkRegion(t, fmt.Sprintf("ParseRegion(%q)", text), got, ok, impl.Region{}, false)
				continue
			}
			accepted++
			if again := impl.RegionText(got); again != text {
				t.Fatalf("ParseRegion(%q) = %v, whose text is %q", text, got, again)
			}
		}
	}
	if accepted < 500 {
		t.Errorf("only %d texts are accepted", accepted)
	}
}

// One byte more or less in the text of a region gives another one or none.
func TestParseRegionTellsEveryByte(t *testing.T) {
	text := "2;1,0<2;-1,-1<10"
	for place := range len(text) {
		for b := range 256 {
			changed := text[:place] + string([]byte{byte(b)}) + text[place+1:]
			longer := text[:place] + string([]byte{byte(b)}) + text[place:]
			for _, other := range []string{changed, longer, text[:place] + text[place+1:], text[:place]} {
				if got, ok := impl.ParseRegion(other); ok != isRegionText(other) || ok && textOf(got) != other {
					t.Errorf("ParseRegion(%q) = %v, %v", other, got, ok)
				}
			}
		}
	}
}

// cloneRegion copies r; the places beyond the lengths hold values that must stay, too.
func cloneRegion(r impl.Region) impl.Region {
	list := make([]impl.Half, len(r.Halves), len(r.Halves)+2)
	for k, h := range r.Halves {
		list[k] = half(h.Bound, append(slices.Clone(h.Normal), 99, 98)[:len(h.Normal)]...)
	}
	_ = append(list, half(97, 96), half(95, 94))
	return impl.Region{Dim: r.Dim, Halves: list}
}

// isKeptRegion reports whether s is as cloneRegion made it of r.
func isKeptRegion(s impl.Region, r impl.Region) bool {
	if !regionsEqual(s, r) {
		return false
	}
	for _, h := range s.Halves {
		if beyond := h.Normal[len(h.Normal) : len(h.Normal)+2]; !slices.Equal(beyond, []int{99, 98}) {
			return false
		}
	}
	beyond := s.Halves[len(s.Halves) : len(s.Halves)+2]
	return halvesEqual(beyond[0], half(97, 96)) && halvesEqual(beyond[1], half(95, 94))
}

func TestRegionsAreKept(t *testing.T) {
	list := someRegions(54)
	for k, r := range noRegions() {
		if k%8 == 0 {
			list = append(list, r)
		}
	}
	for _, r := range list {
		for _, s := range list {
			a, b, v := cloneRegion(r), cloneRegion(s), []int{4, -7, 9}
			impl.IsRegion(a)
			impl.HasPoint(a, v[:min(3, max(a.Dim, 0))])
			impl.MoveRegion(a, v[:min(3, max(a.Dim, 0))])
			impl.MeetRegions(a, b)
			impl.EqualRegion(a, b)
			impl.RegionText(a)
			for _, h := range a.Halves {
				impl.IsHalf(a.Dim, h)
			}
			if !isKeptRegion(a, r) || !isKeptRegion(b, s) || !slices.Equal(v, []int{4, -7, 9}) {
				t.Fatalf("arguments %v, %v and 4,-7,9 became %v, %v and %v", r, s, a, b, v)
			}
		}
	}
}

// spoil writes to every number of r, and beyond the lengths of its lists.
func spoil(r impl.Region) {
	for k := range r.Halves {
		_ = append(r.Halves[k].Normal, 55, 56, 57, 58)
		for i := range r.Halves[k].Normal {
			r.Halves[k].Normal[i] += 77
		}
		r.Halves[k].Bound += 77
	}
	_ = append(r.Halves, half(55, 55), half(55, 55))
}

func TestRegionsAreNew(t *testing.T) {
	for dim := 1; dim <= 3; dim++ {
		full, empty := region(dim, manyHalves(dim, 4)...), region(dim)
		moved, _ := impl.MoveRegion(full, make([]int, dim))
		one, _ := impl.MeetRegions(full, full)
		two, _ := impl.MeetRegions(full, empty)
		three, _ := impl.MeetRegions(empty, full)
		parsed, _ := impl.ParseRegion(textOf(full))
		for _, got := range []impl.Region{moved, one, two, three, parsed} {
			if !regionsEqual(got, full) {
				t.Fatalf("the result is %v, want %v", got, full)
			}
			// Writing beyond one Normal must not reach another one.
			for k := range got.Halves {
				_ = append(got.Halves[k].Normal, 55, 56, 57, 58)
			}
			if !regionsEqual(got, full) {
				t.Fatalf("the Normals of a result share memory: %v", got)
			}
		}
		for _, got := range []impl.Region{moved, one, two, three, parsed} {
			spoil(got)
			if !regionsEqual(full, region(dim, manyHalves(dim, 4)...)) {
				t.Fatalf("a result shares memory with an argument, which became %v", full)
			}
		}
		checkParseRegion(t, textOf(full), full, true)
	}
}

// Equal halves of one region are different lists in the result.
func TestEqualHalvesShareNoMemory(t *testing.T) {
	shared := half(1, 2, 3)
	twice := region(2, shared, shared)
	moved, _ := impl.MoveRegion(twice, []int{0, 0})
	one, _ := impl.MeetRegions(twice, region(2))
	two, _ := impl.MeetRegions(region(2), twice)
	parsed, _ := impl.ParseRegion("2;2,3<1;2,3<1")
	for _, got := range []impl.Region{moved, one, two, parsed} {
		if !regionsEqual(got, twice) {
			t.Fatalf("the result is %v", got)
		}
		got.Halves[0].Normal[0] = 9
		if got.Halves[1].Normal[0] != 2 || shared.Normal[0] != 2 {
			t.Errorf("the Normals share memory: %v, %v", got, shared)
		}
	}
}

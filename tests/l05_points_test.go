package tests

import (
	"fmt"
	"math"
	"slices"
	"testing"

	"loop.example/g00959/impl"
)

// parsed is the region of the text, which must be one.
func parsed(text string) impl.Region {
	r, ok := impl.ParseRegion(text)
	if !ok {
		panic("no region: " + text)
	}
	return r
}

// pointsOf lists what PointsIn must return for a region.
func pointsOf(r impl.Region) [][]int {
	var list [][]int
	for _, x := range pointsOfBox(r.Dim, 6) {
		if isIn(r, x) {
			list = append(list, x)
		}
	}
	return list
}

// pointRegions are regions with few, many and no points, and the scattered ones.
func pointRegions() []impl.Region {
	list := someRegions(240)
	for dim := 1; dim <= 3; dim++ {
		for _, sign := range []int{1, -1} {
			for place := range dim {
				normal := make([]int, dim)
				normal[place] = sign
				// The points within -6 are those of one side of the box.
				for _, bound := range []int{-7, -6, -5, 0, 5, 6, 7} {
					list = append(list, region(dim, half(bound, normal...)))
				}
			}
			corner := slices.Repeat([]int{sign}, dim)
			list = append(list, region(dim, half(-6*dim, corner...)), region(dim, half(-6*dim-1, corner...)), region(dim, half(-6*dim+1, corner...)))
			list = append(list, region(dim, half(sign, negative(corner)...), half(sign, corner...)))
		}
		list = append(list, region(dim))
	}
	for _, text := range []string{
		"1;2<1;-2<-1", "1;1<0;-1<-1", "2;2,2<1;-2,-2<-1", "3;1,0,0<-1;-1,0,0<0",
		"2;-1,0<0;0,-1<0;1,1<2", "2;1,-1<0;-1,1<0", "2;3,5<1;-3,-5<-1", "3;1,1,1<0;-1,-1,-1<0;1,-1,0<0",
		"3;-1,0,0<0;0,-1,0<0;0,0,-1<0;1,1,1<3", "2;20,20<-200", "2;20,-20<-200;0,1<3", "3;20,20,20<-200;-1,0,0<0",
	} {
		list = append(list, parsed(text))
	}
	return list
}

func checkPoints(t *testing.T, r impl.Region, want [][]int) {
	t.Helper()
	got := impl.PointsIn(r)
	if !areSame(got, want) {
		t.Errorf("PointsIn(%s) = %s, want %s", shownRegion(r), shown(got), shown(want))
	}
	if got == nil {
		t.Errorf("PointsIn(%s) = nil, as if it were no region", shownRegion(r))
	}
	if count := impl.CountIn(r); count != len(want) {
		t.Errorf("CountIn(%s) = %d, want %d", shownRegion(r), count, len(want))
	}
}

func TestBox(t *testing.T) {
	if impl.Box != 6 {
		t.Errorf("Box = %d", impl.Box)
	}
}

func TestPointsIn(t *testing.T) {
	checkPoints(t, parsed("2;-1,0<0;0,-1<0;1,1<2"), [][]int{{0, 0}, {0, 1}, {0, 2}, {1, 0}, {1, 1}, {2, 0}})
	checkPoints(t, parsed("1;-1<-4"), [][]int{{4}, {5}, {6}})
	checkPoints(t, parsed("1;3<-13"), [][]int{{-6}, {-5}})
	checkPoints(t, parsed("2;3,5<1;-3,-5<-1"), [][]int{{-3, 2}, {2, -1}})
	checkPoints(t, parsed("3;1,1,1<-17"), [][]int{{-6, -6, -6}, {-6, -6, -5}, {-6, -5, -6}, {-5, -6, -6}})
}

func TestPointsOfRegionsWithoutPoints(t *testing.T) {
	for _, text := range []string{
		"1;1<-7", "1;-1<-7", "1;1<-200", "1;2<1;-2<-1", "1;1<0;-1<-1", "1;20<-121",
		"2;0,1<-7", "2;-1,0<-7", "2;1,1<-13", "2;2,2<1;-2,-2<-1", "2;1,0<0;0,1<0;-1,-1<-1",
		"3;0,0,1<-7", "3;1,1,1<-19", "3;-1,1,-1<-19", "3;2,4,6<1;-2,-4,-6<-1",
	} {
		checkPoints(t, parsed(text), [][]int{})
	}
}

func TestPointsOfRegionsWithoutHalves(t *testing.T) {
	for dim, count := range []int{1: 13, 2: 169, 3: 2197} {
		if dim > 0 {
			checkPoints(t, region(dim), pointsOfBox(dim, 6))
			checkPoints(t, impl.Region{Dim: dim, Halves: []impl.Half{}}, pointsOfBox(dim, 6))
			if got := impl.CountIn(region(dim)); got != count {
				t.Errorf("CountIn of all points of %d dimensions = %d, want %d", dim, got, count)
			}
		}
	}
}

// At the edge of the box, and not beyond it, points belong to PointsIn.
func TestPointsAtTheEdgeOfTheBox(t *testing.T) {
	checkPoints(t, parsed("1;-1<-6"), [][]int{{6}})
	checkPoints(t, parsed("1;1<-6"), [][]int{{-6}})
	checkPoints(t, parsed("2;-1,-1<-12"), [][]int{{6, 6}})
	checkPoints(t, parsed("2;1,-1<-12"), [][]int{{-6, 6}})
	checkPoints(t, parsed("3;-1,1,-1<-18"), [][]int{{6, -6, 6}})
	checkPoints(t, parsed("3;1,1,1<-18"), [][]int{{-6, -6, -6}})
	checkPoints(t, parsed("2;1,0<-6;0,-1<-5"), [][]int{{-6, 5}, {-6, 6}})
	// Here the points with 7 are in the region, and not in the box.
	checkPoints(t, parsed("1;1<7;-1<-5"), [][]int{{5}, {6}})
	checkPoints(t, parsed("2;1,1<-11"), [][]int{{-6, -6}, {-6, -5}, {-5, -6}})
	for _, x := range [][]int{{7, 0}, {0, -7}, {-1000, 1000}} {
		checkHas(t, region(2), x, true)
		if slices.ContainsFunc(impl.PointsIn(region(2)), func(y []int) bool { return slices.Equal(x, y) }) {
			t.Errorf("%v is in PointsIn", x)
		}
	}
}

func TestPointsInAreJustThePoints(t *testing.T) {
	empty, some := 0, 0
	for _, r := range pointRegions() {
		want := pointsOf(r)
		checkPoints(t, r, want)
		if len(want) == 0 {
			empty++
		} else if len(want) < len(pointsOfBox(r.Dim, 6)) {
			some++
		}
	}
	if empty < 20 || some < 100 {
		t.Errorf("only %d regions without points and %d with some", empty, some)
	}
}

func TestPointsAreInOrder(t *testing.T) {
	for _, r := range pointRegions() {
		list := impl.PointsIn(r)
		for k := 1; k < len(list); k++ {
			if !impl.BeforeVector(list[k-1], list[k]) {
				t.Fatalf("PointsIn(%v) has %v, and then %v", r, list[k-1], list[k])
			}
		}
	}
}

func TestPointsRefuseNoRegions(t *testing.T) {
	for _, r := range append(noRegions(), impl.Region{}) {
		if got := impl.PointsIn(r); got != nil {
			t.Errorf("PointsIn(%s) = %s", shownRegion(r), shown(got))
		}
		if got := impl.CountIn(r); got != -1 {
			t.Errorf("CountIn(%s) = %d", shownRegion(r), got)
		}
		for size := range 5 {
			checkBest(t, r, slices.Repeat([]int{1}, size), nil, nil)
		}
		for k := -1; k < 3; k++ {
			checkSlice(t, r, k, 0, impl.Region{}, false)
		}
	}
}

// checkBest expects the points as results of LeastIn and MostIn, or nil and false.
func checkBest(t *testing.T, r impl.Region, a []int, least []int, most []int) {
	t.Helper()
	one, found := impl.LeastIn(r, a)
	two, foundToo := impl.MostIn(r, a)
	if found != (least != nil) || foundToo != (most != nil) || !slices.Equal(one, least) || !slices.Equal(two, most) {
		t.Errorf("LeastIn and MostIn(%s, %v) = %v, %v and %v, %v, want %v and %v", shownRegion(r), a, one, found, two, foundToo, least, most)
	}
}

func TestLeastInAndMostIn(t *testing.T) {
	r := parsed("2;-1,0<0;0,-1<0;1,1<2")
	checkBest(t, r, []int{1, 1}, []int{0, 0}, []int{0, 2})
	checkBest(t, r, []int{-1, -1}, []int{0, 2}, []int{0, 0})
	checkBest(t, r, []int{1, 0}, []int{0, 0}, []int{2, 0})
	checkBest(t, r, []int{0, 1}, []int{0, 0}, []int{0, 2})
	checkBest(t, r, []int{0, -1}, []int{0, 2}, []int{0, 0})
	checkBest(t, r, []int{2, 1}, []int{0, 0}, []int{2, 0})
	checkBest(t, r, []int{1, -1}, []int{0, 2}, []int{2, 0})
	// All products are the same: the first point is both.
	checkBest(t, r, []int{0, 0}, []int{0, 0}, []int{0, 0})
	checkBest(t, region(3), []int{0, 0, 0}, []int{-6, -6, -6}, []int{-6, -6, -6})
	checkBest(t, parsed("2;1,1<3;-1,-1<-3"), []int{5, 5}, []int{-3, 6}, []int{-3, 6})
	// The point 0 is the result, too, if all products are below or above 0 elsewhere.
	checkBest(t, parsed("1;1<0"), []int{1}, []int{-6}, []int{0})
	checkBest(t, parsed("1;-1<0"), []int{1}, []int{0}, []int{6})
	checkBest(t, region(1), []int{1000}, []int{-6}, []int{6})
	checkBest(t, region(3), []int{1000, -1000, 1000}, []int{-6, 6, -6}, []int{6, -6, 6})
	checkBest(t, region(3), []int{0, 1000, 0}, []int{-6, -6, -6}, []int{-6, 6, -6})
	checkBest(t, parsed("2;20,20<-200"), []int{1, 1}, []int{-6, -6}, []int{-6, -4})
}

func TestBestOfRegionsWithoutPoints(t *testing.T) {
	for _, text := range []string{"1;1<-7", "1;2<1;-2<-1", "2;1,1<-13", "2;1,0<0;0,1<0;-1,-1<-1", "3;-1,-1,-1<-19"} {
		r := parsed(text)
		for _, a := range vectorsOver(0, 1, -1) {
			checkBest(t, r, a, nil, nil)
		}
	}
}

func TestBestRefusesNoVectors(t *testing.T) {
	for dim := 1; dim <= 3; dim++ {
		one := region(dim, manyHalves(dim, 3)...)
		for size := range 6 {
			if size != dim {
				checkBest(t, region(dim), slices.Repeat([]int{1}, size), nil, nil)
				checkBest(t, one, make([]int, size), nil, nil)
			}
		}
		for _, a := range noVectors() {
			checkBest(t, region(dim), a, nil, nil)
			checkBest(t, one, a, nil, nil)
		}
	}
}

func productWith(a []int, x []int) int {
	sum := 0
	for k := range a {
		sum += a[k] * x[k]
	}
	return sum
}

func TestBestIsTheFirstOfAllPoints(t *testing.T) {
	vectors := append(vectorsOver(0, 1, -1), []int{1000}, []int{-1000, 999}, []int{3, 5}, []int{1000, 1000, -1000}, []int{-7, 11, 2})
	ties := 0
	for _, r := range pointRegions() {
		all := pointsOf(r)
		for _, a := range vectors {
			if len(a) != r.Dim || len(all) == 0 {
				checkBest(t, r, a, nil, nil)
				continue
			}
			least, most := all[0], all[0]
			for _, x := range all {
				if productWith(a, x) < productWith(a, least) {
					least = x
				}
				if productWith(a, x) > productWith(a, most) {
					most = x
				}
			}
			checkBest(t, r, a, least, most)
			for _, x := range all {
				if !slices.Equal(x, most) && productWith(a, x) == productWith(a, most) {
					ties++
				}
			}
		}
	}
	if ties < 1000 {
		t.Errorf("only %d ties", ties)
	}
}

func checkSlice(t *testing.T, r impl.Region, k int, n int, want impl.Region, wantOK bool) {
	t.Helper()
	got, ok := impl.SliceOf(r, k, n)
	checkRegion(t, fmt.Sprintf("SliceOf(%s, %d, %d)", shownRegion(r), k, n), got, ok, want, wantOK)
}

func TestSliceOf(t *testing.T) {
	r := parsed("2;-1,0<0;0,-1<0;1,1<2")
	checkSlice(t, r, 0, 1, parsed("1;-1<0;1<1"), true)
	checkSlice(t, r, 0, 0, parsed("1;-1<0;1<2"), true)
	checkSlice(t, r, 0, 3, parsed("1;-1<0;1<-1"), true)
	checkSlice(t, r, 1, 2, parsed("1;-1<0;1<0"), true)
	checkSlice(t, r, 0, -1, impl.Region{}, false)
	checkSlice(t, r, 1, -1, impl.Region{}, false)
	three := parsed("3;2,3,-5<7;1,0,0<4;0,-1,0<6;1,-1,2<-3")
	checkSlice(t, three, 0, 4, parsed("2;3,-5<-1;-1,0<6;-1,2<-7"), true)
	checkSlice(t, three, 0, 5, impl.Region{}, false)
	checkSlice(t, three, 1, -6, parsed("2;2,-5<25;1,0<4;1,2<-9"), true)
	checkSlice(t, three, 1, 2, parsed("2;2,-5<1;1,0<4;1,2<-1"), true)
	checkSlice(t, three, 2, 6, parsed("2;2,3<37;1,0<4;0,-1<6;1,-1<-15"), true)
	checkSlice(t, three, 2, -2, parsed("2;2,3<-3;1,0<4;0,-1<6;1,-1<1"), true)
	// Equal halves of the result both stay.
	checkSlice(t, parsed("2;1,1<2;2,1<3;1,1<2"), 0, 1, parsed("1;1<1;1<1;1<1"), true)
	for dim := 2; dim <= 3; dim++ {
		for k := range dim {
			checkSlice(t, region(dim), k, 3, region(dim-1), true)
		}
	}
}

// A half whose Normal would have only zeros decides by its Bound alone.
func TestSliceOfWithZeroNormals(t *testing.T) {
	for _, c := range []struct {
		n, bound int
		ok       bool
	}{
		{2, 7, true}, {2, 6, true}, {2, 5, false}, {-6, -17, true}, {-6, -18, true}, {-6, -19, false},
		{0, 1, true}, {0, 0, true}, {0, -1, false}, {-6, 200, true}, {6, 200, true}, {6, -200, false}, {6, 18, true}, {6, 17, false},
	} {
		for dim := 2; dim <= 3; dim++ {
			for k := range dim {
				normal, other := make([]int, dim), slices.Repeat([]int{1}, dim)
				normal[k] = 3
				alone, between := region(dim-1), region(dim-1, half(1-c.n, other[1:]...), half(2-c.n, other[1:]...))
				if !c.ok {
					alone, between = impl.Region{}, impl.Region{}
				}
				checkSlice(t, region(dim, half(c.bound, normal...)), k, c.n, alone, c.ok)
				checkSlice(t, region(dim, half(1, other...), half(c.bound, normal...), half(2, other...)), k, c.n, between, c.ok)
			}
		}
	}
}

func TestSliceOfLeavesHalvesOut(t *testing.T) {
	// Such a Bound may be beyond MaxBound: the half is left out.
	checkSlice(t, parsed("2;20,0<200;0,1<5"), 0, -6, parsed("1;1<5"), true)
	checkSlice(t, parsed("2;-20,0<81;0,1<5"), 0, 6, parsed("1;1<5"), true)
	// A Bound below 0 counts wherever the half stands, and if others are left out.
	for place := range 8 {
		halves := slices.Repeat([]impl.Half{half(5, 1, 0)}, 8)
		checkSlice(t, region(2, halves...), 0, 5, region(1), true)
		halves[place] = half(4, 1, 0)
		checkSlice(t, region(2, halves...), 0, 5, impl.Region{}, false)
		checkSlice(t, region(2, halves...), 1, 5, region(1, numbersOfHalves(halves, 0)...), true)
	}
}

// numbersOfHalves are the halves with the number at the index k of each Normal alone.
func numbersOfHalves(list []impl.Half, k int) []impl.Half {
	var all []impl.Half
	for _, h := range list {
		all = append(all, half(h.Bound, h.Normal[k]))
	}
	return all
}

func TestSliceOfRefuses(t *testing.T) {
	for dim := 1; dim <= 3; dim++ {
		for _, r := range []impl.Region{region(dim), region(dim, half(200, slices.Repeat([]int{1}, dim)...))} {
			for k := range dim {
				for _, n := range []int{7, -7, 8, 200, 1000, math.MaxInt64, math.MinInt64, 1 << 32, 1<<32 + 1} {
					checkSlice(t, r, k, n, impl.Region{}, false)
				}
			}
			for _, k := range []int{-1, -2, dim, dim + 1, 3, 4, 1000, math.MaxInt64, math.MinInt64, 1 << 32} {
				checkSlice(t, r, k, 0, impl.Region{}, false)
			}
		}
	}
	checkSlice(t, parsed("1;1<2"), 0, 0, impl.Region{}, false)
	checkSlice(t, parsed("1;1<2"), 0, 2, impl.Region{}, false)
	checkSlice(t, region(1), 0, 6, impl.Region{}, false)
}

// A Bound of the result may reach MaxBound, and not go beyond it.
func TestSliceOfChecksTheBounds(t *testing.T) {
	for _, c := range []struct {
		text  string
		k, n  int
		slice string
	}{
		{"2;1,1<194", 0, -6, "1;1<200"}, {"2;1,1<195", 0, -6, ""}, {"2;1,1<200", 1, 0, "1;1<200"}, {"2;1,1<200", 1, -1, ""},
		{"2;1,1<-194", 0, 6, "1;1<-200"}, {"2;1,1<-195", 0, 6, ""}, {"2;1,1<-200", 0, 1, ""}, {"2;1,1<-200", 0, -1, "1;1<-199"},
		{"2;20,1<80", 0, -6, "1;1<200"}, {"2;20,1<81", 0, -6, ""}, {"2;-20,1<-80", 0, -6, "1;1<-200"}, {"2;-20,1<-81", 0, -6, ""},
		{"3;0,-20,1<80", 1, 6, "2;0,1<200"}, {"3;0,-20,1<81", 1, 6, ""}, {"3;1,0,20<81;1,0,1<5", 2, -6, ""}, {"3;1,0,1<5;1,0,20<81", 2, -6, ""},
		{"3;1,20,0<-200;1,0,0<0", 1, 1, ""}, {"3;1,20,0<-200;1,0,0<0", 1, 0, "2;1,0<-200;1,0<0"},
	} {
		want := impl.Region{}
		if c.slice != "" {
			want = parsed(c.slice)
		}
		checkSlice(t, parsed(c.text), c.k, c.n, want, c.slice != "")
	}
}

// sliceOf is the region that the chapter asks for, made of the fields alone.
func sliceOf(r impl.Region, k int, n int) (impl.Region, bool) {
	s := region(r.Dim - 1)
	for _, h := range r.Halves {
		rest := append(slices.Clone(h.Normal[:k]), h.Normal[k+1:]...)
		bound := h.Bound - n*h.Normal[k]
		switch {
		case slices.Equal(rest, make([]int, len(rest))):
			if bound < 0 {
				return impl.Region{}, false
			}
		case bound < -200 || bound > 200:
			return impl.Region{}, false
		default:
			s.Halves = append(s.Halves, half(bound, rest...))
		}
	}
	return s, true
}

// The points of a region are those of its slices, for each number that is cut off.
func TestPointsAreToldByTheirSlices(t *testing.T) {
	cut, refused := 0, 0
	for _, r := range pointRegions() {
		all := pointsOf(r)
		for k := 0; k < r.Dim && r.Dim > 1; k++ {
			for n := -6; n <= 6; n++ {
				want, ok := sliceOf(r, k, n)
				checkSlice(t, r, k, n, want, ok)
				got, ok := impl.SliceOf(r, k, n)
				if !ok {
					refused++
					continue
				}
				cut++
				var points [][]int
				for _, x := range all {
					if x[k] == n {
						points = append(points, append(slices.Clone(x[:k]), x[k+1:]...))
					}
				}
				checkPoints(t, got, points)
			}
		}
	}
	if cut < 2000 || refused < 500 {
		t.Errorf("only %d slices, and %d that are none", cut, refused)
	}
}

func TestCountsOfSlicesAddUp(t *testing.T) {
	for _, r := range pointRegions() {
		for k := 0; k < r.Dim && r.Dim > 1; k++ {
			sum, all := 0, true
			for n := -6; n <= 6; n++ {
				s, ok := impl.SliceOf(r, k, n)
				if ok {
					sum += impl.CountIn(s)
				} else if cut, _ := impl.MeetRegions(r, wall(r.Dim, k, n)); impl.CountIn(cut) != 0 {
					// The result is no region, although it has points.
					all = false
				}
			}
			if all && sum != impl.CountIn(r) {
				t.Errorf("the slices of %v at %d have %d points, and not %d", r, k, sum, impl.CountIn(r))
			}
		}
	}
}

// wall is the region of the points in which the number with the index k is n.
func wall(dim int, k int, n int) impl.Region {
	normal := make([]int, dim)
	normal[k] = 1
	return region(dim, half(n, normal...), half(-n, negative(normal)...))
}

func TestPointsKeepTheirArguments(t *testing.T) {
	for _, r := range append(pointRegions(), noRegions()[:60]...) {
		c, a := cloneRegion(r), []int{4, -7, 9}
		v := a[:min(3, max(r.Dim, 0))]
		impl.PointsIn(c)
		impl.CountIn(c)
		impl.LeastIn(c, v)
		impl.MostIn(c, v)
		for k := range 3 {
			impl.SliceOf(c, k, -2)
		}
		if !isKeptRegion(c, r) || !slices.Equal(a, []int{4, -7, 9}) {
			t.Fatalf("arguments %v and 4,-7,9 became %v and %v", r, c, a)
		}
	}
}

func TestPointsAreNew(t *testing.T) {
	for dim := 1; dim <= 3; dim++ {
		r, want := region(dim, half(0, slices.Repeat([]int{1}, dim)...)), pointsOf(region(dim, half(0, slices.Repeat([]int{1}, dim)...)))
		list := impl.PointsIn(r)
		for k := range list {
			// Writing beyond one point must not reach another one.
			_ = append(list[k], 55, 56, 57)
		}
		if !areSame(list, want) {
			t.Fatalf("the points of one result share memory: %s", shown(list))
		}
		for k := range list {
			list[k][0] = 99
			if k+1 < len(list) && !slices.Equal(list[k+1], want[k+1]) {
				t.Fatalf("the points of one result share memory: %s", shown(list[k:]))
			}
		}
		a := slices.Repeat([]int{1}, dim)
		least, _ := impl.LeastIn(r, a)
		most, _ := impl.MostIn(r, a)
		least[0], most[0] = 77, 78
		if !slices.Equal(a, slices.Repeat([]int{1}, dim)) || least[0] != 77 {
			t.Errorf("LeastIn or MostIn shares memory with an argument or with the other: %v", a)
		}
		checkPoints(t, r, want)
	}
}

func TestSlicesAreNew(t *testing.T) {
	for dim := 2; dim <= 3; dim++ {
		for k := range dim {
			shared := half(9, slices.Repeat([]int{2}, dim)...)
			r := region(dim, shared, shared)
			want := half(7, slices.Repeat([]int{2}, dim-1)...)
			got, ok := impl.SliceOf(r, k, 1)
			checkRegion(t, "SliceOf", got, ok, region(dim-1, want, want), true)
			_ = append(got.Halves[0].Normal, 55, 56)
			got.Halves[0].Normal[0] = 9
			if !halvesEqual(got.Halves[1], want) || !halvesEqual(r.Halves[0], half(9, slices.Repeat([]int{2}, dim)...)) {
				t.Errorf("the Normals share memory: %v, %v", got, r)
			}
			spoil(got)
			if !halvesEqual(r.Halves[0], half(9, slices.Repeat([]int{2}, dim)...)) {
				t.Errorf("a slice shares memory with its region, which became %v", r)
			}
		}
	}
}

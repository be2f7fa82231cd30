package tests

import (
	"fmt"
	"math"
	"slices"
	"strings"
	"testing"

	"loop.example/g00959/impl"
)

// noVectors are lists that every function of the chapter refuses.
func noVectors() [][]int {
	lists := [][]int{nil, {}, {0, 0, 0, 0}, {1, 2, 3, 4}, make([]int, 1000)}
	for _, n := range []int{1001, -1001, 1000000, math.MaxInt64, math.MinInt64, 1 << 32, 1 << 61} {
		lists = append(lists, []int{n}, []int{n, 0}, []int{0, n}, []int{n, 0, 0}, []int{0, n, 0}, []int{0, 0, n})
	}
	return lists
}

// vectorsOver lists all vectors of these numbers, shorter ones first.
func vectorsOver(list ...int) [][]int {
	var all [][]int
	for _, a := range list {
		all = append(all, []int{a})
	}
	for _, a := range list {
		for _, b := range list {
			all = append(all, []int{a, b})
		}
	}
	for _, a := range list {
		for _, b := range list {
			for _, c := range list {
				all = append(all, []int{a, b, c})
			}
		}
	}
	return all
}

func checkVector(t *testing.T, call string, got []int, ok bool, want []int, wantOK bool) {
	t.Helper()
	if ok != wantOK || !slices.Equal(got, want) {
		t.Errorf("%s = %v, %v, want %v, %v", call, got, ok, want, wantOK)
	}
}

func TestVectorLimits(t *testing.T) {
	if impl.MaxDim != 3 || impl.MaxSize != 1000 {
		t.Errorf("MaxDim, MaxSize = %d, %d", impl.MaxDim, impl.MaxSize)
	}
}

func TestIsVector(t *testing.T) {
	for _, v := range vectorsOver(0, 1, -7, 999, -999, 1000, -1000) {
		if !impl.IsVector(v) {
			t.Errorf("IsVector(%v) = false", v)
		}
	}
	for _, v := range noVectors() {
		if impl.IsVector(v) {
			t.Errorf("IsVector(%v) = true", v)
		}
	}
}

func checkAdd(t *testing.T, a []int, b []int, want []int, wantOK bool) {
	t.Helper()
	got, ok := impl.AddVectors(a, b)
	checkVector(t, fmt.Sprintf("AddVectors(%v, %v)", a, b), got, ok, want, wantOK)
}

func TestAddVectors(t *testing.T) {
	checkAdd(t, []int{1}, []int{2}, []int{3}, true)
	checkAdd(t, []int{1, 2}, []int{3, -4}, []int{4, -2}, true)
	checkAdd(t, []int{1, 2, 3}, []int{-1, -2, -3}, []int{0, 0, 0}, true)
	checkAdd(t, []int{0, 0}, []int{0, 0}, []int{0, 0}, true)
	checkAdd(t, []int{0, 0, 0}, []int{7, -8, 9}, []int{7, -8, 9}, true)
	checkAdd(t, []int{999, -999}, []int{1, -1}, []int{1000, -1000}, true)
	checkAdd(t, []int{1000, -1000}, []int{-1000, 1000}, []int{0, 0}, true)
	checkAdd(t, []int{1000}, []int{1}, nil, false)
	checkAdd(t, []int{-1000}, []int{-1}, nil, false)
	checkAdd(t, []int{1000, 1000, 1000}, []int{1000, 1000, 1000}, nil, false)
	for k := range 3 {
		for _, n := range []int{1, -1} {
			a, b := make([]int, 3), make([]int, 3)
			a[k], b[k] = 1000*n, n
			checkAdd(t, a, b, nil, false)
			checkAdd(t, b, a, nil, false)
		}
	}
	checkAdd(t, []int{1, 2}, []int{3}, nil, false)
	checkAdd(t, []int{3}, []int{1, 2}, nil, false)
	checkAdd(t, []int{0, 0}, []int{0, 0, 0}, nil, false)
	for _, v := range noVectors() {
		for n := range 4 {
			checkAdd(t, v, make([]int, n), nil, false)
			checkAdd(t, make([]int, n), v, nil, false)
		}
		// The sums of these are vectors, or wrap around to them.
		checkAdd(t, v, negative(v), nil, false)
		checkAdd(t, v, v, nil, false)
	}
}

func negative(v []int) []int {
	w := slices.Clone(v)
	for k := range w {
		w[k] = -w[k]
	}
	return w
}

func checkScale(t *testing.T, v []int, k int, want []int, wantOK bool) {
	t.Helper()
	got, ok := impl.ScaleVector(v, k)
	checkVector(t, fmt.Sprintf("ScaleVector(%v, %d)", v, k), got, ok, want, wantOK)
}

func TestScaleVector(t *testing.T) {
	checkScale(t, []int{2, -1}, 3, []int{6, -3}, true)
	checkScale(t, []int{2, -1, 0}, -3, []int{-6, 3, 0}, true)
	checkScale(t, []int{5}, 1, []int{5}, true)
	checkScale(t, []int{1000, -1000, 3}, 0, []int{0, 0, 0}, true)
	checkScale(t, []int{0, 0}, 5, []int{0, 0}, true)
	checkScale(t, []int{250, -250}, 4, []int{1000, -1000}, true)
	checkScale(t, []int{334}, 3, nil, false)
	checkScale(t, []int{-334}, 3, nil, false)
	for k := range 3 {
		for _, n := range []int{501, -501} {
			v := make([]int, 3)
			v[k] = n
			checkScale(t, v, 2, nil, false)
			checkScale(t, v, -2, nil, false)
		}
	}
	checkScale(t, []int{1, -1}, 1000, []int{1000, -1000}, true)
	checkScale(t, []int{1, -1}, -1000, []int{-1000, 1000}, true)
	checkScale(t, []int{1000, -1000}, -1, []int{-1000, 1000}, true)
}

func TestScaleVectorRefusesFactors(t *testing.T) {
	for _, k := range []int{1001, -1001, math.MaxInt64, math.MinInt64, 1 << 61, 1 << 32} {
		// The products are 0 here, some because the 64 bits wrap around.
		checkScale(t, []int{0}, k, nil, false)
		checkScale(t, []int{0, 0, 0}, k, nil, false)
		checkScale(t, []int{8, 16}, k, nil, false)
	}
	for _, k := range []int{1000, -1000} {
		checkScale(t, []int{0, 0, 0}, k, []int{0, 0, 0}, true)
	}
	for _, v := range noVectors() {
		for _, k := range []int{0, 1, 8} {
			checkScale(t, v, k, nil, false)
		}
	}
}

func TestDotOf(t *testing.T) {
	cases := []struct {
		a, b []int
		want int
	}{
		{[]int{3}, []int{-4}, -12},
		{[]int{1, 2}, []int{3, 4}, 11},
		{[]int{1, 2, 3}, []int{4, 5, 6}, 32},
		{[]int{1, 0, 0}, []int{7, 8, 9}, 7},
		{[]int{0, 1, 0}, []int{7, 8, 9}, 8},
		{[]int{0, 0, 1}, []int{7, 8, 9}, 9},
		{[]int{2, -3}, []int{3, 2}, 0},
		{[]int{0, 0}, []int{5, 6}, 0},
		{[]int{1000, 1000, 1000}, []int{1000, 1000, 1000}, 3000000},
		{[]int{-1000, -1000, -1000}, []int{1000, 1000, 1000}, -3000000},
		{[]int{1}, []int{3, 4}, 0},
		{[]int{3, 4}, []int{1}, 0},
		{[]int{3, 4, 5}, []int{1, 2}, 0},
	}
	for _, c := range cases {
		if got := impl.DotOf(c.a, c.b); got != c.want {
			t.Errorf("DotOf(%v, %v) = %d, want %d", c.a, c.b, got, c.want)
		}
	}
	for _, v := range noVectors() {
		ones := slices.Repeat([]int{1}, len(v))
		if impl.DotOf(v, ones) != 0 || impl.DotOf(ones, v) != 0 || impl.DotOf(v, v) != 0 {
			t.Errorf("DotOf with %v is not 0", v)
		}
	}
}

// divisorOf looks for the greatest common divisor from above.
func divisorOf(v []int) int {
	for d := 1000; d > 0; d-- {
		divides, zero := true, true
		for _, n := range v {
			divides = divides && n%d == 0
			zero = zero && n == 0
		}
		if divides && !zero {
			return d
		}
	}
	return 0
}

func TestGcdOf(t *testing.T) {
	cases := []struct {
		v    []int
		want int
	}{
		{[]int{0}, 0},
		{[]int{0, 0}, 0},
		{[]int{0, 0, 0}, 0},
		{[]int{-5}, 5},
		{[]int{4, -6}, 2},
		{[]int{-4, -6}, 2},
		{[]int{0, -9}, 9},
		{[]int{-9, 0}, 9},
		{[]int{6, 10, 15}, 1},
		{[]int{12, 18, -30}, 6},
		{[]int{1000, -1000, 1000}, 1000},
		{[]int{999, 1000}, 1},
	}
	for _, c := range cases {
		if got := impl.GcdOf(c.v); got != c.want {
			t.Errorf("GcdOf(%v) = %d, want %d", c.v, got, c.want)
		}
	}
	for _, v := range noVectors() {
		if got := impl.GcdOf(v); got != -1 {
			t.Errorf("GcdOf(%v) = %d, want -1", v, got)
		}
	}
}

func TestPrimitiveOfDividesByGcdOf(t *testing.T) {
	for _, v := range vectorsOver(0, 1, -1, 2, 4, -6, 9, 15, 500, 1000, -1000) {
		g := divisorOf(v)
		if got := impl.GcdOf(v); got != g {
			t.Errorf("GcdOf(%v) = %d, want %d", v, got, g)
		}
		got, ok := impl.PrimitiveOf(v)
		var want []int
		for _, n := range v {
			if g > 0 {
				want = append(want, n/g)
			}
		}
		checkVector(t, fmt.Sprintf("PrimitiveOf(%v)", v), got, ok, want, g > 0)
	}
	for _, v := range noVectors() {
		got, ok := impl.PrimitiveOf(v)
		checkVector(t, fmt.Sprintf("PrimitiveOf(%v)", v), got, ok, nil, false)
	}
}

func TestPrimitiveOf(t *testing.T) {
	cases := []struct{ v, want []int }{
		{[]int{4, -6}, []int{2, -3}},
		{[]int{-4, -6}, []int{-2, -3}},
		{[]int{-7}, []int{-1}},
		{[]int{0, -1000}, []int{0, -1}},
		{[]int{0, 0, 3}, []int{0, 0, 1}},
		{[]int{3, 5}, []int{3, 5}},
		{[]int{6, 10, 14}, []int{3, 5, 7}},
	}
	for _, c := range cases {
		got, ok := impl.PrimitiveOf(c.v)
		checkVector(t, fmt.Sprintf("PrimitiveOf(%v)", c.v), got, ok, c.want, true)
	}
	for n := 1; n <= 3; n++ {
		got, ok := impl.PrimitiveOf(make([]int, n))
		checkVector(t, fmt.Sprintf("PrimitiveOf of %d zeros", n), got, ok, nil, false)
	}
}

func TestBeforeVector(t *testing.T) {
	all := vectorsOver(-1000, -1, 0, 1, 1000)
	for _, a := range all {
		for _, b := range all {
			want := len(a) == len(b) && slices.Compare(a, b) < 0
			if got := impl.BeforeVector(a, b); got != want {
				t.Errorf("BeforeVector(%v, %v) = %v, want %v", a, b, got, want)
			}
		}
	}
}

func TestBeforeVectorRefuses(t *testing.T) {
	cases := []struct{ a, b []int }{
		{[]int{1}, []int{1}},
		{[]int{1, 2, 3}, []int{1, 2, 3}},
		{[]int{0}, []int{1, 1}},
		{[]int{0, 0}, []int{1}},
		{[]int{0}, []int{0, 1}},
		{[]int{0, -1}, []int{0}},
		{nil, nil},
		{nil, []int{1}},
		{[]int{-1001}, []int{0}},
		{[]int{0}, []int{1001}},
		{[]int{0, 1001}, []int{1, 0}},
		{[]int{0, 0}, []int{1, -1001}},
		{[]int{0, 0, 0, 0}, []int{0, 0, 0, 1}},
		{[]int{0, 0, 0, 0}, []int{1, 0, 0, 0}},
	}
	for _, c := range cases {
		if impl.BeforeVector(c.a, c.b) {
			t.Errorf("BeforeVector(%v, %v) = true", c.a, c.b)
		}
	}
}

func checkParseVector(t *testing.T, text string, want []int, wantOK bool) {
	t.Helper()
	got, ok := impl.ParseVector(text)
	checkVector(t, fmt.Sprintf("ParseVector(%.80q)", text), got, ok, want, wantOK)
}

func TestVectorText(t *testing.T) {
	cases := []struct {
		v    []int
		want string
	}{
		{[]int{0}, "0"},
		{[]int{-5}, "-5"},
		{[]int{0, 0}, "0,0"},
		{[]int{2, -3}, "2,-3"},
		{[]int{10, 200, -1}, "10,200,-1"},
		{[]int{-1000, 0, 1000}, "-1000,0,1000"},
	}
	for _, c := range cases {
		if got := impl.VectorText(c.v); got != c.want {
			t.Errorf("VectorText(%v) = %q, want %q", c.v, got, c.want)
		}
		checkParseVector(t, c.want, c.v, true)
	}
	for _, v := range noVectors() {
		if got := impl.VectorText(v); got != "" {
			t.Errorf("VectorText(%v) = %q", v, got)
		}
	}
}

func TestVectorIsParsedFromItsText(t *testing.T) {
	for n := -1000; n <= 1000; n++ {
		for _, v := range [][]int{{n}, {n, 0}, {0, n}, {n, -n, n}, {1, n, -1000}, {0, 0, n}} {
			text := impl.VectorText(v)
			if want := strings.Trim(strings.ReplaceAll(fmt.Sprint(v), " ", ","), "[]"); text != want {
				t.Fatalf("VectorText(%v) = %q, want %q", v, text, want)
			}
			checkParseVector(t, text, v, true)
		}
	}
	for _, v := range vectorsOver(0, 7, -1, -10, 99, 1000, -1000) {
		checkParseVector(t, impl.VectorText(v), v, true)
	}
}

func TestParseVectorRefuses(t *testing.T) {
	for _, text := range []string{
		"", ",", ",,", ",,,", "1,", ",1", "1,,2", "1,2,", ",1,2", "1,2,3,", ",1,2,3", "1,2,,3",
		"1,2,3,4", "0,0,0,0", strings.Repeat("0,", 100000) + "0",
		"1001", "-1001", "1001,0", "0,-1001", "0,0,1001", "0,-1001,0", "1000000",
		"999999999999", "-999999999999", "1000000000000", "9223372036854775808",
		// This is 5 if the 64 bits wrap around.
		"18446744073709551621",
		"01", "00", "-0", "-01", "+1", "0,-0", "1,02", "1,2,+3", "--1", "-", "1,-",
		" 1", "1 ", "1, 2", "1 ,2", "1 2", "1;2", "1.2", "1\n", "1,2\n", "1\x00", "\x001",
		"a", "a,1", "1,a", "1,2,a", "(1,2)", "[1]", "0x1", "1e2", "1_0",
		"\xff", "1,\xff", "\u0661", "\uff11", "1\uff0c2", "\u22121",
	} {
		checkParseVector(t, text, nil, false)
	}
}

// Of all short texts just those are accepted that are the text of what was parsed.
func TestParseVectorAcceptsNothingElse(t *testing.T) {
	accepted := 0
	for _, text := range wordsOver([]byte{'0', '1', '9', '-', ',', ' '}, 5) {
		v, ok := impl.ParseVector(text)
		if !ok {
			continue
		}
		accepted++
		if got := impl.VectorText(v); got != text {
			t.Errorf("ParseVector(%q) = %v, whose text is %q", text, v, got)
		}
	}
	if want := vectorTextsUpTo(5); accepted != want {
		t.Errorf("accepted %d texts, want %d", accepted, want)
	}
}

// vectorTextsUpTo counts the texts of at most most bytes of all vectors
// whose digits are 0, 1 and 9.
func vectorTextsUpTo(most int) int {
	var sizes []int
	for n := -1000; n <= 1000; n++ {
		text := fmt.Sprint(n)
		if strings.Trim(text, "-019") == "" {
			sizes = append(sizes, len(text))
		}
	}
	count := 0
	for _, a := range sizes {
		if a <= most {
			count++
		}
		for _, b := range sizes {
			if a+1+b <= most {
				count++
			}
			for _, c := range sizes {
				if a+b+c+2 <= most {
					count++
				}
			}
		}
	}
	return count
}

func TestVectorsAreKept(t *testing.T) {
	lists := vectorsOver(-4, 6, 0)
	lists = append(lists, noVectors()...)
	for _, v := range lists {
		for _, w := range lists {
			// The places beyond the length hold numbers that must stay, too.
			a, b := append(slices.Clone(v), 99, 98), append(slices.Clone(w), 97, 96)
			callAll(a[:len(v)], b[:len(w)])
			if !slices.Equal(a, append(slices.Clone(v), 99, 98)) || !slices.Equal(b, append(slices.Clone(w), 97, 96)) {
				t.Fatalf("arguments %v and %v became %v and %v", v, w, a, b)
			}
		}
	}
}

func callAll(a []int, b []int) {
	impl.IsVector(a)
	impl.AddVectors(a, b)
	impl.ScaleVector(a, -3)
	impl.DotOf(a, b)
	impl.GcdOf(a)
	impl.PrimitiveOf(a)
	impl.BeforeVector(a, b)
	impl.VectorText(a)
}

func TestVectorsAreNew(t *testing.T) {
	v, zero := []int{3, 5}, []int{0, 0}
	sum, _ := impl.AddVectors(v, zero)
	product, _ := impl.ScaleVector(v, 1)
	primitive, _ := impl.PrimitiveOf(v)
	for _, got := range [][]int{sum, product, primitive} {
		if !slices.Equal(got, []int{3, 5}) {
			t.Fatalf("the result is %v", got)
		}
		got[0] = 77
	}
	first, _ := impl.ParseVector("3,5")
	first[0] = 77
	checkParseVector(t, "3,5", []int{3, 5}, true)
	if !slices.Equal(v, []int{3, 5}) || !slices.Equal(zero, []int{0, 0}) {
		t.Errorf("results share memory with the arguments: %v, %v", v, zero)
	}
}

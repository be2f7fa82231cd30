package tests

import (
	"fmt"
	"math"
	"math/big"
	"slices"
	"testing"

	"loop.example/g00959/impl"
)

const prime = 10007

// noUnits are the numbers that are not from 1 to Prime - 1.
func noUnits() []int {
	return []int{0, -1, -2, prime, prime + 1, prime + 2, 2 * prime, 2*prime + 1, 1 - prime, -prime, 1000000, 1 << 32, 1<<32 + 1, 1<<32 + 2, 1<<61 + 1, math.MaxInt64, -math.MaxInt64, math.MinInt64}
}

// noPowers are beyond the limits.
func noPowers() []int {
	return []int{1000001, -1000001, 1000002, -1000002, 10006 * 100, -10006 * 100, 1 << 32, 1<<32 + 1, -(1 << 32), 1<<61 + 1, math.MaxInt64, -math.MaxInt64, math.MinInt64}
}

// modulo is the fraction modulo the prime, which its denominator must not have as a factor.
func modulo(x *big.Rat) int {
	p := big.NewInt(prime)
	below := new(big.Int).ModInverse(x.Denom(), p)
	return int(new(big.Int).Mod(new(big.Int).Mul(x.Num(), below), p).Int64())
}

func powerByHand(a int, n int) int {
	return int(new(big.Int).Exp(big.NewInt(int64(a)), big.NewInt(int64(n)), big.NewInt(prime)).Int64())
}

// exactPower is a to the power n as a fraction, before anything is taken modulo the prime.
func exactPower(a int, n int) *big.Rat {
	power := new(big.Int).Exp(big.NewInt(int64(a)), big.NewInt(int64(sizeOf(n))), nil)
	if n < 0 {
		return new(big.Rat).SetFrac(big.NewInt(1), power)
	}
	return new(big.Rat).SetInt(power)
}

func exactMonomial(x []int, s int, u int) *big.Rat {
	return new(big.Rat).Mul(exactPower(s, x[0]), exactPower(u, x[1]))
}

// valueByHand needs a term and units.
func valueByHand(a impl.Term, s int, u int) (int, bool) {
	value := new(big.Rat).Mul(big.NewRat(int64(a.Sign), 1), exactMonomial(a.Shift, s, u))
	for _, v := range a.Gens {
		factor := new(big.Rat).Sub(big.NewRat(1, 1), exactMonomial(v, s, u))
		if modulo(factor) == 0 {
			return 0, false
		}
		value.Quo(value, factor)
	}
	return modulo(value), true
}

func pointsByHand(list [][]int, s int, u int) int {
	sum := 0
	for _, x := range list {
		sum += powerByHand(s, x[0]) * powerByHand(u, x[1])
	}
	return sum % prime
}

// someUnits are pairs of s and u.
func someUnits() [][]int {
	return readPoints("2,3 3,2 1,1 1,2 2,1 10006,10006 10006,2 3,10006 1,10006 10006,1 5,5 5004,2 5004,3336 4,2 2,4 7,8 100,10000 9999,1234 10005,10004 5003,5004")
}

func TestPrime(t *testing.T) {
	if impl.Prime != prime || !big.NewInt(impl.Prime).ProbablyPrime(20) {
		t.Errorf("Prime = %d", impl.Prime)
	}
}

func checkPower(t *testing.T, a int, n int, want int) {
	t.Helper()
	if got := impl.PowerMod(a, n); got != want {
		t.Errorf("PowerMod(%d, %d) = %d, want %d", a, n, got, want)
	}
}

func TestPowerMod(t *testing.T) {
	for _, c := range []struct{ a, n, want int }{
		{2, -1, 5004}, {2, 3, 8}, {3, 0, 1}, {3, 1, 3}, {3, -1, 3336}, {2, 13, 8192}, {2, 14, 6377}, {100, 2, 10000}, {101, 2, 194}, {10006, 2, 1}, {10006, 3, 10006}, {10006, -1, 10006}, {10006, -2, 1}, {10006, 0, 1},
		{1, 0, 1}, {1, 1, 1}, {1, -1, 1}, {1, 1000000, 1}, {1, -1000000, 1}, {10006, 1000000, 1}, {10006, -999999, 10006}, {2, 10006, 1}, {5, -10006, 1}, {2, 5003, 1}, {5, 5003, 10006}, {7, 10007, 7}, {7, 10005, 7148}, {7, -10007, 7148},
		{0, 0, 0}, {0, 1, 0}, {0, -1, 0}, {0, 5, 0}, {10007, 0, 0}, {10007, 1, 0}, {10008, 1, 0}, {-1, 2, 0}, {-1, 0, 0}, {-2, 3, 0}, {2, 1000001, 0}, {2, -1000001, 0}, {1, 1000001, 0}, {1, -1000001, 0},
	} {
		checkPower(t, c.a, c.n, c.want)
	}
}

func TestPowersOfAllNumbers(t *testing.T) {
	for a := 1; a < prime; a++ {
		checkPower(t, a, 0, 1)
		checkPower(t, a, 1, a)
		checkPower(t, a, 2, a*a%prime)
		for _, n := range []int{-1, -2, -3, 3, 17, 5003, 10005, 10006, 10007, -10005, -10006, -10007, 999999, 1000000, -999999, -1000000} {
			checkPower(t, a, n, powerByHand(a, n))
		}
	}
}

// From one limit to the other, each power is a times the one before.
func TestAllPowersOfSomeNumbers(t *testing.T) {
	for _, a := range []int{1, 2, 3, 5, 5003, 9999, 10006} {
		want := powerByHand(a, -1000000)
		for n := -1000000; n <= 1000000; n++ {
			if got := impl.PowerMod(a, n); got != want {
				t.Fatalf("PowerMod(%d, %d) = %d, want %d", a, n, got, want)
			}
			want = want * a % prime
		}
		checkPower(t, a, -1000001, 0)
		checkPower(t, a, 1000001, 0)
	}
}

func TestNegativePowersUndoThePositiveOnes(t *testing.T) {
	for a := 1; a < prime; a += 7 {
		for _, n := range []int{0, 1, 2, 3, 10, 5003, 10006, 10007, 123456, 999999, 1000000} {
			if got := impl.PowerMod(a, n) * impl.PowerMod(a, -n) % prime; got != 1 {
				t.Errorf("PowerMod(%d, %d) * PowerMod(%d, %d) is %d", a, n, a, -n, got)
			}
		}
	}
}

func TestPowerModRefuses(t *testing.T) {
	for _, a := range append(noUnits(), 0, -3, prime) {
		for _, n := range append(noPowers(), 0, 1, -1, 2, -2, 3, 10006, 1000000, -1000000) {
			checkPower(t, a, n, 0)
		}
	}
	for _, n := range noPowers() {
		for _, a := range []int{1, 2, 3, 5003, 10005, 10006} {
			checkPower(t, a, n, 0)
		}
	}
}

func checkTermValue(t *testing.T, a impl.Term, s int, u int, want int, wantOK bool) {
	t.Helper()
	if got, ok := impl.TermValue(a, s, u); got != want || ok != wantOK {
		t.Errorf("TermValue(%.80v, %d, %d) = %d, %v, want %d, %v", fmt.Sprint(a), s, u, got, ok, want, wantOK)
	}
}

func TestTermValue(t *testing.T) {
	for _, c := range []struct {
		sign, s, u int
		term       string
		want       int
	}{
		{1, 2, 3, "0,0", 1}, {-1, 2, 3, "0,0", 10006}, {1, 2, 3, "1,0", 2}, {1, 2, 3, "0,1", 3}, {-1, 2, 3, "2,1", 9995}, {1, 2, 3, "-1,0", 5004}, {1, 2, 3, "0,-1", 3336}, {1, 2, 3, "-1,1", 5005},
		{1, 2, 3, "0,0 1,0", 10006}, {-1, 2, 3, "0,0 1,0", 1}, {1, 2, 3, "0,0 0,1", 5003}, {1, 3, 2, "0,0 0,1", 10006}, {1, 2, 3, "0,0 -1,0", 2}, {1, 2, 3, "3,0 -1,0", 16}, {1, 2, 3, "1,1 1,1", 6003}, {1, 2, 3, "0,0 2,-1", 10004}, {1, 2, 2, "5,7 30,-29", 5911},
		{1, 2, 3, "0,0 1,0 0,1", 5004}, {1, 2, 3, "0,0 0,1 1,0", 5004}, {-1, 2, 3, "0,0 1,0 0,1", 5003}, {1, 2, 3, "1,1 -1,0 0,-1", 18}, {1, 3, 2, "-2,0 2,0 -2,1", 4110},
		{1, 1, 1, "5,-7", 1}, {-1, 1, 1, "1000,-1000", 10006}, {1, 10006, 10006, "3,4", 10006}, {1, 10006, 1, "0,0 1,0", 5004}, {-1, 10006, 3, "1,0 1,0", 5004},
	} {
		a := term(c.sign, c.term)
		checkTermValue(t, a, c.s, c.u, c.want%prime, true)
		if want, ok := valueByHand(a, c.s, c.u); !ok || want != c.want%prime {
			t.Errorf("the value of %v at %d, %d is %d, %v by hand", a, c.s, c.u, want, ok)
		}
	}
}

func TestTermValueIsTheFraction(t *testing.T) {
	values, zeros := 0, 0
	for _, a := range someTerms() {
		for _, at := range someUnits() {
			want, ok := valueByHand(a, at[0], at[1])
			checkTermValue(t, a, at[0], at[1], want, ok)
			if ok {
				values++
			} else {
				zeros++
			}
		}
	}
	if values < 500 || zeros < 50 {
		t.Errorf("only %d values, and %d factors that are 0", values, zeros)
	}
}

// All small Gens, with a Sign and a Shift that change from term to term.
func TestTermValueOfSmallGens(t *testing.T) {
	rays := pointsOfBox(2, 2)
	at := someUnits()
	for i, v := range rays {
		for k, w := range rays {
			shift := []int{7 * i, -3 * k}
			for _, gens := range [][][]int{{v}, {v, w}} {
				a := impl.Term{Sign: 1 - 2*(k%2), Shift: shift, Gens: gens}
				if !isTermByHand(a) {
					continue
				}
				units := at[(25*i+k)%len(at)]
				want, ok := valueByHand(a, units[0], units[1])
				checkTermValue(t, a, units[0], units[1], want, ok)
				want, ok = valueByHand(a, 2, 3)
				checkTermValue(t, a, 2, 3, want, ok)
			}
		}
	}
}

// A series without its first point is the same one, moved by the vector.
func TestTermValueGoesOnByTheVector(t *testing.T) {
	for _, a := range someTerms() {
		if len(a.Gens) != 1 || !isWithin([][]int{a.Shift}, 900) {
			continue
		}
		first := impl.Term{Sign: a.Sign, Shift: a.Shift}
		rest := impl.Term{Sign: a.Sign, Shift: difference(a.Shift, negative(a.Gens[0])), Gens: a.Gens}
		for _, at := range someUnits() {
			x, one := impl.TermValue(a, at[0], at[1])
			y, two := impl.TermValue(first, at[0], at[1])
			z, three := impl.TermValue(rest, at[0], at[1])
			if !two || one != three || one && x != (y+z)%prime {
				t.Errorf("%v at %v is %d, its first point %d and the rest %d", a, at, x, y, z)
			}
		}
	}
}

// The factors are 0 modulo Prime, also where the power itself is not 1.
func TestTermValueWithFactorsThatAreZero(t *testing.T) {
	for _, c := range []struct {
		s, u int
		zero string
	}{
		{1, 3, "1,0"}, {1, 3, "-1,0"}, {1, 3, "30,0"}, {3, 1, "0,1"}, {3, 1, "0,-30"}, {1, 1, "1,0"}, {1, 1, "0,1"}, {1, 1, "7,-30"}, {10006, 3, "2,0"}, {10006, 3, "-2,0"}, {10006, 3, "30,0"}, {3, 10006, "0,2"}, {10006, 10006, "1,1"}, {10006, 10006, "1,-1"}, {10006, 10006, "2,0"}, {10006, 1, "0,1"},
		// The power is another number, such as 2 * 5004 = 10008, but 1 modulo Prime.
		{2, 5004, "1,1"}, {2, 5004, "-1,-1"}, {3, 3336, "2,2"}, {3336, 3, "30,30"}, {72, 139, "1,1"}, {4, 2, "1,-2"}, {2, 4, "2,-1"}, {2, 4, "-30,15"}, {5, 5, "1,-1"}, {5, 5, "-30,30"}, {100, 10, "1,-2"}, {101, 194, "2,-1"}, {128, 6377, "2,-1"},
	} {
		zero := readPoints(c.zero)[0]
		checkTermValue(t, term(1, "0,0 "+c.zero), c.s, c.u, 0, false)
		checkTermValue(t, term(-1, "5,-1000 "+c.zero), c.s, c.u, 0, false)
		for _, other := range pointsOfBox(2, 2) {
			for _, gens := range [][][]int{{zero, other}, {other, zero}} {
				checkTermValue(t, impl.Term{Sign: 1, Shift: []int{1, 2}, Gens: gens}, c.s, c.u, 0, false)
			}
		}
		// One step beside the vector the factor is another one.
		for _, other := range readPoints("1,0 0,1 -1,0 0,-1") {
			a := impl.Term{Sign: -1, Shift: []int{1, 2}, Gens: [][]int{difference(zero, other)}}
			if isTermByHand(a) {
				want, ok := valueByHand(a, c.s, c.u)
				checkTermValue(t, a, c.s, c.u, want, ok)
			}
		}
	}
}

// The first or the second factor of two is 0, and the other one is not.
func TestTermValueWithOneFactorOfTwoThatIsZero(t *testing.T) {
	for _, c := range []struct {
		s, u        int
		zero, other string
	}{
		{1, 3, "1,0", "0,1"}, {3, 1, "0,1", "1,0"}, {10006, 3, "2,0", "1,1"}, {10006, 10006, "1,1", "1,0"}, {10006, 10006, "1,1", "0,-1"}, {2, 5004, "1,1", "1,0"}, {2, 4, "2,-1", "1,1"}, {5, 5, "1,-1", "0,1"}, {128, 6377, "2,-1", "-1,0"},
	} {
		checkTermValue(t, term(1, "0,0 "+c.zero+" "+c.other), c.s, c.u, 0, false)
		checkTermValue(t, term(1, "0,0 "+c.other+" "+c.zero), c.s, c.u, 0, false)
		checkTermValue(t, term(-1, "9,9 "+c.zero), c.s, c.u, 0, false)
		a := term(-1, "9,9 "+c.other)
		want, ok := valueByHand(a, c.s, c.u)
		if !ok {
			t.Errorf("the factor of %s at %d, %d is 0, too", c.other, c.s, c.u)
		}
		checkTermValue(t, a, c.s, c.u, want, true)
	}
}

func TestTermValueRefuses(t *testing.T) {
	for _, a := range noTerms() {
		for _, at := range readPoints("2,3 1,1 10006,2 0,0 0,2 2,0 10007,10007") {
			checkTermValue(t, a, at[0], at[1], 0, false)
		}
	}
	for _, a := range someTerms() {
		for _, n := range noUnits() {
			for _, other := range []int{1, 2, 3, 10006, 0, n} {
				checkTermValue(t, a, n, other, 0, false)
				checkTermValue(t, a, other, n, 0, false)
			}
		}
	}
}

func checkSeriesValue(t *testing.T, list []impl.Term, s int, u int, want int, wantOK bool) {
	t.Helper()
	if got, ok := impl.SeriesValue(list, s, u); got != want || ok != wantOK {
		t.Errorf("SeriesValue(%.120v, %d, %d) = %d, %v, want %d, %v", fmt.Sprint(list), s, u, got, ok, want, wantOK)
	}
}

func TestSeriesValue(t *testing.T) {
	point, minus, line, quarter := term(1, "0,0"), term(-1, "0,0"), term(-1, "1,0 1,0"), term(1, "0,0 1,0 0,1")
	for _, c := range []struct {
		list       []impl.Term
		s, u, want int
	}{
		{[]impl.Term{point}, 2, 3, 1}, {[]impl.Term{point, point, point}, 2, 3, 3}, {[]impl.Term{point, minus}, 2, 3, 0}, {[]impl.Term{minus}, 2, 3, 10006}, {[]impl.Term{minus, minus}, 2, 3, 10005}, {[]impl.Term{minus, minus, point}, 2, 3, 10006},
		{[]impl.Term{line}, 2, 3, 2}, {[]impl.Term{quarter}, 2, 3, 5004}, {[]impl.Term{quarter, line}, 2, 3, 5006}, {[]impl.Term{quarter, quarter}, 2, 3, 1}, {[]impl.Term{quarter, quarter, minus}, 2, 3, 0}, {[]impl.Term{quarter, term(-1, "0,0 1,0"), point}, 2, 3, 5006},
		{[]impl.Term{point, minus}, 1, 1, 0}, {[]impl.Term{term(1, "1,1"), term(1, "-1,-1")}, 10006, 10006, 2},
	} {
		checkSeriesValue(t, c.list, c.s, c.u, c.want, true)
	}
}

// The empty sum is 0, and none of its terms fails.
func TestSeriesValueOfNoTerms(t *testing.T) {
	for _, list := range [][]impl.Term{nil, {}} {
		for _, at := range someUnits() {
			checkSeriesValue(t, list, at[0], at[1], 0, true)
		}
	}
}

func TestSeriesValueIsTheSum(t *testing.T) {
	all := someTerms()
	sums := 0
	for _, at := range someUnits() {
		for count := 1; count <= 60; count += 3 {
			for from := 0; from < len(all); from += 5 {
				list := slices.Concat(all[from:], all, all)[:count]
				want, isSum := 0, true
				for _, a := range list {
					value, ok := impl.TermValue(a, at[0], at[1])
					want, isSum = (want+value)%prime, isSum && ok
				}
				if !isSum {
					want = 0
				} else if count > 1 {
					sums++
				}
				checkSeriesValue(t, list, at[0], at[1], want, isSum)
			}
		}
	}
	if sums < 300 {
		t.Errorf("only %d sums of several terms", sums)
	}
}

func TestSeriesValueLimits(t *testing.T) {
	one, minus := term(1, "1,0 0,1"), term(-1, "0,-1 1,1 -1,2")
	value, _ := valueByHand(one, 7, 8)
	other, _ := valueByHand(minus, 7, 8)
	for _, n := range []int{1, 2, 59, 60, 61, 62, 120, 5000} {
		want, wantOther := n*value%prime, n*other%prime
		if n > 60 {
			want, wantOther = 0, 0
		}
		checkSeriesValue(t, slices.Repeat([]impl.Term{one}, n), 7, 8, want, n <= 60)
		checkSeriesValue(t, slices.Repeat([]impl.Term{minus}, n), 7, 8, wantOther, n <= 60)
	}
}

// One whose value fails stands in each place.
func TestSeriesValueRefuses(t *testing.T) {
	one := term(1, "3,-4 1,0 0,1")
	for _, bad := range []impl.Term{{}, term(0, "0,0"), term(2, "1,1"), term(1, "0,0 0,0"), term(-1, "0,0 1,1 2,2"), term(1, "0"), term(1, "0,1001"), term(1, "0,0 1,0 0,1 1,1"), term(1, "0,0 2,-1"), term(-1, "5,5 1,1 2,-1"), term(1, "5,5 2,-1 1,1")} {
		for _, n := range []int{1, 2, 3, 60, 61, 70} {
			for k := range n {
				list := slices.Repeat([]impl.Term{one}, n)
				list[k] = bad
				checkSeriesValue(t, list, 2, 4, 0, false)
			}
		}
	}
	for _, n := range noUnits() {
		for _, list := range [][]impl.Term{{one}, {term(1, "0,0")}, {one, term(-1, "0,0"), one}, slices.Repeat([]impl.Term{one}, 61)} {
			checkSeriesValue(t, list, n, 2, 0, false)
			checkSeriesValue(t, list, 2, n, 0, false)
			checkSeriesValue(t, list, n, n, 0, false)
		}
	}
}

func checkCornerCone(t *testing.T, p [][]int, k int, want impl.Cone, wantOK bool) {
	t.Helper()
	got, ok := impl.CornerCone(p, k)
	if ok != wantOK || !slices.Equal(got.U, want.U) || !slices.Equal(got.V, want.V) {
		t.Errorf("CornerCone(%s, %d) = %v, %v, want %v, %v", shown(p), k, got, ok, want, wantOK)
	}
	if !ok && (got.U != nil || got.V != nil) {
		t.Errorf("CornerCone(%s, %d) = %#v, false", shown(p), k, got)
	}
}

func TestCornerCone(t *testing.T) {
	for text, cones := range map[string]string{
		"0,0 1,0 0,1":                           "1,0 0,1  -1,1 -1,0  0,-1 1,-1",
		"0,0 2,0 0,2":                           "1,0 0,1  -1,1 -1,0  0,-1 1,-1",
		"5,-7 50,-7 5,38":                       "1,0 0,1  -1,1 -1,0  0,-1 1,-1",
		"0,0 3,0 1,2":                           "1,0 1,2  -1,1 -1,0  -1,-2 1,-1",
		"0,0 5,2 3,4":                           "5,2 3,4  -1,1 -5,-2  -3,-4 1,-1",
		"-1,-1 1,-1 1,1 -1,1":                   "1,0 0,1  0,1 -1,0  -1,0 0,-1  0,-1 1,0",
		"-1,0 0,-1 1,0 0,1":                     "1,-1 1,1  1,1 -1,1  -1,1 -1,-1  -1,-1 1,-1",
		"-20,4 10,-16 15,-1 0,44":               "3,-2 1,2  1,3 -3,2  -1,3 -1,-3  -1,-2 1,-3",
		"-5,1 -3,-5 3,-5 5,1 0,5":               "1,-3 5,4  1,0 -1,3  1,3 -1,0  -5,4 -1,-3  -5,-4 5,-4",
		"1,0 2,-1 3,-1 4,0 4,1 3,2 2,2 1,1":     "1,-1 0,1  1,0 -1,1  1,1 -1,0  0,1 -1,-1  -1,1 0,-1  -1,0 1,-1  -1,-1 1,0  0,-1 1,1",
		"0,0 30,29 29,30":                       "30,29 29,30  -1,1 -30,-29  -29,-30 1,-1",
		"-50,-50 10,-50 -50,10":                 "1,0 0,1  -1,1 -1,0  0,-1 1,-1",
		"-50,-50 50,-50 50,50 -50,50":           "1,0 0,1  0,1 -1,0  -1,0 0,-1  0,-1 1,0",
		"0,0 29,0 0,30":                         "1,0 0,1  -29,30 -1,0  0,-1 29,-30",
		"-2,0 -1,-30 1,-30 2,0 1,30 0,31 -1,30": "1,-30 1,30  1,0 -1,30  1,30 -1,0  -1,30 -1,-30  -1,1 1,-30  -1,-1 1,-1  -1,-30 1,1",
	} {
		p, k := readPoints(text), 0
		for pair := range slices.Chunk(readPoints(cones), 2) {
			checkCornerCone(t, p, k, impl.Cone{U: pair[0], V: pair[1]}, true)
			k++
		}
		if k != len(p) {
			t.Errorf("%d cones at the corners of %s", k, text)
		}
		checkNoCorner(t, p)
	}
}

// checkNoCorner asks for corners beyond both ends.
func checkNoCorner(t *testing.T, p [][]int) {
	t.Helper()
	for _, k := range []int{-1, -2, -len(p), -len(p) - 1, len(p), len(p) + 1, 2 * len(p), 12, 13, 1000, 1 << 32, math.MaxInt64, math.MinInt64, math.MinInt64 + len(p)} {
		if k < 0 || k >= len(p) {
			checkCornerCone(t, p, k, impl.Cone{}, false)
		}
	}
}

// cornerByHand is what CornerCone must return for a corner of a polygon.
func cornerByHand(p [][]int, k int) (impl.Cone, bool) {
	// The corner before the first one is the last one.
	around := slices.Concat(p[len(p)-1:], p, p[:1])
	next, before := difference(around[k+2], p[k]), difference(around[k], p[k])
	c := impl.Cone{}
	for i := range 2 {
		c.U = append(c.U, next[i]/divisorOf(next))
		c.V = append(c.V, before[i]/divisorOf(before))
	}
	if !isConeByHand(c) {
		return impl.Cone{}, false
	}
	return c, true
}

func TestCornerConesOfManyPolygons(t *testing.T) {
	unimodular, greater, none := 0, 0, 0
	for _, p := range somePolygons(700) {
		for k := range p {
			want, ok := cornerByHand(p, k)
			checkCornerCone(t, p, k, want, ok)
			switch {
			case !ok:
				none++
			case indexOfCone(want) == 1:
				unimodular++
			default:
				greater++
			}
		}
		checkNoCorner(t, p)
	}
	if unimodular < 100 || greater < 500 || none < 300 {
		t.Errorf("only %d cones with determinant 1, %d greater ones and %d corners without a cone", unimodular, greater, none)
	}
}

// The side to the next corner, the one before, or both, lead farther than MaxRay.
func TestCornersWithoutACone(t *testing.T) {
	box := pointsOfBox(2, 30)
	for text, cones := range map[string]string{
		"0,0 30,1 1,30": "yyy", "0,0 31,1 1,30": "nny", "0,0 30,1 1,31": "nyn", "0,0 30,1 0,30": "yyy", "0,0 31,1 0,31": "nnn", "0,0 1,0 30,1": "yyy", "0,0 1,0 31,1": "nyn", "0,0 1,0 31,31": "ynn", "-31,-31 31,-31 -31,31": "yyy", "-30,-1 32,1 -29,0": "nnn", "-31,-2 31,0 -30,2": "nnn",
		"-50,-50 50,49 50,50": "nny", "0,0 50,1 49,1": "nnn", "0,0 13,8 21,13": "yyy",
		"-30,0 0,-1 30,0 0,1": "yyyy", "-31,0 0,-1 31,0 0,1": "nnnn", "-31,0 0,-1 30,0 0,1": "nnyn", "-30,0 0,-1 31,0 0,1": "ynnn", "-30,0 0,-1 30,0 -1,1": "yynn", "-30,0 0,-1 29,0 -1,1": "yyyy", "-30,0 1,-1 30,0 0,1": "nnyy", "-1,0 0,-30 1,0 0,30": "yyyy", "-1,0 0,-31 1,0 0,31": "nnnn", "-1,0 0,-31 1,0 0,30": "nnny",
		"-31,0 -1,-31 1,-30 30,1 1,30 0,30": "nnnnyn",
	} {
		p := readPoints(text)
		for k := range p {
			want, ok := cornerByHand(p, k)
			if ok != (cones[k] == 'y') {
				t.Errorf("the cone at the corner %d of %s is %v by hand", k, text, want)
			}
			checkCornerCone(t, p, k, want, ok)
		}
		all, ok := cornerTermsByHand(t, p, box)
		checkCornerTerms(t, p, all, ok)
	}
}

func TestCornersRefuse(t *testing.T) {
	for _, p := range noPolygons() {
		for k := range 13 {
			checkCornerCone(t, p, k-1, impl.Cone{}, false)
		}
		checkCornerTerms(t, p, nil, false)
	}
}

func checkCornerTerms(t *testing.T, p [][]int, want []impl.Term, wantOK bool) {
	t.Helper()
	got, ok := impl.CornerTerms(p)
	if ok != wantOK || !slices.EqualFunc(got, want, termsEqual) {
		t.Errorf("CornerTerms(%s) = %.300v, %v, want %.300v, %v", shown(p), fmt.Sprint(got), ok, fmt.Sprint(want), wantOK)
	}
	if !ok && got != nil {
		t.Errorf("CornerTerms(%s) = %v, false", shown(p), got)
	}
}

func TestCornerTerms(t *testing.T) {
	checkCornerTerms(t, readPoints("0,0 1,0 0,1"), []impl.Term{term(1, "0,0 1,0 0,1"), term(1, "1,0 -1,1 -1,0"), term(1, "0,1 0,-1 1,-1")}, true)
	checkCornerTerms(t, readPoints("-1,-1 1,-1 1,1 -1,1"), []impl.Term{term(1, "-1,-1 1,0 0,1"), term(1, "1,-1 0,1 -1,0"), term(1, "1,1 -1,0 0,-1"), term(1, "-1,1 0,-1 1,0")}, true)
	checkCornerTerms(t, readPoints("-1,0 0,-1 1,0 0,1"), []impl.Term{
		term(1, "-1,0 1,-1 1,0"), term(1, "-1,0 1,0 1,1"), term(-1, "-1,0 1,0"), term(1, "0,-1 1,1 0,1"), term(1, "0,-1 0,1 -1,1"), term(-1, "0,-1 0,1"),
		term(1, "1,0 -1,1 -1,0"), term(1, "1,0 -1,0 -1,-1"), term(-1, "1,0 -1,0"), term(1, "0,1 -1,-1 0,-1"), term(1, "0,1 0,-1 1,-1"), term(-1, "0,1 0,-1"),
	}, true)
	checkCornerTerms(t, readPoints("0,0 3,0 1,2"), []impl.Term{
		term(1, "0,0 1,0 1,1"), term(1, "0,0 1,1 1,2"), term(-1, "0,0 1,1"), term(1, "3,0 -1,1 -1,0"), term(1, "1,2 -1,-2 0,-1"), term(1, "1,2 0,-1 1,-1"), term(-1, "1,2 0,-1"),
	}, true)
}

// cornerTermsByHand are those of all corners, and whether they are allowed.
func cornerTermsByHand(t *testing.T, p [][]int, box [][]int) ([]impl.Term, bool) {
	t.Helper()
	var all []impl.Term
	for k, x := range p {
		c, ok := cornerByHand(p, k)
		if !ok {
			return nil, false
		}
		all = append(all, seriesByHand(splitByHand(t, c, box), x)...)
	}
	if len(all) > 60 {
		return nil, false
	}
	return all, true
}

func TestCornerTermsOfManyPolygons(t *testing.T) {
	box := pointsOfBox(2, 30)
	made, refused := 0, 0
	for _, p := range somePolygons(350) {
		want, ok := cornerTermsByHand(t, p, box)
		checkCornerTerms(t, p, want, ok)
		if ok {
			made++
		} else {
			refused++
		}
	}
	if made < 100 || refused < 50 {
		t.Errorf("only %d polygons with terms, and %d without", made, refused)
	}
}

// countedPolygons are some with many terms.
func countedPolygons() map[string]int {
	return map[string]int{
		"-8,-6 5,-5 7,0 -3,5 -5,4": 59, "-3,-4 5,-6 8,-5 10,4 7,5": 59, "-10,-2 0,-10 7,-7 10,3 2,5": 59,
		"-2,-5 8,-11 10,10 1,8": 60, "-5,0 -2,-4 4,-4 5,-2 4,5 -4,4": 60, "-12,19 -4,-15 8,-20 15,-18 13,-8 8,-1": 60, "-7,9 -4,2 5,-10 9,10": 60,
		"-2,-1 3,-8 10,-6 9,8 4,8": 61, "-20,-2 -18,-20 -2,-8 5,16 -10,16": 61, "-7,13 0,-5 14,-5 20,14 4,20": 61, "-7,-5 7,-9 8,8 2,8": 62, "-1,3 18,-11 16,12 2,8": 62, "-5,-4 5,-5 4,5 1,4 -4,2": 63,
		// One corner alone has 57, 59 or more than 60 terms.
		"-15,0 0,-1 14,0": 59, "-15,0 0,-1 15,0": 61, "-15,0 0,-1 15,0 0,1": 124, "0,-30 1,0 0,30": 121, "-1,0 0,-30 1,0 0,30": 244,
	}
}

func TestCornerTermsAtTheLimit(t *testing.T) {
	box := pointsOfBox(2, 30)
	for text, count := range countedPolygons() {
		p := readPoints(text)
		want, ok := cornerTermsByHand(t, p, box)
		if ok != (count <= 60) || ok && len(want) != count {
			t.Errorf("%s has %d terms by hand, %v", text, len(want), ok)
		}
		checkCornerTerms(t, p, want, ok)
	}
}

func checkPointsValue(t *testing.T, list [][]int, s int, u int, want int, wantOK bool) {
	t.Helper()
	if got, ok := impl.PointsValue(list, s, u); got != want || ok != wantOK {
		t.Errorf("PointsValue(%s, %d, %d) = %d, %v, want %d, %v", shown(list), s, u, got, ok, want, wantOK)
	}
}

func TestPointsValue(t *testing.T) {
	for _, c := range []struct {
		list       string
		s, u, want int
	}{
		{"", 2, 3, 0}, {"", 1, 1, 0}, {"", 10006, 10006, 0}, {"0,0", 2, 3, 1}, {"1,0", 2, 3, 2}, {"0,1", 2, 3, 3}, {"2,3", 2, 3, 108}, {"3,2", 3, 2, 108}, {"0,0 0,1 1,0", 2, 3, 6}, {"1,0 0,0 0,1", 2, 3, 6}, {"0,0 0,0 0,0", 2, 3, 3},
		{"-1,0", 2, 3, 5004}, {"0,-1", 2, 3, 3336}, {"-1,1 1,-1", 2, 3, 5005 + 6672 - prime}, {"-1000,1000 1000,-1000", 1, 1, 2}, {"13,0 13,0", 2, 3, 6377}, {"1,0 -1,0", 10006, 1, 10005}, {"1,1 1,0", 10006, 10006, 0},
		{"0,0 0,1 0,2 1,0 1,1 2,0", 2, 3, 25},
	} {
		checkPointsValue(t, readPoints(c.list), c.s, c.u, c.want, true)
	}
	checkPointsValue(t, nil, 2, 3, 0, true)
	checkPointsValue(t, [][]int{}, 2, 3, 0, true)
}

func TestPointsValueIsTheSum(t *testing.T) {
	lists := [][][]int{someVectors(2), pointsOfBox(2, 20), line([]int{1000, -1000}, []int{-2, 2}, 1001), slices.Repeat(readPoints("7,-8 13,0"), 50000)}
	for _, p := range somePolygons(200) {
		lists = append(lists, p)
	}
	for k, list := range lists {
		for _, at := range someUnits() {
			if k > 3 && (at[0]+k)%5 != 0 {
				continue
			}
			checkPointsValue(t, list, at[0], at[1], pointsByHand(list, at[0], at[1]), true)
		}
	}
}

func TestPointsValueRefuses(t *testing.T) {
	for _, list := range [][][]int{nil, {}, {{0, 0}}, readPoints("1,2 -3,4"), {{1}}, {nil}} {
		for _, n := range noUnits() {
			for _, other := range []int{1, 2, 10006, n} {
				checkPointsValue(t, list, n, other, 0, false)
				checkPointsValue(t, list, other, n, 0, false)
			}
		}
	}
	for _, bad := range noShifts() {
		for _, n := range []int{1, 2, 3, 70} {
			for k := range n {
				list := slices.Repeat(readPoints("3,-4"), n)
				list[k] = bad
				checkPointsValue(t, list, 2, 3, 0, false)
				checkPointsValue(t, list, 1, 1, 0, false)
			}
		}
	}
}

// Promise 11: the series of the corners of a polygon add up to its points.
func TestTheCornersOfAPolygonAddUpToItsPoints(t *testing.T) {
	polygons := somePolygons(900)
	for text := range countedPolygons() {
		polygons = append(polygons, readPoints(text))
	}
	sums, far, great := 0, 0, 0
	for _, p := range polygons {
		terms, ok := impl.CornerTerms(p)
		if !ok {
			continue
		}
		points, _ := listed(p)
		for _, at := range someUnits() {
			got, isSum := impl.SeriesValue(terms, at[0], at[1])
			if !isSum {
				continue
			}
			sums++
			if want := pointsByHand(points, at[0], at[1]); got != want {
				t.Errorf("the corners of %v at %v add up to %d, its points to %d", p, at, got, want)
			}
			if impl.AreaTwice(p) > 2000 {
				great++
				continue
			}
			checkPointsValue(t, impl.PolygonPoints(p), at[0], at[1], got, true)
		}
		if placeByRay(p, []int{0, 0}) < 0 {
			far++
		}
	}
	if sums < 1500 || far < 30 || great < 20 {
		t.Errorf("only %d sums, %d polygons without 0,0 and %d sums of great ones", sums, far, great)
	}
}

// Moved by a vector, all values are multiplied by its monomial.
func TestMovedCornersAddUp(t *testing.T) {
	for _, p := range somePolygons(100) {
		terms, ok := impl.CornerTerms(p)
		if !ok || !isWithin(p, 20) {
			continue
		}
		value, isSum := impl.SeriesValue(terms, 7, 9999)
		if !isSum {
			t.Errorf("no value of the corners of %v", p)
		}
		for _, v := range readPoints("30,0 0,-30 -29,17 1,-1") {
			var moved [][]int
			for _, x := range p {
				moved = append(moved, difference(x, negative(v)))
			}
			terms, _ := impl.CornerTerms(moved)
			checkSeriesValue(t, terms, 7, 9999, value*powerByHand(7, v[0])%prime*powerByHand(9999, v[1])%prime, true)
		}
	}
}

func TestCornersKeepTheirArguments(t *testing.T) {
	for _, p := range slices.Concat(somePolygons(150), noPolygons()) {
		q := cloneRows(p)
		for k := range 5 {
			impl.CornerCone(q, k-1)
		}
		impl.CornerTerms(q)
		impl.PointsValue(q, 2, 3)
		if !isKept(q, p) {
			t.Fatalf("the argument %v became %v", p, q)
		}
	}
	others := someTerms()
	for k, a := range append(someTerms(), noTerms()...) {
		second := others[(k+1)%len(others)]
		list := []impl.Term{cloneTerm(a), cloneTerm(second), term(-1, "55,56 57,58")}[:2]
		impl.TermValue(list[0], 2, 3)
		impl.SeriesValue(list, 2, 3)
		if !isKeptTerm(list[0], a) || !isKeptTerm(list[1], second) || !termsEqual(list[:3][2], term(-1, "55,56 57,58")) {
			t.Fatalf("the arguments %.100v became %v", fmt.Sprint(a), list[:3])
		}
	}
}

func TestCornersAreNew(t *testing.T) {
	for _, p := range somePolygons(100) {
		q := cloneRows(p)
		for k := range p {
			c, _ := impl.CornerCone(q, k)
			again, ok := impl.CornerCone(q, k)
			if !ok {
				continue
			}
			want := cloneCone(again)
			checkNew(t, "CornerCone", [][]int{c.U, c.V})
			if !isKept(q, p) || !isKeptCone(want, again) {
				t.Fatalf("the cone at the corner %d of %v shares memory with it, or with another cone", k, p)
			}
		}
	}
}

func TestCornerTermsAreNew(t *testing.T) {
	for _, p := range somePolygons(100) {
		q := cloneRows(p)
		list, _ := impl.CornerTerms(q)
		again, _ := impl.CornerTerms(q)
		third, _ := impl.CornerTerms(q)
		want := cloneTerms(list)
		for k := range list {
			spoilTerm(list[k])
			if !slices.EqualFunc(list[k+1:], want[k+1:], termsEqual) {
				t.Fatalf("two terms of the corners of %v share memory", p)
			}
		}
		for k := range third {
			spoilVectors(t, third[k])
			if !slices.EqualFunc(third[k+1:], want[k+1:], termsEqual) {
				t.Fatalf("two terms of the corners of %v share memory", p)
			}
		}
		if !slices.EqualFunc(again, want, termsEqual) || !isKept(q, p) {
			t.Fatalf("the terms of the corners share memory with %v, or with other ones", p)
		}
	}
}

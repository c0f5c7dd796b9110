package tests

import (
	"math/big"
	"slices"
	"testing"

	"loop.example/g03309/impl"
)

// Promise 11: Quotients give their fraction back, and no gear is closer than the
// nearest one.

const greatestOfFraction = 1000000

func fraction(top int, bottom int) *big.Rat {
	return big.NewRat(int64(top), int64(bottom))
}

// wholePart is the greatest whole number that is not above a positive fraction.
func wholePart(r *big.Rat) int {
	return int(new(big.Int).Quo(r.Num(), r.Denom()).Int64())
}

// quotientsOf takes the whole part off and turns the rest upside down.
func quotientsOf(top int, bottom int) []int {
	rest := fraction(top, bottom)
	for quotients := []int{}; ; {
		whole := wholePart(rest)
		quotients = append(quotients, whole)
		rest = new(big.Rat).Sub(rest, fraction(whole, 1))
		if rest.Sign() == 0 {
			return quotients
		}
		rest.Inv(rest)
	}
}

// fractionOf builds the fraction of valid quotients, and reports whether no
// number was too great.
func fractionOf(quotients []int) (*big.Rat, bool) {
	r := fraction(quotients[0], 1)
	if len(quotients) == 1 {
		return r, true
	}
	rest, small := fractionOf(quotients[1:])
	r.Add(r, rest.Inv(rest))
	limit := big.NewInt(greatestOfFraction)
	return r, small && r.Num().Cmp(limit) <= 0 && r.Denom().Cmp(limit) <= 0
}

// distance is how far a / b is from top / bottom.
func distance(top int, bottom int, a int, b int) *big.Rat {
	d := new(big.Rat).Sub(fraction(a, b), fraction(top, bottom))
	return d.Abs(d)
}

// canBeFraction reports whether FractionOf accepts these quotients, whatever
// their fraction is.
func canBeFraction(quotients []int) bool {
	return len(quotients) <= 12 && slices.Max(quotients) <= 1000
}

// checkContinued also puts the quotients together again, if they are not too
// many or too great for this.
func checkContinued(t *testing.T, top int, bottom int, want []int) {
	t.Helper()
	got := impl.ContinuedOf(top, bottom)
	if !slices.Equal(got, want) {
		t.Errorf("ContinuedOf(%d, %d) = %v, want %v", top, bottom, got, want)
	}
	if canBeFraction(want) {
		lowest := fraction(top, bottom)
		checkFraction(t, got, int(lowest.Num().Int64()), int(lowest.Denom().Int64()))
	} else {
		checkNoFraction(t, got)
	}
}

func checkNotContinued(t *testing.T, top int, bottom int) {
	t.Helper()
	if got := impl.ContinuedOf(top, bottom); len(got) != 0 {
		t.Errorf("ContinuedOf(%d, %d) = %v, want nil", top, bottom, got)
	}
}

func checkFraction(t *testing.T, quotients []int, top int, bottom int) {
	t.Helper()
	if a, b, ok := impl.FractionOf(quotients); a != top || b != bottom || !ok {
		t.Errorf("FractionOf(%v) = %d, %d, %v, want %d, %d, true", quotients, a, b, ok, top, bottom)
	}
}

func checkNoFraction(t *testing.T, quotients []int) {
	t.Helper()
	if a, b, ok := impl.FractionOf(quotients); a != 0 || b != 0 || ok {
		t.Errorf("FractionOf(%v) = %d, %d, %v, want 0, 0, false", quotients, a, b, ok)
	}
}

// checkCloser also exchanges both fractions, and compares each one with itself.
func checkCloser(t *testing.T, top int, bottom int, a int, b int, c int, d int, want int) {
	t.Helper()
	checkCloserAlone(t, top, bottom, a, b, c, d, want)
	checkCloserAlone(t, top, bottom, c, d, a, b, -want)
	checkCloserAlone(t, top, bottom, a, b, a, b, 0)
	checkCloserAlone(t, top, bottom, c, d, c, d, 0)
}

func checkCloserAlone(t *testing.T, top int, bottom int, a int, b int, c int, d int, want int) {
	t.Helper()
	if got := impl.CloserOf(top, bottom, a, b, c, d); got != want {
		t.Errorf("CloserOf(%d, %d, %d, %d, %d, %d) = %d, want %d", top, bottom, a, b, c, d, got, want)
	}
}

func checkNearest(t *testing.T, top int, bottom int, drives int, driven int) {
	t.Helper()
	want := impl.Gear{Drives: drives, Driven: driven}
	if got, ok := impl.NearestGear(top, bottom); got != want || !ok {
		t.Errorf("NearestGear(%d, %d) = %v, %v, want %v, true", top, bottom, got, ok, want)
	}
}

func checkNoNearest(t *testing.T, top int, bottom int) {
	t.Helper()
	if got, ok := impl.NearestGear(top, bottom); got != (impl.Gear{}) || ok {
		t.Errorf("NearestGear(%d, %d) = %v, %v, want no gear, false", top, bottom, got, ok)
	}
}

func checkError(t *testing.T, top int, bottom int, g impl.Gear, want int) {
	t.Helper()
	if got := impl.ErrorParts(top, bottom, g); got != want {
		t.Errorf("ErrorParts(%d, %d, %v) = %d, want %d", top, bottom, g, got, want)
	}
}

// notNear has numbers that are in no ratio that is compared.
func notNear() []int {
	return append(extremes(), 0, -1, 1001, -2, -6, -1000, 1002, 2000, 1000000)
}

// someNear has numbers of ratios that are compared.
func someNear() []int {
	return []int{1, 2, 3, 5, 6, 7, 12, 20, 60, 119, 120, 121, 500, 997, 999, 1000}
}

func TestContinuedOf(t *testing.T) {
	for _, c := range []struct {
		top, bottom int
		want        []int
	}{
		{355, 113, []int{3, 7, 16}},
		{22, 7, []int{3, 7}},
		{43, 30, []int{1, 2, 3, 4}},
		{86, 60, []int{1, 2, 3, 4}},
		{8, 5, []int{1, 1, 1, 2}},
		// A top of 0, and one that is smaller than bottom.
		{0, 1, []int{0}},
		{0, 7, []int{0}},
		{0, 1000000, []int{0}},
		{1, 2, []int{0, 2}},
		{113, 355, []int{0, 3, 7, 16}},
		{999, 1000, []int{0, 1, 999}},
		{1, 1000000, []int{0, 1000000}},
		{999999, 1000000, []int{0, 1, 999999}},
		// A bottom of 1, and a top that is a multiple of bottom.
		{1, 1, []int{1}},
		{7, 1, []int{7}},
		{1000, 1, []int{1000}},
		{1001, 1, []int{1001}},
		{1000000, 1, []int{1000000}},
		{21, 7, []int{3}},
		{1000000, 1000, []int{1000}},
		{999999, 999, []int{1001}},
		{1000000, 1000000, []int{1}},
		{1000000, 500000, []int{2}},
		{500000, 1000000, []int{0, 2}},
		{1000000, 999999, []int{1, 999999}},
		{1000000, 3, []int{333333, 3}},
		// Twelve quotients, thirteen, and as many as there can be.
		{233, 144, []int{1, 1, 1, 1, 1, 1, 1, 1, 1, 1, 2}},
		{377, 233, []int{1, 1, 1, 1, 1, 1, 1, 1, 1, 1, 1, 2}},
		{144, 233, []int{0, 1, 1, 1, 1, 1, 1, 1, 1, 1, 1, 2}},
		{233, 377, []int{0, 1, 1, 1, 1, 1, 1, 1, 1, 1, 1, 1, 2}},
		{610, 377, append(slices.Repeat([]int{1}, 12), 2)},
		{832040, 514229, append(slices.Repeat([]int{1}, 27), 2)},
		{514229, 832040, append([]int{0}, append(slices.Repeat([]int{1}, 27), 2)...)},
	} {
		checkContinued(t, c.top, c.bottom, c.want)
	}
}

func TestContinuedOfNumbersOutOfRange(t *testing.T) {
	for _, n := range append(extremes(), -1, 1000001, -2, -1000000, 1000002, 2000000) {
		for _, other := range append(extremes(), 0, 1, 2, 7, 999999, 1000000, -1, n, -n) {
			checkNotContinued(t, n, other)
			checkNotContinued(t, other, n)
		}
	}
	for _, top := range append(extremes(), 0, 1, 2, 7, 1000000, -1, 1000001) {
		checkNotContinued(t, top, 0)
	}
	checkContinued(t, 1000000, 1, []int{1000000})
	checkContinued(t, 0, 1000000, []int{0})
}

// TestQuotientsGiveTheirFractionBack compares each pair with its fraction in
// lowest terms, and the quotients with those of fractions turned upside down.
func TestQuotientsGiveTheirFractionBack(t *testing.T) {
	for top := range 150 {
		for bottom := 1; bottom <= 150; bottom++ {
			checkContinued(t, top, bottom, quotientsOf(top, bottom))
		}
	}
	numbers := []int{1, 2, 3, 7, 1000, 1001, 1024, 9973, 100003, 196418, 271828, 314159, 317811, 499999, 500000, 577215,
		618034, 707107, 720720, 999000, 999001, 999983, 999999, 1000000}
	for _, top := range append(numbers, 0) {
		for _, bottom := range numbers {
			checkContinued(t, top, bottom, quotientsOf(top, bottom))
		}
	}
}

func TestFractionOf(t *testing.T) {
	for _, c := range []struct {
		quotients   []int
		top, bottom int
	}{
		{[]int{3, 7, 16}, 355, 113},
		{[]int{1, 2, 3, 4}, 43, 30},
		{[]int{4, 3, 2, 1}, 43, 10},
		// One quotient.
		{[]int{0}, 0, 1},
		{[]int{1}, 1, 1},
		{[]int{999}, 999, 1},
		{[]int{1000}, 1000, 1},
		// A first quotient of 0 and of 1000, another one of 1 and of 1000.
		{[]int{0, 1}, 1, 1},
		{[]int{0, 2}, 1, 2},
		{[]int{0, 1000}, 1, 1000},
		{[]int{0, 1, 1}, 1, 2},
		{[]int{0, 3, 7, 16}, 113, 355},
		{[]int{1, 1}, 2, 1},
		{[]int{1, 1, 1}, 3, 2},
		{[]int{1, 1000}, 1001, 1000},
		{[]int{1000, 1}, 1001, 1},
		{[]int{1000, 2}, 2001, 2},
		{[]int{1000, 999}, 999001, 999},
		{[]int{999, 1000}, 999001, 1000},
		{[]int{0, 1000, 999}, 999, 999001},
		{[]int{0, 1, 1000, 1}, 1001, 1002},
		{[]int{1, 1000, 1, 1}, 2003, 2001},
		// A last quotient of 1 is the same as one more before it.
		{[]int{3, 1}, 4, 1},
		{[]int{3, 7, 15, 1}, 355, 113},
		// Twelve quotients.
		{slices.Repeat([]int{1}, 12), 233, 144},
		{append([]int{0}, slices.Repeat([]int{1}, 11)...), 89, 144},
		{append([]int{1000}, slices.Repeat([]int{1}, 11)...), 144089, 144},
		{append(slices.Repeat([]int{1}, 11), 1000), 144089, 89055},
		{slices.Repeat([]int{3}, 11), 467280, 141481},
		{append([]int{0}, slices.Repeat([]int{3}, 11)...), 141481, 467280},
		{slices.Repeat([]int{2}, 12), 33461, 13860},
		{append([]int{1}, slices.Repeat([]int{3}, 11)...), 608761, 467280},
	} {
		checkFraction(t, c.quotients, c.top, c.bottom)
	}
}

// TestFractionsWithGreatNumbers has numbers that reach 1000000 and that just
// pass it, in the top, in the bottom and before the last step.
func TestFractionsWithGreatNumbers(t *testing.T) {
	for _, c := range []struct {
		quotients   []int
		top, bottom int
	}{
		{[]int{997, 111, 2, 4}, 1000000, 1003},
		{[]int{757, 440, 3}, 1000000, 1321},
		{[]int{1, 1000, 999}, 1000000, 999001},
		{[]int{742, 2, 1, 1, 3, 1, 1, 1, 1, 3, 1, 2}, 1000000, 1347},
		{[]int{999, 1, 999}, 999999, 1000},
		{[]int{0, 997, 111, 2, 4}, 1003, 1000000},
		{[]int{0, 1, 1000, 999}, 999001, 1000000},
		{[]int{0, 981, 2, 1, 4, 1, 1, 1, 3, 1, 1, 2}, 1019, 1000000},
		{[]int{0, 999, 1, 999}, 1000, 999999},
	} {
		checkFraction(t, c.quotients, c.top, c.bottom)
		checkContinued(t, c.top, c.bottom, c.quotients)
	}
	for _, quotients := range [][]int{
		// 1000001 is the top, the bottom, and a number before the last step.
		{1000, 1000}, {1000, 999, 1}, {997, 100, 3, 3}, {999, 500, 2}, {1, 999, 1000},
		{911, 1, 1, 2, 1, 2, 2, 2, 1, 1, 1, 2},
		{0, 1000, 1000}, {0, 997, 100, 3, 3}, {0, 1, 999, 1000},
		{1, 1000, 1000}, {1000, 1000, 1000}, {1, 1, 997, 100, 3, 3},
		// 1000000 is reached before the last step.
		{1, 997, 111, 2, 4}, {1000, 997, 111, 2, 4}, {1, 1, 1000, 999},
		{1, 981, 2, 1, 4, 1, 1, 1, 3, 1, 1, 2},
		// The numbers are much greater.
		slices.Repeat([]int{3}, 12), slices.Repeat([]int{10}, 12), slices.Repeat([]int{10}, 7), {1000, 1000, 1000, 1000},
		append([]int{0}, slices.Repeat([]int{10}, 11)...),
	} {
		checkNoFraction(t, quotients)
	}
	for n := 2; n <= 12; n++ {
		for _, quotient := range []int{1000, 999, 992, 512} {
			if n > 2 || quotient == 1000 {
				checkNoFraction(t, slices.Repeat([]int{quotient}, n))
			}
			checkNoFraction(t, append([]int{0}, slices.Repeat([]int{quotient}, min(n+1, 11))...))
		}
	}
}

// TestFractionsOfManyQuotients builds all fractions again in another way.
func TestFractionsOfManyQuotients(t *testing.T) {
	some := []int{1, 2, 3, 7, 10, 31, 99, 100, 316, 500, 999, 1000}
	for n := 1; n <= 12; n++ {
		for seed := range 400 {
			quotients := make([]int, n)
			for k := range quotients {
				// Small seeds have small quotients only.
				quotients[k] = some[(seed*(k+3)+k*k*5+seed*seed*7/(k+1))%(2+seed%(len(some)-1))]
			}
			if seed%5 == 0 {
				quotients[0] = 0
			}
			if r, small := fractionOf(quotients); small {
				checkFraction(t, quotients, int(r.Num().Int64()), int(r.Denom().Int64()))
			} else {
				checkNoFraction(t, quotients)
			}
		}
	}
}

func TestFractionOfNumbersOfQuotients(t *testing.T) {
	checkNoFraction(t, nil)
	checkNoFraction(t, []int{})
	checkNoFraction(t, []int{3, 7}[:0])
	for _, n := range []int{13, 14, 15, 24, 64, 1000} {
		checkNoFraction(t, slices.Repeat([]int{1}, n))
		checkNoFraction(t, append([]int{0}, slices.Repeat([]int{1}, n-1)...))
		checkNoFraction(t, make([]int, n))
	}
	for n := 1; n <= 12; n++ {
		r, _ := fractionOf(slices.Repeat([]int{1}, n))
		checkFraction(t, slices.Repeat([]int{1}, 13)[:n], int(r.Num().Int64()), int(r.Denom().Int64()))
	}
}

// TestInvalidQuotients has one at each place.
func TestInvalidQuotients(t *testing.T) {
	for _, quotient := range append(extremes(), -1, 1001, -2, -1000, 1002, 1000000, 1000001) {
		for n := 1; n <= 13; n++ {
			for place := range n {
				quotients := slices.Repeat([]int{1}, n)
				quotients[place] = quotient
				checkNoFraction(t, quotients)
			}
		}
	}
	for n := 2; n <= 13; n++ {
		for place := 1; place < n; place++ {
			quotients := slices.Repeat([]int{2}, n)
			quotients[place] = 0
			checkNoFraction(t, quotients)
			quotients[0] = 0
			checkNoFraction(t, quotients)
		}
	}
}

func TestCloserOf(t *testing.T) {
	for _, c := range []struct{ top, bottom, a, b, c, d, want int }{
		{1, 2, 1, 2, 1, 3, -1},
		// On the same side, below and above.
		{1, 1, 1, 2, 1, 3, -1},
		{1, 1, 2, 1, 3, 1, -1},
		{355, 113, 22, 7, 19, 6, -1},
		{355, 113, 333, 106, 311, 99, -1},
		{1, 2, 499, 999, 498, 997, -1},
		{1, 2, 500, 999, 499, 997, -1},
		// On different sides: the nearer one may be less or greater.
		{1, 2, 1, 3, 3, 4, -1},
		{1, 2, 2, 3, 1, 4, -1},
		{1, 1, 1, 2, 2, 1, -1},
		{1, 3, 1, 2, 1, 7, -1},
		{1, 3, 1, 6, 1, 2, 0},
		// Equally close, on different sides.
		{1, 2, 1, 4, 3, 4, 0},
		{1, 2, 499, 999, 500, 999, 0},
		{2, 1, 1, 1, 3, 1, 0},
		{5, 12, 1, 3, 1, 2, 0},
		{239, 12, 119, 6, 120, 6, 0},
		// Equally close, on the same side and without any difference.
		{1, 2, 1, 3, 2, 6, 0},
		{1, 2, 2, 3, 400, 600, 0},
		{1, 2, 3, 6, 500, 1000, 0},
		{1000, 1000, 1, 1, 7, 7, 0},
		{3, 4, 750, 1000, 6, 8, 0},
		// Numbers of 1 and of 1000.
		{1, 1, 1, 1, 1, 1, 0},
		{1000, 1000, 1000, 1000, 1000, 1000, 0},
		{1000, 1, 1000, 1, 999, 1, -1},
		{1, 1000, 1, 1000, 1, 999, -1},
		{1000, 1, 1, 1, 1, 1000, -1},
		{1000, 1, 1, 999, 1, 1000, -1},
		{1, 1000, 1, 1, 1000, 1, -1},
		{1, 1000, 999, 1, 1000, 1, -1},
		{1000, 1000, 999, 1000, 1000, 999, -1},
		{1000, 999, 999, 998, 998, 997, -1},
		{999, 1000, 998, 999, 1000, 1000, -1},
	} {
		if order := distance(c.top, c.bottom, c.a, c.b).Cmp(distance(c.top, c.bottom, c.c, c.d)); order != c.want {
			t.Errorf("the distances of %v are in order %d", c, order)
		}
		checkCloser(t, c.top, c.bottom, c.a, c.b, c.c, c.d, c.want)
	}
}

// TestCloserOfIsTheLessDistance compares fractions of small numbers and of
// numbers at the limits.
func TestCloserOfIsTheLessDistance(t *testing.T) {
	for _, numbers := range [][]int{{1, 2, 3, 4, 5}, {1, 2, 120, 999, 1000}} {
		var pairs [][2]int
		for _, a := range numbers {
			for _, b := range numbers {
				pairs = append(pairs, [2]int{a, b})
			}
		}
		for _, r := range pairs {
			for _, first := range pairs {
				for _, second := range pairs {
					want := distance(r[0], r[1], first[0], first[1]).Cmp(distance(r[0], r[1], second[0], second[1]))
					checkCloserAlone(t, r[0], r[1], first[0], first[1], second[0], second[1], want)
				}
			}
		}
	}
}

// TestCloserOfNumbersOutOfRange has one at each place, and everywhere.
func TestCloserOfNumbersOutOfRange(t *testing.T) {
	for _, valid := range [][6]int{{1, 2, 1, 2, 1, 3}, {1, 2, 1, 3, 1, 2}, {3, 2, 1, 1, 1000, 999}, {1000, 1, 1, 1000, 1000, 1}} {
		for _, n := range notNear() {
			for place := range valid {
				numbers := valid
				numbers[place] = n
				checkCloserAlone(t, numbers[0], numbers[1], numbers[2], numbers[3], numbers[4], numbers[5], 0)
			}
			checkCloserAlone(t, n, valid[1], n, valid[3], valid[4], n, 0)
			checkCloserAlone(t, valid[0], n, valid[2], n, n, valid[5], 0)
			checkCloserAlone(t, n, n, n, n, n, n, 0)
		}
	}
}

func TestNearestGear(t *testing.T) {
	for _, c := range []struct{ top, bottom, drives, driven int }{
		// Exact ratios, which several gears have or only one.
		{1, 7, 6, 42},
		{1, 1, 6, 6},
		{1000, 1000, 6, 6},
		{1, 2, 6, 12},
		{500, 1000, 6, 12},
		{2, 1, 12, 6},
		{3, 4, 6, 8},
		{4, 3, 8, 6},
		{5, 7, 10, 14},
		{7, 5, 14, 10},
		{119, 120, 119, 120},
		{120, 119, 120, 119},
		{833, 840, 119, 120},
		{120, 113, 120, 113},
		{7, 119, 6, 102},
		{1, 20, 6, 120},
		{20, 1, 120, 6},
		{50, 1000, 6, 120},
		{1000, 50, 120, 6},
		// Below 6 / 120 and above 120 / 6.
		{1, 21, 6, 120},
		{1, 1000, 6, 120},
		{49, 1000, 6, 120},
		{21, 1, 120, 6},
		{1000, 1, 120, 6},
		{1000, 49, 120, 6},
		// Two are equally close. The one below has the least Drives.
		{239, 12, 119, 6},
		{69, 4, 103, 6},
		{211, 14, 90, 6},
		{53, 836, 6, 95},
		// The one above has the least Drives.
		{223, 14, 96, 6},
		{223, 16, 84, 6},
		{233, 26, 54, 6},
		{235, 708, 6, 18},
		{237, 476, 6, 12},
		{233, 936, 6, 24},
		// Only close.
		{355, 113, 22, 7},
		{1000, 999, 6, 6},
		{120, 121, 119, 120},
		{121, 120, 120, 119},
		{239, 240, 6, 6},
		{241, 240, 6, 6},
		{999, 50, 120, 6},
		{51, 1000, 6, 118},
	} {
		checkNearest(t, c.top, c.bottom, c.drives, c.driven)
	}
}

func TestNearestGearForNumbersOutOfRange(t *testing.T) {
	for _, n := range notNear() {
		for _, other := range append(notNear(), 1, 2, 6, 120, 1000, -n) {
			checkNoNearest(t, n, other)
			checkNoNearest(t, other, n)
		}
	}
}

// ratioWithGear is a ratio with the gear of least Drives that has it.
type ratioWithGear struct {
	ratio *big.Rat
	gear  impl.Gear
}

// gearRatios has all ratios of gears in order.
func gearRatios() []ratioWithGear {
	var ratios []ratioWithGear
	for _, g := range leastGears() {
		ratios = append(ratios, ratioWithGear{fraction(g.Drives, g.Driven), g})
	}
	slices.SortFunc(ratios, func(a, b ratioWithGear) int { return a.ratio.Cmp(b.ratio) })
	return ratios
}

// nearestOf compares only the two ratios around the one that is asked for.
func nearestOf(ratios []ratioWithGear, top int, bottom int) impl.Gear {
	place, _ := slices.BinarySearchFunc(ratios, fraction(top, bottom), func(r ratioWithGear, asked *big.Rat) int {
		return r.ratio.Cmp(asked)
	})
	below, above := ratios[max(place-1, 0)].gear, ratios[min(place, len(ratios)-1)].gear
	order := distance(top, bottom, below.Drives, below.Driven).Cmp(distance(top, bottom, above.Drives, above.Driven))
	if order < 0 || order == 0 && below.Drives < above.Drives {
		return below
	}
	return above
}

func TestNearestGearIsOneBesideTheRatio(t *testing.T) {
	ratios := gearRatios()
	compare := func(top int, bottom int) {
		want := nearestOf(ratios, top, bottom)
		checkNearest(t, top, bottom, want.Drives, want.Driven)
	}
	for top := 1; top <= 30; top++ {
		for bottom := 1; bottom <= 30; bottom++ {
			compare(top, bottom)
		}
	}
	for _, top := range someNear() {
		for _, bottom := range someNear() {
			compare(top, bottom)
		}
	}
	for seed := range 1000 {
		compare(1+seed*619%1000, 1+seed*seed*7%1000)
	}
	// Ratios in the middle between two gears.
	for drives := 100; drives < 120; drives++ {
		for driven := 6; driven <= 9; driven++ {
			compare(2*drives+1, 2*driven)
		}
	}
}

// TestNoGearIsCloserThanTheNearest compares each nearest gear with all gears.
func TestNoGearIsCloserThanTheNearest(t *testing.T) {
	asked := [][2]int{{1, 2}, {355, 113}, {239, 12}, {223, 14}, {53, 836}, {237, 476}, {1, 1000}, {1000, 1}, {1000, 999}, {999, 1000},
		{120, 121}, {618, 1000}, {271, 100}, {1, 1}, {119, 120}, {7, 119}, {997, 991}, {51, 1000}, {999, 50}, {1, 21}}
	for seed := range 40 {
		asked = append(asked, [2]int{1 + seed*377%1000, 1 + seed*seed*13%1000})
	}
	for _, r := range asked {
		nearest, ok := impl.NearestGear(r[0], r[1])
		if !ok || !impl.GearOk(nearest) {
			t.Errorf("NearestGear(%d, %d) = %v, %v", r[0], r[1], nearest, ok)
		}
		parts := impl.ErrorParts(r[0], r[1], nearest)
		for drives := 6; drives <= 120; drives++ {
			for driven := 6; driven <= 120; driven++ {
				order := impl.CloserOf(r[0], r[1], nearest.Drives, nearest.Driven, drives, driven)
				if order > 0 || order == 0 && (drives < nearest.Drives || drives == nearest.Drives && driven < nearest.Driven) {
					t.Errorf("NearestGear(%d, %d) = %v instead of %d, %d", r[0], r[1], nearest, drives, driven)
				}
				if g := (impl.Gear{Drives: drives, Driven: driven}); impl.ErrorParts(r[0], r[1], g) < parts {
					t.Errorf("ErrorParts(%d, %d, %v) is less than for the nearest gear %v", r[0], r[1], g, nearest)
				}
			}
		}
	}
}

// TestNearestGearIsTheExactOne asks for each ratio that a gear has.
func TestNearestGearIsTheExactOne(t *testing.T) {
	for _, g := range leastGears() {
		// Every tenth ratio, and all those that have many gears.
		if (g.Drives*31+g.Driven)%10 != 0 && g.Drives > 12 {
			continue
		}
		times := 1 + (g.Drives+g.Driven)%8
		checkNearest(t, g.Drives*times, g.Driven*times, g.Drives, g.Driven)
		exact, ok := impl.GearsFor(g.Drives*times, g.Driven*times)
		if exact != g || !ok {
			t.Errorf("GearsFor(%d, %d) = %v, %v, want %v", g.Drives*times, g.Driven*times, exact, ok, g)
		}
		checkError(t, g.Drives*times, g.Driven*times, g, 0)
	}
}

func TestErrorParts(t *testing.T) {
	for _, c := range []struct{ top, bottom, drives, driven, want int }{
		{1, 2, 6, 11, 90909},
		{500, 1000, 6, 11, 90909},
		// No error.
		{1, 2, 6, 12, 0},
		{1, 2, 60, 120, 0},
		{1, 1, 6, 6, 0},
		{1000, 1000, 120, 120, 0},
		{119, 120, 119, 120, 0},
		{1000, 50, 120, 6, 0},
		{50, 1000, 6, 120, 0},
		// Millionths of the ratio, not of 1.
		{2, 1, 6, 6, 500000},
		{1, 2, 6, 6, 1000000},
		{1, 3, 6, 6, 2000000},
		{3, 1, 6, 6, 666666},
		// Rounded down, below and above the ratio.
		{1, 1, 119, 120, 8333},
		{1, 1, 120, 119, 8403},
		{355, 113, 22, 7, 402},
		{355, 113, 44, 14, 402},
		{1000, 479, 119, 57, 17},
		{999, 1000, 6, 6, 1001},
		{1000, 999, 6, 6, 1000},
		{239, 12, 119, 6, 4184},
		{239, 12, 120, 6, 4184},
		// Nearly the whole ratio, and many times as much.
		{1, 1, 6, 120, 950000},
		{1000, 1, 6, 120, 999950},
		{20, 1, 6, 120, 997500},
		{1, 1, 120, 6, 19000000},
		{1, 20, 120, 6, 399000000},
		{1, 1000, 120, 6, 19999000000},
		{1, 999, 120, 6, 19979000000},
		{1, 1000, 120, 7, 17141857142},
		{1, 1000, 6, 120, 49000000},
		{1000, 1000, 6, 120, 950000},
	} {
		checkError(t, c.top, c.bottom, impl.Gear{Drives: c.drives, Driven: c.driven}, c.want)
	}
}

// TestErrorPartsOfManyGears compares them with the fraction of the distance.
func TestErrorPartsOfManyGears(t *testing.T) {
	teeth := []int{6, 7, 8, 11, 13, 60, 97, 119, 120}
	for _, top := range someNear() {
		for _, bottom := range someNear() {
			for _, drives := range teeth {
				for _, driven := range teeth {
					part := new(big.Rat).Quo(distance(top, bottom, drives, driven), fraction(top, bottom))
					part.Mul(part, fraction(1000000, 1))
					checkError(t, top, bottom, impl.Gear{Drives: drives, Driven: driven}, wholePart(part))
				}
			}
		}
	}
}

func TestErrorPartsThatAreInvalid(t *testing.T) {
	for _, g := range invalidGears() {
		for _, n := range []int{1, 2, 6, 1000, 0, -1, 1001} {
			checkError(t, n, 1, g, -1)
			checkError(t, 1, n, g, -1)
			checkError(t, n, n, g, -1)
		}
		checkError(t, g.Drives, g.Driven, g, -1)
	}
	for _, g := range train(6, 6, 6, 11, 6, 120, 120, 6, 120, 120) {
		for _, n := range notNear() {
			for _, other := range append(notNear(), 1, 2, 6, 120, 1000, -n) {
				checkError(t, n, other, g, -1)
				checkError(t, other, n, g, -1)
			}
		}
	}
}

// TestQuotientsKeepTheirArguments looks for shared memory, also behind the end.
func TestQuotientsKeepTheirArguments(t *testing.T) {
	backing := []int{3, 7, 16, 2, 1, 1, 4, 1000, 0, 1001, -1, 5, 6, 8, 9}
	before := slices.Clone(backing)
	for from := range backing {
		for to := from; to <= len(backing); to++ {
			impl.FractionOf(backing[from:to])
			if !slices.Equal(backing, before) {
				t.Fatalf("FractionOf(%v) changed %v to %v", before[from:to], before, backing)
			}
		}
	}
	quotients := impl.ContinuedOf(355, 113)
	clear(quotients)
	checkContinued(t, 355, 113, []int{3, 7, 16})
}

// TestNearestIsTheSameAgain calls many times, because an invalid call must not
// last from one call to the next one.
func TestNearestIsTheSameAgain(t *testing.T) {
	for range 5 {
		checkContinued(t, 355, 113, []int{3, 7, 16})
		checkNotContinued(t, 355, 0)
		checkFraction(t, []int{1, 2, 3, 4}, 43, 30)
		checkNoFraction(t, []int{1, 2, 3, 1001})
		checkCloser(t, 1, 2, 1, 3, 3, 4, -1)
		checkCloser(t, 0, 2, 1, 3, 3, 4, 0)
		checkNearest(t, 239, 12, 119, 6)
		checkNoNearest(t, 239, 0)
		checkError(t, 1, 2, impl.Gear{Drives: 6, Driven: 11}, 90909)
		checkError(t, 1, 2, impl.Gear{Drives: 6, Driven: 121}, -1)
	}
}

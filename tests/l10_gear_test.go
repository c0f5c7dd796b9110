package tests

import (
	"math"
	"math/big"
	"slices"
	"testing"

	"loop.example/g03309/impl"
)

// Promise 10: A train that is turned around divides what it multiplied.

const mostTurnsAsked = 1000000

// train has gears with the teeth of their driving and their driven wheel.
func train(numbers ...int) []impl.Gear {
	var gears []impl.Gear
	for k := 0; k < len(numbers); k += 2 {
		gears = append(gears, impl.Gear{Drives: numbers[k], Driven: numbers[k+1]})
	}
	return gears
}

// equalGears has n gears with the same wheels.
func equalGears(n int, drives int, driven int) []impl.Gear {
	return slices.Repeat(train(drives, driven), n)
}

// ratioOfTrain multiplies fractions that reduce themselves.
func ratioOfTrain(gears []impl.Gear) *big.Rat {
	ratio := big.NewRat(1, 1)
	for _, g := range gears {
		ratio.Mul(ratio, big.NewRat(int64(g.Drives), int64(g.Driven)))
	}
	return ratio
}

// turnedOf takes the last gear of the rest again and again.
func turnedOf(gears []impl.Gear) []impl.Gear {
	var turned []impl.Gear
	for len(gears) > 0 {
		last := gears[len(gears)-1]
		turned = append(turned, impl.Gear{Drives: last.Driven, Driven: last.Drives})
		gears = gears[:len(gears)-1]
	}
	return turned
}

// checkRatio also checks the ratio of the train turned around, and the least
// number of turns of both.
func checkRatio(t *testing.T, gears []impl.Gear, top int, bottom int) {
	t.Helper()
	checkRatioAlone(t, gears, top, bottom)
	checkRatioAlone(t, impl.TurnTrain(gears), bottom, top)
}

func checkRatioAlone(t *testing.T, gears []impl.Gear, top int, bottom int) {
	t.Helper()
	if a, b := impl.TrainRatio(gears); a != top || b != bottom {
		t.Errorf("TrainRatio(%v) = %d, %d, want %d, %d", gears, a, b, top, bottom)
	}
	if got := impl.LeastWhole(gears); got != bottom {
		t.Errorf("LeastWhole(%v) = %d, want %d", gears, got, bottom)
	}
}

// checkTurns also turns the train around and drives it with the result, which
// may be too many turns.
func checkTurns(t *testing.T, gears []impl.Gear, turns int, want int) {
	t.Helper()
	if got, ok := impl.TurnsOf(gears, turns); got != want || !ok {
		t.Errorf("TurnsOf(%v, %d) = %d, %v, want %d, true", gears, turns, got, ok, want)
	}
	turned := impl.TurnTrain(gears)
	back, ok := impl.TurnsOf(turned, want)
	switch {
	case want <= mostTurnsAsked && (back != turns || !ok):
		t.Errorf("TurnsOf(%v, %d) = %d, %v, want %d, true", turned, want, back, ok, turns)
	case want > mostTurnsAsked && (back != 0 || ok):
		t.Errorf("TurnsOf(%v, %d) = %d, %v, want 0, false", turned, want, back, ok)
	}
}

func checkNotWhole(t *testing.T, gears []impl.Gear, turns int) {
	t.Helper()
	if got, ok := impl.TurnsOf(gears, turns); got != 0 || ok {
		t.Errorf("TurnsOf(%v, %d) = %d, %v, want 0, false", gears, turns, got, ok)
	}
}

func checkTurnedTrain(t *testing.T, gears []impl.Gear, want []impl.Gear) {
	t.Helper()
	if got := impl.TurnTrain(gears); !slices.Equal(got, want) {
		t.Errorf("TurnTrain(%v) = %v, want %v", gears, got, want)
	}
	if got := impl.TurnTrain(impl.TurnTrain(gears)); !slices.Equal(got, gears) {
		t.Errorf("TurnTrain(%v) turned again is %v", gears, got)
	}
}

// checkNoTrain checks that nothing can be done with a train that is not valid.
func checkNoTrain(t *testing.T, gears []impl.Gear) {
	t.Helper()
	checkRatioAlone(t, gears, 0, 0)
	for _, turns := range []int{0, 1, 2, 6, 120, 1000, mostTurnsAsked} {
		checkNotWhole(t, gears, turns)
	}
	if got := impl.TurnTrain(gears); len(got) != 0 {
		t.Errorf("TurnTrain(%v) = %v, want nil", gears, got)
	}
}

// checkGearFor also asks for the ratio turned around.
func checkGearFor(t *testing.T, top int, bottom int, drives int, driven int) {
	t.Helper()
	want := impl.Gear{Drives: drives, Driven: driven}
	if got, ok := impl.GearsFor(top, bottom); got != want || !ok {
		t.Errorf("GearsFor(%d, %d) = %v, %v, want %v, true", top, bottom, got, ok, want)
	}
	want = impl.Gear{Drives: driven, Driven: drives}
	if got, ok := impl.GearsFor(bottom, top); got != want || !ok {
		t.Errorf("GearsFor(%d, %d) = %v, %v, want %v, true", bottom, top, got, ok, want)
	}
}

func checkNoGearFor(t *testing.T, top int, bottom int) {
	t.Helper()
	if got, ok := impl.GearsFor(top, bottom); got != (impl.Gear{}) || ok {
		t.Errorf("GearsFor(%d, %d) = %v, %v, want no gear, false", top, bottom, got, ok)
	}
	if got, ok := impl.GearsFor(bottom, top); got != (impl.Gear{}) || ok {
		t.Errorf("GearsFor(%d, %d) = %v, %v, want no gear, false", bottom, top, got, ok)
	}
}

// notWheels has numbers of teeth that no wheel has.
func notWheels() []int {
	return append(extremes(), 5, 121, 4, 122, 1, 0, -1, -6, -120, 126, 1000, 10000)
}

// invalidGears has gears with one wheel or both that are not possible.
func invalidGears() []impl.Gear {
	gears := train(0, 0, 5, 5, 121, 121, 5, 121, 121, 5, -6, -6, -120, -120, math.MaxInt64, math.MinInt64)
	for _, teeth := range notWheels() {
		gears = append(gears, train(teeth, 6, teeth, 60, teeth, 120, 6, teeth, 60, teeth, 120, teeth)...)
	}
	return gears
}

// manyTrains has trains of 0 to 4 gears, some with wheels of the least and the
// greatest size.
func manyTrains() [][]impl.Gear {
	trains := [][]impl.Gear{nil, {}}
	wheels := []int{6, 7, 8, 9, 10, 12, 13, 15, 16, 20, 24, 25, 30, 36, 40, 45, 48, 60, 72, 90, 97, 100, 113, 119, 120}
	for n := 1; n <= 4; n++ {
		for seed := range 60 {
			var gears []impl.Gear
			for k := range n {
				drives := wheels[(seed*7+k*k*5+n)%len(wheels)]
				driven := wheels[(seed*seed+k*11+n*3)%len(wheels)]
				gears = append(gears, impl.Gear{Drives: drives, Driven: driven})
			}
			trains = append(trains, gears)
		}
	}
	return trains
}

func TestGearOk(t *testing.T) {
	for drives := -3; drives <= 130; drives++ {
		for driven := -3; driven <= 130; driven++ {
			want := 6 <= drives && drives <= 120 && 6 <= driven && driven <= 120
			if got := impl.GearOk(impl.Gear{Drives: drives, Driven: driven}); got != want {
				t.Errorf("GearOk(%d, %d) = %v, want %v", drives, driven, got, want)
			}
		}
	}
	for _, g := range invalidGears() {
		if impl.GearOk(g) {
			t.Errorf("GearOk(%v) = true", g)
		}
	}
	for _, g := range train(6, 6, 6, 120, 120, 6, 120, 120, 7, 119, 60, 60) {
		if !impl.GearOk(g) {
			t.Errorf("GearOk(%v) = false", g)
		}
	}
}

func TestNoGears(t *testing.T) {
	for _, gears := range [][]impl.Gear{nil, {}, train(5, 5)[:0]} {
		checkRatio(t, gears, 1, 1)
		checkTurnedTrain(t, gears, nil)
		for _, turns := range []int{0, 1, 2, 3, 5, 6, 7, 119, 120, 121, 999, 999999, mostTurnsAsked} {
			checkTurns(t, gears, turns, turns)
		}
		for _, turns := range append(extremes(), -1, -2, mostTurnsAsked+1, mostTurnsAsked+2) {
			checkNotWhole(t, gears, turns)
		}
	}
}

func TestTrainRatio(t *testing.T) {
	for _, c := range []struct {
		gears  []impl.Gear
		top    int
		bottom int
	}{
		{train(10, 30, 12, 8), 1, 2},
		{train(12, 8, 10, 30), 1, 2},
		// One gear: no common divisor, both equal, and one number divides the other.
		{train(7, 9), 7, 9},
		{train(6, 8), 3, 4},
		{train(6, 6), 1, 1},
		{train(7, 7), 1, 1},
		{train(60, 60), 1, 1},
		{train(120, 120), 1, 1},
		{train(6, 120), 1, 20},
		{train(120, 6), 20, 1},
		{train(119, 120), 119, 120},
		{train(97, 89), 97, 89},
		{train(60, 12), 5, 1},
		{train(12, 60), 1, 5},
		{train(100, 15), 20, 3},
		// Numbers of different gears have common divisors only.
		{train(7, 8, 8, 7), 1, 1},
		{train(7, 11, 11, 13), 7, 13},
		{train(8, 9, 9, 8, 6, 6), 1, 1},
		{train(6, 35, 35, 10), 3, 5},
		{train(14, 15, 15, 14, 7, 9), 7, 9},
		{train(7, 11, 13, 17, 19, 23), 7 * 13 * 19, 11 * 17 * 23},
		{train(60, 10, 60, 10, 60, 10), 216, 1},
		{train(10, 60, 10, 60, 10, 60), 1, 216},
		// Four gears.
		{equalGears(4, 120, 6), 160000, 1},
		{equalGears(4, 6, 120), 1, 160000},
		{equalGears(4, 6, 6), 1, 1},
		{equalGears(4, 120, 120), 1, 1},
		{equalGears(4, 120, 119), 207360000, 200533921},
		{equalGears(4, 113, 120), 163047361, 207360000},
		{train(120, 119, 120, 119, 119, 120, 119, 120), 1, 1},
		{train(120, 6, 120, 6, 120, 6, 6, 120), 400, 1},
		{train(7, 8, 9, 10, 11, 12, 13, 14), 429, 640},
	} {
		checkRatio(t, c.gears, c.top, c.bottom)
	}
}

func TestTrainRatioIsTheProduct(t *testing.T) {
	for _, gears := range manyTrains() {
		want := ratioOfTrain(gears)
		checkRatio(t, gears, int(want.Num().Int64()), int(want.Denom().Int64()))
	}
	for drives := 6; drives <= 120; drives++ {
		for driven := 6; driven <= 120; driven++ {
			gears := train(drives, driven)
			want := ratioOfTrain(gears)
			checkRatioAlone(t, gears, int(want.Num().Int64()), int(want.Denom().Int64()))
		}
	}
}

func TestTrainsThatAreTooLong(t *testing.T) {
	for _, n := range []int{5, 6, 7, 8, 10, 64, 1000} {
		checkNoTrain(t, equalGears(n, 6, 6))
		checkNoTrain(t, equalGears(n, 120, 6))
		checkNoTrain(t, equalGears(n, 6, 120))
		checkNoTrain(t, equalGears(n, 5, 6))
	}
	for n := range 5 {
		checkRatio(t, equalGears(5, 10, 10)[:n], 1, 1)
	}
}

// TestTrainsWithAnInvalidGear has it at each place.
func TestTrainsWithAnInvalidGear(t *testing.T) {
	for _, invalid := range invalidGears() {
		for n := 1; n <= 5; n++ {
			for place := range n {
				gears := equalGears(n, 12, 6)
				gears[place] = invalid
				checkNoTrain(t, gears)
			}
		}
		checkNoTrain(t, slices.Repeat([]impl.Gear{invalid}, 2))
		checkNoTrain(t, slices.Repeat([]impl.Gear{invalid}, 4))
	}
}

func TestTurnsOf(t *testing.T) {
	// A whole ratio, a ratio below 1 and one between whole numbers.
	for turns := range 1000 {
		checkTurns(t, train(60, 12), turns, 5*turns)
		checkTurns(t, train(6, 6, 120, 120), turns, turns)
		if turns%5 == 0 {
			checkTurns(t, train(12, 60), turns, turns/5)
		} else {
			checkNotWhole(t, train(12, 60), turns)
		}
		if turns%9 == 0 {
			checkTurns(t, train(30, 27, 7, 7), turns, turns/9*10)
		} else {
			checkNotWhole(t, train(30, 27, 7, 7), turns)
		}
	}
	halves := train(10, 30, 12, 8)
	checkTurns(t, halves, 6, 3)
	checkNotWhole(t, halves, 3)
	checkNotWhole(t, halves, 7)
	checkTurns(t, train(6, 120), 20, 1)
	checkNotWhole(t, train(6, 120), 19)
	checkNotWhole(t, train(6, 120), 21)
	checkTurns(t, train(120, 6), 1, 20)
	// Whole only for both gears together.
	checkTurns(t, train(7, 8, 8, 7), 1, 1)
	checkTurns(t, train(7, 8, 16, 7), 1, 2)
}

func TestTurnsAtTheLimits(t *testing.T) {
	trains := [][]impl.Gear{nil, train(6, 6), train(10, 20), train(120, 6), train(10, 30, 12, 8), equalGears(4, 120, 6),
		equalGears(4, 6, 120), train(6, 120, 120, 6), train(119, 120)}
	for _, gears := range trains {
		checkTurns(t, gears, 0, 0)
		for _, turns := range append(extremes(), -1, -2, -20, -160000, -1000000, 1000001, 1000002, 1000020, 1120000, 2000000) {
			checkNotWhole(t, gears, turns)
		}
	}
	checkTurns(t, train(6, 6), 1000000, 1000000)
	checkTurns(t, train(6, 6), 999999, 999999)
	checkTurns(t, train(10, 20), 1000000, 500000)
	checkTurns(t, train(10, 20), 999998, 499999)
	checkNotWhole(t, train(10, 20), 999999)
	// The result may be greater than the limit for turns.
	checkTurns(t, train(20, 10), 500000, 1000000)
	checkTurns(t, train(20, 10), 500001, 1000002)
	checkTurns(t, train(20, 10), 1000000, 2000000)
	checkTurns(t, train(101, 100), 990100, 1000001)
	checkTurns(t, equalGears(4, 120, 6), 6, 960000)
	checkTurns(t, equalGears(4, 120, 6), 7, 1120000)
	checkTurns(t, equalGears(4, 120, 6), 1000000, 160000000000)
	checkTurns(t, equalGears(4, 6, 120), 160000, 1)
	checkTurns(t, equalGears(4, 6, 120), 960000, 6)
	checkNotWhole(t, equalGears(4, 6, 120), 159999)
	checkNotWhole(t, equalGears(4, 6, 120), 160001)
	checkNotWhole(t, equalGears(4, 6, 120), 1000000)
}

// TestTurnsOfEachTrain compares all with fractions, and one turn more and less.
func TestTurnsOfEachTrain(t *testing.T) {
	for _, gears := range manyTrains() {
		ratio := ratioOfTrain(gears)
		least := int(ratio.Denom().Int64())
		for _, base := range []int{0, 1, 2, 6, 60, 120, least, 2 * least, 7 * least, mostTurnsAsked / least * least, mostTurnsAsked} {
			for turns := base - 1; turns <= base+1; turns++ {
				want := new(big.Rat).Mul(ratio, big.NewRat(int64(turns), 1))
				if 0 <= turns && turns <= mostTurnsAsked && want.IsInt() {
					checkTurns(t, gears, turns, int(want.Num().Int64()))
				} else {
					checkNotWhole(t, gears, turns)
				}
			}
		}
	}
}

// TestLeastWholeIsTheLeast tries all turns up to it.
func TestLeastWholeIsTheLeast(t *testing.T) {
	for _, gears := range manyTrains() {
		least := impl.LeastWhole(gears)
		for turns := 1; turns <= min(least, 3000); turns++ {
			if _, ok := impl.TurnsOf(gears, turns); ok != (turns == least) {
				t.Errorf("TurnsOf(%v, %d) is whole: %v, but LeastWhole is %d", gears, turns, ok, least)
			}
		}
	}
}

func TestLeastWholeAboveTheLimit(t *testing.T) {
	for _, c := range []struct {
		gears []impl.Gear
		least int
	}{
		{equalGears(4, 119, 120), 207360000},
		{equalGears(4, 120, 119), 200533921},
		{equalGears(3, 120, 119), 1685159},
		{equalGears(3, 99, 100), 1000000},
		{train(6, 101, 6, 103, 7, 107), 1113121},
		{train(7, 113, 8, 109, 9, 107), 113 * 109 * 107},
	} {
		if got := impl.LeastWhole(c.gears); got != c.least {
			t.Errorf("LeastWhole(%v) = %d, want %d", c.gears, got, c.least)
		}
		checkTurns(t, c.gears, 0, 0)
		for _, turns := range []int{1, 120, 999999, 1000001, c.least - 1, c.least + 1} {
			checkNotWhole(t, c.gears, turns)
		}
		if c.least > mostTurnsAsked {
			checkNotWhole(t, c.gears, mostTurnsAsked)
			checkNotWhole(t, c.gears, c.least)
		}
	}
	checkTurns(t, equalGears(3, 99, 100), 1000000, 970299)
}

func TestTurnTrain(t *testing.T) {
	checkTurnedTrain(t, train(10, 30, 12, 8), train(8, 12, 30, 10))
	checkTurnedTrain(t, train(10, 30), train(30, 10))
	checkTurnedTrain(t, train(6, 6), train(6, 6))
	checkTurnedTrain(t, train(6, 120, 7, 119, 8, 118), train(118, 8, 119, 7, 120, 6))
	checkTurnedTrain(t, train(6, 7, 8, 9, 10, 11, 12, 13), train(13, 12, 11, 10, 9, 8, 7, 6))
	checkTurnedTrain(t, train(6, 7, 7, 6), train(6, 7, 7, 6))
	checkTurnedTrain(t, equalGears(4, 120, 6), equalGears(4, 6, 120))
	for _, gears := range manyTrains() {
		checkTurnedTrain(t, gears, turnedOf(gears))
	}
}

// TestTurnedTrainsTakeEachOtherBack joins a train with itself turned around.
func TestTurnedTrainsTakeEachOtherBack(t *testing.T) {
	for _, gears := range manyTrains() {
		if len(gears) > 2 {
			continue
		}
		checkRatio(t, slices.Concat(gears, impl.TurnTrain(gears)), 1, 1)
		for _, turns := range []int{0, 1, 59, mostTurnsAsked} {
			checkTurns(t, slices.Concat(impl.TurnTrain(gears), gears), turns, turns)
		}
	}
}

func TestGearsFor(t *testing.T) {
	for _, c := range []struct{ top, bottom, drives, driven int }{
		{3, 4, 6, 8},
		{6, 8, 6, 8},
		{2, 3, 6, 9},
		{4, 5, 8, 10},
		{5, 7, 10, 14},
		{7, 8, 7, 8},
		{14, 16, 7, 8},
		// The least wheel has 6 teeth because no wheel may have fewer.
		{1, 1, 6, 6},
		{1, 2, 6, 12},
		{1, 3, 6, 18},
		{2, 5, 6, 15},
		{3, 40, 6, 80},
		{5, 6, 10, 12},
		{5, 60, 6, 72},
		{6, 119, 6, 119},
		{6, 7, 6, 7},
		{1, 19, 6, 114},
		{1, 20, 6, 120},
		{2, 39, 6, 117},
		{3, 59, 6, 118},
		{4, 59, 8, 118},
		{5, 59, 10, 118},
		// The greatest wheels.
		{120, 120, 6, 6},
		{119, 120, 119, 120},
		{97, 120, 97, 120},
		{7, 120, 7, 120},
		{60, 120, 6, 12},
		{59, 60, 59, 60},
		// Great numbers that are reduced.
		{10000, 10000, 6, 6},
		{9999, 9999, 6, 6},
		{5000, 10000, 6, 12},
		{500, 10000, 6, 120},
		{9900, 10000, 99, 100},
		{9917, 9917, 6, 6},
		{121, 242, 6, 12},
		{121, 121, 6, 6},
		{8330, 8400, 119, 120},
		{7, 140, 6, 120},
	} {
		checkGearFor(t, c.top, c.bottom, c.drives, c.driven)
	}
}

func TestNoGearsFor(t *testing.T) {
	for _, c := range []struct{ top, bottom int }{
		// Just beyond 1/20.
		{1, 21}, {2, 41}, {3, 61}, {6, 121}, {5, 101}, {499, 10000}, {476, 9521}, {7, 141},
		{1, 100}, {1, 10000}, {1, 9999}, {2, 9999},
		// The reduced numbers are too great already.
		{120, 121}, {121, 122}, {119, 121}, {7, 121}, {60, 121}, {9999, 10000}, {9973, 10000}, {240, 242}, {7, 122},
		{6, 127}, {363, 360}, {8470, 8400},
		// With enough teeth for the lesser wheel, the greater one has too many.
		{5, 61}, {4, 61}, {4, 67}, {3, 64}, {5, 89}, {5, 119}, {1, 113}, {2, 47}, {3, 119}, {5, 99},
	} {
		checkNoGearFor(t, c.top, c.bottom)
	}
}

func TestGearsForNumbersOutOfRange(t *testing.T) {
	for _, n := range append(extremes(), 0, -1, -2, -6, -10000, 10001, 10002, 20000, 60000, math.MaxInt32, math.MinInt32) {
		for _, other := range append(extremes(), n, -n, 0, 1, 2, 6, 120, 5000, 10000, -1, 10001, 20002) {
			checkNoGearFor(t, n, other)
		}
	}
}

// leastGears has the gear with the least Drives for each ratio that a gear can
// have.
func leastGears() map[string]impl.Gear {
	least := make(map[string]impl.Gear)
	for drives := 120; drives >= 6; drives-- {
		for driven := 6; driven <= 120; driven++ {
			least[big.NewRat(int64(drives), int64(driven)).String()] = impl.Gear{Drives: drives, Driven: driven}
		}
	}
	return least
}

// TestGearsForIsTheLeast compares it with all gears.
func TestGearsForIsTheLeast(t *testing.T) {
	least := leastGears()
	compare := func(top int, bottom int) {
		want, made := least[big.NewRat(int64(top), int64(bottom)).String()]
		if got, ok := impl.GearsFor(top, bottom); got != want || ok != made {
			t.Errorf("GearsFor(%d, %d) = %v, %v, want %v, %v", top, bottom, got, ok, want, made)
		}
	}
	for top := 1; top <= 260; top++ {
		for bottom := 1; bottom <= 260; bottom++ {
			compare(top, bottom)
		}
	}
	for top := 9880; top <= 10000; top++ {
		for _, bottom := range []int{1, 2, 6, 120, 121, 494, 495, 499, 500, 501, 2500, 3333, 5000, 6000, 7500, 9900, 9996, 9999, 10000} {
			compare(top, bottom)
			compare(bottom, top)
		}
	}
}

// TestGearsForEachGear asks for the ratio of each gear, also with the greatest
// numbers that have it.
func TestGearsForEachGear(t *testing.T) {
	for drives := 6; drives <= 120; drives++ {
		for driven := 6; driven <= 120; driven++ {
			for _, times := range []int{1, 2, 10000 / max(drives, driven)} {
				g, ok := impl.GearsFor(drives*times, driven*times)
				if !ok || !impl.GearOk(g) || g.Drives*driven != g.Driven*drives || g.Drives > drives {
					t.Errorf("GearsFor(%d, %d) = %v, %v", drives*times, driven*times, g, ok)
				}
			}
		}
	}
}

// TestTrainsKeepTheirArguments looks for shared memory, also behind the end.
func TestTrainsKeepTheirArguments(t *testing.T) {
	backing := train(10, 30, 12, 8, 7, 9, 120, 6, 6, 120, 5, 121)
	before := slices.Clone(backing)
	for from := range backing {
		for to := from; to <= len(backing); to++ {
			gears := backing[from:to]
			impl.TrainRatio(gears)
			impl.TurnsOf(gears, 360)
			impl.LeastWhole(gears)
			turned := impl.TurnTrain(gears)
			for k := range turned {
				turned[k] = impl.Gear{Drives: 77, Driven: 78}
			}
			_ = append(turned, impl.Gear{Drives: 79, Driven: 80})
			if !slices.Equal(backing, before) {
				t.Fatalf("the gears %v of %v changed to %v", before[from:to], before, backing)
			}
		}
	}
}

// TestTrainsAreTheSameAgain calls many times, because a train that failed must
// not last from one call to the next one.
func TestTrainsAreTheSameAgain(t *testing.T) {
	for range 5 {
		checkRatio(t, train(10, 30, 12, 8), 1, 2)
		checkNoTrain(t, train(10, 30, 12, 5))
		checkTurns(t, train(10, 30, 12, 8), 6, 3)
		checkNotWhole(t, train(10, 30, 12, 8), 5)
		checkTurnedTrain(t, train(10, 30, 12, 8), train(8, 12, 30, 10))
		checkGearFor(t, 3, 4, 6, 8)
		checkNoGearFor(t, 1, 21)
	}
}

package tests

import (
	"math"
	"slices"
	"testing"

	"loop.example/g03309/impl"
)

// Promise 7: Ways around a circle are the same in both directions, and turning
// does not change what is too close.

// onTrack makes a cylinder with 3 tracks and pins on the middle one.
func onTrack(steps int, angles ...int) impl.Cylinder {
	c := drum(steps, 3)
	for _, angle := range angles {
		c.Pins = append(c.Pins, impl.Pin{Track: 1, Angle: angle})
	}
	return c
}

// allBut has a pin at each angle but some.
func allBut(steps int, quiet ...int) impl.Cylinder {
	c := drum(steps, 2)
	for angle := range steps {
		if !slices.Contains(quiet, angle) {
			c.Pins = append(c.Pins, impl.Pin{Track: angle % 2, Angle: angle})
		}
	}
	return c
}

// walkedGap walks from a in both directions at once, a step at a time.
func walkedGap(a int, b int, steps int) int {
	up, down := a, a
	for n := 0; ; n++ {
		if up == b || down == b {
			return n
		}
		if up++; up == steps {
			up = 0
		}
		if down--; down < 0 {
			down = steps - 1
		}
	}
}

// someSteps has valid steps of a circle with their limits.
func someSteps() []int {
	return []int{1, 2, 3, 4, 5, 6, 7, 12, 13, 95, 96, 97, 100, 999, 1000}
}

func noCircles() []int {
	return append(extremes(), 0, -1, -2, -12, -1000, -1001, 1001, 1002, 2000)
}

// turnRests has the limits of rest and those beside them.
func turnRests() []int {
	return []int{1, 2, 3, 5, 8, 24, 47, 48, 49, 95, 96}
}

func invalidTurnRests() []int {
	return append(extremes(), 0, -1, -2, -95, -96, 97, 98, 99, 100, 101, 1000)
}

func pairsEqual(a [][]int, b [][]int) bool {
	return slices.EqualFunc(a, b, func(x []int, y []int) bool { return slices.Equal(x, y) })
}

// closePairs looks at each pair of pins and walks between them.
func closePairs(c impl.Cylinder, rest int) [][]int {
	var pairs [][]int
	for j, a := range c.Pins {
		for k, b := range c.Pins {
			if j < k && a.Track == b.Track && walkedGap(a.Angle, b.Angle, c.Steps) < rest {
				pairs = append(pairs, []int{j, k})
			}
		}
	}
	return pairs
}

func checkGap(t *testing.T, a int, b int, steps int, want int) {
	t.Helper()
	if got := impl.GapAround(a, b, steps); got != want {
		t.Errorf("GapAround(%d, %d, %d) = %d, want %d", a, b, steps, got, want)
	}
}

func checkClosest(t *testing.T, c impl.Cylinder, want int) {
	t.Helper()
	if got := impl.ClosestPins(c); got != want {
		t.Errorf("ClosestPins(%v) = %d, want %d", c, got, want)
	}
}

func checkQuiet(t *testing.T, c impl.Cylinder, want int) {
	t.Helper()
	if got := impl.QuietAngle(c); got != want {
		t.Errorf("QuietAngle(%v) = %d, want %d", c, got, want)
	}
}

// checkTooClose is for valid cylinders and rests; seam tells what OnlyAtSeam
// reports.
func checkTooClose(t *testing.T, c impl.Cylinder, rest int, seam bool, want [][]int) {
	t.Helper()
	if got := impl.TooClose(c, rest); !pairsEqual(got, want) {
		t.Errorf("TooClose(%v, %d) = %v, want %v", c, rest, got, want)
	}
	if got := impl.IsPlayable(c, rest); got != (len(want) == 0) {
		t.Errorf("IsPlayable(%v, %d) = %v, too close are %v", c, rest, got, want)
	}
	if got := impl.OnlyAtSeam(c, rest); got != seam {
		t.Errorf("OnlyAtSeam(%v, %d) = %v, too close are %v", c, rest, got, want)
	}
}

// checkNotChecked is for cylinders or rests that are not valid.
func checkNotChecked(t *testing.T, c impl.Cylinder, rest int) {
	t.Helper()
	if got := impl.TooClose(c, rest); len(got) != 0 {
		t.Errorf("TooClose(%v, %d) = %v, want nil", c, rest, got)
	}
	if impl.IsPlayable(c, rest) {
		t.Errorf("IsPlayable(%v, %d) = true", c, rest)
	}
	if impl.OnlyAtSeam(c, rest) {
		t.Errorf("OnlyAtSeam(%v, %d) = true", c, rest)
	}
}

func TestGapAround(t *testing.T) {
	for _, c := range []struct{ a, b, steps, want int }{
		// Between the first and the last angle.
		{0, 11, 12, 1},
		{0, 1, 2, 1},
		{0, 2, 3, 1},
		{0, 3, 4, 1},
		{0, 95, 96, 1},
		{0, 998, 999, 1},
		{0, 999, 1000, 1},
		// Next to them, within and around the end.
		{0, 10, 12, 2},
		{1, 11, 12, 2},
		{1, 10, 12, 3},
		{0, 1, 12, 1},
		{10, 11, 12, 1},
		{2, 7, 12, 5},
		{1, 8, 12, 5},
		// Equal angles.
		{0, 0, 1, 0},
		{0, 0, 2, 0},
		{1, 1, 2, 0},
		{0, 0, 12, 0},
		{5, 5, 12, 0},
		{11, 11, 12, 0},
		{0, 0, 1000, 0},
		{999, 999, 1000, 0},
		// Opposite angles of even steps.
		{0, 2, 4, 2},
		{1, 3, 4, 2},
		{0, 6, 12, 6},
		{5, 11, 12, 6},
		{0, 500, 1000, 500},
		{499, 999, 1000, 500},
		{0, 499, 1000, 499},
		{0, 501, 1000, 499},
		// Nearly opposite ones of odd steps.
		{0, 1, 3, 1},
		{0, 6, 13, 6},
		{0, 7, 13, 6},
		{6, 12, 13, 6},
		{5, 12, 13, 6},
		{0, 499, 999, 499},
		{0, 500, 999, 499},
	} {
		checkGap(t, c.a, c.b, c.steps, c.want)
		checkGap(t, c.b, c.a, c.steps, c.want)
	}
}

func TestGapAroundRejects(t *testing.T) {
	for _, steps := range noCircles() {
		for _, a := range []int{0, 1, -1, steps - 1, steps, math.MinInt64, math.MaxInt64} {
			for _, b := range []int{0, 1, -1, steps - 1, steps} {
				checkGap(t, a, b, steps, -1)
				checkGap(t, b, a, steps, -1)
			}
		}
	}
	for _, steps := range someSteps() {
		for _, out := range append(extremes(), -1, -2, -steps, steps, steps+1, 2*steps, 2*steps-1) {
			for _, in := range []int{0, steps / 2, steps - 1} {
				checkGap(t, out, in, steps, -1)
				checkGap(t, in, out, steps, -1)
			}
			checkGap(t, out, out, steps, -1)
			checkGap(t, out, -1, steps, -1)
			checkGap(t, steps, out, steps, -1)
		}
		checkGap(t, 0, steps-1, steps, min(1, steps-1))
	}
}

// TestGapAroundIsTheSameInBothDirections walks between all angles of small
// circles, and some of large ones.
func TestGapAroundIsTheSameInBothDirections(t *testing.T) {
	for _, steps := range someSteps() {
		stride := 1 + steps/40
		for a := 0; a < steps; a += stride {
			for b := 0; b < steps; b += stride {
				want := walkedGap(a, b, steps)
				checkGap(t, a, b, steps, want)
				checkGap(t, b, a, steps, want)
				// From the other side of the circle.
				checkGap(t, steps-1-a, steps-1-b, steps, want)
				// Turned by a step and by half a turn.
				checkGap(t, (a+1)%steps, (b+1)%steps, steps, want)
				checkGap(t, (a+steps/2)%steps, (b+steps/2)%steps, steps, want)
				if want > steps/2 {
					t.Errorf("GapAround(%d, %d, %d) = %d, more than half", a, b, steps, want)
				}
			}
		}
	}
}

func TestClosestPins(t *testing.T) {
	for _, c := range []struct {
		c    impl.Cylinder
		want int
	}{
		{fourPins(), 1},
		// No track has two pins.
		{drum(12, 2), 12},
		{drum(4, 1), 4},
		{drum(96, 100), 96},
		{drum(9, 7, 6, 8), 9},
		{drum(9, 7, 0, 0), 9},
		{drum(4, 1, 0, 3), 4},
		{diagonal(9, 9), 9},
		{diagonal(96, 96), 96},
		{drumWith(4, 100, 100), 4},
		{drum(12, 2, 0, 0, 1, 11), 12},
		{drum(12, 2, 0, 5, 1, 5), 12},
		// Two pins of one track.
		{onTrack(12, 0, 11), 1},
		{onTrack(12, 0, 6), 6},
		{onTrack(12, 0, 5), 5},
		{onTrack(12, 0, 7), 5},
		{onTrack(13, 0, 6), 6},
		{onTrack(13, 0, 7), 6},
		{onTrack(4, 0, 3), 1},
		{onTrack(4, 0, 2), 2},
		{onTrack(96, 0, 95), 1},
		{onTrack(96, 0, 48), 48},
		{onTrack(96, 2, 93), 5},
		{onTrack(96, 40, 45), 5},
		// The closest ones are first, in the middle, last, around the end.
		{onTrack(40, 0, 2, 10, 20), 2},
		{onTrack(40, 0, 10, 12, 22), 2},
		{onTrack(40, 0, 10, 20, 22), 2},
		{onTrack(40, 1, 10, 20, 39), 2},
		{onTrack(12, 0, 4, 8), 4},
		{onTrack(12, 1, 5, 9), 4},
		// Pins of another track between and next to them.
		{drum(12, 2, 0, 0, 1, 1, 1, 3, 0, 4), 2},
		{drum(12, 2, 0, 0, 1, 1, 0, 4, 1, 5), 4},
		{drum(12, 2, 1, 0, 0, 5, 0, 6, 1, 11), 1},
		{drum(12, 3, 0, 0, 2, 0, 1, 3, 0, 5, 2, 11), 1},
		{drumWith(96, 1, 96), 1},
		{drumWith(10, 10, 100), 1},
	} {
		checkClosest(t, c.c, c.want)
	}
	for _, c := range invalidDrums() {
		checkClosest(t, c, -1)
	}
}

func TestTooClose(t *testing.T) {
	for _, c := range []struct {
		c    impl.Cylinder
		rest int
		seam bool
		want [][]int
	}{
		{fourPins(), 1, false, nil},
		{fourPins(), 2, true, [][]int{{0, 3}}},
		{fourPins(), 5, true, [][]int{{0, 3}}},
		{fourPins(), 6, false, [][]int{{0, 3}, {1, 2}}},
		{fourPins(), 96, false, [][]int{{0, 3}, {1, 2}}},
		// Without pins of one track.
		{drum(12, 2), 1, false, nil},
		{drum(12, 2), 96, false, nil},
		{drum(9, 7, 6, 8), 96, false, nil},
		{diagonal(9, 9), 96, false, nil},
		{drumWith(4, 100, 100), 96, false, nil},
		{drum(12, 2, 0, 0, 1, 11), 96, false, nil},
		// The first and the last angle.
		{onTrack(12, 0, 11), 1, false, nil},
		{onTrack(12, 0, 11), 2, true, [][]int{{0, 1}}},
		{onTrack(12, 0, 11), 11, true, [][]int{{0, 1}}},
		{onTrack(12, 0, 11), 12, false, [][]int{{0, 1}}},
		{onTrack(4, 0, 3), 1, false, nil},
		{onTrack(4, 0, 3), 2, true, [][]int{{0, 1}}},
		{onTrack(4, 0, 3), 3, true, [][]int{{0, 1}}},
		{onTrack(4, 0, 3), 4, false, [][]int{{0, 1}}},
		{onTrack(96, 0, 95), 2, true, [][]int{{0, 1}}},
		{onTrack(96, 0, 95), 95, true, [][]int{{0, 1}}},
		{onTrack(96, 0, 95), 96, false, [][]int{{0, 1}}},
		// Exactly rest apart, and one nearer, within the turn and around it.
		{onTrack(30, 5, 10), 5, false, nil},
		{onTrack(30, 5, 9), 5, false, [][]int{{0, 1}}},
		{onTrack(30, 2, 27), 5, false, nil},
		{onTrack(30, 2, 28), 5, true, [][]int{{0, 1}}},
		{onTrack(30, 1, 27), 5, true, [][]int{{0, 1}}},
		{onTrack(30, 0, 15), 15, false, nil},
		{onTrack(30, 0, 15), 16, false, [][]int{{0, 1}}},
		{onTrack(30, 0, 16), 15, true, [][]int{{0, 1}}},
		{onTrack(30, 0, 16), 16, true, [][]int{{0, 1}}},
		{onTrack(30, 0, 16), 17, false, [][]int{{0, 1}}},
		{onTrack(96, 0, 48), 48, false, nil},
		{onTrack(96, 0, 48), 49, false, [][]int{{0, 1}}},
		// Around the end of the turn and elsewhere.
		{onTrack(30, 0, 2, 15, 29), 3, false, [][]int{{0, 1}, {0, 3}}},
		{onTrack(30, 0, 2, 15, 29), 4, false, [][]int{{0, 1}, {0, 3}, {1, 3}}},
		{onTrack(30, 0, 4, 15, 29), 4, true, [][]int{{0, 3}}},
		{onTrack(30, 0, 4, 15, 29), 6, false, [][]int{{0, 1}, {0, 3}, {1, 3}}},
		{onTrack(30, 1, 10, 20, 29), 3, true, [][]int{{0, 3}}},
		{onTrack(30, 0, 1, 15, 28, 29), 2, false, [][]int{{0, 1}, {0, 4}, {3, 4}}},
		{onTrack(30, 0, 3, 15, 26, 29), 3, true, [][]int{{0, 4}}},
		{onTrack(30, 0, 4, 15, 26, 29), 4, false, [][]int{{0, 4}, {3, 4}}},
		{drum(30, 2, 0, 0, 1, 10, 1, 12, 0, 29), 2, true, [][]int{{0, 3}}},
		{drum(30, 2, 0, 0, 1, 10, 1, 12, 0, 29), 3, false, [][]int{{0, 3}, {1, 2}}},
		// Two tracks, both only around the end.
		{drum(12, 2, 0, 0, 1, 0, 0, 11, 1, 11), 2, true, [][]int{{0, 2}, {1, 3}}},
		{drum(12, 2, 0, 0, 1, 1, 1, 10, 0, 11), 4, true, [][]int{{0, 3}, {1, 2}}},
		// Every pair of one track.
		{drumWith(4, 1, 4), 1, false, nil},
		{drumWith(4, 1, 4), 2, false, [][]int{{0, 1}, {0, 3}, {1, 2}, {2, 3}}},
		{drumWith(4, 1, 4), 3, false, [][]int{{0, 1}, {0, 2}, {0, 3}, {1, 2}, {1, 3}, {2, 3}}},
		{drumWith(4, 2, 8), 2, false, [][]int{{0, 2}, {0, 6}, {1, 3}, {1, 7}, {2, 4}, {3, 5}, {4, 6}, {5, 7}}},
	} {
		checkTooClose(t, c.c, c.rest, c.seam, c.want)
	}
}

// TestAllPairsTooClose has as many pairs as there can be.
func TestAllPairsTooClose(t *testing.T) {
	if got := len(impl.TooClose(drumWith(96, 1, 96), 96)); got != 96*95/2 {
		t.Errorf("TooClose of 96 pins on one track has %d pairs", got)
	}
	if got := len(impl.TooClose(drumWith(50, 2, 100), 96)); got != 2*50*49/2 {
		t.Errorf("TooClose of 100 pins on two tracks has %d pairs", got)
	}
}

func TestTooCloseRejects(t *testing.T) {
	for _, rest := range invalidTurnRests() {
		for _, c := range everyDrum() {
			checkNotChecked(t, c, rest)
		}
		// Its pins are too close with nearly each rest that is valid.
		checkNotChecked(t, onTrack(12, 0, 11), rest)
	}
	for _, c := range invalidDrums() {
		for _, rest := range append(invalidTurnRests(), turnRests()...) {
			checkNotChecked(t, c, rest)
		}
	}
	// Pins would be too close only around the end, but are out of order, or the
	// steps or the tracks are one too many.
	checkNotChecked(t, onTrack(12, 11, 0), 2)
	checkNotChecked(t, onTrack(97, 0, 96), 2)
	checkNotChecked(t, drum(12, 101, 0, 0, 0, 11), 2)
	// The limits of rest are accepted.
	checkTooClose(t, drum(12, 2), 1, false, nil)
	checkTooClose(t, drum(12, 2), 96, false, nil)
	checkTooClose(t, onTrack(12, 0, 11), 96, false, [][]int{{0, 1}})
}

// TestTooCloseOfManyDrums compares with walking between each two pins.
func TestTooCloseOfManyDrums(t *testing.T) {
	for _, c := range everyDrum() {
		closest := c.Steps
		for _, rest := range turnRests() {
			pairs := closePairs(c, rest)
			seam := len(pairs) > 0
			for _, pair := range pairs {
				if c.Pins[pair[1]].Angle < c.Pins[pair[0]].Angle+rest {
					seam = false
				}
			}
			checkTooClose(t, c, rest, seam, pairs)
		}
		for rest := 96; rest >= 1; rest-- {
			if len(closePairs(c, rest)) > 0 {
				closest = rest - 1
			}
		}
		checkClosest(t, c, closest)
	}
}

// TestPlayableUpToTheClosest has no pins too close just with as much rest as
// the closest ones are apart.
func TestPlayableUpToTheClosest(t *testing.T) {
	for _, c := range everyDrum() {
		closest := impl.ClosestPins(c)
		for rest := 1; rest <= 96; rest++ {
			want := rest <= closest || len(closePairs(c, 96)) == 0
			if got := impl.IsPlayable(c, rest); got != want {
				t.Errorf("IsPlayable(%v, %d) = %v, ClosestPins = %d", c, rest, got, closest)
			}
		}
	}
}

// pinPairs has the pins of pairs, each turned by a number of steps; the pin
// that comes first in a turned pair depends on the turn.
func pinPairs(t *testing.T, c impl.Cylinder, pairs [][]int, by int) map[[2]impl.Pin]bool {
	t.Helper()
	set := make(map[[2]impl.Pin]bool)
	for _, pair := range pairs {
		var two [2]impl.Pin
		for k := range two {
			p := c.Pins[pair[k]]
			p.Angle = (p.Angle + by + 4*c.Steps) % c.Steps
			two[k] = p
		}
		if two[0].Angle > two[1].Angle {
			two[0], two[1] = two[1], two[0]
		}
		set[two] = true
	}
	if len(set) != len(pairs) {
		t.Errorf("a pair is twice in %v", pairs)
	}
	return set
}

func samePairs(a map[[2]impl.Pin]bool, b map[[2]impl.Pin]bool) bool {
	for two := range a {
		if !b[two] {
			return false
		}
	}
	return len(a) == len(b)
}

// TestTurningKeepsWhatIsTooClose compares each cylinder before and after.
func TestTurningKeepsWhatIsTooClose(t *testing.T) {
	for _, c := range everyDrum() {
		for _, by := range []int{1, -1, 2, 5, c.Steps / 2, c.Steps - 1, c.Steps, c.Steps + 1, -2*c.Steps - 3} {
			turned := impl.TurnBy(c, by)
			checkClosest(t, turned, impl.ClosestPins(c))
			for _, rest := range []int{1, 2, 3, 7, 48, 96} {
				before, after := impl.TooClose(c, rest), impl.TooClose(turned, rest)
				if !samePairs(pinPairs(t, c, before, by), pinPairs(t, turned, after, 0)) {
					t.Errorf("TooClose(%v, %d) = %v, turned by %d it is %v", c, rest, before, by, after)
				}
				if impl.IsPlayable(c, rest) != impl.IsPlayable(turned, rest) {
					t.Errorf("IsPlayable(%v, %d) changes with the turn %d", c, rest, by)
				}
			}
		}
	}
}

// TestEachTurnOfTwoPins turns two pins from place to place: they are too close
// only at the seam while the end of the turn is between them.
func TestEachTurnOfTwoPins(t *testing.T) {
	for _, steps := range []int{11, 12, 96} {
		for gap := 1; gap <= 5; gap++ {
			for first := range steps {
				second, seam := first+gap, false
				if second >= steps {
					second, seam = second-steps, true
				}
				c := onTrack(steps, min(first, second), max(first, second))
				checkClosest(t, c, gap)
				checkTooClose(t, c, gap, false, nil)
				checkTooClose(t, c, gap+1, seam && steps-gap > gap, [][]int{{0, 1}})
			}
		}
	}
}

func TestQuietAngle(t *testing.T) {
	for _, c := range []struct {
		c    impl.Cylinder
		want int
	}{
		{fourPins(), 6},
		// Without pins.
		{drum(12, 2), 0},
		{drum(4, 1), 0},
		{drum(96, 100), 0},
		// One pin, or one angle with pins.
		{onTrack(12, 0), 1},
		{onTrack(12, 5), 6},
		{onTrack(12, 10), 11},
		{onTrack(12, 11), 0},
		{onTrack(4, 3), 0},
		{onTrack(96, 94), 95},
		{drum(9, 7, 0, 4, 1, 4, 3, 4, 6, 4), 5},
		{drumWith(4, 100, 100), 1},
		// The longest part is first, in the middle, last, around the end.
		{onTrack(12, 6, 8, 11), 0},
		{onTrack(12, 0, 2, 8, 10), 3},
		{onTrack(12, 0, 3, 6), 7},
		{onTrack(12, 2, 5, 8), 9},
		{onTrack(12, 3, 6, 9), 10},
		{onTrack(12, 1, 4, 7, 10), 2},
		{onTrack(12, 3, 5, 7, 10), 11},
		{onTrack(12, 5, 7, 9, 11), 0},
		{onTrack(12, 1, 3, 5, 7, 10), 8},
		// Only together are both its ends the longest part.
		{onTrack(20, 3, 6, 9, 12, 16), 17},
		{onTrack(20, 2, 8, 14, 17), 3},
		{onTrack(20, 2, 8, 14, 16), 3},
		{onTrack(20, 3, 8, 14, 16), 17},
		// Several longest parts, also around the end.
		{onTrack(12, 0, 4, 8), 1},
		{onTrack(12, 2, 6, 10), 3},
		{onTrack(12, 3, 7, 11), 0},
		{onTrack(12, 0, 3, 5, 8), 9},
		{onTrack(12, 0, 1, 6, 7), 2},
		{onTrack(12, 4, 5, 10, 11), 0},
		{onTrack(12, 3, 4, 9, 10), 5},
		{onTrack(9, 0, 2, 3, 5, 6, 8), 1},
		// Pins of all tracks count.
		{drum(12, 3, 0, 2, 1, 4, 2, 8, 0, 9), 10},
		{drum(12, 3, 0, 0, 1, 0, 2, 0, 0, 6, 2, 7), 1},
		// Each angle but one, or but two.
		{allBut(12, 0), 0},
		{allBut(12, 1), 1},
		{allBut(12, 6), 6},
		{allBut(12, 11), 11},
		{allBut(4, 3), 3},
		{allBut(96, 95), 95},
		{allBut(12, 0, 11), 11},
		{allBut(12, 0, 1), 0},
		{allBut(12, 3, 7), 3},
		{allBut(12, 3, 7, 8), 7},
		{allBut(12, 3, 4, 0, 11), 3},
		{allBut(12, 3, 4, 0, 1, 11), 11},
		// Each angle.
		{allBut(12), -1},
		{allBut(4), -1},
		{allBut(96), -1},
		{drumWith(4, 1, 4), -1},
		{drumWith(96, 1, 96), -1},
		{drumWith(10, 10, 100), -1},
		{drumWith(10, 10, 91), -1},
		{drumWith(10, 10, 90), 9},
	} {
		checkQuiet(t, c.c, c.want)
	}
	for _, c := range invalidDrums() {
		checkQuiet(t, c, -1)
	}
}

// quietPart counts the angles without pins from an angle on, up to a turn.
func quietPart(c impl.Cylinder, angle int) int {
	n := 0
	for n < c.Steps && len(impl.PinsAt(c, angle+n)) == 0 {
		n++
	}
	return n
}

// longestQuiet looks for the longest parts first.
func longestQuiet(c impl.Cylinder) (int, int) {
	for size := c.Steps; size >= 1; size-- {
		for angle := range c.Steps {
			if quietPart(c, angle) == size {
				return angle, size
			}
		}
	}
	return -1, 0
}

// TestQuietAngleOfManyDrums also turns them, which keeps the longest part.
func TestQuietAngleOfManyDrums(t *testing.T) {
	for _, c := range everyDrum() {
		if len(c.Pins) > 60 {
			c.Pins = c.Pins[:60]
		}
		want, longest := longestQuiet(c)
		checkQuiet(t, c, want)
		for _, by := range []int{1, -1, 4, c.Steps / 2} {
			turned := impl.TurnBy(c, by)
			angle := impl.QuietAngle(turned)
			if longest > 0 && (angle < 0 || quietPart(turned, angle) != longest) {
				t.Errorf("QuietAngle(%v) = %d, the longest part has %d", turned, angle, longest)
			}
		}
	}
}

// TestQuietAngleOfAllSmallDrums tries all sets of angles of some circles.
func TestQuietAngleOfAllSmallDrums(t *testing.T) {
	for steps := 4; steps <= 9; steps++ {
		for set := range 1 << steps {
			var angles []int
			for angle := range steps {
				if set>>angle&1 == 1 {
					angles = append(angles, angle)
				}
			}
			c := onTrack(steps, angles...)
			want, _ := longestQuiet(c)
			checkQuiet(t, c, want)
		}
	}
}

// TestSeamKeepsItsArgument looks for changes, also behind the end.
func TestSeamKeepsItsArgument(t *testing.T) {
	backing := drum(12, 3, 0, 0, 1, 0, 1, 5, 0, 11, 2, 2, 1, 1)
	before := copyOfDrum(backing)
	part := backing
	part.Pins = backing.Pins[:4]
	for range 3 {
		checkClosest(t, part, 1)
		checkQuiet(t, part, 6)
		checkTooClose(t, part, 6, false, [][]int{{0, 3}, {1, 2}})
		checkTooClose(t, part, 2, true, [][]int{{0, 3}})
	}
	if !sameDrum(backing, before) || len(part.Pins) != 4 {
		t.Errorf("the argument changed to %v", backing)
	}
}

// TestPairsAreNew spoils each pair, also behind its end, before the others are
// compared.
func TestPairsAreNew(t *testing.T) {
	c := drumWith(4, 2, 8)
	want := closePairs(c, 3)
	for spoiled := range want {
		pairs := impl.TooClose(c, 3)
		if !pairsEqual(pairs, want) {
			t.Fatalf("TooClose(%v, 3) = %v, want %v", c, pairs, want)
		}
		_ = append(pairs[spoiled], 77, 78)
		pairs[spoiled][0], pairs[spoiled][1] = 79, 80
		for k := range pairs {
			if k != spoiled && !slices.Equal(pairs[k], want[k]) {
				t.Errorf("pair %d shares memory with pair %d", k, spoiled)
			}
		}
	}
}

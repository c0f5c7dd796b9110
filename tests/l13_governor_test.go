package tests

import (
	"math/rand"
	"runtime"
	"slices"
	"sync"
	"testing"
	"time"

	"loop.example/g03309/impl"
)

// Promise 13: A steady speed stays, and more force is never slower.

const fastest = 100000

// notSpeeds has speeds outside their range.
func notSpeeds() []int {
	return append(extremes(), -1, 100001, -2, -100, -100000, 100002, 110000, 200000)
}

func notForces() []int {
	return append(extremes(), -1, 10001, -2, -10000, 10002, 20000)
}

func notBrakes() []int {
	return append(extremes(), -1, 101, -2, -100, 102, 200)
}

func notStepCounts() []int {
	return append(extremes(), -1, 1001, -2, -1000, 1002, 2000)
}

func notPercents() []int {
	return append(extremes(), -1, 101, -2, -100, 102, 200)
}

// someSpeeds has least and greatest ones, and some beside those of which a brake
// takes a whole.
func someSpeeds() []int {
	return []int{0, 1, 2, 9, 10, 11, 49, 50, 51, 99, 100, 101, 999, 1000, 1001, 9973, 50000, 77777, 99899, 99900,
		99901, 99990, 99999, 100000}
}

func governorForces() []int {
	return []int{0, 1, 2, 9, 10, 11, 99, 100, 101, 997, 1000, 1001, 4999, 5000, 9000, 9999, 10000}
}

func someBrakes() []int {
	return []int{0, 1, 2, 3, 7, 9, 10, 11, 33, 49, 50, 51, 90, 98, 99, 100}
}

// eachGovernor calls with some speeds, forces and brakes.
func eachGovernor(call func(speed int, force int, brake int)) {
	for _, speed := range someSpeeds() {
		for _, force := range governorForces() {
			for _, brake := range someBrakes() {
				call(speed, force, brake)
			}
		}
	}
}

// brakedBy is the whole part of what a brake takes.
func brakedBy(speed int, brake int) int {
	return wholePart(fraction(brake*speed, 100))
}

// walk has the speeds before and after each step.
func walk(speed int, force int, brake int, steps int) []int {
	speeds := []int{speed}
	for range steps {
		speed = min(speed+force-brakedBy(speed, brake), fastest)
		speeds = append(speeds, speed)
	}
	return speeds
}

// stays reports whether what the brake takes is just the force.
func stays(speed int, force int, brake int) bool {
	return brakedBy(speed, brake) == force
}

// firstStay is the place of the first speed that stays, and -1 if none does.
func firstStay(speeds []int, force int, brake int) int {
	return slices.IndexFunc(speeds, func(speed int) bool { return stays(speed, force, brake) })
}

func checkNextSpeed(t *testing.T, speed int, force int, brake int, want int) {
	t.Helper()
	if got := impl.NextSpeed(speed, force, brake); got != want {
		t.Errorf("NextSpeed(%d, %d, %d) = %d, want %d", speed, force, brake, got, want)
	}
}

func checkSpeedAfter(t *testing.T, speed int, force int, brake int, steps int, want int) {
	t.Helper()
	if got := impl.SpeedAfter(speed, force, brake, steps); got != want {
		t.Errorf("SpeedAfter(%d, %d, %d, %d) = %d, want %d", speed, force, brake, steps, got, want)
	}
}

func checkSteady(t *testing.T, force int, brake int, want int) {
	t.Helper()
	if got := impl.SteadySpeed(force, brake); got != want {
		t.Errorf("SteadySpeed(%d, %d) = %d, want %d", force, brake, got, want)
	}
}

func checkUntilSteady(t *testing.T, speed int, force int, brake int, want int) {
	t.Helper()
	if got := impl.StepsUntilSteady(speed, force, brake); got != want {
		t.Errorf("StepsUntilSteady(%d, %d, %d) = %d, want %d", speed, force, brake, got, want)
	}
}

func checkEven(t *testing.T, speeds []int, percent int, want bool) {
	t.Helper()
	if got := impl.IsEven(speeds, percent); got != want {
		t.Errorf("IsEven(%v, %d) = %v, want %v", speeds, percent, got, want)
	}
}

// checkNotGoverned has a number that is not in its range.
func checkNotGoverned(t *testing.T, speed int, force int, brake int) {
	t.Helper()
	checkNextSpeed(t, speed, force, brake, -1)
	for _, steps := range []int{0, 1, 7, 1000, -1, 1001} {
		checkSpeedAfter(t, speed, force, brake, steps, -1)
	}
	checkUntilSteady(t, speed, force, brake, -1)
}

func TestNextSpeed(t *testing.T) {
	for _, c := range []struct{ speed, force, brake, want int }{
		{100, 10, 10, 100},
		{200, 10, 10, 190},
		{0, 10, 10, 10},
		// What the brake takes is rounded down, and not the speed that is left.
		{55, 10, 10, 60},
		{59, 10, 10, 64},
		{60, 10, 10, 64},
		{61, 10, 10, 65},
		{199, 0, 1, 198},
		{3, 0, 33, 3},
		{4, 0, 33, 3},
		{100000, 0, 33, 67000},
		{99999, 0, 33, 67000},
		// No force: speeds from which the brake takes something, and too small ones.
		{0, 0, 0, 0},
		{0, 0, 10, 0},
		{0, 0, 100, 0},
		{9, 0, 10, 9},
		{10, 0, 10, 9},
		{1, 0, 99, 1},
		{1, 0, 100, 0},
		{2, 0, 50, 1},
		{1, 0, 50, 1},
		{99, 0, 1, 99},
		{100, 0, 1, 99},
		// No brake: a speed stays only without force.
		{55, 0, 0, 55},
		{55, 1, 0, 56},
		{0, 10000, 0, 10000},
		{100000, 0, 0, 100000},
		// The greatest brake leaves just the force.
		{55, 10, 100, 10},
		{0, 10, 100, 10},
		{55, 0, 100, 0},
		{100000, 0, 100, 0},
		{100000, 10000, 100, 10000},
		{99999, 0, 99, 1000},
		// The greatest speed, and above it.
		{100000, 0, 1, 99000},
		{100000, 1000, 1, 100000},
		{100000, 1001, 1, 100001},
		{100000, 10000, 10, 100000},
		{100000, 10, 0, 100010},
		{100000, 10000, 0, 110000},
		{99999, 1, 0, 100000},
		{99999, 2, 0, 100001},
		{90000, 10000, 0, 100000},
		{90001, 10000, 0, 100001},
	} {
		checkNextSpeed(t, c.speed, c.force, c.brake, c.want)
	}
}

func TestNextSpeedOfManySpeeds(t *testing.T) {
	eachGovernor(func(speed int, force int, brake int) {
		checkNextSpeed(t, speed, force, brake, speed+force-brakedBy(speed, brake))
	})
	for speed := range fastest + 1 {
		checkNextSpeed(t, speed, 0, 0, speed)
		checkNextSpeed(t, speed, 10000, 100, 10000)
		checkNextSpeed(t, speed, 7, 10, 7+speed-speed/10)
	}
}

// TestNoSpeedFallsBelow0 has the brakes that take the most.
func TestNoSpeedFallsBelow0(t *testing.T) {
	for speed := range fastest + 1 {
		for brake := 97; brake <= 100; brake++ {
			if next := impl.NextSpeed(speed, 0, brake); next < 0 || next > speed {
				t.Fatalf("NextSpeed(%d, 0, %d) = %d", speed, brake, next)
			}
		}
		checkNextSpeed(t, speed, 0, 100, 0)
	}
}

func TestSpeedsForcesAndBrakesOutOfRange(t *testing.T) {
	for _, speed := range notSpeeds() {
		for _, force := range governorForces() {
			for _, brake := range someBrakes() {
				checkNotGoverned(t, speed, force, brake)
			}
		}
	}
	for _, force := range notForces() {
		for _, brake := range someBrakes() {
			for _, speed := range someSpeeds() {
				checkNotGoverned(t, speed, force, brake)
			}
			checkSteady(t, force, brake, -1)
		}
	}
	for _, brake := range notBrakes() {
		for _, force := range governorForces() {
			for _, speed := range someSpeeds() {
				checkNotGoverned(t, speed, force, brake)
			}
			checkSteady(t, force, brake, -1)
		}
	}
	for _, n := range append(extremes(), -1, 100001) {
		checkNotGoverned(t, n, n, n)
		checkSteady(t, n, n, -1)
	}
}

// TestNoBrakeIsNeverSteady has brakes of 0, which are valid for NextSpeed and
// SpeedAfter alone.
func TestNoBrakeIsNeverSteady(t *testing.T) {
	for _, force := range governorForces() {
		checkSteady(t, force, 0, -1)
		for _, speed := range someSpeeds() {
			checkUntilSteady(t, speed, force, 0, -1)
			checkNextSpeed(t, speed, force, 0, speed+force)
			checkSpeedAfter(t, speed, force, 0, 1000, min(speed+1000*force, fastest))
		}
	}
}

func TestSpeedAfter(t *testing.T) {
	for _, c := range []struct{ speed, force, brake, steps, want int }{
		{0, 10, 10, 2, 19},
		{0, 10, 10, 3, 28},
		{95, 10, 10, 4, 99},
		{95, 10, 10, 5, 100},
		{95, 10, 10, 6, 100},
		// No steps, also with a speed that would rise above the greatest one.
		{0, 10, 10, 0, 0},
		{55, 10, 10, 0, 55},
		{100000, 10, 0, 0, 100000},
		// One step.
		{0, 10, 10, 1, 10},
		{55, 10, 10, 1, 60},
		{100, 10, 10, 1, 100},
		// 1000 steps.
		{0, 10, 10, 1000, 100},
		{0, 1, 0, 999, 999},
		{0, 1, 0, 1000, 1000},
		{0, 100, 0, 1000, 100000},
		{0, 99, 0, 1000, 99000},
		// No force.
		{0, 0, 10, 1000, 0},
		{55, 0, 0, 1000, 55},
		{9, 0, 10, 1000, 9},
		{11, 0, 10, 1, 10},
		{11, 0, 10, 2, 9},
		{11, 0, 10, 3, 9},
		{55, 0, 100, 1, 0},
		{100000, 0, 10, 1000, 9},
		{100000, 0, 1, 744, 100},
		{100000, 0, 1, 745, 99},
		{100000, 0, 1, 1000, 99},
		// The greatest brake.
		{55, 10, 100, 1, 10},
		{55, 10, 100, 1000, 10},
		// The greatest speed, and what would rise above it.
		{100000, 10, 0, 1, 100000},
		{100000, 10, 0, 1000, 100000},
		{100000, 10000, 9, 1000, 100000},
		{99999, 1, 0, 1, 100000},
		{99999, 2, 0, 1, 100000},
		{99999, 2, 0, 2, 100000},
		{0, 10000, 0, 9, 90000},
		{0, 10000, 0, 10, 100000},
		{0, 10000, 0, 11, 100000},
		{100000, 1000, 1, 1000, 100000},
		{100000, 999, 1, 1, 99999},
	} {
		checkSpeedAfter(t, c.speed, c.force, c.brake, c.steps, c.want)
	}
}

// TestSpeedAfterEachStep goes through the same steps.
func TestSpeedAfterEachStep(t *testing.T) {
	for _, c := range [][]int{{0, 10, 10}, {55, 10, 10}, {0, 1, 0}, {100000, 0, 1}, {0, 1000, 1}, {100000, 10000, 9},
		{0, 9999, 9}, {95, 10, 0}, {77777, 3, 100}, {1, 0, 1}} {
		for steps, speed := range walk(c[0], c[1], c[2], 1000) {
			checkSpeedAfter(t, c[0], c[1], c[2], steps, speed)
		}
	}
	eachGovernor(func(speed int, force int, brake int) {
		speeds := walk(speed, force, brake, 30)
		for _, steps := range []int{0, 1, 2, 3, 12, 30} {
			checkSpeedAfter(t, speed, force, brake, steps, speeds[steps])
		}
	})
}

// TestStepsFollowEachOther makes some steps at once, and the same steps in two
// parts.
func TestStepsFollowEachOther(t *testing.T) {
	eachGovernor(func(speed int, force int, brake int) {
		if next := impl.NextSpeed(speed, force, brake); next <= fastest {
			checkSpeedAfter(t, speed, force, brake, 1, next)
		}
		for _, steps := range []int{0, 1, 5} {
			before := impl.SpeedAfter(speed, force, brake, steps)
			checkSpeedAfter(t, before, force, brake, 4, impl.SpeedAfter(speed, force, brake, steps+4))
		}
	})
}

func TestStepsOutOfRange(t *testing.T) {
	for _, steps := range notStepCounts() {
		for _, c := range [][]int{{0, 0, 0}, {55, 10, 10}, {100, 10, 10}, {100000, 10000, 0}, {100000, 0, 100}} {
			checkSpeedAfter(t, c[0], c[1], c[2], steps, -1)
		}
	}
}

func TestSteadySpeed(t *testing.T) {
	for _, c := range []struct{ force, brake, want int }{
		// The least of several ones: those from 100 to 109, from 0 to 9 and so on.
		{10, 10, 100},
		{0, 10, 0},
		{1, 1, 100},
		{10, 1, 1000},
		{1, 50, 2},
		// No force.
		{0, 1, 0},
		{0, 100, 0},
		// Rounded up.
		{1, 3, 34},
		{2, 3, 67},
		{1, 99, 2},
		{99, 99, 100},
		{98, 99, 99},
		{10000, 99, 10102},
		{1, 7, 15},
		// The greatest brake.
		{1, 100, 1},
		{10, 100, 10},
		{10000, 100, 10000},
		// The greatest speed, and none up to it.
		{1000, 1, 100000},
		{999, 1, 99900},
		{1001, 1, -1},
		{10000, 1, -1},
		{2000, 2, 100000},
		{2001, 2, -1},
		{3000, 3, 100000},
		{2999, 3, 99967},
		{3001, 3, -1},
		{9000, 9, 100000},
		{9001, 9, -1},
		{10000, 9, -1},
		{10000, 10, 100000},
		{9999, 10, 99990},
		{10000, 11, 90910},
	} {
		checkSteady(t, c.force, c.brake, c.want)
	}
}

// TestSteadySpeedStays has each force and brake, and each is compared with its
// next speed.
func TestSteadySpeedStays(t *testing.T) {
	for brake := 1; brake <= 100; brake++ {
		for force := range 10001 {
			speed := impl.SteadySpeed(force, brake)
			// The brake takes the most from the greatest speed.
			if never := brake*fastest/100 < force; never != (speed == -1) {
				t.Fatalf("SteadySpeed(%d, %d) = %d", force, brake, speed)
			}
			if speed == -1 {
				continue
			}
			if next := impl.NextSpeed(speed, force, brake); next != speed {
				t.Fatalf("SteadySpeed(%d, %d) = %d, and its next speed is %d", force, brake, speed, next)
			}
			// What the brake takes never falls, so that the one before tells for all.
			if speed > 0 && impl.NextSpeed(speed-1, force, brake) == speed-1 {
				t.Fatalf("SteadySpeed(%d, %d) = %d, and %d stays", force, brake, speed, speed-1)
			}
		}
	}
}

// TestNoLessSpeedIsSteady tries each speed.
func TestNoLessSpeedIsSteady(t *testing.T) {
	for _, brake := range []int{1, 3, 9, 10, 50, 99, 100} {
		for _, force := range []int{0, 1, 10, 997, 1000, 1001, 9999, 10000} {
			want := -1
			for speed := fastest; speed >= 0; speed-- {
				if impl.NextSpeed(speed, force, brake) == speed {
					want = speed
				}
			}
			checkSteady(t, force, brake, want)
		}
	}
}

// TestSteadySpeedStaysForAllSteps makes steps from it, and none is needed.
func TestSteadySpeedStaysForAllSteps(t *testing.T) {
	for _, brake := range someBrakes() {
		for _, force := range governorForces() {
			speed := impl.SteadySpeed(force, brake)
			if speed == -1 {
				continue
			}
			for _, steps := range []int{0, 1, 2, 1000} {
				checkSpeedAfter(t, speed, force, brake, steps, speed)
			}
			checkUntilSteady(t, speed, force, brake, 0)
			if speed > 0 && impl.StepsUntilSteady(speed-1, force, brake) < 1 {
				t.Errorf("%d stays with %d and %d, less than the least steady speed", speed-1, force, brake)
			}
		}
	}
}

func TestStepsUntilSteady(t *testing.T) {
	for _, c := range []struct{ speed, force, brake, want int }{
		{95, 10, 10, 5},
		{0, 10, 1, 292},
		// At once, also at a speed that is not the least one.
		{100, 10, 10, 0},
		{109, 10, 10, 0},
		{0, 0, 1, 0},
		{0, 0, 100, 0},
		{9, 0, 10, 0},
		{99, 0, 1, 0},
		{100000, 1000, 1, 0},
		{100000, 10000, 10, 0},
		{10000, 10000, 100, 0},
		// After one step.
		{99, 10, 10, 1},
		{110, 10, 10, 1},
		{10, 0, 10, 1},
		{1, 0, 100, 1},
		{100000, 0, 100, 1},
		{0, 10000, 100, 1},
		{99999, 1000, 1, 1},
		{99999, 10000, 10, 1},
		// After two.
		{98, 10, 10, 2},
		{111, 10, 10, 2},
		{11, 0, 10, 2},
		// As many steps as there can be, and one less.
		{100000, 0, 1, 745},
		{99000, 0, 1, 744},
		// Not within 1000 steps: the greatest speed would rise.
		{0, 1001, 1, -1},
		{100000, 1001, 1, -1},
		{99999, 1001, 1, -1},
		{0, 10000, 9, -1},
		{100000, 10000, 9, -1},
		{100000, 10000, 1, -1},
		{100000, 9001, 9, -1},
		{50000, 9001, 9, -1},
	} {
		checkUntilSteady(t, c.speed, c.force, c.brake, c.want)
	}
}

// TestFirstSteadySpeed goes through the same steps.
func TestFirstSteadySpeed(t *testing.T) {
	for _, speed := range []int{0, 1, 100, 9973, 99999, 100000} {
		for _, force := range []int{0, 1, 10, 997, 1001, 9999, 10000} {
			for _, brake := range []int{1, 2, 7, 9, 10, 50, 99, 100} {
				checkUntilSteady(t, speed, force, brake, firstStay(walk(speed, force, brake, 1000), force, brake))
			}
		}
	}
}

// TestSpeedIsSteadyAfterItsSteps looks at the speeds before and after.
func TestSpeedIsSteadyAfterItsSteps(t *testing.T) {
	eachGovernor(func(speed int, force int, brake int) {
		steps := impl.StepsUntilSteady(speed, force, brake)
		if brake == 0 {
			return
		}
		if (steps == -1) != (impl.SteadySpeed(force, brake) == -1) || steps > 745 {
			t.Errorf("StepsUntilSteady(%d, %d, %d) = %d", speed, force, brake, steps)
		}
		if steps == -1 {
			return
		}
		after := impl.SpeedAfter(speed, force, brake, steps)
		checkNextSpeed(t, after, force, brake, after)
		checkSpeedAfter(t, speed, force, brake, 1000, after)
		for before := max(steps-3, 0); before < steps; before++ {
			if s := impl.SpeedAfter(speed, force, brake, before); impl.NextSpeed(s, force, brake) == s {
				t.Errorf("%d with %d and %d stays after %d steps, not only after %d", speed, force, brake, before, steps)
			}
		}
	})
}

// TestMoreForceIsNeverSlower compares each force with the one before. The next
// speed is just as much greater.
func TestMoreForceIsNeverSlower(t *testing.T) {
	for _, speed := range someSpeeds() {
		for _, brake := range someBrakes() {
			for force := 1; force <= 10000; force++ {
				slow, fast := impl.NextSpeed(speed, force-1, brake), impl.NextSpeed(speed, force, brake)
				if fast != slow+1 {
					t.Fatalf("NextSpeed(%d, %d, %d) = %d, and %d with one more", speed, force-1, brake, slow, fast)
				}
			}
		}
	}
	for brake := 1; brake <= 100; brake++ {
		for force := 1; force <= 10000; force++ {
			slow, fast := impl.SteadySpeed(force-1, brake), impl.SteadySpeed(force, brake)
			if fast != -1 && (slow == -1 || fast <= slow) {
				t.Fatalf("SteadySpeed(%d, %d) = %d, and %d with one more", force-1, brake, slow, fast)
			}
		}
	}
}

// TestMoreForceIsNeverSlowerAfterSteps compares forces that follow each other,
// and speeds.
func TestMoreForceIsNeverSlowerAfterSteps(t *testing.T) {
	for _, brake := range someBrakes() {
		for _, steps := range []int{0, 1, 2, 10, 100} {
			for _, speed := range someSpeeds() {
				last := 0
				for _, force := range governorForces() {
					after := impl.SpeedAfter(speed, force, brake, steps)
					if after < last || after > fastest {
						t.Errorf("SpeedAfter(%d, %d, %d, %d) = %d, and %d with less force", speed, force, brake, steps, after, last)
					}
					last = after
				}
			}
			for _, force := range governorForces() {
				last := 0
				for _, speed := range someSpeeds() {
					after := impl.SpeedAfter(speed, force, brake, steps)
					if after < last {
						t.Errorf("SpeedAfter(%d, %d, %d, %d) = %d, and %d from less", speed, force, brake, steps, after, last)
					}
					last = after
				}
			}
		}
	}
}

// TestMoreBrakeIsNeverFaster compares brakes that follow each other.
func TestMoreBrakeIsNeverFaster(t *testing.T) {
	for _, speed := range someSpeeds() {
		for _, force := range governorForces() {
			for brake := 1; brake <= 100; brake++ {
				if impl.NextSpeed(speed, force, brake) > impl.NextSpeed(speed, force, brake-1) {
					t.Errorf("NextSpeed(%d, %d, %d) is greater than with one less", speed, force, brake)
				}
			}
		}
	}
}

// equalSpeeds has n speeds.
func equalSpeeds(n int, speed int) []int {
	return slices.Repeat([]int{speed}, n)
}

func TestIsEven(t *testing.T) {
	for _, c := range []struct {
		speeds  []int
		percent int
		want    bool
	}{
		// Just even, and just not.
		{[]int{100, 110}, 10, true},
		{[]int{100, 111}, 10, false},
		{[]int{110, 100}, 10, true},
		{[]int{111, 100}, 10, false},
		{[]int{100, 110}, 9, false},
		{[]int{105, 100, 110, 107}, 10, true},
		{[]int{105, 111, 100, 107}, 10, false},
		{[]int{110, 99, 105}, 10, false},
		{[]int{3, 4}, 33, false},
		{[]int{3, 4}, 34, true},
		{[]int{7, 8}, 14, false},
		{[]int{7, 8}, 15, true},
		// The percent is one of the least speed, and not of the greatest one.
		{[]int{90, 100}, 10, false},
		{[]int{91, 100}, 10, true},
		// Not only neighbours are compared.
		{[]int{100, 109, 118}, 10, false},
		{[]int{100, 109, 100, 109}, 10, true},
		// One speed.
		{[]int{0}, 0, true},
		{[]int{1}, 0, true},
		{[]int{55}, 100, true},
		{[]int{100000}, 0, true},
		{[]int{100000}, 100, true},
		// Speeds of 0.
		{[]int{0, 0}, 0, true},
		{[]int{0, 0, 0}, 100, true},
		{[]int{0, 1}, 100, false},
		{[]int{1, 0}, 100, false},
		{[]int{100000, 0}, 100, false},
		// A percent of 0.
		{[]int{100, 100}, 0, true},
		{[]int{100, 101}, 0, false},
		{[]int{100000, 99999}, 0, false},
		{[]int{100000, 99999}, 1, true},
		// A percent of 100.
		{[]int{50, 100}, 100, true},
		{[]int{50, 101}, 100, false},
		{[]int{49, 99}, 100, false},
		{[]int{50000, 100000}, 100, true},
		{[]int{49999, 100000}, 100, false},
		{[]int{100000, 50000}, 99, false},
		{[]int{1, 2}, 100, true},
		{[]int{1, 2}, 99, false},
		// 100 speeds, with the greatest or the least one anywhere.
		{equalSpeeds(100, 100), 0, true},
		{append(equalSpeeds(99, 100), 110), 10, true},
		{append(equalSpeeds(99, 100), 111), 10, false},
		{append([]int{111}, equalSpeeds(99, 100)...), 10, false},
		{append(equalSpeeds(99, 110), 99), 10, false},
		{append(equalSpeeds(50, 110), append([]int{100}, equalSpeeds(49, 110)...)...), 10, true},
	} {
		checkEven(t, c.speeds, c.percent, c.want)
	}
}

func TestInvalidSpeedsAreNotEven(t *testing.T) {
	for percent := range 101 {
		checkEven(t, nil, percent, false)
		checkEven(t, []int{}, percent, false)
		checkEven(t, equalSpeeds(101, 100), percent, false)
		checkEven(t, equalSpeeds(101, 0), percent, false)
		checkEven(t, equalSpeeds(200, 100), percent, false)
		for _, speed := range notSpeeds() {
			checkEven(t, []int{speed}, percent, false)
			checkEven(t, []int{speed, speed}, percent, false)
			checkEven(t, []int{100000, speed}, percent, false)
			checkEven(t, []int{speed, 100000, 100000}, percent, false)
			checkEven(t, []int{0, speed, 0}, percent, false)
		}
		// Both are below 0, where the greatest times 100 is less.
		checkEven(t, []int{-200, -100}, percent, false)
		checkEven(t, []int{100001, 100000}, percent, false)
	}
	for _, percent := range notPercents() {
		checkEven(t, []int{100}, percent, false)
		checkEven(t, []int{0, 0}, percent, false)
		checkEven(t, []int{100, 101}, percent, false)
		checkEven(t, []int{100000, 1}, percent, false)
		checkEven(t, nil, percent, false)
	}
}

// TestEvenSpeedsOfAllPairs has the greatest speed that is even with each one.
func TestEvenSpeedsOfAllPairs(t *testing.T) {
	for percent := range 101 {
		for _, least := range someSpeeds() {
			most := least + wholePart(fraction(least*percent, 100))
			for _, speed := range []int{least, most} {
				checkEven(t, []int{least, speed}, percent, speed <= fastest)
				checkEven(t, []int{speed, least, least}, percent, speed <= fastest)
			}
			checkEven(t, []int{least, most + 1}, percent, false)
			checkEven(t, []int{most + 1, least, most}, percent, false)
		}
	}
}

// TestEvenInEveryOrder mixes the speeds.
func TestEvenInEveryOrder(t *testing.T) {
	r := rand.New(rand.NewSource(13))
	for range 2000 {
		speeds := make([]int, 1+r.Intn(100))
		for k := range speeds {
			speeds[k] = 1000 + r.Intn(300)
		}
		percent := r.Intn(40)
		limit := fraction(slices.Min(speeds)*(100+percent), 100)
		want := fraction(slices.Max(speeds), 1).Cmp(limit) <= 0
		checkEven(t, speeds, percent, want)
		r.Shuffle(len(speeds), func(i int, k int) { speeds[i], speeds[k] = speeds[k], speeds[i] })
		checkEven(t, speeds, percent, want)
	}
}

func TestIsEvenKeepsItsSpeeds(t *testing.T) {
	backing := []int{105, 100, 110, 107, 1, 2, 3}
	before := slices.Clone(backing)
	checkEven(t, backing[:4], 10, true)
	if !slices.Equal(backing, before) {
		t.Errorf("IsEven changed its speeds to %v", backing)
	}
}

// TestSpeedsEndWithTheCall has speeds that are steady at once, later and never,
// and none of the calls leaves a goroutine waiting.
func TestSpeedsEndWithTheCall(t *testing.T) {
	before := runtime.NumGoroutine()
	for range 200 {
		for _, speed := range []int{0, 95, 100, 100000} {
			impl.SpeedAfter(speed, 10, 10, 0)
			impl.SpeedAfter(speed, 10, 10, 300)
			impl.SpeedAfter(speed, 10, 0, 20)
			impl.SpeedAfter(-1, 10, 0, 20)
			impl.StepsUntilSteady(speed, 10, 10)
			impl.StepsUntilSteady(speed, 10, 0)
		}
		impl.StepsUntilSteady(0, 10000, 1)
	}
	// A goroutine that has nothing more to do may still be on its way out.
	for range 100 {
		if runtime.NumGoroutine() <= before {
			return
		}
		time.Sleep(10 * time.Millisecond)
	}
	t.Errorf("%d goroutines are left, and %d were there before", runtime.NumGoroutine(), before)
}

// TestSpeedsOfCallsAtTheSameTime shows that no call disturbs another one.
func TestSpeedsOfCallsAtTheSameTime(t *testing.T) {
	var calls sync.WaitGroup
	for k := range 8 {
		calls.Go(func() {
			for speed := k; speed < 600; speed += 8 {
				speeds := walk(speed, 10, 3, 60)
				checkSpeedAfter(t, speed, 10, 3, 60, speeds[60])
				checkUntilSteady(t, speed, 10, 10, firstStay(walk(speed, 10, 10, 100), 10, 10))
			}
		})
	}
	calls.Wait()
}

// TestGovernorsAreTheSameAgain asks in both directions, so that no call depends
// on the one before.
func TestGovernorsAreTheSameAgain(t *testing.T) {
	type governor struct{ speed, force, brake int }
	var governors []governor
	for _, speed := range []int{-1, 0, 95, 100, 99999, 100000, 100001} {
		for _, force := range []int{-1, 0, 10, 9999, 10000, 10001} {
			for _, brake := range []int{-1, 0, 1, 10, 100, 101} {
				governors = append(governors, governor{speed, force, brake})
			}
		}
	}
	ask := func(g governor) [5]int {
		even := 0
		if impl.IsEven([]int{g.speed, g.force}, g.brake) {
			even = 1
		}
		return [5]int{impl.NextSpeed(g.speed, g.force, g.brake), impl.SpeedAfter(g.speed, g.force, g.brake, 7),
			impl.SteadySpeed(g.force, g.brake), impl.StepsUntilSteady(g.speed, g.force, g.brake), even}
	}
	first := make([][5]int, len(governors))
	for k, g := range governors {
		first[k] = ask(g)
	}
	for k := len(governors) - 1; k >= 0; k-- {
		if again := ask(governors[k]); again != first[k] {
			t.Errorf("%v gives %v, and %v before", governors[k], again, first[k])
		}
	}
}

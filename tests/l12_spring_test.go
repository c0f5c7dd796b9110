package tests

import (
	"testing"

	"loop.example/g03309/impl"
)

// Promise 12: What is wound up can be unwound, and the force never grows as it is
// used.

// spring has turns left of at most most.
func spring(turns int, most int, force int) impl.Spring {
	return impl.Spring{Turns: turns, Most: most, Force: force}
}

// springsOf has the spring with each number of turns left.
func springsOf(most int, force int) []impl.Spring {
	var springs []impl.Spring
	for turns := range most + 1 {
		springs = append(springs, spring(turns, most, force))
	}
	return springs
}

// someForces has least and greatest ones, and some that most numbers of turns do
// not divide.
func someForces() []int {
	return []int{1, 2, 7, 24, 25, 26, 49, 50, 51, 97, 100, 997, 2520, 5000, 9973, 9999, 10000}
}

// allSprings has every valid number of turns.
func allSprings(force int) []impl.Spring {
	var springs []impl.Spring
	for most := 1; most <= 50; most++ {
		springs = append(springs, springsOf(most, force)...)
	}
	return springs
}

// manySprings has each of allSprings with some forces.
func manySprings() []impl.Spring {
	var springs []impl.Spring
	for _, force := range someForces() {
		springs = append(springs, allSprings(force)...)
	}
	return springs
}

// invalidSprings has one number of each that is not in its range, and some with
// more of them.
func invalidSprings() []impl.Spring {
	springs := []impl.Spring{{}, spring(-1, 0, 0), spring(51, 51, 10001), spring(-1, -1, -1), spring(1, 0, 100),
		spring(-1, -1, 100), spring(51, 51, 100), spring(50, 51, 100), spring(1, 51, 100), spring(0, 51, 100)}
	for _, most := range append(extremes(), 0, -1, 51, -50, 52, 100) {
		springs = append(springs, spring(0, most, 100), spring(1, most, 100), spring(most, most, 100))
	}
	for _, s := range []impl.Spring{spring(0, 1, 1), spring(6, 10, 55), spring(50, 50, 10000)} {
		for _, turns := range append(extremes(), -1, s.Most+1, -2, -s.Most, s.Most+2, 51, 100) {
			springs = append(springs, spring(turns, s.Most, s.Force))
		}
		for _, force := range append(extremes(), 0, -1, 10001, -10000, 10002, 20000) {
			springs = append(springs, spring(s.Turns, s.Most, force))
		}
	}
	return springs
}

// notTurnsAtOnce has turns by which no spring is wound or unwound.
func notTurnsAtOnce() []int {
	return append(extremes(), -1, 101, -2, -100, 102, 200, 10000)
}

// notNeeds has forces that nothing needs.
func notNeeds() []int {
	return append(extremes(), -1, 10001, -2, -10000, 10002, 20000)
}

// forceOf is the whole part of the force of the turns left.
func forceOf(s impl.Spring) int {
	return wholePart(fraction(s.Force*s.Turns, s.Most))
}

// leastTurnsFor is the least number of turns with which the force is enough; it
// may be greater than the spring's.
func leastTurnsFor(s impl.Spring, need int) int {
	for turns := 1; ; turns++ {
		if s.Force*turns >= need*s.Most {
			return turns
		}
	}
}

func checkSpring(t *testing.T, s impl.Spring) {
	t.Helper()
	if !impl.SpringOk(s) {
		t.Errorf("SpringOk(%v) = false, want true", s)
	}
}

func checkForce(t *testing.T, s impl.Spring, want int) {
	t.Helper()
	if got := impl.ForceNow(s); got != want {
		t.Errorf("ForceNow(%v) = %d, want %d", s, got, want)
	}
}

func checkWind(t *testing.T, s impl.Spring, turns int, want int) impl.Spring {
	t.Helper()
	got, wound := impl.Wind(s, turns)
	if full := spring(s.Turns+want, s.Most, s.Force); got != full || wound != want {
		t.Errorf("Wind(%v, %d) = %v, %d, want %v, %d", s, turns, got, wound, full, want)
	}
	return got
}

func checkUnwind(t *testing.T, s impl.Spring, turns int, want int) impl.Spring {
	t.Helper()
	got, unwound := impl.Unwind(s, turns)
	if rest := spring(s.Turns-want, s.Most, s.Force); got != rest || unwound != want {
		t.Errorf("Unwind(%v, %d) = %v, %d, want %v, %d", s, turns, got, unwound, rest, want)
	}
	return got
}

// checkNoTurns has a spring or turns that are not valid.
func checkNoTurns(t *testing.T, s impl.Spring, turns int) {
	t.Helper()
	if got, wound := impl.Wind(s, turns); got != s || wound != -1 {
		t.Errorf("Wind(%v, %d) = %v, %d, want it unchanged, -1", s, turns, got, wound)
	}
	if got, unwound := impl.Unwind(s, turns); got != s || unwound != -1 {
		t.Errorf("Unwind(%v, %d) = %v, %d, want it unchanged, -1", s, turns, got, unwound)
	}
}

func checkTurnsWith(t *testing.T, s impl.Spring, need int, want int) {
	t.Helper()
	if got := impl.TurnsWith(s, need); got != want {
		t.Errorf("TurnsWith(%v, %d) = %d, want %d", s, need, got, want)
	}
}

func checkWork(t *testing.T, s impl.Spring, want int) {
	t.Helper()
	if got := impl.WorkIn(s); got != want {
		t.Errorf("WorkIn(%v) = %d, want %d", s, got, want)
	}
}

func TestSpringOk(t *testing.T) {
	for _, s := range []impl.Spring{
		spring(6, 10, 55),
		// Without turns left, and full.
		spring(0, 10, 55), spring(10, 10, 55),
		// Most of 1 and of 50, Force of 1 and of 10000.
		spring(0, 1, 55), spring(1, 1, 55), spring(0, 50, 55), spring(49, 50, 55), spring(50, 50, 55),
		spring(6, 10, 1), spring(6, 10, 10000), spring(0, 1, 1), spring(1, 1, 10000), spring(50, 50, 1),
		spring(50, 50, 10000), spring(0, 50, 10000),
	} {
		checkSpring(t, s)
	}
	for _, s := range manySprings() {
		checkSpring(t, s)
	}
	for force := 1; force <= 10000; force++ {
		checkSpring(t, spring(6, 10, force))
	}
}

func TestInvalidSprings(t *testing.T) {
	for _, s := range invalidSprings() {
		if impl.SpringOk(s) {
			t.Errorf("SpringOk(%v) = true, want false", s)
		}
		checkForce(t, s, -1)
		for _, turns := range append(notTurnsAtOnce(), 0, 1, 7, 50, 100) {
			checkNoTurns(t, s, turns)
		}
		for _, need := range append(notNeeds(), 0, 1, 100, 10000) {
			checkTurnsWith(t, s, need, -1)
		}
		checkWork(t, s, -1)
	}
}

// TestNumbersOfTurnsOfSprings counts the springs that are valid: each Most has
// one more number of turns than the one before.
func TestNumbersOfTurnsOfSprings(t *testing.T) {
	for _, force := range someForces() {
		count := 0
		for most := -60; most <= 120; most++ {
			for turns := -130; turns <= 130; turns++ {
				if impl.SpringOk(spring(turns, most, force)) {
					count++
				}
			}
		}
		if want := 50 * (2 + 51) / 2; count != want {
			t.Errorf("%d springs with the force %d are valid, want %d", count, force, want)
		}
	}
}

func TestForceNow(t *testing.T) {
	for _, c := range []struct {
		s    impl.Spring
		want int
	}{
		{spring(6, 10, 55), 33},
		{spring(5, 10, 100), 50},
		// Without turns left.
		{spring(0, 1, 1), 0},
		{spring(0, 10, 55), 0},
		{spring(0, 50, 10000), 0},
		// Full springs.
		{spring(10, 10, 55), 55},
		{spring(1, 1, 1), 1},
		{spring(1, 1, 10000), 10000},
		{spring(50, 50, 1), 1},
		{spring(50, 50, 10000), 10000},
		{spring(7, 7, 9973), 9973},
		// Rounded down.
		{spring(3, 10, 55), 16},
		{spring(1, 10, 55), 5},
		{spring(9, 10, 55), 49},
		{spring(1, 3, 10000), 3333},
		{spring(2, 3, 10000), 6666},
		{spring(2, 3, 2), 1},
		{spring(49, 50, 9999), 9799},
		{spring(49, 50, 10000), 9800},
		{spring(1, 50, 10000), 200},
		{spring(1, 50, 99), 1},
		// Rounded down to 0, and just not.
		{spring(1, 2, 1), 0},
		{spring(49, 50, 1), 0},
		{spring(1, 50, 1), 0},
		{spring(1, 50, 49), 0},
		{spring(1, 50, 50), 1},
		{spring(9, 10, 1), 0},
		{spring(1, 10, 9), 0},
		{spring(1, 10, 10), 1},
		{spring(4, 10, 2), 0},
		{spring(5, 10, 2), 1},
	} {
		checkForce(t, c.s, c.want)
	}
}

func TestForceOfManySprings(t *testing.T) {
	for _, s := range manySprings() {
		checkForce(t, s, forceOf(s))
		checkForce(t, spring(s.Most, s.Most, s.Force), s.Force)
		checkForce(t, spring(0, s.Most, s.Force), 0)
	}
}

func TestWind(t *testing.T) {
	for _, c := range []struct {
		s           impl.Spring
		turns, want int
	}{
		{spring(6, 10, 55), 1, 1},
		{spring(6, 10, 55), 7, 4},
		// By no turns and by as many as can be asked for.
		{spring(6, 10, 55), 0, 0},
		{spring(0, 10, 55), 0, 0},
		{spring(10, 10, 55), 0, 0},
		{spring(6, 10, 55), 100, 4},
		{spring(0, 50, 10000), 100, 50},
		{spring(0, 1, 1), 100, 1},
		// Just up to Most, and by one less and one more.
		{spring(6, 10, 55), 3, 3},
		{spring(6, 10, 55), 4, 4},
		{spring(6, 10, 55), 5, 4},
		{spring(0, 1, 1), 1, 1},
		{spring(0, 1, 1), 2, 1},
		{spring(0, 50, 10000), 49, 49},
		{spring(0, 50, 10000), 50, 50},
		{spring(0, 50, 10000), 51, 50},
		{spring(49, 50, 10000), 1, 1},
		{spring(49, 50, 10000), 2, 1},
		// Full already.
		{spring(1, 1, 1), 1, 0},
		{spring(10, 10, 55), 1, 0},
		{spring(50, 50, 10000), 100, 0},
	} {
		checkWind(t, c.s, c.turns, c.want)
	}
}

func TestUnwind(t *testing.T) {
	for _, c := range []struct {
		s           impl.Spring
		turns, want int
	}{
		{spring(6, 10, 55), 1, 1},
		{spring(6, 10, 55), 9, 6},
		// By no turns and by as many as can be asked for.
		{spring(6, 10, 55), 0, 0},
		{spring(0, 10, 55), 0, 0},
		{spring(10, 10, 55), 0, 0},
		{spring(6, 10, 55), 100, 6},
		{spring(50, 50, 10000), 100, 50},
		{spring(1, 1, 1), 100, 1},
		// Just to 0, and by one less and one more.
		{spring(6, 10, 55), 5, 5},
		{spring(6, 10, 55), 6, 6},
		{spring(6, 10, 55), 7, 6},
		{spring(1, 1, 1), 1, 1},
		{spring(1, 1, 1), 2, 1},
		{spring(50, 50, 10000), 49, 49},
		{spring(50, 50, 10000), 50, 50},
		{spring(50, 50, 10000), 51, 50},
		{spring(1, 50, 10000), 1, 1},
		{spring(1, 50, 10000), 2, 1},
		// Without turns left.
		{spring(0, 1, 1), 1, 0},
		{spring(0, 10, 55), 1, 0},
		{spring(0, 50, 10000), 100, 0},
	} {
		checkUnwind(t, c.s, c.turns, c.want)
	}
}

func TestTurnsAtOnceOutOfRange(t *testing.T) {
	for _, turns := range notTurnsAtOnce() {
		for _, s := range allSprings(55) {
			checkNoTurns(t, s, turns)
		}
		checkNoTurns(t, spring(6, 10, 1), turns)
		checkNoTurns(t, spring(50, 50, 10000), turns)
	}
}

// TestWhatIsWoundUpCanBeUnwound takes each change back, and makes each of them
// turn by turn as well.
func TestWhatIsWoundUpCanBeUnwound(t *testing.T) {
	for _, force := range []int{1, 55, 10000} {
		for _, s := range allSprings(force) {
			missing := 0
			for turns := range 101 {
				wound := checkWind(t, s, turns, missing)
				if back := checkUnwind(t, wound, missing, missing); back != s {
					t.Errorf("%v wound by %d and unwound is %v", s, turns, back)
				}
				if _, more := impl.Wind(wound, 1); more == 1 {
					missing++
				}
			}
			left := 0
			for turns := range 101 {
				unwound := checkUnwind(t, s, turns, left)
				if back := checkWind(t, unwound, left, left); back != s {
					t.Errorf("%v unwound by %d and wound is %v", s, turns, back)
				}
				if _, more := impl.Unwind(unwound, 1); more == 1 {
					left++
				}
			}
			if left != s.Turns || left+missing != s.Most {
				t.Errorf("%v can be wound by %d and unwound by %d", s, missing, left)
			}
		}
	}
}

// TestForceNeverGrowsAsItIsUsed takes one turn after the other from full springs.
// Where the force of one turn is at least 1, it is less after each of them.
func TestForceNeverGrowsAsItIsUsed(t *testing.T) {
	for _, force := range someForces() {
		for most := 1; most <= 50; most++ {
			s := spring(most, most, force)
			for range most {
				before := impl.ForceNow(s)
				s = checkUnwind(t, s, 1, 1)
				after := impl.ForceNow(s)
				if after > before || (force >= most && after == before) {
					t.Errorf("the force before a turn is %d, and after it, with %v, it is %d", before, s, after)
				}
				if before-after > (force+most-1)/most {
					t.Errorf("one turn to %v takes the force from %d to %d", s, before, after)
				}
			}
			checkForce(t, s, 0)
			checkUnwind(t, s, 1, 0)
		}
	}
}

func TestTurnsWith(t *testing.T) {
	for _, c := range []struct {
		s          impl.Spring
		need, want int
	}{
		{spring(6, 10, 55), 20, 3},
		// A need of 0: all turns, with a force of 0 too.
		{spring(6, 10, 55), 0, 6},
		{spring(1, 1, 1), 0, 1},
		{spring(49, 50, 1), 0, 49},
		{spring(50, 50, 10000), 0, 50},
		// Without turns left.
		{spring(0, 10, 55), 0, 0},
		{spring(0, 10, 55), 1, 0},
		{spring(0, 1, 10000), 10000, 0},
		{spring(0, 50, 10000), 200, 0},
		// Needs that the forces 33, 27, 22, 16, 11 and 5 just reach and just miss.
		{spring(6, 10, 55), 33, 1},
		{spring(6, 10, 55), 34, 0},
		{spring(6, 10, 55), 28, 1},
		{spring(6, 10, 55), 27, 2},
		{spring(6, 10, 55), 22, 3},
		{spring(6, 10, 55), 23, 2},
		{spring(6, 10, 55), 17, 3},
		{spring(6, 10, 55), 16, 4},
		{spring(6, 10, 55), 6, 5},
		{spring(6, 10, 55), 5, 6},
		{spring(6, 10, 55), 1, 6},
		// A need of the force of a full spring, and of one more.
		{spring(10, 10, 55), 55, 1},
		{spring(10, 10, 55), 56, 0},
		{spring(9, 10, 55), 55, 0},
		{spring(50, 50, 1), 1, 1},
		{spring(49, 50, 1), 1, 0},
		{spring(50, 50, 1), 2, 0},
		{spring(50, 50, 99), 1, 50},
		{spring(50, 50, 49), 1, 49},
		// A need of 10000.
		{spring(1, 1, 10000), 10000, 1},
		{spring(50, 50, 10000), 10000, 1},
		{spring(50, 50, 10000), 9999, 1},
		{spring(50, 50, 10000), 9800, 2},
		{spring(50, 50, 10000), 200, 50},
		{spring(50, 50, 10000), 201, 49},
		{spring(49, 50, 10000), 10000, 0},
		{spring(50, 50, 9999), 10000, 0},
		{spring(6, 10, 55), 10000, 0},
	} {
		checkTurnsWith(t, c.s, c.need, c.want)
	}
}

// TestTurnsWithEachForce needs the force of each number of turns, and one more
// and one less.
func TestTurnsWithEachForce(t *testing.T) {
	for _, force := range []int{1, 7, 26, 50, 55, 997, 9999, 10000} {
		for _, s := range allSprings(force) {
			for _, other := range springsOf(s.Most, s.Force) {
				for need := max(forceOf(other)-1, 0); need <= min(forceOf(other)+1, 10000); need++ {
					checkTurnsWith(t, s, need, max(s.Turns-leastTurnsFor(s, need)+1, 0))
				}
			}
		}
	}
}

// TestTurnsWithTakesTurnsWhileTheForceIsEnough takes the turns that are possible
// by Unwind, and then misses the force or has none left.
func TestTurnsWithTakesTurnsWhileTheForceIsEnough(t *testing.T) {
	for _, s := range manySprings() {
		for _, need := range []int{0, 1, 2, 13, 55, 100, 2000, 9999, 10000} {
			turns := impl.TurnsWith(s, need)
			if turns < 0 || turns > s.Turns {
				t.Fatalf("TurnsWith(%v, %d) = %d", s, need, turns)
			}
			rest := s
			for range turns {
				if impl.ForceNow(rest) < need {
					t.Errorf("TurnsWith(%v, %d) = %d, but %v has too little force", s, need, turns, rest)
				}
				rest = checkUnwind(t, rest, 1, 1)
			}
			if rest.Turns > 0 && impl.ForceNow(rest) >= need {
				t.Errorf("TurnsWith(%v, %d) = %d, but %v has force enough", s, need, turns, rest)
			}
			checkTurnsWith(t, rest, need, 0)
		}
	}
}

func TestNeedsOutOfRange(t *testing.T) {
	for _, need := range notNeeds() {
		for _, s := range allSprings(10000) {
			checkTurnsWith(t, s, need, -1)
		}
		checkTurnsWith(t, spring(6, 10, 55), need, -1)
		checkTurnsWith(t, spring(0, 1, 1), need, -1)
	}
}

func TestWorkIn(t *testing.T) {
	for _, c := range []struct {
		s    impl.Spring
		want int
	}{
		// Each force is rounded down by itself.
		{spring(3, 10, 55), 32},
		{spring(6, 10, 55), 114},
		{spring(2, 3, 10000), 9999},
		// Without turns left.
		{spring(0, 1, 1), 0},
		{spring(0, 10, 55), 0},
		{spring(0, 50, 10000), 0},
		// Full springs.
		{spring(1, 1, 1), 1},
		{spring(1, 1, 10000), 10000},
		{spring(10, 10, 55), 300},
		{spring(10, 10, 100), 550},
		{spring(50, 50, 1), 1},
		{spring(50, 50, 50), 1275},
		{spring(50, 50, 10000), 255000},
		// Forces that are rounded down to 0.
		{spring(49, 50, 1), 0},
		{spring(50, 50, 2), 27},
		{spring(1, 50, 49), 0},
		{spring(2, 50, 49), 1},
	} {
		checkWork(t, c.s, c.want)
	}
}

// TestWorkIsTheForceOfEachTurn takes the turns by Unwind, and their work is no
// less than what the same turns give later.
func TestWorkIsTheForceOfEachTurn(t *testing.T) {
	for _, force := range someForces() {
		for most := 1; most <= 50; most++ {
			work, last := 0, 0
			for _, s := range springsOf(most, force) {
				work += forceOf(s)
				checkWork(t, s, work)
				if s.Turns == 0 {
					continue
				}
				taken := impl.WorkIn(s) - impl.WorkIn(checkUnwind(t, s, 1, 1))
				if taken != impl.ForceNow(s) || taken < last {
					t.Errorf("the last turn wound up in %v works %d, the one before %d, and its force is %d",
						s, taken, last, impl.ForceNow(s))
				}
				last = taken
			}
		}
	}
}

// TestSpringsAreTheSameAgain asks in both directions, so that no call depends on
// the one before.
func TestSpringsAreTheSameAgain(t *testing.T) {
	springs := append(allSprings(55), invalidSprings()...)
	type answers struct {
		ok                         bool
		force, wound, taken, turns int
		work                       int
		full, rest                 impl.Spring
	}
	ask := func(s impl.Spring) answers {
		full, wound := impl.Wind(s, 3)
		rest, taken := impl.Unwind(s, 4)
		return answers{impl.SpringOk(s), impl.ForceNow(s), wound, taken, impl.TurnsWith(s, 20), impl.WorkIn(s), full, rest}
	}
	first := make([]answers, len(springs))
	for k, s := range springs {
		first[k] = ask(s)
	}
	for k := len(springs) - 1; k >= 0; k-- {
		if again := ask(springs[k]); again != first[k] {
			t.Errorf("%v gives %v, and %v before", springs[k], again, first[k])
		}
	}
}

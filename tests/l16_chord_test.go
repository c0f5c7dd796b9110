package tests

import (
	"slices"
	"testing"

	"loop.example/g03309/impl"
)

// Promise 16: Notes that are sweet are sweet in both directions and an octave higher.

func notPitches() []int {
	return append(extremes(), -1, 61, -2, -12, -60, 62, 72, 73, 120)
}

// somePitches has the least and the greatest ones, and all steps of two octaves.
func somePitches() []int {
	return append(teethFrom(20, 24), 0, 1, 2, 11, 12, 13, 48, 59, 60)
}

// stepsAround goes from one pitch to the other around the twelve steps, in both
// directions at once.
func stepsAround(a int, b int) int {
	for steps := range 12 {
		if (a+steps)%12 == b%12 || (b+steps)%12 == a%12 {
			return steps
		}
	}
	return -1
}

func sweetPitches(a int, b int) bool {
	return slices.Contains([]int{0, 3, 4, 5}, stepsAround(a, b))
}

func soundsSweet(pitches []int) bool {
	for _, a := range pitches {
		for _, b := range pitches {
			if !sweetPitches(a, b) {
				return false
			}
		}
	}
	return true
}

// rootOfSteps has the triads as lists of steps that rise from the step 0.
func rootOfSteps(pitches []int) int {
	for r := range 12 {
		var up []int
		for _, p := range pitches {
			up = append(up, (p+12-r)%12)
		}
		slices.Sort(up)
		up = slices.Compact(up)
		if slices.Equal(up, []int{0, 4, 7}) || slices.Equal(up, []int{0, 3, 7}) {
			return r
		}
	}
	return -1
}

func sweetWithAll(pitches []int, low int, high int) []int {
	var sweet []int
	for p := range 61 {
		harsh := func(other int) bool { return !sweetPitches(p, other) }
		if low <= p && p <= high && !slices.ContainsFunc(pitches, harsh) {
			sweet = append(sweet, p)
		}
	}
	return sweet
}

// eachTriple calls with all lists of three pitches.
func eachTriple(call func(pitches []int)) {
	for a := range 61 {
		for b := range 61 {
			for c := range 61 {
				call([]int{a, b, c})
			}
		}
	}
}

// eachOrder calls with all orders of a list.
func eachOrder(list []int, call func([]int)) {
	var order func(k int)
	order = func(k int) {
		if k == len(list) {
			call(slices.Clone(list))
			return
		}
		for i := k; i < len(list); i++ {
			list[k], list[i] = list[i], list[k]
			order(k + 1)
			list[k], list[i] = list[i], list[k]
		}
	}
	order(0)
}

// mixedPitches has lists of up to 8 pitches, many of them sweet.
func mixedPitches() [][]int {
	lists := [][]int{nil, {}, {0}, {60}, {12, 16, 19}, {0, 60}, {9, 12, 16}, {0, 3, 6}}
	for start := range 61 {
		for n := range 9 {
			var list []int
			for k := range n {
				list = append(list, (start+k*k*7+k*start)%61)
			}
			lists = append(lists, list)
			list = nil
			for k := range n {
				list = append(list, (start+12*k+[]int{0, 4, 7}[k%3])%60)
			}
			lists = append(lists, list)
		}
	}
	return lists
}

// invalidTogether has lists with one pitch out of its range at each place, and some
// with 9 pitches and more.
func invalidTogether() [][]int {
	lists := [][]int{slices.Repeat([]int{12}, 9), {0, 4, 7, 12, 16, 19, 24, 28, 31}, slices.Repeat([]int{12}, 900),
		{0, 4, 7, 0, 4, 7, 0, 4, 7}, {0, 12, 24, 36, 48, 60, 0, 12, -1}, {-1, 61}, {61, -1, 12}}
	for _, some := range [][]int{{12}, {12, 12}, {12, 16, 19}, {0, 4, 7, 12}, {0, 4, 7, 12, 16, 19, 24, 28}, {1, 2}} {
		for k := range some {
			for _, p := range notPitches() {
				list := slices.Clone(some)
				list[k] = p
				lists = append(lists, list)
			}
		}
	}
	return lists
}

func checkSteps(t *testing.T, a int, b int, want int) {
	t.Helper()
	if got := impl.StepsOf(a, b); got != want {
		t.Errorf("StepsOf(%d, %d) = %d, want %d", a, b, got, want)
	}
}

func checkSweet(t *testing.T, a int, b int, want bool) {
	t.Helper()
	if got := impl.IsSweet(a, b); got != want {
		t.Errorf("IsSweet(%d, %d) = %v, want %v", a, b, got, want)
	}
}

func checkChord(t *testing.T, pitches []int, want bool) {
	t.Helper()
	if got := impl.IsChord(pitches); got != want {
		t.Errorf("IsChord(%v) = %v, want %v", pitches, got, want)
	}
}

func checkHarsh(t *testing.T, tune []impl.Note, want int) {
	t.Helper()
	if got := impl.HarshPairs(tune); got != want {
		t.Errorf("HarshPairs(%v) = %d, want %d", tune, got, want)
	}
}

func checkRoot(t *testing.T, pitches []int, want int) {
	t.Helper()
	if got := impl.RootOf(pitches); got != want {
		t.Errorf("RootOf(%v) = %d, want %d", pitches, got, want)
	}
}

func checkSweetFor(t *testing.T, pitches []int, low int, high int, want []int) {
	t.Helper()
	if got := impl.SweetFor(pitches, low, high); !slices.Equal(got, want) {
		t.Errorf("SweetFor(%v, %d, %d) = %v, want %v", pitches, low, high, got, want)
	}
}

func TestStepsOf(t *testing.T) {
	for _, c := range []struct{ a, b, want int }{
		// Equal, and octaves apart.
		{0, 0, 0}, {12, 12, 0}, {60, 60, 0}, {33, 33, 0},
		{12, 24, 0}, {0, 12, 0}, {0, 24, 0}, {0, 36, 0}, {0, 48, 0}, {0, 60, 0}, {5, 53, 0}, {48, 60, 0},
		// The lesser direction goes up.
		{12, 13, 1}, {12, 14, 2}, {12, 15, 3}, {12, 16, 4}, {12, 17, 5},
		// Both are alike.
		{12, 18, 6}, {0, 6, 6}, {54, 60, 6}, {0, 54, 6}, {6, 60, 6}, {0, 18, 6}, {11, 5, 6},
		// It goes down.
		{12, 19, 5}, {12, 20, 4}, {12, 21, 3}, {12, 22, 2}, {12, 23, 1},
		// More than an octave.
		{12, 25, 1}, {12, 31, 5}, {3, 27, 0}, {3, 28, 1}, {3, 34, 5}, {0, 59, 1}, {1, 60, 1}, {0, 55, 5}, {0, 53, 5},
		{0, 11, 1}, {11, 12, 1}, {11, 13, 2}, {23, 25, 2},
	} {
		checkSteps(t, c.a, c.b, c.want)
		checkSteps(t, c.b, c.a, c.want)
	}
}

func TestIsSweet(t *testing.T) {
	for _, c := range []struct {
		a, b int
		want bool
	}{
		{12, 12, true}, {0, 0, true}, {60, 60, true}, {0, 12, true}, {0, 24, true}, {0, 36, true}, {0, 48, true},
		{0, 60, true}, {12, 13, false}, {12, 14, false}, {12, 15, true}, {12, 16, true}, {12, 17, true},
		{12, 18, false}, {12, 19, true}, {12, 20, true}, {12, 21, true}, {12, 22, false}, {12, 23, false},
		{12, 24, true}, {12, 25, false}, {12, 30, false}, {12, 31, true}, {0, 59, false}, {0, 58, false},
		{0, 57, true}, {0, 56, true}, {0, 55, true}, {0, 54, false}, {0, 53, true},
	} {
		checkSweet(t, c.a, c.b, c.want)
		checkSweet(t, c.b, c.a, c.want)
	}
}

func TestStepsOfAllPitches(t *testing.T) {
	for a := range 61 {
		for b := range 61 {
			checkSteps(t, a, b, stepsAround(a, b))
			checkSweet(t, a, b, sweetPitches(a, b))
		}
	}
}

// TestSweetInBothDirections also has each pitch, and both of them, an octave higher.
func TestSweetInBothDirections(t *testing.T) {
	for a := range 61 {
		for b := range 61 {
			steps, sweet := impl.StepsOf(a, b), impl.IsSweet(a, b)
			if steps < 0 || steps > 6 {
				t.Errorf("StepsOf(%d, %d) = %d", a, b, steps)
			}
			pairs := [][2]int{{b, a}}
			if a <= 48 {
				pairs = append(pairs, [2]int{a + 12, b}, [2]int{b, a + 12})
			}
			if b <= 48 {
				pairs = append(pairs, [2]int{a, b + 12}, [2]int{b + 12, a})
			}
			if a <= 48 && b <= 48 {
				pairs = append(pairs, [2]int{a + 12, b + 12}, [2]int{b + 12, a + 12})
			}
			for _, p := range pairs {
				checkSteps(t, p[0], p[1], steps)
				checkSweet(t, p[0], p[1], sweet)
			}
		}
	}
}

func TestInvalidPitches(t *testing.T) {
	for _, p := range notPitches() {
		for q := range 61 {
			checkSteps(t, p, q, -1)
			checkSteps(t, q, p, -1)
			checkSweet(t, p, q, false)
			checkSweet(t, q, p, false)
		}
		for _, q := range notPitches() {
			checkSteps(t, p, q, -1)
			checkSweet(t, p, q, false)
		}
	}
}

func TestIsChord(t *testing.T) {
	for _, c := range []struct {
		pitches []int
		want    bool
	}{
		// One pitch alone.
		{[]int{0}, true}, {[]int{12}, true}, {[]int{60}, true},
		{[]int{12, 12}, true}, {[]int{12, 16}, true}, {[]int{12, 14}, false}, {[]int{12, 18}, false},
		{[]int{12, 16, 19}, true}, {[]int{19, 16, 12}, true}, {[]int{12, 15, 19}, true}, {[]int{9, 12, 16}, true},
		{[]int{16, 12, 16, 12}, true}, {[]int{12, 12, 12}, true}, {[]int{12, 24, 36, 48, 60, 0}, true},
		{[]int{12, 16, 20}, true}, {[]int{0, 60}, true}, {[]int{60, 0, 4, 31}, true},
		// 8 pitches.
		{[]int{0, 4, 7, 12, 16, 19, 24, 28}, true}, {[]int{7, 7, 7, 7, 7, 7, 7, 7}, true},
		{[]int{0, 12, 24, 36, 48, 60, 55, 52}, true}, {[]int{0, 12, 24, 36, 48, 60, 55, 51}, true},
		{[]int{0, 12, 24, 36, 48, 60, 1, 12}, false},
		// Only the last two are not sweet, and only the first two, and the first and the last.
		{[]int{12, 16, 15}, false}, {[]int{0, 3, 4}, false}, {[]int{0, 5, 7}, false}, {[]int{0, 4, 5}, false},
		{[]int{0, 0, 0, 0, 0, 0, 3, 4}, false}, {[]int{0, 12, 24, 36, 48, 60, 4, 5}, false}, {[]int{4, 3, 0}, false},
		{[]int{3, 4, 0, 0, 0, 0, 0, 0}, false}, {[]int{3, 0, 12, 24, 36, 48, 60, 4}, false},
		// Each is sweet with its neighbor, but not all with each other.
		{[]int{0, 3, 6}, false}, {[]int{0, 5, 10}, false}, {[]int{0, 7, 14}, false}, {[]int{0, 4, 7, 11}, false},
		{[]int{0, 4, 8, 11}, false}, {[]int{0, 5, 10, 15, 20, 25, 30, 35}, false}, {[]int{0, 3, 6, 9}, false},
		{[]int{0, 4, 9, 1}, false},
		// No pitches, and too many.
		{nil, false}, {[]int{}, false}, {slices.Repeat([]int{12}, 9), false},
		{[]int{0, 4, 7, 12, 16, 19, 24, 28, 31}, false},
	} {
		checkChord(t, c.pitches, c.want)
	}
}

func TestChordsOfThree(t *testing.T) {
	eachTriple(func(pitches []int) { checkChord(t, pitches, soundsSweet(pitches)) })
}

func TestChordsOfMixedPitches(t *testing.T) {
	for _, pitches := range mixedPitches() {
		checkChord(t, pitches, len(pitches) > 0 && soundsSweet(pitches))
	}
}

// TestOneHarshPairInEachPlace has 8 pitches of which just two are not sweet.
func TestOneHarshPairInEachPlace(t *testing.T) {
	for i := range 8 {
		for j := range i {
			pitches := slices.Repeat([]int{24}, 8)
			pitches[i], pitches[j] = 27, 28
			checkChord(t, pitches, false)
			pitches[i], pitches[j] = 41, 39
			checkChord(t, pitches, false)
			pitches[i], pitches[j] = 31, 27
			checkChord(t, pitches, true)
		}
	}
}

// TestChordsInAnyOrder also has them an octave higher, at one place and at all.
func TestChordsInAnyOrder(t *testing.T) {
	for _, c := range []struct {
		pitches []int
		want    bool
	}{
		{[]int{12, 16, 19}, true}, {[]int{9, 12, 16, 33}, true}, {[]int{0, 4, 8, 20}, true}, {[]int{0, 3, 6}, false},
		{[]int{0, 3, 7, 10}, false}, {[]int{5, 8, 0, 12, 48}, true}, {[]int{5, 8, 0, 12, 47}, false},
	} {
		eachOrder(slices.Clone(c.pitches), func(pitches []int) {
			checkChord(t, pitches, c.want)
			for k := range pitches {
				higher := slices.Clone(pitches)
				higher[k] += 12
				checkChord(t, higher, c.want)
				higher[k] -= 12
				checkChord(t, append(higher, pitches[k]+12), c.want)
			}
		})
	}
}

func TestHarshPairs(t *testing.T) {
	for _, c := range []struct {
		tune []impl.Note
		want int
	}{
		{nil, 0}, {[]impl.Note{}, 0}, {impl.SampleTune(), 0}, {notes(7, 20), 0},
		{atOnce(3, 4), 1}, {atOnce(3, 6), 0}, {atOnce(12, 18), 1}, {atOnce(0, 60), 0}, {atOnce(0, 59), 1},
		{atOnce(0, 12, 24, 36, 48, 60), 0},
		// Some pairs are sweet and some are not.
		{atOnce(12, 16, 19), 0}, {atOnce(0, 3, 4), 1}, {atOnce(0, 3, 6), 1}, {atOnce(0, 1, 2), 3}, {atOnce(0, 1, 3), 2},
		{atOnce(0, 4, 7, 11), 1}, {atOnce(0, 4, 7, 10), 2}, {atOnce(0, 1, 2, 3), 5}, {atOnce(0, 13, 26, 60), 5},
		// Not sweet, but at different times.
		{notes(0, 3, 1, 4), 0}, {notes(0, 4, 1, 3), 0}, {notes(0, 0, 1, 1, 2, 2, 3, 6), 0}, {at(9, 1, 2, 3, 4), 0},
		{notes(0, 0, 0, 3, 1, 1, 1, 4), 0}, {notes(999, 0, 1000, 1), 0},
		// At several times.
		{notes(0, 3, 0, 4, 1, 3, 1, 4), 2}, {notes(0, 3, 0, 4, 1, 9, 2, 3, 2, 9), 2},
		{notes(0, 0, 5, 12, 5, 16, 5, 18, 7, 0, 1000, 59, 1000, 60), 3},
		{notes(1000, 0, 1000, 1), 1},
	} {
		checkHarsh(t, c.tune, c.want)
	}
}

// TestHarshPairsOfFullTunes has 40 notes at one time, and 40 in pairs with the
// distances from 1 to 20.
func TestHarshPairsOfFullTunes(t *testing.T) {
	harsh := 0
	for distance := 1; distance < 40; distance++ {
		if !slices.Contains([]int{0, 3, 4, 5, 7, 8, 9}, distance%12) {
			harsh += 40 - distance
		}
	}
	checkHarsh(t, notesAtOneTime(40), harsh)
	var pairs []impl.Note
	for time := 1; time <= 20; time++ {
		pairs = append(pairs, notes(time, 30, time, 30+time)...)
	}
	// Those with 1, 2, 6, 10, 11, 13, 14 and 18 are not sweet.
	checkHarsh(t, pairs, 8)
}

func TestHarshPairsOfManyTunes(t *testing.T) {
	for _, tune := range manyTunes() {
		harsh := 0
		for _, a := range tune {
			for _, b := range tune {
				if a.Time == b.Time && !sweetPitches(a.Pitch, b.Pitch) {
					harsh++
				}
			}
		}
		// Each pair is counted twice.
		checkHarsh(t, tune, harsh/2)
	}
}

// TestChordsAreNotHarsh compares HarshPairs of notes at one time with IsChord, and
// with the same notes an octave higher and one after the other.
func TestChordsAreNotHarsh(t *testing.T) {
	eachTriple(func(pitches []int) {
		if pitches[0] >= pitches[1] || pitches[1] >= pitches[2] {
			return
		}
		tune := atOnce(pitches...)
		harsh := impl.HarshPairs(tune)
		if impl.IsChord(pitches) != (harsh == 0) {
			t.Errorf("HarshPairs(%v) = %d, and IsChord is %v", tune, harsh, harsh != 0)
		}
		if higher, ok := impl.Higher(tune, 12); ok {
			checkHarsh(t, higher, harsh)
		}
		checkHarsh(t, notes(0, pitches[0], 1, pitches[1], 2, pitches[2]), 0)
	})
}

func TestHarshPairsOfInvalidTunes(t *testing.T) {
	for name, tune := range invalidTunes() {
		if got := impl.HarshPairs(tune); got != -1 {
			t.Errorf("%s: HarshPairs = %d, want -1", name, got)
		}
	}
}

func TestRootOf(t *testing.T) {
	for _, c := range []struct {
		pitches []int
		want    int
	}{
		{[]int{12, 16, 19}, 0}, {[]int{19, 12, 16}, 0}, {[]int{12, 15, 19}, 0}, {[]int{9, 12, 16}, 9},
		{[]int{0, 4, 7}, 0}, {[]int{0, 3, 7}, 0}, {[]int{60, 52, 55}, 0}, {[]int{60, 3, 31}, 0},
		// Over the end of the twelve steps.
		{[]int{11, 3, 6}, 11}, {[]int{11, 2, 6}, 11}, {[]int{10, 2, 5}, 10}, {[]int{8, 0, 3}, 8}, {[]int{0, 5, 9}, 5},
		{[]int{5, 8, 0}, 5}, {[]int{59, 27, 6}, 11},
		// The least pitch is not the root.
		{[]int{4, 7, 12}, 0}, {[]int{7, 12, 16}, 0}, {[]int{3, 7, 12}, 0}, {[]int{7, 12, 15}, 0},
		// Pitches that are repeated, also in other octaves.
		{[]int{12, 12, 16, 19}, 0}, {[]int{12, 16, 16, 19, 19}, 0}, {[]int{0, 12, 4, 16, 7, 19, 24, 60}, 0},
		{[]int{19, 19, 19, 19, 19, 19, 16, 12}, 0}, {[]int{0, 12, 24, 36, 48, 60, 3, 7}, 0},
		// Too few, too many and others.
		{[]int{12}, -1}, {[]int{12, 16}, -1}, {[]int{12, 19}, -1}, {[]int{16, 19}, -1}, {[]int{12, 12, 12}, -1},
		{[]int{12, 16, 19, 15}, -1}, {[]int{12, 16, 19, 22}, -1}, {[]int{12, 16, 19, 23}, -1}, {[]int{12, 15, 19, 22}, -1},
		{[]int{12, 16, 28}, -1}, {[]int{12, 16, 20}, -1}, {[]int{12, 15, 18}, -1}, {[]int{12, 17, 19}, -1},
		{[]int{12, 13, 14}, -1}, {[]int{12, 14, 19}, -1}, {[]int{12, 16, 18}, -1}, {[]int{12, 15, 20}, 8},
		{[]int{0, 4, 7, 12, 16, 19, 24, 25}, -1},
		// No pitches, and too many of a triad.
		{nil, -1}, {[]int{}, -1}, {[]int{0, 4, 7, 12, 16, 19, 24, 28, 31}, -1}, {[]int{0, 4, 7, 7, 7, 7, 7, 7, 7}, -1},
	} {
		checkRoot(t, c.pitches, c.want)
	}
}

// TestRootOfEachTriad has both triads at every root, in every order, in several
// octaves, with pitches that are repeated and with one too many or too few.
func TestRootOfEachTriad(t *testing.T) {
	for r := range 12 {
		for _, third := range []int{3, 4} {
			for octaves := range 64 {
				triad := []int{r%12 + octaves%4*12, (r+third)%12 + octaves/4%4*12, (r+7)%12 + octaves/16*12}
				eachOrder(triad, func(pitches []int) { checkTriad(t, pitches, r) })
			}
		}
	}
}

func checkTriad(t *testing.T, pitches []int, root int) {
	t.Helper()
	checkRoot(t, pitches, root)
	for k, p := range pitches {
		checkRoot(t, append(slices.Clone(pitches), p, p, p+12, p, p), root)
		checkRoot(t, append(slices.Clone(pitches), p, p, p+12, p, p, p), -1)
		checkRoot(t, slices.Delete(slices.Clone(pitches), k, k+1), -1)
	}
	for p := range 61 {
		want := -1
		if p%12 == pitches[0]%12 || p%12 == pitches[1]%12 || p%12 == pitches[2]%12 {
			want = root
		}
		checkRoot(t, append(slices.Clone(pitches), p), want)
	}
}

func TestRootsOfThree(t *testing.T) {
	eachTriple(func(pitches []int) { checkRoot(t, pitches, rootOfSteps(pitches)) })
}

// TestRootsOfAllSteps has all sets of up to 8 of the twelve steps.
func TestRootsOfAllSteps(t *testing.T) {
	triads := 0
	for set := range 4096 {
		var pitches []int
		for step := range 12 {
			if set>>step&1 == 1 {
				pitches = append(pitches, step+12*(set%5))
			}
		}
		want := rootOfSteps(pitches)
		if len(pitches) > 8 {
			want = -1
		}
		if want >= 0 {
			triads++
		}
		checkRoot(t, pitches, want)
	}
	if triads != 24 {
		t.Errorf("%d triads, want 24", triads)
	}
}

func TestRootsOfMixedPitches(t *testing.T) {
	for _, pitches := range mixedPitches() {
		checkRoot(t, pitches, rootOfSteps(pitches))
	}
}

func TestSweetFor(t *testing.T) {
	for _, c := range []struct {
		pitches   []int
		low, high int
		want      []int
	}{
		{[]int{12, 16}, 12, 24, []int{12, 16, 19, 20, 21, 24}},
		{[]int{12}, 12, 24, []int{12, 15, 16, 17, 19, 20, 21, 24}},
		{[]int{12, 16, 19}, 0, 11, []int{0, 4, 7}},
		{[]int{12, 16, 19}, 49, 60, []int{52, 55, 60}},
		{[]int{12, 15, 19}, 12, 24, []int{12, 15, 19, 24}},
		// No pitches at all.
		{nil, 12, 15, []int{12, 13, 14, 15}},
		{[]int{}, 60, 60, []int{60}},
		{nil, 0, 60, teethFrom(0, 61)},
		{nil, 5, 4, nil},
		// Low equal to high.
		{[]int{12}, 12, 12, []int{12}}, {[]int{12}, 13, 13, nil}, {[]int{12}, 0, 0, []int{0}}, {[]int{12}, 60, 60, []int{60}},
		{[]int{12, 16}, 19, 19, []int{19}}, {[]int{12, 16}, 18, 18, nil},
		// Low above high.
		{[]int{12}, 24, 12, nil}, {[]int{12}, 13, 12, nil}, {[]int{12, 16}, 60, 0, nil},
		// From 0 to 60.
		{[]int{0}, 0, 60, []int{0, 3, 4, 5, 7, 8, 9, 12, 15, 16, 17, 19, 20, 21, 24, 27, 28, 29, 31, 32, 33, 36, 39, 40, 41,
			43, 44, 45, 48, 51, 52, 53, 55, 56, 57, 60}},
		{[]int{60, 0, 28, 7}, 0, 60, []int{0, 4, 7, 12, 16, 19, 24, 28, 31, 36, 40, 43, 48, 52, 55, 60}},
		{[]int{0, 4, 8}, 0, 60, []int{0, 4, 8, 12, 16, 20, 24, 28, 32, 36, 40, 44, 48, 52, 56, 60}},
		// Pitches that are not sweet themselves.
		{[]int{12, 13}, 12, 24, []int{16, 17, 20, 21}}, {[]int{12, 18}, 0, 11, []int{3, 9}}, {[]int{12, 14}, 12, 24, []int{17, 19, 21}},
		{[]int{12, 13, 14}, 12, 24, []int{17, 21}}, {[]int{12, 13, 14, 15}, 0, 60, nil}, {[]int{0, 3, 6, 9}, 0, 11, nil},
		// 8 pitches, and 9.
		{[]int{0, 4, 7, 12, 16, 19, 24, 28}, 50, 60, []int{52, 55, 60}},
		{slices.Repeat([]int{12}, 8), 12, 14, []int{12}}, {slices.Repeat([]int{12}, 9), 12, 14, nil},
		{[]int{12, 12, 12, 12, 12, 12, 12, 13}, 12, 16, []int{16}}, {[]int{13, 12, 12, 12, 12, 12, 12, 12}, 12, 16, []int{16}},
		{[]int{0, 4, 7, 12, 16, 19, 24, 28, 31}, 0, 60, nil},
	} {
		checkSweetFor(t, c.pitches, c.low, c.high, c.want)
	}
}

func TestSweetForAllRanges(t *testing.T) {
	for _, pitches := range [][]int{nil, {12}, {12, 16}, {0, 60}, {59, 1}, {12, 16, 19}, {0, 1, 2, 3}, {7, 12, 40, 43}} {
		for low := range 61 {
			for high := range 61 {
				checkSweetFor(t, pitches, low, high, sweetWithAll(pitches, low, high))
			}
		}
	}
}

func TestSweetForMixedPitches(t *testing.T) {
	for _, pitches := range mixedPitches() {
		for _, ends := range [][2]int{{0, 60}, {12, 24}, {30, 30}, {1, 59}, {31, 30}} {
			checkSweetFor(t, pitches, ends[0], ends[1], sweetWithAll(pitches, ends[0], ends[1]))
		}
	}
}

// TestSweetForMakesChords puts each pitch to a chord: it stays one just with those of
// SweetFor.
func TestSweetForMakesChords(t *testing.T) {
	for _, pitches := range mixedPitches() {
		if len(pitches) == 8 || !impl.IsChord(pitches) {
			continue
		}
		sweet := impl.SweetFor(pitches, 0, 60)
		for p := range 61 {
			checkChord(t, append(slices.Clone(pitches), p), slices.Contains(sweet, p))
			if p <= 48 && slices.Contains(sweet, p) != slices.Contains(sweet, p+12) {
				t.Errorf("SweetFor(%v, 0, 60) = %v, with only one of %d and %d", pitches, sweet, p, p+12)
			}
		}
	}
}

func TestInvalidPitchesTogether(t *testing.T) {
	for _, pitches := range invalidTogether() {
		checkChord(t, pitches, false)
		checkRoot(t, pitches, -1)
		for _, ends := range [][2]int{{0, 60}, {12, 24}, {12, 12}, {24, 12}, {-1, 60}, {0, 61}} {
			checkSweetFor(t, pitches, ends[0], ends[1], nil)
		}
	}
}

func TestSweetForOutOfRange(t *testing.T) {
	for _, pitches := range [][]int{nil, {12}, {12, 16}, {0, 60}, {0, 4, 7, 12, 16, 19, 24, 28}} {
		for _, p := range notPitches() {
			for _, q := range append(somePitches(), notPitches()...) {
				checkSweetFor(t, pitches, p, q, nil)
				checkSweetFor(t, pitches, q, p, nil)
			}
		}
	}
}

// TestChordsKeepTheirArgument also looks at what lies behind it.
func TestChordsKeepTheirArgument(t *testing.T) {
	backing := []int{19, 12, 16, 12, 60, 1, 0, 55, 2, 3}
	before := slices.Clone(backing)
	for size := range len(backing) + 1 {
		impl.IsChord(backing[:size])
		impl.RootOf(backing[:size])
		for _, ends := range [][2]int{{0, 60}, {12, 19}} {
			sweet := impl.SweetFor(backing[:size], ends[0], ends[1])
			for k := range sweet {
				sweet[k] = 77
			}
			_ = append(sweet, 78)
		}
		if !slices.Equal(backing, before) {
			t.Fatalf("%v: the argument changed to %v", before[:size], backing)
		}
	}
	checkKeepsArgument(t, "HarshPairs", func(tune []impl.Note) []impl.Note {
		impl.HarshPairs(tune)
		return nil
	}, notes(2, 3, 2, 4, 3, 9, 8, 8, 1, 1), 3)
}

// TestSweetForIsNewEachTime changes one result and asks again.
func TestSweetForIsNewEachTime(t *testing.T) {
	first := impl.SweetFor([]int{12, 16}, 12, 24)
	clear(first)
	checkSweetFor(t, []int{12, 16}, 12, 24, []int{12, 16, 19, 20, 21, 24})
	checkSweet(t, 12, 16, true)
}

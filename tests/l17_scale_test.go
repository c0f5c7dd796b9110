package tests

import (
	"math"
	"slices"
	"testing"

	"loop.example/g03309/impl"
)

// Promise 17: A tune is in a scale just if it has no wrong notes there, and scales turn around.

// setOf has each of the steps, which may come more than once and in any octave.
func setOf(pitches ...int) int {
	set := 0
	for step := range 12 {
		if slices.ContainsFunc(pitches, func(p int) bool { return p%12 == step }) {
			set += int(math.Pow(2, float64(step)))
		}
	}
	return set
}

// stepsOfSet takes the powers of 2 out of a set, the greatest one first, and returns
// the steps in ascending order.
func stepsOfSet(set int) []int {
	var steps []int
	power := 2048
	for step := 11; step >= 0; step-- {
		if set >= power {
			set -= power
			steps = append(steps, step)
		}
		power /= 2
	}
	slices.Reverse(steps)
	return steps
}

// majorFrom goes up from the root by whole and half steps, over the end of the twelve.
func majorFrom(root int) []int {
	steps := []int{root}
	for _, up := range []int{2, 2, 1, 2, 2, 2} {
		steps = append(steps, (steps[len(steps)-1]+up)%12)
	}
	return steps
}

func wrongOf(tune []impl.Note, root int) int {
	wrong := 0
	for _, n := range tune {
		if !slices.Contains(majorFrom(root), n.Pitch%12) {
			wrong++
		}
	}
	return wrong
}

func scalesOf(tune []impl.Note) []int {
	var roots []int
	for root := range 12 {
		if wrongOf(tune, root) == 0 {
			roots = append(roots, root)
		}
	}
	return roots
}

// bestOf has the wrong notes of all roots before it looks for the first of the least.
func bestOf(tune []impl.Note) int {
	var wrong []int
	for root := range 12 {
		wrong = append(wrong, wrongOf(tune, root))
	}
	return slices.Index(wrong, slices.Min(wrong))
}

func rotated(set int, by int) int {
	var steps []int
	for _, step := range stepsOfSet(set) {
		steps = append(steps, step+by)
	}
	return setOf(steps...)
}

func symmetriesOf(set int) int {
	count := 0
	for by := range 12 {
		if rotated(set, by) == set {
			count++
		}
	}
	return count
}

// notSteps has roots and numbers to rotate by that are out of their range.
func notSteps() []int {
	return append(extremes(), -1, 12, -2, 13, -11, -12, 23, 24, 60, 63, 64, 65, -64, 4096)
}

func notScales() []int {
	return append(extremes(), -1, 4096, -2, 4097, -4095, -4096, 8190, 8191, 8192, 1<<24, 1<<32, 1<<62)
}

// inTime has a note for each pitch, one after the other.
func inTime(pitches ...int) []impl.Note {
	var tune []impl.Note
	for k, pitch := range pitches {
		tune = append(tune, impl.Note{Time: k, Pitch: pitch})
	}
	return tune
}

// scaleTunes has the many tunes, each pitch alone, the steps of each set in some
// octaves, and tunes of 40 notes in which some steps are more frequent than others.
func scaleTunes() [][]impl.Note {
	tunes := manyTunes()
	for pitch := range 61 {
		tunes = append(tunes, inTime(pitch))
	}
	for set := range 4096 {
		var pitches []int
		for k, step := range stepsOfSet(set) {
			pitches = append(pitches, step+12*((k+set)%5))
		}
		tunes = append(tunes, inTime(pitches...))
	}
	for seed := range 400 {
		var pitches []int
		for k := range 40 {
			pitches = append(pitches, (seed*(k+3)+k*k*(seed%7)+seed/9)%(13+seed%49))
		}
		tunes = append(tunes, inTime(pitches...))
	}
	return tunes
}

func checkUsed(t *testing.T, tune []impl.Note, want int) {
	t.Helper()
	if got := impl.StepsUsed(tune); got != want {
		t.Errorf("StepsUsed(%v) = %d, want %d", tune, got, want)
	}
}

func checkMajor(t *testing.T, root int, want int) {
	t.Helper()
	if got := impl.MajorScale(root); got != want {
		t.Errorf("MajorScale(%d) = %d, want %d", root, got, want)
	}
}

func checkScalesFor(t *testing.T, tune []impl.Note, want []int) {
	t.Helper()
	if got := impl.ScalesFor(tune); !slices.Equal(got, want) {
		t.Errorf("ScalesFor(%v) = %v, want %v", tune, got, want)
	}
}

func checkWrong(t *testing.T, tune []impl.Note, root int, want int) {
	t.Helper()
	if got := impl.WrongNotes(tune, root); got != want {
		t.Errorf("WrongNotes(%v, %d) = %d, want %d", tune, root, got, want)
	}
}

func checkBestScale(t *testing.T, tune []impl.Note, want int) {
	t.Helper()
	if got := impl.BestScale(tune); got != want {
		t.Errorf("BestScale(%v) = %d, want %d", tune, got, want)
	}
}

func checkRotated(t *testing.T, scale int, by int, want int) {
	t.Helper()
	if got := impl.RotateScale(scale, by); got != want {
		t.Errorf("RotateScale(%d, %d) = %d, want %d", scale, by, got, want)
	}
}

func checkSymmetries(t *testing.T, scale int, want int) {
	t.Helper()
	if got := impl.CountSymmetries(scale); got != want {
		t.Errorf("CountSymmetries(%d) = %d, want %d", scale, got, want)
	}
}

func TestStepsUsed(t *testing.T) {
	for _, c := range []struct {
		tune []impl.Note
		want int
	}{
		{nil, 0}, {[]impl.Note{}, 0}, {impl.SampleTune(), 145},
		{notes(0, 0), 1}, {notes(1000, 0), 1}, {notes(1000, 60), 1}, {notes(0, 59), 2048}, {notes(0, 11), 2048},
		// One step in several octaves, one after the other and at one time.
		{inTime(0, 12, 24, 36, 48, 60), 1}, {inTime(11, 23, 35, 47, 59), 2048}, {inTime(53, 5, 29), 32},
		{atOnce(0, 12, 24, 36, 48, 60), 1}, {atOnce(7, 19, 55), 128},
		// One pitch several times.
		{at(9, 1, 2, 3, 4), 512}, {row(40), 64},
		{inTime(0, 11), 2049}, {inTime(11, 0), 2049}, {inTime(11, 12), 2049}, {inTime(12, 14, 16), 21},
		// All twelve steps.
		{inTime(teethFrom(0, 12)...), 4095}, {inTime(teethFrom(49, 12)...), 4095}, {atOnce(teethFrom(7, 12)...), 4095},
		{inTime(55, 2, 40, 9, 23, 48, 1, 18, 15, 44, 46, 5), 4095}, {notesAtOneTime(40), 4095},
		// All but one.
		{inTime(teethFrom(0, 11)...), 2047}, {inTime(teethFrom(1, 11)...), 4094}, {inTime(teethFrom(13, 11)...), 4094},
	} {
		checkUsed(t, c.tune, c.want)
	}
}

func TestStepsUsedOfEachPitch(t *testing.T) {
	powers := []int{1, 2, 4, 8, 16, 32, 64, 128, 256, 512, 1024, 2048}
	for pitch := range 61 {
		checkUsed(t, notes(5, pitch), powers[pitch%12])
		checkUsed(t, notes(5, pitch, 6, pitch, 9, pitch), powers[pitch%12])
		for other := range 61 {
			want := powers[pitch%12]
			if other%12 != pitch%12 {
				want += powers[other%12]
			}
			checkUsed(t, inTime(pitch, other), want)
		}
	}
}

func TestMajorScale(t *testing.T) {
	for root, want := range []int{2741, 1387, 2774, 1453, 2906, 1717, 3434, 2773, 1451, 2902, 1709, 3418} {
		checkMajor(t, root, want)
		checkMajor(t, root, setOf(majorFrom(root)...))
		checkRotated(t, impl.MajorScale(0), root, want)
		if steps := stepsOfSet(impl.MajorScale(root)); len(steps) != 7 {
			t.Errorf("MajorScale(%d) has the steps %v", root, steps)
		}
	}
}

func TestScalesFor(t *testing.T) {
	for _, c := range []struct {
		tune []impl.Note
		want []int
	}{
		// Without notes a tune is in all of them.
		{nil, []int{0, 1, 2, 3, 4, 5, 6, 7, 8, 9, 10, 11}}, {[]impl.Note{}, []int{0, 1, 2, 3, 4, 5, 6, 7, 8, 9, 10, 11}},
		{impl.SampleTune(), []int{0, 5, 7}},
		{inTime(0), []int{0, 1, 3, 5, 7, 8, 10}}, {inTime(60), []int{0, 1, 3, 5, 7, 8, 10}},
		{inTime(11), []int{0, 2, 4, 6, 7, 9, 11}}, {row(40), []int{1, 2, 4, 6, 7, 9, 11}},
		{inTime(5, 11), []int{0, 6}}, {inTime(0, 11), []int{0, 7}}, {atOnce(0, 1), []int{1, 8}},
		// In just one of them.
		{inTime(0, 5, 11), []int{0}}, {inTime(1, 5, 11), []int{6}}, {inTime(10, 4, 3), []int{11}},
		{inTime(59, 47, 23, 0, 5), []int{0}}, {atOnce(0, 2, 3, 9), []int{10}},
		// In none.
		{inTime(0, 1, 2), nil}, {atOnce(12, 13, 14), nil}, {inTime(0, 1, 6, 11), nil}, {inTime(0, 4, 8), nil},
		{inTime(teethFrom(0, 12)...), nil}, {atOnce(teethFrom(30, 12)...), nil}, {notesAtOneTime(40), nil},
	} {
		checkScalesFor(t, c.tune, c.want)
	}
}

// TestScalesForEachMajorScale has all its seven steps, in several octaves, and one of
// them more or less.
func TestScalesForEachMajorScale(t *testing.T) {
	for root := range 12 {
		for octaves := range 4 {
			var pitches []int
			for _, step := range majorFrom(root) {
				pitches = append(pitches, step+12*octaves)
			}
			checkOnlyScale(t, pitches, root)
			slices.Reverse(pitches)
			checkOnlyScale(t, append(pitches, pitches...), root)
		}
	}
}

func checkOnlyScale(t *testing.T, pitches []int, root int) {
	t.Helper()
	checkScalesFor(t, inTime(pitches...), []int{root})
	checkBestScale(t, inTime(pitches...), root)
	for p := range 61 {
		longer := inTime(append(slices.Clone(pitches), p)...)
		if slices.Contains(majorFrom(root), p%12) {
			checkScalesFor(t, longer, []int{root})
			checkWrong(t, longer, root, 0)
		} else {
			checkScalesFor(t, longer, nil)
			checkWrong(t, longer, root, 1)
		}
	}
	for k := range pitches {
		fewer := slices.Delete(slices.Clone(pitches), k, k+1)
		if !slices.Contains(impl.ScalesFor(inTime(fewer...)), root) {
			t.Errorf("ScalesFor(%v) lacks %d", inTime(fewer...), root)
		}
	}
}

func TestWrongNotes(t *testing.T) {
	for _, c := range []struct {
		tune []impl.Note
		root int
		want int
	}{
		{nil, 0, 0}, {nil, 11, 0}, {[]impl.Note{}, 5, 0},
		{impl.SampleTune(), 0, 0}, {impl.SampleTune(), 2, 2}, {impl.SampleTune(), 1, 3}, {impl.SampleTune(), 11, 3},
		{impl.SampleTune(), 6, 5},
		// Several notes of one pitch count several times, and so do those of one step.
		{at(1, 1, 2, 3, 4), 0, 4}, {at(1, 1, 2, 3, 4), 1, 0}, {at(60, 1, 2, 3), 2, 3}, {at(0, 1, 2, 3), 0, 0},
		{inTime(1, 13, 25, 37, 49), 0, 5}, {inTime(1, 13, 25, 37, 49, 0, 2), 0, 5}, {inTime(6, 7, 6, 8, 6), 0, 4},
		// At one time.
		{atOnce(0, 1, 2, 3), 0, 2}, {atOnce(1, 3, 6, 8, 10), 0, 5}, {atOnce(0, 2, 4, 5, 7, 9, 11), 0, 0},
		{notes(0, 1, 0, 13, 1, 1, 1, 14), 0, 3},
		// All twelve steps.
		{inTime(teethFrom(0, 12)...), 0, 5}, {inTime(teethFrom(0, 12)...), 11, 5}, {atOnce(teethFrom(25, 12)...), 4, 5},
		{inTime(teethFrom(0, 24)...), 3, 10}, {inTime(teethFrom(37, 24)...), 3, 10},
		// 40 notes.
		{row(40), 0, 40}, {row(40), 1, 0}, {row(40), 11, 0}, {row(40), 10, 40},
		// The pitches from 0 to 39 are all steps three times, and the steps from 0 to 3.
		{notesAtOneTime(40), 0, 17}, {notesAtOneTime(40), 2, 17}, {notesAtOneTime(40), 11, 17}, {notesAtOneTime(40), 5, 17},
		{inTime(slices.Repeat([]int{0, 1}, 20)...), 0, 20}, {inTime(slices.Repeat([]int{0, 1}, 20)...), 1, 0},
		{inTime(slices.Repeat([]int{0, 1}, 20)...), 6, 20}, {inTime(slices.Repeat([]int{0, 12, 1, 60}, 10)...), 2, 30},
	} {
		checkWrong(t, c.tune, c.root, c.want)
	}
}

func TestBestScale(t *testing.T) {
	for _, c := range []struct {
		tune []impl.Note
		want int
	}{
		{nil, 0}, {[]impl.Note{}, 0}, {impl.SampleTune(), 0}, {row(40), 1},
		{inTime(0), 0}, {inTime(1), 1}, {inTime(3), 1}, {inTime(6), 1}, {inTime(10), 1}, {inTime(8), 1}, {inTime(60), 0},
		{inTime(6, 7), 2}, {inTime(2, 3), 3}, {inTime(3, 4), 4}, {inTime(4, 10), 5}, {inTime(3, 4, 10), 11},
		// All twelve steps are equally wrong everywhere.
		{inTime(teethFrom(0, 12)...), 0}, {atOnce(teethFrom(31, 12)...), 0}, {inTime(teethFrom(1, 48)[:36]...), 0},
		// A step of two notes is wrong twice.
		{inTime(0, 1, 2), 0}, {inTime(0, 1, 2, 1), 1}, {inTime(1, 1, 2, 2, 0), 2},
		// The root with the fewest wrong notes is not the one with the fewest wrong steps.
		{inTime(6, 6, 6, 6, 6, 0, 5, 11, 11), 6}, {inTime(0, 0, 0, 0, 1, 6, 10), 1}, {inTime(0, 5, 11, 23, 1, 13, 25), 6},
		{inTime(0, 5, 11, 0, 12, 1), 0},
	} {
		checkBestScale(t, c.tune, c.want)
	}
}

// TestBestScaleOfEqualOnes has several roots with equally few wrong notes, some of
// them with none.
func TestBestScaleOfEqualOnes(t *testing.T) {
	several, wrong := 0, 0
	for _, tune := range scaleTunes() {
		best := bestOf(tune)
		least := wrongOf(tune, best)
		for root := best + 1; root < 12; root++ {
			if wrongOf(tune, root) == least {
				several++
				wrong += min(least, 1)
				checkBestScale(t, tune, best)
				break
			}
		}
	}
	if several < 1000 || wrong < 1000 {
		t.Errorf("%d tunes with several best roots, %d of them with wrong notes", several, wrong)
	}
}

func TestScalesOfManyTunes(t *testing.T) {
	for _, tune := range scaleTunes() {
		var pitches []int
		for _, n := range tune {
			pitches = append(pitches, n.Pitch)
		}
		checkUsed(t, tune, setOf(pitches...))
		checkScalesFor(t, tune, scalesOf(tune))
		checkBestScale(t, tune, bestOf(tune))
		for root := range 12 {
			checkWrong(t, tune, root, wrongOf(tune, root))
		}
	}
}

// TestInScaleJustWithoutWrongNotes compares the functions with each other.
func TestInScaleJustWithoutWrongNotes(t *testing.T) {
	for _, tune := range scaleTunes() {
		used, in := impl.StepsUsed(tune), impl.ScalesFor(tune)
		best := impl.BestScale(tune)
		least := impl.WrongNotes(tune, best)
		for root := range 12 {
			wrong := impl.WrongNotes(tune, root)
			if slices.Contains(in, root) != (wrong == 0) {
				t.Errorf("%v: ScalesFor %v, and %d WrongNotes of %d", tune, in, wrong, root)
			}
			if contains := used|impl.MajorScale(root) == impl.MajorScale(root); contains != (wrong == 0) {
				t.Errorf("%v: StepsUsed %d, and %d WrongNotes of %d", tune, used, wrong, root)
			}
			if least > wrong || least == wrong && best > root {
				t.Errorf("%v: BestScale %d with %d WrongNotes, and %d of %d", tune, best, least, wrong, root)
			}
		}
		if !slices.IsSorted(in) || len(in) > 0 && best != in[0] {
			t.Errorf("%v: ScalesFor %v, and BestScale %d", tune, in, best)
		}
	}
}

// TestScalesOfHigherTunes moves the tunes, and their scales move with them.
func TestScalesOfHigherTunes(t *testing.T) {
	for _, tune := range manyTunes() {
		for by := -60; by <= 60; by++ {
			higher, ok := impl.Higher(tune, by)
			if !ok {
				continue
			}
			steps := (by + 60) % 12
			checkUsed(t, higher, impl.RotateScale(impl.StepsUsed(tune), steps))
			for root := range 12 {
				checkWrong(t, higher, (root+steps)%12, impl.WrongNotes(tune, root))
			}
		}
	}
}

func TestRotateScale(t *testing.T) {
	for _, c := range []struct{ scale, by, want int }{
		{0, 0, 0}, {0, 1, 0}, {0, 11, 0}, {4095, 0, 4095}, {4095, 1, 4095}, {4095, 11, 4095},
		{1, 0, 1}, {1, 1, 2}, {1, 5, 32}, {1, 11, 2048}, {2, 11, 1}, {16, 8, 1}, {16, 7, 2048}, {32, 0, 32},
		{2048, 0, 2048}, {2048, 1, 1}, {2048, 2, 2}, {2048, 11, 1024},
		// The steps 0 and 11.
		{2049, 0, 2049}, {2049, 1, 3}, {2049, 11, 3072}, {3, 11, 2049}, {2049, 6, 96},
		{145, 0, 145}, {145, 5, 545}, {145, 11, 2120}, {145, 4, 2320}, {1365, 1, 2730}, {1365, 2, 1365}, {1365, 11, 2730},
		{4094, 1, 4093}, {2047, 1, 4094}, {2047, 11, 3071}, {3072, 2, 3}, {3072, 1, 2049}, {63, 6, 4032}, {4032, 6, 63},
		{2741, 7, 2773}, {2741, 11, 3418},
	} {
		checkRotated(t, c.scale, c.by, c.want)
	}
}

func TestRotateEachScale(t *testing.T) {
	for scale := range 4096 {
		for by := range 12 {
			checkRotated(t, scale, by, rotated(scale, by))
		}
	}
}

// TestScalesTurnAround rotates by two numbers, also by as many as are left of twelve.
func TestScalesTurnAround(t *testing.T) {
	for scale := range 4096 {
		checkRotated(t, scale, 0, scale)
		for by := 1; by < 12; by++ {
			once := impl.RotateScale(scale, by)
			if once < 0 || once > 4095 {
				t.Errorf("RotateScale(%d, %d) = %d", scale, by, once)
			}
			checkRotated(t, once, 12-by, scale)
			checkRotated(t, once, 1, impl.RotateScale(scale, (by+1)%12))
			checkRotated(t, once, 11, impl.RotateScale(scale, by-1))
			if len(stepsOfSet(once)) != len(stepsOfSet(scale)) {
				t.Errorf("RotateScale(%d, %d) = %d with another number of steps", scale, by, once)
			}
		}
	}
}

func TestCountSymmetries(t *testing.T) {
	for _, c := range []struct{ scale, want int }{
		// The same after each step, and after 2, 3, 4 and 6 steps.
		{0, 12}, {4095, 12},
		{1365, 6}, {2730, 6},
		{585, 4}, {1170, 4}, {2340, 4}, {1755, 4}, {3510, 4}, {2925, 4},
		{273, 3}, {546, 3}, {1092, 3}, {2184, 3}, {819, 3}, {2457, 3}, {3276, 3}, {3003, 3}, {3549, 3},
		{65, 2}, {2080, 2}, {130, 2}, {195, 2}, {455, 2}, {715, 2}, {4030, 2}, {3055, 2},
		// Only after 12.
		{1, 1}, {2, 1}, {64, 1}, {2048, 1}, {2049, 1}, {3, 1}, {145, 1}, {2741, 1}, {3418, 1}, {4094, 1}, {2047, 1},
		{17, 1}, {5, 1}, {63, 1}, {4032, 1}, {1367, 1}, {584, 1}, {341, 1},
	} {
		checkSymmetries(t, c.scale, c.want)
	}
}

// TestCountSymmetriesOfEachScale also counts the scales with each number.
func TestCountSymmetriesOfEachScale(t *testing.T) {
	scales := map[int]int{}
	for scale := range 4096 {
		checkSymmetries(t, scale, symmetriesOf(scale))
		scales[impl.CountSymmetries(scale)]++
		for by := range 12 {
			checkSymmetries(t, impl.RotateScale(scale, by), impl.CountSymmetries(scale))
		}
		checkSymmetries(t, 4095-scale, impl.CountSymmetries(scale))
	}
	for symmetries, want := range map[int]int{12: 2, 6: 2, 4: 6, 3: 12, 2: 54, 1: 4020} {
		if scales[symmetries] != want {
			t.Errorf("%d scales with %d symmetries, want %d", scales[symmetries], symmetries, want)
		}
	}
}

func TestScalesOfInvalidTunes(t *testing.T) {
	for name, tune := range invalidTunes() {
		if used, best := impl.StepsUsed(tune), impl.BestScale(tune); used != -1 || best != -1 {
			t.Errorf("%s: StepsUsed = %d, BestScale = %d, want -1", name, used, best)
		}
		if got := impl.ScalesFor(tune); len(got) != 0 {
			t.Errorf("%s: ScalesFor = %v, want nil", name, got)
		}
		for _, root := range append(notSteps(), 0, 1, 5, 11) {
			if got := impl.WrongNotes(tune, root); got != -1 {
				t.Errorf("%s: WrongNotes with %d = %d, want -1", name, root, got)
			}
		}
	}
}

func TestInvalidRoots(t *testing.T) {
	for _, root := range notSteps() {
		checkMajor(t, root, -1)
		for _, tune := range manyTunes() {
			checkWrong(t, tune, root, -1)
		}
	}
}

func TestInvalidScales(t *testing.T) {
	for _, scale := range notScales() {
		checkSymmetries(t, scale, -1)
		for by := range 12 {
			checkRotated(t, scale, by, -1)
		}
		for _, by := range notSteps() {
			checkRotated(t, scale, by, -1)
		}
	}
	for scale := range 4096 {
		for _, by := range notSteps() {
			checkRotated(t, scale, by, -1)
		}
	}
}

func TestScalesKeepTheirArgument(t *testing.T) {
	backing := notes(2, 13, 2, 14, 3, 9, 8, 8, 1, 1)
	for name, call := range map[string]func([]impl.Note){
		"StepsUsed":  func(tune []impl.Note) { impl.StepsUsed(tune) },
		"ScalesFor":  func(tune []impl.Note) { impl.ScalesFor(tune) },
		"WrongNotes": func(tune []impl.Note) { impl.WrongNotes(tune, 3) },
		"BestScale":  func(tune []impl.Note) { impl.BestScale(tune) },
	} {
		for size := range len(backing) + 1 {
			checkKeepsArgument(t, name, func(tune []impl.Note) []impl.Note {
				call(tune)
				return nil
			}, backing, size)
		}
	}
}

// TestScalesForIsNewEachTime changes one result and asks again.
func TestScalesForIsNewEachTime(t *testing.T) {
	first := impl.ScalesFor(nil)
	for k := range first {
		first[k] = 77
	}
	_ = append(first, 78)
	checkScalesFor(t, nil, teethFrom(0, 12))
	checkMajor(t, 0, 2741)
	checkBestScale(t, nil, 0)
}

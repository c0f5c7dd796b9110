package tests

import (
	"math"
	"slices"
	"testing"

	"loop.example/g03309/impl"
)

// Promise 5: As many teeth as are needed are enough, and one less is not.

// at has notes with one pitch at some times.
func at(pitch int, times ...int) []impl.Note {
	var list []impl.Note
	for _, time := range times {
		list = append(list, impl.Note{Time: time, Pitch: pitch})
	}
	return list
}

// equalTeeth has n teeth with one pitch.
func equalTeeth(pitch int, n int) []int {
	return slices.Repeat([]int{pitch}, n)
}

func invalidRests() []int {
	return []int{0, 101, -1, -5, -100, 102, 1000, math.MinInt64, math.MinInt64 + 1, math.MaxInt64}
}

// someRests has the limits, small rests, which matter most for short tunes,
// and longer ones.
func someRests() []int {
	return []int{1, 2, 3, 4, 5, 7, 11, 30, 99, 100}
}

// checkNeeded compares all 61 needs; want has those that are not 0.
func checkNeeded(t *testing.T, tune []impl.Note, rest int, want map[int]int) {
	t.Helper()
	needed := impl.TeethNeeded(tune, rest)
	if len(needed) != 61 {
		t.Errorf("TeethNeeded(%v, %d) has %d elements: %v", tune, rest, len(needed), needed)
		return
	}
	for pitch, n := range needed {
		if n != want[pitch] {
			t.Errorf("TeethNeeded(%v, %d)[%d] = %d, want %d", tune, rest, pitch, n, want[pitch])
		}
	}
}

func TestTeethNeeded(t *testing.T) {
	for _, c := range []struct {
		tune []impl.Note
		rest int
		want map[int]int
	}{
		{impl.SampleTune(), 1, map[int]int{12: 1, 16: 1, 19: 1}},
		{impl.SampleTune(), 4, map[int]int{12: 1, 16: 1, 19: 1}},
		{impl.SampleTune(), 5, map[int]int{12: 2, 16: 2, 19: 1}},
		{impl.SampleTune(), 100, map[int]int{12: 2, 16: 2, 19: 1}},
		{nil, 1, nil},
		{[]impl.Note{}, 100, nil},
		{notes(0, 0), 1, map[int]int{0: 1}},
		{notes(0, 0), 100, map[int]int{0: 1}},
		{notes(1000, 60), 100, map[int]int{60: 1}},
		// The times 10 and 15 are 5 apart.
		{at(9, 10, 15), 4, map[int]int{9: 1}},
		{at(9, 10, 15), 5, map[int]int{9: 1}},
		{at(9, 10, 15), 6, map[int]int{9: 2}},
		{at(9, 10, 11), 1, map[int]int{9: 1}},
		{at(9, 10, 11), 2, map[int]int{9: 2}},
		{at(9, 10, 109), 100, map[int]int{9: 2}},
		{at(9, 10, 110), 100, map[int]int{9: 1}},
		{at(9, 10, 111), 100, map[int]int{9: 1}},
		{at(9, 10, 109), 99, map[int]int{9: 1}},
		{at(9, 900, 1000), 100, map[int]int{9: 1}},
		{at(9, 901, 1000), 100, map[int]int{9: 2}},
		// The most notes are at the start, in the middle and at the end.
		{at(9, 0, 1, 2, 10, 20), 3, map[int]int{9: 3}},
		{at(9, 0, 10, 11, 12, 20), 3, map[int]int{9: 3}},
		{at(9, 0, 10, 20, 21, 22), 3, map[int]int{9: 3}},
		{at(9, 0, 1, 5, 6, 7, 12, 13), 3, map[int]int{9: 3}},
		// Three notes that are near in turn, but never all three together.
		{at(9, 0, 2, 4), 3, map[int]int{9: 2}},
		{at(9, 0, 2, 4), 4, map[int]int{9: 2}},
		{at(9, 0, 2, 4), 5, map[int]int{9: 3}},
		{at(9, 0, 3, 4, 7), 4, map[int]int{9: 2}},
		// Other pitches at the same times do not count.
		{notes(0, 3, 0, 4, 1, 3, 1, 4, 2, 4), 3, map[int]int{3: 2, 4: 3}},
		{notesAtOneTime(3), 100, map[int]int{0: 1, 1: 1, 2: 1}},
		{notes(0, 0, 0, 60, 1, 60), 2, map[int]int{0: 1, 60: 2}},
		{row(40), 1, map[int]int{30: 1}},
		{row(40), 24, map[int]int{30: 24}},
		{row(40), 25, map[int]int{30: 25}},
		{row(40), 39, map[int]int{30: 39}},
		{row(40), 40, map[int]int{30: 40}},
		{row(40), 100, map[int]int{30: 40}},
	} {
		checkNeeded(t, c.tune, c.rest, c.want)
	}
}

func TestTeethNeededRejects(t *testing.T) {
	for _, tune := range validTunes() {
		for _, rest := range invalidRests() {
			checkNothingNeeded(t, tune, rest)
		}
	}
	for _, tune := range invalidTunes() {
		for _, rest := range append(someRests(), invalidRests()...) {
			checkNothingNeeded(t, tune, rest)
		}
	}
}

// checkNothingNeeded also checks that there is no least comb.
func checkNothingNeeded(t *testing.T, tune []impl.Note, rest int) {
	t.Helper()
	if got := impl.TeethNeeded(tune, rest); len(got) != 0 {
		t.Errorf("TeethNeeded(%v, %d) = %v, want nil", tune, rest, got)
	}
	checkNoLeastComb(t, tune, rest)
}

// mostTogether counts the notes of each pitch from each note's time on, as
// many times as the rest has.
func mostTogether(tune []impl.Note, rest int) map[int]int {
	most := make(map[int]int)
	for _, first := range tune {
		count := 0
		for time := first.Time; time < first.Time+rest; time++ {
			if slices.Contains(tune, impl.Note{Time: time, Pitch: first.Pitch}) {
				count++
			}
		}
		most[first.Pitch] = max(most[first.Pitch], count)
	}
	return most
}

func TestTeethNeededIsTheMostTogether(t *testing.T) {
	for k, tune := range manyTunes() {
		for _, rest := range []int{1 + k%6, 1 + k%17} {
			checkNeeded(t, tune, rest, mostTogether(tune, rest))
		}
	}
}

func TestAssignTeeth(t *testing.T) {
	for _, c := range []struct {
		comb []int
		tune []impl.Note
		rest int
		want []int
	}{
		{[]int{12, 12, 16, 16, 19}, impl.SampleTune(), 5, []int{0, 2, 1, 4, 3}},
		{[]int{12, 12, 16, 16, 19}, impl.SampleTune(), 4, []int{0, 2, 0, 4, 2}},
		{[]int{12, 16, 19}, impl.SampleTune(), 4, []int{0, 1, 0, 2, 1}},
		{[]int{3, 12, 14, 16, 18, 19, 20}, impl.SampleTune(), 1, []int{1, 3, 1, 5, 3}},
		{[]int{20}, nil, 1, nil},
		{[]int{20}, []impl.Note{}, 100, nil},
		{[]int{0}, notes(0, 0), 100, []int{0}},
		{[]int{60}, notes(1000, 60), 100, []int{0}},
		{[]int{0, 60}, notes(0, 0, 0, 60, 1000, 0, 1000, 60), 100, []int{0, 1, 0, 1}},
		{[]int{9}, at(9, 10, 15), 5, []int{0, 0}},
		{[]int{9}, at(9, 10, 16), 5, []int{0, 0}},
		{[]int{9, 9}, at(9, 10, 14), 5, []int{0, 1}},
		{[]int{9, 9}, at(9, 10, 15), 5, []int{0, 0}},
		{[]int{9, 9, 9}, at(9, 10, 16), 5, []int{0, 0}},
		{[]int{9}, at(9, 10, 11), 1, []int{0, 0}},
		{[]int{9, 9}, at(9, 10, 11), 1, []int{0, 0}},
		{[]int{9, 9}, at(9, 10, 11), 2, []int{0, 1}},
		{[]int{9}, at(9, 10, 110), 100, []int{0, 0}},
		{[]int{9, 9}, at(9, 10, 109), 100, []int{0, 1}},
		{[]int{9, 9}, at(9, 10, 110, 120, 220), 100, []int{0, 0, 1, 0}},
		// The least free tooth is the second, the third and the first again.
		{[]int{9, 9, 9}, at(9, 0, 1, 2, 3, 4), 3, []int{0, 1, 2, 0, 1}},
		{[]int{9, 9, 9}, at(9, 0, 2, 4, 5, 7, 9), 5, []int{0, 1, 2, 0, 1, 2}},
		{[]int{9, 9, 9}, at(9, 0, 3, 4, 5, 8), 4, []int{0, 1, 0, 2, 0}},
		// Not the tooth that has rested longest, nor the one that rested least.
		{[]int{9, 9, 9}, at(9, 0, 1, 2, 10), 3, []int{0, 1, 2, 0}},
		{[]int{9, 9}, at(9, 0, 4, 5, 9), 5, []int{0, 1, 0, 1}},
		{[]int{9, 9}, at(9, 0, 4, 5, 12), 5, []int{0, 1, 0, 0}},
		// A tooth of another pitch does not help or disturb.
		{[]int{8, 9, 9, 10}, at(9, 0, 1), 2, []int{1, 2}},
		{[]int{8, 8, 9, 9}, notes(0, 8, 0, 9, 1, 8, 1, 9), 2, []int{0, 2, 1, 3}},
		{[]int{8, 9}, notes(0, 8, 0, 9, 1, 8, 2, 9), 1, []int{0, 1, 0, 1}},
		{[]int{30}, row(40), 1, slices.Repeat([]int{0}, 40)},
		{equalTeeth(30, 24), row(24), 100, teethFrom(0, 24)},
		{equalTeeth(30, 24), row(40), 24, slices.Concat(teethFrom(0, 24), teethFrom(0, 16))},
		{equalTeeth(30, 24), row(40), 2, slices.Repeat([]int{0, 1}, 20)},
	} {
		checkAssigned(t, c.comb, c.tune, c.rest, c.want)
	}
}

func checkAssigned(t *testing.T, comb []int, tune []impl.Note, rest int, want []int) {
	t.Helper()
	got, ok := impl.AssignTeeth(comb, tune, rest)
	if !slices.Equal(got, want) || !ok {
		t.Errorf("AssignTeeth(%v, %v, %d) = %v, %v, want %v, true", comb, tune, rest, got, ok, want)
	}
	if !impl.IsAssigned(comb, tune, rest, want) {
		t.Errorf("IsAssigned(%v, %v, %d, %v) = false", comb, tune, rest, want)
	}
}

func checkNotAssigned(t *testing.T, comb []int, tune []impl.Note, rest int) {
	t.Helper()
	if got, ok := impl.AssignTeeth(comb, tune, rest); len(got) != 0 || ok {
		t.Errorf("AssignTeeth(%v, %v, %d) = %v, %v, want nil, false", comb, tune, rest, got, ok)
	}
}

func TestAssignTeethWithoutFreeTooth(t *testing.T) {
	for _, c := range []struct {
		comb []int
		tune []impl.Note
		rest int
	}{
		{[]int{12, 16, 19}, impl.SampleTune(), 5},
		{[]int{12, 12, 16, 19}, impl.SampleTune(), 5},
		{[]int{12, 16, 16, 19}, impl.SampleTune(), 5},
		{[]int{12, 12, 16, 16}, impl.SampleTune(), 1},
		{[]int{20}, impl.SampleTune(), 1},
		{[]int{20}, notes(0, 21), 1},
		{[]int{20}, notes(0, 19), 1},
		{[]int{0}, notes(0, 60), 1},
		{[]int{9}, at(9, 10, 14), 5},
		{[]int{9}, at(9, 10, 11), 2},
		{[]int{9}, at(9, 10, 109), 100},
		{[]int{9}, at(9, 0, 20, 22), 3},
		{[]int{8, 9, 10}, at(9, 10, 14), 5},
		{[]int{9, 10, 10}, at(9, 10, 14), 5},
		// Several teeth, all of them too soon.
		{[]int{9, 9}, at(9, 0, 1, 2), 3},
		{[]int{9, 9}, at(9, 0, 4, 5, 8), 5},
		{[]int{9, 9, 9}, at(9, 0, 1, 2, 99), 100},
		{[]int{8, 9, 9, 9, 10}, at(9, 0, 1, 2, 3), 4},
		{equalTeeth(30, 23), row(24), 24},
		{equalTeeth(30, 24), row(25), 25},
		{equalTeeth(30, 24), row(40), 25},
	} {
		checkNotAssigned(t, c.comb, c.tune, c.rest)
	}
}

// TestAssignTeethTakesTheLeast looks for each note at all teeth.
func TestAssignTeethTakesTheLeast(t *testing.T) {
	combs := manyCombs()
	for k, tune := range manyTunes() {
		for _, rest := range []int{1, 2 + k%4, 1 + k%25} {
			for _, comb := range [][]int{combs[k%len(combs)], ampleComb(tune, rest)} {
				want, ok := leastTeeth(comb, tune, rest)
				if ok {
					checkAssigned(t, comb, tune, rest, want)
				} else {
					checkNotAssigned(t, comb, tune, rest)
				}
			}
		}
	}
}

// ampleComb has a tooth more than needed for some pitches of a tune, as far as
// there is room.
func ampleComb(tune []impl.Note, rest int) []int {
	var comb []int
	for pitch, n := range impl.TeethNeeded(tune, rest) {
		if n > 0 {
			comb = append(comb, equalTeeth(pitch, n+pitch%2)...)
		}
	}
	if len(comb) == 0 {
		return []int{40}
	}
	return comb[:min(24, len(comb))]
}

func leastTeeth(comb []int, tune []impl.Note, rest int) ([]int, bool) {
	var teeth []int
	for _, n := range tune {
		tooth := slices.IndexFunc(teethFrom(0, len(comb)), func(k int) bool {
			return comb[k] == n.Pitch && toothRested(tune, teeth, k, n.Time-rest)
		})
		if tooth < 0 {
			return nil, false
		}
		teeth = append(teeth, tooth)
	}
	return teeth, true
}

// toothRested reports whether no note of a tooth is after a time.
func toothRested(tune []impl.Note, teeth []int, tooth int, until int) bool {
	for k, other := range teeth {
		if other == tooth && tune[k].Time > until {
			return false
		}
	}
	return true
}

func TestIsAssigned(t *testing.T) {
	comb := []int{12, 12, 16, 16, 19}
	for _, c := range []struct {
		comb  []int
		tune  []impl.Note
		rest  int
		teeth []int
		want  bool
	}{
		{comb, impl.SampleTune(), 5, []int{0, 2, 1, 4, 3}, true},
		// Other teeth than the least ones are as good.
		{comb, impl.SampleTune(), 5, []int{1, 3, 0, 4, 2}, true},
		{comb, impl.SampleTune(), 5, []int{1, 2, 0, 4, 3}, true},
		{comb, impl.SampleTune(), 5, []int{0, 2, 0, 4, 3}, false},
		{comb, impl.SampleTune(), 5, []int{0, 2, 1, 4, 2}, false},
		{comb, impl.SampleTune(), 4, []int{0, 2, 0, 4, 2}, true},
		{comb, impl.SampleTune(), 4, []int{1, 3, 1, 4, 3}, true},
		{comb, impl.SampleTune(), 4, []int{0, 2, 1, 4, 3}, true},
		// One element too few or too many.
		{comb, impl.SampleTune(), 5, []int{0, 2, 1, 4}, false},
		{comb, impl.SampleTune(), 5, []int{0, 2, 1, 4, 3, 0}, false},
		{comb, impl.SampleTune(), 5, []int{0, 2, 1, 4, 3, 3}, false},
		{comb, impl.SampleTune(), 5, nil, false},
		{comb, nil, 5, []int{0}, false},
		{comb, nil, 5, []int{-1}, false},
		{comb, nil, 5, nil, true},
		{comb, []impl.Note{}, 5, []int{}, true},
		{comb, notes(0, 12), 5, nil, false},
		{comb, notes(0, 12), 5, []int{0, 0}, false},
		{comb, notes(0, 12), 5, []int{0}, true},
		{comb, notes(0, 12), 5, []int{1}, true},
		// Teeth of another pitch, or outside the comb.
		{comb, notes(0, 12), 5, []int{2}, false},
		{comb, notes(0, 12), 5, []int{4}, false},
		{comb, notes(0, 16), 5, []int{1}, false},
		{comb, notes(0, 12), 5, []int{-1}, false},
		{comb, notes(0, 12), 5, []int{5}, false},
		{comb, notes(0, 19), 5, []int{5}, false},
		{comb, notes(0, 19), 5, []int{4}, true},
		{comb, notes(0, 19), 5, []int{-1}, false},
		{comb, notes(0, 12), 5, []int{math.MinInt64}, false},
		{comb, notes(0, 12), 5, []int{math.MaxInt64}, false},
		{comb, impl.SampleTune(), 5, []int{0, 2, 1, 5, 3}, false},
		{comb, impl.SampleTune(), 5, []int{0, 2, 1, 4, -1}, false},
		// The pitch of the tooth, not the tooth, is 0.
		{[]int{0, 1}, notes(0, 1), 1, []int{0}, false},
		{[]int{5, 6}, notes(0, 1), 1, []int{1}, false},
		// Notes of one tooth that are just less than the rest apart, just the
		// rest apart and more.
		{[]int{9, 9}, at(9, 10, 14), 5, []int{0, 0}, false},
		{[]int{9, 9}, at(9, 10, 14), 5, []int{1, 1}, false},
		{[]int{9, 9}, at(9, 10, 14), 5, []int{1, 0}, true},
		{[]int{9, 9}, at(9, 10, 15), 5, []int{1, 1}, true},
		{[]int{9, 9}, at(9, 10, 16), 5, []int{1, 1}, true},
		{[]int{9, 9}, at(9, 10, 11), 1, []int{1, 1}, true},
		{[]int{9, 9}, at(9, 10, 11), 2, []int{1, 1}, false},
		{[]int{9, 9}, at(9, 10, 109), 100, []int{0, 0}, false},
		{[]int{9, 9}, at(9, 10, 110), 100, []int{0, 0}, true},
		// Not only the note just before counts.
		{[]int{9, 9}, at(9, 0, 1, 2), 3, []int{0, 1, 0}, false},
		{[]int{9, 9}, at(9, 0, 1, 3), 3, []int{0, 1, 0}, true},
		{[]int{9, 9}, at(9, 0, 4, 6), 3, []int{0, 0, 0}, false},
		{[]int{9, 9}, at(9, 0, 4, 6), 3, []int{1, 0, 1}, true},
	} {
		checkIsAssigned(t, c.comb, c.tune, c.rest, c.teeth, c.want)
	}
}

func checkIsAssigned(t *testing.T, comb []int, tune []impl.Note, rest int, teeth []int, want bool) {
	t.Helper()
	if got := impl.IsAssigned(comb, tune, rest, teeth); got != want {
		t.Errorf("IsAssigned(%v, %v, %d, %v) = %v, want %v", comb, tune, rest, teeth, got, want)
	}
}

// eachAssignment calls with each list of n indices from -1 to one outside the
// comb.
func eachAssignment(comb []int, n int, call func(teeth []int)) {
	teeth := slices.Repeat([]int{-1}, n)
	for {
		call(teeth)
		k := 0
		for k < n && teeth[k] == len(comb) {
			teeth[k] = -1
			k++
		}
		if k == n {
			return
		}
		teeth[k]++
	}
}

// rightTeeth compares each two notes of one tooth.
func rightTeeth(comb []int, tune []impl.Note, rest int, teeth []int) bool {
	for k, tooth := range teeth {
		if tooth < 0 || tooth >= len(comb) || comb[tooth] != tune[k].Pitch {
			return false
		}
		for j := range k {
			if teeth[j] == tooth && tune[k].Time-tune[j].Time < rest {
				return false
			}
		}
	}
	return true
}

func shortTunes() [][]impl.Note {
	return [][]impl.Note{
		nil,
		notes(1000, 9),
		at(9, 0, 1, 2, 3),
		at(9, 0, 2, 5, 6),
		at(9, 3, 4, 6, 10),
		notes(0, 8, 0, 9, 1, 9, 3, 8),
		notes(0, 9, 1, 8, 2, 8, 2, 9),
		notes(4, 8, 6, 9, 7, 9, 11, 9),
		notes(4, 7, 6, 9, 7, 9, 11, 9),
		notes(900, 9, 999, 9, 1000, 9),
	}
}

func shortCombs() [][]int {
	return [][]int{{9}, {9, 9}, {9, 9, 9}, {8, 9}, {8, 8, 9}, {8, 9, 9}, {8, 9, 10}, {7, 8, 9, 9}}
}

// TestAllAssignments tries all assignments of short tunes: AssignTeeth fails
// just if none of them is right.
func TestAllAssignments(t *testing.T) {
	for _, tune := range shortTunes() {
		for _, comb := range shortCombs() {
			for _, rest := range someRests() {
				some := false
				eachAssignment(comb, len(tune), func(teeth []int) {
					want := rightTeeth(comb, tune, rest, teeth)
					some = some || want
					checkIsAssigned(t, comb, tune, rest, teeth, want)
				})
				if _, ok := impl.AssignTeeth(comb, tune, rest); ok != some {
					t.Errorf("AssignTeeth(%v, %v, %d) = %v, want %v", comb, tune, rest, ok, some)
				}
			}
		}
	}
}

func TestInvalidTeethInTurn(t *testing.T) {
	for _, comb := range invalidCombs() {
		for _, tune := range validTunes() {
			checkNothingInTurn(t, comb, tune, 1)
		}
		for _, tune := range invalidTunes() {
			checkNothingInTurn(t, comb, tune, 100)
		}
	}
	for _, comb := range validCombs() {
		for _, tune := range invalidTunes() {
			checkNothingInTurn(t, comb, tune, 1)
		}
	}
	// Nothing but the order of the list or the number of teeth is wrong.
	checkNothingInTurn(t, []int{9, 8}, notes(0, 8, 0, 9), 1)
	checkNothingInTurn(t, equalTeeth(30, 25), row(1), 1)
	checkNothingInTurn(t, teethFrom(0, 24), notes(0, 9, 0, 8), 1)
	checkNothingInTurn(t, []int{9, 9}, at(9, 4, 4), 1)
	checkNothingInTurn(t, []int{30}, row(41), 1)
	checkNothingInTurn(t, []int{61}, notes(0, 61), 1)
	checkNothingInTurn(t, []int{-1}, notes(0, -1), 1)
	checkNothingInTurn(t, []int{9}, at(9, 1001), 1)
	checkNothingInTurn(t, []int{9}, at(9, -1), 1)
}

// checkNothingInTurn also tries assignments that would be right.
func checkNothingInTurn(t *testing.T, comb []int, tune []impl.Note, rest int) {
	t.Helper()
	checkNotAssigned(t, comb, tune, rest)
	var teeth []int
	for _, n := range tune {
		teeth = append(teeth, max(0, slices.Index(comb, n.Pitch)))
	}
	checkIsAssigned(t, comb, tune, rest, teeth, false)
	checkIsAssigned(t, comb, tune, rest, nil, false)
	checkLongestRest(t, comb, tune, 0)
}

func TestInvalidRests(t *testing.T) {
	for _, rest := range invalidRests() {
		for _, tune := range validTunes() {
			checkNotAssigned(t, []int{20}, tune, rest)
		}
		checkNotAssigned(t, []int{12, 16, 19}, impl.SampleTune(), rest)
		checkIsAssigned(t, []int{12, 16, 19}, impl.SampleTune(), rest, []int{0, 1, 0, 2, 1}, false)
		checkNotAssigned(t, []int{9}, at(9, 0, 1000), rest)
		checkIsAssigned(t, []int{9}, at(9, 0, 1000), rest, []int{0, 0}, false)
		checkIsAssigned(t, []int{9}, nil, rest, nil, false)
	}
	for rest := -3; rest <= 104; rest++ {
		want := 1 <= rest && rest <= 100
		if _, ok := impl.AssignTeeth([]int{9}, at(9, 0, 1000), rest); ok != want {
			t.Errorf("AssignTeeth with rest %d = %v", rest, ok)
		}
		checkIsAssigned(t, []int{9}, at(9, 0, 1000), rest, []int{0, 0}, want)
		if n := len(impl.TeethNeeded(at(9, 0, 1000), rest)); (n == 61) != want || (n == 0) == want {
			t.Errorf("TeethNeeded with rest %d has %d elements", rest, n)
		}
		if _, ok := impl.LeastComb(at(9, 0, 1000), rest); ok != want {
			t.Errorf("LeastComb with rest %d = %v", rest, ok)
		}
	}
}

func TestLeastComb(t *testing.T) {
	for _, c := range []struct {
		tune []impl.Note
		rest int
		want []int
	}{
		{impl.SampleTune(), 5, []int{12, 12, 16, 16, 19}},
		{impl.SampleTune(), 4, []int{12, 16, 19}},
		{notes(0, 0), 1, []int{0}},
		{notes(1000, 60), 100, []int{60}},
		{notes(0, 0, 0, 60, 1, 60), 2, []int{0, 60, 60}},
		{notes(0, 60, 1, 0), 2, []int{0, 60}},
		{row(40), 1, []int{30}},
		// 24 teeth together, of one pitch, of 24 and of two.
		{row(40), 24, equalTeeth(30, 24)},
		{row(24), 100, equalTeeth(30, 24)},
		{notesAtOneTime(24), 100, teethFrom(0, 24)},
		{slices.Concat(at(9, 0, 1, 2, 3), row(20)[4:], at(30, 20, 21, 22, 23)), 4, []int{9, 9, 9, 9, 30, 30, 30, 30}},
		{crowd(12, 12), 100, slices.Concat(equalTeeth(30, 12), equalTeeth(50, 12))},
		{crowd(1, 23), 100, slices.Concat(equalTeeth(30, 1), equalTeeth(50, 23))},
	} {
		got, ok := impl.LeastComb(c.tune, c.rest)
		if !slices.Equal(got, c.want) || !ok {
			t.Errorf("LeastComb(%v, %d) = %v, %v, want %v", c.tune, c.rest, got, ok, c.want)
		}
	}
}

// crowd has a notes with one pitch, and then b with another one.
func crowd(a int, b int) []impl.Note {
	return slices.Concat(row(a), moved(row(b), a, 20))
}

func TestLeastCombRejects(t *testing.T) {
	checkNoLeastComb(t, nil, 1)
	checkNoLeastComb(t, []impl.Note{}, 100)
	// 25 teeth together, of one pitch, of 25 and of two.
	checkNoLeastComb(t, row(40), 25)
	checkNoLeastComb(t, row(25), 100)
	checkNoLeastComb(t, notesAtOneTime(25), 1)
	checkNoLeastComb(t, crowd(12, 13), 100)
	checkNoLeastComb(t, crowd(1, 24), 100)
	checkNoLeastComb(t, row(40), 100)
	checkNoLeastComb(t, notesAtOneTime(40), 100)
}

func checkNoLeastComb(t *testing.T, tune []impl.Note, rest int) {
	t.Helper()
	if got, ok := impl.LeastComb(tune, rest); len(got) != 0 || ok {
		t.Errorf("LeastComb(%v, %d) = %v, %v, want nil, false", tune, rest, got, ok)
	}
}

func TestLeastCombHasTheNeeds(t *testing.T) {
	for _, tune := range manyTunes() {
		for _, rest := range someRests() {
			var want []int
			for pitch, n := range impl.TeethNeeded(tune, rest) {
				want = append(want, equalTeeth(pitch, n)...)
			}
			got, ok := impl.LeastComb(tune, rest)
			possible := 1 <= len(want) && len(want) <= 24
			if !possible {
				want = nil
			}
			if ok != possible || !slices.Equal(got, want) {
				t.Errorf("LeastComb(%v, %d) = %v, %v, want %v", tune, rest, got, ok, want)
			}
		}
	}
}

// TestNeedsAreEnoughAndOneLessIsNot takes each tooth away from the least comb.
func TestNeedsAreEnoughAndOneLessIsNot(t *testing.T) {
	for _, tune := range manyTunes() {
		for _, rest := range someRests() {
			comb, ok := impl.LeastComb(tune, rest)
			if !ok {
				continue
			}
			teeth, ok := impl.AssignTeeth(comb, tune, rest)
			if !ok || !rightTeeth(comb, tune, rest, teeth) || len(teeth) != len(tune) {
				t.Errorf("AssignTeeth(%v, %v, %d) = %v, %v", comb, tune, rest, teeth, ok)
			}
			checkIsAssigned(t, comb, tune, rest, teeth, true)
			for k := range comb {
				checkNotAssigned(t, slices.Delete(slices.Clone(comb), k, k+1), tune, rest)
			}
		}
	}
}

// TestOneLessHasNoAssignment tries all assignments to one tooth less than are
// needed.
func TestOneLessHasNoAssignment(t *testing.T) {
	for _, tune := range shortTunes() {
		for rest := 1; rest <= 12; rest++ {
			comb, _ := impl.LeastComb(tune, rest)
			for k := range comb {
				less := slices.Delete(slices.Clone(comb), k, k+1)
				eachAssignment(less, len(tune), func(teeth []int) {
					if rightTeeth(less, tune, rest, teeth) {
						t.Errorf("%v is less than LeastComb(%v, %d), but %v is right", less, tune, rest, teeth)
					}
				})
			}
		}
	}
}

func TestLongestRest(t *testing.T) {
	for _, c := range []struct {
		comb []int
		tune []impl.Note
		want int
	}{
		{[]int{12, 16, 19}, impl.SampleTune(), 4},
		{[]int{12, 12, 16, 19}, impl.SampleTune(), 4},
		{[]int{12, 12, 16, 16, 19}, impl.SampleTune(), 100},
		{[]int{20}, nil, 100},
		{[]int{20}, []impl.Note{}, 100},
		{[]int{0}, notes(0, 0), 100},
		{[]int{60}, notes(1000, 60), 100},
		// No rest serves if a pitch is missing.
		{[]int{12}, impl.SampleTune(), 0},
		{[]int{12, 12, 16, 16}, impl.SampleTune(), 0},
		{[]int{20}, notes(0, 21), 0},
		{[]int{9}, notes(0, 9, 1000, 10), 0},
		{[]int{9}, at(9, 10, 11), 1},
		{[]int{9}, at(9, 10, 12), 2},
		{[]int{9}, at(9, 10, 109), 99},
		{[]int{9}, at(9, 10, 110), 100},
		{[]int{9}, at(9, 10, 111), 100},
		{[]int{9}, at(9, 0, 1000), 100},
		{[]int{9}, at(9, 0, 50, 57, 90), 7},
		{[]int{9, 9}, at(9, 10, 11), 100},
		{[]int{9, 9}, at(9, 0, 1, 2), 2},
		{[]int{9, 9}, at(9, 0, 4, 6, 13), 6},
		{[]int{9, 9, 9}, at(9, 0, 4, 6, 13), 13},
		{[]int{8, 9, 9}, notes(0, 8, 0, 9, 3, 8, 3, 9), 3},
		{[]int{30}, row(40), 1},
		{equalTeeth(30, 2), row(40), 2},
		{equalTeeth(30, 24), row(40), 24},
		{equalTeeth(30, 24), row(24), 100},
		{equalTeeth(30, 24), row(25), 24},
		{teethFrom(0, 24), notesAtOneTime(24), 100},
	} {
		checkLongestRest(t, c.comb, c.tune, c.want)
	}
}

func checkLongestRest(t *testing.T, comb []int, tune []impl.Note, want int) {
	t.Helper()
	if got := impl.LongestRest(comb, tune); got != want {
		t.Errorf("LongestRest(%v, %v) = %d, want %d", comb, tune, got, want)
	}
}

// nearestInTurn is the least time until the teeth of one pitch have all been
// played and the first of them comes again.
func nearestInTurn(comb []int, tune []impl.Note) int {
	nearest := 100
	for pitch := range 61 {
		var times []int
		for _, n := range tune {
			if n.Pitch == pitch {
				times = append(times, n.Time)
			}
		}
		teeth := len(impl.TeethOf(comb, pitch))
		for k := teeth; k < len(times); k++ {
			nearest = min(nearest, times[k]-times[k-teeth])
		}
	}
	return nearest
}

func TestLongestRestIsTheNearestInTurn(t *testing.T) {
	combs := manyCombs()
	for k, tune := range manyTunes() {
		for _, comb := range [][]int{combs[k%len(combs)], combs[(k*7+2)%len(combs)], ampleComb(tune, 1+k%9)} {
			rest := nearestInTurn(comb, tune)
			checkLongestRest(t, comb, tune, rest)
			for _, less := range []int{1, rest / 2, rest} {
				if _, ok := impl.AssignTeeth(comb, tune, less); ok != (less > 0 && rest > 0) {
					t.Errorf("AssignTeeth(%v, %v, %d) = %v", comb, tune, less, ok)
				}
			}
			checkNotAssigned(t, comb, tune, rest+1)
		}
	}
}

// TestTeethKeepTheirArguments looks for shared memory, also behind the end.
func TestTeethKeepTheirArguments(t *testing.T) {
	comb, tune := []int{3, 5, 5, 9, 4, 1}, notes(2, 9, 3, 5, 4, 5, 8, 8, 1, 1)
	teeth := []int{3, 1, 2, 7, 8}
	combBefore, tuneBefore, teethBefore := slices.Clone(comb), slices.Clone(tune), slices.Clone(teeth)
	spoil := func(list []int) {
		for k := range list {
			list[k] = 77
		}
		_ = append(list, 78)
	}
	spoil(impl.TeethNeeded(tune[:3], 2))
	assigned, ok := impl.AssignTeeth(comb[:4], tune[:3], 2)
	spoil(assigned)
	least, _ := impl.LeastComb(tune[:3], 2)
	spoil(least)
	nothing, _ := impl.AssignTeeth(comb[:4], tune[:0], 2)
	spoil(nothing)
	if !ok || !impl.IsAssigned(comb[:4], tune[:3], 2, teeth[:3]) || impl.LongestRest(comb[:4], tune[:3]) != 100 {
		t.Errorf("%v does not play %v", comb[:4], tune[:3])
	}
	if !slices.Equal(comb, combBefore) || !slices.Equal(tune, tuneBefore) || !slices.Equal(teeth, teethBefore) {
		t.Errorf("the arguments changed to %v, %v and %v", comb, tune, teeth)
	}
}

// TestTeethAreTheSameAgain calls many times, because no tooth's rest may last
// from one call to the next one.
func TestTeethAreTheSameAgain(t *testing.T) {
	for range 5 {
		checkAssigned(t, []int{9, 9}, at(9, 0, 1), 100, []int{0, 1})
		checkIsAssigned(t, []int{9, 9}, at(9, 0, 1), 100, []int{1, 0}, true)
		checkNeeded(t, at(9, 0, 1), 100, map[int]int{9: 2})
	}
}

package tests

import (
	"maps"
	"math"
	"slices"
	"testing"

	"loop.example/g03309/impl"
)

// Promise 9: No larger choice of tunes has as few teeth.

// atOnce has a note for each pitch, all at one time: it needs one tooth for each
// of them with every rest.
func atOnce(pitches ...int) []impl.Note {
	var tune []impl.Note
	for _, pitch := range pitches {
		tune = append(tune, impl.Note{Time: 3, Pitch: pitch})
	}
	return tune
}

// threeTunes need two teeth, one and two with a rest of 2.
func threeTunes() [][]impl.Note {
	return [][]impl.Note{notes(0, 3, 1, 4), notes(0, 3), notes(0, 7, 1, 7)}
}

// eightTunes have one pitch each, the last one the pitch 7.
func eightTunes() [][]impl.Note {
	var tunes [][]impl.Note
	for pitch := range 8 {
		tunes = append(tunes, atOnce(pitch))
	}
	return tunes
}

func nineTunes() [][]impl.Note {
	return append(eightTunes(), atOnce(0))
}

// silent has n tunes without notes.
func silent(n int) [][]impl.Note {
	return slices.Repeat([][]impl.Note{nil}, n)
}

func checkTeethForAll(t *testing.T, tunes [][]impl.Note, chosen []int, rest int, want int) {
	t.Helper()
	if got := impl.TeethForAll(tunes, chosen, rest); got != want {
		t.Errorf("TeethForAll(%v, %v, %d) = %d, want %d", tunes, chosen, rest, got, want)
	}
}

// checkCombForAll also checks the number of the teeth.
func checkCombForAll(t *testing.T, tunes [][]impl.Note, chosen []int, rest int, want []int) {
	t.Helper()
	if got, ok := impl.CombForAll(tunes, chosen, rest); !slices.Equal(got, want) || !ok {
		t.Errorf("CombForAll(%v, %v, %d) = %v, %v, want %v, true", tunes, chosen, rest, got, ok, want)
	}
	checkTeethForAll(t, tunes, chosen, rest, len(want))
}

func checkNoCombForAll(t *testing.T, tunes [][]impl.Note, chosen []int, rest int) {
	t.Helper()
	if got, ok := impl.CombForAll(tunes, chosen, rest); len(got) != 0 || ok {
		t.Errorf("CombForAll(%v, %v, %d) = %v, %v, want nil, false", tunes, chosen, rest, got, ok)
	}
}

func checkMostTunes(t *testing.T, tunes [][]impl.Note, rest int, teeth int, want ...int) {
	t.Helper()
	if got, ok := impl.MostTunes(tunes, rest, teeth); !slices.Equal(got, want) || !ok {
		t.Errorf("MostTunes(%v, %d, %d) = %v, %v, want %v, true", tunes, rest, teeth, got, ok, want)
	}
}

func checkNotMostTunes(t *testing.T, tunes [][]impl.Note, rest int, teeth int) {
	t.Helper()
	if got, ok := impl.MostTunes(tunes, rest, teeth); len(got) != 0 || ok {
		t.Errorf("MostTunes(%v, %d, %d) = %v, %v, want nil, false", tunes, rest, teeth, got, ok)
	}
}

func checkExtraTeeth(t *testing.T, tunes [][]impl.Note, chosen []int, k int, rest int, want int) {
	t.Helper()
	if got := impl.ExtraTeeth(tunes, chosen, k, rest); got != want {
		t.Errorf("ExtraTeeth(%v, %v, %d, %d) = %d, want %d", tunes, chosen, k, rest, got, want)
	}
}

// checkNotChosen checks that there are no teeth for a choice that is not valid,
// whatever tune is added.
func checkNotChosen(t *testing.T, tunes [][]impl.Note, chosen []int, rest int) {
	t.Helper()
	checkTeethForAll(t, tunes, chosen, rest, -1)
	checkNoCombForAll(t, tunes, chosen, rest)
	for k := -1; k <= len(tunes); k++ {
		checkExtraTeeth(t, tunes, chosen, k, rest, -1)
	}
}

// choicesOf has all choices among n tunes, in the order of binary numbers.
func choicesOf(n int) [][]int {
	var choices [][]int
	for set := range 1 << n {
		var chosen []int
		for k := range n {
			if set>>k&1 == 1 {
				chosen = append(chosen, k)
			}
		}
		choices = append(choices, chosen)
	}
	return choices
}

// mostOfAll has the most notes of each pitch that come together in a chosen
// tune.
func mostOfAll(tunes [][]impl.Note, chosen []int, rest int) map[int]int {
	most := make(map[int]int)
	for _, k := range chosen {
		for pitch, n := range mostTogether(tunes[k], rest) {
			most[pitch] = max(most[pitch], n)
		}
	}
	return most
}

func teethOfAll(tunes [][]impl.Note, chosen []int, rest int) []int {
	most := mostOfAll(tunes, chosen, rest)
	var comb []int
	for pitch := range 61 {
		comb = append(comb, equalTeeth(pitch, most[pitch])...)
	}
	return comb
}

// manyPrograms has lists of 0 to 8 tunes that share some of their pitches, with
// some equal ones and some without notes.
func manyPrograms() [][][]impl.Note {
	long := manyTunes()
	var programs [][][]impl.Note
	for n := range 9 {
		for seed := range 4 {
			var short, mixed [][]impl.Note
			for k := range n {
				set := make(map[impl.Note]bool)
				for j := range (k*k*3 + seed*5 + n) % 7 {
					set[impl.Note{Time: (j*j*3 + k) % 9, Pitch: (j*(seed+2) + k*k) % 6}] = true
				}
				short = append(short, impl.SortNotes(slices.Collect(maps.Keys(set))))
				mixed = append(mixed, long[(k*k*11+seed*17+n)%len(long)])
			}
			programs = append(programs, short, mixed)
		}
	}
	return programs
}

func TestTeethForAll(t *testing.T) {
	one, two := [][]impl.Note{impl.SampleTune()}, [][]impl.Note{at(9, 0, 1, 2), at(9, 0, 1)}
	for _, c := range []struct {
		tunes  [][]impl.Note
		chosen []int
		rest   int
		want   []int
	}{
		{threeTunes(), []int{0}, 2, []int{3, 4}},
		{threeTunes(), []int{1}, 2, []int{3}},
		{threeTunes(), []int{2}, 2, []int{7, 7}},
		{threeTunes(), []int{2}, 1, []int{7}},
		{threeTunes(), []int{0, 1}, 2, []int{3, 4}},
		{threeTunes(), []int{0, 2}, 2, []int{3, 4, 7, 7}},
		{threeTunes(), []int{0, 2}, 1, []int{3, 4, 7}},
		{threeTunes(), []int{1, 2}, 2, []int{3, 7, 7}},
		{threeTunes(), []int{0, 1, 2}, 2, []int{3, 4, 7, 7}},
		{one, []int{0}, 1, []int{12, 16, 19}},
		{one, []int{0}, 4, []int{12, 16, 19}},
		{one, []int{0}, 5, []int{12, 12, 16, 16, 19}},
		{one, []int{0}, 100, []int{12, 12, 16, 16, 19}},
		// The first tune and the second one need the most of a pitch.
		{two, []int{0, 1}, 3, []int{9, 9, 9}},
		{two, []int{1}, 3, []int{9, 9}},
		{two, []int{0, 1}, 2, []int{9, 9}},
		{[][]impl.Note{two[1], two[0]}, []int{0, 1}, 3, []int{9, 9, 9}},
		{[][]impl.Note{two[1], two[0]}, []int{0}, 3, []int{9, 9}},
		{[][]impl.Note{notes(0, 8, 1, 8, 2, 9), notes(0, 8, 1, 9, 2, 9)}, []int{0, 1}, 2, []int{8, 8, 9, 9}},
		// The same tune twice needs no more than once.
		{[][]impl.Note{two[0], two[0]}, []int{0, 1}, 3, []int{9, 9, 9}},
		{[][]impl.Note{two[0], nil, two[0]}, []int{0, 2}, 3, []int{9, 9, 9}},
		// Tunes without notes need no teeth.
		{[][]impl.Note{nil, atOnce(0, 60), {}}, []int{0, 1, 2}, 1, []int{0, 60}},
		{[][]impl.Note{nil, atOnce(0, 60), {}}, []int{1}, 1, []int{0, 60}},
		{[][]impl.Note{notes(0, 0), notes(1000, 60)}, []int{0, 1}, 100, []int{0, 60}},
		{eightTunes(), teethFrom(0, 8), 1, teethFrom(0, 8)},
		{eightTunes(), []int{7}, 100, []int{7}},
		{eightTunes(), []int{0, 2, 3, 7}, 50, []int{0, 2, 3, 7}},
		// Exactly MaxTeeth.
		{[][]impl.Note{notesAtOneTime(24)}, []int{0}, 1, teethFrom(0, 24)},
		{[][]impl.Note{row(40)}, []int{0}, 24, equalTeeth(30, 24)},
		{[][]impl.Note{row(23), atOnce(60), atOnce(59, 60)}, []int{0, 1}, 100, append(equalTeeth(30, 23), 60)},
		{[][]impl.Note{row(24), atOnce(60)}, []int{0}, 100, equalTeeth(30, 24)},
		{[][]impl.Note{notesAtOneTime(12), moved(notesAtOneTime(12), 0, 12)}, []int{0, 1}, 1, teethFrom(0, 24)},
		{[][]impl.Note{notesAtOneTime(13), moved(notesAtOneTime(13), 0, 11)}, []int{0, 1}, 1, teethFrom(0, 24)},
	} {
		checkCombForAll(t, c.tunes, c.chosen, c.rest, c.want)
	}
}

func TestTeethForAllWithoutTeeth(t *testing.T) {
	for _, c := range []struct {
		tunes  [][]impl.Note
		chosen []int
	}{
		{nil, nil},
		{[][]impl.Note{}, []int{}},
		{threeTunes(), nil},
		{threeTunes(), []int{}},
		{eightTunes(), nil},
		{silent(1), nil},
		{silent(1), []int{0}},
		{silent(8), teethFrom(0, 8)},
		{[][]impl.Note{{}, atOnce(5), nil}, []int{0, 2}},
	} {
		for _, rest := range someRests() {
			checkTeethForAll(t, c.tunes, c.chosen, rest, 0)
			checkNoCombForAll(t, c.tunes, c.chosen, rest)
		}
	}
}

func TestTeethForAllWithTooManyTeeth(t *testing.T) {
	high := moved(notesAtOneTime(13), 0, 12)
	var apart [][]impl.Note
	for k := range 8 {
		apart = append(apart, moved(row(40), 0, k-4))
	}
	for _, c := range []struct {
		tunes  [][]impl.Note
		chosen []int
		rest   int
		want   int
	}{
		{[][]impl.Note{notesAtOneTime(25)}, []int{0}, 1, 25},
		{[][]impl.Note{row(40)}, []int{0}, 25, 25},
		{[][]impl.Note{row(24), atOnce(60)}, []int{0, 1}, 100, 25},
		{[][]impl.Note{notesAtOneTime(12), high}, []int{0, 1}, 1, 25},
		{[][]impl.Note{notesAtOneTime(40)}, []int{0}, 1, 40},
		{[][]impl.Note{notesAtOneTime(40), moved(notesAtOneTime(40), 0, 21)}, []int{0, 1}, 1, 61},
		{apart, teethFrom(0, 8), 100, 320},
		{apart, teethFrom(0, 8), 25, 200},
		{apart, teethFrom(2, 3), 100, 120},
	} {
		checkTeethForAll(t, c.tunes, c.chosen, c.rest, c.want)
		checkNoCombForAll(t, c.tunes, c.chosen, c.rest)
	}
}

func TestTeethForAllIsTheMostOfAll(t *testing.T) {
	for k, tunes := range manyPrograms() {
		for _, rest := range []int{1, 2 + k%5, 1 + k*7%100, 100} {
			for _, chosen := range choicesOf(len(tunes)) {
				comb := teethOfAll(tunes, chosen, rest)
				if 1 <= len(comb) && len(comb) <= 24 {
					checkCombForAll(t, tunes, chosen, rest, comb)
				} else {
					checkTeethForAll(t, tunes, chosen, rest, len(comb))
					checkNoCombForAll(t, tunes, chosen, rest)
				}
			}
		}
	}
}

// TestCombForAllPlaysEachChosenTune takes each tooth away: then a chosen tune
// cannot be played.
func TestCombForAllPlaysEachChosenTune(t *testing.T) {
	for _, tunes := range manyPrograms() {
		if len(tunes) > 5 {
			continue
		}
		for _, chosen := range choicesOf(len(tunes)) {
			for _, rest := range []int{1, 3, 9} {
				comb, ok := impl.CombForAll(tunes, chosen, rest)
				if !ok {
					continue
				}
				if !assignsAll(comb, tunes, chosen, rest) {
					t.Errorf("CombForAll(%v, %v, %d) = %v does not play them", tunes, chosen, rest, comb)
				}
				for k := range comb {
					less := slices.Delete(slices.Clone(comb), k, k+1)
					if len(less) > 0 && assignsAll(less, tunes, chosen, rest) {
						t.Errorf("CombForAll(%v, %v, %d) = %v, but %v is enough", tunes, chosen, rest, comb, less)
					}
				}
			}
		}
	}
}

func assignsAll(comb []int, tunes [][]impl.Note, chosen []int, rest int) bool {
	for _, k := range chosen {
		if _, ok := impl.AssignTeeth(comb, tunes[k], rest); !ok {
			return false
		}
	}
	return true
}

func TestChosenThatAreNotIndices(t *testing.T) {
	for _, chosen := range [][]int{
		{-1}, {3}, {4}, {8}, {math.MinInt64}, {math.MaxInt64},
		{-1, 0}, {-1, 0, 1, 2}, {-2, -1}, {0, 3}, {0, 1, 2, 3}, {1, 3}, {2, 3},
		{0, 0}, {1, 1}, {2, 2}, {0, 0, 1}, {0, 1, 1}, {0, 1, 1, 2}, {0, 1, 2, 2},
		{1, 0}, {2, 0}, {2, 1}, {2, 1, 0}, {0, 2, 1}, {1, 0, 2}, {1, 2, 0}, {0, 1, 0},
		{0, -1}, {1, -1}, {2, -1}, {3, 0}, {3, 2}, {math.MaxInt64, 0}, {0, math.MinInt64},
		{0, math.MaxInt64}, {math.MinInt64, 1},
	} {
		for _, rest := range []int{1, 2, 100} {
			checkNotChosen(t, threeTunes(), chosen, rest)
			checkNotChosen(t, silent(3), chosen, rest)
		}
	}
	for _, chosen := range [][]int{{-1}, {0}, {1}, {0, 1}, {0, 0}} {
		checkNotChosen(t, nil, chosen, 1)
	}
	checkNotChosen(t, eightTunes(), []int{8}, 1)
	checkNotChosen(t, eightTunes(), teethFrom(0, 9), 1)
	checkNotChosen(t, eightTunes(), teethFrom(-1, 8), 1)
}

// TestEveryListOfIndices tries all lists of up to four numbers near the indices
// of two tunes.
func TestEveryListOfIndices(t *testing.T) {
	tunes := [][]impl.Note{atOnce(3), atOnce(4, 5)}
	teeth := map[string]int{"": 0, "0": 1, "1": 2, "01": 3}
	lists := [][]int{nil}
	for len(lists) > 0 {
		list := lists[0]
		lists = lists[1:]
		name := ""
		for _, k := range list {
			name += impl.FormatInt(k)
		}
		if want, ok := teeth[name]; ok {
			checkTeethForAll(t, tunes, list, 1, want)
		} else {
			checkNotChosen(t, tunes, list, 1)
		}
		for k := -1; k <= 2 && len(list) < 4; k++ {
			lists = append(lists, append(slices.Clone(list), k))
		}
	}
}

func TestProgramRests(t *testing.T) {
	tunes := [][]impl.Note{at(9, 0, 99), at(9, 0, 100)}
	checkTeethForAll(t, tunes, []int{0}, 1, 1)
	checkTeethForAll(t, tunes, []int{0}, 99, 1)
	checkTeethForAll(t, tunes, []int{0}, 100, 2)
	checkTeethForAll(t, tunes, []int{1}, 100, 1)
	checkExtraTeeth(t, tunes, []int{1}, 0, 100, 1)
	checkExtraTeeth(t, tunes, []int{1}, 0, 1, 0)
	checkMostTunes(t, tunes, 1, 1, 0, 1)
	checkMostTunes(t, tunes, 99, 1, 0, 1)
	checkMostTunes(t, tunes, 100, 1, 1)
	for _, rest := range invalidRests() {
		for _, tunes := range [][][]impl.Note{nil, tunes, silent(1), silent(8), threeTunes()} {
			checkNotChosen(t, tunes, nil, rest)
			if len(tunes) > 0 {
				checkNotChosen(t, tunes, []int{0}, rest)
			}
			for _, teeth := range []int{0, 3, 100} {
				checkNotMostTunes(t, tunes, rest, teeth)
			}
		}
	}
}

func TestProgramsOfTooManyTunes(t *testing.T) {
	for _, tunes := range [][][]impl.Note{nineTunes(), silent(9), silent(10), slices.Repeat(nineTunes(), 30)} {
		checkNotChosen(t, tunes, nil, 1)
		checkNotChosen(t, tunes, []int{0}, 1)
		checkNotChosen(t, tunes, []int{len(tunes) - 1}, 100)
		checkNotChosen(t, tunes, teethFrom(0, len(tunes)), 100)
		for _, teeth := range []int{0, 1, 100} {
			checkNotMostTunes(t, tunes, 1, teeth)
		}
	}
	checkTeethForAll(t, nineTunes()[:8], []int{0, 7}, 1, 2)
}

// TestProgramsWithAnInvalidTune has it at each place, chosen or not.
func TestProgramsWithAnInvalidTune(t *testing.T) {
	for _, invalid := range invalidTunes() {
		for place := range 3 {
			tunes := threeTunes()
			tunes[place] = invalid
			for _, chosen := range choicesOf(3) {
				checkNotChosen(t, tunes, chosen, 2)
			}
			for _, teeth := range []int{0, 2, 100} {
				checkNotMostTunes(t, tunes, 2, teeth)
			}
		}
		checkNotChosen(t, [][]impl.Note{invalid}, nil, 1)
		checkNotMostTunes(t, [][]impl.Note{invalid}, 1, 100)
		tunes := eightTunes()
		tunes[7] = invalid
		checkNotChosen(t, tunes, []int{0, 1}, 1)
		checkNotMostTunes(t, tunes, 1, 0)
	}
}

func TestMostTunes(t *testing.T) {
	checkMostTunes(t, threeTunes(), 2, 0)
	checkMostTunes(t, threeTunes(), 2, 1, 1)
	checkMostTunes(t, threeTunes(), 2, 2, 0, 1)
	checkMostTunes(t, threeTunes(), 2, 3, 0, 1)
	checkMostTunes(t, threeTunes(), 2, 4, 0, 1, 2)
	checkMostTunes(t, threeTunes(), 2, 100, 0, 1, 2)
	checkMostTunes(t, threeTunes(), 1, 2, 0, 1)
	checkMostTunes(t, threeTunes(), 1, 3, 0, 1, 2)
	for _, teeth := range []int{0, 1, 100} {
		checkMostTunes(t, nil, 1, teeth)
		checkMostTunes(t, [][]impl.Note{}, 100, teeth)
	}
	// A tune more for each tooth more, up to all of them.
	checkMostTunes(t, eightTunes(), 1, 0)
	for teeth := 1; teeth <= 100; teeth++ {
		checkMostTunes(t, eightTunes(), 1, teeth, teethFrom(0, min(8, teeth))...)
	}
	// More teeth than a comb can have.
	checkMostTunes(t, [][]impl.Note{row(40)}, 100, 39)
	checkMostTunes(t, [][]impl.Note{row(40)}, 100, 40, 0)
	low, high := notesAtOneTime(40), moved(notesAtOneTime(40), 0, 21)
	checkMostTunes(t, [][]impl.Note{low, high}, 1, 39)
	checkMostTunes(t, [][]impl.Note{low, high}, 1, 60, 0)
	checkMostTunes(t, [][]impl.Note{low, high}, 1, 61, 0, 1)
	three := [][]impl.Note{moved(row(33), 0, 1), row(34), moved(row(34), 0, -1)}
	checkMostTunes(t, three, 100, 99, 0, 1)
	checkMostTunes(t, three, 100, 100, 0, 1)
	three[1] = row(33)
	checkMostTunes(t, three, 100, 99, 0, 1)
	checkMostTunes(t, three, 100, 100, 0, 1, 2)
}

func TestMostTunesWithTunesWithoutNotes(t *testing.T) {
	for _, teeth := range []int{0, 1, 24, 100} {
		for n := range 9 {
			checkMostTunes(t, silent(n), 1, teeth, teethFrom(0, n)...)
		}
	}
	tunes := [][]impl.Note{atOnce(5), nil, atOnce(5, 6), {}, atOnce(7)}
	checkMostTunes(t, tunes, 1, 0, 1, 3)
	checkMostTunes(t, tunes, 1, 1, 0, 1, 3)
	checkMostTunes(t, tunes, 1, 2, 0, 1, 2, 3)
	checkMostTunes(t, tunes, 1, 3, 0, 1, 2, 3, 4)
}

// TestMostTunesTakesTheFewestTeeth has choices with as many tunes that need
// more teeth, before and after the best one.
func TestMostTunesTakesTheFewestTeeth(t *testing.T) {
	checkMostTunes(t, [][]impl.Note{atOnce(1, 2), atOnce(3), atOnce(4, 5)}, 1, 2, 1)
	checkMostTunes(t, [][]impl.Note{atOnce(1, 2, 3), atOnce(3, 4), atOnce(5)}, 1, 3, 1, 2)
	checkMostTunes(t, [][]impl.Note{atOnce(1, 2, 3), atOnce(3, 4), atOnce(5)}, 1, 2, 2)
	checkMostTunes(t, [][]impl.Note{atOnce(1), atOnce(2, 3), atOnce(4), atOnce(5, 6, 7)}, 1, 4, 0, 1, 2)
	checkMostTunes(t, [][]impl.Note{atOnce(1), atOnce(2, 3), atOnce(4), atOnce(5, 6, 7)}, 1, 3, 0, 2)
	// A small tune alone is not part of the best choice.
	checkMostTunes(t, [][]impl.Note{atOnce(9), atOnce(1, 2, 3), atOnce(1, 2, 3)}, 1, 3, 1, 2)
	checkMostTunes(t, [][]impl.Note{atOnce(1, 2, 3), atOnce(9), atOnce(2, 3), atOnce(1, 3)}, 1, 3, 0, 2, 3)
	checkMostTunes(t, [][]impl.Note{atOnce(1, 2, 3), atOnce(9), atOnce(2, 3), atOnce(1, 3)}, 1, 2, 1)
	checkMostTunes(t, [][]impl.Note{atOnce(1, 2, 3), atOnce(9), atOnce(2, 3), atOnce(1, 3)}, 1, 4, 0, 1, 2, 3)
	// More teeth of one pitch, with a longer rest.
	checkMostTunes(t, [][]impl.Note{at(9, 0, 1, 2), at(8, 0, 3)}, 3, 3, 1)
	checkMostTunes(t, [][]impl.Note{at(9, 0, 1, 2), at(8, 0, 3)}, 4, 3, 1)
	checkMostTunes(t, [][]impl.Note{at(9, 0, 1, 2), at(8, 0, 3)}, 2, 3, 0, 1)
}

// TestMostTunesTakesTheFirst has choices with as many tunes and as few teeth.
func TestMostTunesTakesTheFirst(t *testing.T) {
	checkMostTunes(t, eightTunes(), 1, 1, 0)
	checkMostTunes(t, eightTunes(), 1, 7, 0, 1, 2, 3, 4, 5, 6)
	// 0 and 3 come before 1 and 2, which are before it as binary numbers.
	checkMostTunes(t, [][]impl.Note{atOnce(1, 2), atOnce(3, 4), atOnce(3, 4), atOnce(1, 2)}, 1, 2, 0, 3)
	checkMostTunes(t, [][]impl.Note{atOnce(3, 4), atOnce(1, 2), atOnce(1, 2), atOnce(3, 4)}, 1, 3, 0, 3)
	checkMostTunes(t, [][]impl.Note{atOnce(7, 8, 9), atOnce(1), atOnce(2), atOnce(3)}, 1, 1, 1)
	checkMostTunes(t, [][]impl.Note{atOnce(6, 8), atOnce(1), atOnce(2), atOnce(3)}, 1, 2, 1, 2)
	// The same tune twice counts as two tunes.
	checkMostTunes(t, [][]impl.Note{atOnce(1), atOnce(2), atOnce(2)}, 1, 1, 1, 2)
	checkMostTunes(t, slices.Repeat([][]impl.Note{atOnce(5)}, 8), 1, 1, teethFrom(0, 8)...)
	checkMostTunes(t, [][]impl.Note{atOnce(1), atOnce(2), atOnce(1), atOnce(2)}, 1, 1, 0, 2)
}

// TestMostTunesWithOneToothTooMany has a larger choice that needs one tooth
// more than there are.
func TestMostTunesWithOneToothTooMany(t *testing.T) {
	tunes := [][]impl.Note{atOnce(1, 2), atOnce(2, 3), atOnce(3, 4), atOnce(1, 4)}
	checkMostTunes(t, tunes, 1, 1)
	checkMostTunes(t, tunes, 1, 2, 0)
	checkMostTunes(t, tunes, 1, 3, 0, 1)
	checkMostTunes(t, tunes, 1, 4, 0, 1, 2, 3)
	late := [][]impl.Note{atOnce(1, 2, 3, 4, 5), atOnce(6), atOnce(7), atOnce(8)}
	checkMostTunes(t, late, 1, 2, 1, 2)
	checkMostTunes(t, late, 1, 3, 1, 2, 3)
	checkMostTunes(t, late, 1, 7, 1, 2, 3)
	checkMostTunes(t, late, 1, 8, 0, 1, 2, 3)
}

func TestMostTunesRejectsTeeth(t *testing.T) {
	for _, teeth := range []int{-1, -2, -100, 101, 102, 1000, math.MinInt64, math.MaxInt64} {
		for _, tunes := range [][][]impl.Note{nil, silent(3), threeTunes(), eightTunes()} {
			checkNotMostTunes(t, tunes, 1, teeth)
			checkNotMostTunes(t, tunes, 100, teeth)
		}
	}
}

// isBetter reports whether a choice with some teeth is better than another one.
func isBetter(a []int, teethOfA int, b []int, teethOfB int) bool {
	if len(a) != len(b) {
		return len(a) > len(b)
	}
	if teethOfA != teethOfB {
		return teethOfA < teethOfB
	}
	return slices.Compare(a, b) < 0
}

// TestNoOtherChoiceIsBetter compares the choice with every other one.
func TestNoOtherChoiceIsBetter(t *testing.T) {
	for k, tunes := range manyPrograms() {
		for _, rest := range []int{1, 2 + k%5, 1 + k*7%100} {
			choices, counts := choicesOf(len(tunes)), []int{}
			for _, chosen := range choices {
				counts = append(counts, len(teethOfAll(tunes, chosen, rest)))
			}
			for teeth := range 101 {
				best := 0
				for j := range choices {
					if counts[j] <= teeth && isBetter(choices[j], counts[j], choices[best], counts[best]) {
						best = j
					}
				}
				checkMostTunes(t, tunes, rest, teeth, choices[best]...)
			}
		}
	}
}

// TestNoLargerChoiceHasAsFewTeeth uses TeethForAll for each choice.
func TestNoLargerChoiceHasAsFewTeeth(t *testing.T) {
	for _, tunes := range manyPrograms() {
		if len(tunes) > 6 {
			continue
		}
		for _, teeth := range []int{0, 1, 2, 3, 4, 6, 9, 24, 40, 100} {
			most, ok := impl.MostTunes(tunes, 3, teeth)
			needed := impl.TeethForAll(tunes, most, 3)
			if !ok || needed < 0 || needed > teeth {
				t.Errorf("MostTunes(%v, 3, %d) = %v, %v needs %d teeth", tunes, teeth, most, ok, needed)
			}
			for _, other := range choicesOf(len(tunes)) {
				count := impl.TeethForAll(tunes, other, 3)
				if count <= teeth && isBetter(other, count, most, needed) {
					t.Errorf("MostTunes(%v, 3, %d) = %v, but %v is better", tunes, teeth, most, other)
				}
			}
		}
	}
}

func TestExtraTeeth(t *testing.T) {
	for _, c := range []struct {
		chosen []int
		k      int
		rest   int
		want   int
	}{
		{nil, 0, 2, 2},
		{nil, 1, 2, 1},
		{nil, 2, 2, 2},
		{nil, 2, 1, 1},
		{[]int{}, 0, 1, 2},
		{[]int{0}, 1, 2, 0},
		{[]int{0}, 2, 2, 2},
		{[]int{1}, 0, 2, 1},
		{[]int{1}, 2, 2, 2},
		{[]int{2}, 0, 2, 2},
		{[]int{2}, 1, 2, 1},
		{[]int{0, 1}, 2, 2, 2},
		{[]int{0, 2}, 1, 2, 0},
		{[]int{1, 2}, 0, 2, 1},
		// Chosen already: the first one, the last one and all.
		{[]int{0}, 0, 2, 0},
		{[]int{2}, 2, 2, 0},
		{[]int{0, 2}, 0, 2, 0},
		{[]int{0, 2}, 2, 2, 0},
		{[]int{0, 1, 2}, 0, 2, 0},
		{[]int{0, 1, 2}, 1, 2, 0},
		{[]int{0, 1, 2}, 2, 2, 0},
		// No tune k.
		{nil, -1, 2, -1},
		{nil, 3, 2, -1},
		{nil, 4, 2, -1},
		{[]int{0}, -1, 2, -1},
		{[]int{0}, 3, 2, -1},
		{[]int{0, 1, 2}, -1, 2, -1},
		{[]int{0, 1, 2}, 3, 2, -1},
		{[]int{0}, math.MinInt64, 2, -1},
		{[]int{0}, math.MaxInt64, 2, -1},
	} {
		checkExtraTeeth(t, threeTunes(), c.chosen, c.k, c.rest, c.want)
	}
	checkExtraTeeth(t, nil, nil, 0, 1, -1)
	checkExtraTeeth(t, nil, nil, -1, 1, -1)
	checkExtraTeeth(t, silent(2), nil, 1, 1, 0)
	checkExtraTeeth(t, silent(2), []int{0}, 1, 1, 0)
	checkExtraTeeth(t, eightTunes(), nil, 7, 1, 1)
	checkExtraTeeth(t, eightTunes(), teethFrom(0, 7), 7, 100, 1)
	checkExtraTeeth(t, eightTunes(), nil, 8, 1, -1)
	// The same tune once more.
	checkExtraTeeth(t, [][]impl.Note{at(9, 0, 1), at(9, 0, 1)}, []int{0}, 1, 2, 0)
	// Only some teeth of a pitch are there.
	checkExtraTeeth(t, [][]impl.Note{at(9, 0, 1), at(9, 0, 1, 2, 3)}, []int{0}, 1, 4, 2)
	// More teeth than a comb can have.
	checkExtraTeeth(t, [][]impl.Note{row(24), notesAtOneTime(40)}, []int{0}, 1, 100, 39)
	checkExtraTeeth(t, [][]impl.Note{row(40), moved(row(40), 0, 1)}, []int{1}, 0, 100, 40)
}

// TestExtraTeethIsTheDifference compares the teeth with and without the tune.
func TestExtraTeethIsTheDifference(t *testing.T) {
	for _, tunes := range manyPrograms() {
		for _, chosen := range choicesOf(len(tunes)) {
			without := len(teethOfAll(tunes, chosen, 4))
			for k := range tunes {
				with := slices.Concat(chosen, []int{k})
				checkExtraTeeth(t, tunes, chosen, k, 4, len(teethOfAll(tunes, with, 4))-without)
			}
		}
	}
}

// TestProgramsKeepTheirArguments looks for shared memory, also behind the end.
func TestProgramsKeepTheirArguments(t *testing.T) {
	backing := notes(0, 3, 1, 4, 0, 7, 1, 7, 5, 5)
	tunes := [][]impl.Note{backing[:2], backing[2:4], backing[:0]}
	chosen := []int{0, 2, 1, 7}
	notesBefore, chosenBefore := slices.Clone(backing), slices.Clone(chosen)
	spoil := func(list []int) {
		for k := range list {
			list[k] = 77
		}
		_ = append(list, 78)
	}
	comb, ok := impl.CombForAll(tunes, chosen[:2], 2)
	spoil(comb)
	most, chose := impl.MostTunes(tunes, 2, 3)
	spoil(most)
	if !ok || !chose || impl.TeethForAll(tunes, chosen[:2], 2) != 2 || impl.ExtraTeeth(tunes, chosen[:2], 1, 2) != 2 {
		t.Errorf("%v of %v do not need two teeth, and two more", chosen[:2], tunes)
	}
	impl.ExtraTeeth(tunes, chosen[:0], 1, 2)
	impl.CombForAll(tunes, chosen[:3], 2)
	if !slices.Equal(backing, notesBefore) || !slices.Equal(chosen, chosenBefore) {
		t.Errorf("the arguments changed to %v and %v", backing, chosen)
	}
	if len(tunes) != 3 || len(tunes[0]) != 2 || len(tunes[1]) != 2 || len(tunes[2]) != 0 {
		t.Errorf("the tunes changed to %v", tunes)
	}
	checkMostTunes(t, tunes, 2, 3, 0, 2)
	checkCombForAll(t, tunes, []int{0, 2}, 2, []int{3, 4})
}

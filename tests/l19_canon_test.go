package tests

import (
	"slices"
	"testing"

	"loop.example/g03309/impl"
)

// Promise 19: The best round is the least harsh, and a tune that goes around comes
// back.

func notLater() []int {
	return append(extremes(), -1, 1001, -2, -100, -1000, -1001, 1002, 2000, 1<<32)
}

func notStepsAround() []int {
	return append(extremes(), 0, 1001, -1, -2, -96, -1000, 1002, 2000, 1<<32)
}

func notMost() []int {
	return append(extremes(), 0, 101, -1, -2, -12, -100, 102, 1000, 1<<32)
}

// timesLater has the limits, small numbers, and some in between.
func timesLater() []int {
	return []int{0, 1, 2, 3, 4, 5, 6, 7, 8, 12, 39, 40, 95, 100, 500, 960, 993, 994, 995, 999, 1000}
}

func stepsAroundTurns() []int {
	return []int{1, 2, 3, 4, 5, 6, 7, 8, 12, 16, 39, 40, 41, 96, 97, 500, 999, 1000}
}

// following puts the notes of the tune and those later one by one at their places,
// each once.
func following(tune []impl.Note, later int) ([]impl.Note, bool) {
	var both []impl.Note
	for _, n := range append(slices.Clone(tune), moved(tune, later, 0)...) {
		if slices.Contains(both, n) {
			continue
		}
		place := 0
		for place < len(both) && noteBefore(both[place], n) {
			place++
		}
		both = slices.Insert(both, place, n)
	}
	if len(both) > 40 || len(both) > 0 && both[len(both)-1].Time > 1000 {
		return nil, false
	}
	return both, true
}

// harshLater counts each pair of notes that sound at one time, -1 if there are too
// many notes or they are too late.
func harshLater(tune []impl.Note, later int) int {
	both, ok := following(tune, later)
	if !ok {
		return -1
	}
	pairs := 0
	for i := range both {
		for k := i + 1; k < len(both); k++ {
			if both[i].Time == both[k].Time && !sweetPitches(both[i].Pitch, both[k].Pitch) {
				pairs++
			}
		}
	}
	return pairs
}

// bestOfRounds looks for the least number of harsh pairs, and then where it is.
func bestOfRounds(tune []impl.Note, most int) int {
	var harsh []int
	for later := 1; later <= most; later++ {
		harsh = append(harsh, harshLater(tune, later))
	}
	possible := slices.DeleteFunc(slices.Clone(harsh), func(pairs int) bool { return pairs < 0 })
	if len(possible) == 0 {
		return -1
	}
	return slices.Index(harsh, slices.Min(possible)) + 1
}

// goneAround puts the pitches at the steps of a turn, to which the notes go step by
// step.
func goneAround(tune []impl.Note, later int, steps int) ([]impl.Note, bool) {
	turn := make([][]int, steps)
	for _, n := range tune {
		place := n.Time + later
		for place >= steps {
			place -= steps
		}
		if slices.Contains(turn[place], n.Pitch) {
			return nil, false
		}
		turn[place] = append(turn[place], n.Pitch)
	}
	var around []impl.Note
	for place, pitches := range turn {
		slices.Sort(pitches)
		around = append(around, atTime(place, pitches...)...)
	}
	return around, true
}

// atTime has a note for each pitch, all at one time.
func atTime(time int, pitches ...int) []impl.Note {
	return moved(atOnce(pitches...), time-3, 0)
}

// everyOther has n notes, one at each even time.
func everyOther(n int, pitches ...int) []impl.Note {
	var tune []impl.Note
	for k := range n {
		tune = append(tune, impl.Note{Time: 2 * k, Pitch: pitches[k%len(pitches)]})
	}
	return tune
}

// inCycles has 24 notes. With itself it has too many of them after odd numbers of
// steps, harsh ones after 2, and none that are harsh after 4.
func inCycles() []impl.Note {
	var tune []impl.Note
	for k := range 6 {
		tune = append(tune, notes(4*k, 0, 4*k, 4, 4*k+2, 0, 4*k+2, 5)...)
	}
	return tune
}

// ruler has 19 notes: with itself it has a harsh pair after each number of steps from
// 1 to 99, and none after 100.
func ruler() []impl.Note {
	tune := append(notes(0, 0), at(1, 1, 2, 3, 4, 5, 6, 7, 8, 9)...)
	return append(tune, at(2, 19, 29, 39, 49, 59, 69, 79, 89, 99)...)
}

// roundTunes has the many tunes and those made for this chapter.
func roundTunes() [][]impl.Note {
	tunes := append(manyTunes(), ruler(), inCycles(), moved(inCycles(), 974, 50), everyOther(30, 9), everyOther(30, 0, 1),
		everyOther(20, 0, 1, 2), row(20), row(21), row(39), inTime(12, 14, 16), inTime(0, 1, 2), inTime(0, 1, 2, 3, 4, 5),
		inTime(9, 8, 7, 6, 5, 6, 7, 8), atTime(1000, 1, 2), atTime(999, 1, 2), atTime(0, 1, 2, 3), spread(12), spread(40),
		inFours(), inFours()[:20])
	for seed := range 60 {
		var pitches []int
		for k := range 3 + seed%18 {
			pitches = append(pitches, (seed*(k+3)+k*k*(seed%7))%(5+seed%30))
		}
		tunes = append(tunes, inTime(pitches...), moved(inTime(pitches...), 960+seed%17, 0))
	}
	return tunes
}

func checkWithItself(t *testing.T, tune []impl.Note, later int, want []impl.Note) {
	t.Helper()
	if got, ok := impl.WithItself(tune, later); !slices.Equal(got, want) || !ok {
		t.Errorf("WithItself(%v, %d) = %v, %v, want %v, true", tune, later, got, ok, want)
	}
}

// checkNotWithItself also asks for the harsh pairs, which are not there either.
func checkNotWithItself(t *testing.T, tune []impl.Note, later int) {
	t.Helper()
	if got, ok := impl.WithItself(tune, later); len(got) != 0 || ok {
		t.Errorf("WithItself(%v, %d) = %v, %v, want nil, false", tune, later, got, ok)
	}
	checkRoundHarsh(t, tune, later, -1)
}

func checkRoundHarsh(t *testing.T, tune []impl.Note, later int, want int) {
	t.Helper()
	if got := impl.RoundHarsh(tune, later); got != want {
		t.Errorf("RoundHarsh(%v, %d) = %d, want %d", tune, later, got, want)
	}
}

func checkBestRound(t *testing.T, tune []impl.Note, most int, want int) {
	t.Helper()
	if got := impl.BestRound(tune, most); got != want {
		t.Errorf("BestRound(%v, %d) = %d, want %d", tune, most, got, want)
	}
}

func checkAround(t *testing.T, tune []impl.Note, later int, steps int, want []impl.Note) {
	t.Helper()
	if got, ok := impl.AroundTurn(tune, later, steps); !slices.Equal(got, want) || !ok {
		t.Errorf("AroundTurn(%v, %d, %d) = %v, %v, want %v, true", tune, later, steps, got, ok, want)
	}
	checkSameAround(t, tune, later, steps, slices.Equal(tune, want))
}

// checkNotAround also asks whether the tune is the same around, which it is not.
func checkNotAround(t *testing.T, tune []impl.Note, later int, steps int) {
	t.Helper()
	if got, ok := impl.AroundTurn(tune, later, steps); len(got) != 0 || ok {
		t.Errorf("AroundTurn(%v, %d, %d) = %v, %v, want nil, false", tune, later, steps, got, ok)
	}
	checkSameAround(t, tune, later, steps, false)
}

func checkSameAround(t *testing.T, tune []impl.Note, later int, steps int, want bool) {
	t.Helper()
	if got := impl.SameAround(tune, later, steps); got != want {
		t.Errorf("SameAround(%v, %d, %d) = %v, want %v", tune, later, steps, got, want)
	}
}

func TestWithItself(t *testing.T) {
	for _, c := range []struct {
		tune  []impl.Note
		later int
		want  []impl.Note
	}{
		{impl.SampleTune(), 1, notes(0, 12, 1, 12, 2, 16, 3, 16, 4, 12, 4, 19, 5, 12, 5, 19, 6, 16, 7, 16)},
		{impl.SampleTune(), 7, append(impl.SampleTune(), moved(impl.SampleTune(), 7, 0)...)},
		{notes(3, 50, 5, 40), 1, notes(3, 50, 4, 50, 5, 40, 6, 40)},
		{notes(3, 50, 5, 40), 2, notes(3, 50, 5, 40, 5, 50, 7, 40)},
		{notes(3, 40, 5, 50), 2, notes(3, 40, 5, 40, 5, 50, 7, 50)}, {atTime(8, 1, 5), 9, notes(8, 1, 8, 5, 17, 1, 17, 5)},
		// Later by 0.
		{impl.SampleTune(), 0, impl.SampleTune()}, {row(40), 0, row(40)}, {row(21), 0, row(21)},
		{notesAtOneTime(40), 0, notesAtOneTime(40)}, {notes(1000, 60), 0, notes(1000, 60)},
		{notes(0, 0, 0, 60, 1000, 0, 1000, 60), 0, notes(0, 0, 0, 60, 1000, 0, 1000, 60)},
		// One note.
		{notes(7, 20), 0, notes(7, 20)}, {notes(7, 20), 1, notes(7, 20, 8, 20)}, {notes(7, 20), 993, notes(7, 20, 1000, 20)},
		{notes(0, 0), 1, notes(0, 0, 1, 0)}, {notes(0, 60), 1000, notes(0, 60, 1000, 60)},
		{notes(999, 5), 1, notes(999, 5, 1000, 5)},
		// Without notes.
		{nil, 0, nil}, {nil, 1, nil}, {nil, 1000, nil}, {[]impl.Note{}, 0, nil}, {[]impl.Note{}, 1000, nil},
		// Moved notes fall on notes that are there.
		{impl.SampleTune(), 4, notes(0, 12, 2, 16, 4, 12, 4, 19, 6, 16, 8, 12, 8, 19, 10, 16)},
		{at(9, 0, 3, 6), 3, at(9, 0, 3, 6, 9)}, {at(9, 0, 3, 6), 6, at(9, 0, 3, 6, 9, 12)},
		{inTime(1, 2, 1, 2), 2, inTime(1, 2, 1, 2, 1, 2)}, {row(7), 1, row(8)},
		{notes(0, 1, 0, 5, 2, 1, 2, 6), 2, notes(0, 1, 0, 5, 2, 1, 2, 5, 2, 6, 4, 1, 4, 6)},
		// The last note just reaches the greatest time.
		{impl.SampleTune(), 994, append(impl.SampleTune(), moved(impl.SampleTune(), 994, 0)...)},
		{row(20), 981, append(row(20), moved(row(20), 981, 0)...)}, {at(5, 990, 995), 5, at(5, 990, 995, 1000)},
		{at(5, 0, 500), 500, at(5, 0, 500, 1000)}, {notes(0, 4, 999, 4), 1, notes(0, 4, 1, 4, 999, 4, 1000, 4)},
		// Both have 40 notes.
		{row(39), 1, row(40)}, {row(20), 20, row(40)}, {row(21), 19, row(40)}, {row(30), 10, row(40)},
		{everyOther(20, 30), 1, row(40)},
		{notesAtOneTime(20), 1, append(notesAtOneTime(20), moved(notesAtOneTime(20), 1, 0)...)},
		{everyOther(38, 7), 4, everyOther(40, 7)},
	} {
		checkWithItself(t, c.tune, c.later, c.want)
	}
}

func TestNotWithItself(t *testing.T) {
	for _, c := range []struct {
		tune  []impl.Note
		later int
	}{
		// The last note goes over the greatest time by one step, or by more.
		{impl.SampleTune(), 995}, {notes(7, 20), 994}, {notes(999, 5), 2}, {notes(1000, 60), 1}, {notes(0, 0, 1000, 60), 1},
		{at(5, 990, 995), 6}, {notes(1, 0), 1000}, {row(20), 982}, {atTime(1000, 1, 2), 1}, {notes(1000, 60), 1000},
		{row(2), 1000},
		// Too many notes: 41 and more.
		{row(40), 1}, {row(21), 20}, {row(39), 2}, {row(30), 11}, {row(21), 21}, {row(40), 40}, {row(40), 960},
		{everyOther(39, 7), 4}, {everyOther(21, 30), 1}, {notesAtOneTime(21), 1}, {notesAtOneTime(40), 992}, {inCycles(), 1},
		{spread(40), 1}, {inFours(), 7},
		// Both.
		{row(40), 961}, {row(40), 1000}, {notesAtOneTime(40), 993},
	} {
		checkNotWithItself(t, c.tune, c.later)
	}
}

func TestLaterOutOfRange(t *testing.T) {
	for _, tune := range append(roundTunes(), []impl.Note{}) {
		for _, later := range notLater() {
			checkNotWithItself(t, tune, later)
			for _, steps := range []int{1, 4, 96, 1000} {
				checkNotAround(t, tune, later, steps)
			}
		}
	}
}

func TestRoundHarsh(t *testing.T) {
	for _, c := range []struct {
		tune  []impl.Note
		later int
		want  int
	}{
		{inTime(12, 14, 16), 0, 0}, {inTime(12, 14, 16), 1, 2}, {inTime(12, 14, 16), 2, 0}, {inTime(12, 14, 16), 3, 0},
		{inTime(12, 14, 16), 998, 0}, {inTime(12, 14, 16), 999, -1}, {inTime(0, 1, 2), 1, 2}, {inTime(0, 1, 2), 2, 1},
		{inTime(0, 1, 2), 3, 0}, {impl.SampleTune(), 0, 0}, {impl.SampleTune(), 2, 0}, {impl.SampleTune(), 1, 0},
		{impl.SampleTune(), 994, 0}, {impl.SampleTune(), 995, -1},
		// One note and none.
		{notes(7, 20), 0, 0}, {notes(7, 20), 1, 0}, {notes(7, 20), 993, 0}, {notes(7, 20), 994, -1}, {nil, 0, 0}, {nil, 1, 0},
		{nil, 1000, 0},
		// The pairs of the tune itself are there once, and then twice.
		{atOnce(3, 4), 0, 1}, {atOnce(3, 4), 1, 2}, {atOnce(3, 4), 997, 2}, {atOnce(3, 4), 998, -1}, {atOnce(0, 1, 2), 5, 6},
		{notes(0, 0, 1, 1, 1, 2), 1, 4}, {notes(0, 0, 1, 1, 1, 2), 2, 2}, {notes(0, 0, 1, 3, 1, 4), 1, 2},
		// Notes that are in both are not harsh to themselves, and count once.
		{at(9, 0, 3, 6), 3, 0}, {notes(0, 0, 0, 1, 2, 0, 2, 1), 2, 3}, {notes(0, 0, 0, 1, 2, 0, 2, 2), 2, 5}, {row(39), 1, 0},
		{inCycles(), 2, 11}, {inCycles(), 4, 0}, {inCycles(), 1, -1},
	} {
		checkRoundHarsh(t, c.tune, c.later, c.want)
	}
}

// TestRoundsOfManyTunes compares each round with its notes put in one by one, and
// with JoinTunes and HarshPairs.
func TestRoundsOfManyTunes(t *testing.T) {
	for _, tune := range roundTunes() {
		for _, later := range timesLater() {
			want, ok := following(tune, later)
			if !ok {
				checkNotWithItself(t, tune, later)
				continue
			}
			checkWithItself(t, tune, later, want)
			checkRoundHarsh(t, tune, later, harshLater(tune, later))
			joined, ok := impl.JoinTunes(tune, moved(tune, later, 0))
			if !ok || !slices.Equal(joined, want) || impl.HarshPairs(joined) != impl.RoundHarsh(tune, later) {
				t.Errorf("WithItself(%v, %d): JoinTunes = %v, %v", tune, later, joined, ok)
			}
		}
	}
}

func TestBestRound(t *testing.T) {
	late := moved(inTime(0, 1, 2), 996, 0)
	for _, c := range []struct {
		tune []impl.Note
		most int
		want int
	}{
		{inTime(12, 14, 16), 1, 1}, {inTime(12, 14, 16), 2, 2}, {inTime(12, 14, 16), 5, 2}, {inTime(12, 14, 16), 100, 2},
		{inTime(0, 1, 2), 1, 1}, {inTime(0, 1, 2), 2, 2}, {inTime(0, 1, 2), 3, 3}, {inTime(0, 1, 2), 4, 3},
		{inTime(0, 1, 2), 100, 3},
		// One note, and none: all are equally harsh.
		{notes(7, 20), 1, 1}, {notes(7, 20), 2, 1}, {notes(7, 20), 100, 1}, {notes(0, 0), 100, 1}, {notes(999, 60), 1, 1},
		{notes(999, 60), 100, 1}, {nil, 1, 1}, {nil, 12, 1}, {nil, 100, 1}, {[]impl.Note{}, 100, 1},
		// Several ones are equally harsh, also more than 0 times.
		{impl.SampleTune(), 100, 1}, {atOnce(0, 1), 1, 1}, {atOnce(0, 1), 100, 1}, {atOnce(0, 1, 2, 3), 50, 1},
		{inTime(0, 1), 100, 2}, {notes(0, 0, 1, 1, 1, 2), 100, 2}, {notes(0, 0, 3, 4, 3, 5, 4, 11), 100, 2},
		{at(9, 0, 3, 6), 100, 1},
		// The least harsh one comes ahead of harsher ones.
		{inTime(0, 5, 10), 2, 1}, {inTime(0, 5, 10), 100, 1}, {inTime(3, 6, 1, 4), 3, 1}, {inTime(0, 12, 1, 13), 2, 1},
		{inTime(0, 12, 1, 13), 3, 1}, {inTime(0, 12, 1, 13), 4, 4}, {inTime(0, 0, 6, 6, 6), 4, 1},
		{inTime(0, 0, 6, 6, 6), 100, 5}, {inTime(0, 1, 5, 6), 1, 1}, {inTime(0, 1, 5, 6), 2, 2}, {inTime(0, 1, 5, 6), 3, 2},
		{inTime(0, 1, 5, 6), 100, 2},
		// Only the greatest number of all is not harsh, or one that is just too great.
		{ruler(), 100, 100}, {ruler(), 99, 1}, {append(ruler(), notes(100, 2)...), 100, 1},
		// Numbers that are not possible come ahead, between the others, and behind them.
		{inCycles(), 2, 2}, {inCycles(), 3, 2}, {inCycles(), 4, 4}, {inCycles(), 5, 4}, {inCycles(), 100, 4},
		{everyOther(30, 9), 2, 2}, {everyOther(30, 9), 100, 2}, {everyOther(30, 0, 1), 4, 4}, {everyOther(30, 0, 1), 100, 4},
		{moved(inCycles(), 976, 0), 100, 2}, {moved(inCycles(), 975, 0), 100, 2}, {moved(inCycles(), 974, 0), 100, 4},
		{row(30), 100, 1}, {row(39), 100, 1}, {late, 1, 1}, {late, 2, 2}, {late, 3, 2}, {late, 100, 2},
		{moved(late, 1, 0), 100, 1}, {notes(0, 0, 990, 3), 100, 1},
		// None is possible.
		{inCycles(), 1, -1}, {everyOther(30, 9), 1, -1}, {everyOther(30, 0, 1), 3, -1}, {notes(1000, 60), 1, -1},
		{notes(1000, 60), 100, -1}, {moved(late, 2, 0), 100, -1}, {notes(0, 0, 1000, 0), 100, -1}, {row(40), 1, -1},
		{row(40), 100, -1}, {notesAtOneTime(40), 100, -1}, {notesAtOneTime(21), 100, -1}, {spread(40), 100, -1},
		{inFours(), 100, -1}, {atTime(1000, 1, 2), 100, -1},
	} {
		checkBestRound(t, c.tune, c.most, c.want)
	}
}

// TestBestRoundIsTheLeastHarsh compares it with all other numbers from 1 to most.
func TestBestRoundIsTheLeastHarsh(t *testing.T) {
	for _, tune := range roundTunes() {
		for most := 1; most <= 12; most++ {
			best := impl.BestRound(tune, most)
			if best == 0 || best < -1 || best > most {
				t.Errorf("BestRound(%v, %d) = %d", tune, most, best)
			}
			least := impl.RoundHarsh(tune, best)
			if (best == -1) != (least == -1) {
				t.Errorf("BestRound(%v, %d) = %d with RoundHarsh %d", tune, most, best, least)
			}
			for later := 1; later <= most; later++ {
				harsh := impl.RoundHarsh(tune, later)
				if harsh != -1 && (best == -1 || harsh < least || harsh == least && later < best) {
					t.Errorf("BestRound(%v, %d) = %d with RoundHarsh %d, and %d with %d", tune, most, best, least, later, harsh)
				}
			}
		}
	}
}

func TestBestRoundOfManyTunes(t *testing.T) {
	later, none := 0, 0
	for _, tune := range roundTunes() {
		for _, most := range []int{1, 2, 3, 4, 5, 7, 12, 13, 40, 99, 100} {
			want := bestOfRounds(tune, most)
			checkBestRound(t, tune, most, want)
			if want > 1 {
				later++
			} else if want < 0 {
				none++
			}
		}
	}
	if later < 200 || none < 200 {
		t.Errorf("%d rounds that are not the first one, and %d that are not there", later, none)
	}
}

func TestMostOutOfRange(t *testing.T) {
	for _, tune := range append(roundTunes(), []impl.Note{}) {
		for _, most := range notMost() {
			checkBestRound(t, tune, most, -1)
		}
	}
}

func TestAroundTurn(t *testing.T) {
	for _, c := range []struct {
		tune         []impl.Note
		later, steps int
		want         []impl.Note
	}{
		{impl.SampleTune(), 0, 7, impl.SampleTune()}, {impl.SampleTune(), 1, 8, moved(impl.SampleTune(), 1, 0)},
		{impl.SampleTune(), 0, 1000, impl.SampleTune()}, {impl.SampleTune(), 993, 1000, moved(impl.SampleTune(), 993, 0)},
		// The order of the notes changes.
		{inTime(12, 14, 16), 1, 3, inTime(16, 12, 14)}, {inTime(12, 14, 16), 2, 3, inTime(14, 16, 12)},
		{impl.SampleTune(), 1, 7, notes(0, 16, 1, 12, 3, 16, 5, 12, 5, 19)},
		{impl.SampleTune(), 3, 7, notes(0, 12, 0, 19, 2, 16, 3, 12, 5, 16)}, {notes(0, 50, 9, 3), 1, 10, notes(0, 3, 1, 50)},
		{notes(0, 0, 0, 60, 9, 30), 5, 10, notes(4, 30, 5, 0, 5, 60)},
		{notes(2, 1, 11, 2, 23, 3), 0, 10, notes(1, 2, 2, 1, 3, 3)}, {notes(996, 7, 1000, 8), 1000, 997, notes(2, 7, 6, 8)},
		// Notes with different pitches that come to one time, in any order.
		{impl.SampleTune()[:4], 0, 3, notes(0, 12, 1, 12, 1, 19, 2, 16)}, {notes(0, 5, 4, 3), 0, 4, notes(0, 3, 0, 5)},
		{notes(0, 3, 4, 5), 0, 4, notes(0, 3, 0, 5)}, {notes(0, 5, 4, 3), 3, 4, notes(3, 3, 3, 5)},
		{notes(0, 9, 1, 8, 2, 7, 3, 6), 1, 2, notes(0, 6, 0, 8, 1, 7, 1, 9)},
		{notes(0, 0, 1000, 60), 0, 1000, notes(0, 0, 0, 60)}, {notes(0, 60, 1000, 0), 1, 1000, notes(1, 0, 1, 60)},
		// One note.
		{notes(7, 20), 0, 8, notes(7, 20)}, {notes(7, 20), 1, 8, notes(0, 20)}, {notes(7, 20), 5, 8, notes(4, 20)},
		{notes(7, 20), 8, 8, notes(7, 20)}, {notes(7, 20), 13, 8, notes(4, 20)}, {notes(7, 20), 1000, 8, notes(7, 20)},
		{notes(7, 20), 0, 7, notes(0, 20)}, {notes(7, 20), 3, 4, notes(2, 20)}, {notes(7, 20), 0, 1, notes(0, 20)},
		{notes(7, 20), 1, 1, notes(0, 20)}, {notes(7, 20), 1000, 1, notes(0, 20)}, {notes(0, 0), 0, 1, notes(0, 0)},
		{notes(1000, 60), 1000, 999, notes(2, 60)}, {notes(1000, 60), 1000, 1000, notes(0, 60)},
		{notes(1000, 60), 0, 1000, notes(0, 60)}, {notes(1000, 60), 999, 1000, notes(999, 60)},
		{notes(0, 1), 1000, 1000, notes(0, 1)}, {notes(0, 1), 999, 1000, notes(999, 1)},
		// Without notes.
		{nil, 0, 1, nil}, {nil, 1000, 1000, nil}, {[]impl.Note{}, 3, 8, nil},
		// All at one step.
		{inTime(9, 8, 7), 0, 1, atTime(0, 7, 8, 9)}, {inTime(9, 8, 7), 1000, 1, atTime(0, 7, 8, 9)},
		{inTime(teethFrom(5, 40)...), 7, 1, atTime(0, teethFrom(5, 40)...)},
		// 40 notes.
		{row(40), 5, 40, row(40)}, {row(40), 5, 41, append(row(4), moved(row(36), 5, 0)...)},
		{row(40), 960, 1000, moved(row(40), 960, 0)}, {row(40), 961, 1000, append(row(1), moved(row(39), 961, 0)...)},
		{notesAtOneTime(40), 3, 4, moved(notesAtOneTime(40), -5, 0)}, {notesAtOneTime(40), 1000, 1000, notesAtOneTime(40)},
	} {
		checkAround(t, c.tune, c.later, c.steps, c.want)
	}
}

func TestNotAround(t *testing.T) {
	for _, c := range []struct {
		tune         []impl.Note
		later, steps int
	}{
		// Two notes with one pitch come to one time.
		{at(5, 0, 3), 0, 3}, {at(5, 0, 3), 0, 1}, {at(5, 0, 3), 1, 3}, {at(5, 0, 3), 1000, 3}, {at(5, 1, 9), 3, 4},
		{at(5, 1, 9), 0, 8}, {at(0, 0, 1000), 0, 1000}, {at(60, 0, 1000), 1000, 1000}, {at(0, 0, 1000), 0, 500},
		{at(7, 999, 1000), 1000, 1}, {impl.SampleTune(), 0, 4}, {impl.SampleTune(), 3, 4}, {impl.SampleTune(), 0, 1},
		{impl.SampleTune(), 9, 2},
		// Others come to one time too, or are between them.
		{notes(0, 3, 0, 5, 4, 4, 4, 5), 0, 4}, {notes(0, 3, 0, 5, 4, 4, 4, 5), 7, 2}, {notes(0, 9, 1, 3, 2, 4, 3, 9), 0, 3},
		{notes(0, 1, 1, 2, 2, 3, 5, 3, 6, 4), 2, 3}, {notes(0, 9, 1, 8, 2, 7, 3, 9), 2, 1},
		// 40 notes.
		{row(40), 5, 39}, {row(40), 0, 39}, {row(40), 0, 1}, {row(40), 1000, 20}, {inFours(), 0, 1}, {spread(40), 0, 780},
		{spread(40), 0, 1},
	} {
		checkNotAround(t, c.tune, c.later, c.steps)
	}
	// Just enough steps for all times.
	checkAround(t, spread(40), 0, 781, spread(40))
	checkAround(t, spread(40), 1, 781, append(notes(0, 20), moved(spread(39), 1, 0)...))
}

func TestAroundTurnOfManyTunes(t *testing.T) {
	around, not := 0, 0
	for k, tune := range roundTunes() {
		for i, later := range timesLater() {
			// Not all steps of all tunes, as there are many.
			for s := (k + i) % 3; s < len(stepsAroundTurns()); s += 3 {
				steps := stepsAroundTurns()[s]
				if want, ok := goneAround(tune, later, steps); ok {
					checkAround(t, tune, later, steps, want)
					around++
				} else {
					checkNotAround(t, tune, later, steps)
					not++
				}
			}
		}
	}
	if around < 5000 || not < 5000 {
		t.Errorf("%d tunes around a turn, and %d with equal notes", around, not)
	}
}

// turnsFor has steps for which all times of a tune are less.
func turnsFor(tune []impl.Note) []int {
	least := 1
	for _, n := range tune {
		least = max(least, n.Time+1)
	}
	turns := append(stepsAroundTurns(), least, least+1, least+2, 2*least)
	return slices.DeleteFunc(turns, func(steps int) bool { return steps < least || steps > 1000 })
}

// TestATuneThatGoesAroundComesBack moves it by n, and then by what is left of a turn.
func TestATuneThatGoesAroundComesBack(t *testing.T) {
	for _, tune := range roundTunes() {
		for _, steps := range turnsFor(tune) {
			checkAround(t, tune, 0, steps, tune)
			checkAround(t, tune, steps, steps, tune)
			for n := 0; n <= steps; n += 1 + steps/13 {
				around, ok := impl.AroundTurn(tune, n, steps)
				if !ok || !impl.TuneOk(around) || len(around) != len(tune) {
					t.Fatalf("AroundTurn(%v, %d, %d) = %v, %v", tune, n, steps, around, ok)
				}
				checkAroundOnly(t, around, steps-n, steps, tune)
			}
		}
	}
}

// checkAroundOnly does not ask whether the tune is the same.
func checkAroundOnly(t *testing.T, tune []impl.Note, later int, steps int, want []impl.Note) {
	t.Helper()
	if got, ok := impl.AroundTurn(tune, later, steps); !slices.Equal(got, want) || !ok {
		t.Errorf("AroundTurn(%v, %d, %d) = %v, %v, want %v, true", tune, later, steps, got, ok, want)
	}
}

// TestAroundStepByStep goes around a turn one step at a time.
func TestAroundStepByStep(t *testing.T) {
	for k, tune := range roundTunes() {
		steps := stepsAroundTurns()[k%len(stepsAroundTurns())]
		around, ok := impl.AroundTurn(tune, 0, steps)
		for later := 1; ok && later <= min(3*steps, 150); later++ {
			around, ok = impl.AroundTurn(around, 1, steps)
			if !ok {
				t.Fatalf("AroundTurn(%v, %d, %d): not a step further", tune, later, steps)
			}
			checkAroundOnly(t, tune, later, steps, around)
		}
	}
}

// drumOfPitches has a pin for each note, on the track of its pitch.
func drumOfPitches(tune []impl.Note, steps int) (impl.Cylinder, bool) {
	var pitches []int
	for _, n := range tune {
		pitches = append(pitches, n.Pitch)
	}
	return impl.CylinderOf(tune, pitches, steps, 61)
}

// TestAroundTurnIsThatOfTheCylinder turns the cylinder of the tune as well.
func TestAroundTurnIsThatOfTheCylinder(t *testing.T) {
	turned := 0
	for _, tune := range roundTunes() {
		for _, steps := range []int{4, 7, 12, 40, 96} {
			drum, ok := drumOfPitches(tune, steps)
			for later := 0; ok && later <= 2*steps; later += 1 + steps/7 {
				around, _ := impl.AroundTurn(tune, later, steps)
				want := impl.TurnBy(drum, later)
				if got, ok := drumOfPitches(around, steps); !ok || !sameDrum(got, want) {
					t.Errorf("AroundTurn(%v, %d, %d) = %v, and the cylinder is %v", tune, later, steps, around, want)
				}
				turned++
			}
		}
	}
	if turned < 1000 {
		t.Errorf("only %d tunes were turned", turned)
	}
}

func TestSameAround(t *testing.T) {
	for _, c := range []struct {
		tune         []impl.Note
		later, steps int
		want         bool
	}{
		{inTime(12, 14, 16), 3, 3, true}, {inTime(12, 14, 16), 1, 3, false}, {inTime(12, 14, 16), 0, 3, true},
		{inTime(12, 14, 16), 6, 3, true}, {inTime(12, 14, 16), 3, 4, false}, {inTime(12, 14, 16), 4, 4, true},
		// One note.
		{notes(7, 20), 0, 8, true}, {notes(7, 20), 8, 8, true}, {notes(7, 20), 16, 8, true}, {notes(7, 20), 1000, 8, true},
		{notes(7, 20), 1000, 1000, true}, {notes(7, 20), 0, 1000, true}, {notes(7, 20), 4, 8, false},
		{notes(7, 20), 1, 8, false}, {notes(7, 20), 7, 8, false}, {notes(7, 20), 9, 8, false}, {notes(0, 20), 0, 1, true},
		{notes(0, 20), 1, 1, true}, {notes(0, 20), 1000, 1, true}, {notes(0, 20), 1, 2, false},
		{notes(999, 0), 0, 1000, true},
		// A time is not less than steps.
		{notes(7, 20), 0, 7, false}, {notes(7, 20), 7, 7, false}, {notes(7, 20), 0, 1, false},
		{notes(1000, 0), 0, 1000, false}, {notes(1000, 0), 1000, 1000, false}, {inTime(12, 14, 16), 0, 2, false},
		{row(40), 0, 39, false}, {row(40), 39, 39, false},
		// Without notes.
		{nil, 0, 1, true}, {nil, 1, 7, true}, {nil, 1000, 1000, true}, {[]impl.Note{}, 3, 8, true}, {nil, -1, 8, false},
		{nil, 1001, 8, false}, {nil, 3, 0, false}, {nil, 3, 1001, false},
		// The tune is the same after less than a turn.
		{at(7, 0, 2, 4), 2, 6, true}, {at(7, 0, 2, 4), 4, 6, true}, {at(7, 0, 2, 4), 1, 6, false},
		{at(7, 0, 2, 4), 3, 6, false}, {at(7, 0, 2, 4), 6, 6, true}, {at(7, 0, 2, 4), 8, 6, true},
		{at(7, 0, 2, 4), 2, 7, false}, {at(7, 1, 501), 500, 1000, true}, {at(7, 1, 501), 250, 1000, false},
		{inTime(5, 9, 5, 9), 2, 4, true}, {inTime(5, 9, 5, 9), 1, 4, false}, {inTime(5, 9, 5, 8), 2, 4, false},
		{notes(0, 1, 3, 2), 3, 6, false}, {notes(0, 1, 0, 5, 3, 1, 3, 5), 3, 6, true},
		{notes(0, 1, 0, 5, 3, 1, 3, 6), 3, 6, false}, {notes(0, 1, 1, 2, 3, 1, 4, 2, 6, 1, 7, 2), 3, 9, true},
		{notes(0, 1, 1, 2, 3, 1, 4, 2, 6, 1, 7, 2), 6, 9, true}, {notes(0, 1, 1, 2, 3, 1, 4, 2, 6, 1, 8, 2), 3, 9, false},
		{notes(0, 1, 1, 2, 3, 1, 4, 2), 3, 9, false},
		// 40 notes.
		{row(40), 0, 40, true}, {row(40), 1, 40, true}, {row(40), 17, 40, true}, {row(40), 1000, 40, true},
		{row(40), 1, 41, false}, {row(40), 41, 41, true}, {everyOther(40, 7), 2, 80, true}, {everyOther(40, 7), 1, 80, false},
		{everyOther(40, 7, 8), 2, 80, false}, {everyOther(40, 7, 8), 4, 80, true}, {everyOther(40, 7, 8, 9, 8), 8, 80, true},
		{everyOther(40, 7, 8, 9, 8), 4, 80, false}, {notesAtOneTime(40), 9, 9, true}, {notesAtOneTime(40), 8, 9, false},
		{inFours(), 70, 70, true}, {inFours(), 7, 70, false}, {spread(40), 781, 781, true}, {spread(40), 1, 781, false},
	} {
		checkSameAround(t, c.tune, c.later, c.steps, c.want)
	}
}

// TestSameAroundInGrids has all tunes of a few steps, many of which are the same after
// a part of a turn.
func TestSameAroundInGrids(t *testing.T) {
	parts := 0
	for _, tune := range gridTunes(6, 2) {
		for steps := 1; steps <= 7; steps++ {
			for later := range 9 {
				around, ok := impl.AroundTurn(tune, later, steps)
				same := ok && slices.Equal(around, tune)
				checkSameAround(t, tune, later, steps, same)
				if same && later%steps > 0 && len(tune) > 0 {
					parts++
				}
				if want, fits := goneAround(tune, later, steps); fits != ok || !slices.Equal(around, want) {
					t.Errorf("AroundTurn(%v, %d, %d) = %v, %v, want %v, %v", tune, later, steps, around, ok, want, fits)
				}
			}
		}
	}
	if parts < 100 {
		t.Errorf("only %d tunes are the same after a part of a turn", parts)
	}
}

func TestStepsAroundOutOfRange(t *testing.T) {
	for _, tune := range append(roundTunes(), []impl.Note{}) {
		for _, steps := range notStepsAround() {
			for _, later := range []int{0, 1, 3, 1000} {
				checkNotAround(t, tune, later, steps)
			}
			for _, later := range notLater() {
				checkNotAround(t, tune, later, steps)
			}
		}
	}
}

func TestRoundsOfInvalidTunes(t *testing.T) {
	for _, tune := range invalidTunes() {
		for _, later := range append(notLater(), timesLater()...) {
			checkNotWithItself(t, tune, later)
			for _, steps := range append(notStepsAround(), stepsAroundTurns()...) {
				checkNotAround(t, tune, later, steps)
			}
		}
		for _, most := range append(notMost(), 1, 2, 12, 99, 100) {
			checkBestRound(t, tune, most, -1)
		}
	}
}

func TestRoundsKeepTheirArguments(t *testing.T) {
	backing := notes(2, 13, 2, 14, 3, 9, 8, 8, 1, 1)
	withItself := func(later int) func([]impl.Note) []impl.Note {
		return func(tune []impl.Note) []impl.Note {
			both, _ := impl.WithItself(tune, later)
			return both
		}
	}
	aroundTurn := func(later int, steps int) func([]impl.Note) []impl.Note {
		return func(tune []impl.Note) []impl.Note {
			around, _ := impl.AroundTurn(tune, later, steps)
			return around
		}
	}
	for name, call := range map[string]func([]impl.Note) []impl.Note{
		"WithItself by 0":           withItself(0),
		"WithItself by 1":           withItself(1),
		"WithItself by 997":         withItself(997),
		"WithItself by 998":         withItself(998),
		"WithItself by 1001":        withItself(1001),
		"AroundTurn by 0":           aroundTurn(0, 9),
		"AroundTurn by a turn":      aroundTurn(9, 9),
		"AroundTurn by 7":           aroundTurn(7, 9),
		"AroundTurn at one time":    aroundTurn(7, 1),
		"AroundTurn with equal":     aroundTurn(0, 6),
		"AroundTurn without steps":  aroundTurn(0, 0),
		"AroundTurn a little later": aroundTurn(1, 1000),
		"RoundHarsh and BestRound": func(tune []impl.Note) []impl.Note {
			impl.RoundHarsh(tune, 1)
			impl.BestRound(tune, 100)
			return nil
		},
		"SameAround": func(tune []impl.Note) []impl.Note {
			impl.SameAround(tune, 7, 9)
			impl.SameAround(tune, 9, 9)
			return nil
		},
	} {
		for size := range len(backing) + 1 {
			checkKeepsArgument(t, name, call, backing, size)
		}
	}
}

// TestRoundResultsAreNew changes results and asks again.
func TestRoundResultsAreNew(t *testing.T) {
	tune := row(3)
	for range 2 {
		both, _ := impl.WithItself(tune, 1)
		itself, _ := impl.WithItself(tune, 0)
		around, _ := impl.AroundTurn(tune, 1, 7)
		same, _ := impl.AroundTurn(tune, 7, 7)
		for _, result := range [][]impl.Note{both, itself, around, same} {
			for k := range result {
				result[k] = impl.Note{Time: 77, Pitch: 7}
			}
			_ = append(result, impl.Note{Time: 78})
		}
		checkWithItself(t, tune, 1, row(4))
		checkWithItself(t, tune, 0, row(3))
		checkAround(t, tune, 1, 7, notes(1, 30, 2, 30, 3, 30))
		checkAround(t, tune, 7, 7, row(3))
	}
}

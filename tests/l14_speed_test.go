package tests

import (
	"slices"
	"testing"

	"loop.example/g03309/impl"
)

// Promise 14: As few turns as possible last long enough, and a shortened tune has
// no common beat.

// notTurnSteps has steps outside their range for TurnTime.
func notTurnSteps() []int {
	return append(extremes(), 0, -1, 97, -2, -24, -96, 98, 192, 1000)
}

func notMilliseconds() []int {
	return append(extremes(), 0, 1001, -1, -2, -250, -1000, 1002, 2000)
}

func notPlayedTurns() []int {
	return append(extremes(), -1, 1001, -2, -1000, 1002, 2000)
}

func notSeconds() []int {
	return append(extremes(), -1, 3601, -2, -3600, 3602, 7200)
}

// notStepsOfTurn has steps outside their range for FitsTurn.
func notStepsOfTurn() []int {
	return append(notTurnSteps(), 3, 2, 1, -3, -4)
}

func stepsOfTurns() []int {
	return []int{1, 2, 3, 4, 7, 13, 16, 24, 48, 59, 60, 90, 95, 96}
}

func someMilliseconds() []int {
	return []int{1, 2, 3, 10, 37, 60, 61, 125, 250, 251, 333, 500, 900, 997, 999, 1000}
}

// someSeconds has the limits of seconds, and more around those that 1000 turns of
// one step and of 96 steps can last.
func someSeconds() []int {
	return []int{0, 1, 2, 3, 59, 60, 61, 95, 96, 97, 100, 599, 999, 1000, 1001, 1800, 3598, 3599, 3600}
}

// eachTurnTime calls with all steps and milliseconds.
func eachTurnTime(call func(steps int, milliseconds int)) {
	for steps := 1; steps <= 96; steps++ {
		for milliseconds := 1; milliseconds <= 1000; milliseconds++ {
			call(steps, milliseconds)
		}
	}
}

// commonBeat is the greatest number that takes the first time of a valid tune to
// each other one in whole steps, and 0 if all times are equal.
func commonBeat(tune []impl.Note) int {
	if impl.Lasts(tune) == 0 {
		return 0
	}
	beat := 1000
	for slices.ContainsFunc(tune, func(n impl.Note) bool { return (n.Time-tune[0].Time)%beat != 0 }) {
		beat--
	}
	return beat
}

// onBeats has the notes of a tune at the times of their beats.
func onBeats(tune []impl.Note) []impl.Note {
	beat := commonBeat(tune)
	var list []impl.Note
	for _, n := range tune {
		time := 0
		for tune[0].Time+time*beat < n.Time {
			time++
		}
		list = append(list, impl.Note{Time: time, Pitch: n.Pitch})
	}
	return list
}

func checkTurnTime(t *testing.T, steps int, milliseconds int, want int) {
	t.Helper()
	if got := impl.TurnTime(steps, milliseconds); got != want {
		t.Errorf("TurnTime(%d, %d) = %d, want %d", steps, milliseconds, got, want)
	}
}

func checkPlayTime(t *testing.T, steps int, milliseconds int, turns int, want int) {
	t.Helper()
	if got := impl.PlayTime(steps, milliseconds, turns); got != want {
		t.Errorf("PlayTime(%d, %d, %d) = %d, want %d", steps, milliseconds, turns, got, want)
	}
}

func checkTurnsFor(t *testing.T, steps int, milliseconds int, seconds int, want int) {
	t.Helper()
	if got := impl.TurnsForTime(steps, milliseconds, seconds); got != want {
		t.Errorf("TurnsForTime(%d, %d, %d) = %d, want %d", steps, milliseconds, seconds, got, want)
	}
}

// checkNoTurn has steps or milliseconds that are not in their range.
func checkNoTurn(t *testing.T, steps int, milliseconds int) {
	t.Helper()
	checkTurnTime(t, steps, milliseconds, -1)
	for _, n := range []int{0, 1, 3, 13, 1000, -1, 1001, 3600, 3601} {
		checkPlayTime(t, steps, milliseconds, n, -1)
		checkTurnsFor(t, steps, milliseconds, n, -1)
	}
}

func checkBeats(t *testing.T, tune []impl.Note, want int) {
	t.Helper()
	if got := impl.BeatsOf(tune); got != want {
		t.Errorf("BeatsOf(%v) = %d, want %d", tune, got, want)
	}
}

func checkShortened(t *testing.T, tune []impl.Note, want []impl.Note) {
	t.Helper()
	if got := impl.Shortened(tune); !slices.Equal(got, want) {
		t.Errorf("Shortened(%v) = %v, want %v", tune, got, want)
	}
}

func checkFits(t *testing.T, tune []impl.Note, steps int, want bool) {
	t.Helper()
	if got := impl.FitsTurn(tune, steps); got != want {
		t.Errorf("FitsTurn(%v, %d) = %v, want %v", tune, steps, got, want)
	}
}

// checkFitsFrom has the least steps of a turn that the tune fits.
func checkFitsFrom(t *testing.T, tune []impl.Note, least int) {
	t.Helper()
	for steps := 4; steps <= 96; steps++ {
		checkFits(t, tune, steps, steps >= least)
	}
}

func TestTurnTime(t *testing.T) {
	for _, c := range []struct{ steps, milliseconds, want int }{
		{24, 250, 6000},
		{24, 251, 6024},
		{1, 1, 1},
		{1, 1000, 1000},
		{96, 1, 96},
		{96, 1000, 96000},
		{95, 999, 94905},
		{2, 1, 2},
		{1, 2, 2},
	} {
		checkTurnTime(t, c.steps, c.milliseconds, c.want)
	}
}

// TestTurnTimeOfAllSteps counts the milliseconds of one step after the other.
func TestTurnTimeOfAllSteps(t *testing.T) {
	for milliseconds := 1; milliseconds <= 1000; milliseconds++ {
		sum := 0
		for steps := 1; steps <= 96; steps++ {
			sum += milliseconds
			checkTurnTime(t, steps, milliseconds, sum)
		}
	}
}

func TestTurnsOutOfRange(t *testing.T) {
	for _, steps := range notTurnSteps() {
		for _, milliseconds := range append(notMilliseconds(), someMilliseconds()...) {
			checkNoTurn(t, steps, milliseconds)
		}
	}
	for _, milliseconds := range notMilliseconds() {
		for _, steps := range stepsOfTurns() {
			checkNoTurn(t, steps, milliseconds)
		}
	}
}

func TestPlayTime(t *testing.T) {
	for _, c := range []struct{ steps, milliseconds, turns, want int }{
		{24, 251, 3, 18},
		// A whole number of seconds, and one millisecond less and more.
		{24, 250, 3, 18},
		{8, 125, 1, 1},
		{37, 27, 1, 0},
		{91, 11, 1, 1},
		{1, 1000, 1, 1},
		{1, 999, 1, 0},
		{1, 1, 1000, 1},
		{1, 1, 999, 0},
		{8, 750, 1, 6},
		{7, 857, 1, 5},
		{60, 60, 1, 3},
		{59, 61, 1, 3},
		// All turns together are rounded down, and not each of them.
		{1, 500, 1, 0},
		{1, 500, 2, 1},
		{1, 500, 3, 1},
		{1, 999, 2, 1},
		{1, 999, 999, 998},
		{37, 27, 1000, 999},
		{3, 333, 1000, 999},
		// No turns.
		{1, 1, 0, 0},
		{24, 250, 0, 0},
		{96, 1000, 0, 0},
		// 1000 turns, which may last longer than can be asked for.
		{1, 1, 1000, 1},
		{1, 1000, 1000, 1000},
		{1, 999, 1000, 999},
		{96, 1, 1000, 96},
		{96, 1, 999, 95},
		{60, 60, 1000, 3600},
		{59, 61, 1000, 3599},
		{96, 1000, 1000, 96000},
		{96, 1000, 999, 95904},
	} {
		checkPlayTime(t, c.steps, c.milliseconds, c.turns, c.want)
	}
}

// TestPlayTimeIsInWholeSeconds counts the milliseconds of one turn after the other,
// and a second whenever there are enough of them.
func TestPlayTimeIsInWholeSeconds(t *testing.T) {
	for steps := 1; steps <= 96; steps++ {
		for _, milliseconds := range someMilliseconds() {
			seconds, rest := 0, 0
			for turns := range 1001 {
				checkPlayTime(t, steps, milliseconds, turns, seconds)
				for rest += impl.TurnTime(steps, milliseconds); rest >= 1000; rest -= 1000 {
					seconds++
				}
			}
		}
	}
}

// TestPlayTimeOfOneTurn has all steps and milliseconds.
func TestPlayTimeOfOneTurn(t *testing.T) {
	eachTurnTime(func(steps int, milliseconds int) {
		checkPlayTime(t, steps, milliseconds, 0, 0)
		checkPlayTime(t, steps, milliseconds, 1000, steps*milliseconds)
		one := impl.PlayTime(steps, milliseconds, 1)
		if time := steps * milliseconds; one*1000 > time || (one+1)*1000 <= time {
			t.Errorf("PlayTime(%d, %d, 1) = %d", steps, milliseconds, one)
		}
	})
}

func TestNumbersOfTurnsOutOfRange(t *testing.T) {
	for _, turns := range notPlayedTurns() {
		for _, steps := range stepsOfTurns() {
			for _, milliseconds := range someMilliseconds() {
				checkPlayTime(t, steps, milliseconds, turns, -1)
			}
		}
	}
}

func TestTurnsForTime(t *testing.T) {
	for _, c := range []struct{ steps, milliseconds, seconds, want int }{
		{24, 250, 13, 3},
		// The turns last just so long, and a second less or more.
		{24, 250, 12, 2},
		{24, 250, 11, 2},
		{24, 250, 18, 3},
		{24, 250, 19, 4},
		{96, 1000, 95, 1},
		{96, 1000, 96, 1},
		{96, 1000, 97, 2},
		{1, 1000, 1, 1},
		{1, 1000, 2, 2},
		{60, 60, 18, 5},
		// One turn lasts just a second, one millisecond less, and one more.
		{8, 125, 1, 1},
		{37, 27, 1, 2},
		{91, 11, 1, 1},
		{8, 125, 500, 500},
		{37, 27, 500, 501},
		{91, 11, 500, 500},
		{1, 500, 1, 2},
		{1, 501, 1, 2},
		{1, 499, 1, 3},
		// No seconds need no turns.
		{1, 1, 0, 0},
		{24, 250, 0, 0},
		{96, 1000, 0, 0},
		// 1000 turns are just enough, and not for a second more.
		{1, 1, 1, 1000},
		{1, 1, 2, -1},
		{2, 1, 2, 1000},
		{2, 1, 1, 500},
		{2, 1, 3, -1},
		{1, 999, 999, 1000},
		{1, 999, 1000, -1},
		{1, 999, 998, 999},
		{1, 1000, 1000, 1000},
		{1, 1000, 999, 999},
		{1, 1000, 1001, -1},
		{96, 1, 96, 1000},
		{96, 1, 97, -1},
		{59, 61, 3599, 1000},
		{59, 61, 3600, -1},
		// 3600 seconds.
		{60, 60, 3600, 1000},
		{4, 900, 3600, 1000},
		{13, 277, 3600, 1000},
		{96, 1000, 3600, 38},
		{96, 1000, 3599, 38},
		{90, 1000, 3600, 40},
		{1, 1, 3600, -1},
		{1, 1000, 3600, -1},
		{96, 1, 3600, -1},
	} {
		checkTurnsFor(t, c.steps, c.milliseconds, c.seconds, c.want)
	}
}

// checkLeastTurns compares with the play time of as many turns and of one less.
func checkLeastTurns(t *testing.T, steps int, milliseconds int, seconds int) {
	t.Helper()
	turns := impl.TurnsForTime(steps, milliseconds, seconds)
	if impl.PlayTime(steps, milliseconds, 1000) < seconds {
		if turns != -1 {
			t.Errorf("TurnsForTime(%d, %d, %d) = %d, and 1000 turns are not enough", steps, milliseconds, seconds, turns)
		}
		return
	}
	if turns < 0 || turns > 1000 {
		t.Errorf("TurnsForTime(%d, %d, %d) = %d, and 1000 turns are enough", steps, milliseconds, seconds, turns)
		return
	}
	if impl.PlayTime(steps, milliseconds, turns) < seconds {
		t.Errorf("TurnsForTime(%d, %d, %d) = %d, which are not enough", steps, milliseconds, seconds, turns)
	}
	if turns > 0 && impl.PlayTime(steps, milliseconds, turns-1) >= seconds {
		t.Errorf("TurnsForTime(%d, %d, %d) = %d, and one less is enough", steps, milliseconds, seconds, turns)
	}
}

func TestAsFewTurnsAsPossible(t *testing.T) {
	eachTurnTime(func(steps int, milliseconds int) {
		for _, seconds := range someSeconds() {
			checkLeastTurns(t, steps, milliseconds, seconds)
		}
	})
	for _, steps := range stepsOfTurns() {
		for _, milliseconds := range someMilliseconds() {
			for seconds := range 3601 {
				checkLeastTurns(t, steps, milliseconds, seconds)
			}
		}
	}
}

// TestFirstTurnsThatAreEnough tries one number of turns after the other.
func TestFirstTurnsThatAreEnough(t *testing.T) {
	for _, steps := range stepsOfTurns() {
		for _, milliseconds := range someMilliseconds() {
			turns := 0
			for seconds := range 3601 {
				for turns <= 1000 && impl.PlayTime(steps, milliseconds, turns) < seconds {
					turns++
				}
				if turns > 1000 {
					checkTurnsFor(t, steps, milliseconds, seconds, -1)
				} else {
					checkTurnsFor(t, steps, milliseconds, seconds, turns)
				}
			}
		}
	}
}

func TestSecondsOutOfRange(t *testing.T) {
	for _, seconds := range notSeconds() {
		for _, steps := range stepsOfTurns() {
			for _, milliseconds := range someMilliseconds() {
				checkTurnsFor(t, steps, milliseconds, seconds, -1)
			}
		}
	}
}

func TestBeatsOf(t *testing.T) {
	slower, _ := impl.Slower(impl.SampleTune(), 3)
	for _, c := range []struct {
		tune []impl.Note
		want int
	}{
		{impl.SampleTune(), 2},
		{slower, 6},
		// All times are equal.
		{nil, 0},
		{[]impl.Note{}, 0},
		{notes(0, 0), 0},
		{notes(7, 20), 0},
		{notes(1000, 60), 0},
		{notes(0, 1, 0, 2), 0},
		{notes(5, 3, 5, 4, 5, 20), 0},
		{notes(1000, 0, 1000, 60), 0},
		{notesAtOneTime(40), 0},
		// The first time is 0.
		{at(9, 0, 6, 9), 3},
		{at(9, 0, 1), 1},
		{at(9, 0, 999), 999},
		{at(9, 0, 1000), 1000},
		{at(9, 0, 6, 10, 15), 1},
		{at(9, 0, 12, 18, 30), 6},
		{at(9, 0, 4, 8, 12, 13), 1},
		{at(9, 0, 4, 7, 8, 12), 1},
		{at(9, 0, 3, 4, 8, 12), 1},
		{row(40), 1},
		// A greater first time.
		{at(9, 5, 11, 14), 3},
		{at(9, 6, 12, 18), 6},
		{at(9, 1, 1000), 999},
		{at(9, 999, 1000), 1},
		{at(9, 500, 750, 1000), 250},
		{at(9, 991, 994, 1000), 3},
		// Only behind the first time they have a common divisor.
		{at(9, 1, 3, 5), 2},
		{at(9, 3, 13, 23), 10},
		{at(9, 1, 4, 7), 3},
		{at(9, 7, 18, 40, 62), 11},
		{at(9, 1, 14, 27), 13},
		// The common divisor behind it is greater than that of all times.
		{at(9, 2, 6, 10), 4},
		{at(9, 3, 9, 15), 6},
		{at(9, 10, 20, 40, 70), 10},
		{at(9, 4, 10, 22), 6},
		// It is not that of the times behind the first one as they are.
		{at(9, 1, 4, 10), 3},
		{at(9, 1, 4, 8), 1},
		{at(9, 2, 5, 15), 1},
		{at(9, 5, 10, 20), 5},
		{at(9, 3, 6, 12), 3},
		// Several notes at one time.
		{notes(0, 1, 0, 2, 4, 1, 4, 9), 4},
		{notes(3, 1, 3, 2, 9, 5, 9, 6, 13, 1), 2},
		{notes(3, 1, 3, 2, 9, 5, 9, 6, 14, 1, 14, 2), 1},
		{notes(0, 0, 0, 60, 1000, 0, 1000, 60), 1000},
	} {
		checkBeats(t, c.tune, c.want)
	}
}

func TestBeatsOfManyTunes(t *testing.T) {
	for _, tune := range manyTunes() {
		checkBeats(t, tune, commonBeat(tune))
	}
}

// TestBeatsOfThreeTimes has all tunes with three times up to 30.
func TestBeatsOfThreeTimes(t *testing.T) {
	for a := range 31 {
		for b := a; b <= 30; b++ {
			for c := b; c <= 30; c++ {
				tune := notes(a, 7, b, 8, c, 9)
				checkBeats(t, tune, commonBeat(tune))
				checkShortened(t, tune, onBeats(tune))
			}
		}
	}
}

func TestShortened(t *testing.T) {
	slower, _ := impl.Slower(impl.SampleTune(), 3)
	short := notes(0, 12, 1, 16, 2, 12, 2, 19, 3, 16)
	for _, c := range []struct{ tune, want []impl.Note }{
		{impl.SampleTune(), short},
		{slower, short},
		{moved(slower, 100, 0), short},
		// They are shortened already.
		{short, short},
		{row(40), row(40)},
		{at(9, 0, 2, 5), at(9, 0, 2, 5)},
		{notes(0, 1, 0, 2, 1, 1), notes(0, 1, 0, 2, 1, 1)},
		{notes(0, 0), notes(0, 0)},
		{notes(0, 1, 0, 2), notes(0, 1, 0, 2)},
		// All times are equal, and become 0.
		{nil, nil},
		{[]impl.Note{}, nil},
		{notes(7, 20), notes(0, 20)},
		{notes(1000, 60), notes(0, 60)},
		{notes(5, 3, 5, 4, 5, 20), notes(0, 3, 0, 4, 0, 20)},
		{notes(1, 0, 1, 60), notes(0, 0, 0, 60)},
		{notesAtOneTime(40), moved(notesAtOneTime(40), -8, 0)},
		// The first time is 0.
		{at(9, 0, 6, 9), at(9, 0, 2, 3)},
		{at(9, 0, 1000), at(9, 0, 1)},
		{at(9, 0, 999, 1000), at(9, 0, 999, 1000)},
		// It is greater.
		{at(9, 5, 11, 14), at(9, 0, 2, 3)},
		{at(9, 999, 1000), at(9, 0, 1)},
		{at(9, 1, 1000), at(9, 0, 1)},
		{at(9, 500, 750, 1000), at(9, 0, 1, 2)},
		{moved(row(40), 961, 0), row(40)},
		{at(9, 3, 5, 8), at(9, 0, 2, 5)},
		// A common divisor only behind the first time.
		{at(9, 1, 3, 5), at(9, 0, 1, 2)},
		{at(9, 3, 13, 33), at(9, 0, 1, 3)},
		{at(9, 2, 6, 10), at(9, 0, 1, 2)},
		{at(9, 1, 4, 10), at(9, 0, 1, 3)},
		// Pitches of one time stay together.
		{notes(3, 1, 3, 2, 9, 5, 9, 6, 13, 1), notes(0, 1, 0, 2, 3, 5, 3, 6, 5, 1)},
		{notes(0, 0, 0, 60, 1000, 0, 1000, 60), notes(0, 0, 0, 60, 1, 0, 1, 60)},
		{notes(1, 50, 3, 40, 5, 30), notes(0, 50, 1, 40, 2, 30)},
	} {
		checkShortened(t, c.tune, c.want)
	}
}

// TestShortenedHasNoCommonBeat looks at the shortened tunes, and shortens them
// again.
func TestShortenedHasNoCommonBeat(t *testing.T) {
	for _, tune := range manyTunes() {
		short := impl.Shortened(tune)
		checkShortened(t, tune, onBeats(tune))
		checkShortened(t, short, short)
		if len(tune) == 0 {
			continue
		}
		if !impl.TuneOk(short) || len(short) != len(tune) || short[0].Time != 0 {
			t.Errorf("Shortened(%v) = %v", tune, short)
		}
		if impl.Lasts(tune) == 0 {
			checkBeats(t, short, 0)
		} else {
			checkBeats(t, short, 1)
		}
	}
}

// TestSlowerAndLaterIsShortenedToTheSame makes the tunes slower and later, as far
// as they stay in range.
func TestSlowerAndLaterIsShortenedToTheSame(t *testing.T) {
	for _, tune := range manyTunes() {
		short, beats := impl.Shortened(tune), impl.BeatsOf(tune)
		for _, times := range []int{1, 2, 3, 5, 7, 10, 24, 25, 83, 99, 100} {
			slower, ok := impl.Slower(tune, times)
			if !ok {
				continue
			}
			for _, by := range []int{-1000, -900, -8, -7, -5, -1, 0, 1, 2, 3, 7, 100, 391, 500, 1000} {
				if later, ok := impl.Later(slower, by); ok {
					checkShortened(t, later, short)
					checkBeats(t, later, beats*times)
				}
			}
		}
		for _, by := range []int{-40, -1, 1, 12, 30} {
			if higher, ok := impl.Higher(tune, by); ok {
				checkShortened(t, higher, moved(short, 0, by))
			}
		}
	}
}

// TestShortenedIsTheTuneSlowerAndLater takes the shortened tune back to its beats
// and to its first time.
func TestShortenedIsTheTuneSlowerAndLater(t *testing.T) {
	for _, tune := range manyTunes() {
		beats := impl.BeatsOf(tune)
		var list []impl.Note
		for _, n := range impl.Shortened(tune) {
			list = append(list, impl.Note{Time: tune[0].Time + beats*n.Time, Pitch: n.Pitch})
		}
		if !slices.Equal(list, tune) {
			t.Errorf("Shortened(%v) = %v, with the beats %d", tune, impl.Shortened(tune), beats)
		}
	}
}

func TestFitsTurn(t *testing.T) {
	slower, _ := impl.Slower(impl.SampleTune(), 3)
	for _, c := range []struct {
		tune  []impl.Note
		least int
	}{
		// All times are 0: each turn is long enough.
		{nil, 4},
		{[]impl.Note{}, 4},
		{notes(0, 0), 4},
		{notes(7, 20), 4},
		{notes(1000, 60), 4},
		{notes(5, 3, 5, 4, 5, 20), 4},
		{notesAtOneTime(40), 4},
		// 4 steps are just enough, or one is missing.
		{impl.SampleTune(), 4},
		{slower, 4},
		{at(9, 0, 1, 2), 4},
		{at(9, 0, 1, 3), 4},
		{at(9, 0, 1, 4), 5},
		{at(9, 0, 3, 4), 5},
		{at(9, 0, 10, 30), 4},
		{at(9, 0, 10, 40), 5},
		{at(9, 7, 8, 10), 4},
		{at(9, 7, 8, 11), 5},
		// They are shortened: a late or a long tune may fit as well.
		{at(9, 0, 1000), 4},
		{at(9, 1, 1000), 4},
		{at(9, 500, 750, 1000), 4},
		{at(9, 997, 998, 1000), 4},
		{at(9, 996, 997, 1000), 5},
		{at(9, 0, 100, 1000), 11},
		{at(9, 400, 500, 1000), 7},
		{at(9, 0, 4, 9), 10},
		{row(40), 40},
		{moved(row(40), 961, 0), 40},
		// 96 steps are just enough, or one is missing.
		{at(9, 0, 1, 94), 95},
		{at(9, 0, 1, 95), 96},
		{at(9, 0, 1, 96), 97},
		{at(9, 0, 95, 96), 97},
		{at(9, 50, 60, 1000), 96},
		{at(9, 40, 50, 1000), 97},
		{at(9, 0, 1, 1000), 1001},
		{at(9, 905, 906, 1000), 96},
		{at(9, 904, 905, 1000), 97},
		// The last notes are several ones.
		{notes(0, 1, 1, 1, 5, 1, 5, 2), 6},
		{notes(0, 1, 0, 2, 1, 60, 5, 1), 6},
	} {
		checkFitsFrom(t, c.tune, c.least)
	}
}

// TestWhatFitsCanBeOnACylinder sets a pin for each note of the shortened tune, each
// on a track of its own.
func TestWhatFitsCanBeOnACylinder(t *testing.T) {
	for _, tune := range manyTunes() {
		var tracks []int
		for k := range tune {
			tracks = append(tracks, k)
		}
		for steps := 4; steps <= 96; steps++ {
			_, ok := impl.CylinderOf(impl.Shortened(tune), tracks, steps, 100)
			checkFits(t, tune, steps, ok)
		}
	}
}

func TestStepsOfTurnOutOfRange(t *testing.T) {
	for _, steps := range notStepsOfTurn() {
		for _, tune := range validTunes() {
			checkFits(t, tune, steps, false)
		}
		for _, tune := range invalidTunes() {
			checkFits(t, tune, steps, false)
		}
	}
}

func TestInvalidTunesHaveNoBeats(t *testing.T) {
	for _, tune := range invalidTunes() {
		checkBeats(t, tune, 0)
		checkShortened(t, tune, nil)
		for steps := 4; steps <= 96; steps++ {
			checkFits(t, tune, steps, false)
		}
	}
}

// TestBeatsKeepTheirArguments looks for shared memory, also behind the end.
func TestBeatsKeepTheirArguments(t *testing.T) {
	for name, change := range map[string]func([]impl.Note) []impl.Note{
		"Shortened": impl.Shortened,
		"BeatsOf": func(tune []impl.Note) []impl.Note {
			impl.BeatsOf(tune)
			return nil
		},
		"FitsTurn": func(tune []impl.Note) []impl.Note {
			impl.FitsTurn(tune, 24)
			return nil
		},
	} {
		for _, backing := range [][]impl.Note{
			notes(2, 9, 4, 1, 50, 9, 8, 8, 1, 1),
			notes(1, 9, 4, 1, 7, 9, 8, 8),
			// It is shortened already.
			notes(0, 9, 1, 1, 3, 9, 8, 8),
			notes(5, 1, 5, 2, 5, 3, 5, 4),
			// It is not valid.
			notes(4, 1, 2, 9, 8, 8),
		} {
			for size := range len(backing) + 1 {
				checkKeepsArgument(t, name, change, backing, size)
			}
		}
	}
}

package tests

import (
	"maps"
	"math"
	"slices"
	"testing"

	"loop.example/g03309/impl"
)

// Promise 3: A tune that is turned twice is the same, and moving it keeps its form.

// numberedChange is one of Higher, Later and Slower.
type numberedChange func(t []impl.Note, by int) ([]impl.Note, bool)

func checkChanged(t *testing.T, name string, change numberedChange, tune []impl.Note, by int, want []impl.Note) {
	t.Helper()
	if got, ok := change(tune, by); !slices.Equal(got, want) || !ok {
		t.Errorf("%s(%v, %d) = %v, %v, want %v, true", name, tune, by, got, ok, want)
	}
}

func checkUnchanged(t *testing.T, name string, change numberedChange, tune []impl.Note, by int) {
	t.Helper()
	if got, ok := change(tune, by); !slices.Equal(got, tune) || ok {
		t.Errorf("%s(%v, %d) = %v, %v, want it unchanged, false", name, tune, by, got, ok)
	}
}

func TestHigher(t *testing.T) {
	for _, c := range []struct {
		tune []impl.Note
		by   int
		want []impl.Note
	}{
		{impl.SampleTune(), 0, impl.SampleTune()},
		{impl.SampleTune(), 1, notes(0, 13, 2, 17, 4, 13, 4, 20, 6, 17)},
		{impl.SampleTune(), -12, notes(0, 0, 2, 4, 4, 0, 4, 7, 6, 4)},
		{impl.SampleTune(), 41, notes(0, 53, 2, 57, 4, 53, 4, 60, 6, 57)},
		{notes(7, 20), 5, notes(7, 25)},
		{notes(7, 20), 40, notes(7, 60)},
		{notes(7, 20), -20, notes(7, 0)},
		{notes(0, 0), 60, notes(0, 60)},
		{notes(1000, 60), -60, notes(1000, 0)},
		{notes(3, 0, 3, 60), 0, notes(3, 0, 3, 60)},
		{notesAtOneTime(40), 21, notesAtOneTime(61)[21:]},
	} {
		checkChanged(t, "Higher", impl.Higher, c.tune, c.by, c.want)
	}
}

func TestHigherLeavesTheRange(t *testing.T) {
	checkUnchanged(t, "Higher", impl.Higher, impl.SampleTune(), -13)
	checkUnchanged(t, "Higher", impl.Higher, impl.SampleTune(), 42)
	checkUnchanged(t, "Higher", impl.Higher, notes(7, 20), 41)
	checkUnchanged(t, "Higher", impl.Higher, notes(7, 20), -21)
	checkUnchanged(t, "Higher", impl.Higher, notes(3, 0, 3, 60), 1)
	checkUnchanged(t, "Higher", impl.Higher, notes(3, 0, 3, 60), -1)
	checkUnchanged(t, "Higher", impl.Higher, notes(1, 0, 2, 1), 60)
	checkUnchanged(t, "Higher", impl.Higher, notes(1, 60, 2, 59), -60)
	checkUnchanged(t, "Higher", impl.Higher, notes(0, 0), 61)
	checkUnchanged(t, "Higher", impl.Higher, notes(0, 60), -61)
}

func TestLater(t *testing.T) {
	for _, c := range []struct {
		tune []impl.Note
		by   int
		want []impl.Note
	}{
		{impl.SampleTune(), 0, impl.SampleTune()},
		{impl.SampleTune(), 3, notes(3, 12, 5, 16, 7, 12, 7, 19, 9, 16)},
		{notes(3, 12, 5, 16, 7, 12), -3, notes(0, 12, 2, 16, 4, 12)},
		{impl.SampleTune(), 994, notes(994, 12, 996, 16, 998, 12, 998, 19, 1000, 16)},
		{notes(7, 20), -7, notes(0, 20)},
		{notes(7, 20), 993, notes(1000, 20)},
		{notes(0, 60), 1000, notes(1000, 60)},
		{notes(1000, 0), -1000, notes(0, 0)},
		{notes(0, 1, 1000, 1), 0, notes(0, 1, 1000, 1)},
	} {
		checkChanged(t, "Later", impl.Later, c.tune, c.by, c.want)
	}
}

func TestLaterLeavesTheRange(t *testing.T) {
	checkUnchanged(t, "Later", impl.Later, impl.SampleTune(), -1)
	checkUnchanged(t, "Later", impl.Later, impl.SampleTune(), 995)
	checkUnchanged(t, "Later", impl.Later, notes(7, 20), -8)
	checkUnchanged(t, "Later", impl.Later, notes(7, 20), 994)
	checkUnchanged(t, "Later", impl.Later, notes(0, 1, 1000, 1), 1)
	checkUnchanged(t, "Later", impl.Later, notes(0, 1, 1000, 1), -1)
	checkUnchanged(t, "Later", impl.Later, notes(0, 1, 1, 1), 1000)
	checkUnchanged(t, "Later", impl.Later, notes(999, 1, 1000, 1), -1000)
	checkUnchanged(t, "Later", impl.Later, notes(0, 0), 1001)
	checkUnchanged(t, "Later", impl.Later, notes(1000, 0), -1001)
}

func TestSlower(t *testing.T) {
	for _, c := range []struct {
		tune  []impl.Note
		times int
		want  []impl.Note
	}{
		{impl.SampleTune(), 1, impl.SampleTune()},
		{impl.SampleTune(), 2, notes(0, 12, 4, 16, 8, 12, 8, 19, 12, 16)},
		{impl.SampleTune(), 100, notes(0, 12, 200, 16, 400, 12, 400, 19, 600, 16)},
		{notes(3, 9, 9, 5, 10, 1), 7, notes(21, 9, 63, 5, 70, 1)},
		{notes(10, 1), 100, notes(1000, 1)},
		{notes(500, 1), 2, notes(1000, 1)},
		{notes(333, 1), 3, notes(999, 1)},
		{notes(1000, 60), 1, notes(1000, 60)},
		{notes(0, 3, 0, 60), 100, notes(0, 3, 0, 60)},
	} {
		checkChanged(t, "Slower", impl.Slower, c.tune, c.times, c.want)
	}
}

func TestSlowerLeavesTheRange(t *testing.T) {
	checkUnchanged(t, "Slower", impl.Slower, notes(11, 1), 100)
	checkUnchanged(t, "Slower", impl.Slower, notes(501, 1), 2)
	checkUnchanged(t, "Slower", impl.Slower, notes(334, 1), 3)
	checkUnchanged(t, "Slower", impl.Slower, notes(0, 1, 1000, 1), 2)
	checkUnchanged(t, "Slower", impl.Slower, impl.SampleTune(), 0)
	checkUnchanged(t, "Slower", impl.Slower, impl.SampleTune(), -1)
	checkUnchanged(t, "Slower", impl.Slower, impl.SampleTune(), 101)
	checkUnchanged(t, "Slower", impl.Slower, notes(7, 20), 0)
}

// TestNumbersOfChanges has tunes that stay in the range of times and pitches
// whatever the number is, so that only the range of the number decides.
func TestNumbersOfChanges(t *testing.T) {
	extremes := []int{math.MinInt64, math.MinInt64 + 1, -1 << 32, 1 << 32, math.MaxInt64}
	for _, c := range []struct {
		name      string
		change    numberedChange
		tune      []impl.Note
		low, high int
	}{
		{"Higher", impl.Higher, nil, -60, 60},
		{"Higher", impl.Higher, []impl.Note{}, -60, 60},
		{"Later", impl.Later, nil, -1000, 1000},
		{"Later", impl.Later, []impl.Note{}, -1000, 1000},
		{"Slower", impl.Slower, nil, 1, 100},
		{"Slower", impl.Slower, []impl.Note{}, 1, 100},
		{"Slower", impl.Slower, notes(0, 30), 1, 100},
		{"Slower", impl.Slower, notes(0, 1, 0, 2, 0, 60), 1, 100},
	} {
		for by := c.low; by <= c.high; by++ {
			checkChanged(t, c.name, c.change, c.tune, by, c.tune)
		}
		for _, by := range append(extremes, c.low-2, c.low-1, c.high+1, c.high+2, 10*c.high) {
			checkUnchanged(t, c.name, c.change, c.tune, by)
		}
	}
}

func TestGreatNumbersOfChanges(t *testing.T) {
	// Four times the number 1<<62 comes round to 0, which would be a time.
	for _, by := range []int{math.MinInt64, math.MinInt64 + 7, -1 << 32, 1 << 62, 1 << 32, math.MaxInt64} {
		for _, tune := range [][]impl.Note{notes(7, 20), notes(4, 20), impl.SampleTune()} {
			checkUnchanged(t, "Higher", impl.Higher, tune, by)
			checkUnchanged(t, "Later", impl.Later, tune, by)
			checkUnchanged(t, "Slower", impl.Slower, tune, by)
		}
	}
}

func TestChangesOfInvalidTunes(t *testing.T) {
	for _, tune := range invalidTunes() {
		for _, by := range []int{-1000, -61, -60, -3, -1, 0, 1, 2, 60, 61, 100, 1000, 1001, math.MinInt64, math.MaxInt64} {
			checkUnchanged(t, "Higher", impl.Higher, tune, by)
			checkUnchanged(t, "Later", impl.Later, tune, by)
			checkUnchanged(t, "Slower", impl.Slower, tune, by)
		}
	}
}

// moved makes no valid tune by itself: its result may leave the ranges.
func moved(tune []impl.Note, time int, pitch int) []impl.Note {
	var list []impl.Note
	for _, n := range tune {
		list = append(list, impl.Note{Time: n.Time + time, Pitch: n.Pitch + pitch})
	}
	return list
}

// TestMovingKeepsTheForm moves all valid tunes by all numbers and a few more.
func TestMovingKeepsTheForm(t *testing.T) {
	for _, tune := range validTunes() {
		for by := -62; by <= 62; by++ {
			want := moved(tune, 0, by)
			checkMove(t, "Higher", impl.Higher, tune, by, -60 <= by && by <= 60, want)
		}
		for by := -1002; by <= 1002; by++ {
			want := moved(tune, by, 0)
			checkMove(t, "Later", impl.Later, tune, by, -1000 <= by && by <= 1000, want)
		}
	}
}

func checkMove(t *testing.T, name string, change numberedChange, tune []impl.Note, by int, inRange bool, want []impl.Note) {
	t.Helper()
	if !inRange || !impl.TuneOk(want) {
		checkUnchanged(t, name, change, tune, by)
		return
	}
	checkChanged(t, name, change, tune, by, want)
	checkChanged(t, name, change, want, -by, tune)
	if !impl.SameTune(tune, want) || !impl.SameTune(want, tune) {
		t.Errorf("%s(%v, %d): SameTune = false", name, tune, by)
	}
}

func TestBackward(t *testing.T) {
	for _, c := range []struct{ tune, want []impl.Note }{
		{nil, nil},
		{[]impl.Note{}, nil},
		{impl.SampleTune(), notes(0, 16, 2, 12, 2, 19, 4, 16, 6, 12)},
		{notes(7, 20), notes(7, 20)},
		{notes(0, 0), notes(0, 0)},
		{notes(1000, 60), notes(1000, 60)},
		{notes(5, 3, 5, 4, 5, 20), notes(5, 3, 5, 4, 5, 20)},
		{notes(3, 9, 10, 1), notes(3, 1, 10, 9)},
		{notes(3, 9, 9, 5, 10, 1), notes(3, 1, 4, 5, 10, 9)},
		{notes(0, 1, 0, 2, 9, 3, 1000, 4, 1000, 5), notes(0, 4, 0, 5, 991, 3, 1000, 1, 1000, 2)},
		{row(40), row(40)},
	} {
		if got := impl.Backward(c.tune); !slices.Equal(got, c.want) {
			t.Errorf("Backward(%v) = %v, want %v", c.tune, got, c.want)
		}
	}
	for name, tune := range invalidTunes() {
		if got := impl.Backward(tune); len(got) != 0 {
			t.Errorf("%s: Backward = %v, want nil", name, got)
		}
	}
}

func TestUpsideDown(t *testing.T) {
	for _, c := range []struct{ tune, want []impl.Note }{
		{nil, nil},
		{[]impl.Note{}, nil},
		{impl.SampleTune(), notes(0, 19, 2, 15, 4, 12, 4, 19, 6, 15)},
		{notes(7, 20), notes(7, 20)},
		{notes(0, 0), notes(0, 0)},
		{notes(1000, 60), notes(1000, 60)},
		{notes(5, 3, 5, 4, 5, 20), notes(5, 3, 5, 19, 5, 20)},
		{notes(1, 50, 2, 40, 3, 30), notes(1, 30, 2, 40, 3, 50)},
		{notes(1, 40, 2, 30, 3, 50, 4, 45), notes(1, 40, 2, 50, 3, 30, 4, 35)},
		{notes(0, 60, 1000, 0), notes(0, 0, 1000, 60)},
		{notes(1, 9, 2, 9, 3, 9), notes(1, 9, 2, 9, 3, 9)},
		{notesAtOneTime(40), notesAtOneTime(40)},
	} {
		if got := impl.UpsideDown(c.tune); !slices.Equal(got, c.want) {
			t.Errorf("UpsideDown(%v) = %v, want %v", c.tune, got, c.want)
		}
	}
	for name, tune := range invalidTunes() {
		if got := impl.UpsideDown(tune); len(got) != 0 {
			t.Errorf("%s: UpsideDown = %v, want nil", name, got)
		}
	}
}

// manyTunes has the valid tunes and others in a mixed order of pitches.
func manyTunes() [][]impl.Note {
	var tunes [][]impl.Note
	valid := validTunes()
	// Sorted names, because a later test pairs the tunes by their places.
	for _, name := range slices.Sorted(maps.Keys(valid)) {
		tunes = append(tunes, valid[name])
	}
	for _, list := range someLists() {
		tune := impl.SortNotes(list)
		tunes = append(tunes, tune, moved(tune, 900, 40))
	}
	return tunes
}

func TestTurnedTwiceIsTheSame(t *testing.T) {
	for _, tune := range manyTunes() {
		checkTurned(t, "Backward", impl.Backward, tune)
		checkTurned(t, "UpsideDown", impl.UpsideDown, tune)
		one := impl.Backward(impl.UpsideDown(tune))
		other := impl.UpsideDown(impl.Backward(tune))
		if !slices.Equal(one, other) {
			t.Fatalf("%v: upside down, then backward %v, else %v", tune, one, other)
		}
	}
}

func checkTurned(t *testing.T, name string, turn func([]impl.Note) []impl.Note, tune []impl.Note) {
	t.Helper()
	turned := turn(tune)
	if !impl.TuneOk(turned) || len(turned) != len(tune) || impl.Lasts(turned) != impl.Lasts(tune) {
		t.Fatalf("%s(%v) = %v", name, tune, turned)
	}
	low, high := impl.PitchRange(tune)
	checkPitchRange(t, turned, low, high)
	if again := turn(turned); !slices.Equal(again, tune) {
		t.Fatalf("%s(%v) = %v, and turned again %v", name, tune, turned, again)
	}
}

// TestTurningIsOfEachNote looks for the note that each note must become.
func TestTurningIsOfEachNote(t *testing.T) {
	for _, tune := range manyTunes() {
		backward, upside := impl.Backward(tune), impl.UpsideDown(tune)
		low, high := impl.PitchRange(tune)
		for _, n := range tune {
			then := tune[0].Time + tune[len(tune)-1].Time - n.Time
			if !slices.Contains(backward, impl.Note{Time: then, Pitch: n.Pitch}) {
				t.Fatalf("Backward(%v) = %v has lost %v", tune, backward, n)
			}
			if !slices.Contains(upside, impl.Note{Time: n.Time, Pitch: low + high - n.Pitch}) {
				t.Fatalf("UpsideDown(%v) = %v has lost %v", tune, upside, n)
			}
		}
	}
}

func TestJoinTunes(t *testing.T) {
	for _, c := range []struct{ a, b, want []impl.Note }{
		{nil, nil, nil},
		{[]impl.Note{}, nil, nil},
		{impl.SampleTune(), nil, impl.SampleTune()},
		{nil, impl.SampleTune(), impl.SampleTune()},
		{impl.SampleTune(), impl.SampleTune(), impl.SampleTune()},
		{notes(7, 20), notes(7, 20), notes(7, 20)},
		{notes(7, 20), notes(7, 19), notes(7, 19, 7, 20)},
		{notes(7, 20), notes(6, 30), notes(6, 30, 7, 20)},
		{notes(0, 0), notes(1000, 60), notes(0, 0, 1000, 60)},
		{notes(1, 5, 3, 5, 5, 5), notes(2, 5, 3, 5, 4, 5), notes(1, 5, 2, 5, 3, 5, 4, 5, 5, 5)},
		{notes(1, 9, 4, 12, 4, 19), notes(4, 11, 4, 12, 4, 15), notes(1, 9, 4, 11, 4, 12, 4, 15, 4, 19)},
		{row(40), nil, row(40)},
		{row(40), row(40), row(40)},
		{row(40), row(3), row(40)},
		{row(40)[1:], row(1), row(40)},
		{row(20), row(40)[20:], row(40)},
		{row(21), row(40)[20:], row(40)},
		{row(30), row(40)[10:], row(40)},
		{row(40)[30:], row(31), row(40)},
	} {
		checkJoined(t, c.a, c.b, c.want)
		checkJoined(t, c.b, c.a, c.want)
	}
}

func checkJoined(t *testing.T, a []impl.Note, b []impl.Note, want []impl.Note) {
	t.Helper()
	if got, ok := impl.JoinTunes(a, b); !slices.Equal(got, want) || !ok {
		t.Errorf("JoinTunes(%v, %v) = %v, %v, want %v, true", a, b, got, ok, want)
	}
}

func checkNotJoined(t *testing.T, a []impl.Note, b []impl.Note) {
	t.Helper()
	if got, ok := impl.JoinTunes(a, b); len(got) != 0 || ok {
		t.Errorf("JoinTunes(%v, %v) = %v, %v, want nil, false", a, b, got, ok)
	}
}

func TestJoinTunesRejects(t *testing.T) {
	for _, c := range []struct{ a, b []impl.Note }{
		{row(40), row(41)[40:]},
		{row(21), row(41)[21:]},
		{row(22), row(41)[21:]},
		{row(40), row(41)[1:]},
		{row(40), notes(3, 31)},
		{row(40), moved(row(40), 100, 0)},
		{row(40), notesAtOneTime(40)},
	} {
		checkNotJoined(t, c.a, c.b)
		checkNotJoined(t, c.b, c.a)
	}
	for _, tune := range invalidTunes() {
		for _, other := range [][]impl.Note{nil, notes(7, 20), impl.SampleTune(), tune} {
			checkNotJoined(t, tune, other)
			checkNotJoined(t, other, tune)
		}
	}
}

// TestJoinTunesIsOfBoth puts the notes of b into a one after the other.
func TestJoinTunesIsOfBoth(t *testing.T) {
	tunes := manyTunes()
	for k, b := range tunes {
		a := tunes[(k*5+3)%len(tunes)]
		want, fits := slices.Clone(a), true
		for _, n := range b {
			if !slices.Contains(want, n) {
				want, fits = impl.AddNote(want, n)
			}
			if !fits {
				break
			}
		}
		if fits {
			checkJoined(t, a, b, want)
		} else {
			checkNotJoined(t, a, b)
		}
	}
}

func TestSameTune(t *testing.T) {
	sample := impl.SampleTune()
	for _, c := range []struct {
		a, b []impl.Note
		want bool
	}{
		{nil, nil, true},
		{nil, []impl.Note{}, true},
		{nil, notes(7, 20), false},
		{notes(7, 20), notes(7, 20), true},
		{notes(7, 20), notes(3, 55), true},
		{notes(0, 0), notes(1000, 60), true},
		{notes(0, 60), notes(1000, 0), true},
		{sample, sample, true},
		{sample, moved(sample, 3, 0), true},
		{sample, moved(sample, 0, -12), true},
		{sample, moved(sample, 994, 41), true},
		{sample, notes(0, 12, 4, 16, 8, 12, 8, 19, 12, 16), false},
		{sample, sample[:4], false},
		{sample, sample[1:], false},
		{sample, notes(0, 12, 2, 16, 4, 12, 4, 19, 6, 17), false},
		{sample, notes(0, 12, 2, 16, 4, 12, 4, 19, 7, 16), false},
		{sample, notes(1, 13, 2, 16, 4, 12, 4, 19, 6, 16), false},
		{sample, notes(0, 12, 2, 16, 4, 13, 4, 20, 6, 16), false},
		{sample, notes(0, 11, 2, 16, 4, 12, 4, 19, 6, 16), false},
		{notes(1, 5, 2, 6), notes(1, 5, 2, 4), false},
		{notes(1, 5, 2, 6), notes(1, 5, 3, 6), false},
		{notes(1, 5, 2, 6), notes(5, 1, 6, 2), true},
		{notes(1, 5, 2, 5), notes(1, 5, 1, 6), false},
		{notes(3, 0, 3, 60), notes(900, 0, 900, 60), true},
		{notes(0, 30, 1000, 30), notes(0, 1, 1000, 1), true},
		{row(40), moved(row(40), 960, -30), true},
		{row(40), row(39), false},
		{row(40), append(row(39), notes(40, 30)...), false},
		{notesAtOneTime(40), moved(notesAtOneTime(40), -8, 21), true},
		{row(40), notesAtOneTime(40), false},
	} {
		checkSameTune(t, c.a, c.b, c.want)
		checkSameTune(t, c.b, c.a, c.want)
	}
}

func checkSameTune(t *testing.T, a []impl.Note, b []impl.Note, want bool) {
	t.Helper()
	if got := impl.SameTune(a, b); got != want {
		t.Errorf("SameTune(%v, %v) = %v, want %v", a, b, got, want)
	}
}

func TestSameTuneOfInvalidTunes(t *testing.T) {
	for _, tune := range invalidTunes() {
		others := [][]impl.Note{nil, notes(7, 20), notes(0, 60), impl.SampleTune(), tune}
		for _, by := range []int{-1, 1} {
			others = append(others, moved(tune, by, 0), moved(tune, 0, by), moved(tune, by, by))
		}
		for _, other := range others {
			checkSameTune(t, tune, other, false)
			checkSameTune(t, other, tune, false)
		}
	}
}

// TestSameTuneOfShortTunes compares all pairs of tunes of two notes.
func TestSameTuneOfShortTunes(t *testing.T) {
	var all [][]impl.Note
	for k := range 81 {
		tune := notes(k/27, k/9%3, k/3%3, k%3)
		if impl.TuneOk(tune) {
			all = append(all, tune)
		}
	}
	for _, a := range all {
		for _, b := range all {
			want := b[1].Time-b[0].Time == a[1].Time-a[0].Time && b[1].Pitch-b[0].Pitch == a[1].Pitch-a[0].Pitch
			checkSameTune(t, a, b, want)
		}
	}
}

// TestChangesKeepTheirArguments looks for shared memory, also behind the end.
func TestChangesKeepTheirArguments(t *testing.T) {
	joinWith := func(other []impl.Note) func([]impl.Note) []impl.Note {
		return func(tune []impl.Note) []impl.Note {
			joined, _ := impl.JoinTunes(tune, other)
			return joined
		}
	}
	numbered := func(change numberedChange, by int) func([]impl.Note) []impl.Note {
		return func(tune []impl.Note) []impl.Note {
			result, _ := change(tune, by)
			return result
		}
	}
	for name, change := range map[string]func([]impl.Note) []impl.Note{
		"Higher":            numbered(impl.Higher, 3),
		"Higher by 0":       numbered(impl.Higher, 0),
		"Higher by 61":      numbered(impl.Higher, 61),
		"Higher by 60":      numbered(impl.Higher, 60),
		"Later":             numbered(impl.Later, 3),
		"Later by 0":        numbered(impl.Later, 0),
		"Later by 1001":     numbered(impl.Later, 1001),
		"Later by 1000":     numbered(impl.Later, 1000),
		"Slower":            numbered(impl.Slower, 3),
		"Slower 1 time":     numbered(impl.Slower, 1),
		"Slower 101 times":  numbered(impl.Slower, 101),
		"Slower too much":   numbered(impl.Slower, 100),
		"Backward":          impl.Backward,
		"UpsideDown":        impl.UpsideDown,
		"JoinTunes":         joinWith(notes(3, 3)),
		"JoinTunes at last": joinWith(notes(900, 3)),
		"JoinTunes no more": joinWith(nil),
	} {
		checkKeepsArgument(t, name, change, notes(2, 9, 4, 1, 50, 9, 8, 8, 1, 1), 3)
		checkKeepsArgument(t, name, change, notes(2, 9, 4, 1, 50, 9), 3)
		checkKeepsArgument(t, name, change, notes(4, 1, 2, 9, 8, 8), 2)
		checkKeepsArgument(t, name, change, notes(4, 1, 2, 9, 8, 8), 0)
	}
}

func checkKeepsArgument(t *testing.T, name string, change func([]impl.Note) []impl.Note, backing []impl.Note, size int) {
	t.Helper()
	before := slices.Clone(backing)
	got := change(backing[:size])
	for k := range got {
		got[k] = impl.Note{Time: 77, Pitch: 7}
	}
	_ = append(got, impl.Note{Time: 78, Pitch: 8})
	if !slices.Equal(backing, before) {
		t.Errorf("%s of %v: the argument changed to %v", name, before[:size], backing)
	}
}

func TestJoinTunesKeepsBoth(t *testing.T) {
	first, second := notes(2, 9, 4, 1, 8, 8), notes(3, 9, 4, 1, 7, 7)
	impl.JoinTunes(first[:2], second[:2])
	joined, _ := impl.JoinTunes(nil, second[:2])
	joined[0] = impl.Note{Time: 77}
	impl.SameTune(first[:2], second[:2])
	if !slices.Equal(first, notes(2, 9, 4, 1, 8, 8)) || !slices.Equal(second, notes(3, 9, 4, 1, 7, 7)) {
		t.Errorf("the arguments changed to %v and %v", first, second)
	}
}

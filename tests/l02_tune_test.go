package tests

import (
	"math"
	"slices"
	"testing"

	"loop.example/g03309/impl"
)

// Promise 2: Notes stand in order, and sorting keeps each of them once.

// notes makes a list of notes from pairs of a time and a pitch.
func notes(numbers ...int) []impl.Note {
	var list []impl.Note
	for k := 0; k+1 < len(numbers); k += 2 {
		list = append(list, impl.Note{Time: numbers[k], Pitch: numbers[k+1]})
	}
	return list
}

// row has n notes, one at each time from 0 on.
func row(n int) []impl.Note {
	var list []impl.Note
	for k := range n {
		list = append(list, impl.Note{Time: k, Pitch: 30})
	}
	return list
}

func noteBefore(a impl.Note, b impl.Note) bool {
	return a.Time < b.Time || a.Time == b.Time && a.Pitch < b.Pitch
}

func ascending(list []impl.Note) bool {
	for k := 1; k < len(list); k++ {
		if !noteBefore(list[k-1], list[k]) {
			return false
		}
	}
	return true
}

func validTunes() map[string][]impl.Note {
	return map[string][]impl.Note{
		"nil":              nil,
		"empty":            {},
		"sample":           impl.SampleTune(),
		"one":              notes(7, 20),
		"least":            notes(0, 0),
		"greatest":         notes(1000, 60),
		"greatest time":    notes(1000, 0),
		"greatest pitch":   notes(0, 60),
		"both ends":        notes(0, 0, 0, 60, 1000, 0, 1000, 60),
		"falling":          notes(1, 50, 2, 40, 3, 30),
		"one pitch":        notes(1, 9, 2, 9, 3, 9),
		"one time":         notes(5, 3, 5, 4, 5, 20),
		"40 notes":         row(40),
		"40 at most times": notesAtOneTime(40),
	}
}

// notesAtOneTime has n notes at the time 8, from the pitch 0 on.
func notesAtOneTime(n int) []impl.Note {
	var list []impl.Note
	for k := range n {
		list = append(list, impl.Note{Time: 8, Pitch: k})
	}
	return list
}

func invalidTunes() map[string][]impl.Note {
	return map[string][]impl.Note{
		"equal":                   notes(1, 2, 1, 2),
		"equal at the end":        notes(0, 3, 1, 2, 1, 2),
		"equal at the beginning":  notes(1, 2, 1, 2, 4, 1),
		"times fall":              notes(2, 5, 1, 5),
		"times fall later":        notes(1, 5, 3, 5, 2, 9),
		"times fall, pitch rises": notes(2, 5, 1, 6),
		"pitches fall":            notes(4, 19, 4, 12),
		"pitches fall later":      notes(0, 1, 4, 19, 4, 12),
		"equal but apart":         notes(1, 2, 1, 3, 1, 2),
		"time 1001":               notes(1001, 0),
		"time 1001 at the end":    notes(1, 4, 1000, 3, 1001, 2),
		"time -1":                 notes(-1, 0),
		"time -1 first":           notes(-1, 30, 0, 30),
		"pitch 61":                notes(0, 61),
		"pitch 61 later":          notes(0, 5, 3, 61, 4, 5),
		"pitch -1":                notes(0, -1),
		"pitch -1 later":          notes(0, 5, 3, -1),
		"both below":              notes(-1, -1),
		"least ints":              notes(math.MinInt64, math.MinInt64),
		"greatest ints":           notes(math.MaxInt64, math.MaxInt64),
		"greatest then least":     notes(math.MaxInt64, 1, math.MinInt64, 1),
		"41 notes":                row(41),
		"41 at one time":          notesAtOneTime(41),
		"900 notes":               row(900),
	}
}

func TestMaxNotes(t *testing.T) {
	if impl.MaxNotes != 40 {
		t.Errorf("MaxNotes = %d, want 40", impl.MaxNotes)
	}
}

func TestTuneOk(t *testing.T) {
	for name, tune := range validTunes() {
		if !impl.TuneOk(tune) {
			t.Errorf("%s: TuneOk = false", name)
		}
	}
	for name, tune := range invalidTunes() {
		if impl.TuneOk(tune) {
			t.Errorf("%s: TuneOk = true", name)
		}
	}
}

// TestTuneOkOfShortLists tries all lists of up to three notes at the limits.
func TestTuneOkOfShortLists(t *testing.T) {
	var all []impl.Note
	for _, time := range []int{-1, 0, 1, 1000, 1001} {
		for _, pitch := range []int{-1, 0, 1, 60, 61} {
			all = append(all, impl.Note{Time: time, Pitch: pitch})
		}
	}
	for _, a := range all {
		checkTuneOk(t, []impl.Note{a})
		for _, b := range all {
			checkTuneOk(t, []impl.Note{a, b})
			for _, c := range all {
				checkTuneOk(t, []impl.Note{a, b, c})
			}
		}
	}
}

func checkTuneOk(t *testing.T, tune []impl.Note) {
	t.Helper()
	want := ascending(tune) && !slices.ContainsFunc(tune, func(n impl.Note) bool {
		return n.Time < 0 || n.Time > 1000 || n.Pitch < 0 || n.Pitch > 60
	})
	if got := impl.TuneOk(tune); got != want {
		t.Errorf("TuneOk(%v) = %v, want %v", tune, got, want)
	}
}

func TestSortNotesExamples(t *testing.T) {
	for _, c := range []struct{ list, want []impl.Note }{
		{nil, nil},
		{[]impl.Note{}, nil},
		{notes(3, 4), notes(3, 4)},
		{notes(4, 1, 2, 9, 4, 1), notes(2, 9, 4, 1)},
		{notes(4, 19, 4, 12), notes(4, 12, 4, 19)},
		{notes(1, 9, 2, 1), notes(1, 9, 2, 1)},
		{notes(2, 1, 1, 9), notes(1, 9, 2, 1)},
		{notes(1, 2, 1, 2, 1, 2), notes(1, 2)},
		{notes(2, 2, 1, 1, 2, 2, 1, 1), notes(1, 1, 2, 2)},
		{notes(10, 0, 9, 0, 100, 0), notes(9, 0, 10, 0, 100, 0)},
		{notes(1001, 61, -1, 5, -1, -5), notes(-1, -5, -1, 5, 1001, 61)},
		{impl.SampleTune(), impl.SampleTune()},
	} {
		if got := impl.SortNotes(c.list); !slices.Equal(got, c.want) {
			t.Errorf("SortNotes(%v) = %v, want %v", c.list, got, c.want)
		}
	}
}

func TestSortNotesOfGreatNumbers(t *testing.T) {
	least, most := math.MinInt64, math.MaxInt64
	list := notes(most, 1, 0, most, least, 1, 0, least, 0, 0, most, 1)
	want := notes(least, 1, 0, least, 0, 0, 0, most, most, 1)
	if got := impl.SortNotes(list); !slices.Equal(got, want) {
		t.Errorf("SortNotes(%v) = %v, want %v", list, got, want)
	}
}

func TestSortNotesLimit(t *testing.T) {
	reversed := row(40)
	slices.Reverse(reversed)
	if got := impl.SortNotes(reversed); !slices.Equal(got, row(40)) {
		t.Errorf("SortNotes of 40 notes = %v", got)
	}
	equal := slices.Repeat(notes(3, 4), 40)
	if got := impl.SortNotes(equal); !slices.Equal(got, notes(3, 4)) {
		t.Errorf("SortNotes of 40 equal notes = %v", got)
	}
	for name, list := range map[string][]impl.Note{
		"41 notes":              row(41),
		"41 equal notes":        slices.Repeat(notes(3, 4), 41),
		"40 notes and an equal": append(row(40), row(1)...),
		"900 notes":             row(900),
	} {
		if got := impl.SortNotes(list); len(got) != 0 {
			t.Errorf("%s: SortNotes = %v, want nil", name, got)
		}
	}
}

// someLists has lists of up to 40 notes in a mixed order, many of them equal.
func someLists() [][]impl.Note {
	var lists [][]impl.Note
	state := uint32(7)
	next := func(n int) int {
		state = state*1664525 + 1013904223
		return int(state>>16) % n
	}
	for size := range 41 {
		for range 8 {
			width := 1 + next(12)
			list := make([]impl.Note, size)
			for k := range list {
				list[k] = impl.Note{Time: next(width), Pitch: next(width)}
			}
			lists = append(lists, list)
		}
	}
	return lists
}

func TestSortNotesKeepsEachOnce(t *testing.T) {
	for _, list := range someLists() {
		got := impl.SortNotes(list)
		if !ascending(got) || !impl.TuneOk(got) {
			t.Fatalf("SortNotes(%v) = %v is not in order", list, got)
		}
		for _, n := range list {
			if !slices.Contains(got, n) {
				t.Fatalf("SortNotes(%v) = %v has lost %v", list, got, n)
			}
		}
		for _, n := range got {
			if !slices.Contains(list, n) {
				t.Fatalf("SortNotes(%v) = %v has made %v up", list, got, n)
			}
		}
		if again := impl.SortNotes(got); !slices.Equal(again, got) {
			t.Fatalf("SortNotes(%v) = %v", got, again)
		}
	}
}

func TestSortNotesKeepsItsArgument(t *testing.T) {
	backing := notes(4, 1, 2, 9, 4, 1, 0, 0)
	before := slices.Clone(backing)
	got := impl.SortNotes(backing[:3])
	for k := range got {
		got[k] = impl.Note{Time: 77, Pitch: 7}
	}
	_ = append(got, impl.Note{Time: 78, Pitch: 8})
	if !slices.Equal(backing, before) {
		t.Errorf("the argument changed to %v", backing)
	}
}

func TestLasts(t *testing.T) {
	for _, c := range []struct {
		tune []impl.Note
		want int
	}{
		{nil, 0},
		{[]impl.Note{}, 0},
		{impl.SampleTune(), 6},
		{notes(7, 20), 0},
		{notes(1000, 60), 0},
		{notes(5, 3, 5, 4, 5, 20), 0},
		{notes(3, 9, 10, 1), 7},
		{notes(3, 9, 9, 5, 10, 1), 7},
		{notes(0, 60, 1000, 0), 1000},
		{row(40), 39},
	} {
		if got := impl.Lasts(c.tune); got != c.want {
			t.Errorf("Lasts(%v) = %d, want %d", c.tune, got, c.want)
		}
	}
	for name, tune := range invalidTunes() {
		if got := impl.Lasts(tune); got != -1 {
			t.Errorf("%s: Lasts = %d, want -1", name, got)
		}
	}
}

func TestPitchRange(t *testing.T) {
	for _, c := range []struct {
		tune      []impl.Note
		low, high int
	}{
		{nil, -1, -1},
		{[]impl.Note{}, -1, -1},
		{impl.SampleTune(), 12, 19},
		{notes(7, 20), 20, 20},
		{notes(0, 0), 0, 0},
		{notes(1000, 60), 60, 60},
		{notes(1, 50, 2, 40, 3, 30), 30, 50},
		{notes(1, 30, 2, 40, 3, 50), 30, 50},
		{notes(1, 40, 2, 30, 3, 50, 4, 45), 30, 50},
		{notes(0, 60, 1000, 0), 0, 60},
		{notesAtOneTime(40), 0, 39},
	} {
		checkPitchRange(t, c.tune, c.low, c.high)
	}
	for _, tune := range invalidTunes() {
		checkPitchRange(t, tune, -1, -1)
	}
}

func checkPitchRange(t *testing.T, tune []impl.Note, low int, high int) {
	t.Helper()
	gotLow, gotHigh := impl.PitchRange(tune)
	if gotLow != low || gotHigh != high {
		t.Errorf("PitchRange(%v) = %d, %d, want %d, %d", tune, gotLow, gotHigh, low, high)
	}
}

func TestNotesAt(t *testing.T) {
	ends := notes(0, 0, 0, 60, 5, 7, 1000, 1, 1000, 2)
	for _, c := range []struct {
		tune []impl.Note
		time int
		want []int
	}{
		{impl.SampleTune(), 4, []int{12, 19}},
		{impl.SampleTune(), 0, []int{12}},
		{impl.SampleTune(), 6, []int{16}},
		{impl.SampleTune(), 3, nil},
		{impl.SampleTune(), 7, nil},
		{impl.SampleTune(), -1, nil},
		{impl.SampleTune(), 12, nil},
		{impl.SampleTune(), math.MaxInt64, nil},
		{impl.SampleTune(), math.MinInt64, nil},
		{ends, 0, []int{0, 60}},
		{ends, 5, []int{7}},
		{ends, 1000, []int{1, 2}},
		{ends, 1001, nil},
		{nil, 0, nil},
	} {
		if got := impl.NotesAt(c.tune, c.time); !slices.Equal(got, c.want) {
			t.Errorf("NotesAt(%v, %d) = %v, want %v", c.tune, c.time, got, c.want)
		}
	}
	for name, tune := range invalidTunes() {
		for _, n := range tune {
			if got := impl.NotesAt(tune, n.Time); len(got) != 0 {
				t.Errorf("%s: NotesAt %d = %v, want nil", name, n.Time, got)
			}
		}
	}
}

// TestNotesAtIsWholeTune joins the notes of all times to the tune again.
func TestNotesAtIsWholeTune(t *testing.T) {
	for name, tune := range validTunes() {
		var all []impl.Note
		for time := -1; time <= 1001; time++ {
			for _, pitch := range impl.NotesAt(tune, time) {
				all = append(all, impl.Note{Time: time, Pitch: pitch})
			}
		}
		if !slices.Equal(all, tune) {
			t.Errorf("%s: the notes of all times are %v", name, all)
		}
	}
}

func TestAddNote(t *testing.T) {
	for _, c := range []struct {
		tune []impl.Note
		n    impl.Note
		want []impl.Note
	}{
		{nil, impl.Note{Time: 3, Pitch: 5}, notes(3, 5)},
		{nil, impl.Note{}, notes(0, 0)},
		{nil, impl.Note{Time: 1000, Pitch: 60}, notes(1000, 60)},
		{impl.SampleTune(), impl.Note{Time: 3, Pitch: 5}, notes(0, 12, 2, 16, 3, 5, 4, 12, 4, 19, 6, 16)},
		{notes(4, 12, 4, 19), impl.Note{Time: 4, Pitch: 15}, notes(4, 12, 4, 15, 4, 19)},
		{notes(4, 12, 4, 19), impl.Note{Time: 4, Pitch: 11}, notes(4, 11, 4, 12, 4, 19)},
		{notes(4, 12, 4, 19), impl.Note{Time: 4, Pitch: 20}, notes(4, 12, 4, 19, 4, 20)},
		{notes(4, 12, 4, 19), impl.Note{Time: 3, Pitch: 60}, notes(3, 60, 4, 12, 4, 19)},
		{notes(4, 12, 4, 19), impl.Note{Time: 5, Pitch: 0}, notes(4, 12, 4, 19, 5, 0)},
		{notes(4, 12), impl.Note{Time: 12, Pitch: 4}, notes(4, 12, 12, 4)},
		{row(39), impl.Note{Time: 39, Pitch: 30}, row(40)},
		{row(40)[1:], impl.Note{Time: 0, Pitch: 30}, row(40)},
	} {
		if got, ok := impl.AddNote(c.tune, c.n); !slices.Equal(got, c.want) || !ok {
			t.Errorf("AddNote(%v, %v) = %v, %v, want %v, true", c.tune, c.n, got, ok, c.want)
		}
	}
}

func TestAddNoteRejects(t *testing.T) {
	for _, n := range []impl.Note{
		{Time: -1, Pitch: 5}, {Time: 1001, Pitch: 5}, {Time: 5, Pitch: -1}, {Time: 5, Pitch: 61},
		{Time: math.MinInt64}, {Time: math.MaxInt64}, {Pitch: math.MinInt64}, {Pitch: math.MaxInt64},
	} {
		checkNoteRejected(t, nil, n)
		checkNoteRejected(t, impl.SampleTune(), n)
	}
	for _, tune := range validTunes() {
		for _, n := range tune {
			checkNoteRejected(t, tune, n)
		}
	}
	checkNoteRejected(t, row(40), impl.Note{Time: 40, Pitch: 30})
	checkNoteRejected(t, row(40), impl.Note{Time: 3, Pitch: 29})
	checkNoteRejected(t, row(40), impl.Note{})
	for _, tune := range invalidTunes() {
		checkNoteRejected(t, tune, impl.Note{Time: 500, Pitch: 33})
		checkNoteRejected(t, tune, impl.Note{Time: 1, Pitch: 3})
	}
}

func checkNoteRejected(t *testing.T, tune []impl.Note, n impl.Note) {
	t.Helper()
	if got, ok := impl.AddNote(tune, n); !slices.Equal(got, tune) || ok {
		t.Errorf("AddNote(%v, %v) = %v, %v, want it unchanged, false", tune, n, got, ok)
	}
}

// TestAddNoteIsSortNotes adds notes in a mixed order, one after the other.
func TestAddNoteIsSortNotes(t *testing.T) {
	for _, list := range someLists() {
		var tune []impl.Note
		for _, n := range list {
			there := slices.Contains(tune, n)
			longer, ok := impl.AddNote(tune, n)
			if ok == there || !ascending(longer) {
				t.Fatalf("AddNote(%v, %v) = %v, %v", tune, n, longer, ok)
			}
			tune = longer
		}
		if want := impl.SortNotes(list); !slices.Equal(tune, want) {
			t.Fatalf("added %v, sorted %v", tune, want)
		}
	}
}

func TestAddNoteKeepsItsArgument(t *testing.T) {
	for _, n := range []impl.Note{
		{Time: 3, Pitch: 5}, {Time: 0, Pitch: 1}, {Time: 5, Pitch: 9},
		{Time: 2, Pitch: 9}, {Time: 1001}, {Pitch: 61},
	} {
		backing := notes(2, 9, 4, 1, 9, 9, 8, 8)
		before := slices.Clone(backing)
		got, _ := impl.AddNote(backing[:2], n)
		for k := range got {
			got[k] = impl.Note{Time: 77, Pitch: 7}
		}
		_ = append(got, impl.Note{Time: 78, Pitch: 8})
		if !slices.Equal(backing, before) {
			t.Errorf("AddNote of %v: the argument changed to %v", n, backing)
		}
	}
	wrong := notes(4, 1, 2, 9)
	got, _ := impl.AddNote(wrong, impl.Note{})
	got[0] = impl.Note{Time: 77}
	if !slices.Equal(wrong, notes(4, 1, 2, 9)) {
		t.Errorf("AddNote to an invalid tune: the argument changed to %v", wrong)
	}
}

func TestSampleTune(t *testing.T) {
	want := notes(0, 12, 2, 16, 4, 12, 4, 19, 6, 16)
	got := impl.SampleTune()
	if !slices.Equal(got, want) {
		t.Errorf("SampleTune() = %v, want %v", got, want)
	}
	got[0] = impl.Note{Time: 77}
	if again := impl.SampleTune(); !slices.Equal(again, want) {
		t.Errorf("a later SampleTune() = %v, want %v", again, want)
	}
}

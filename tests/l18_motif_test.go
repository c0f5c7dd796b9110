package tests

import (
	"slices"
	"strconv"
	"testing"

	"loop.example/g03309/impl"
)

// Promise 18: A part of a tune occurs at its place, and longer parts have no fewer
// forms than they repeat.

// formText has how far each note lies from the first one. Parts that are only moved
// have the same text.
func formText(part []impl.Note) string {
	text := ""
	for _, n := range part {
		text += strconv.Itoa(n.Time-part[0].Time) + ":" + strconv.Itoa(n.Pitch-part[0].Pitch) + " "
	}
	return text
}

// partsOf has all parts of n notes, none if there are fewer notes.
func partsOf(tune []impl.Note, n int) [][]impl.Note {
	var parts [][]impl.Note
	for from := range tune {
		if len(tune[from:]) >= n {
			parts = append(parts, tune[from:from+n])
		}
	}
	return parts
}

// formsOf tells how many parts of n notes have each form.
func formsOf(tune []impl.Note, n int) map[string]int {
	forms := map[string]int{}
	for _, part := range partsOf(tune, n) {
		forms[formText(part)]++
	}
	return forms
}

// repeatOf tries the longest parts first.
func repeatOf(tune []impl.Note) int {
	for n := len(tune); n > 0; n-- {
		if len(formsOf(tune, n)) < len(partsOf(tune, n)) {
			return n
		}
	}
	return 0
}

// placesOf moves the motif to each note, and looks for what is lost if the notes of
// the tune are taken away.
func placesOf(tune []impl.Note, motif []impl.Note) []int {
	there := map[impl.Note]bool{}
	for _, n := range tune {
		there[n] = true
	}
	var places []int
	for k, first := range tune {
		at := moved(motif, first.Time-motif[0].Time, first.Pitch-motif[0].Pitch)
		at = slices.DeleteFunc(at, func(n impl.Note) bool { return there[n] })
		if len(at) == 0 {
			places = append(places, k)
		}
	}
	return places
}

// gridTunes has all tunes with the times from 0 to times - 1 and the pitches from 0
// to pitches - 1.
func gridTunes(times int, pitches int) [][]impl.Note {
	var tunes [][]impl.Note
	for set := range 1 << (times * pitches) {
		var tune []impl.Note
		for k := range times * pitches {
			if set>>k&1 == 1 {
				tune = append(tune, impl.Note{Time: k / pitches, Pitch: k % pitches})
			}
		}
		tunes = append(tunes, tune)
	}
	return tunes
}

// spread has n notes with one pitch and different distances in time, so that no two
// parts of two or more notes are the same.
func spread(n int) []impl.Note {
	var tune []impl.Note
	for k := range n {
		tune = append(tune, impl.Note{Time: k * (k + 1) / 2, Pitch: 20})
	}
	return tune
}

// inFours has 40 notes: ten times four of them, each time later and higher.
func inFours() []impl.Note {
	var tune []impl.Note
	for k := range 10 {
		tune = append(tune, moved(notes(0, 10, 1, 14, 2, 11, 4, 12), 7*k, 3*k)...)
	}
	return tune
}

// motifTunes has the many tunes and those made for this chapter.
func motifTunes() [][]impl.Note {
	return append(manyTunes(), spread(2), spread(3), spread(7), spread(40), inFours(), inFours()[:39], inFours()[3:],
		notes(0, 12, 1, 15, 5, 30, 6, 33), notes(0, 12, 1, 15, 5, 12, 7, 15), notes(0, 12, 1, 15, 5, 12, 6, 16))
}

// checkPlaces also asks for each k, and for some that no tune has.
func checkPlaces(t *testing.T, tune []impl.Note, motif []impl.Note, want []int) {
	t.Helper()
	if got := impl.Occurrences(tune, motif); !slices.Equal(got, want) {
		t.Errorf("Occurrences(%v, %v) = %v, want %v", tune, motif, got, want)
	}
	for k := -2; k <= len(tune)+2; k++ {
		checkOccurs(t, tune, motif, k, slices.Contains(want, k))
	}
}

func checkOccurs(t *testing.T, tune []impl.Note, motif []impl.Note, k int, want bool) {
	t.Helper()
	if got := impl.OccursAt(tune, motif, k); got != want {
		t.Errorf("OccursAt(%v, %v, %d) = %v, want %v", tune, motif, k, got, want)
	}
}

func checkRepeat(t *testing.T, tune []impl.Note, want int) {
	t.Helper()
	if got := impl.LongestRepeat(tune); got != want {
		t.Errorf("LongestRepeat(%v) = %d, want %d", tune, got, want)
	}
}

func checkMotifs(t *testing.T, tune []impl.Note, n int, want int) {
	t.Helper()
	if got := impl.CountMotifs(tune, n); got != want {
		t.Errorf("CountMotifs(%v, %d) = %d, want %d", tune, n, got, want)
	}
}

func checkPartOf(t *testing.T, tune []impl.Note, from int, n int, want []impl.Note) {
	t.Helper()
	if got, ok := impl.PartOf(tune, from, n); !slices.Equal(got, want) || !ok {
		t.Errorf("PartOf(%v, %d, %d) = %v, %v, want %v, true", tune, from, n, got, ok, want)
	}
}

func checkNoPartOf(t *testing.T, tune []impl.Note, from int, n int) {
	t.Helper()
	if got, ok := impl.PartOf(tune, from, n); len(got) != 0 || ok {
		t.Errorf("PartOf(%v, %d, %d) = %v, %v, want nil, false", tune, from, n, got, ok)
	}
}

func TestOccurrences(t *testing.T) {
	scale := notes(0, 3, 2, 4, 4, 6, 6, 7)
	for _, c := range []struct {
		tune, motif []impl.Note
		want        []int
	}{
		{scale, notes(5, 9, 7, 10), []int{0, 2}},
		{scale, notes(5, 9, 7, 11), []int{1}},
		{scale, notes(5, 9, 7, 8), nil},
		// The same pitches at other times, and the same times with other pitches.
		{scale, notes(5, 9, 8, 10), nil}, {scale, notes(5, 3, 6, 4), nil}, {scale, notes(0, 9, 2, 9), nil},
		{scale, notes(0, 4, 2, 3), nil},
		// The whole tune, also moved.
		{scale, scale, []int{0}}, {scale, moved(scale, 994, 53), []int{0}}, {notes(7, 20), notes(7, 20), []int{0}},
		{impl.SampleTune(), impl.SampleTune(), []int{0}}, {row(40), row(40), []int{0}},
		{notesAtOneTime(40), moved(notesAtOneTime(40), 992, 21), []int{0}}, {inFours(), moved(inFours(), 9, -10), []int{0}},
		// One note.
		{scale, notes(900, 60), []int{0, 1, 2, 3}}, {impl.SampleTune(), notes(0, 0), []int{0, 1, 2, 3, 4}},
		{row(40), notes(1000, 0), teethFrom(0, 40)}, {notesAtOneTime(40), notes(0, 60), teethFrom(0, 40)},
		{notes(1000, 60), notes(0, 0), []int{0}}, {notes(0, 0), notes(1000, 60), []int{0}},
		// Two notes at one time.
		{impl.SampleTune(), notes(9, 30, 9, 37), []int{2}}, {scale, notes(9, 30, 9, 37), nil},
		{notes(0, 1, 0, 3, 0, 5, 8, 1, 8, 2, 8, 4), notes(1, 1, 1, 3), []int{0, 1, 4}},
		{notesAtOneTime(5), notes(0, 7, 0, 9), []int{0, 1, 2}}, {notesAtOneTime(40), notes(0, 0, 0, 39), []int{0}},
		// Other notes lie between those of the motif, also at one time.
		{impl.SampleTune(), notes(0, 12, 4, 12), []int{0, 1}}, {impl.SampleTune(), notes(0, 5, 4, 12), []int{0}},
		{impl.SampleTune(), notes(5, 5, 9, 12, 11, 9), []int{0}}, {scale, notes(0, 3, 4, 6), []int{0, 1}},
		{scale, notes(0, 3, 6, 7), []int{0}}, {scale, notes(0, 3, 2, 4, 6, 7), []int{0}},
		{notes(0, 9, 0, 10, 0, 11, 3, 9), notes(4, 4, 4, 6, 7, 4), []int{0}},
		// The places are not next to each other, nor do they begin at the first note.
		{notes(0, 9, 1, 20, 2, 30, 3, 9, 4, 20, 5, 1), notes(0, 0, 1, 11), []int{0, 3}},
		{notes(0, 9, 1, 2, 2, 4, 3, 1, 4, 3), notes(0, 5, 1, 7), []int{1, 3}},
		// Parts that overlap.
		{row(5), row(2), []int{0, 1, 2, 3}}, {row(5), row(3), []int{0, 1, 2}}, {row(5), notes(3, 3, 5, 3), []int{0, 1, 2}},
		{row(40), row(20), teethFrom(0, 21)}, {row(40), row(39), []int{0, 1}}, {notesAtOneTime(40), notesAtOneTime(39), []int{0, 1}},
		{inTime(3, 5, 3, 5, 3), inTime(3, 5, 3), []int{0, 2}}, {inTime(1, 2, 3, 4, 5, 6, 5), inTime(7, 8, 9), []int{0, 1, 2, 3}},
		{inFours(), inFours()[:8], []int{0, 4, 8, 12, 16, 20, 24, 28, 32}},
		// Longer than the tune.
		{scale, row(5), nil}, {notes(0, 1), notes(0, 1, 0, 2), nil}, {row(39), row(40), nil}, {nil, notes(0, 1), nil},
		{row(4), row(5), nil}, {scale[:3], scale, nil}, {nil, row(40), nil},
	} {
		checkPlaces(t, c.tune, c.motif, c.want)
	}
}

// TestOccurrencesOfMotifsThatLeave has motifs that are valid, but not where they are
// moved to.
func TestOccurrencesOfMotifsThatLeave(t *testing.T) {
	for _, c := range []struct {
		tune, motif []impl.Note
		want        []int
	}{
		{notes(0, 1), notes(0, 0, 0, 60), nil}, {notes(0, 60), notes(0, 0, 1, 1), nil}, {notes(0, 0), notes(0, 1, 1, 0), nil},
		{notes(0, 0), notes(0, 60, 1, 0), nil}, {notes(1000, 5), notes(0, 5, 1, 5), nil}, {notes(1, 5), notes(0, 5, 1000, 5), nil},
		{notes(1000, 60), notes(0, 0, 1000, 60), nil}, {notes(1000, 0), notes(0, 60, 1000, 0), nil},
		// It leaves from some notes, but not from others.
		{notes(0, 59, 1, 60), notes(5, 5, 6, 6), []int{0}}, {notes(0, 1, 1, 0), notes(5, 50, 6, 49), []int{0}},
		{notes(999, 7, 1000, 7), notes(0, 7, 1, 7), []int{0}}, {notes(0, 0, 0, 60, 1000, 0, 1000, 60), notes(3, 0, 3, 60), []int{0, 2}},
		{notes(0, 0, 0, 60, 1000, 0, 1000, 60), notes(0, 8, 1000, 8), []int{0, 1}},
		{notes(0, 0, 0, 60, 1000, 0, 1000, 60), notes(0, 60, 1000, 0), []int{1}},
		{notes(0, 0, 0, 60, 1000, 0, 1000, 60), notes(0, 0, 0, 60, 1000, 60), []int{0}},
		{moved(row(40), 961, 30), notes(0, 0, 20, 0), teethFrom(0, 20)}, {moved(notesAtOneTime(40), 0, 21), notes(0, 0, 0, 20), teethFrom(0, 20)},
	} {
		checkPlaces(t, c.tune, c.motif, c.want)
	}
}

// TestOccursAtTheEnds has the first note, the last one, and what lies outside.
func TestOccursAtTheEnds(t *testing.T) {
	for _, tune := range motifTunes() {
		for _, one := range [][]impl.Note{notes(0, 0), notes(1000, 60), notes(30, 12)} {
			checkOccurs(t, tune, one, 0, len(tune) > 0)
			checkOccurs(t, tune, one, len(tune)-1, len(tune) > 0)
			checkOccurs(t, tune, one, len(tune), false)
			checkOccurs(t, tune, one, -1, false)
			for _, k := range extremes() {
				checkOccurs(t, tune, one, k, false)
			}
		}
	}
}

func TestOccurrencesWithoutMotif(t *testing.T) {
	for _, tune := range motifTunes() {
		checkPlaces(t, tune, nil, nil)
		checkPlaces(t, tune, []impl.Note{}, nil)
	}
}

// TestOccurrencesInGrids has motifs that begin at any time and pitch.
func TestOccurrencesInGrids(t *testing.T) {
	motifs := append(gridTunes(2, 2), gridTunes(3, 1)...)
	motifs = append(motifs, gridTunes(1, 3)...)
	motifs = append(motifs, notes(0, 2, 2, 0), notes(0, 0, 3, 2), notes(0, 1, 1, 2, 2, 1, 3, 0), notes(1, 0, 3, 1, 4, 2))
	for _, tune := range gridTunes(4, 3) {
		for _, motif := range motifs {
			if len(motif) > 0 {
				checkPlaces(t, tune, motif, placesOf(tune, motif))
			}
		}
	}
}

// everySecond leaves notes out, so that the tune has others between them.
func everySecond(tune []impl.Note) []impl.Note {
	var motif []impl.Note
	for k := 0; k < len(tune); k += 2 {
		motif = append(motif, tune[k])
	}
	return motif
}

func TestOccurrencesInManyTunes(t *testing.T) {
	tunes := motifTunes()
	for k, tune := range tunes {
		other := tunes[(k*7+5)%len(tunes)]
		size := len(tune)
		for _, motif := range [][]impl.Note{
			tune, tune[size/2:], tune[:size/3], tune[size/3 : size/2], everySecond(tune), everySecond(tune[size/2:]),
			other[:len(other)/8], other[:min(2, len(other))], other,
		} {
			if len(motif) == 0 {
				continue
			}
			// It begins at the least time, so that it is not where it came from.
			motif = moved(motif, -motif[0].Time, 0)
			checkPlaces(t, tune, motif, placesOf(tune, motif))
		}
	}
}

// TestPartsOccurAtTheirPlaces also moves them, and takes notes out of them.
func TestPartsOccurAtTheirPlaces(t *testing.T) {
	for k, tune := range motifTunes() {
		// Not all parts of all tunes, as there are many.
		for from := k % 3; from < len(tune); from += 3 {
			for n := 1; n <= len(tune)-from; n++ {
				part, ok := impl.PartOf(tune, from, n)
				if !ok || len(part) != n {
					t.Fatalf("PartOf(%v, %d, %d) = %v, %v", tune, from, n, part, ok)
				}
				checkOccurs(t, tune, part, from, true)
				checkOccurs(t, tune, everySecond(part), from, true)
				if later, ok := impl.Later(part, 13); ok {
					checkOccurs(t, tune, later, from, true)
				}
				if higher, ok := impl.Higher(part, -5); ok {
					checkOccurs(t, tune, higher, from, true)
				}
			}
		}
	}
}

func TestLongestRepeat(t *testing.T) {
	for _, c := range []struct {
		tune []impl.Note
		want int
	}{
		// Without notes, and with one.
		{nil, 0}, {[]impl.Note{}, 0}, {notes(7, 20), 0}, {notes(0, 0), 0}, {notes(1000, 60), 0},
		// Two notes are always the same, moved.
		{notes(7, 20, 8, 20), 1}, {notes(0, 0, 1000, 60), 1}, {notes(3, 0, 3, 60), 1}, {notes(0, 60, 1, 0), 1},
		// Parts that overlap: one pitch at equal distances, and others.
		{row(3), 2}, {row(4), 3}, {row(39), 38}, {row(40), 39}, {at(9, 0, 25, 50, 75, 100), 4}, {at(60, 0, 500, 1000), 2},
		{notesAtOneTime(3), 2}, {notesAtOneTime(40), 39}, {inTime(teethFrom(0, 40)...), 39}, {inTime(7, 5, 3, 1), 3},
		{inTime(3, 5, 3, 5, 3), 3}, {inTime(3, 5, 3, 5, 3, 5), 4}, {inTime(3, 5, 4, 6, 5, 7, 6), 5}, {inTime(0, 1, 2, 9, 10, 11), 3},
		{inFours(), 36}, {inFours()[:39], 35}, {at(9, 1, 2, 3, 4, 9), 3}, {at(9, 1, 6, 7, 8, 9), 3},
		// Both time and pitch are moved, or only one of them.
		{notes(0, 12, 1, 15, 5, 30, 6, 33), 2}, {notes(0, 12, 1, 15, 3, 14, 5, 30, 6, 33, 8, 32), 3},
		{notes(0, 12, 1, 15, 5, 12, 6, 15), 2}, {notes(5, 12, 5, 15, 5, 40, 5, 43), 2}, {notes(0, 60, 1, 0, 999, 60, 1000, 0), 2},
		// The same pitches at other times, and the same times with other pitches.
		{notes(0, 12, 1, 15, 5, 12, 7, 15), 1}, {notes(0, 12, 1, 15, 5, 12, 6, 16), 1}, {notes(0, 12, 1, 13, 3, 14, 6, 15), 1},
		{notes(0, 12, 1, 13, 2, 15, 3, 18), 1}, {spread(3), 1}, {spread(40), 1}, {notes(0, 12, 1, 15, 5, 15, 6, 12), 1},
		// Notes at one time.
		{atOnce(0, 1, 3), 1}, {atOnce(0, 1, 3, 4), 2}, {atOnce(0, 1, 3, 6, 10), 1}, {atOnce(0, 2, 4, 6), 3},
		{notes(0, 1, 0, 5, 3, 9, 3, 13), 2}, {notes(0, 1, 0, 5, 3, 9, 3, 12), 1}, {notes(0, 1, 0, 2, 1, 1, 1, 2, 2, 1, 2, 2), 4},
		{impl.SampleTune(), 1},
		// The longest one is neither the first nor the last, and ends before the end.
		{inTime(0, 40, 3, 4, 6, 30, 13, 14, 16, 2, 3, 50), 3}, {inTime(0, 1, 2, 3, 10, 17, 15, 16, 30, 37, 35, 36, 1), 4},
		// Notes with others between them are no part.
		{notes(0, 0, 1, 30, 2, 5, 10, 0, 12, 5), 1},
	} {
		checkRepeat(t, c.tune, c.want)
	}
}

func TestLongestRepeatOfTwoNotes(t *testing.T) {
	for time := 0; time <= 1000; time += 125 {
		for pitch := range 61 {
			for _, other := range []int{0, 29, 30, 31, 60} {
				if time > 0 || pitch > other {
					checkRepeat(t, notes(0, other, time, pitch), 1)
				}
			}
		}
	}
}

// TestLongestRepeatAtEqualDistances is at its limits for each number of notes.
func TestLongestRepeatAtEqualDistances(t *testing.T) {
	for size := 1; size <= 40; size++ {
		for _, step := range [][2]int{{1, 0}, {25, 0}, {0, 1}, {3, 1}, {1000 / 40, 1}} {
			var tune []impl.Note
			for k := range size {
				tune = append(tune, impl.Note{Time: k * step[0], Pitch: k * step[1]})
			}
			checkRepeat(t, tune, size-1)
			for n := 1; n <= 40; n++ {
				checkMotifs(t, tune, n, min(1, max(0, size-n+1)))
			}
		}
	}
}

func TestCountMotifs(t *testing.T) {
	scale := notes(0, 3, 2, 4, 4, 6, 6, 7)
	for _, c := range []struct {
		tune []impl.Note
		n    int
		want int
	}{
		{scale, 1, 1}, {scale, 2, 2}, {scale, 3, 2}, {scale, 4, 1}, {scale, 5, 0}, {scale, 40, 0},
		{nil, 1, 0}, {nil, 2, 0}, {nil, 40, 0}, {[]impl.Note{}, 1, 0}, {[]impl.Note{}, 40, 0},
		{notes(7, 20), 1, 1}, {notes(7, 20), 2, 0}, {notes(7, 20), 40, 0}, {notes(7, 20, 8, 1), 1, 1}, {notes(7, 20, 8, 1), 2, 1},
		{notes(7, 20, 8, 1), 3, 0},
		// All parts have one form.
		{row(40), 1, 1}, {row(40), 2, 1}, {row(40), 39, 1}, {row(40), 40, 1}, {row(39), 40, 0}, {notesAtOneTime(40), 20, 1},
		{inTime(teethFrom(3, 30)...), 7, 1}, {inTime(teethFrom(3, 30)...), 30, 1}, {inTime(teethFrom(3, 30)...), 31, 0},
		// No two have the same.
		{spread(40), 1, 1}, {spread(40), 2, 39}, {spread(40), 3, 38}, {spread(40), 39, 2}, {spread(40), 40, 1},
		{spread(5), 2, 4}, {spread(5), 5, 1}, {spread(5), 6, 0}, {atOnce(0, 1, 3, 6, 10), 2, 4}, {inTime(9, 10, 12, 9), 2, 3},
		// The same pitches at other times, and the same times with other pitches.
		{notes(0, 12, 1, 15, 5, 12, 7, 15), 2, 3}, {notes(0, 12, 1, 15, 5, 12, 6, 16), 2, 3}, {notes(0, 12, 1, 15, 5, 30, 6, 33), 2, 2},
		{notes(0, 12, 1, 15, 5, 30, 6, 33), 3, 2},
		// Some forms come again, also several times and in parts that overlap.
		{inTime(3, 5, 3, 5, 3), 2, 2}, {inTime(3, 5, 3, 5, 3), 3, 2}, {inTime(3, 5, 3, 5, 3), 4, 2}, {inTime(3, 5, 3, 5, 3), 5, 1},
		{inFours(), 2, 4}, {inFours(), 4, 4}, {inFours(), 36, 4}, {inFours(), 37, 4}, {inFours(), 38, 3}, {inFours(), 40, 1},
		{impl.SampleTune(), 2, 4}, {impl.SampleTune(), 1, 1}, {impl.SampleTune(), 5, 1}, {impl.SampleTune(), 6, 0},
		{notes(0, 1, 0, 5, 3, 9, 3, 13), 2, 2}, {notes(0, 0, 1, 30, 2, 5, 10, 0, 12, 5), 2, 4},
	} {
		checkMotifs(t, c.tune, c.n, c.want)
	}
}

func TestCountMotifsOutOfRange(t *testing.T) {
	for _, tune := range motifTunes() {
		for _, n := range append(extremes(), 0, 41, -1, 42, -40, -41, 80) {
			checkMotifs(t, tune, n, -1)
		}
	}
}

// TestFormsOfTunes compares both functions with the texts of all parts.
func TestFormsOfTunes(t *testing.T) {
	for _, tune := range append(motifTunes(), gridTunes(4, 3)...) {
		checkRepeat(t, tune, repeatOf(tune))
		for n := 1; n <= min(40, len(tune)+1); n++ {
			checkMotifs(t, tune, n, len(formsOf(tune, n)))
		}
		checkMotifs(t, tune, 40, len(formsOf(tune, 40)))
	}
}

// TestFormsAreSameTunes compares parts by SameTune, two by two.
func TestFormsAreSameTunes(t *testing.T) {
	tunes := motifTunes()
	for k := 0; k < len(tunes); k += 9 {
		tune, longest := tunes[k], 0
		for n := 1; n <= len(tune); n++ {
			var forms [][]impl.Note
			for _, part := range partsOf(tune, n) {
				if slices.ContainsFunc(forms, func(form []impl.Note) bool { return impl.SameTune(form, part) }) {
					longest = n
				} else {
					forms = append(forms, part)
				}
			}
			checkMotifs(t, tune, n, len(forms))
		}
		checkRepeat(t, tune, longest)
	}
}

// TestFewerFormsJustIfRepeated compares the functions with each other: parts of n
// notes have fewer forms than there are parts just if one of them comes again.
func TestFewerFormsJustIfRepeated(t *testing.T) {
	for _, tune := range append(motifTunes(), gridTunes(3, 3)...) {
		longest := impl.LongestRepeat(tune)
		for n := 1; n <= len(tune); n++ {
			parts := len(tune) - n + 1
			forms := impl.CountMotifs(tune, n)
			if forms < 1 || forms > parts || (forms < parts) != (longest >= n) {
				t.Errorf("%v: %d forms of %d parts of %d notes, and LongestRepeat %d", tune, forms, parts, n, longest)
			}
		}
	}
}

// TestFormsStayWhereMoved moves tunes and turns them, which no form notices.
func TestFormsStayWhereMoved(t *testing.T) {
	for _, tune := range motifTunes() {
		later, _ := impl.Later(tune, 20)
		higher, _ := impl.Higher(tune, -1)
		slower, _ := impl.Slower(tune, 2)
		for _, other := range [][]impl.Note{later, higher, slower} {
			checkRepeat(t, other, impl.LongestRepeat(tune))
			for n := 1; n <= 40; n += 3 {
				checkMotifs(t, other, n, impl.CountMotifs(tune, n))
			}
		}
	}
}

func TestPartOf(t *testing.T) {
	sample := impl.SampleTune()
	for _, c := range []struct {
		tune    []impl.Note
		from, n int
		want    []impl.Note
	}{
		{sample, 1, 2, notes(2, 16, 4, 12)}, {sample, 0, 1, notes(0, 12)}, {sample, 4, 1, notes(6, 16)},
		{sample, 0, 4, notes(0, 12, 2, 16, 4, 12, 4, 19)}, {sample, 2, 3, notes(4, 12, 4, 19, 6, 16)},
		// All notes.
		{sample, 0, 5, sample}, {row(40), 0, 40, row(40)}, {notes(7, 20), 0, 1, notes(7, 20)}, {nil, 0, 0, nil},
		// No notes, also behind the last one.
		{sample, 0, 0, nil}, {sample, 3, 0, nil}, {sample, 5, 0, nil}, {[]impl.Note{}, 0, 0, nil}, {row(40), 40, 0, nil},
		{notes(7, 20), 1, 0, nil},
		// 40 notes.
		{row(40), 39, 1, notes(39, 30)}, {row(40), 1, 39, row(40)[1:]}, {row(40), 0, 39, row(39)},
		{notesAtOneTime(40), 20, 2, notes(8, 20, 8, 21)}, {inFours(), 36, 4, notes(63, 37, 64, 41, 65, 38, 67, 39)},
	} {
		checkPartOf(t, c.tune, c.from, c.n, c.want)
	}
}

func TestNoPartOf(t *testing.T) {
	sample := impl.SampleTune()
	for _, c := range []struct {
		tune    []impl.Note
		from, n int
	}{
		// One note too many.
		{sample, 0, 6}, {sample, 1, 5}, {sample, 4, 2}, {sample, 5, 1}, {nil, 0, 1}, {row(40), 0, 41}, {row(40), 40, 1},
		{row(40), 1, 40}, {notes(7, 20), 1, 1}, {notes(7, 20), 0, 2},
		// Behind the last note, also without notes.
		{sample, 6, 0}, {sample, 6, 1}, {nil, 1, 0}, {row(40), 41, 0}, {row(40), 41, -1}, {sample, 6, -1}, {sample, 7, -2},
		// Negative numbers, also with a sum that is not.
		{sample, -1, 0}, {sample, -1, 1}, {sample, -1, 2}, {sample, -5, 5}, {sample, 0, -1}, {sample, 1, -1}, {sample, 3, -2},
		{sample, 5, -1}, {sample, -1, -1}, {nil, -1, 0}, {nil, 0, -1}, {nil, -1, 1}, {sample, -1, 6},
	} {
		checkNoPartOf(t, c.tune, c.from, c.n)
	}
}

// TestPartOfGreatNumbers also has some whose sum is too great for an int.
func TestPartOfGreatNumbers(t *testing.T) {
	for _, tune := range [][]impl.Note{nil, notes(7, 20), impl.SampleTune(), row(40)} {
		for _, great := range append(extremes(), 1<<32, -1<<32, 1<<62, -1<<62, 41) {
			for _, other := range append(extremes(), -1, 0, 1, 2, 5, 39, 40, 1<<32, -1<<32, 1<<62, -1<<62) {
				checkNoPartOf(t, tune, great, other)
				checkNoPartOf(t, tune, other, great)
			}
		}
	}
}

func TestAllPartsOfTunes(t *testing.T) {
	for k, tune := range motifTunes() {
		if k%5 != 0 && len(tune) > 8 {
			continue
		}
		for from := -2; from <= len(tune)+2; from++ {
			for n := -2; n <= len(tune)+2; n++ {
				if from < 0 || n < 0 || from+n > len(tune) {
					checkNoPartOf(t, tune, from, n)
				} else {
					checkPartOf(t, tune, from, n, tune[from:from+n])
				}
			}
		}
	}
}

func TestMotifsOfInvalidTunes(t *testing.T) {
	for _, tune := range invalidTunes() {
		checkPlaces(t, tune, nil, nil)
		checkRepeat(t, tune, -1)
		for n := range 43 {
			checkMotifs(t, tune, n, -1)
			checkNoPartOf(t, tune, 0, n)
			checkNoPartOf(t, tune, 1, n-1)
		}
		// They do not occur, nor does anything occur in them, even if it is there.
		checkPlaces(t, tune, tune, nil)
		for _, other := range [][]impl.Note{notes(7, 20), notes(1, 2), notes(1, 2, 1, 3), row(2), row(40), impl.SampleTune()} {
			checkPlaces(t, tune, other, nil)
			checkPlaces(t, other, tune, nil)
		}
		checkPlaces(t, nil, tune, nil)
	}
}

func TestMotifsKeepTheirArguments(t *testing.T) {
	backing := notes(2, 13, 2, 14, 3, 9, 8, 8, 1, 1)
	for name, call := range map[string]func([]impl.Note) []impl.Note{
		"OccursAt": func(tune []impl.Note) []impl.Note {
			impl.OccursAt(tune, backing[:1], 0)
			impl.OccursAt(row(9), tune, 2)
			return nil
		},
		"Occurrences": func(tune []impl.Note) []impl.Note {
			impl.Occurrences(tune, backing[1:3])
			impl.Occurrences(notes(2, 13, 2, 14, 3, 9), tune)
			impl.Occurrences(tune, tune)
			return nil
		},
		"LongestRepeat": func(tune []impl.Note) []impl.Note {
			impl.LongestRepeat(tune)
			return nil
		},
		"CountMotifs": func(tune []impl.Note) []impl.Note {
			impl.CountMotifs(tune, 2)
			return nil
		},
		"PartOf all": func(tune []impl.Note) []impl.Note {
			part, _ := impl.PartOf(tune, 0, len(tune))
			return part
		},
		"PartOf the first": func(tune []impl.Note) []impl.Note {
			part, _ := impl.PartOf(tune, 0, 1)
			return part
		},
		"PartOf the last": func(tune []impl.Note) []impl.Note {
			part, _ := impl.PartOf(tune, max(0, len(tune)-1), 1)
			return part
		},
		"PartOf none": func(tune []impl.Note) []impl.Note {
			part, _ := impl.PartOf(tune, len(tune)/2, 0)
			return part
		},
		"PartOf none at the end": func(tune []impl.Note) []impl.Note {
			part, _ := impl.PartOf(tune, len(tune), 0)
			return part
		},
	} {
		for size := range len(backing) + 1 {
			checkKeepsArgument(t, name, call, backing, size)
		}
	}
}

// TestMotifResultsAreNew changes results and asks again.
func TestMotifResultsAreNew(t *testing.T) {
	tune, motif := row(5), row(2)
	places := impl.Occurrences(tune, motif)
	for k := range places {
		places[k] = 77
	}
	_ = append(places, 78)
	part, _ := impl.PartOf(tune, 1, 3)
	for k := range part {
		part[k] = impl.Note{Time: 77, Pitch: 7}
	}
	_ = append(part, impl.Note{Time: 78})
	checkPlaces(t, tune, motif, []int{0, 1, 2, 3})
	checkPartOf(t, tune, 1, 3, notes(1, 30, 2, 30, 3, 30))
	if !slices.Equal(tune, row(5)) || !slices.Equal(motif, row(2)) {
		t.Errorf("the arguments changed to %v and %v", tune, motif)
	}
}

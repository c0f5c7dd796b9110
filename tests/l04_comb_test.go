package tests

import (
	"maps"
	"math"
	"slices"
	"testing"

	"loop.example/g03309/impl"
)

// Promise 4: A tune can be played just if no pitch is missing, and the best move misses the fewest.

// teethFrom has n teeth, with the pitches from the first one on.
func teethFrom(first int, n int) []int {
	var comb []int
	for k := range n {
		comb = append(comb, first+k)
	}
	return comb
}

func validCombs() map[string][]int {
	return map[string][]int{
		"one tooth":          {20},
		"least pitch":        {0},
		"greatest pitch":     {60},
		"least and greatest": {0, 60},
		"ascending":          {12, 16, 19},
		"two equal":          {12, 12, 14, 18},
		"equal at the end":   {3, 9, 9},
		"all equal":          {5, 5, 5},
		"24 teeth":           teethFrom(0, 24),
		"24 high teeth":      teethFrom(37, 24),
		"24 equal teeth":     slices.Repeat([]int{30}, 24),
		"24 teeth at 0":      slices.Repeat([]int{0}, 24),
		"24 teeth at 60":     slices.Repeat([]int{60}, 24),
	}
}

func invalidCombs() map[string][]int {
	return map[string][]int{
		"nil":                   nil,
		"empty":                 {},
		"falling":               {3, 2},
		"falling at the end":    {1, 2, 5, 4},
		"falling at the start":  {2, 1, 5, 6},
		"falling in the middle": {1, 5, 3, 6},
		"pitch -1":              {-1},
		"pitch -1 first":        {-1, 0, 5},
		"pitch 61":              {61},
		"pitch 61 last":         {0, 5, 61},
		"pitch 61 in between":   {5, 61, 6},
		"pitch -1 in between":   {5, -1, 6},
		"both past the ends":    {-1, 61},
		"least int":             {math.MinInt64},
		"greatest int":          {math.MaxInt64},
		"both ints":             {math.MinInt64, math.MaxInt64},
		"ints that fall":        {math.MaxInt64, math.MinInt64},
		"25 teeth":              teethFrom(0, 25),
		"25 equal teeth":        slices.Repeat([]int{30}, 25),
		"900 equal teeth":       slices.Repeat([]int{30}, 900),
	}
}

// manyCombs has the valid combs and others in a mixed order.
func manyCombs() [][]int {
	var combs [][]int
	valid := validCombs()
	for _, name := range slices.Sorted(maps.Keys(valid)) {
		combs = append(combs, valid[name])
	}
	for _, list := range someLists() {
		var comb []int
		for _, n := range list {
			comb = append(comb, n.Pitch*3, n.Time+12)
		}
		slices.Sort(comb)
		if impl.CombOk(comb) {
			combs = append(combs, comb)
		}
	}
	return combs
}

func TestMaxTeeth(t *testing.T) {
	if impl.MaxTeeth != 24 {
		t.Errorf("MaxTeeth = %d, want 24", impl.MaxTeeth)
	}
}

func TestCombOk(t *testing.T) {
	for name, comb := range validCombs() {
		if !impl.CombOk(comb) {
			t.Errorf("%s: CombOk = false", name)
		}
	}
	for name, comb := range invalidCombs() {
		if impl.CombOk(comb) {
			t.Errorf("%s: CombOk = true", name)
		}
	}
}

// TestCombOkOfShortCombs tries all lists of up to three pitches at the limits.
func TestCombOkOfShortCombs(t *testing.T) {
	all := []int{math.MinInt64, -1, 0, 1, 30, 59, 60, 61, math.MaxInt64}
	for _, a := range all {
		checkCombOk(t, []int{a})
		for _, b := range all {
			checkCombOk(t, []int{a, b})
			for _, c := range all {
				checkCombOk(t, []int{a, b, c})
			}
		}
	}
}

func checkCombOk(t *testing.T, comb []int) {
	t.Helper()
	want := !slices.ContainsFunc(comb, func(p int) bool { return p < 0 || p > 60 })
	for k := 1; k < len(comb); k++ {
		want = want && comb[k-1] <= comb[k]
	}
	if got := impl.CombOk(comb); got != want {
		t.Errorf("CombOk(%v) = %v, want %v", comb, got, want)
	}
}

func TestCombOkCountsTeeth(t *testing.T) {
	for n := range 40 {
		want := 1 <= n && n <= 24
		if got := impl.CombOk(teethFrom(7, n)); got != want {
			t.Errorf("CombOk of %d teeth = %v", n, got)
		}
		if got := impl.CombOk(slices.Repeat([]int{7}, n)); got != want {
			t.Errorf("CombOk of %d equal teeth = %v", n, got)
		}
	}
}

func TestTeethOf(t *testing.T) {
	for _, c := range []struct {
		comb  []int
		pitch int
		want  []int
	}{
		{[]int{12, 12, 14, 18}, 12, []int{0, 1}},
		{[]int{12, 12, 14, 18}, 14, []int{2}},
		{[]int{12, 12, 14, 18}, 18, []int{3}},
		{[]int{12, 12, 14, 18}, 13, nil},
		{[]int{12, 12, 14, 18}, 11, nil},
		{[]int{12, 12, 14, 18}, 19, nil},
		{[]int{12, 12, 14, 18}, 0, nil},
		{[]int{12, 12, 14, 18}, 2, nil},
		{[]int{12, 12, 14, 18}, -1, nil},
		{[]int{12, 12, 14, 18}, 61, nil},
		{[]int{12, 12, 14, 18}, math.MinInt64, nil},
		{[]int{12, 12, 14, 18}, math.MaxInt64, nil},
		{[]int{20}, 20, []int{0}},
		{[]int{20}, 21, nil},
		{[]int{0, 60}, 0, []int{0}},
		{[]int{0, 60}, 60, []int{1}},
		{[]int{0, 60}, -1, nil},
		{[]int{0, 60}, 61, nil},
		{[]int{3, 9, 9}, 9, []int{1, 2}},
		{[]int{3, 9, 9, 20}, 9, []int{1, 2}},
		{teethFrom(0, 24), 23, []int{23}},
		{slices.Repeat([]int{30}, 24), 30, teethFrom(0, 24)},
		{slices.Repeat([]int{30}, 24), 29, nil},
	} {
		checkTeethOf(t, c.comb, c.pitch, c.want)
	}
	for _, comb := range invalidCombs() {
		for _, pitch := range append(comb[:min(3, len(comb)):min(3, len(comb))], -1, 0, 2, 30, 60, 61) {
			checkTeethOf(t, comb, pitch, nil)
		}
	}
}

func checkTeethOf(t *testing.T, comb []int, pitch int, want []int) {
	t.Helper()
	if got := impl.TeethOf(comb, pitch); !slices.Equal(got, want) {
		t.Errorf("TeethOf(%v, %d) = %v, want %v", comb, pitch, got, want)
	}
}

// TestTeethOfIsWholeComb joins the teeth of all pitches to the comb again.
func TestTeethOfIsWholeComb(t *testing.T) {
	for _, comb := range manyCombs() {
		var teeth, pitches []int
		for pitch := -2; pitch <= 62; pitch++ {
			of := impl.TeethOf(comb, pitch)
			teeth = append(teeth, of...)
			pitches = append(pitches, slices.Repeat([]int{pitch}, len(of))...)
		}
		if !slices.Equal(teeth, teethFrom(0, len(comb))) || !slices.Equal(pitches, comb) {
			t.Errorf("%v: the teeth of all pitches are %v, with the pitches %v", comb, teeth, pitches)
		}
	}
}

func TestMissingPitches(t *testing.T) {
	for _, c := range []struct {
		comb []int
		tune []impl.Note
		want []int
	}{
		{[]int{12, 12, 14, 18}, impl.SampleTune(), []int{16, 19}},
		{[]int{12, 16, 19}, impl.SampleTune(), nil},
		{[]int{12, 16}, impl.SampleTune(), []int{19}},
		{[]int{20}, impl.SampleTune(), []int{12, 16, 19}},
		{[]int{0, 2, 4, 6}, impl.SampleTune(), []int{12, 16, 19}},
		{[]int{20}, nil, nil},
		{[]int{20}, []impl.Note{}, nil},
		{[]int{20}, notes(7, 20), nil},
		{[]int{7}, notes(7, 20), []int{20}},
		{[]int{1}, notes(0, 0), []int{0}},
		{[]int{0}, notes(0, 0), nil},
		{[]int{59}, notes(0, 60), []int{60}},
		{[]int{60}, notes(0, 60), nil},
		{[]int{0}, notes(0, 0, 0, 60), []int{60}},
		{[]int{60}, notes(0, 0, 0, 60), []int{0}},
		{[]int{30}, notes(0, 60, 1, 0), []int{0, 60}},
		{[]int{3, 3, 3}, notes(1, 50, 2, 40, 3, 30, 4, 40, 5, 50), []int{30, 40, 50}},
		{[]int{9}, notes(1, 9, 2, 9, 3, 9), nil},
		{[]int{8, 10}, notes(1, 9, 2, 9, 3, 9), []int{9}},
		{teethFrom(0, 24), notesAtOneTime(40), teethFrom(24, 16)},
		{[]int{60}, notesAtOneTime(40), teethFrom(0, 40)},
		{[]int{30}, row(40), nil},
	} {
		checkMissing(t, c.comb, c.tune, c.want)
	}
}

// checkMissing also checks CanPlay.
func checkMissing(t *testing.T, comb []int, tune []impl.Note, want []int) {
	t.Helper()
	if got := impl.MissingPitches(comb, tune); !slices.Equal(got, want) {
		t.Errorf("MissingPitches(%v, %v) = %v, want %v", comb, tune, got, want)
	}
	if got := impl.CanPlay(comb, tune); got != (len(want) == 0) {
		t.Errorf("CanPlay(%v, %v) = %v", comb, tune, got)
	}
}

// TestMissingPitchesHaveNoTooth asks for the teeth of each pitch.
func TestMissingPitchesHaveNoTooth(t *testing.T) {
	combs := manyCombs()
	for k, tune := range manyTunes() {
		for _, comb := range [][]int{combs[k%len(combs)], combs[(k*7+2)%len(combs)]} {
			var want []int
			for pitch := range 61 {
				played := slices.ContainsFunc(tune, func(n impl.Note) bool { return n.Pitch == pitch })
				if played && len(impl.TeethOf(comb, pitch)) == 0 {
					want = append(want, pitch)
				}
			}
			checkMissing(t, comb, tune, want)
		}
	}
}

func TestInvalidCombsAndTunes(t *testing.T) {
	for _, comb := range invalidCombs() {
		for _, tune := range validTunes() {
			checkNothingOfComb(t, comb, tune)
		}
		for _, tune := range invalidTunes() {
			checkNothingOfComb(t, comb, tune)
		}
	}
	for _, tune := range invalidTunes() {
		for _, comb := range validCombs() {
			checkNothingOfComb(t, comb, tune)
		}
	}
}

func checkNothingOfComb(t *testing.T, comb []int, tune []impl.Note) {
	t.Helper()
	if got := impl.MissingPitches(comb, tune); len(got) != 0 {
		t.Errorf("MissingPitches(%v, %v) = %v, want nil", comb, tune, got)
	}
	if impl.CanPlay(comb, tune) {
		t.Errorf("CanPlay(%v, %v) = true", comb, tune)
	}
	checkBestMove(t, comb, tune, 0, -1)
}

func TestBestMove(t *testing.T) {
	for _, c := range []struct {
		comb        []int
		tune        []impl.Note
		by, missing int
	}{
		{[]int{12, 12, 14, 18}, impl.SampleTune(), 2, 1},
		{[]int{12, 16, 19}, impl.SampleTune(), 0, 0},
		{[]int{0, 4, 7}, impl.SampleTune(), -12, 0},
		{[]int{24, 28, 31}, impl.SampleTune(), 12, 0},
		{[]int{11, 15, 18}, impl.SampleTune(), -1, 0},
		// One step more than 12 is too far, and a part of the tune is nearer.
		{[]int{25, 29, 32}, impl.SampleTune(), 6, 2},
		{[]int{60}, impl.SampleTune(), 0, 3},
		{[]int{20}, nil, 0, 0},
		{[]int{20}, []impl.Note{}, 0, 0},
		{[]int{0}, notes(7, 12), -12, 0},
		{[]int{0}, notes(7, 13), 0, 1},
		{[]int{60}, notes(7, 48), 12, 0},
		{[]int{60}, notes(7, 47), 0, 1},
		// Of several moves the one of the least magnitude is best.
		{[]int{20, 22, 30}, notes(7, 25), -3, 0},
		{[]int{20, 28, 30}, notes(7, 25), 3, 0},
		{[]int{14, 26}, notes(7, 25), 1, 0},
		{[]int{24, 36}, notes(7, 25), -1, 0},
		{[]int{24, 25, 26}, notes(7, 25), 0, 0},
		// Of two of one magnitude the positive one is best.
		{[]int{20, 30}, notes(7, 25), 5, 0},
		{[]int{24, 26}, notes(7, 25), 1, 0},
		{[]int{13, 37}, notes(7, 25), 12, 0},
		{[]int{13, 13, 20, 30, 37}, notes(7, 25), 5, 0},
		{[]int{20, 30}, notes(7, 25, 9, 26), 4, 1},
		// Fewer missing pitches are better than a smaller move.
		{[]int{13, 18, 23, 30}, notes(7, 25, 9, 30, 11, 35), -12, 0},
		{[]int{20, 26, 32, 38}, notes(7, 20, 9, 26, 11, 33), 0, 1},
	} {
		checkBestMove(t, c.comb, c.tune, c.by, c.missing)
	}
}

func checkBestMove(t *testing.T, comb []int, tune []impl.Note, by int, missing int) {
	t.Helper()
	gotBy, gotMissing := impl.BestMove(comb, tune)
	if gotBy != by || gotMissing != missing {
		t.Errorf("BestMove(%v, %v) = %d, %d, want %d, %d", comb, tune, gotBy, gotMissing, by, missing)
	}
}

// TestBestMoveThatIsNotPossible has tunes that would miss fewer pitches if
// only the notes that stay in the range were counted, or if a tune that cannot
// be moved were counted as one without notes.
func TestBestMoveThatIsNotPossible(t *testing.T) {
	for _, c := range []struct {
		comb        []int
		tune        []impl.Note
		by, missing int
	}{
		{[]int{30}, notes(0, 0, 0, 60), 0, 2},
		{[]int{1, 59}, notes(0, 0, 0, 60), 0, 2},
		{[]int{5}, notes(0, 4, 1, 60), 0, 2},
		{[]int{55}, notes(0, 0, 1, 56), 0, 2},
		{[]int{55}, notes(0, 1, 1, 56), -1, 1},
		{[]int{5}, notes(0, 4, 1, 59), 1, 1},
		{[]int{3, 55}, notes(0, 1, 1, 57), 2, 1},
		{[]int{2, 54}, notes(0, 1, 1, 57), 1, 1},
		{[]int{4, 52}, notes(0, 1, 1, 57), 3, 1},
		{[]int{5, 55}, notes(0, 1, 1, 57), 0, 2},
		{[]int{0, 3, 7}, notes(0, 3, 1, 8, 2, 11, 3, 15), 0, 3},
		{[]int{0, 4, 8}, notes(0, 3, 1, 8, 2, 11, 3, 15), -3, 2},
	} {
		checkBestMove(t, c.comb, c.tune, c.by, c.missing)
	}
}

// missingAt is the number of missing pitches after a move, or -1 if the tune
// leaves the range.
func missingAt(comb []int, tune []impl.Note, by int) int {
	missing := make(map[int]bool)
	for _, n := range tune {
		pitch := n.Pitch + by
		if pitch < 0 || pitch > 60 {
			return -1
		}
		if !slices.Contains(comb, pitch) {
			missing[pitch] = true
		}
	}
	return len(missing)
}

// TestBestMoveMissesTheFewest compares the best move with all others.
func TestBestMoveMissesTheFewest(t *testing.T) {
	combs := manyCombs()
	for k, tune := range manyTunes() {
		for _, comb := range [][]int{combs[k%len(combs)], combs[(k*7+2)%len(combs)]} {
			want, fewest := 99, 99
			for by := -12; by <= 12; by++ {
				n := missingAt(comb, tune, by)
				// The negative move of a magnitude comes before the positive one.
				if n >= 0 && (n < fewest || n == fewest && max(by, -by) <= max(want, -want)) {
					want, fewest = by, n
				}
			}
			checkBestMove(t, comb, tune, want, fewest)
			higher, ok := impl.Higher(tune, want)
			if !ok || len(impl.MissingPitches(comb, higher)) != fewest {
				t.Errorf("Higher(%v, %d) = %v, %v misses other pitches of %v", tune, want, higher, ok, comb)
			}
		}
	}
}

func TestCombFor(t *testing.T) {
	sample := impl.SampleTune()
	high, _ := impl.Higher(sample, 41)
	low, _ := impl.Higher(sample, -12)
	for _, c := range []struct {
		tunes [][]impl.Note
		want  []int
	}{
		{[][]impl.Note{sample}, []int{12, 16, 19}},
		{[][]impl.Note{sample, sample}, []int{12, 16, 19}},
		{[][]impl.Note{sample, nil}, []int{12, 16, 19}},
		{[][]impl.Note{{}, sample}, []int{12, 16, 19}},
		{[][]impl.Note{sample, high}, []int{12, 16, 19, 53, 57, 60}},
		{[][]impl.Note{high, sample, low}, []int{0, 4, 7, 12, 16, 19, 53, 57, 60}},
		{[][]impl.Note{notes(7, 20)}, []int{20}},
		{[][]impl.Note{notes(7, 20), notes(3, 19), notes(3, 20)}, []int{19, 20}},
		{[][]impl.Note{notes(0, 0), notes(0, 60)}, []int{0, 60}},
		{[][]impl.Note{notes(1, 50, 2, 40, 3, 30)}, []int{30, 40, 50}},
		{[][]impl.Note{notes(1, 40, 2, 30), notes(1, 35, 2, 30)}, []int{30, 35, 40}},
		{[][]impl.Note{row(40)}, []int{30}},
		{slices.Repeat([][]impl.Note{row(40)}, 100), []int{30}},
		{[][]impl.Note{notesAtOneTime(24)}, teethFrom(0, 24)},
		{[][]impl.Note{moved(notesAtOneTime(24), 0, 37)}, teethFrom(37, 24)},
		{[][]impl.Note{notesAtOneTime(20), notesAtOneTime(24)}, teethFrom(0, 24)},
		{[][]impl.Note{notesAtOneTime(23), notes(3, 60)}, append(teethFrom(0, 23), 60)},
		{[][]impl.Note{notes(3, 23), notesAtOneTime(23)}, teethFrom(0, 24)},
	} {
		if got, ok := impl.CombFor(c.tunes); !slices.Equal(got, c.want) || !ok {
			t.Errorf("CombFor(%v) = %v, %v, want %v, true", c.tunes, got, ok, c.want)
		}
	}
}

func TestCombForRejects(t *testing.T) {
	for name, tunes := range map[string][][]impl.Note{
		"nil":                     nil,
		"no tune":                 {},
		"nil tune":                {nil},
		"tune without notes":      {{}},
		"three without notes":     {nil, {}, nil},
		"25 pitches":              {notesAtOneTime(25)},
		"25 pitches up to 60":     {moved(notesAtOneTime(25), 0, 36)},
		"40 pitches":              {notesAtOneTime(40)},
		"25 pitches together":     {notesAtOneTime(24), notes(3, 24)},
		"25 pitches and 1 before": {notes(3, 60), notesAtOneTime(24)},
		"61 pitches":              {notesAtOneTime(40), moved(notesAtOneTime(40), 0, 21)},
	} {
		checkNoCombFor(t, name, tunes)
	}
	for name, tune := range invalidTunes() {
		checkNoCombFor(t, name, [][]impl.Note{tune})
		checkNoCombFor(t, name+" first", [][]impl.Note{tune, impl.SampleTune()})
		checkNoCombFor(t, name+" last", [][]impl.Note{impl.SampleTune(), tune})
		checkNoCombFor(t, name+" in between", [][]impl.Note{nil, tune, nil})
	}
}

func checkNoCombFor(t *testing.T, name string, tunes [][]impl.Note) {
	t.Helper()
	if got, ok := impl.CombFor(tunes); len(got) != 0 || ok {
		t.Errorf("%s: CombFor = %v, %v, want nil, false", name, got, ok)
	}
}

// TestCombForPlaysAllTunes also leaves out one tooth after the other: some tune
// needs it.
func TestCombForPlaysAllTunes(t *testing.T) {
	all := manyTunes()
	for k := range all {
		tunes := all[k:min(k+3, len(all))]
		comb, ok := impl.CombFor(tunes)
		if !ok {
			continue
		}
		if !impl.CombOk(comb) || !playsAll(comb, tunes) {
			t.Fatalf("CombFor(%v) = %v does not play all", tunes, comb)
		}
		for tooth := range comb {
			if less := slices.Delete(slices.Clone(comb), tooth, tooth+1); playsAll(less, tunes) {
				t.Fatalf("CombFor(%v) = %v, but %v is enough", tunes, comb, less)
			}
		}
	}
}

func playsAll(comb []int, tunes [][]impl.Note) bool {
	for _, tune := range tunes {
		if !impl.CanPlay(comb, tune) {
			return false
		}
	}
	return true
}

// TestCombsKeepTheirArguments looks for shared memory, also behind the end.
func TestCombsKeepTheirArguments(t *testing.T) {
	comb, tune := []int{3, 5, 5, 9, 4, 1}, notes(2, 9, 4, 1, 50, 9, 8, 8, 1, 1)
	combBefore, tuneBefore := slices.Clone(comb), slices.Clone(tune)
	spoil := func(list []int) {
		for k := range list {
			list[k] = 77
		}
		_ = append(list, 78)
	}
	spoil(impl.TeethOf(comb[:4], 5))
	spoil(impl.MissingPitches(comb[:4], tune[:3]))
	impl.CombOk(comb)
	impl.CanPlay(comb[:4], tune[:3])
	impl.BestMove(comb[:4], tune[:3])
	tunes := [][]impl.Note{tune[:2], tune[2:4], nil}
	made, _ := impl.CombFor(tunes[:1])
	spoil(made)
	impl.CombFor(tunes)
	if !slices.Equal(comb, combBefore) || !slices.Equal(tune, tuneBefore) {
		t.Errorf("the arguments changed to %v and %v", comb, tune)
	}
	if !slices.Equal(tunes[0], tuneBefore[:2]) || !slices.Equal(tunes[1], tuneBefore[2:4]) || tunes[2] != nil {
		t.Errorf("the list of tunes changed to %v", tunes)
	}
}

// TestCombsAreTheSameAgain calls with one argument many times, because the
// order of a map's keys must not show.
func TestCombsAreTheSameAgain(t *testing.T) {
	tune := notesAtOneTime(24)
	for range 50 {
		checkMissing(t, []int{60}, tune, teethFrom(0, 24))
		if comb, ok := impl.CombFor([][]impl.Note{tune}); !slices.Equal(comb, teethFrom(0, 24)) || !ok {
			t.Fatalf("CombFor = %v, %v", comb, ok)
		}
	}
}

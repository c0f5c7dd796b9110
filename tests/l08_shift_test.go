package tests

import (
	"slices"
	"testing"

	"loop.example/g03309/impl"
)

// Promise 8: Each tune of a cylinder comes back at its shift.

// twoTracks has a pin on each of two tracks.
func twoTracks(steps int, tracks int, low int, high int) impl.Cylinder {
	return drum(steps, tracks, low, 0, high, 2)
}

// isZeroDrum accepts nil and empty pins.
func isZeroDrum(c impl.Cylinder) bool {
	return sameDrum(c, impl.Cylinder{})
}

func checkShifted(t *testing.T, c impl.Cylinder, distance int, shift int, want impl.Cylinder) {
	t.Helper()
	if got, ok := impl.ShiftedTracks(c, distance, shift); !ok || !sameDrum(got, want) {
		t.Errorf("ShiftedTracks(%v, %d, %d) = %v, %v, want %v", c, distance, shift, got, ok, want)
	}
}

func checkNotShifted(t *testing.T, c impl.Cylinder, distance int, shift int) {
	t.Helper()
	if got, ok := impl.ShiftedTracks(c, distance, shift); ok || !isZeroDrum(got) {
		t.Errorf("ShiftedTracks(%v, %d, %d) = %v, %v, want the zero Cylinder and false", c, distance, shift, got, ok)
	}
}

// checkMerged merges in both orders.
func checkMerged(t *testing.T, a impl.Cylinder, b impl.Cylinder, want impl.Cylinder) {
	t.Helper()
	for range 2 {
		if got, ok := impl.Merge(a, b); !ok || !sameDrum(got, want) {
			t.Errorf("Merge(%v, %v) = %v, %v, want %v", a, b, got, ok, want)
		}
		a, b = b, a
	}
}

// checkNotMerged tries both orders.
func checkNotMerged(t *testing.T, a impl.Cylinder, b impl.Cylinder) {
	t.Helper()
	for range 2 {
		if got, ok := impl.Merge(a, b); ok || !isZeroDrum(got) {
			t.Errorf("Merge(%v, %v) = %v, %v, want the zero Cylinder and false", a, b, got, ok)
		}
		a, b = b, a
	}
}

func checkPart(t *testing.T, c impl.Cylinder, distance int, shift int, want impl.Cylinder) {
	t.Helper()
	if got, ok := impl.PartAt(c, distance, shift); !ok || !sameDrum(got, want) {
		t.Errorf("PartAt(%v, %d, %d) = %v, %v, want %v", c, distance, shift, got, ok, want)
	}
}

func checkNoPart(t *testing.T, c impl.Cylinder, distance int, shift int) {
	t.Helper()
	if got, ok := impl.PartAt(c, distance, shift); ok || !isZeroDrum(got) {
		t.Errorf("PartAt(%v, %d, %d) = %v, %v, want the zero Cylinder and false", c, distance, shift, got, ok)
	}
}

func checkHolds(t *testing.T, parts []impl.Cylinder, distance int, want impl.Cylinder) {
	t.Helper()
	if got, ok := impl.HoldsTunes(parts, distance); !ok || !sameDrum(got, want) {
		t.Errorf("HoldsTunes(%v, %d) = %v, %v, want %v", parts, distance, got, ok, want)
	}
}

func checkDoesNotHold(t *testing.T, parts []impl.Cylinder, distance int) {
	t.Helper()
	if got, ok := impl.HoldsTunes(parts, distance); ok || !isZeroDrum(got) {
		t.Errorf("HoldsTunes(%v, %d) = %v, %v, want the zero Cylinder and false", parts, distance, got, ok)
	}
}

// checkDisturbs counts in both orders.
func checkDisturbs(t *testing.T, a impl.Cylinder, b impl.Cylinder, rest int, want int) {
	t.Helper()
	for range 2 {
		if got := impl.Disturbs(a, b, rest); got != want {
			t.Errorf("Disturbs(%v, %v, %d) = %d, want %d", a, b, rest, got, want)
		}
		a, b = b, a
	}
}

// invalidDistances has those beside the limits, and those that would divide by
// 0 or go past the greatest int.
func invalidDistances() []int {
	return append(extremes(), 0, -1, -2, -3, -20, -21, 21, 22, 40, 100)
}

// invalidShifts is for a valid distance.
func invalidShifts(distance int) []int {
	return append(extremes(), -1, -2, -distance, -distance-1, 1-2*distance, distance, distance+1, 2*distance, 100)
}

// placeOf counts from track 0 up to a track: the tooth to which it belongs, and
// the shift.
func placeOf(track int, distance int) (int, int) {
	tooth, shift := 0, 0
	for range track {
		if shift++; shift == distance {
			tooth, shift = tooth+1, 0
		}
	}
	return tooth, shift
}

// shiftedDrum looks at each of the 100 tracks for the pins that belong there.
// It reports false if a pin belongs on none of them.
func shiftedDrum(c impl.Cylinder, distance int, shift int) (impl.Cylinder, bool) {
	before, after := setOfPins(c), make(map[impl.Pin]bool)
	for track := range 100 {
		if tooth, place := placeOf(track, distance); place == shift {
			for angle := range c.Steps {
				if before[impl.Pin{Track: tooth, Angle: angle}] {
					after[impl.Pin{Track: track, Angle: angle}] = true
				}
			}
		}
	}
	return drumOfSet(c.Steps, 100, after), len(after) == len(before)
}

// partOfDrum asks for each pin where it belongs.
func partOfDrum(c impl.Cylinder, distance int, shift int) impl.Cylinder {
	set := make(map[impl.Pin]bool)
	for p := range setOfPins(c) {
		if tooth, place := placeOf(p.Track, distance); place == shift {
			set[impl.Pin{Track: tooth, Angle: p.Angle}] = true
		}
	}
	last, _ := placeOf(c.Tracks-1, distance)
	return drumOfSet(c.Steps, last+1, set)
}

// mergedDrum is for cylinders with the same steps and tracks.
func mergedDrum(a impl.Cylinder, b impl.Cylinder) impl.Cylinder {
	set := setOfPins(a)
	for _, p := range b.Pins {
		set[p] = true
	}
	return drumOfSet(a.Steps, a.Tracks, set)
}

// disturbed walks between each pin of a and each pin of b.
func disturbed(a impl.Cylinder, b impl.Cylinder, rest int) int {
	count := 0
	for _, p := range a.Pins {
		for _, q := range b.Pins {
			if p.Track == q.Track && walkedGap(p.Angle, q.Angle, a.Steps) < rest {
				count++
			}
		}
	}
	return count
}

func TestShiftedTracks(t *testing.T) {
	for _, c := range []struct {
		c        impl.Cylinder
		distance int
		shift    int
		want     impl.Cylinder
	}{
		{fourPins(), 3, 2, drum(12, 100, 2, 0, 5, 0, 5, 5, 2, 11)},
		{fourPins(), 3, 0, drum(12, 100, 0, 0, 3, 0, 3, 5, 0, 11)},
		{fourPins(), 3, 1, drum(12, 100, 1, 0, 4, 0, 4, 5, 1, 11)},
		// The limits of distance and shift.
		{fourPins(), 1, 0, drum(12, 100, 0, 0, 1, 0, 1, 5, 0, 11)},
		{fourPins(), 2, 0, drum(12, 100, 0, 0, 2, 0, 2, 5, 0, 11)},
		{fourPins(), 2, 1, drum(12, 100, 1, 0, 3, 0, 3, 5, 1, 11)},
		{fourPins(), 19, 18, drum(12, 100, 18, 0, 37, 0, 37, 5, 18, 11)},
		{fourPins(), 20, 0, drum(12, 100, 0, 0, 20, 0, 20, 5, 0, 11)},
		{fourPins(), 20, 19, drum(12, 100, 19, 0, 39, 0, 39, 5, 19, 11)},
		// The last track is 99 then.
		{twoTracks(8, 100, 0, 99), 1, 0, twoTracks(8, 100, 0, 99)},
		{twoTracks(8, 50, 0, 49), 2, 1, twoTracks(8, 100, 1, 99)},
		{twoTracks(8, 34, 0, 33), 3, 0, twoTracks(8, 100, 0, 99)},
		{twoTracks(8, 34, 33, 0), 3, 0, twoTracks(8, 100, 99, 0)},
		{twoTracks(8, 25, 24, 24), 4, 3, twoTracks(8, 100, 99, 99)},
		{twoTracks(8, 10, 0, 9), 11, 0, twoTracks(8, 100, 0, 99)},
		{twoTracks(8, 5, 4, 0), 20, 19, twoTracks(8, 100, 99, 19)},
		// Tracks without pins would come past it.
		{twoTracks(8, 100, 0, 33), 3, 0, twoTracks(8, 100, 0, 99)},
		{twoTracks(8, 100, 0, 4), 20, 19, twoTracks(8, 100, 19, 99)},
		{twoTracks(8, 51, 0, 49), 2, 1, twoTracks(8, 100, 1, 99)},
		// Without pins.
		{drum(12, 2), 5, 3, drum(12, 100)},
		{drum(4, 1), 20, 19, drum(4, 100)},
		{drum(96, 100), 20, 19, drum(96, 100)},
		{impl.Cylinder{Steps: 12, Tracks: 2, Pins: []impl.Pin{}}, 1, 0, drum(12, 100)},
		// As many pins as there can be.
		{drumWith(10, 10, 100), 1, 0, impl.Cylinder{Steps: 10, Tracks: 100, Pins: drumWith(10, 10, 100).Pins}},
		{drumWith(96, 1, 96), 20, 0, impl.Cylinder{Steps: 96, Tracks: 100, Pins: drumWith(96, 1, 96).Pins}},
		{drumWith(4, 100, 100), 1, 0, drumWith(4, 100, 100)},
	} {
		checkShifted(t, c.c, c.distance, c.shift, c.want)
	}
}

func TestShiftedTracksRejects(t *testing.T) {
	// A pin comes just past the last track.
	checkNotShifted(t, twoTracks(8, 51, 0, 50), 2, 0)
	checkNotShifted(t, twoTracks(8, 34, 0, 33), 3, 1)
	checkNotShifted(t, twoTracks(8, 34, 33, 0), 3, 1)
	checkNotShifted(t, twoTracks(8, 34, 0, 33), 3, 2)
	checkNotShifted(t, twoTracks(8, 26, 25, 25), 4, 0)
	checkNotShifted(t, twoTracks(8, 10, 0, 9), 11, 1)
	checkNotShifted(t, twoTracks(8, 6, 0, 5), 20, 0)
	// All of them do, or one of many.
	checkNotShifted(t, twoTracks(8, 100, 98, 99), 2, 0)
	checkNotShifted(t, twoTracks(8, 100, 0, 99), 20, 19)
	checkNotShifted(t, drumWith(4, 100, 100), 2, 0)
	for _, c := range everyDrum() {
		for _, distance := range invalidDistances() {
			for _, shift := range []int{0, 1, -1, distance - 1, distance} {
				checkNotShifted(t, c, distance, shift)
			}
		}
		for distance := 1; distance <= 20; distance++ {
			for _, shift := range invalidShifts(distance) {
				if shift < 0 || shift >= distance {
					checkNotShifted(t, c, distance, shift)
				}
			}
		}
	}
	for _, c := range invalidDrums() {
		for _, distance := range []int{1, 2, 3, 20, 0, 21, -1} {
			for _, shift := range []int{0, 1, distance - 1, distance, -1} {
				checkNotShifted(t, c, distance, shift)
			}
		}
	}
	// Only the order, the tracks or the steps are wrong.
	checkNotShifted(t, drum(12, 2, 0, 5, 0, 4), 3, 1)
	checkNotShifted(t, drum(12, 2, 2, 5), 3, 1)
	checkNotShifted(t, drum(97, 2, 1, 5), 3, 1)
	checkNotShifted(t, drum(12, 101, 1, 5), 3, 1)
}

// TestShiftedTracksOfManyDrums finds the pins by looking at each track.
func TestShiftedTracksOfManyDrums(t *testing.T) {
	for _, c := range everyDrum() {
		for distance := 1; distance <= 20; distance++ {
			for shift := range distance {
				want, ok := shiftedDrum(c, distance, shift)
				if ok {
					checkShifted(t, c, distance, shift, want)
				} else {
					checkNotShifted(t, c, distance, shift)
				}
			}
		}
	}
}

func TestMerge(t *testing.T) {
	for _, c := range []struct{ a, b, want impl.Cylinder }{
		{fourPins(), drum(12, 2, 1, 2), drum(12, 2, 0, 0, 1, 0, 1, 2, 1, 5, 0, 11)},
		// Pins of both at one angle, on another track.
		{fourPins(), drum(12, 2, 0, 5), drum(12, 2, 0, 0, 1, 0, 0, 5, 1, 5, 0, 11)},
		{fourPins(), drum(12, 2, 1, 11), drum(12, 2, 0, 0, 1, 0, 1, 5, 0, 11, 1, 11)},
		{drum(9, 7, 0, 4, 3, 4), drum(9, 7, 1, 4, 6, 4), drum(9, 7, 0, 4, 1, 4, 3, 4, 6, 4)},
		{drum(9, 7, 3, 4), drum(9, 7, 2, 4), drum(9, 7, 2, 4, 3, 4)},
		// Pins of both on one track, at another angle.
		{drum(9, 7, 3, 4), drum(9, 7, 3, 5), drum(9, 7, 3, 4, 3, 5)},
		{drum(9, 7, 3, 0, 3, 8), drum(9, 7, 3, 1, 3, 7), drum(9, 7, 3, 0, 3, 1, 3, 7, 3, 8)},
		{drum(4, 1, 0, 0, 0, 2), drum(4, 1, 0, 1, 0, 3), drumWith(4, 1, 4)},
		// The track of one and the angle of the other.
		{drum(9, 7, 3, 4, 5, 6), drum(9, 7, 5, 4, 3, 6), drum(9, 7, 3, 4, 5, 4, 3, 6, 5, 6)},
		{drum(9, 7, 3, 4), drum(9, 7, 4, 3), drum(9, 7, 4, 3, 3, 4)},
		// All pins of one are ahead of those of the other.
		{drum(9, 7, 0, 0, 6, 1), drum(9, 7, 0, 2, 6, 8), drum(9, 7, 0, 0, 6, 1, 0, 2, 6, 8)},
		// Without pins.
		{fourPins(), drum(12, 2), fourPins()},
		{drum(12, 2), drum(12, 2), drum(12, 2)},
		{drum(4, 1), drum(4, 1), drum(4, 1)},
		{drum(96, 100), drum(96, 100, 99, 95), drum(96, 100, 99, 95)},
		{drumWith(10, 10, 100), drum(10, 10), drumWith(10, 10, 100)},
		// 100 pins.
		{drumWith(96, 2, 99), drum(96, 2, 1, 95), drum(96, 2, append(firstPlaces(2, 99), 1, 95)...)},
		{drumWith(96, 2, 50), laterPins(drumWith(96, 2, 100), 50), drumWith(96, 2, 100)},
		{drumWith(4, 100, 1), laterPins(drumWith(4, 100, 100), 1), drumWith(4, 100, 100)},
	} {
		checkMerged(t, c.a, c.b, c.want)
	}
}

// firstPlaces has the numbers of the pins of drumWith.
func firstPlaces(tracks int, n int) []int {
	var numbers []int
	for k := range n {
		numbers = append(numbers, k%tracks, k/tracks)
	}
	return numbers
}

// laterPins leaves out the first n pins.
func laterPins(c impl.Cylinder, n int) impl.Cylinder {
	c.Pins = c.Pins[n:]
	return c
}

func TestMergeRejects(t *testing.T) {
	// A pin is in both: first, in the middle, last, or all.
	checkNotMerged(t, fourPins(), fourPins())
	for _, p := range fourPins().Pins {
		checkNotMerged(t, fourPins(), drum(12, 2, p.Track, p.Angle))
	}
	checkNotMerged(t, drum(9, 7, 0, 0, 3, 4), drum(9, 7, 0, 0, 4, 3))
	checkNotMerged(t, drum(9, 7, 0, 1, 3, 4, 6, 6), drum(9, 7, 1, 1, 3, 4, 5, 6))
	checkNotMerged(t, drum(9, 7, 0, 1, 6, 8), drum(9, 7, 1, 1, 6, 8))
	checkNotMerged(t, drum(4, 1, 0, 0), drum(4, 1, 0, 0))
	checkNotMerged(t, drumWith(10, 10, 100), drum(10, 10, 9, 9))
	// Other steps or tracks, with pins and without.
	checkNotMerged(t, fourPins(), drum(13, 2, 1, 2))
	checkNotMerged(t, fourPins(), drum(11, 2, 1, 2))
	checkNotMerged(t, fourPins(), drum(12, 3, 1, 2))
	checkNotMerged(t, drum(12, 1, 0, 1), drum(12, 2, 0, 2))
	checkNotMerged(t, drum(12, 2, 0, 1), drum(2*12, 2, 0, 13))
	checkNotMerged(t, drum(12, 2), drum(13, 2))
	checkNotMerged(t, drum(12, 2), drum(12, 3))
	checkNotMerged(t, drum(12, 24), drum(24, 12))
	// The pin 101, behind, between or ahead of the others.
	checkNotMerged(t, drumWith(96, 2, 100), drum(96, 2, 1, 95))
	checkNotMerged(t, moreSteps(drumWith(96, 2, 100)), drum(96, 2, 0, 0))
	checkNotMerged(t, drumWith(96, 100, 50), laterPins(drumWith(96, 100, 101), 50))
	checkNotMerged(t, drumWith(96, 3, 100), laterPins(drumWith(96, 3, 200), 100))
	for _, bad := range invalidDrums() {
		for _, good := range []impl.Cylinder{fourPins(), drum(12, 2), drum(96, 100, 3, 3)} {
			checkNotMerged(t, bad, good)
		}
		checkNotMerged(t, bad, drum(bad.Steps, bad.Tracks))
		checkNotMerged(t, bad, bad)
		checkNotMerged(t, bad, impl.Cylinder{})
	}
	// Together they would be in order.
	checkNotMerged(t, drum(12, 2, 0, 5, 0, 4), drum(12, 2, 1, 3))
	checkNotMerged(t, drum(12, 2, 1, 5, 0, 5), drum(12, 2))
}

// TestMergeOfManyDrums looks for the pins of both place by place.
func TestMergeOfManyDrums(t *testing.T) {
	all := everyDrum()
	for j, a := range all {
		for k, b := range all {
			if k > j {
				break
			}
			sized := impl.Cylinder{Steps: a.Steps, Tracks: a.Tracks, Pins: pinsWithin(b, a)}
			want := mergedDrum(a, sized)
			if n := len(a.Pins) + len(sized.Pins); n == len(want.Pins) && n <= 100 {
				checkMerged(t, a, sized, want)
			} else {
				checkNotMerged(t, a, sized)
			}
			if a.Steps != b.Steps || a.Tracks != b.Tracks {
				checkNotMerged(t, a, b)
			}
		}
	}
}

// pinsWithin has the pins of b that are also on a cylinder with the size of a.
func pinsWithin(b impl.Cylinder, a impl.Cylinder) []impl.Pin {
	var pins []impl.Pin
	for _, p := range b.Pins {
		if p.Angle < a.Steps && p.Track < a.Tracks {
			pins = append(pins, p)
		}
	}
	return pins
}

// TestMergedPartsOfDrums takes pins away and puts them back.
func TestMergedPartsOfDrums(t *testing.T) {
	for _, c := range everyDrum() {
		for _, stride := range []int{1, 2, 3, 7} {
			some, others := drum(c.Steps, c.Tracks), drum(c.Steps, c.Tracks)
			for k, p := range c.Pins {
				if k%stride == 0 {
					some.Pins = append(some.Pins, p)
				} else {
					others.Pins = append(others.Pins, p)
				}
			}
			checkMerged(t, some, others, c)
		}
	}
}

func TestPartAt(t *testing.T) {
	shared := drum(12, 7, 0, 0, 1, 0, 5, 0, 6, 3, 2, 4, 3, 4, 4, 11)
	for _, c := range []struct {
		c        impl.Cylinder
		distance int
		shift    int
		want     impl.Cylinder
	}{
		// 7 tracks are not divided by 2, 3 and 4.
		{shared, 2, 0, drum(12, 4, 0, 0, 3, 3, 1, 4, 2, 11)},
		{shared, 2, 1, drum(12, 4, 0, 0, 2, 0, 1, 4)},
		{shared, 3, 0, drum(12, 3, 0, 0, 2, 3, 1, 4)},
		{shared, 3, 1, drum(12, 3, 0, 0, 1, 11)},
		{shared, 3, 2, drum(12, 3, 1, 0, 0, 4)},
		{shared, 4, 3, drum(12, 2, 0, 4)},
		// They are by 1 and 7, and 8 and more are past them.
		{shared, 1, 0, shared},
		{shared, 7, 0, drum(12, 1, 0, 0)},
		{shared, 7, 6, drum(12, 1, 0, 3)},
		{shared, 6, 0, drum(12, 2, 0, 0, 1, 3)},
		{shared, 6, 5, drum(12, 2, 0, 0)},
		{shared, 8, 6, drum(12, 1, 0, 3)},
		{shared, 8, 7, drum(12, 1)},
		{shared, 20, 0, drum(12, 1, 0, 0)},
		{shared, 20, 19, drum(12, 1)},
		// What ShiftedTracks made.
		{drum(12, 100, 2, 0, 5, 0, 5, 5, 2, 11), 3, 2, drum(12, 34, 0, 0, 1, 0, 1, 5, 0, 11)},
		{drum(12, 100, 2, 0, 5, 0, 5, 5, 2, 11), 3, 1, drum(12, 34)},
		{drum(12, 100, 2, 0, 5, 0, 5, 5, 2, 11), 3, 0, drum(12, 34)},
		// 100 tracks.
		{twoTracks(8, 100, 0, 99), 1, 0, twoTracks(8, 100, 0, 99)},
		{twoTracks(8, 100, 1, 99), 2, 1, twoTracks(8, 50, 0, 49)},
		{twoTracks(8, 100, 0, 99), 3, 0, twoTracks(8, 34, 0, 33)},
		{twoTracks(8, 100, 19, 99), 20, 19, twoTracks(8, 5, 0, 4)},
		{twoTracks(8, 100, 18, 98), 19, 18, drum(8, 6, 0, 0)},
		{twoTracks(8, 100, 18, 94), 19, 18, twoTracks(8, 6, 0, 4)},
	} {
		checkPart(t, c.c, c.distance, c.shift, c.want)
	}
}

// TestPartAtTracks has as many tracks for each shift, with pins and without.
func TestPartAtTracks(t *testing.T) {
	for _, c := range []struct{ tracks, distance, want int }{
		{1, 1, 1}, {1, 2, 1}, {1, 20, 1},
		{2, 1, 2}, {2, 2, 1}, {2, 3, 1},
		{3, 2, 2}, {4, 2, 2}, {5, 2, 3},
		{19, 20, 1}, {20, 20, 1}, {21, 20, 2}, {40, 20, 2}, {41, 20, 3},
		{99, 1, 99}, {99, 2, 50}, {99, 3, 33}, {99, 11, 9}, {99, 20, 5},
		{100, 1, 100}, {100, 2, 50}, {100, 3, 34}, {100, 4, 25}, {100, 19, 6}, {100, 20, 5},
	} {
		for shift := range c.distance {
			checkPart(t, drum(12, c.tracks), c.distance, shift, drum(12, c.want))
			if shift < c.tracks {
				checkPart(t, drum(12, c.tracks, shift, 7), c.distance, shift, drum(12, c.want, 0, 7))
			}
		}
	}
}

func TestPartAtRejects(t *testing.T) {
	for _, c := range everyDrum() {
		for _, distance := range invalidDistances() {
			for _, shift := range []int{0, 1, -1, distance - 1, distance} {
				checkNoPart(t, c, distance, shift)
			}
		}
		for distance := 1; distance <= 20; distance++ {
			for _, shift := range invalidShifts(distance) {
				if shift < 0 || shift >= distance {
					checkNoPart(t, c, distance, shift)
				}
			}
		}
	}
	for _, c := range invalidDrums() {
		for _, distance := range []int{1, 2, 3, 20, 0, 21, -1} {
			for _, shift := range []int{0, 1, distance - 1, distance, -1} {
				checkNoPart(t, c, distance, shift)
			}
		}
	}
	// The part with the shift 0 would be valid, but the cylinder is not.
	checkNoPart(t, drum(12, 2, 0, 5, 1, 4), 2, 0)
	checkNoPart(t, drum(12, 2, 0, 5, 3, 6), 2, 0)
	checkNoPart(t, drum(12, 101, 0, 5), 2, 0)
	checkNoPart(t, drumWith(96, 2, 101), 2, 0)
}

func TestPartAtOfManyDrums(t *testing.T) {
	for _, c := range everyDrum() {
		for distance := 1; distance <= 20; distance++ {
			pins := 0
			for shift := range distance {
				want := partOfDrum(c, distance, shift)
				checkPart(t, c, distance, shift, want)
				pins += len(want.Pins)
			}
			if pins != len(c.Pins) {
				t.Errorf("the parts of %v at the distance %d have %d pins", c, distance, pins)
			}
		}
	}
}

// TestShiftedTunesComeBack shifts each tune alone: it is at its shift, and at no
// other one.
func TestShiftedTunesComeBack(t *testing.T) {
	for _, c := range everyDrum() {
		for distance := 1; distance <= 20; distance++ {
			tracks := (99 / distance) + 1
			for shift := range distance {
				shifted, ok := impl.ShiftedTracks(c, distance, shift)
				if !ok {
					continue
				}
				for other := range distance {
					want := drum(c.Steps, tracks)
					if other == shift {
						want.Pins = c.Pins
					}
					checkPart(t, shifted, distance, other, want)
				}
			}
		}
	}
}

func TestHoldsTunes(t *testing.T) {
	low, high := drum(12, 2, 0, 0, 1, 6), drum(12, 5, 4, 0, 0, 3, 2, 6)
	none := drum(12, 1)
	for _, c := range []struct {
		parts    []impl.Cylinder
		distance int
		want     impl.Cylinder
	}{
		// As many as distance, and fewer.
		{[]impl.Cylinder{low, high}, 2, drum(12, 100, 0, 0, 9, 0, 1, 3, 2, 6, 5, 6)},
		{[]impl.Cylinder{high, low}, 2, drum(12, 100, 1, 0, 8, 0, 0, 3, 3, 6, 4, 6)},
		{[]impl.Cylinder{low, high}, 3, drum(12, 100, 0, 0, 13, 0, 1, 3, 3, 6, 7, 6)},
		{[]impl.Cylinder{low, high, low}, 3, drum(12, 100, 0, 0, 2, 0, 13, 0, 1, 3, 3, 6, 5, 6, 7, 6)},
		{[]impl.Cylinder{low, high}, 20, drum(12, 100, 0, 0, 81, 0, 1, 3, 20, 6, 41, 6)},
		// One part.
		{[]impl.Cylinder{high}, 1, drum(12, 100, 4, 0, 0, 3, 2, 6)},
		{[]impl.Cylinder{high}, 2, drum(12, 100, 8, 0, 0, 3, 4, 6)},
		{[]impl.Cylinder{high}, 20, drum(12, 100, 80, 0, 0, 3, 40, 6)},
		{[]impl.Cylinder{twoTracks(8, 100, 0, 99)}, 1, twoTracks(8, 100, 0, 99)},
		// The same tune more than once.
		{[]impl.Cylinder{low, low}, 2, drum(12, 100, 0, 0, 1, 0, 2, 6, 3, 6)},
		{[]impl.Cylinder{low, low, low}, 3, drum(12, 100, 0, 0, 1, 0, 2, 0, 3, 6, 4, 6, 5, 6)},
		// Without pins.
		{[]impl.Cylinder{none}, 1, drum(12, 100)},
		{[]impl.Cylinder{none, none}, 2, drum(12, 100)},
		{[]impl.Cylinder{none, low}, 2, drum(12, 100, 1, 0, 3, 6)},
		{[]impl.Cylinder{low, none}, 2, drum(12, 100, 0, 0, 2, 6)},
		{[]impl.Cylinder{none, low, none}, 20, drum(12, 100, 1, 0, 21, 6)},
		// The last track is 99 then.
		{[]impl.Cylinder{drum(12, 50, 49, 1), drum(12, 50, 49, 1)}, 2, drum(12, 100, 98, 1, 99, 1)},
		{[]impl.Cylinder{drum(12, 34, 33, 1), low}, 3, drum(12, 100, 1, 0, 99, 1, 4, 6)},
		// 100 pins.
		{[]impl.Cylinder{drumWith(96, 1, 50), drumWith(96, 1, 50)}, 2, impl.Cylinder{Steps: 96, Tracks: 100, Pins: drumWith(96, 2, 100).Pins}},
		{[]impl.Cylinder{drumWith(4, 50, 50), drumWith(4, 50, 50)}, 2, drumWith(4, 100, 100)},
		{[]impl.Cylinder{drumWith(10, 10, 100), drum(10, 1)}, 10, drumWith10()},
	} {
		checkHolds(t, c.parts, c.distance, c.want)
	}
}

// drumWith10 has a pin on each tenth track at each of ten angles.
func drumWith10() impl.Cylinder {
	c := drum(10, 100)
	for k := range 100 {
		c.Pins = append(c.Pins, impl.Pin{Track: k % 10 * 10, Angle: k / 10})
	}
	return c
}

// sameParts repeats one part.
func sameParts(c impl.Cylinder, n int) []impl.Cylinder {
	return slices.Repeat([]impl.Cylinder{c}, n)
}

// TestHoldsTunesCounts has no part, one part, and up to more than distance.
func TestHoldsTunesCounts(t *testing.T) {
	c := drum(8, 1, 0, 3)
	for distance := 1; distance <= 20; distance++ {
		checkDoesNotHold(t, nil, distance)
		checkDoesNotHold(t, []impl.Cylinder{}, distance)
		for n := 1; n <= distance; n++ {
			want := drum(8, 100, atAngle(3, n)...)
			checkHolds(t, sameParts(c, n), distance, want)
		}
		checkDoesNotHold(t, sameParts(c, distance+1), distance)
		checkDoesNotHold(t, sameParts(c, distance+2), distance)
		checkDoesNotHold(t, sameParts(drum(8, 1), distance+1), distance)
	}
	for _, distance := range invalidDistances() {
		for _, n := range []int{0, 1, 2, 3, 20, 21, 22, 40} {
			checkDoesNotHold(t, sameParts(c, n), distance)
			checkDoesNotHold(t, sameParts(drum(8, 1), n), distance)
		}
	}
}

func TestHoldsTunesRejects(t *testing.T) {
	low := drum(12, 2, 0, 0, 1, 6)
	// Other steps: of the first, a middle and the last part, also without pins.
	for _, other := range []impl.Cylinder{drum(13, 2, 0, 0, 1, 6), drum(11, 2), drum(24, 2, 0, 12), drum(4, 1)} {
		checkDoesNotHold(t, []impl.Cylinder{low, other}, 2)
		checkDoesNotHold(t, []impl.Cylinder{other, low}, 2)
		checkDoesNotHold(t, []impl.Cylinder{other, low}, 20)
		checkDoesNotHold(t, []impl.Cylinder{low, low, other}, 3)
		checkDoesNotHold(t, []impl.Cylinder{low, other, low}, 3)
		checkDoesNotHold(t, []impl.Cylinder{other, low, low}, 3)
	}
	checkDoesNotHold(t, []impl.Cylinder{drum(12, 2), drum(13, 2)}, 2)
	// A pin comes past the last track.
	far := drum(12, 34, 33, 1)
	checkHolds(t, []impl.Cylinder{far}, 3, drum(12, 100, 99, 1))
	checkDoesNotHold(t, []impl.Cylinder{low, far}, 3)
	checkDoesNotHold(t, []impl.Cylinder{low, low, far}, 3)
	checkDoesNotHold(t, []impl.Cylinder{far}, 4)
	checkDoesNotHold(t, []impl.Cylinder{far, low}, 4)
	// 101 pins, in two parts or in many.
	checkDoesNotHold(t, []impl.Cylinder{drumWith(96, 1, 50), drumWith(96, 1, 51)}, 2)
	checkDoesNotHold(t, []impl.Cylinder{drumWith(10, 10, 100), drum(10, 1, 0, 0)}, 10)
	checkDoesNotHold(t, []impl.Cylinder{drum(10, 1, 0, 0), drumWith(10, 10, 100)}, 10)
	checkDoesNotHold(t, append(sameParts(drumWith(96, 1, 10), 10), drum(96, 1, 0, 0)), 11)
	checkDoesNotHold(t, sameParts(drumWith(96, 1, 96), 20), 20)
	for _, bad := range invalidDrums() {
		for _, distance := range []int{1, 2, 3, 20, 0, 21} {
			checkDoesNotHold(t, []impl.Cylinder{bad}, distance)
			checkDoesNotHold(t, []impl.Cylinder{bad, low}, distance)
			checkDoesNotHold(t, []impl.Cylinder{low, bad}, distance)
			checkDoesNotHold(t, []impl.Cylinder{low, low, bad}, distance)
			checkDoesNotHold(t, []impl.Cylinder{bad, bad}, distance)
		}
	}
}

// tunesFor makes parts with the same steps and as few pins as there is room
// for, each one with its own tracks.
func tunesFor(steps int, n int, distance int) []impl.Cylinder {
	var parts []impl.Cylinder
	for k := range n {
		tracks := 1 + (k*k*7+steps)%(100/distance)
		set := make(map[impl.Pin]bool)
		for j := range (k*3 + steps) % (100/n + 1) {
			set[impl.Pin{Track: (j*j*5 + k) % tracks, Angle: (j*j*j*3 + j*k) % steps}] = true
		}
		parts = append(parts, drumOfSet(steps, tracks, set))
	}
	return parts
}

// TestEachTuneComesBack puts several tunes on one cylinder and takes each one
// out again at its shift.
func TestEachTuneComesBack(t *testing.T) {
	for distance := 1; distance <= 20; distance++ {
		for n := 1; n <= distance; n++ {
			for _, steps := range []int{4, 5, 12, 31, 95, 96} {
				parts := tunesFor(steps, n, distance)
				want, pins := drum(steps, 100), 0
				for k, c := range parts {
					shifted, _ := shiftedDrum(c, distance, k)
					want = mergedDrum(want, shifted)
					pins += len(c.Pins)
				}
				checkHolds(t, parts, distance, want)
				all, _ := impl.HoldsTunes(parts, distance)
				if len(all.Pins) != pins {
					t.Errorf("HoldsTunes(%v, %d) has %d pins, want %d", parts, distance, len(all.Pins), pins)
				}
				for shift := range distance {
					part := drum(steps, (99/distance)+1)
					if shift < n {
						part.Pins = parts[shift].Pins
					}
					checkPart(t, all, distance, shift, part)
				}
			}
		}
	}
}

// TestAllPartsHoldTheCylinder takes a cylinder apart and puts its parts together
// again.
func TestAllPartsHoldTheCylinder(t *testing.T) {
	for _, c := range everyDrum() {
		for distance := 1; distance <= 20; distance++ {
			var parts []impl.Cylinder
			for shift := range distance {
				part, _ := impl.PartAt(c, distance, shift)
				parts = append(parts, part)
			}
			checkHolds(t, parts, distance, impl.Cylinder{Steps: c.Steps, Tracks: 100, Pins: c.Pins})
		}
	}
}

// TestTunesSideBySideDoNotDisturb has the same tune at two shifts.
func TestTunesSideBySideDoNotDisturb(t *testing.T) {
	for _, c := range everyDrum() {
		for _, distance := range []int{1, 2, 3, 7} {
			for first := range distance {
				for second := range distance {
					a, one := impl.ShiftedTracks(c, distance, first)
					b, two := impl.ShiftedTracks(c, distance, second)
					if !one || !two {
						continue
					}
					for _, rest := range []int{1, 4, 96} {
						want := 0
						if first == second {
							want = disturbed(c, c, rest)
						}
						checkDisturbs(t, a, b, rest, want)
					}
				}
			}
		}
	}
}

func TestDisturbs(t *testing.T) {
	for _, c := range []struct {
		a, b impl.Cylinder
		rest int
		want int
	}{
		// Each pin with itself, and with the next one in both orders.
		{fourPins(), fourPins(), 1, 4},
		{fourPins(), fourPins(), 2, 6},
		{fourPins(), fourPins(), 5, 6},
		{fourPins(), fourPins(), 6, 8},
		{fourPins(), fourPins(), 96, 8},
		// The same place, angle and track.
		{onTrack(12, 5), onTrack(12, 5), 1, 1},
		{onTrack(12, 5), onTrack(12, 6), 1, 0},
		{onTrack(12, 5), onTrack(12, 6), 2, 1},
		{onTrack(12, 5), drum(12, 3, 0, 5, 2, 5), 96, 0},
		{drum(12, 3, 0, 5, 2, 5), drum(12, 3, 0, 5, 1, 5), 1, 1},
		// Exactly rest apart and one nearer, within the turn and around it.
		{onTrack(30, 5), onTrack(30, 10), 5, 0},
		{onTrack(30, 5), onTrack(30, 10), 6, 1},
		{onTrack(30, 5), onTrack(30, 9), 5, 1},
		{onTrack(30, 2), onTrack(30, 27), 5, 0},
		{onTrack(30, 2), onTrack(30, 27), 6, 1},
		{onTrack(30, 2), onTrack(30, 28), 5, 1},
		{onTrack(30, 1), onTrack(30, 27), 5, 1},
		{onTrack(12, 0), onTrack(12, 11), 1, 0},
		{onTrack(12, 0), onTrack(12, 11), 2, 1},
		{onTrack(4, 0), onTrack(4, 3), 1, 0},
		{onTrack(4, 0), onTrack(4, 3), 2, 1},
		{onTrack(96, 0), onTrack(96, 95), 1, 0},
		{onTrack(96, 0), onTrack(96, 95), 2, 1},
		{onTrack(96, 0), onTrack(96, 48), 48, 0},
		{onTrack(96, 0), onTrack(96, 48), 49, 1},
		{onTrack(96, 0), onTrack(96, 48), 96, 1},
		// Pins of one cylinder that are too close do not count.
		{onTrack(30, 5, 6, 7), onTrack(30, 20), 3, 0},
		{onTrack(30, 5, 6, 7), drum(30, 3), 96, 0},
		// One pin may be in several pairs.
		{onTrack(30, 5, 6, 7), onTrack(30, 8), 3, 2},
		{onTrack(30, 5, 6, 7), onTrack(30, 6), 2, 3},
		{onTrack(30, 0, 1, 29), onTrack(30, 0, 28), 2, 4},
		{onTrack(30, 0, 1, 29), onTrack(30, 0, 28), 1, 1},
		// Other tracks than those of the other cylinder.
		{drum(12, 2, 1, 5), drum(12, 100, 1, 5, 99, 5), 1, 1},
		{drum(12, 1, 0, 5), drum(12, 100, 99, 5), 96, 0},
		{drum(12, 1, 0, 5), drum(12, 2, 0, 6, 1, 6), 2, 1},
		// Without pins.
		{drum(12, 2), drum(12, 2), 96, 0},
		{fourPins(), drum(12, 1), 96, 0},
		// As many pairs as there can be.
		{drumWith(96, 1, 96), drumWith(96, 1, 96), 96, 96 * 96},
		{drumWith(96, 1, 96), drumWith(96, 1, 96), 2, 3 * 96},
		{drumWith(4, 100, 100), drumWith(4, 100, 100), 96, 100},
	} {
		checkDisturbs(t, c.a, c.b, c.rest, c.want)
	}
}

func TestDisturbsRejects(t *testing.T) {
	for _, rest := range invalidTurnRests() {
		checkDisturbs(t, fourPins(), fourPins(), rest, -1)
		checkDisturbs(t, drum(12, 2), drum(12, 2), rest, -1)
		checkDisturbs(t, drum(96, 100), drum(96, 1), rest, -1)
	}
	for _, rest := range append(turnRests(), invalidTurnRests()...) {
		for _, bad := range invalidDrums() {
			checkDisturbs(t, bad, fourPins(), rest, -1)
			checkDisturbs(t, bad, drum(12, 2), rest, -1)
			checkDisturbs(t, bad, drum(96, 100, 3, 3), rest, -1)
			checkDisturbs(t, bad, drum(bad.Steps, bad.Tracks), rest, -1)
			checkDisturbs(t, bad, bad, rest, -1)
		}
		// Other steps, with pins and without.
		checkDisturbs(t, fourPins(), drum(13, 2, 0, 0), rest, -1)
		checkDisturbs(t, fourPins(), drum(11, 2), rest, -1)
		checkDisturbs(t, onTrack(12, 5), onTrack(24, 5), rest, -1)
		checkDisturbs(t, drum(12, 2), drum(13, 2), rest, -1)
		checkDisturbs(t, drum(4, 1), drum(96, 1), rest, -1)
	}
	// The limits of rest are accepted.
	checkDisturbs(t, onTrack(96, 1), onTrack(96, 1), 1, 1)
	checkDisturbs(t, onTrack(96, 1), onTrack(96, 40), 96, 1)
}

// TestDisturbsOfManyDrums walks between the pins, with the same steps for both.
func TestDisturbsOfManyDrums(t *testing.T) {
	all := everyDrum()
	for j, a := range all {
		for k := j % 3; k <= j; k += 3 {
			b := impl.Cylinder{Steps: a.Steps, Tracks: all[k].Tracks}
			for _, p := range all[k].Pins {
				if p.Angle < a.Steps {
					b.Pins = append(b.Pins, p)
				}
			}
			for _, rest := range []int{1, 2, 7, 96} {
				checkDisturbs(t, a, b, rest, disturbed(a, b, rest))
			}
			if all[k].Steps != a.Steps {
				checkDisturbs(t, a, all[k], 7, -1)
			}
		}
	}
}

// TestDisturbingPinsAreTooCloseTogether counts the pairs of two cylinders before
// and after they are merged.
func TestDisturbingPinsAreTooCloseTogether(t *testing.T) {
	for _, c := range everyDrum() {
		some, others := drum(c.Steps, c.Tracks), drum(c.Steps, c.Tracks)
		for k, p := range c.Pins {
			if k%3 == 1 {
				some.Pins = append(some.Pins, p)
			} else {
				others.Pins = append(others.Pins, p)
			}
		}
		for _, rest := range turnRests() {
			alone := len(closePairs(some, rest)) + len(closePairs(others, rest))
			checkDisturbs(t, some, others, rest, len(closePairs(c, rest))-alone)
		}
	}
}

// TestTurningTogetherKeepsDisturbs turns both, around the end of the turn.
func TestTurningTogetherKeepsDisturbs(t *testing.T) {
	a, b := onTrack(30, 0, 4, 15, 29), onTrack(30, 2, 6, 16, 27)
	for _, rest := range turnRests() {
		want := disturbed(a, b, rest)
		for by := range 31 {
			checkDisturbs(t, impl.TurnBy(a, by), impl.TurnBy(b, by), rest, want)
		}
	}
}

// spoil changes a result, also behind its end.
func spoil(c impl.Cylinder) {
	for k := range c.Pins {
		c.Pins[k] = impl.Pin{Track: 77, Angle: 7}
	}
	_ = append(c.Pins, impl.Pin{Track: 78, Angle: 8})
}

// TestShiftsKeepTheirArguments looks for shared memory, also behind the end.
func TestShiftsKeepTheirArguments(t *testing.T) {
	empty := drum(12, 3)
	for name, change := range map[string]func(impl.Cylinder) (impl.Cylinder, bool){
		"ShiftedTracks 1 0":    func(c impl.Cylinder) (impl.Cylinder, bool) { return impl.ShiftedTracks(c, 1, 0) },
		"ShiftedTracks 3 2":    func(c impl.Cylinder) (impl.Cylinder, bool) { return impl.ShiftedTracks(c, 3, 2) },
		"ShiftedTracks 0 0":    func(c impl.Cylinder) (impl.Cylinder, bool) { return impl.ShiftedTracks(c, 0, 0) },
		"PartAt 1 0":           func(c impl.Cylinder) (impl.Cylinder, bool) { return impl.PartAt(c, 1, 0) },
		"PartAt 2 1":           func(c impl.Cylinder) (impl.Cylinder, bool) { return impl.PartAt(c, 2, 1) },
		"PartAt 2 2":           func(c impl.Cylinder) (impl.Cylinder, bool) { return impl.PartAt(c, 2, 2) },
		"Merge first":          func(c impl.Cylinder) (impl.Cylinder, bool) { return impl.Merge(c, drum(12, 3, 0, 9)) },
		"Merge second":         func(c impl.Cylinder) (impl.Cylinder, bool) { return impl.Merge(drum(12, 3, 0, 0), c) },
		"Merge with no pins":   func(c impl.Cylinder) (impl.Cylinder, bool) { return impl.Merge(c, empty) },
		"Merge after no pins":  func(c impl.Cylinder) (impl.Cylinder, bool) { return impl.Merge(empty, c) },
		"Merge with itself":    func(c impl.Cylinder) (impl.Cylinder, bool) { return impl.Merge(c, c) },
		"HoldsTunes one":       func(c impl.Cylinder) (impl.Cylinder, bool) { return impl.HoldsTunes([]impl.Cylinder{c}, 1) },
		"HoldsTunes twice":     func(c impl.Cylinder) (impl.Cylinder, bool) { return impl.HoldsTunes([]impl.Cylinder{c, c}, 3) },
		"HoldsTunes and empty": func(c impl.Cylinder) (impl.Cylinder, bool) { return impl.HoldsTunes([]impl.Cylinder{empty, c}, 2) },
		"Disturbs": func(c impl.Cylinder) (impl.Cylinder, bool) {
			return impl.Cylinder{}, impl.Disturbs(c, c, 3)+impl.Disturbs(empty, c, 3) > 0
		},
	} {
		keeping := func(c impl.Cylinder) impl.Cylinder {
			result, _ := change(c)
			return result
		}
		for size := range 5 {
			checkKeepsCylinder(t, name, keeping, drum(12, 3, 1, 1, 0, 3, 2, 8, 1, 1, 0, 0), size)
			checkKeepsCylinder(t, name, keeping, drum(12, 3, 0, 3, 1, 1, 2, 8, 1, 1, 0, 0), size)
		}
	}
}

// TestHoldsTunesKeepsItsParts spoils what is behind the last part, too.
func TestHoldsTunesKeepsItsParts(t *testing.T) {
	backing := []impl.Cylinder{drum(12, 2, 0, 0, 1, 6), drum(12, 5, 4, 0, 0, 3), drum(12, 1, 0, 1)}
	var before []impl.Cylinder
	for _, c := range backing {
		before = append(before, copyOfDrum(c))
	}
	for n := range 4 {
		for distance := range 5 {
			held, _ := impl.HoldsTunes(backing[:n], distance)
			spoil(held)
			if !slices.EqualFunc(backing, before, sameDrum) {
				t.Fatalf("HoldsTunes of %d parts changes them to %v", n, backing)
			}
		}
	}
}

// TestShiftsAreTheSameAgain calls many times, because a cylinder that holds
// tunes must not last from one call to the next one.
func TestShiftsAreTheSameAgain(t *testing.T) {
	parts := []impl.Cylinder{fourPins(), drum(12, 2, 1, 5)}
	want := drum(12, 100, 0, 0, 2, 0, 2, 5, 3, 5, 0, 11)
	for range 5 {
		checkHolds(t, parts, 2, want)
		held, _ := impl.HoldsTunes(parts, 2)
		spoil(held)
		checkDoesNotHold(t, parts, 1)
		checkPart(t, want, 2, 1, drum(12, 50, 1, 5))
		checkMerged(t, fourPins(), drum(12, 2, 1, 2), drum(12, 2, 0, 0, 1, 0, 1, 2, 1, 5, 0, 11))
		checkDisturbs(t, parts[0], parts[1], 1, 1)
	}
}

package tests

import (
	"math"
	"slices"
	"testing"

	"loop.example/g03309/impl"
)

// Promise 6: Turning a cylinder moves all pins, and a full turn moves none.

// drum makes a cylinder with pins from pairs of a track and an angle.
func drum(steps int, tracks int, numbers ...int) impl.Cylinder {
	c := impl.Cylinder{Steps: steps, Tracks: tracks}
	for k := 0; k+1 < len(numbers); k += 2 {
		c.Pins = append(c.Pins, impl.Pin{Track: numbers[k], Angle: numbers[k+1]})
	}
	return c
}

// drumWith has its first n places filled, angle by angle.
func drumWith(steps int, tracks int, n int) impl.Cylinder {
	c := drum(steps, tracks)
	for k := range n {
		c.Pins = append(c.Pins, impl.Pin{Track: k % tracks, Angle: k / tracks})
	}
	return c
}

// fourPins has two pins at the first angle and one at the last one.
func fourPins() impl.Cylinder {
	return drum(12, 2, 0, 0, 1, 0, 1, 5, 0, 11)
}

func validDrums() map[string]impl.Cylinder {
	return map[string]impl.Cylinder{
		"four pins":                fourPins(),
		"no pins":                  drum(12, 2),
		"empty pins":               {Steps: 12, Tracks: 2, Pins: []impl.Pin{}},
		"4 steps":                  drum(4, 5, 3, 0, 2, 3),
		"5 steps":                  drum(5, 5, 3, 0, 2, 4),
		"95 steps":                 drum(95, 5, 3, 0, 2, 94),
		"96 steps":                 drum(96, 5, 3, 0, 2, 95),
		"1 track":                  drum(8, 1, 0, 0, 0, 3, 0, 7),
		"100 tracks":               drum(8, 100, 99, 0, 0, 3, 99, 7),
		"least size":               drum(4, 1, 0, 0, 0, 1, 0, 2, 0, 3),
		"least size without pins":  drum(4, 1),
		"greatest size":            drum(96, 100, 0, 0, 99, 0, 0, 95, 99, 95),
		"greatest size, no pins":   drum(96, 100),
		"one pin first":            drum(9, 7, 0, 0),
		"one pin last":             drum(9, 7, 6, 8),
		"one angle":                drum(9, 7, 0, 4, 1, 4, 3, 4, 6, 4),
		"one track of many":        drum(9, 7, 3, 0, 3, 4, 3, 5, 3, 8),
		"tracks fall":              drum(9, 7, 6, 0, 5, 1, 4, 2, 0, 3),
		"tracks rise":              drum(9, 7, 0, 0, 1, 1, 2, 2, 3, 3),
		"99 pins":                  drumWith(10, 10, 99),
		"100 pins":                 drumWith(10, 10, 100),
		"100 pins at one angle":    drumWith(4, 100, 100),
		"100 pins, greatest size":  drumWith(96, 100, 100),
		"100 pins on two tracks":   drumWith(96, 2, 100),
		"96 pins, each angle once": drumWith(96, 1, 96),
	}
}

func invalidDrums() map[string]impl.Cylinder {
	return map[string]impl.Cylinder{
		"zero":                    {},
		"no tracks":               drum(12, 0),
		"no tracks, one pin":      drum(12, 0, 0, 0),
		"no steps":                drum(0, 2),
		"no steps, one pin":       drum(0, 2, 0, 0),
		"1 step":                  drum(1, 2, 0, 0),
		"3 steps":                 drum(3, 2, 0, 0),
		"3 steps without pins":    drum(3, 2),
		"97 steps":                drum(97, 2, 0, 0),
		"97 steps without pins":   drum(97, 2),
		"101 tracks":              drum(12, 101, 0, 0),
		"101 tracks without pins": drum(12, 101),
		"steps below 0":           drum(-12, 2, 0, 0),
		"tracks below 0":          drum(12, -2, 0, 0),
		"-1 step":                 drum(-1, 2),
		"-1 track":                drum(12, -1),
		"least ints":              drum(math.MinInt64, math.MinInt64),
		"greatest ints":           drum(math.MaxInt64, math.MaxInt64),
		"least steps":             drum(math.MinInt64, 2, 0, 0),
		"greatest steps":          drum(math.MaxInt64, 2, 0, 0),
		"least tracks":            drum(12, math.MinInt64, 0, 0),
		"greatest tracks":         drum(12, math.MaxInt64, 0, 0),
		"track past the last":     drum(12, 2, 2, 0),
		"track past, at the end":  drum(12, 2, 0, 0, 2, 0),
		"track past, later":       drum(12, 2, 0, 0, 2, 4, 1, 5),
		"track -1":                drum(12, 2, -1, 0),
		"track -1 later":          drum(12, 2, 0, 0, -1, 4, 1, 5),
		"track 100 of 100":        drum(12, 100, 100, 3),
		"track 1 of 1":            drum(12, 1, 1, 3),
		"angle past the last":     drum(12, 2, 0, 12),
		"angle past, at the end":  drum(12, 2, 0, 0, 0, 11, 0, 12),
		"angle 96 of 96":          drum(96, 2, 0, 96),
		"angle 4 of 4":            drum(4, 2, 0, 4),
		"angle -1":                drum(12, 2, 0, -1),
		"angle -1 first":          drum(12, 2, 0, -1, 1, 0),
		"angle below the turn":    drum(12, 2, 0, -12),
		"both past":               drum(12, 2, 2, 12),
		"both -1":                 drum(12, 2, -1, -1),
		"least pin":               drum(12, 2, math.MinInt64, math.MinInt64),
		"greatest pin":            drum(12, 2, math.MaxInt64, math.MaxInt64),
		"greatest then least":     drum(12, 2, 0, math.MaxInt64, 0, math.MinInt64),
		"same pin twice":          drum(12, 2, 1, 5, 1, 5),
		"same pin first":          drum(12, 2, 0, 0, 0, 0, 1, 5),
		"same pin at the end":     drum(12, 2, 0, 0, 1, 5, 1, 5),
		"same pin apart":          drum(12, 2, 0, 5, 1, 5, 0, 5),
		"angles fall":             drum(12, 2, 0, 5, 0, 4),
		"angles fall, later":      drum(12, 2, 0, 1, 0, 5, 0, 4),
		"angles fall, track up":   drum(12, 2, 0, 5, 1, 4),
		"tracks fall":             drum(12, 2, 1, 5, 0, 5),
		"tracks fall, later":      drum(12, 2, 0, 1, 1, 5, 0, 5),
		"ordered by track":        drum(12, 2, 0, 0, 0, 11, 1, 0, 1, 5),
		"101 pins":                drumWith(96, 100, 101),
		"101 pins, few tracks":    drumWith(96, 2, 101),
		"all 9600 places":         drumWith(96, 100, 9600),
		"101 pins out of order":   {Steps: 96, Tracks: 2, Pins: make([]impl.Pin, 101)},
	}
}

// manyDrums has cylinders of many sizes with pins by a rule that leaves gaps.
func manyDrums() []impl.Cylinder {
	var list []impl.Cylinder
	for k := range 60 {
		steps, tracks := 4+(k*37)%93, 1+(k*k*13)%100
		set := make(map[impl.Pin]bool)
		for j := range (k * 7) % 101 {
			set[impl.Pin{Track: (j*j*5 + k) % tracks, Angle: (j*j*j*3 + j*k) % steps}] = true
		}
		list = append(list, drumOfSet(steps, tracks, set))
	}
	return list
}

// drumOfSet looks at each place of a cylinder in turn, which needs no sorting.
func drumOfSet(steps int, tracks int, set map[impl.Pin]bool) impl.Cylinder {
	c := drum(steps, tracks)
	for angle := range steps {
		for track := range tracks {
			if p := (impl.Pin{Track: track, Angle: angle}); set[p] {
				c.Pins = append(c.Pins, p)
			}
		}
	}
	return c
}

func setOfPins(c impl.Cylinder) map[impl.Pin]bool {
	set := make(map[impl.Pin]bool)
	for _, p := range c.Pins {
		set[p] = true
	}
	return set
}

func sameDrum(a impl.Cylinder, b impl.Cylinder) bool {
	return a.Steps == b.Steps && a.Tracks == b.Tracks && slices.Equal(a.Pins, b.Pins)
}

// copyOfDrum is for results that are compared with their argument.
func copyOfDrum(c impl.Cylinder) impl.Cylinder {
	c.Pins = slices.Clone(c.Pins)
	return c
}

func extremes() []int {
	return []int{math.MinInt64, math.MinInt64 + 1, math.MinInt64 / 2, math.MaxInt64 / 2, math.MaxInt64 - 1, math.MaxInt64}
}

// tooFar has turns and angles outside their range.
func tooFar() []int {
	return append(extremes(), -1000001, 1000001, -1000002, 1000002, -2000000, 2000000, -1000012, 1000012)
}

// someTurns has turns in their range, also for a given number of steps.
func someTurns(steps int) []int {
	return []int{0, 1, -1, 2, -2, steps - 1, steps, steps + 1, -steps + 1, -steps, -steps - 1, 2 * steps,
		-2 * steps, 3*steps + 2, -3*steps - 2, 777, -777, 999999, -999999, 1000000, -1000000}
}

func TestMaxSteps(t *testing.T) {
	if impl.MaxSteps != 96 {
		t.Errorf("MaxSteps = %d, want 96", impl.MaxSteps)
	}
}

func TestCylinderOk(t *testing.T) {
	for name, c := range validDrums() {
		if !impl.CylinderOk(c) {
			t.Errorf("%s: CylinderOk = false", name)
		}
	}
	for name, c := range invalidDrums() {
		if impl.CylinderOk(c) {
			t.Errorf("%s: CylinderOk = true", name)
		}
	}
	for k, c := range manyDrums() {
		if !impl.CylinderOk(c) {
			t.Errorf("cylinder %d: CylinderOk(%v) = false", k, c)
		}
	}
}

func TestCylinderOkOfSizes(t *testing.T) {
	sizes := append(extremes(), -96, -4, -1, 0)
	for n := 1; n <= 110; n++ {
		sizes = append(sizes, n)
	}
	for _, steps := range sizes {
		for _, tracks := range sizes {
			want := 4 <= steps && steps <= 96 && 1 <= tracks && tracks <= 100
			if got := impl.CylinderOk(drum(steps, tracks)); got != want {
				t.Errorf("CylinderOk with %d steps and %d tracks = %v", steps, tracks, got)
			}
			if got := impl.CylinderOk(drum(steps, tracks, 0, 0)); got != want {
				t.Errorf("CylinderOk with %d steps, %d tracks and a pin = %v", steps, tracks, got)
			}
		}
	}
}

func TestCylinderOkOfCounts(t *testing.T) {
	for n := range 250 {
		if got := impl.CylinderOk(drumWith(96, 3, n)); got != (n <= 100) {
			t.Errorf("CylinderOk with %d pins = %v", n, got)
		}
	}
}

// pinsAround has the pins on a cylinder with 4 steps and 2 tracks, and those
// just beside it.
func pinsAround() []impl.Pin {
	var all []impl.Pin
	for _, track := range []int{-1, 0, 1, 2} {
		for _, angle := range []int{-1, 0, 2, 3, 4} {
			all = append(all, impl.Pin{Track: track, Angle: angle})
		}
	}
	return all
}

// TestCylinderOkOfShortLists tries all lists of up to three pins.
func TestCylinderOkOfShortLists(t *testing.T) {
	all := pinsAround()
	for _, a := range all {
		checkCylinderOk(t, a)
		for _, b := range all {
			checkCylinderOk(t, a, b)
			for _, c := range all {
				checkCylinderOk(t, a, b, c)
			}
		}
	}
}

func checkCylinderOk(t *testing.T, pins ...impl.Pin) {
	t.Helper()
	c := impl.Cylinder{Steps: 4, Tracks: 2, Pins: pins}
	want := sameDrum(c, drumOfSet(4, 2, setOfPins(c)))
	if got := impl.CylinderOk(c); got != want {
		t.Errorf("CylinderOk(%v) = %v, want %v", c, got, want)
	}
}

func TestPinsAt(t *testing.T) {
	full := teethFrom(0, 100)
	for _, c := range []struct {
		c     impl.Cylinder
		angle int
		want  []int
	}{
		{fourPins(), 0, []int{0, 1}},
		{fourPins(), 1, nil},
		{fourPins(), 4, nil},
		{fourPins(), 5, []int{1}},
		{fourPins(), 6, nil},
		{fourPins(), 10, nil},
		{fourPins(), 11, []int{0}},
		// Angles of Steps and more.
		{fourPins(), 12, []int{0, 1}},
		{fourPins(), 13, nil},
		{fourPins(), 17, []int{1}},
		{fourPins(), 23, []int{0}},
		{fourPins(), 24, []int{0, 1}},
		{fourPins(), 999996, []int{0, 1}},
		{fourPins(), 1000000, nil},
		// Negative angles.
		{fourPins(), -1, []int{0}},
		{fourPins(), -2, nil},
		{fourPins(), -5, nil},
		{fourPins(), -7, []int{1}},
		{fourPins(), -11, nil},
		{fourPins(), -12, []int{0, 1}},
		{fourPins(), -13, []int{0}},
		{fourPins(), -24, []int{0, 1}},
		{fourPins(), -25, []int{0}},
		{fourPins(), -999996, []int{0, 1}},
		// 1000000 is 4 more than a number of whole turns by 12.
		{drum(12, 5, 3, 4, 2, 8), 1000000, []int{3}},
		{drum(12, 5, 3, 4, 2, 8), -1000000, []int{2}},
		{drum(12, 5, 3, 4, 2, 8), 999999, nil},
		{drum(4, 1, 0, 0, 0, 2), 1000000, []int{0}},
		{drum(4, 1, 0, 0, 0, 2), -1000000, []int{0}},
		{drum(4, 1, 0, 0, 0, 2), 3, nil},
		{drum(96, 100, 0, 0, 99, 0, 0, 95, 50, 95, 99, 95), 95, []int{0, 50, 99}},
		{drum(96, 100, 0, 0, 99, 0, 0, 95, 50, 95, 99, 95), -96, []int{0, 99}},
		{drum(12, 2), 0, nil},
		{drum(12, 2), -1, nil},
		{drumWith(4, 100, 100), 0, full},
		{drumWith(4, 100, 100), 4, full},
		{drumWith(4, 100, 100), 1, nil},
		{drum(9, 7, 0, 4, 1, 4, 3, 4, 6, 4), -5, []int{0, 1, 3, 6}},
	} {
		checkPinsAt(t, c.c, c.angle, c.want)
	}
}

func checkPinsAt(t *testing.T, c impl.Cylinder, angle int, want []int) {
	t.Helper()
	if got := impl.PinsAt(c, angle); !slices.Equal(got, want) {
		t.Errorf("PinsAt(%v, %d) = %v, want %v", c, angle, got, want)
	}
}

// TestPinsAtEachAngle goes up and down to the angle instead of dividing.
func TestPinsAtEachAngle(t *testing.T) {
	for _, c := range manyDrums() {
		set := setOfPins(c)
		up, down := 0, 0
		for n := 0; n <= 3*c.Steps; n++ {
			checkPinsAt(t, c, n, tracksAt(set, c.Tracks, up))
			checkPinsAt(t, c, -n, tracksAt(set, c.Tracks, down))
			if up++; up == c.Steps {
				up = 0
			}
			if down--; down < 0 {
				down = c.Steps - 1
			}
		}
	}
}

func tracksAt(set map[impl.Pin]bool, tracks int, angle int) []int {
	var list []int
	for track := range tracks {
		if set[impl.Pin{Track: track, Angle: angle}] {
			list = append(list, track)
		}
	}
	return list
}

func TestPinsAtRejects(t *testing.T) {
	for _, angle := range tooFar() {
		// Each place has a pin, so no angle in the range has none.
		checkPinsAt(t, drumWith(10, 10, 100), angle, nil)
		checkPinsAt(t, drumWith(4, 1, 4), angle, nil)
		checkPinsAt(t, drum(12, 2), angle, nil)
	}
	for _, angle := range []int{-1000000, -999999, 999999, 1000000} {
		checkPinsAt(t, drumWith(4, 1, 4), angle, []int{0})
		checkPinsAt(t, drumWith(96, 1, 96), angle, []int{0})
	}
	for _, c := range invalidDrums() {
		for _, angle := range append(tooFar(), 0, 4, 5, 12, -1, 1000000, -1000000) {
			checkPinsAt(t, c, angle, nil)
		}
	}
}

func TestAddPin(t *testing.T) {
	for _, c := range []struct {
		c     impl.Cylinder
		track int
		angle int
		want  impl.Cylinder
	}{
		// Behind all, ahead of all, and between.
		{fourPins(), 1, 11, drum(12, 2, 0, 0, 1, 0, 1, 5, 0, 11, 1, 11)},
		{drum(12, 2, 1, 0, 1, 5), 0, 0, drum(12, 2, 0, 0, 1, 0, 1, 5)},
		{drum(12, 2, 0, 1), 1, 0, drum(12, 2, 1, 0, 0, 1)},
		{fourPins(), 0, 5, drum(12, 2, 0, 0, 1, 0, 0, 5, 1, 5, 0, 11)},
		{fourPins(), 0, 4, drum(12, 2, 0, 0, 1, 0, 0, 4, 1, 5, 0, 11)},
		{fourPins(), 1, 4, drum(12, 2, 0, 0, 1, 0, 1, 4, 1, 5, 0, 11)},
		{fourPins(), 0, 6, drum(12, 2, 0, 0, 1, 0, 1, 5, 0, 6, 0, 11)},
		{fourPins(), 1, 1, drum(12, 2, 0, 0, 1, 0, 1, 1, 1, 5, 0, 11)},
		{drum(9, 7, 0, 4, 6, 4), 3, 4, drum(9, 7, 0, 4, 3, 4, 6, 4)},
		{drum(9, 7, 3, 4), 2, 4, drum(9, 7, 2, 4, 3, 4)},
		{drum(9, 7, 3, 4), 4, 4, drum(9, 7, 3, 4, 4, 4)},
		{drum(9, 7, 3, 4), 4, 3, drum(9, 7, 4, 3, 3, 4)},
		{drum(9, 7, 3, 4), 2, 5, drum(9, 7, 3, 4, 2, 5)},
		{drum(9, 7, 3, 4), 3, 3, drum(9, 7, 3, 3, 3, 4)},
		{drum(9, 7, 3, 4), 3, 5, drum(9, 7, 3, 4, 3, 5)},
		// The first pin, at the first and the last angle and track.
		{drum(12, 2), 1, 7, drum(12, 2, 1, 7)},
		{drum(4, 1), 0, 0, drum(4, 1, 0, 0)},
		{drum(4, 1), 0, 3, drum(4, 1, 0, 3)},
		{drum(96, 100), 0, 95, drum(96, 100, 0, 95)},
		{drum(96, 100), 99, 95, drum(96, 100, 99, 95)},
		{drum(96, 100), 99, 0, drum(96, 100, 99, 0)},
		// The hundredth pin.
		{drumWith(10, 10, 99), 9, 9, drumWith(10, 10, 100)},
		{drumWith(96, 100, 99), 99, 0, drumWith(96, 100, 100)},
	} {
		p := impl.Pin{Track: c.track, Angle: c.angle}
		if got, ok := impl.AddPin(c.c, p); !ok || !sameDrum(got, c.want) {
			t.Errorf("AddPin(%v, %v) = %v, %v, want %v", c.c, p, got, ok, c.want)
		}
	}
}

func TestAddPinRejects(t *testing.T) {
	for _, c := range validDrums() {
		for _, p := range c.Pins {
			checkPinRejected(t, c, p.Track, p.Angle)
		}
		for _, n := range append(extremes(), -1) {
			checkPinRejected(t, c, n, 0)
			checkPinRejected(t, c, 0, n)
			checkPinRejected(t, c, n, n)
		}
		checkPinRejected(t, c, c.Tracks, 1)
		checkPinRejected(t, c, 0, c.Steps)
		checkPinRejected(t, c, c.Tracks, c.Steps)
		checkPinRejected(t, c, c.Tracks+1, 2)
		checkPinRejected(t, c, 0, c.Steps+1)
		checkPinRejected(t, c, 0, 2*c.Steps)
		checkPinRejected(t, c, 0, -c.Steps)
	}
	// The pin 101, ahead of, between and behind the others.
	most := drumWith(96, 2, 100)
	checkPinRejected(t, most, 0, 50)
	checkPinRejected(t, most, 1, 95)
	checkPinRejected(t, moreSteps(most), 0, 0)
	checkPinRejected(t, drum(96, 100, append(atAngle(1, 99), 0, 95)...), 0, 50)
	for _, c := range invalidDrums() {
		checkPinRejected(t, c, 0, 0)
		checkPinRejected(t, c, 1, 5)
		checkPinRejected(t, c, 1, 11)
		checkPinRejected(t, c, -1, 97)
	}
	// The result would be valid, but the argument is not.
	checkPinRejected(t, drum(12, 2, 0, 5, 0, 4), 0, 3)
	checkPinRejected(t, drum(12, 2, 1, 5, 1, 5), 0, 3)
}

// moreSteps moves all pins one angle on, so that there is room ahead of them.
func moreSteps(c impl.Cylinder) impl.Cylinder {
	c = copyOfDrum(c)
	for k := range c.Pins {
		c.Pins[k].Angle++
	}
	return c
}

func checkPinRejected(t *testing.T, c impl.Cylinder, track int, angle int) {
	t.Helper()
	p := impl.Pin{Track: track, Angle: angle}
	if got, ok := impl.AddPin(c, p); ok || !sameDrum(got, c) {
		t.Errorf("AddPin(%v, %v) = %v, %v, want it unchanged and false", c, p, got, ok)
	}
}

// TestAddPinAtEachPlace tries the first tracks of many cylinders, and all of
// those with few tracks, at all angles.
func TestAddPinAtEachPlace(t *testing.T) {
	for _, c := range manyDrums() {
		for track := -1; track <= min(c.Tracks, 12); track++ {
			for angle := -1; angle <= c.Steps; angle++ {
				checkAddPin(t, c, impl.Pin{Track: track, Angle: angle})
			}
		}
	}
}

func checkAddPin(t *testing.T, c impl.Cylinder, p impl.Pin) {
	t.Helper()
	set := setOfPins(c)
	on := 0 <= p.Track && p.Track < c.Tracks && 0 <= p.Angle && p.Angle < c.Steps
	if !on || set[p] || len(c.Pins) == 100 {
		checkPinRejected(t, c, p.Track, p.Angle)
		return
	}
	// A pin that is behind no other one is ahead of all.
	place := 0
	for k, other := range c.Pins {
		if other.Angle < p.Angle || other.Angle == p.Angle && other.Track < p.Track {
			place = k + 1
		}
	}
	want := copyOfDrum(c)
	want.Pins = slices.Insert(want.Pins, place, p)
	if got, ok := impl.AddPin(c, p); !ok || !sameDrum(got, want) {
		t.Errorf("AddPin(%v, %v) = %v, %v, want %v", c, p, got, ok, want)
	}
}

// TestAddPinInAnyOrder fills cylinders backward and with steps of 7 pins.
func TestAddPinInAnyOrder(t *testing.T) {
	for _, want := range append(manyDrums(), drumWith(10, 10, 100)) {
		n := len(want.Pins)
		backward, stepping := drum(want.Steps, want.Tracks), drum(want.Steps, want.Tracks)
		for k := range n {
			backward, _ = impl.AddPin(backward, want.Pins[n-1-k])
		}
		for first := range 7 {
			for k := first; k < n; k += 7 {
				stepping, _ = impl.AddPin(stepping, want.Pins[k])
			}
		}
		if !sameDrum(backward, want) || !sameDrum(stepping, want) {
			t.Errorf("AddPin made %v and %v, want %v", backward, stepping, want)
		}
	}
}

func TestPullPin(t *testing.T) {
	for _, c := range []struct {
		c    impl.Cylinder
		k    int
		want impl.Cylinder
	}{
		{fourPins(), 0, drum(12, 2, 1, 0, 1, 5, 0, 11)},
		{fourPins(), 1, drum(12, 2, 0, 0, 1, 5, 0, 11)},
		{fourPins(), 2, drum(12, 2, 0, 0, 1, 0, 0, 11)},
		{fourPins(), 3, drum(12, 2, 0, 0, 1, 0, 1, 5)},
		{drum(4, 1, 0, 0), 0, drum(4, 1)},
		{drum(96, 100, 99, 95), 0, drum(96, 100)},
		{drumWith(10, 10, 100), 99, drumWith(10, 10, 99)},
		{drumWith(96, 100, 100), 99, drumWith(96, 100, 99)},
	} {
		checkPulled(t, c.c, c.k, c.want)
	}
}

func checkPulled(t *testing.T, c impl.Cylinder, k int, want impl.Cylinder) {
	t.Helper()
	if got, ok := impl.PullPin(c, k); !ok || !sameDrum(got, want) {
		t.Errorf("PullPin(%v, %d) = %v, %v, want %v", c, k, got, ok, want)
	}
}

func TestPullPinRejects(t *testing.T) {
	for _, c := range validDrums() {
		n := len(c.Pins)
		for _, k := range append(extremes(), -1, -2, -n, -n-1, n, n+1, 100, 101) {
			if k < 0 || k >= n {
				checkNotPulled(t, c, k)
			}
		}
	}
	checkNotPulled(t, drum(12, 2), 0)
	for _, c := range invalidDrums() {
		for k := -1; k <= len(c.Pins) && k < 110; k++ {
			checkNotPulled(t, c, k)
		}
		checkNotPulled(t, c, len(c.Pins)-1)
	}
}

func checkNotPulled(t *testing.T, c impl.Cylinder, k int) {
	t.Helper()
	if got, ok := impl.PullPin(c, k); ok || !sameDrum(got, c) {
		t.Errorf("PullPin(%v, %d) = %v, %v, want it unchanged and false", c, k, got, ok)
	}
}

// TestPulledPinsCanBePutBack pulls each pin of many cylinders.
func TestPulledPinsCanBePutBack(t *testing.T) {
	for _, c := range manyDrums() {
		for k, p := range c.Pins {
			set := setOfPins(c)
			delete(set, p)
			less := drumOfSet(c.Steps, c.Tracks, set)
			checkPulled(t, c, k, less)
			if got, ok := impl.AddPin(less, p); !ok || !sameDrum(got, c) {
				t.Errorf("AddPin(%v, %v) = %v, %v, want %v", less, p, got, ok, c)
			}
		}
	}
}

func TestTurnBy(t *testing.T) {
	for _, c := range []struct {
		c    impl.Cylinder
		by   int
		want impl.Cylinder
	}{
		{fourPins(), 0, fourPins()},
		{fourPins(), 1, drum(12, 2, 0, 0, 0, 1, 1, 1, 1, 6)},
		{fourPins(), 6, drum(12, 2, 0, 5, 0, 6, 1, 6, 1, 11)},
		{fourPins(), 7, drum(12, 2, 1, 0, 0, 6, 0, 7, 1, 7)},
		{fourPins(), 11, drum(12, 2, 1, 4, 0, 10, 0, 11, 1, 11)},
		{fourPins(), 12, fourPins()},
		{fourPins(), 13, drum(12, 2, 0, 0, 0, 1, 1, 1, 1, 6)},
		{fourPins(), 24, fourPins()},
		{fourPins(), 120, fourPins()},
		{fourPins(), -1, drum(12, 2, 1, 4, 0, 10, 0, 11, 1, 11)},
		{fourPins(), -5, drum(12, 2, 1, 0, 0, 6, 0, 7, 1, 7)},
		{fourPins(), -11, drum(12, 2, 0, 0, 0, 1, 1, 1, 1, 6)},
		{fourPins(), -12, fourPins()},
		{fourPins(), -13, drum(12, 2, 1, 4, 0, 10, 0, 11, 1, 11)},
		{fourPins(), -24, fourPins()},
		// 1000000 is 4 more than a number of whole turns by 12.
		{fourPins(), 1000000, drum(12, 2, 0, 3, 0, 4, 1, 4, 1, 9)},
		{fourPins(), -1000000, drum(12, 2, 1, 1, 0, 7, 0, 8, 1, 8)},
		{fourPins(), 999996, fourPins()},
		{fourPins(), -999996, fourPins()},
		// Pins of one angle stay in the order of their tracks.
		{drum(9, 7, 0, 4, 1, 4, 3, 4, 6, 4), 5, drum(9, 7, 0, 0, 1, 0, 3, 0, 6, 0)},
		{drum(9, 7, 0, 4, 1, 4, 3, 4, 6, 4), -4, drum(9, 7, 0, 0, 1, 0, 3, 0, 6, 0)},
		{drum(9, 7, 6, 7, 5, 8), 1, drum(9, 7, 5, 0, 6, 8)},
		{drum(4, 1, 0, 3), 1, drum(4, 1, 0, 0)},
		{drum(4, 1, 0, 0), -1, drum(4, 1, 0, 3)},
		{drum(4, 1, 0, 0), 3, drum(4, 1, 0, 3)},
		{drum(96, 100, 99, 95), 1, drum(96, 100, 99, 0)},
		{drum(96, 100, 99, 0), -1, drum(96, 100, 99, 95)},
		{drum(96, 100, 0, 0), 1000000, drum(96, 100, 0, 64)},
		{drum(96, 100, 0, 0), -1000000, drum(96, 100, 0, 32)},
		{drum(12, 2), 5, drum(12, 2)},
		{drum(12, 2), -1000000, drum(12, 2)},
		{drumWith(4, 1, 4), 3, drumWith(4, 1, 4)},
		{drumWith(10, 10, 100), -777, drumWith(10, 10, 100)},
	} {
		checkTurnBy(t, c.c, c.by, c.want)
	}
}

func checkTurnBy(t *testing.T, c impl.Cylinder, by int, want impl.Cylinder) {
	t.Helper()
	if got := impl.TurnBy(c, by); !sameDrum(got, want) {
		t.Errorf("TurnBy(%v, %d) = %v, want %v", c, by, got, want)
	}
}

// TestTurnByRejects also tries turns by which the angles would come back.
func TestTurnByRejects(t *testing.T) {
	for _, by := range tooFar() {
		for _, c := range validDrums() {
			checkTurnBy(t, c, by, c)
		}
	}
	one := drum(96, 3, 2, 0)
	checkTurnBy(t, one, 1000001, one)
	checkTurnBy(t, one, -1000001, one)
	checkTurnBy(t, one, 1000000, drum(96, 3, 2, 64))
	checkTurnBy(t, one, -1000000, drum(96, 3, 2, 32))
	for _, c := range invalidDrums() {
		for _, by := range append(tooFar(), someTurns(12)...) {
			checkTurnBy(t, c, by, c)
		}
	}
}

// turnedOnce moves each pin to the next angle, and those at the last one to
// the first.
func turnedOnce(c impl.Cylinder) impl.Cylinder {
	set := make(map[impl.Pin]bool)
	for _, p := range c.Pins {
		if p.Angle++; p.Angle == c.Steps {
			p.Angle = 0
		}
		set[p] = true
	}
	return drumOfSet(c.Steps, c.Tracks, set)
}

func everyDrum() []impl.Cylinder {
	list := manyDrums()
	for _, c := range validDrums() {
		list = append(list, c)
	}
	return list
}

// TestTurnByEachNumber turns step by step, two times around and back.
func TestTurnByEachNumber(t *testing.T) {
	for _, c := range everyDrum() {
		now := c
		for by := 0; by <= 2*c.Steps; by++ {
			checkTurnBy(t, c, by, now)
			checkTurnBy(t, c, by-2*c.Steps, now)
			checkTurnBy(t, now, -by, c)
			now = turnedOnce(now)
		}
	}
}

// TestTurningMovesAllPins looks for each pin at its angle and the turn.
func TestTurningMovesAllPins(t *testing.T) {
	for _, c := range everyDrum() {
		for _, by := range someTurns(c.Steps) {
			turned := impl.TurnBy(c, by)
			if !impl.CylinderOk(turned) || turned.Steps != c.Steps || turned.Tracks != c.Tracks || len(turned.Pins) != len(c.Pins) {
				t.Errorf("TurnBy(%v, %d) = %v", c, by, turned)
			}
			for angle := range c.Steps {
				if angle+by <= 1000000 && angle+by >= -1000000 {
					checkPinsAt(t, turned, angle+by, impl.PinsAt(c, angle))
				}
			}
			moves := by%c.Steps != 0
			for _, p := range c.Pins {
				checkPinMoved(t, turned, p, by, moves)
			}
		}
	}
}

// checkPinMoved looks at a cylinder with this pin alone: it moves, unless the
// turn is a full one.
func checkPinMoved(t *testing.T, c impl.Cylinder, p impl.Pin, by int, moves bool) {
	t.Helper()
	turned := impl.TurnBy(drum(c.Steps, c.Tracks, p.Track, p.Angle), by)
	if len(turned.Pins) != 1 || turned.Pins[0].Track != p.Track {
		t.Errorf("TurnBy %d makes %v of pin %v", by, turned, p)
		return
	}
	if (turned.Pins[0] != p) != moves || !slices.Contains(c.Pins, turned.Pins[0]) {
		t.Errorf("TurnBy %d moves pin %v to %v, of %v", by, p, turned.Pins[0], c)
	}
}

func TestFullTurnsMoveNoPin(t *testing.T) {
	for _, c := range everyDrum() {
		most := 1000000 / c.Steps
		for _, turns := range []int{0, 1, -1, 2, -2, 3, -7, 100, -1000, most, -most} {
			checkTurnBy(t, c, turns*c.Steps, c)
		}
	}
}

func TestTurnsAddUp(t *testing.T) {
	for _, c := range manyDrums() {
		for _, first := range someTurns(c.Steps) {
			checkTurnBy(t, impl.TurnBy(c, first), -first, c)
			for _, second := range []int{1, -1, c.Steps - 1, -c.Steps, 5, -29} {
				if sum := first + second; -1000000 <= sum && sum <= 1000000 {
					checkTurnBy(t, impl.TurnBy(c, first), second, impl.TurnBy(c, sum))
				}
			}
		}
	}
}

func TestCylinderOf(t *testing.T) {
	for _, c := range []struct {
		tune   []impl.Note
		teeth  []int
		steps  int
		tracks int
		want   impl.Cylinder
	}{
		{notes(1, 5, 3, 5), []int{2, 0}, 8, 3, drum(8, 3, 2, 1, 0, 3)},
		{impl.SampleTune(), []int{0, 2, 1, 4, 3}, 8, 5, drum(8, 5, 0, 0, 2, 2, 1, 4, 4, 4, 3, 6)},
		// The pins of one angle are in the order of the tracks, not of the notes.
		{impl.SampleTune(), []int{0, 2, 4, 1, 3}, 8, 5, drum(8, 5, 0, 0, 2, 2, 1, 4, 4, 4, 3, 6)},
		{notes(2, 1, 2, 2, 2, 3), []int{5, 3, 4}, 4, 6, drum(4, 6, 3, 2, 4, 2, 5, 2)},
		{notes(0, 9, 2, 1, 2, 2, 2, 3, 3, 0), []int{1, 5, 0, 2, 0}, 4, 6, drum(4, 6, 1, 0, 0, 2, 2, 2, 5, 2, 0, 3)},
		// The pitches, and whether a tooth is its pitch's, do not matter.
		{notes(0, 60, 1, 0), []int{0, 0}, 4, 1, drum(4, 1, 0, 0, 0, 1)},
		{notes(0, 7, 1, 7, 2, 7, 3, 7), []int{0, 0, 0, 0}, 4, 1, drumWith(4, 1, 4)},
		{notes(0, 7, 1, 7), []int{99, 98}, 4, 100, drum(4, 100, 99, 0, 98, 1)},
		// Tunes without notes.
		{nil, nil, 12, 2, drum(12, 2)},
		{[]impl.Note{}, []int{}, 4, 1, drum(4, 1)},
		{nil, []int{}, 96, 100, drum(96, 100)},
		// The first and the last time and tooth.
		{notes(0, 3), []int{0}, 4, 1, drum(4, 1, 0, 0)},
		{notes(3, 3), []int{0}, 4, 1, drum(4, 1, 0, 3)},
		{notes(95, 3), []int{99}, 96, 100, drum(96, 100, 99, 95)},
		{notes(0, 3, 95, 3), []int{99, 0}, 96, 100, drum(96, 100, 99, 0, 0, 95)},
		{row(40), teethFrom(0, 40), 40, 40, diagonal(40, 40)},
		{notesAtOneTime(40), teethFrom(0, 40), 9, 40, drum(9, 40, atAngle(8, 40)...)},
	} {
		checkCylinderOf(t, c.tune, c.teeth, c.steps, c.tracks, c.want)
	}
}

// diagonal has a pin on each track, at the angle with the same number.
func diagonal(steps int, tracks int) impl.Cylinder {
	c := drum(steps, tracks)
	for k := range tracks {
		c.Pins = append(c.Pins, impl.Pin{Track: k, Angle: k})
	}
	return c
}

// atAngle has the numbers of pins on the first n tracks, all at one angle.
func atAngle(angle int, n int) []int {
	var numbers []int
	for track := range n {
		numbers = append(numbers, track, angle)
	}
	return numbers
}

func checkCylinderOf(t *testing.T, tune []impl.Note, teeth []int, steps int, tracks int, want impl.Cylinder) {
	t.Helper()
	if got, ok := impl.CylinderOf(tune, teeth, steps, tracks); !ok || !sameDrum(got, want) {
		t.Errorf("CylinderOf(%v, %v, %d, %d) = %v, %v, want %v", tune, teeth, steps, tracks, got, ok, want)
	}
}

func checkNoCylinderOf(t *testing.T, tune []impl.Note, teeth []int, steps int, tracks int) {
	t.Helper()
	if got, ok := impl.CylinderOf(tune, teeth, steps, tracks); ok || !sameDrum(got, impl.Cylinder{}) || len(got.Pins) != 0 {
		t.Errorf("CylinderOf(%v, %v, %d, %d) = %v, %v, want the zero Cylinder and false", tune, teeth, steps, tracks, got, ok)
	}
}

func TestCylinderOfRejects(t *testing.T) {
	two := notes(1, 5, 3, 5)
	for _, c := range []struct {
		tune   []impl.Note
		teeth  []int
		steps  int
		tracks int
	}{
		// One tooth too few or too many.
		{two, []int{2}, 8, 3},
		{two, []int{2, 0, 1}, 8, 3},
		{two, []int{2, 0, 0}, 8, 3},
		{two, nil, 8, 3},
		{nil, []int{0}, 8, 3},
		{notes(1, 5), nil, 8, 3},
		{notes(1, 5), []int{0, 1}, 8, 3},
		{row(40), teethFrom(0, 39), 40, 50},
		{row(40), teethFrom(0, 41), 40, 50},
		// Notes with the same tooth and time, next to each other or not.
		{notes(2, 1, 2, 2), []int{1, 1}, 8, 3},
		{notes(2, 1, 2, 2, 2, 3), []int{1, 0, 1}, 8, 3},
		{notes(0, 1, 2, 1, 2, 2, 2, 3, 4, 1), []int{0, 2, 1, 2, 0}, 8, 3},
		{impl.SampleTune(), []int{0, 2, 1, 1, 3}, 8, 5},
		{notesAtOneTime(2), []int{0, 0}, 9, 1},
		// Times of Steps and more are not taken modulo Steps.
		{notes(8, 5), []int{0}, 8, 3},
		{notes(1, 5, 8, 5), []int{2, 0}, 8, 3},
		{notes(1, 5, 9, 5), []int{2, 0}, 8, 3},
		{notes(1, 5, 16, 5), []int{2, 0}, 8, 3},
		{notes(96, 5), []int{0}, 96, 3},
		{notes(1000, 5), []int{0}, 96, 100},
		{impl.SampleTune(), []int{0, 2, 1, 4, 3}, 6, 5},
		// Teeth that are no tracks.
		{two, []int{3, 0}, 8, 3},
		{two, []int{0, 3}, 8, 3},
		{two, []int{-1, 0}, 8, 3},
		{two, []int{0, -1}, 8, 3},
		{two, []int{100, 0}, 8, 100},
		{two, []int{math.MinInt64, math.MaxInt64}, 8, 100},
		{two, []int{math.MaxInt64, math.MinInt64}, 8, 100},
		// Steps and tracks outside their ranges, with and without notes.
		{notes(1, 5, 2, 5), []int{0, 0}, 3, 1},
		{two, []int{2, 0}, 97, 3},
		{two, []int{2, 0}, 8, 101},
		{two, []int{0, 0}, 8, 0},
		{two, []int{2, 0}, -8, 3},
		{two, []int{2, 0}, 8, -3},
		{nil, nil, 3, 1},
		{nil, nil, 97, 1},
		{nil, nil, 4, 0},
		{nil, nil, 4, 101},
		{nil, nil, 0, 0},
		{nil, nil, math.MinInt64, math.MaxInt64},
		{nil, nil, math.MaxInt64, math.MinInt64},
	} {
		checkNoCylinderOf(t, c.tune, c.teeth, c.steps, c.tracks)
	}
}

// TestCylinderOfNoTune gives each list that is not a tune as many teeth as
// notes, and no two of them are the same.
func TestCylinderOfNoTune(t *testing.T) {
	for _, tune := range invalidTunes() {
		checkNoCylinderOf(t, tune, teethFrom(0, len(tune)), 96, 100)
	}
	// Nothing but the order of the list or the number of notes is wrong.
	checkNoCylinderOf(t, notes(2, 5, 1, 5), []int{0, 1}, 8, 2)
	checkNoCylinderOf(t, notes(2, 5, 2, 4), []int{0, 1}, 8, 2)
	checkNoCylinderOf(t, notes(2, 5, 2, 5), []int{0, 1}, 8, 2)
	checkNoCylinderOf(t, notes(2, 61), []int{0}, 8, 2)
	checkNoCylinderOf(t, notes(2, -1), []int{0}, 8, 2)
	checkNoCylinderOf(t, row(41), teethFrom(0, 41), 96, 100)
}

// TestCylinderOfManyTunes finds the pins by looking at each place.
func TestCylinderOfManyTunes(t *testing.T) {
	for k, tune := range manyTunes() {
		for _, steps := range []int{4, 12 + k%50, 96} {
			tracks := 1 + (k*k*3+steps)%100
			teeth, set := []int{}, make(map[impl.Pin]bool)
			for j, n := range tune {
				tooth := (j*29 + k*11) % (tracks + k%2)
				teeth = append(teeth, tooth)
				set[impl.Pin{Track: tooth, Angle: n.Time}] = true
			}
			want := drumOfSet(steps, tracks, set)
			if len(want.Pins) == len(tune) {
				checkCylinderOf(t, tune, teeth, steps, tracks, want)
			} else {
				checkNoCylinderOf(t, tune, teeth, steps, tracks)
			}
		}
	}
}

// TestPinsKeepTheirArguments looks for shared memory, also behind the end.
func TestPinsKeepTheirArguments(t *testing.T) {
	pin := func(track int, angle int) func(impl.Cylinder) impl.Cylinder {
		return func(c impl.Cylinder) impl.Cylinder {
			result, _ := impl.AddPin(c, impl.Pin{Track: track, Angle: angle})
			return result
		}
	}
	pull := func(k int) func(impl.Cylinder) impl.Cylinder {
		return func(c impl.Cylinder) impl.Cylinder {
			result, _ := impl.PullPin(c, k)
			return result
		}
	}
	turn := func(by int) func(impl.Cylinder) impl.Cylinder {
		return func(c impl.Cylinder) impl.Cylinder {
			return impl.TurnBy(c, by)
		}
	}
	for name, change := range map[string]func(impl.Cylinder) impl.Cylinder{
		"AddPin ahead":      pin(0, 0),
		"AddPin between":    pin(0, 2),
		"AddPin behind":     pin(2, 11),
		"AddPin again":      pin(1, 1),
		"AddPin outside":    pin(3, 0),
		"PullPin first":     pull(0),
		"PullPin second":    pull(1),
		"PullPin last":      pull(2),
		"PullPin none":      pull(-1),
		"TurnBy 0":          turn(0),
		"TurnBy 5":          turn(5),
		"TurnBy 12":         turn(12),
		"TurnBy -7":         turn(-7),
		"TurnBy too far":    turn(1000001),
		"PinsAt and TurnBy": func(c impl.Cylinder) impl.Cylinder { _ = append(impl.PinsAt(c, 1), 9); return turn(1)(c) },
	} {
		for size := range 5 {
			checkKeepsCylinder(t, name, change, drum(12, 3, 1, 1, 0, 3, 2, 8, 1, 1, 0, 0), size)
			checkKeepsCylinder(t, name, change, drum(12, 3, 0, 3, 1, 1, 2, 8, 1, 1, 0, 0), size)
		}
	}
}

// checkKeepsCylinder hands over the first pins only, and spoils the result.
func checkKeepsCylinder(t *testing.T, name string, change func(impl.Cylinder) impl.Cylinder, backing impl.Cylinder, size int) {
	t.Helper()
	before := copyOfDrum(backing)
	part := backing
	part.Pins = backing.Pins[:size]
	got := change(part)
	for k := range got.Pins {
		got.Pins[k] = impl.Pin{Track: 77, Angle: 7}
	}
	_ = append(got.Pins, impl.Pin{Track: 78, Angle: 8})
	if !sameDrum(backing, before) || len(part.Pins) != size {
		t.Errorf("%s of %v: the argument changed to %v", name, before.Pins[:size], backing)
	}
}

func TestCylinderOfKeepsBoth(t *testing.T) {
	tune, teeth := notes(1, 5, 1, 6, 3, 5, 8, 8), []int{2, 0, 1, 7}
	tuneBefore, teethBefore := slices.Clone(tune), slices.Clone(teeth)
	c, ok := impl.CylinderOf(tune[:3], teeth[:3], 8, 3)
	for k := range c.Pins {
		c.Pins[k] = impl.Pin{Track: 77, Angle: 7}
	}
	_ = append(c.Pins, impl.Pin{Track: 78, Angle: 8})
	impl.CylinderOf(tune[:3], teeth[:3], 3, 3)
	if !ok || !slices.Equal(tune, tuneBefore) || !slices.Equal(teeth, teethBefore) {
		t.Errorf("the arguments changed to %v and %v", tune, teeth)
	}
}

// TestPinsAreTheSameAgain calls many times, because a cylinder's turn must not
// last from one call to the next one.
func TestPinsAreTheSameAgain(t *testing.T) {
	for range 5 {
		checkTurnBy(t, fourPins(), 1, drum(12, 2, 0, 0, 0, 1, 1, 1, 1, 6))
		checkPinsAt(t, fourPins(), -1, []int{0})
		checkPulled(t, fourPins(), 3, drum(12, 2, 0, 0, 1, 0, 1, 5))
		checkCylinderOf(t, notes(1, 5, 3, 5), []int{2, 0}, 8, 3, drum(8, 3, 2, 1, 0, 3))
	}
}

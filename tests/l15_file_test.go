package tests

import (
	"maps"
	"slices"
	"testing"

	"loop.example/g03309/impl"
)

// Promise 15: Files make a tooth higher and lower by fixed steps, and the fewest
// files reach the tone.

func tooth(tone int, tip int, root int) impl.Tooth {
	return impl.Tooth{Tone: tone, Tip: tip, Root: root}
}

// someTones has least and greatest ones, and some that a file takes just to the end
// or past it.
func someTones() []int {
	return []int{0, 1, 6, 7, 10, 11, 12, 21, 22, 100, 139, 140, 219, 220, 1200, 2999, 3000, 5779, 5780, 5859, 5860,
		5986, 5987, 5992, 5993, 5994, 5999, 6000}
}

func someFiles() []int {
	return []int{0, 1, 2, 3, 6, 7, 8, 10, 11, 12, 13, 19, 20}
}

// eachTooth calls with some teeth of a tone.
func eachTooth(tone int, call func(impl.Tooth)) {
	for _, tip := range someFiles() {
		for _, root := range someFiles() {
			call(tooth(tone, tip, root))
		}
	}
}

func notTones() []int {
	return append(extremes(), -1, 6001, -2, -7, -11, -6000, 6002, 6007, 6011, 12000)
}

func notFiles() []int {
	return append(extremes(), -1, 21, -2, -20, 22, 100)
}

// invalidTeeth has one number of each that is not in its range, and some with more
// of them.
func invalidTeeth() []impl.Tooth {
	teeth := []impl.Tooth{tooth(-1, -1, -1), tooth(6001, 21, 21), tooth(-1, 21, 3), tooth(6001, 5, -1), tooth(-7, 1, 0),
		tooth(6011, 0, 1)}
	for _, n := range extremes() {
		teeth = append(teeth, tooth(n, n, n))
	}
	for _, some := range []impl.Tooth{{}, tooth(0, 20, 20), tooth(1200, 5, 3), tooth(1200, 1, 1), tooth(6000, 20, 20)} {
		for _, tone := range notTones() {
			teeth = append(teeth, tooth(tone, some.Tip, some.Root))
		}
		for _, files := range notFiles() {
			teeth = append(teeth, tooth(some.Tone, files, some.Root), tooth(some.Tone, some.Tip, files))
		}
	}
	return teeth
}

// filesFor has all the tones in their range that a tooth reaches, each with the
// numbers of files with which it does.
func filesFor(tt impl.Tooth) map[int][][2]int {
	ways := map[int][][2]int{}
	for tip := range tt.Tip + 1 {
		for root := range tt.Root + 1 {
			if tone := tt.Tone + 7*tip - 11*root; 0 <= tone && tone <= 6000 {
				ways[tone] = append(ways[tone], [2]int{tip, root})
			}
		}
	}
	return ways
}

// closestOf is the closest one of ascending tones, the lower one of two.
func closestOf(tones []int, tone int) int {
	k, _ := slices.BinarySearch(tones, tone)
	if k == 0 {
		return tones[0]
	}
	if k < len(tones) && tones[k]-tone < tone-tones[k-1] {
		return tones[k]
	}
	return tones[k-1]
}

func checkTooth(t *testing.T, tt impl.Tooth, want bool) {
	t.Helper()
	if got := impl.ToothOk(tt); got != want {
		t.Errorf("ToothOk(%v) = %v, want %v", tt, got, want)
	}
}

func checkFileTip(t *testing.T, tt impl.Tooth, want impl.Tooth) {
	t.Helper()
	if got, ok := impl.FileTip(tt); got != want || !ok {
		t.Errorf("FileTip(%v) = %v, %v, want %v, true", tt, got, ok, want)
	}
}

func checkFileRoot(t *testing.T, tt impl.Tooth, want impl.Tooth) {
	t.Helper()
	if got, ok := impl.FileRoot(tt); got != want || !ok {
		t.Errorf("FileRoot(%v) = %v, %v, want %v, true", tt, got, ok, want)
	}
}

func checkTipNotFiled(t *testing.T, tt impl.Tooth) {
	t.Helper()
	if got, ok := impl.FileTip(tt); got != tt || ok {
		t.Errorf("FileTip(%v) = %v, %v, want it unchanged, false", tt, got, ok)
	}
}

func checkRootNotFiled(t *testing.T, tt impl.Tooth) {
	t.Helper()
	if got, ok := impl.FileRoot(tt); got != tt || ok {
		t.Errorf("FileRoot(%v) = %v, %v, want it unchanged, false", tt, got, ok)
	}
}

func checkStepsTo(t *testing.T, tt impl.Tooth, tone int, tip int, root int) {
	t.Helper()
	if gotTip, gotRoot, ok := impl.StepsTo(tt, tone); gotTip != tip || gotRoot != root || !ok {
		t.Errorf("StepsTo(%v, %d) = %d, %d, %v, want %d, %d, true", tt, tone, gotTip, gotRoot, ok, tip, root)
	}
}

func checkNoStepsTo(t *testing.T, tt impl.Tooth, tone int) {
	t.Helper()
	if tip, root, ok := impl.StepsTo(tt, tone); tip != 0 || root != 0 || ok {
		t.Errorf("StepsTo(%v, %d) = %d, %d, %v, want 0, 0, false", tt, tone, tip, root, ok)
	}
}

func checkClosestTone(t *testing.T, tt impl.Tooth, tone int, want int) {
	t.Helper()
	if got := impl.ClosestTone(tt, tone); got != want {
		t.Errorf("ClosestTone(%v, %d) = %d, want %d", tt, tone, got, want)
	}
}

func TestToothOk(t *testing.T) {
	for _, tt := range []impl.Tooth{{}, tooth(1200, 5, 3), tooth(0, 20, 20), tooth(6000, 0, 0), tooth(6000, 20, 20),
		tooth(3000, 0, 20), tooth(3000, 20, 0), tooth(1, 1, 1), tooth(5999, 19, 19)} {
		checkTooth(t, tt, true)
	}
	for _, tone := range someTones() {
		eachTooth(tone, func(tt impl.Tooth) { checkTooth(t, tt, true) })
	}
	for tone := -300; tone <= 6300; tone++ {
		checkTooth(t, tooth(tone, 5, 3), 0 <= tone && tone <= 6000)
	}
	for files := -30; files <= 50; files++ {
		checkTooth(t, tooth(1200, files, 3), 0 <= files && files <= 20)
		checkTooth(t, tooth(1200, 5, files), 0 <= files && files <= 20)
	}
}

func TestInvalidTeeth(t *testing.T) {
	for _, tt := range invalidTeeth() {
		checkTooth(t, tt, false)
		checkTipNotFiled(t, tt)
		checkRootNotFiled(t, tt)
		for _, tone := range append(someTones(), notTones()...) {
			checkNoStepsTo(t, tt, tone)
			checkClosestTone(t, tt, tone, -1)
		}
		for _, tone := range []int{tt.Tone, tt.Tone + 7, tt.Tone - 11} {
			checkNoStepsTo(t, tt, tone)
			checkClosestTone(t, tt, tone, -1)
		}
	}
}

func TestTonesOutOfRange(t *testing.T) {
	for _, tone := range notTones() {
		for _, own := range someTones() {
			eachTooth(own, func(tt impl.Tooth) {
				checkNoStepsTo(t, tt, tone)
				checkClosestTone(t, tt, tone, -1)
			})
		}
	}
}

// TestTonesPastTheEnds has tones that the files would reach.
func TestTonesPastTheEnds(t *testing.T) {
	checkNoStepsTo(t, tooth(5994, 1, 0), 6001)
	checkNoStepsTo(t, tooth(6000, 20, 20), 6007)
	checkNoStepsTo(t, tooth(10, 0, 1), -1)
	checkNoStepsTo(t, tooth(0, 20, 20), -11)
	checkNoStepsTo(t, tooth(0, 20, 20), -4)
	checkClosestTone(t, tooth(5994, 1, 0), 6001, -1)
	checkClosestTone(t, tooth(10, 0, 1), -1, -1)
}

func TestFileTip(t *testing.T) {
	for _, c := range []struct{ from, to impl.Tooth }{
		{tooth(1200, 5, 3), tooth(1207, 4, 3)},
		{tooth(1200, 5, 0), tooth(1207, 4, 0)},
		{tooth(1200, 1, 3), tooth(1207, 0, 3)},
		{tooth(1200, 20, 20), tooth(1207, 19, 20)},
		{tooth(0, 1, 0), tooth(7, 0, 0)},
		{tooth(0, 20, 0), tooth(7, 19, 0)},
		// To exactly 6000, and 1 less.
		{tooth(5993, 1, 0), tooth(6000, 0, 0)},
		{tooth(5993, 20, 20), tooth(6000, 19, 20)},
		{tooth(5992, 5, 3), tooth(5999, 4, 3)},
	} {
		checkFileTip(t, c.from, c.to)
	}
	for _, tt := range []impl.Tooth{{}, tooth(1200, 0, 3), tooth(1200, 0, 0), tooth(1200, 0, 20), tooth(0, 0, 1),
		tooth(6000, 0, 0), tooth(5993, 0, 3),
		// Above 6000, by 1 and more.
		tooth(5994, 5, 3), tooth(5994, 1, 0), tooth(5994, 20, 20), tooth(5999, 5, 3), tooth(6000, 5, 3),
		tooth(6000, 20, 20), tooth(6000, 1, 0)} {
		checkTipNotFiled(t, tt)
	}
}

func TestFileRoot(t *testing.T) {
	for _, c := range []struct{ from, to impl.Tooth }{
		{tooth(1200, 5, 3), tooth(1189, 5, 2)},
		{tooth(1200, 0, 3), tooth(1189, 0, 2)},
		{tooth(1200, 5, 1), tooth(1189, 5, 0)},
		{tooth(1200, 20, 20), tooth(1189, 20, 19)},
		{tooth(6000, 0, 1), tooth(5989, 0, 0)},
		{tooth(6000, 0, 20), tooth(5989, 0, 19)},
		// To exactly 0, and 1 more.
		{tooth(11, 0, 1), tooth(0, 0, 0)},
		{tooth(11, 20, 20), tooth(0, 20, 19)},
		{tooth(12, 5, 3), tooth(1, 5, 2)},
	} {
		checkFileRoot(t, c.from, c.to)
	}
	for _, tt := range []impl.Tooth{{}, tooth(1200, 5, 0), tooth(1200, 0, 0), tooth(1200, 20, 0), tooth(6000, 1, 0),
		tooth(6000, 0, 0), tooth(11, 5, 0),
		// Below 0, by 1 and more.
		tooth(10, 5, 3), tooth(10, 0, 1), tooth(10, 20, 20), tooth(7, 5, 3), tooth(1, 5, 3), tooth(0, 5, 3),
		tooth(0, 20, 20), tooth(0, 0, 1)} {
		checkRootNotFiled(t, tt)
	}
}

// TestFilesOfAllTeeth has all tones, and all files of both.
func TestFilesOfAllTeeth(t *testing.T) {
	check := func(tt impl.Tooth) {
		if tt.Tip > 0 && tt.Tone <= 5993 {
			checkFileTip(t, tt, tooth(tt.Tone+7, tt.Tip-1, tt.Root))
		} else {
			checkTipNotFiled(t, tt)
		}
		if tt.Root > 0 && tt.Tone >= 11 {
			checkFileRoot(t, tt, tooth(tt.Tone-11, tt.Tip, tt.Root-1))
		} else {
			checkRootNotFiled(t, tt)
		}
	}
	for tone := range 6001 {
		for _, tip := range []int{0, 1, 20} {
			for _, root := range []int{0, 1, 20} {
				check(tooth(tone, tip, root))
			}
		}
	}
	for _, tone := range someTones() {
		for tip := range 21 {
			for root := range 21 {
				check(tooth(tone, tip, root))
			}
		}
	}
}

// TestFilingUntilNothingIsLeft files 20 times, and once more.
func TestFilingUntilNothingIsLeft(t *testing.T) {
	tip, root := tooth(1200, 20, 20), tooth(1200, 20, 20)
	for k := range 20 {
		checkFileTip(t, tip, tooth(1207+7*k, 19-k, 20))
		checkFileRoot(t, root, tooth(1189-11*k, 20, 19-k))
		tip, _ = impl.FileTip(tip)
		root, _ = impl.FileRoot(root)
	}
	checkTipNotFiled(t, tip)
	checkRootNotFiled(t, root)
	if tip != tooth(1340, 0, 20) || root != tooth(980, 20, 0) {
		t.Errorf("filed 20 times: %v and %v", tip, root)
	}
}

func TestStepsTo(t *testing.T) {
	for _, c := range []struct {
		from            impl.Tooth
		tone, tip, root int
	}{
		{tooth(1200, 5, 3), 1203, 2, 1},
		// Its own tone, also without files.
		{tooth(1200, 5, 3), 1200, 0, 0},
		{tooth(1200, 0, 0), 1200, 0, 0},
		{tooth(0, 0, 0), 0, 0, 0},
		{tooth(6000, 0, 0), 6000, 0, 0},
		{tooth(0, 20, 20), 0, 0, 0},
		{tooth(6000, 20, 20), 6000, 0, 0},
		// The tip alone.
		{tooth(1200, 5, 3), 1207, 1, 0},
		{tooth(1200, 5, 3), 1235, 5, 0},
		{tooth(1200, 5, 0), 1235, 5, 0},
		{tooth(1200, 20, 0), 1340, 20, 0},
		// The root alone.
		{tooth(1200, 5, 3), 1189, 0, 1},
		{tooth(1200, 5, 3), 1167, 0, 3},
		{tooth(1200, 0, 3), 1167, 0, 3},
		{tooth(1200, 0, 20), 980, 0, 20},
		// Both.
		{tooth(1200, 1, 1), 1196, 1, 1},
		{tooth(1200, 5, 3), 1202, 5, 3},
		{tooth(1200, 5, 3), 1224, 5, 1},
		{tooth(1200, 5, 3), 1174, 1, 3},
		{tooth(1200, 10, 20), 1050, 10, 20},
		{tooth(1200, 20, 6), 1274, 20, 6},
		{tooth(1200, 20, 20), 1201, 8, 5},
		{tooth(1200, 20, 20), 1199, 3, 2},
		// More than one way: 11 files of the tip and 7 of the root change nothing.
		{tooth(1200, 11, 7), 1200, 0, 0},
		{tooth(1200, 20, 20), 1200, 0, 0},
		{tooth(1200, 12, 7), 1207, 1, 0},
		{tooth(1200, 20, 20), 1207, 1, 0},
		{tooth(1200, 11, 8), 1189, 0, 1},
		{tooth(1200, 20, 20), 1189, 0, 1},
		{tooth(1200, 13, 8), 1203, 2, 1},
		{tooth(1200, 20, 20), 1203, 2, 1},
		{tooth(1200, 20, 20), 1120, 9, 13},
		{tooth(1200, 20, 20), 1127, 10, 13},
		{tooth(1200, 20, 20), 1263, 9, 0},
		{tooth(1200, 20, 20), 1113, 8, 13},
		// The least and the greatest tone.
		{tooth(11, 0, 1), 0, 0, 1},
		{tooth(4, 1, 1), 0, 1, 1},
		{tooth(220, 20, 20), 0, 0, 20},
		{tooth(80, 20, 20), 0, 9, 13},
		{tooth(5993, 1, 0), 6000, 1, 0},
		{tooth(5860, 20, 20), 6000, 20, 0},
		{tooth(5997, 2, 1), 6000, 2, 1},
		// Past the end, if the tip or the root were filed first.
		{tooth(6000, 1, 1), 5996, 1, 1},
		{tooth(5, 2, 1), 8, 2, 1},
		{tooth(6000, 20, 20), 5999, 3, 2},
		{tooth(0, 20, 20), 1, 8, 5},
	} {
		checkStepsTo(t, c.from, c.tone, c.tip, c.root)
	}
}

func TestNoStepsTo(t *testing.T) {
	for _, c := range []struct {
		from impl.Tooth
		tone int
	}{
		{tooth(1200, 5, 3), 1201},
		{tooth(1200, 5, 3), 1166},
		{tooth(1200, 5, 3), 1236},
		{tooth(1200, 20, 20), 1341},
		{tooth(1200, 20, 20), 979},
		{tooth(1200, 20, 20), 0},
		{tooth(1200, 20, 20), 6000},
		// Too few files by one.
		{tooth(1200, 0, 3), 1207},
		{tooth(1200, 4, 3), 1235},
		{tooth(1200, 19, 20), 1340},
		{tooth(1200, 5, 0), 1189},
		{tooth(1200, 5, 2), 1167},
		{tooth(1200, 20, 19), 980},
		{tooth(1200, 1, 1), 1203},
		{tooth(1200, 2, 0), 1203},
		{tooth(1200, 4, 3), 1202},
		{tooth(1200, 5, 2), 1202},
		{tooth(1200, 8, 20), 1120},
		{tooth(1200, 20, 12), 1120},
		{tooth(1200, 9, 20), 1050},
		{tooth(1200, 20, 5), 1274},
		{tooth(1200, 20, 20), 1347},
		{tooth(1200, 20, 20), 969},
		{tooth(11, 20, 0), 0},
		{tooth(4, 0, 1), 0},
		{tooth(4, 1, 0), 0},
		{tooth(5993, 0, 20), 6000},
		{tooth(5997, 1, 1), 6000},
		{tooth(5997, 2, 0), 6000},
		// Without files.
		{tooth(1200, 0, 0), 1201},
		{tooth(1200, 0, 0), 1199},
		{tooth(1200, 0, 0), 1207},
		{tooth(1200, 0, 0), 1189},
		{tooth(0, 0, 0), 7},
		{tooth(0, 0, 0), 6000},
		{tooth(6000, 0, 0), 0},
		{tooth(6000, 0, 0), 5989},
	} {
		checkNoStepsTo(t, c.from, c.tone)
	}
}

// checkFewestFiles compares with all the numbers of files.
func checkFewestFiles(t *testing.T, tt impl.Tooth, tone int, ways [][2]int) {
	t.Helper()
	if len(ways) == 0 {
		checkNoStepsTo(t, tt, tone)
		return
	}
	least := ways[0]
	for _, way := range ways {
		if way[0]+way[1] < least[0]+least[1] {
			least = way
		}
	}
	checkStepsTo(t, tt, tone, least[0], least[1])
}

// TestFewestFiles has all files of both, with all tones that they reach and those
// beside them.
func TestFewestFiles(t *testing.T) {
	for _, own := range []int{0, 5, 77, 1200, 5860, 5990, 6000} {
		for tip := range 21 {
			for root := range 21 {
				tt := tooth(own, tip, root)
				ways := filesFor(tt)
				for tone := max(own-11*root-12, 0); tone <= min(own+7*tip+8, 6000); tone++ {
					checkFewestFiles(t, tt, tone, ways[tone])
				}
			}
		}
	}
}

func TestFewestFilesForAllTones(t *testing.T) {
	for _, own := range []int{0, 1200, 5993, 6000} {
		for _, files := range [][2]int{{0, 0}, {5, 3}, {11, 7}, {20, 20}} {
			tt := tooth(own, files[0], files[1])
			ways := filesFor(tt)
			for tone := range 6001 {
				checkFewestFiles(t, tt, tone, ways[tone])
			}
		}
	}
}

// fileBoth files a tooth so often, in an order in which each file is possible.
func fileBoth(t *testing.T, tt impl.Tooth, tip int, root int) impl.Tooth {
	t.Helper()
	for tip+root > 0 {
		next, ok := impl.FileTip(tt)
		if tip == 0 || !ok {
			next, ok = impl.FileRoot(tt)
			root--
		} else {
			tip--
		}
		if !ok || root < 0 {
			t.Fatalf("%v is not filed, with %d files of the tip and %d of the root to do", tt, tip, root)
		}
		tt = next
	}
	return tt
}

// TestFilesReachTheTone files the tip and the root as often as StepsTo tells.
func TestFilesReachTheTone(t *testing.T) {
	for _, own := range someTones() {
		eachTooth(own, func(tt impl.Tooth) {
			for tone := range filesFor(tt) {
				tip, root, ok := impl.StepsTo(tt, tone)
				if !ok {
					t.Fatalf("StepsTo(%v, %d) = false, want true", tt, tone)
				}
				if got := fileBoth(t, tt, tip, root); got != tooth(tone, tt.Tip-tip, tt.Root-root) {
					t.Errorf("StepsTo(%v, %d) = %d, %d, which makes it %v", tt, tone, tip, root, got)
				}
			}
		})
	}
}

// TestJustEnoughFiles leaves the tooth no more files than are needed, and one less.
func TestJustEnoughFiles(t *testing.T) {
	for _, own := range []int{0, 4, 220, 1200, 5860, 6000} {
		for tone := range filesFor(tooth(own, 20, 20)) {
			tip, root, _ := impl.StepsTo(tooth(own, 20, 20), tone)
			checkStepsTo(t, tooth(own, tip, root), tone, tip, root)
			if tip > 0 {
				checkNoStepsTo(t, tooth(own, tip-1, 20), tone)
			}
			if root > 0 {
				checkNoStepsTo(t, tooth(own, 20, root-1), tone)
			}
		}
	}
}

func TestClosestTone(t *testing.T) {
	for _, c := range []struct {
		from       impl.Tooth
		tone, want int
	}{
		{tooth(1200, 5, 3), 1204, 1203},
		// Exactly.
		{tooth(1200, 5, 3), 1200, 1200},
		{tooth(1200, 5, 3), 1203, 1203},
		{tooth(1200, 5, 3), 1207, 1207},
		{tooth(1200, 5, 3), 1189, 1189},
		{tooth(1200, 20, 20), 1120, 1120},
		{tooth(1200, 20, 20), 1201, 1201},
		// The lower one of two: of 1196 and 1200, of 1203 and 1207, and of 1185 and 1189.
		{tooth(1200, 1, 1), 1198, 1196},
		{tooth(1200, 2, 1), 1205, 1203},
		{tooth(1200, 1, 2), 1187, 1185},
		// One closer to the one, and one closer to the other.
		{tooth(1200, 1, 1), 1197, 1196},
		{tooth(1200, 1, 1), 1199, 1200},
		// Just between two tones that are 7 or 11 apart there is none.
		{tooth(1200, 0, 1), 1195, 1200},
		{tooth(1200, 0, 1), 1194, 1189},
		{tooth(1200, 0, 2), 1189, 1189},
		{tooth(1200, 0, 2), 1183, 1178},
		{tooth(1200, 1, 0), 1203, 1200},
		{tooth(1200, 1, 0), 1204, 1207},
		// Past all that are reached.
		{tooth(1200, 5, 3), 6000, 1235},
		{tooth(1200, 5, 3), 1236, 1235},
		{tooth(1200, 5, 3), 0, 1167},
		{tooth(1200, 5, 3), 1166, 1167},
		{tooth(1200, 20, 20), 6000, 1340},
		{tooth(1200, 20, 20), 0, 980},
		// Closer ones would be below 0.
		{tooth(10, 0, 1), 0, 10},
		{tooth(10, 20, 1), 0, 6},
		{tooth(6, 0, 1), 0, 6},
		{tooth(3, 1, 1), 0, 3},
		{tooth(3, 1, 1), 1, 3},
		{tooth(11, 0, 2), 0, 0},
		{tooth(12, 0, 2), 0, 1},
		{tooth(21, 0, 20), 0, 10},
		{tooth(21, 1, 2), 0, 6},
		// Closer ones would be above 6000.
		{tooth(5994, 1, 0), 6000, 5994},
		{tooth(5994, 1, 1), 6000, 5994},
		{tooth(5997, 1, 0), 6000, 5997},
		{tooth(5987, 2, 0), 6000, 5994},
		{tooth(5993, 2, 0), 6000, 6000},
		{tooth(6000, 1, 1), 5997, 5996},
		{tooth(6000, 1, 0), 5999, 6000},
		{tooth(6000, 20, 20), 6000, 6000},
		{tooth(0, 20, 20), 0, 0},
		{tooth(0, 20, 20), 1, 1},
		// Past the end, if the tip or the root were filed first.
		{tooth(6000, 1, 1), 5995, 5996},
		{tooth(5, 2, 1), 9, 8},
		// Without files.
		{tooth(1200, 0, 0), 1200, 1200},
		{tooth(1200, 0, 0), 1204, 1200},
		{tooth(1200, 0, 0), 0, 1200},
		{tooth(1200, 0, 0), 6000, 1200},
		{tooth(0, 0, 0), 50, 0},
		{tooth(0, 0, 0), 6000, 0},
		{tooth(6000, 0, 0), 0, 6000},
	} {
		checkClosestTone(t, c.from, c.tone, c.want)
	}
}

// TestClosestOfAllTones has all files of both, with all tones near them.
func TestClosestOfAllTones(t *testing.T) {
	for _, own := range []int{0, 10, 1200, 5990, 6000} {
		for tip := range 21 {
			for root := range 21 {
				tt := tooth(own, tip, root)
				tones := slices.Sorted(maps.Keys(filesFor(tt)))
				for tone := max(own-11*root-12, 0); tone <= min(own+7*tip+8, 6000); tone++ {
					checkClosestTone(t, tt, tone, closestOf(tones, tone))
				}
			}
		}
	}
}

func TestClosestForAllTones(t *testing.T) {
	for _, own := range []int{0, 1200, 5993, 6000} {
		for _, files := range [][2]int{{0, 0}, {1, 1}, {5, 3}, {20, 20}} {
			tt := tooth(own, files[0], files[1])
			tones := slices.Sorted(maps.Keys(filesFor(tt)))
			for tone := range 6001 {
				checkClosestTone(t, tt, tone, closestOf(tones, tone))
			}
		}
	}
}

// TestClosestToneIsReached also compares it with the tone itself.
func TestClosestToneIsReached(t *testing.T) {
	for _, own := range someTones() {
		eachTooth(own, func(tt impl.Tooth) {
			for _, tone := range append(someTones(), own+7, own-11, own-4, own+2, own-1) {
				closest := impl.ClosestTone(tt, tone)
				if tone < 0 || tone > 6000 {
					checkClosestTone(t, tt, tone, -1)
					continue
				}
				if _, _, ok := impl.StepsTo(tt, closest); !ok {
					t.Errorf("ClosestTone(%v, %d) = %d, which is not reached", tt, tone, closest)
				}
				if _, _, ok := impl.StepsTo(tt, tone); ok != (closest == tone) {
					t.Errorf("ClosestTone(%v, %d) = %d, and whether it is reached is %v", tt, tone, closest, ok)
				}
			}
		})
	}
}

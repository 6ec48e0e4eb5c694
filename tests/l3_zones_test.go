package tests

import (
	"fmt"
	"math"
	"math/rand/v2"
	"slices"
	"testing"

	"loop.example/tiervolume/impl"
)

// As in the tests of frames, the numbers of the document are written out.
const (
	zones       = 4
	zoneSize    = 64
	zoneDone    = 0
	zoneRoom    = 1
	zoneInvalid = 2
)

// Numbers that no zone has, numbers of words that no zone can be cut to, and numbers of words that can't be kept.
var (
	badZones = []int{-1, -2, -zones, zones, zones + 1, 2 * zones, zoneSize, 1 << 32, -1 << 32, math.MinInt, math.MinInt + 1, math.MaxInt, math.MaxInt - 1}
	badCuts  = []int{-1, -2, -zoneSize, zoneSize + 1, wordMax, 1 << 32, -1 << 32, math.MinInt, math.MinInt + 1, math.MaxInt, math.MaxInt - 1}
	badKeeps = []int{-1, -2, -zoneSize, -1 << 32, math.MinInt, math.MinInt + 1}
)

// zoneWith returns a zone with n words, from first on, of which some last.
func zoneWith(n int, synced int, full bool, first int) impl.Zone {
	return impl.Zone{Words: counting(n, first), Synced: synced, Full: full}
}

// mixedDevice returns a device in which each zone is different from all others: some words last, all do, and none do.
func mixedDevice() []impl.Zone {
	return []impl.Zone{zoneWith(10, 4, false, 100), zoneWith(20, 20, true, 200), {}, zoneWith(30, 0, false, 300)}
}

// copied returns a device in memory of its own.
func copied(d []impl.Zone) []impl.Zone {
	c := slices.Clone(d)
	for z := range c {
		c[z].Words = slices.Clone(c[z].Words)
	}
	return c
}

// withZone returns a device in which one zone is another one.
func withZone(d []impl.Zone, z int, zone impl.Zone) []impl.Zone {
	c := copied(d)
	c[z] = zone
	return c
}

// sameZone reports whether two zones are equal, where one without words may have nil.
func sameZone(a, b impl.Zone) bool {
	return slices.Equal(a.Words, b.Words) && a.Synced == b.Synced && a.Full == b.Full
}

// sameDevice reports whether two devices are equal.
func sameDevice(a, b []impl.Zone) bool {
	return slices.EqualFunc(a, b, sameZone)
}

// someZones returns zones with all of the numbers of words that matter, of which none, all or some last, closed and open.
func someZones() []impl.Zone {
	list := []impl.Zone{{}, {Full: true}, {Words: []int{}}, {Words: []int{0}}, {Words: []int{wordMax}, Synced: 1}}
	for _, n := range []int{1, 2, 3, 31, zoneSize - 1, zoneSize} {
		for _, synced := range []int{0, 1, n / 2, n - 1, n} {
			list = append(list, zoneWith(n, synced, false, 10*n), zoneWith(n, synced, true, 20*n))
		}
	}
	least := impl.Zone{Words: make([]int, zoneSize), Synced: 5}
	largest := impl.Zone{Words: slices.Repeat([]int{wordMax}, zoneSize), Synced: zoneSize, Full: true}
	return append(list, least, largest)
}

// sharingDevice returns a device whose zones follow each other in one piece of memory, so that the words of a zone have those of
// the next one as their spare capacity.
func sharingDevice() []impl.Zone {
	memory := counting(60, 400)
	return []impl.Zone{
		{Words: memory[:10], Synced: 5},
		{Words: memory[10:20], Synced: 10},
		{Words: memory[20:20], Full: true},
		{Words: memory[20:35]},
	}
}

// validDevices returns devices that have each of someZones in each zone, and random ones.
func validDevices() [][]impl.Zone {
	list := [][]impl.Zone{make([]impl.Zone, zones), mixedDevice(), sharingDevice()}
	for _, zone := range someZones() {
		for z := range zones {
			list = append(list, withZone(mixedDevice(), z, zone))
		}
		list = append(list, slices.Repeat([]impl.Zone{zone}, zones))
	}
	r := rand.New(rand.NewPCG(15, 16))
	for range 50 {
		d := make([]impl.Zone, zones)
		for z := range d {
			words := make([]int, r.IntN(zoneSize+1))
			for i := range words {
				words[i] = r.IntN(wordMax + 1)
			}
			d[z] = impl.Zone{Words: words, Synced: r.IntN(len(words) + 1), Full: r.IntN(2) == 0}
		}
		list = append(list, d)
	}
	return list
}

// invalidZones returns zones of which just one rule does not hold.
func invalidZones() []impl.Zone {
	var list []impl.Zone
	for _, full := range []bool{false, true} {
		for _, n := range []int{zoneSize + 1, zoneSize + 2, 2 * zoneSize, wordMax} {
			list = append(list, zoneWith(n, 0, full, 0), zoneWith(n, zoneSize, full, 0), zoneWith(n, n, full, 0))
		}
		for _, n := range []int{0, 1, 10, zoneSize} {
			for _, synced := range []int{-1, -2, -n - 1, n + 1, n + 2, zoneSize + 1, 1 << 32, -1 << 32, math.MinInt, math.MinInt + 1, math.MaxInt - 1, math.MaxInt} {
				list = append(list, zoneWith(n, synced, full, 5))
			}
		}
		for _, bad := range badWords {
			for _, at := range []int{0, 4, 5, 9} {
				zone := zoneWith(10, 5, full, 5)
				zone.Words[at] = bad
				list = append(list, zone)
			}
			list = append(list, impl.Zone{Words: []int{bad}, Full: full}, impl.Zone{Words: append(counting(zoneSize-1, 0), bad), Full: full})
		}
	}
	return list
}

// invalidDevices returns devices with too few and too many zones, and ones with each of invalidZones in each zone.
func invalidDevices() [][]impl.Zone {
	list := [][]impl.Zone{nil, {}}
	for _, n := range []int{1, 2, zones - 1, zones + 1, zones + 2, 2 * zones, 1000} {
		list = append(list, make([]impl.Zone, n), slices.Repeat([]impl.Zone{zoneWith(3, 2, false, 5)}, n))
	}
	list = append(list, append(mixedDevice(), zoneWith(zoneSize, zoneSize, true, 0)), mixedDevice()[1:])
	for _, zone := range invalidZones() {
		for z := range zones {
			list = append(list, withZone(mixedDevice(), z, zone))
		}
	}
	return list
}

// wordsToAppend returns lists of words, all in range, of which some never have room.
func wordsToAppend() [][]int {
	return [][]int{nil, {}, {0}, {wordMax}, {1, 2, 3}, counting(zoneSize/2, 7), counting(zoneSize-1, 7), counting(zoneSize, 7), counting(zoneSize+1, 7), counting(wordMax+1, 0)}
}

// wordsOutOfRange returns lists of words, short ones and ones that never have room, of which just one is not in range.
func wordsOutOfRange() [][]int {
	var lists [][]int
	for _, bad := range badWords {
		lists = append(lists, []int{bad})
		for _, n := range []int{2, 10, zoneSize, zoneSize + 1, 1000} {
			for _, at := range []int{0, n / 2, n - 1} {
				words := counting(n, 1)
				words[at] = bad
				lists = append(lists, words)
			}
		}
	}
	return lists
}

// keepsFor returns how many words of each zone are kept by a crash: none, some, all, and more than there are.
func keepsFor(d []impl.Zone) [][]int {
	lists := [][]int{make([]int, zones), {1, 2, 3, 4}, {5, 0, 70, 1}, slices.Repeat([]int{zoneSize}, zones), {math.MaxInt, 0, math.MaxInt - 1, 1 << 32}, slices.Repeat([]int{math.MaxInt}, zones)}
	for _, more := range []int{-1, 0, 1} {
		keep := make([]int, zones)
		for z, zone := range d {
			keep[z] = max(0, len(zone.Words)-zone.Synced+more)
		}
		lists = append(lists, keep)
	}
	return lists
}

// wantDevice requires what a function returned. The function and its arguments are named by a format and by what goes into it.
func wantDevice(t *testing.T, got []impl.Zone, ok bool, want []impl.Zone, format string, args ...any) {
	t.Helper()
	if !ok || !sameDevice(got, want) {
		t.Fatalf("%s returned %v, %v; want %v, true", fmt.Sprintf(format, args...), got, ok, want)
	}
}

// wantNoDevice requires that a function failed, and returned no zones.
func wantNoDevice(t *testing.T, got []impl.Zone, ok bool, format string, args ...any) {
	t.Helper()
	if ok || len(got) != 0 {
		t.Fatalf("%s returned %v, %v; want nothing, false", fmt.Sprintf(format, args...), got, ok)
	}
}

// wantAppend requires the code and the device that DeviceAppend returns. The device is empty for zoneInvalid.
func wantAppend(t *testing.T, d []impl.Zone, z int, words []int, want []impl.Zone, code int) {
	t.Helper()
	got, n := impl.DeviceAppend(d, z, words)
	if n != code || !sameDevice(got, want) {
		t.Fatalf("DeviceAppend(%v, %d, %v) = %v, %d; want %v, %d", d, z, words, got, n, want, code)
	}
}

// wantCut requires what DeviceCut leaves of a zone.
func wantCut(t *testing.T, d []impl.Zone, z int, n int) {
	t.Helper()
	zone := impl.Zone{Words: d[z].Words[:n], Synced: min(n, d[z].Synced), Full: d[z].Full}
	got, ok := impl.DeviceCut(d, z, n)
	wantDevice(t, got, ok, withZone(d, z, zone), "DeviceCut(%v, %d, %d)", d, z, n)
}

// wantNoCut requires that DeviceCut fails.
func wantNoCut(t *testing.T, d []impl.Zone, z int, n int) {
	t.Helper()
	got, ok := impl.DeviceCut(d, z, n)
	wantNoDevice(t, got, ok, "DeviceCut(%v, %d, %d)", d, z, n)
}

// wantNoCrash requires that DeviceCrash fails.
func wantNoCrash(t *testing.T, d []impl.Zone, keep []int) {
	t.Helper()
	got, ok := impl.DeviceCrash(d, keep)
	wantNoDevice(t, got, ok, "DeviceCrash(%v, %v)", d, keep)
}

// crashed returns a device after a crash, word by word, apart from the program.
func crashed(d []impl.Zone, keep []int) []impl.Zone {
	after := make([]impl.Zone, len(d))
	for z, zone := range d {
		left := keep[z]
		for i, w := range zone.Words {
			if i >= zone.Synced && left == 0 {
				break
			}
			if i >= zone.Synced {
				left--
			}
			after[z].Words = append(after[z].Words, w)
		}
		after[z].Synced = len(after[z].Words)
		after[z].Full = zone.Full
	}
	return after
}

// synced returns a device in which all words last, apart from the program.
func synced(d []impl.Zone) []impl.Zone {
	after := copied(d)
	for z := range after {
		after[z].Synced = len(after[z].Words)
	}
	return after
}

func TestZoneConstants(t *testing.T) {
	got := []int{impl.Zones, impl.ZoneSize, impl.ZoneDone, impl.ZoneRoom, impl.ZoneInvalid}
	if want := []int{4, 64, 0, 1, 2}; !slices.Equal(got, want) {
		t.Errorf("the constants are %v; want %v", got, want)
	}
}

func TestDeviceValid(t *testing.T) {
	for _, d := range validDevices() {
		if !impl.DeviceValid(d) {
			t.Fatalf("DeviceValid(%v) = false", d)
		}
	}
	for _, d := range invalidDevices() {
		if impl.DeviceValid(d) {
			t.Fatalf("DeviceValid(%v) = true", d)
		}
	}
}

// Promise 35.
func TestDevicesWithoutOneZoneOrWithTooManyWordsThatLast(t *testing.T) {
	for _, d := range validDevices() {
		for z, zone := range d {
			if less := slices.Delete(slices.Clone(d), z, z+1); impl.DeviceValid(less) {
				t.Fatalf("DeviceValid(%v) = true, without zone %d", less, z)
			}
			for n := -1; n <= zoneSize+2; n++ {
				zone.Synced = n
				if got := impl.DeviceValid(withZone(d, z, zone)); got != (n >= 0 && n <= len(zone.Words)) {
					t.Fatalf("DeviceValid = %v, if %d of %d words last", got, n, len(zone.Words))
				}
			}
		}
	}
}

// The last words count, even if the words are as many as a zone can have.
func TestDeviceValidLooksAtEachWord(t *testing.T) {
	for z := range zones {
		for at := range zoneSize {
			for _, w := range append([]int{0, wordMax}, badWords...) {
				d := withZone(mixedDevice(), z, zoneWith(zoneSize, zoneSize/2, z == 1, 0))
				d[z].Words[at] = w
				if got := impl.DeviceValid(d); got != (w >= 0 && w <= wordMax) {
					t.Fatalf("DeviceValid = %v, with %d at %d of zone %d", got, w, at, z)
				}
			}
		}
	}
}

// General rules: what is returned for an invalid device, with arguments that are valid otherwise and with ones that are not.
func TestInvalidDevicesLeadToNothing(t *testing.T) {
	for _, d := range invalidDevices() {
		got, ok := impl.DeviceErase(d)
		wantNoDevice(t, got, ok, "DeviceErase(%v)", d)
		got, ok = impl.DeviceSync(d)
		wantNoDevice(t, got, ok, "DeviceSync(%v)", d)
		for _, z := range []int{0, 1, 2, 3, -1, zones, len(d) - 1, len(d)} {
			got, ok = impl.DeviceFinish(d, z)
			wantNoDevice(t, got, ok, "DeviceFinish(%v, %d)", d, z)
			got, ok = impl.DeviceReset(d, z)
			wantNoDevice(t, got, ok, "DeviceReset(%v, %d)", d, z)
			for _, n := range []int{-1, 0, 1, zoneSize, zoneSize + 1} {
				wantNoCut(t, d, z, n)
			}
			for _, words := range [][]int{nil, {1}, counting(zoneSize+1, 0), {-1}} {
				wantAppend(t, d, z, words, nil, zoneInvalid)
			}
		}
		for _, keep := range [][]int{nil, make([]int, zones), make([]int, len(d)), {1, 2, 3, 4}, {0, 0, 0, -1}} {
			wantNoCrash(t, d, keep)
		}
	}
}

// Promises 22 to 30: where there is no zone, and all else is valid.
func TestZonesThatAreNotThere(t *testing.T) {
	for _, d := range [][]impl.Zone{make([]impl.Zone, zones), mixedDevice(), slices.Repeat([]impl.Zone{zoneWith(zoneSize, zoneSize, true, 0)}, zones)} {
		for _, z := range badZones {
			got, ok := impl.DeviceFinish(d, z)
			wantNoDevice(t, got, ok, "DeviceFinish of %d", z)
			got, ok = impl.DeviceReset(d, z)
			wantNoDevice(t, got, ok, "DeviceReset of %d", z)
			for _, n := range []int{-1, 0, 1, zoneSize, zoneSize + 1} {
				wantNoCut(t, d, z, n)
			}
			for _, words := range append(wordsToAppend(), []int{-1}) {
				wantAppend(t, d, z, words, nil, zoneInvalid)
			}
		}
	}
}

// Promise 22.
func TestDeviceErase(t *testing.T) {
	for _, d := range validDevices() {
		got, ok := impl.DeviceErase(d)
		wantDevice(t, got, ok, make([]impl.Zone, zones), "DeviceErase(%v)", d)
	}
}

// Promises 23 and 24.
func TestDeviceAppend(t *testing.T) {
	codes := map[int]int{}
	for _, d := range validDevices() {
		for z, zone := range d {
			for _, words := range wordsToAppend() {
				want, code := copied(d), zoneRoom
				if n := len(zone.Words) + len(words); !zone.Full && n <= zoneSize {
					code = zoneDone
					want[z].Words = slices.Concat(zone.Words, words)
				}
				wantAppend(t, d, z, words, want, code)
				codes[code]++
			}
		}
	}
	if codes[zoneDone] < 1000 || codes[zoneRoom] < 1000 {
		t.Errorf("the codes were %v; want 1000 of both", codes)
	}
}

// Promise 24: for each number of words that a zone has, words that just fit, and one more.
func TestDeviceAppendUpToTheLimit(t *testing.T) {
	for n := range zoneSize + 1 {
		for z := range zones {
			open := withZone(mixedDevice(), z, zoneWith(n, n/2, false, 50))
			fit := counting(zoneSize-n, 900)
			want := copied(open)
			want[z].Words = append(counting(n, 50), fit...)
			wantAppend(t, open, z, fit, want, zoneDone)
			wantAppend(t, open, z, append(fit, 3), open, zoneRoom)
			wantAppend(t, open, z, nil, open, zoneDone)
			closed := withZone(open, z, zoneWith(n, n/2, true, 50))
			wantAppend(t, closed, z, fit, closed, zoneRoom)
			wantAppend(t, closed, z, append(fit, 3), closed, zoneRoom)
			wantAppend(t, closed, z, nil, closed, zoneRoom)
			wantAppend(t, closed, z, []int{}, closed, zoneRoom)
		}
	}
}

// Promise 24: words that are out of range come first, whether the zone is open, closed or full.
func TestDeviceAppendOfWordsOutOfRange(t *testing.T) {
	for _, words := range wordsOutOfRange() {
		for z := range zones {
			for _, n := range []int{0, 1, zoneSize - 1, zoneSize} {
				wantAppend(t, withZone(mixedDevice(), z, zoneWith(n, n, false, 0)), z, words, nil, zoneInvalid)
				wantAppend(t, withZone(mixedDevice(), z, zoneWith(n, 0, true, 0)), z, words, nil, zoneInvalid)
			}
		}
	}
}

// Promise 25.
func TestDeviceAppendInTwoParts(t *testing.T) {
	for _, d := range validDevices() {
		for z, zone := range d {
			words := counting(min(zoneSize-len(zone.Words), 12), 600)
			whole, code := impl.DeviceAppend(d, z, words)
			if zone.Full != (code == zoneRoom) {
				t.Fatalf("DeviceAppend(%v, %d, %v) returned %d", d, z, words, code)
			}
			for i := 0; code == zoneDone && i <= len(words); i++ {
				part, n := impl.DeviceAppend(d, z, words[:i])
				if n != zoneDone {
					t.Fatalf("DeviceAppend(%v, %d, %v) returned %d", d, z, words[:i], n)
				}
				wantAppend(t, part, z, words[i:], whole, zoneDone)
			}
		}
	}
}

// Promise 26.
func TestDeviceSync(t *testing.T) {
	for _, d := range validDevices() {
		got, ok := impl.DeviceSync(d)
		wantDevice(t, got, ok, synced(d), "DeviceSync(%v)", d)
	}
}

// Promise 27.
func TestDeviceFinish(t *testing.T) {
	for _, d := range validDevices() {
		for z, zone := range d {
			zone.Full = true
			want := withZone(d, z, zone)
			got, ok := impl.DeviceFinish(d, z)
			wantDevice(t, got, ok, want, "DeviceFinish(%v, %d)", d, z)
			wantAppend(t, got, z, []int{1}, want, zoneRoom)
			again, ok := impl.DeviceFinish(got, z)
			wantDevice(t, again, ok, want, "DeviceFinish(%v, %d)", got, z)
		}
	}
}

// Promise 28.
func TestDeviceReset(t *testing.T) {
	for _, d := range validDevices() {
		for z := range d {
			got, ok := impl.DeviceReset(d, z)
			wantDevice(t, got, ok, withZone(d, z, impl.Zone{}), "DeviceReset(%v, %d)", d, z)
			all := counting(zoneSize, 8)
			wantAppend(t, got, z, all, withZone(d, z, impl.Zone{Words: all}), zoneDone)
		}
	}
}

// Promise 29, and 30 for the numbers that a zone has.
func TestDeviceCut(t *testing.T) {
	for _, d := range validDevices() {
		for z, zone := range d {
			for n := range len(zone.Words) + 1 {
				wantCut(t, d, z, n)
			}
			got, ok := impl.DeviceCut(d, z, len(zone.Words))
			wantDevice(t, got, ok, d, "DeviceCut(%v, %d) to all words", d, z)
		}
	}
}

// Promise 29: ahead of, at and behind the words that last.
func TestDeviceCutOfWordsThatLast(t *testing.T) {
	d := withZone(mixedDevice(), 3, zoneWith(9, 5, true, 0))
	for n, lasting := range []int{0, 1, 2, 3, 4, 5, 5, 5, 5, 5} {
		got, ok := impl.DeviceCut(d, 3, n)
		wantDevice(t, got, ok, withZone(d, 3, zoneWith(n, lasting, true, 0)), "DeviceCut to %d of 9 words", n)
	}
}

// Promise 30.
func TestDeviceCutFailsForOtherNumbers(t *testing.T) {
	for _, d := range validDevices() {
		for z, zone := range d {
			for _, n := range badCuts {
				wantNoCut(t, d, z, n)
			}
			for n := len(zone.Words) + 1; n <= zoneSize+2; n++ {
				wantNoCut(t, d, z, n)
			}
		}
	}
}

// Words that were cut or reset do not come back.
func TestWordsThatWereRemovedAreGone(t *testing.T) {
	for z := range zones {
		d := withZone(mixedDevice(), z, zoneWith(zoneSize, zoneSize, false, 0))
		cut, _ := impl.DeviceCut(d, z, 3)
		wantAppend(t, cut, z, []int{8}, withZone(d, z, impl.Zone{Words: []int{0, 1, 2, 8}, Synced: 3}), zoneDone)
		reset, _ := impl.DeviceReset(d, z)
		wantAppend(t, reset, z, []int{8}, withZone(d, z, impl.Zone{Words: []int{8}}), zoneDone)
		wantNoCut(t, cut, z, 4)
		wantNoCut(t, reset, z, 1)
	}
}

// Promise 31.
func TestDeviceCrash(t *testing.T) {
	for _, d := range validDevices() {
		for _, keep := range keepsFor(d) {
			got, ok := impl.DeviceCrash(d, keep)
			wantDevice(t, got, ok, crashed(d, keep), "DeviceCrash(%v, %v)", d, keep)
		}
	}
}

// Promise 31: each zone has its own element of keep, of words that do not last only.
func TestDeviceCrashOfKnownWords(t *testing.T) {
	d := []impl.Zone{zoneWith(10, 4, false, 100), zoneWith(20, 20, true, 200), zoneWith(6, 5, true, 50), zoneWith(30, 0, false, 300)}
	for _, c := range []struct {
		keep []int
		many []int
	}{
		{[]int{0, 0, 0, 0}, []int{4, 20, 5, 0}},
		{[]int{1, 2, 0, 3}, []int{5, 20, 5, 3}},
		{[]int{5, 0, 1, 29}, []int{9, 20, 6, 29}},
		{[]int{6, 1, 2, 30}, []int{10, 20, 6, 30}},
		{[]int{7, 9, 9, 31}, []int{10, 20, 6, 30}},
		{[]int{math.MaxInt, math.MaxInt, math.MaxInt, math.MaxInt}, []int{10, 20, 6, 30}},
		{[]int{math.MaxInt - 4, math.MaxInt - 20, math.MaxInt - 5, math.MaxInt - 3}, []int{10, 20, 6, 30}},
	} {
		want := copied(d)
		for z, n := range c.many {
			want[z].Words, want[z].Synced = d[z].Words[:n], n
		}
		got, ok := impl.DeviceCrash(d, c.keep)
		wantDevice(t, got, ok, want, "DeviceCrash with %v", c.keep)
	}
}

// Promise 31: without one element for each zone, or with a negative one, there is no crash.
func TestDeviceCrashFails(t *testing.T) {
	for _, d := range [][]impl.Zone{make([]impl.Zone, zones), mixedDevice(), sharingDevice(), synced(mixedDevice())} {
		for _, n := range []int{0, 1, zones - 1, zones + 1, 2 * zones, 1000} {
			wantNoCrash(t, d, make([]int, n))
			wantNoCrash(t, d, slices.Repeat([]int{zoneSize}, n))
			wantNoCrash(t, d, slices.Repeat([]int{-1}, n))
		}
		wantNoCrash(t, d, nil)
		for z := range zones {
			for _, bad := range badKeeps {
				for _, others := range []int{0, 3, math.MaxInt} {
					keep := slices.Repeat([]int{others}, zones)
					keep[z] = bad
					wantNoCrash(t, d, keep)
				}
			}
		}
	}
}

// Promise 32.
func TestDeviceCrashThatKeepsAllOrNothing(t *testing.T) {
	for _, d := range validDevices() {
		got, ok := impl.DeviceCrash(d, slices.Repeat([]int{zoneSize}, zones))
		wantDevice(t, got, ok, synced(d), "DeviceCrash(%v) that keeps all", d)
		want := synced(d)
		for z, zone := range d {
			want[z].Words, want[z].Synced = zone.Words[:zone.Synced], zone.Synced
		}
		got, ok = impl.DeviceCrash(d, make([]int, zones))
		wantDevice(t, got, ok, want, "DeviceCrash(%v) that keeps nothing", d)
	}
}

// Promise 33.
func TestDeviceCrashAfterDeviceSync(t *testing.T) {
	for _, d := range validDevices() {
		lasting, _ := impl.DeviceSync(d)
		for _, keep := range keepsFor(d) {
			got, ok := impl.DeviceCrash(lasting, keep)
			wantDevice(t, got, ok, lasting, "DeviceCrash(%v, %v)", lasting, keep)
		}
	}
}

// Promise 34.
func TestDeviceCrashAfterACrash(t *testing.T) {
	for _, d := range validDevices() {
		for _, keep := range keepsFor(d) {
			first, _ := impl.DeviceCrash(d, keep)
			for _, other := range keepsFor(d) {
				got, ok := impl.DeviceCrash(first, other)
				wantDevice(t, got, ok, first, "DeviceCrash(%v, %v)", first, other)
			}
		}
	}
}

// A step is one call, its name, and whether it fails and what it makes of a device, apart from the program.
type step struct {
	name string
	got  []impl.Zone
	ok   bool
	want []impl.Zone
}

// randomStep calls one function with arguments that are valid, or nearly so.
func randomStep(r *rand.Rand, d []impl.Zone) step {
	z, want := r.IntN(zones), copied(d)
	zone := &want[z]
	switch r.IntN(6) {
	case 0:
		got, ok := impl.DeviceSync(d)
		return step{"DeviceSync", got, ok, synced(d)}
	case 1:
		zone.Full = true
		got, ok := impl.DeviceFinish(d, z)
		return step{"DeviceFinish", got, ok, want}
	case 2:
		*zone = impl.Zone{}
		got, ok := impl.DeviceReset(d, z)
		return step{"DeviceReset", got, ok, want}
	case 3:
		n := r.IntN(len(zone.Words) + 1)
		zone.Words, zone.Synced = zone.Words[:n], min(zone.Synced, n)
		got, ok := impl.DeviceCut(d, z, n)
		return step{"DeviceCut", got, ok, want}
	case 4:
		keep := []int{r.IntN(9), r.IntN(9), r.IntN(9), r.IntN(9)}
		got, ok := impl.DeviceCrash(d, keep)
		return step{"DeviceCrash", got, ok, crashed(d, keep)}
	}
	words := counting(r.IntN(30), r.IntN(1000))
	room := !zone.Full && len(zone.Words)+len(words) <= zoneSize
	if room {
		zone.Words = slices.Concat(zone.Words, words)
	}
	got, code := impl.DeviceAppend(d, z, words)
	return step{"DeviceAppend", got, code == zoneDone && room || code == zoneRoom && !room, want}
}

// Promises 23 to 34: whatever is done one after the other, each result is a valid device, and no earlier one changes.
func TestManyStepsOneAfterTheOther(t *testing.T) {
	r := rand.New(rand.NewPCG(17, 18))
	for range 200 {
		d := make([]impl.Zone, zones)
		for range 60 {
			before := copied(d)
			s := randomStep(r, d)
			wantDevice(t, s.got, s.ok, s.want, "%s of %v", s.name, before)
			if !impl.DeviceValid(s.got) || !sameDevice(d, before) {
				t.Fatalf("%s of %v returned %v, and left %v", s.name, before, s.got, d)
			}
			d = s.got
		}
	}
}

// deviceCalls returns all functions of the chapter that return a device, called with a device and a list, so that each one is
// done, refused, and fails.
func deviceCalls() map[string]func([]impl.Zone, []int) ([]impl.Zone, int) {
	code := func(d []impl.Zone, ok bool) ([]impl.Zone, int) {
		if ok {
			return d, zoneDone
		}
		return d, zoneInvalid
	}
	calls := map[string]func([]impl.Zone, []int) ([]impl.Zone, int){
		"DeviceErase": func(d []impl.Zone, _ []int) ([]impl.Zone, int) { return code(impl.DeviceErase(d)) },
		"DeviceSync":  func(d []impl.Zone, _ []int) ([]impl.Zone, int) { return code(impl.DeviceSync(d)) },
		"DeviceCrash": func(d []impl.Zone, list []int) ([]impl.Zone, int) { return code(impl.DeviceCrash(d, list)) },
	}
	for z := -1; z <= zones; z++ {
		calls[fmt.Sprintf("DeviceAppend to %d", z)] = func(d []impl.Zone, list []int) ([]impl.Zone, int) { return impl.DeviceAppend(d, z, list) }
		calls[fmt.Sprintf("DeviceFinish of %d", z)] = func(d []impl.Zone, _ []int) ([]impl.Zone, int) { return code(impl.DeviceFinish(d, z)) }
		calls[fmt.Sprintf("DeviceReset of %d", z)] = func(d []impl.Zone, _ []int) ([]impl.Zone, int) { return code(impl.DeviceReset(d, z)) }
		for _, n := range []int{-1, 0, 4, 10, zoneSize} {
			calls[fmt.Sprintf("DeviceCut of %d to %d", z, n)] = func(d []impl.Zone, _ []int) ([]impl.Zone, int) { return code(impl.DeviceCut(d, z, n)) }
		}
	}
	return calls
}

// spacious returns a copy of a device that has spare capacity, behind its zones and behind the words of each of them.
func spacious(d []impl.Zone) []impl.Zone {
	c := append(copied(d), impl.Zone{Synced: 88}, impl.Zone{Synced: 88, Full: true})
	for z := range d {
		c[z].Words = append(c[z].Words, counting(2*zoneSize, 55)...)[:len(d[z].Words)]
	}
	return c[:len(d)]
}

// allMemory returns a copy of a device and its spare capacity, that of its words included.
func allMemory(d []impl.Zone) []impl.Zone {
	c := slices.Clone(d[:cap(d)])
	for z := range c {
		c[z].Words = slices.Clone(c[z].Words[:cap(c[z].Words)])
	}
	return c
}

// scribble writes over all memory of a device.
func scribble(d []impl.Zone) {
	d = d[:cap(d)]
	for z := range d {
		fill(d[z].Words)
		d[z] = impl.Zone{Synced: 77, Full: !d[z].Full}
	}
}

// checkDeviceMemory requires that a call does not change its arguments, and that its results share no memory with these, with
// those of another call, or with each other.
func checkDeviceMemory(t *testing.T, name string, call func([]impl.Zone, []int) ([]impl.Zone, int), d []impl.Zone, list []int) {
	t.Helper()
	longList := append(slices.Clone(list), 44, 45)
	device, words := spacious(d), longList[:len(list)]
	keptDevice, keptWords := allMemory(device), slices.Clone(longList)
	unchanged := func() bool {
		return sameDevice(allMemory(device), keptDevice) && slices.Equal(longList, keptWords)
	}
	first, code := call(device, words)
	second, _ := call(device, words)
	keptFirst := copied(first)
	for z := range second {
		others := copied(second)
		fill(second[z].Words)
		others[z].Words = slices.Repeat([]int{77}, len(second[z].Words))
		if !sameDevice(second, others) {
			t.Fatalf("%s, for %v and %v: two zones of a result share memory", name, d, list)
		}
	}
	scribble(second)
	if !unchanged() || !sameDevice(first, keptFirst) {
		t.Fatalf("%s, for %v and %v: an argument was changed, or results share memory", name, d, list)
	}
	scribble(device)
	fill(longList)
	if !sameDevice(first, keptFirst) {
		t.Fatalf("%s, for %v and %v: a result shares memory with an argument", name, d, list)
	}
	// What a call returned for the same arguments does not depend on what was done before.
	if third, n := call(copied(d), slices.Clone(list)); n != code || !sameDevice(third, keptFirst) {
		t.Fatalf("%s, for %v and %v: a later call returned %v, %d; want %v, %d", name, d, list, third, n, keptFirst, code)
	}
}

// General rules: arguments, valid or not, are not changed, and results share no memory, also if a device is returned unchanged.
func TestZonesKeepArgumentsAndShareNoMemory(t *testing.T) {
	devices := [][]impl.Zone{nil, make([]impl.Zone, zones-1), make([]impl.Zone, zones+1), withZone(mixedDevice(), 0, zoneWith(3, 4, false, 0))}
	devices = append(devices, validDevices()...)
	lists := [][]int{nil, {1, 2, 3, 4}, {0, 0, 0, 0}, {zoneSize, zoneSize, zoneSize, zoneSize}, {5, -1, 5, 5}, counting(zoneSize+1, 0)}
	for name, call := range deviceCalls() {
		for _, d := range devices {
			for _, list := range lists {
				checkDeviceMemory(t, name, call, d, list)
			}
		}
	}
}

// General rules: the same memory may be in several arguments, or in several zones, and the spare capacity of one zone may be
// another zone.
func TestZonesThatShareMemoryInTheArguments(t *testing.T) {
	for name, call := range deviceCalls() {
		for _, n := range []int{0, 4, 5, 40} {
			apart, sharing := sharingDevice(), sharingDevice()
			list := sharing[0].Words[3 : 3+n]
			want, code := call(copied(apart), slices.Clone(list))
			got, again := call(sharing, list)
			if again != code || !sameDevice(got, want) || !sameDevice(sharing, apart) {
				t.Fatalf("%s returned %v, %d, and left %v; want %v, %d, and %v", name, got, again, sharing, want, code, apart)
			}
			scribble(got)
			if !sameDevice(sharing, apart) {
				t.Fatalf("%s left %v; want %v", name, sharing, apart)
			}
		}
	}
}

// General rules: nil and empty slices are equivalent, as arguments.
func TestZonesWithNilAndEmptyWords(t *testing.T) {
	empty := slices.Repeat([]impl.Zone{{Words: []int{}}}, zones)
	for name, call := range deviceCalls() {
		for _, list := range [][]int{{}, {1, 1, 1, 1}} {
			want, code := call(make([]impl.Zone, zones), list)
			got, again := call(empty, list)
			if again != code || !sameDevice(got, want) {
				t.Fatalf("%s returned %v, %d; want %v, %d", name, got, again, want, code)
			}
		}
	}
}

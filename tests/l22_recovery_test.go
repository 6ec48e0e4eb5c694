package tests

import (
	"fmt"
	"math"
	"math/rand/v2"
	"runtime"
	"slices"
	"sync"
	"testing"

	"loop.example/tiervolume/impl"
)

// A kit is what a volume is opened from: a device and a store.
type kit struct {
	d []impl.Zone
	s []impl.Object
}

// kitOf returns the device and the store of a volume, in memory of their own.
func kitOf(v impl.Volume) kit {
	return kit{copied(v.Dev), copiedStore(v.Store)}
}

// onlyFrames returns a device with no words but those of its frames, and all of these last, apart from the program.
func onlyFrames(d []impl.Zone) []impl.Zone {
	c := copied(d)
	for z := range c {
		_, n := foundIn(c[z].Words, z)
		c[z].Words, c[z].Synced = c[z].Words[:n], n
	}
	return c
}

// currentOn returns the current zone of a volume on a device that has only frames, or -1 if there is none, apart from the program.
func currentOn(d []impl.Zone) int {
	if list := foundOn(d); len(list) > 0 {
		if last := list[len(list)-1].Zone; !d[last].Full {
			return last
		}
	}
	for z, zone := range d {
		if len(zone.Words) == 0 {
			return z
		}
	}
	return -1
}

// refusals returns all that keeps a device and a store from being opened, apart from the program. If one of them is invalid, it
// tells only this.
func refusals(k kit) []string {
	if !impl.DeviceValid(k.d) {
		return []string{"device"}
	}
	if !impl.StoreValid(k.s) {
		return []string{"store"}
	}
	var list []string
	m, ok := mapBy(foundOn(k.d))
	if !ok {
		list = append(list, "map")
	}
	if !follow(k.d) {
		list = append(list, "follow")
	}
	if lacksValue(m, k.s) {
		list = append(list, "value")
	}
	if currentOn(onlyFrames(k.d)) < 0 {
		list = append(list, "current")
	}
	return list
}

// idsOn returns the objects of a map, each as often as it is told, apart from the program.
func idsOn(m []impl.Where) []int {
	var ids []int
	for _, w := range m {
		if w.Tier == tierCold {
			ids = append(ids, w.Id)
		}
	}
	return ids
}

// marked returns a volume all of whose zones are open or closed as the current zone requires.
func marked(v impl.Volume) impl.Volume {
	c := copiedVolume(v)
	for z := range c.Dev {
		c.Dev[z].Full = z != c.Zone && len(c.Dev[z].Words) > 0
	}
	return c
}

// afterOpen returns what VolumeOpen returns, apart from the program.
func afterOpen(k kit) (impl.Volume, int) {
	if len(refusals(k)) > 0 {
		return impl.Volume{}, volInvalid
	}
	v := mapped(impl.Volume{Dev: onlyFrames(k.d), Heat: make([]int, blocks)})
	v.Zone, v.Store = currentOn(v.Dev), remaining(k.s, idsOn(v.Map))
	return marked(v), volDone
}

// afterCrash returns what VolumeCrash returns of a valid volume and as many numbers as there are zones, apart from the program.
func afterCrash(v impl.Volume, keep []int) (impl.Volume, int) {
	return afterOpen(kit{crashed(v.Dev, keep), v.Store})
}

// keeping returns how many words of each zone are kept by a crash, if all zones but one lose what does not last.
func keeping(z int, many int) []int {
	return withNumber(make([]int, zones), z, many)
}

// unsynced returns how many words of a zone do not last.
func unsynced(zone impl.Zone) int {
	return len(zone.Words) - zone.Synced
}

// disturbed returns a device whose zones were closed or opened, with other numbers of words that last, with words that are no
// frames behind those of frames, or instead of them, and with zones that have lost their words, or have other ones.
func disturbed(r *rand.Rand, d []impl.Zone, others [][]int) []impl.Zone {
	c := copied(d)
	for z := range c {
		zone := &c[z]
		if r.IntN(12) == 0 {
			zone.Words = nil
		} else if len(zone.Words) == 0 && r.IntN(3) == 0 {
			zone.Words = laidOut(valueFrame(1+r.IntN(60), r.IntN(blocks), r.IntN(valueMax)))
		}
		if words := others[r.IntN(len(others))]; r.IntN(3) == 0 && len(zone.Words)+len(words) <= zoneSize {
			zone.Words = slices.Concat(zone.Words, words)
		}
		if r.IntN(3) == 0 {
			zone.Full = !zone.Full
		}
		zone.Synced = r.IntN(len(zone.Words) + 1)
	}
	return c
}

// someKits returns devices and stores: of volumes as they are, after a crash, and disturbed. Some of them cannot be opened.
func someKits() []kit {
	var list []kit
	others := append(noFrames(), []int{0, 1, 900, 2, 6, 6, 0}, slices.Concat([]int{0}, laidOut(valueFrame(900, 6, 6))))
	r := rand.New(rand.NewPCG(71, 72))
	for _, v := range someVolumes() {
		keep := []int{r.IntN(30), r.IntN(30), r.IntN(30), r.IntN(30)}
		list = append(list, kitOf(v), kit{crashed(v.Dev, keep), v.Store})
		for range 4 {
			list = append(list, kit{disturbed(r, v.Dev, others), v.Store})
		}
	}
	return list
}

// A refused kit is one that cannot be opened, for just one reason.
type refused struct {
	why string
	kit
}

// refusedParts returns invalid devices and invalid stores.
func refusedParts() []refused {
	var list []refused
	known := knownVolume()
	for _, d := range invalidDevices() {
		list = append(list, refused{"device", kit{d, nil}})
	}
	for _, words := range []int{-1, 22, math.MaxInt, math.MinInt} {
		v := edited(known, func(v *impl.Volume) { v.Dev[1].Synced = words })
		list = append(list, refused{"device", kitOf(v)})
	}
	list = append(list, refused{"device", kit{known.Dev[:zones-1], known.Store}})
	list = append(list, refused{"device", kit{append(copied(known.Dev), impl.Zone{}), known.Store}})
	for _, s := range invalidStores() {
		list = append(list, refused{"store", kit{make([]impl.Zone, zones), s}})
	}
	list = append(list, refused{"store", kit{known.Dev, append(copiedStore(known.Store), known.Store[2])}})
	for i := range known.Store {
		list = append(list, refused{"store", kit{known.Dev, withObject(known.Store, i, impl.Object{Id: known.Store[i].Id})}})
	}
	return list
}

// refusedMaps returns devices whose frames tell no map: with a body of no kind, or of the other one, and with equal numbers.
func refusedMaps() []refused {
	var list []refused
	bad := []impl.Frame{shortFrame(30), numbered(30, hotFrame(pairsFrom(0, 1, valueMax+1)...)), numbered(30, hotFrame(make([]impl.Pair, 2)...)), {Kind: kindCold, Seq: 30, Body: []int{7, 4}}, {Kind: kindCold, Seq: 30, Body: []int{7, 4, packMax}}}
	for _, f := range bad {
		for z := range zones {
			list = append(list, refused{"map", kit{withZone(make([]impl.Zone, zones), z, impl.Zone{Words: laidOut(f)}), nil}})
		}
		v := edited(knownVolume(), func(v *impl.Volume) { put(v, 1, laidOut(f)...) })
		list = append(list, refused{"map", kitOf(v)})
	}
	for _, d := range [][]impl.Zone{
		deviceOf(laidOut(valueFrame(5, 1, 2), valueFrame(5, 2, 3))),
		deviceOf(laidOut(valueFrame(5, 1, 2)), laidOut(valueFrame(5, 2, 3))),
		deviceOf(laidOut(valueFrame(4, 1, 2), valueFrame(5, 1, 2)), nil, nil, laidOut(valueFrame(5, 1, 2), valueFrame(6, 1, 2))),
	} {
		list = append(list, refused{"map", kit{d, nil}})
	}
	return list
}

// refusedLogs returns devices with a zone whose frames do not follow each other: those of another one are between them, or they
// are not in the order that they have in the zone, so that a crash could remove another one than the last.
func refusedLogs() []refused {
	frame := func(seq int) impl.Frame { return valueFrame(seq, seq%5, seq) }
	var list []refused
	for _, d := range [][]impl.Zone{
		deviceOf(laidOut(frame(1), frame(3)), laidOut(frame(2), frame(4))),
		deviceOf(laidOut(frame(1), frame(3)), laidOut(frame(2))),
		deviceOf(laidOut(frame(7)), laidOut(frame(1), frame(3)), laidOut(frame(2))),
		deviceOf(nil, laidOut(frame(1), frame(9)), laidOut(frame(5)), laidOut(frame(7))),
		deviceOf(laidOut(frame(6)), laidOut(frame(1), frame(2), frame(4)), laidOut(frame(3))),
		deviceOf(laidOut(frame(2), frame(1))),
		deviceOf(laidOut(frame(1), frame(3), frame(2)), laidOut(frame(4), frame(5))),
		deviceOf(nil, nil, nil, laidOut(frame(30), frame(20))),
	} {
		closed := synced(d)
		for z := range closed {
			closed[z].Full = true
		}
		// Whether the zones are closed, and how many words last, does not matter.
		list = append(list, refused{"follow", kit{d, nil}}, refused{"follow", kit{closed, objectsFrom(objectMax, 1, 1)}})
	}
	return list
}

// refusedStores returns devices with a cold block whose object is missing, or too short.
func refusedStores() []refused {
	var list []refused
	d := volumeOn(0, nil, []impl.Frame{places(1, 7, 0, 2, 4, 6, 8, 10)}).Dev
	for n := 1; n < packMax; n++ {
		list = append(list, refused{"value", kit{d, []impl.Object{{Id: 7, Values: counting(n, 1)}}}})
	}
	list = append(list, refused{"value", kit{d, nil}}, refused{"value", kit{d, objectsFrom(objectMax, 1, 1)}}, refused{"value", kit{d, objectsFrom(objectMax, 8, 1)}})
	for _, b := range brokenStores() {
		list = append(list, refused{"value", kitOf(b.v)})
	}
	return list
}

// refusedZones returns devices without a current zone: all zones have frames, and that of the last one is closed.
func refusedZones() []refused {
	var list []refused
	for last := range zones {
		logs := make([][]impl.Frame, zones)
		for i := range zones {
			logs[(last+1+i)%zones] = []impl.Frame{valueFrame(1+i, i, 7)}
		}
		for marks := range 1 << zones {
			v := volumeOn(last, nil, logs...)
			for z := range v.Dev {
				v.Dev[z].Full = z == last || marks>>z&1 == 1
			}
			list = append(list, refused{"current", kitOf(v)})
			// Words behind the frames do not matter.
			v.Dev[last].Words = append(v.Dev[last].Words, 1, 2, 3)
			list = append(list, refused{"current", kitOf(v)})
		}
	}
	return list
}

// refusedKits returns what cannot be opened.
func refusedKits() []refused {
	return slices.Concat(refusedParts(), refusedMaps(), refusedLogs(), refusedStores(), refusedZones())
}

// fewRefused returns some of the kits that cannot be opened, at least three for each reason.
func fewRefused() []kit {
	var list []kit
	seen := map[string]int{}
	for _, x := range refusedKits() {
		if seen[x.why]++; seen[x.why] <= 3 || seen[x.why]%50 == 0 {
			list = append(list, x.kit)
		}
	}
	return list
}

// wantOpen requires what VolumeOpen returns.
func wantOpen(t *testing.T, k kit, want impl.Volume, code int) {
	t.Helper()
	got, n := impl.VolumeOpen(k.d, k.s)
	wantVolume(t, got, n, want, code, "VolumeOpen(%v, %v)", k.d, k.s)
}

// wantCrash requires what VolumeCrash returns of a valid volume, and returns it.
func wantCrash(t *testing.T, v impl.Volume, keep []int) (impl.Volume, int) {
	t.Helper()
	want, wantCode := afterCrash(v, keep)
	got, code := impl.VolumeCrash(v, keep)
	wantVolume(t, got, code, want, wantCode, "VolumeCrash(%v, %v)", v, keep)
	return got, code
}

// wantNoVolumeCrash requires that VolumeCrash returns the zero value and VolInvalid.
func wantNoVolumeCrash(t *testing.T, v impl.Volume, keep []int) {
	t.Helper()
	got, code := impl.VolumeCrash(v, keep)
	wantVolume(t, got, code, impl.Volume{}, volInvalid, "VolumeCrash(%v, %v)", v, keep)
}

// wantLost requires what VolumeLost returns.
func wantLost(t *testing.T, v impl.Volume, want int) {
	t.Helper()
	if n := impl.VolumeLost(v); n != want {
		t.Fatalf("VolumeLost(%v) = %d; want %d", v, n, want)
	}
}

// The kits of these tests are what they are meant to be.
func TestKitsOfTheTests(t *testing.T) {
	seen := map[string]int{}
	for _, x := range refusedKits() {
		if list := refusals(x.kit); len(list) != 1 || list[0] != x.why {
			t.Fatalf("%v, %v is refused for %v; want only %q", x.d, x.s, list, x.why)
		}
		seen[x.why]++
	}
	if len(seen) != 6 {
		t.Errorf("the reasons are %v; want six", seen)
	}
}

func TestVolumeOpenOfAKnownVolume(t *testing.T) {
	v := knownVolume()
	want := edited(v, func(v *impl.Volume) {
		v.Dev[1].Synced = 21
		v.Store = []impl.Object{{Id: 4, Values: []int{6, 7, 21}}, {Id: 800, Values: []int{99}}}
		v.Heat = make([]int, blocks)
	})
	wantOpen(t, kitOf(v), want, volDone)
	// If the zone of the last frame is closed, it stays so, and the only zone without words is the current one.
	v.Dev[1].Full = true
	want.Dev[1].Full, want.Zone = true, 3
	wantOpen(t, kitOf(v), want, volDone)
	// Also if this one was closed.
	v.Dev[3].Full = true
	wantOpen(t, kitOf(v), want, volDone)
}

// Promises 107 to 111: all that VolumeOpen returns.
func TestVolumeOpen(t *testing.T) {
	codes, reasons := map[int]int{}, map[string]int{}
	for _, k := range someKits() {
		want, code := afterOpen(k)
		wantOpen(t, k, want, code)
		codes[code]++
		for _, why := range refusals(k) {
			reasons[why]++
		}
	}
	if codes[volDone] < 1000 || codes[volInvalid] < 100 {
		t.Errorf("the codes were %v; want at least 1000 times done, and 100 times invalid", codes)
	}
	for _, why := range []string{"map", "follow", "value", "current"} {
		if reasons[why] < 20 {
			t.Errorf("%q was a reason %d times; want at least 20", why, reasons[why])
		}
	}
}

// Each reason to refuse a device and a store, alone.
func TestVolumeOpenFails(t *testing.T) {
	for _, x := range refusedKits() {
		wantOpen(t, x.kit, impl.Volume{}, volInvalid)
	}
}

// A device without words, with any zones closed, has no current zone of its own, and no objects are kept.
func TestVolumeOpenOfDevicesWithoutWords(t *testing.T) {
	for marks := range 1 << zones {
		for _, s := range [][]impl.Object{nil, {{Id: 1, Values: []int{5}}}, objectsFrom(objectMax, 990, 1)} {
			d := make([]impl.Zone, zones)
			for z := range d {
				d[z].Full = marks>>z&1 == 1
			}
			wantOpen(t, kit{d, s}, blankVolume(), volDone)
			if v, _ := impl.VolumeOpen(d, s); v.Seq != 1 || v.Zone != 0 {
				t.Fatalf("VolumeOpen(%v, %v) = %v", d, s, v)
			}
		}
	}
}

// All words of zones are removed if they begin with no frame, in each choice of zones. What is behind them is not found.
func TestVolumeOpenOfDevicesWithoutFrames(t *testing.T) {
	frame := laidOut(valueFrame(7, 3, 4))
	for _, words := range [][]int{{0}, {1, 2, 3}, counting(zoneSize, 100), frame[:5], slices.Concat([]int{0}, frame), slices.Concat(frame[:5], frame)} {
		for with := range 1 << zones {
			for _, full := range []bool{false, true} {
				d := make([]impl.Zone, zones)
				for z := range d {
					if with>>z&1 == 1 {
						d[z] = impl.Zone{Words: words, Synced: len(words) / 2, Full: full}
					}
				}
				wantOpen(t, kit{d, nil}, blankVolume(), volDone)
			}
		}
	}
}

// Words behind those of frames are removed, in the current zone, in others, and in all at once, whether they last or not.
func TestVolumeOpenRemovesWordsBehindFrames(t *testing.T) {
	want, _ := afterOpen(kitOf(knownVolume()))
	frame := laidOut(valueFrame(900, 6, 6))
	tails := append(noFrames(), slices.Concat([]int{0}, frame), slices.Concat(frame[:5], frame), slices.Concat([]int{1, 22}, frame))
	for _, tail := range tails {
		for with := range 1 << zones {
			k := kitOf(knownVolume())
			for z := range k.d {
				if zone := &k.d[z]; with>>z&1 == 1 && len(zone.Words)+len(tail) <= zoneSize {
					zone.Words = append(zone.Words, tail...)
					zone.Synced = len(zone.Words) * (with % 2)
				}
			}
			wantOpen(t, k, want, volDone)
		}
	}
}

// A zone with frames ahead of each beginning of another one: only a whole frame is kept.
func TestVolumeOpenOfEachBeginningOfAFrame(t *testing.T) {
	ahead, f := []impl.Frame{valueFrame(1, 2, 3), valueFrame(2, 3, 4)}, numbered(3, hotFrame(pairsFrom(2, 3, 9)...))
	without, with := volumeOn(2, nil, nil, nil, ahead), volumeOn(2, nil, nil, nil, append(slices.Clone(ahead), f))
	words := laidOut(append(slices.Clone(ahead), f)...)
	for n := 12; n <= len(words); n++ {
		want := without
		if n == len(words) {
			want = with
		}
		want = edited(want, func(v *impl.Volume) { v.Dev = synced(v.Dev) })
		wantOpen(t, kit{deviceOf(nil, nil, words[:n]), nil}, want, volDone)
	}
}

// Which zone is the current one, and which are closed: for each zone of the last frame, each choice of other zones with frames,
// and all ways to close zones, those without words included.
func TestVolumeOpenChoosesTheCurrentZone(t *testing.T) {
	seen := map[string]int{}
	for last := range zones {
		for _, others := range otherZones(last) {
			for marks := range 1 << zones {
				v := crowdedVolume(last, 6, others, 30)
				empty := freeZones(v)
				for z := range v.Dev {
					v.Dev[z].Full = marks>>z&1 == 1
				}
				closed := v.Dev[last].Full
				if closed && len(empty) == 0 {
					wantOpen(t, kitOf(v), impl.Volume{}, volInvalid)
					seen["none"]++
					continue
				}
				want := edited(v, func(v *impl.Volume) { v.Dev, v.Store = synced(v.Dev), nil })
				if closed {
					want.Zone = empty[0]
				}
				wantOpen(t, kitOf(v), marked(want), volDone)
				seen[fmt.Sprint(closed, len(empty))]++
			}
		}
	}
	// Open and closed with each number of zones without words: 8 of 16 marks, for 4 zones, and 1 or 3 choices of others.
	for kind, many := range map[string]int{"none": 32, "false 0": 32, "false 1": 96, "false 2": 96, "false 3": 32, "true 1": 96, "true 2": 96, "true 3": 32} {
		if seen[kind] != many {
			t.Errorf("%s was seen %d times; want %d", kind, seen[kind], many)
		}
	}
}

// A zone that is full, but not closed, stays the current one.
func TestVolumeOpenOfFullZones(t *testing.T) {
	for last := range zones {
		for _, others := range otherZones(last) {
			v := crowdedVolume(last, zoneSize, others, 30)
			if got, code := impl.VolumeOpen(v.Dev, v.Store); code != volDone || got.Zone != last || len(got.Dev[last].Words) != zoneSize {
				t.Fatalf("VolumeOpen(%v, %v) = %v, %d", v.Dev, v.Store, got, code)
			}
		}
	}
}

// All words last, however many did.
func TestVolumeOpenMakesAllWordsLast(t *testing.T) {
	want, _ := afterOpen(kitOf(knownVolume()))
	for z, zone := range knownVolume().Dev {
		for last := range len(zone.Words) + 1 {
			k := kitOf(knownVolume())
			k.d[z].Synced = last
			wantOpen(t, k, want, volDone)
		}
	}
	k := kitOf(knownVolume())
	for z := range k.d {
		k.d[z].Synced = 0
	}
	wantOpen(t, k, want, volDone)
}

// Promise 110: objects that no block needs are gone, at any place of the store; also those that a block needed once. Objects
// that several blocks need are there once.
func TestVolumeOpenKeepsTheObjectsOfTheMap(t *testing.T) {
	s := objectsFrom(objectMax, 10, 10)
	for needed := range 1 << objectMax {
		var frames []impl.Frame
		for i, o := range s {
			frames = append(frames, places(2*i+1, o.Id, i))
			if needed>>i&1 == 0 {
				frames = append(frames, valueFrame(2*i+2, i, 5*(i%2)))
			}
		}
		// All of them together have too many words for one zone.
		v := volumeOn(0, s, frames[5:], nil, nil, frames[:5])
		var ids []int
		for i, o := range s {
			if needed>>i&1 == 1 {
				ids = append(ids, o.Id)
			}
		}
		got, code := impl.VolumeOpen(v.Dev, s)
		if code != volDone || !sameStore(got.Store, remaining(s, ids)) {
			t.Fatalf("VolumeOpen(%v, %v) = %v, %d; want the objects %v", v.Dev, s, got, code, ids)
		}
	}
	d := volumeOn(0, nil, []impl.Frame{places(1, 30, 1, 2, 3), places(2, 30, 5), places(3, 40, 7, 8)}).Dev
	got, code := impl.VolumeOpen(d, s)
	if code != volDone || !sameStore(got.Store, s[2:4]) {
		t.Errorf("VolumeOpen(%v, %v) = %v, %d", d, s, got, code)
	}
}

// The number behind that of the last frame, which need not be in the first zone; and 1 without frames.
func TestVolumeOpenNumbersFrames(t *testing.T) {
	for _, last := range []int{1, 2, 9, 500, seqMax - 1, seqMax} {
		for z := range zones {
			logs := make([][]impl.Frame, zones)
			logs[z] = []impl.Frame{valueFrame(last, 1, 5)}
			v, code := impl.VolumeOpen(volumeOn(z, nil, logs...).Dev, nil)
			if code != volDone || v.Seq != last+1 || !impl.VolumeValid(v) {
				t.Fatalf("VolumeOpen of a frame with the number %d returned %v, %d", last, v, code)
			}
			if last > 1 {
				logs[(z+1)%zones] = []impl.Frame{valueFrame(last-1, 1, 6)}
				v, code = impl.VolumeOpen(volumeOn(z, nil, logs...).Dev, nil)
				if code != volDone || v.Seq != last+1 || v.Zone != z {
					t.Fatalf("VolumeOpen of a frame with the number %d returned %v, %d", last, v, code)
				}
			}
		}
	}
	// With the last number used, nothing more can be written.
	v, _ := impl.VolumeOpen(crowdedVolume(1, 20, nil, seqMax).Dev, nil)
	if _, code := impl.VolumeWrite(v, pairsFrom(1, 1, 1)); v.Seq != seqMax+1 || code != volFull {
		t.Errorf("the next number is %d, and VolumeWrite returned %d", v.Seq, code)
	}
}

// everyOpen calls with devices and stores that can be opened, and with their volumes.
func everyOpen(call func(k kit, v impl.Volume)) {
	for _, k := range someKits() {
		if v, code := impl.VolumeOpen(k.d, k.s); code == volDone {
			call(k, v)
		}
	}
}

// Promise 107.
func TestVolumeOpenReturnsValidVolumes(t *testing.T) {
	everyOpen(func(k kit, v impl.Volume) {
		if rules := brokenRules(v); len(rules) > 0 || !impl.VolumeValid(v) {
			t.Fatalf("VolumeOpen(%v, %v) = %v, which breaks %v", k.d, k.s, v, rules)
		}
		wantLost(t, v, 0)
		wantList(t, v.Heat, make([]int, blocks), "the heat of VolumeOpen(%v, %v)", k.d, k.s)
	})
}

// Promise 108.
func TestVolumeOpenOfVolumes(t *testing.T) {
	for _, v := range someVolumes() {
		got, code := impl.VolumeOpen(v.Dev, v.Store)
		if code != volDone {
			t.Fatalf("VolumeOpen of %v returned %d", v, code)
		}
		wantList(t, impl.VolumeAll(got), impl.VolumeAll(v), "VolumeAll after VolumeOpen of %v", v)
		wantList(t, impl.VolumeAll(got), valuesOn(v), "VolumeAll after VolumeOpen of %v", v)
	}
}

// Promise 109.
func TestVolumeOpenOfWhatWasOpened(t *testing.T) {
	everyOpen(func(_ kit, v impl.Volume) {
		wantOpen(t, kitOf(v), v, volDone)
	})
}

// Promise 110.
func TestVolumeOpenHasTheObjectsOfTheMap(t *testing.T) {
	everyOpen(func(k kit, v impl.Volume) {
		wantList(t, numbers(v.Store), impl.MapIds(v.Map), "the objects of VolumeOpen(%v, %v)", k.d, k.s)
		for _, o := range v.Store {
			if !slices.ContainsFunc(k.s, func(other impl.Object) bool { return sameObject(o, other) }) {
				t.Fatalf("VolumeOpen(%v, %v) has the object %v", k.d, k.s, o)
			}
		}
	})
}

// Promise 111.
func TestVolumeOpenHasTheSameFrames(t *testing.T) {
	everyOpen(func(k kit, v impl.Volume) {
		if got, want := impl.ScanDevice(v.Dev), impl.ScanDevice(k.d); !sameFounds(got, want) {
			t.Fatalf("ScanDevice after VolumeOpen(%v, %v) is %v; want %v", k.d, k.s, got, want)
		}
	})
}

// The frames of the current zone of the known volume have 8, 6 and 7 words. What is left of them tells the values, the objects
// and the number; without the first one, the zone has lost all words, and is the current one because zone 0 is closed.
func TestVolumeCrashOfAKnownVolume(t *testing.T) {
	ends := []int{0, 8, 14, 21}
	values := [][]int{
		{5, 6, 7, 8, 9, 0, 0, 0, 0, 0, 0, 0},
		{50, 6, 7, 8, 0, 0, 0, 0, 0, 0, 0, 0},
		{50, 6, 7, 8, 0, 99, 0, 0, 0, 0, 0, 0},
		{50, 6, 7, 8, 0, 99, 0, 0, 0, 0, 0, 99},
	}
	seqs, ids := []int{11, 12, 21, 22}, [][]int{{4}, {4}, {4}, {4, 800}}
	for last := range 22 {
		v := edited(knownVolume(), func(v *impl.Volume) { v.Dev[1].Synced = last })
		for more := range 25 {
			n := 0
			for n < 3 && last+more >= ends[n+1] {
				n++
			}
			got, code := wantCrash(t, v, keeping(1, more))
			if code != volDone || got.Zone != 1 || got.Seq != seqs[n] || len(got.Dev[1].Words) != ends[n] {
				t.Fatalf("VolumeCrash(%v) with %d words = %v, %d", v, more, got, code)
			}
			wantList(t, impl.VolumeAll(got), values[n], "VolumeAll after VolumeCrash(%v) with %d words", v, more)
			wantList(t, numbers(got.Store), ids[n], "the objects after VolumeCrash(%v) with %d words", v, more)
		}
	}
}

// Only the element of keep for the current zone matters, as all other words last.
func TestVolumeCrashLooksAtTheCurrentZone(t *testing.T) {
	for current := range zones {
		for _, others := range otherZones(current) {
			v := crowdedVolume(current, 26, others, 30)
			for _, many := range []int{0, 3, 6, 12, 13} {
				want, code := wantCrash(t, v, keeping(current, many))
				for _, more := range []int{1, 5, zoneSize, math.MaxInt} {
					keep := withNumber(slices.Repeat([]int{more}, zones), current, many)
					got, n := impl.VolumeCrash(v, keep)
					wantVolume(t, got, n, want, code, "VolumeCrash(%v, %v)", v, keep)
				}
			}
		}
	}
}

// keptWords returns numbers of words to keep of each zone: each number from 0 to more than the current zone has, and others.
func keptWords(v impl.Volume) [][]int {
	lists := keepsFor(v.Dev)
	for many := range unsynced(v.Dev[v.Zone]) + 3 {
		lists = append(lists, keeping(v.Zone, many))
	}
	return lists
}

// everyCrash calls with volumes, how many words are kept, and what VolumeCrash returns.
func everyCrash(call func(v impl.Volume, keep []int, after impl.Volume, code int)) {
	for i, v := range someVolumes() {
		for j, keep := range keptWords(v) {
			if (i+j)%3 == 0 {
				after, code := impl.VolumeCrash(v, keep)
				call(v, keep, after, code)
			}
		}
	}
}

// Promises 112 to 115: all that VolumeCrash returns.
func TestVolumeCrash(t *testing.T) {
	seen := map[int]int{}
	for _, v := range someVolumes() {
		for _, keep := range keptWords(v) {
			_, code := wantCrash(t, v, keep)
			seen[code]++
		}
	}
	if seen[volDone] < 4000 || len(seen) > 2 {
		t.Errorf("the codes were %v; want at least 4000 times done", seen)
	}
}

// Promise 107 for what VolumeCrash returns, and what is left of each zone.
func TestVolumeCrashReturnsValidVolumes(t *testing.T) {
	everyCrash(func(v impl.Volume, keep []int, after impl.Volume, code int) {
		if code != volDone {
			return
		}
		if rules := brokenRules(after); len(rules) > 0 || !impl.VolumeValid(after) {
			t.Fatalf("VolumeCrash(%v, %v) = %v, which breaks %v", v, keep, after, rules)
		}
		wantLost(t, after, 0)
		for z, zone := range after.Dev {
			n, before := len(zone.Words), v.Dev[z]
			if n > len(before.Words) || !slices.Equal(zone.Words, before.Words[:n]) || z != v.Zone && n < len(before.Words) {
				t.Fatalf("VolumeCrash(%v, %v) = %v; the zone %d has other words", v, keep, after, z)
			}
		}
	})
}

// Promise 112.
func TestVolumeCrashThatKeepsAll(t *testing.T) {
	for _, v := range someVolumes() {
		for _, many := range []int{zoneSize, zoneSize + 1, math.MaxInt} {
			got, code := wantCrash(t, v, slices.Repeat([]int{many}, zones))
			if code != volDone {
				t.Fatalf("VolumeCrash(%v) that keeps all returned %d", v, code)
			}
			wantList(t, impl.VolumeAll(got), impl.VolumeAll(v), "VolumeAll after VolumeCrash(%v) that keeps all", v)
		}
	}
}

// Promise 113.
func TestVolumeCrashAfterVolumeSync(t *testing.T) {
	for _, v := range someVolumes() {
		lasting, _ := impl.VolumeSync(v)
		for _, keep := range keptWords(v) {
			got, code := impl.VolumeCrash(lasting, keep)
			if code != volDone {
				t.Fatalf("VolumeCrash(%v, %v) returned %d", lasting, keep, code)
			}
			wantList(t, impl.VolumeAll(got), impl.VolumeAll(v), "VolumeAll after VolumeCrash(%v, %v)", lasting, keep)
		}
	}
}

// Promise 114.
func TestVolumeCrashLeavesTheFirstFrames(t *testing.T) {
	less := 0
	everyCrash(func(v impl.Volume, keep []int, after impl.Volume, code int) {
		if code != volDone {
			return
		}
		list, all := impl.ScanDevice(after.Dev), impl.ScanDevice(v.Dev)
		if len(list) > len(all) || !sameFounds(list, all[:len(list)]) {
			t.Fatalf("ScanDevice after VolumeCrash(%v, %v) is %v; want a beginning of %v", v, keep, list, all)
		}
		if len(list) < len(all) {
			less++
		}
	})
	if less < 500 {
		t.Errorf("frames were lost %d times; want at least 500", less)
	}
}

// Promise 115.
func TestVolumeCrashAfterACrash(t *testing.T) {
	everyCrash(func(v impl.Volume, keep []int, after impl.Volume, code int) {
		if code != volDone {
			return
		}
		for _, other := range [][]int{make([]int, zones), {1, 2, 3, 4}, keep, slices.Repeat([]int{zoneSize}, zones)} {
			got, n := impl.VolumeCrash(after, other)
			wantVolume(t, got, n, after, volDone, "VolumeCrash(%v, %v) after a crash with %v", after, other, keep)
		}
	})
}

// A zone that has lost all words: which zone is the current one, whether this is the same one or not, and which are closed.
func TestVolumeCrashThatLosesAllWordsOfAZone(t *testing.T) {
	frame := func(seq int) []impl.Frame { return []impl.Frame{valueFrame(seq, seq, 10+seq)} }
	two := func(seq int) []impl.Frame { return append(frame(seq), frame(seq+1)...) }
	for _, c := range []struct {
		v      impl.Volume
		zone   int
		closed []bool
		seq    int
		all    []int
	}{
		// The zone is still the current one: it is the first one without words, or the only one.
		{volumeOn(1, nil, two(1), two(3)), 1, []bool{true, false, false, false}, 3, []int{0, 11, 12, 0, 0, 0}},
		{volumeOn(2, nil, frame(1), frame(2), frame(4), frame(3)), 2, []bool{true, true, false, true}, 4, []int{0, 11, 12, 13, 0, 0}},
		{volumeOn(0, nil, frame(5), frame(4), frame(3), two(1)), 0, []bool{false, true, true, true}, 5, []int{0, 11, 12, 13, 14, 0}},
		{volumeOn(0, nil, two(4), nil, frame(3)), 0, []bool{false, false, true, false}, 4, []int{0, 0, 0, 13, 0, 0}},
		// There is another zone without words ahead of it.
		{volumeOn(3, nil, nil, two(1), nil, frame(3)), 0, []bool{false, true, false, false}, 3, []int{0, 11, 12, 0, 0, 0}},
		{volumeOn(3, nil, frame(1), nil, nil, two(2)), 1, []bool{true, false, false, false}, 2, []int{0, 11, 0, 0, 0, 0}},
		{volumeOn(3, nil, frame(2), frame(1), nil, two(4)), 2, []bool{true, true, false, false}, 3, []int{0, 11, 12, 0, 0, 0}},
		{volumeOn(2, nil, nil, frame(2), two(3), frame(1)), 0, []bool{false, true, false, true}, 3, []int{0, 11, 12, 0, 0, 0}},
		// No frame is left at all.
		{volumeOn(0, nil, two(1)), 0, make([]bool, zones), 1, make([]int, 6)},
		{volumeOn(2, nil, nil, nil, two(4)), 0, make([]bool, zones), 1, make([]int, 6)},
		{volumeOn(3, objectsFrom(objectMax, 5, 1), nil, nil, nil, []impl.Frame{places(7, 6, 1, 2), valueFrame(9, 1, 3)}), 0, make([]bool, zones), 1, make([]int, 6)},
	} {
		for many := range 6 {
			got, code := wantCrash(t, c.v, keeping(c.v.Zone, many))
			if code != volDone || got.Zone != c.zone || got.Seq != c.seq || len(got.Dev[c.v.Zone].Words) > 0 || len(got.Store) > 0 {
				t.Fatalf("VolumeCrash(%v) with %d words = %v, %d; want the zone %d, and the number %d", c.v, many, got, code, c.zone, c.seq)
			}
			for z, zone := range got.Dev {
				if zone.Full != c.closed[z] {
					t.Fatalf("VolumeCrash(%v) with %d words = %v; closed zones are %v", c.v, many, got, c.closed)
				}
			}
			wantList(t, impl.VolumeAll(got)[:6], c.all, "VolumeAll after VolumeCrash(%v) with %d words", c.v, many)
			// The map tells no word of the zone any more, and as many zones are free as before.
			wantList(t, impl.MapIn(got.Map, c.v.Zone), nil, "the blocks of zone %d", c.v.Zone)
			if impl.VolumeFree(got) != impl.VolumeFree(c.v) {
				t.Fatalf("VolumeCrash(%v) with %d words leaves %d zones free", c.v, many, impl.VolumeFree(got))
			}
		}
	}
}

// After a crash in which a zone has lost all words, frames are written to the current zone, with numbers that were used before.
func TestVolumeWriteAfterALostZone(t *testing.T) {
	v, _ := impl.VolumeFormat(make([]impl.Zone, zones))
	var before []int
	for v.Zone == 0 {
		before = impl.VolumeAll(v)
		v, _ = impl.VolumeWrite(v, pairsFrom(v.Seq%3, pairMax, v.Seq))
	}
	lost, code := wantCrash(t, v, make([]int, zones))
	if code != volDone || lost.Zone != 1 || lost.Seq != v.Seq-1 || len(lost.Dev[1].Words) > 0 || !lost.Dev[0].Full {
		t.Fatalf("VolumeCrash(%v) = %v, %d", v, lost, code)
	}
	wantList(t, impl.VolumeAll(lost), before, "VolumeAll after VolumeCrash(%v)", v)
	again, code := wantVolumeWrite(t, lost, pairsFrom(1, 2, 77))
	if code != volDone || again.Zone != 1 || again.Seq != v.Seq || !impl.VolumeValid(again) {
		t.Fatalf("VolumeWrite(%v) = %v, %d", lost, again, code)
	}
}

// A crash may bring back a block into an object that is not there any more, or not long enough: then, there is no such volume.
// Words ahead of this frame, and all words, are opened.
func TestVolumeCrashThatNeedsAnObjectThatIsGone(t *testing.T) {
	frames := []impl.Frame{valueFrame(1, 5, 6), places(2, 7, 2, 3), numbered(3, hotFrame(pairsFrom(2, 2, 9)...))}
	for _, s := range [][]impl.Object{nil, {{Id: 7, Values: []int{5}}}, {{Id: 6, Values: []int{5, 5}}, {Id: 8, Values: []int{5, 5}}}} {
		v := volumeOn(2, s, nil, nil, frames)
		if !impl.VolumeValid(v) {
			t.Fatalf("VolumeValid(%v) = false", v)
		}
		for many := range len(v.Dev[2].Words) + 3 {
			_, code := wantCrash(t, v, keeping(2, many))
			// The frames have 6, 10 and 8 words.
			if gone := many >= 16 && many < 24; gone != (code == volInvalid) {
				t.Fatalf("VolumeCrash(%v) with %d words returned %d", v, many, code)
			}
		}
	}
	// With the object, all of them are opened.
	v := volumeOn(2, []impl.Object{{Id: 7, Values: []int{5, 4}}}, nil, nil, frames)
	for many := range len(v.Dev[2].Words) + 3 {
		if _, code := wantCrash(t, v, keeping(2, many)); code != volDone {
			t.Fatalf("VolumeCrash(%v) with %d words returned %d", v, many, code)
		}
	}
}

// Promise 116: a crash after one write, with each number of words kept, whether the write changes the zone or not. The values are
// those after it just if all words of its frame are kept.
func TestVolumeCrashAfterOneWrite(t *testing.T) {
	lists, seen := validPairs(), map[bool]int{}
	for i, v := range someVolumes() {
		before, _ := impl.VolumeSync(v)
		list := lists[i%len(lists)]
		after, code := impl.VolumeWrite(before, list)
		if code != volDone {
			continue
		}
		many := 4 + 2*len(list)
		for n := range many + 3 {
			want := impl.VolumeAll(before)
			if n >= many {
				want = impl.VolumeAll(after)
			}
			got, code := wantCrash(t, after, keeping(after.Zone, n))
			if code != volDone {
				t.Fatalf("VolumeCrash(%v) with %d words returned %d", after, n, code)
			}
			wantList(t, impl.VolumeAll(got), want, "VolumeAll after VolumeCrash(%v) with %d words", after, n)
		}
		seen[before.Zone == after.Zone]++
	}
	if seen[true] < 50 || seen[false] < 10 {
		t.Errorf("writes that kept the zone, and that did not: %v; want at least 50 and 10", seen)
	}
}

// Promises 114 and 116: a crash after each of several writes, with a sync ahead of any one of them, or of none. The values are
// those that the volume had when it had as many frames as are left, and those of the sync or later ones.
func TestVolumeCrashAfterSeveralWrites(t *testing.T) {
	r := rand.New(rand.NewPCG(73, 74))
	const writes = 6
	for syncedAt := range writes + 1 {
		v, _ := impl.VolumeFormat(make([]impl.Zone, zones))
		past, least := [][]int{make([]int, blocks)}, 0
		for i := range writes {
			if i == syncedAt {
				v, _ = impl.VolumeSync(v)
				least = i
			}
			v, _ = wantVolumeWrite(t, v, randomPairs(r))
			past = append(past, impl.VolumeAll(v))
			for n := range unsynced(v.Dev[v.Zone]) + 2 {
				got, code := wantCrash(t, v, keeping(v.Zone, n))
				left := len(impl.ScanDevice(got.Dev))
				if code != volDone || left < least || left > i+1 {
					t.Fatalf("VolumeCrash(%v) with %d words = %v, %d; %d to %d frames are left", v, n, got, code, least, i+1)
				}
				wantList(t, impl.VolumeAll(got), past[left], "VolumeAll after VolumeCrash(%v) with %d words", v, n)
			}
		}
	}
}

// Without as many numbers as there are zones, or with a negative one, there is no crash, also if nothing could be lost.
func TestVolumeCrashFails(t *testing.T) {
	lasting, _ := impl.VolumeSync(knownVolume())
	for _, v := range []impl.Volume{blankVolume(), knownVolume(), lasting, crowdedVolume(2, 40, []int{0, 1, 3}, 30)} {
		wantNoVolumeCrash(t, v, nil)
		for _, n := range []int{0, 1, zones - 1, zones + 1, 2 * zones, 1000} {
			wantNoVolumeCrash(t, v, make([]int, n))
			wantNoVolumeCrash(t, v, slices.Repeat([]int{zoneSize}, n))
		}
		for z := range zones {
			for _, bad := range badKeeps {
				wantNoVolumeCrash(t, v, keeping(z, bad))
				wantNoVolumeCrash(t, v, withNumber(slices.Repeat([]int{zoneSize}, zones), z, bad))
			}
		}
	}
}

// Promises 112 to 117: invalid volumes, also those whose device and store could be opened.
func TestRecoveryOfInvalidVolumes(t *testing.T) {
	could := 0
	for _, b := range brokenVolumes() {
		if b.rule != "part" && len(refusals(kitOf(b.v))) == 0 {
			could++
		}
		wantLost(t, b.v, -1)
		for _, keep := range [][]int{nil, make([]int, zones), {1, 2, 3, 4}, slices.Repeat([]int{zoneSize}, zones), {0, -1, 0, 0}} {
			wantNoVolumeCrash(t, b.v, keep)
		}
	}
	if could < 50 {
		t.Errorf("%d devices could be opened; want at least 50", could)
	}
}

// VolumeOpen of the devices and stores of invalid volumes: what is wrong with other parts of them does not matter.
func TestVolumeOpenOfInvalidVolumes(t *testing.T) {
	codes := map[int]int{}
	for _, b := range brokenVolumes() {
		k := kitOf(b.v)
		want, code := afterOpen(k)
		wantOpen(t, k, want, code)
		codes[code]++
	}
	if codes[volDone] < 100 || codes[volInvalid] < 100 {
		t.Errorf("the codes were %v; want at least 100 of both", codes)
	}
}

// Promise 117.
func TestVolumeLost(t *testing.T) {
	seen := map[bool]int{}
	for _, v := range someVolumes() {
		want := 0
		for _, zone := range v.Dev {
			want += unsynced(zone)
		}
		wantLost(t, v, want)
		seen[want > 0]++
		lasting, _ := impl.VolumeSync(v)
		wantLost(t, lasting, 0)
	}
	if seen[true] < 50 || seen[false] < 50 {
		t.Errorf("words could be lost, and not: %v; want at least 50 of both", seen)
	}
}

// Promise 117: with all, some and no words that last, in each zone.
func TestVolumeLostOfKnownVolumes(t *testing.T) {
	wantLost(t, blankVolume(), 0)
	for last := range 22 {
		wantLost(t, edited(knownVolume(), func(v *impl.Volume) { v.Dev[1].Synced = last }), 21-last)
	}
	for current := range zones {
		for _, others := range otherZones(current) {
			v := crowdedVolume(current, zoneSize, others, 30)
			for last := range zoneSize + 1 {
				v.Dev[current].Synced = last
				wantLost(t, v, zoneSize-last)
			}
		}
	}
	wantLost(t, impl.Volume{}, -1)
}

// Promise 117: as many words as VolumeLost tells are removed by a crash that keeps nothing, if they are frames.
func TestVolumeLostIsWhatACrashRemoves(t *testing.T) {
	v, _ := impl.VolumeFormat(make([]impl.Zone, zones))
	// Frames with so many values are written, and all words last where there is none.
	pairs := []int{1, 2, 3, 0, 4}
	for i, want := range []int{6, 14, 24, 0, 12} {
		if pairs[i] == 0 {
			v, _ = impl.VolumeSync(v)
		} else {
			v, _ = impl.VolumeWrite(v, pairsFrom(i, pairs[i], 9))
		}
		wantLost(t, v, want)
		got, _ := wantCrash(t, v, make([]int, zones))
		if n := len(v.Dev[0].Words) - len(got.Dev[0].Words); n != want {
			t.Fatalf("VolumeCrash(%v) removed %d words; want %d", v, n, want)
		}
	}
}

// afterStep returns a volume to which something was done, apart from the program. Before objects are removed, all words last.
func afterStep(r *rand.Rand, v impl.Volume) impl.Volume {
	after := afterAnything(r, v)
	if len(after.Store) < len(v.Store) {
		after.Dev = synced(after.Dev)
	}
	return after
}

// Promises 107 to 117: whatever is done one after the other, a crash leads to values that the volume had at some time since all
// of its words lasted, and no earlier volume changes. What later chapters do to a volume is done by these tests.
func TestManyCrashesOneAfterTheOther(t *testing.T) {
	r := rand.New(rand.NewPCG(75, 76))
	back := 0
	for range 25 {
		v, _ := impl.VolumeFormat(make([]impl.Zone, zones))
		past := [][]int{impl.VolumeAll(v)}
		for range 100 {
			keep := []int{r.IntN(40), r.IntN(40), r.IntN(40), r.IntN(40)}
			before := copiedVolume(v)
			got, code := wantCrash(t, v, keep)
			values := impl.VolumeAll(got)
			if code != volDone || !sameVolume(v, before) || !slices.ContainsFunc(past, func(list []int) bool { return slices.Equal(list, values) }) {
				t.Fatalf("VolumeCrash(%v, %v) = %v, %d, and left %v; the values were %v", before, keep, got, code, v, past)
			}
			if !slices.Equal(values, impl.VolumeAll(v)) {
				back++
			}
			if r.IntN(8) == 0 {
				v, past = got, [][]int{values}
			}
			after := afterStep(r, v)
			// What was written to the zone before lasts now.
			if after.Zone != v.Zone {
				past = [][]int{impl.VolumeAll(v)}
			}
			if impl.VolumeLost(after) == 0 {
				past = nil
			}
			past = append(past, impl.VolumeAll(after))
			v = after
		}
	}
	if back < 300 {
		t.Errorf("crashes led to earlier values %d times; want at least 300", back)
	}
}

// recoveryCalls returns all functions of the chapter, called with a volume, so that each one is done and fails. Results of other
// types are put into a volume.
func recoveryCalls() map[string]func(impl.Volume, []impl.Pair) (impl.Volume, int) {
	calls := map[string]func(impl.Volume, []impl.Pair) (impl.Volume, int){
		"VolumeOpen": func(v impl.Volume, _ []impl.Pair) (impl.Volume, int) { return impl.VolumeOpen(v.Dev, v.Store) },
		"VolumeLost": func(v impl.Volume, _ []impl.Pair) (impl.Volume, int) { return impl.Volume{}, impl.VolumeLost(v) },
	}
	for _, keep := range [][]int{nil, make([]int, zones), {1, 9, 3, 4}, slices.Repeat([]int{zoneSize}, zones), {5, -1, 5, 5}} {
		calls[fmt.Sprintf("VolumeCrash with %v", keep)] = func(v impl.Volume, _ []impl.Pair) (impl.Volume, int) { return impl.VolumeCrash(v, keep) }
	}
	return calls
}

// General rules: arguments, valid or not, are not changed, and results share no memory.
func TestRecoveryKeepsArgumentsAndSharesNoMemory(t *testing.T) {
	volumes := slices.Concat(plainVolumes(), fewBroken())
	for i, v := range histories() {
		if i%4 == 0 {
			volumes = append(volumes, v)
		}
	}
	for _, k := range fewRefused() {
		volumes = append(volumes, impl.Volume{Dev: k.d, Store: k.s})
	}
	for i, k := range someKits() {
		if i%10 == 0 {
			volumes = append(volumes, impl.Volume{Dev: k.d, Store: k.s})
		}
	}
	for name, call := range recoveryCalls() {
		for _, v := range volumes {
			checkVolumeMemory(t, name, call, v, nil)
		}
	}
}

// checkNumbers requires that a call with a volume and numbers does not change these, and that its result does not have them.
func checkNumbers(t *testing.T, name string, call func(impl.Volume, []int) (impl.Volume, int), v impl.Volume, list []int) {
	t.Helper()
	memory := append(slices.Clone(list), 44, 45, 46)
	kept := slices.Clone(memory)
	got, code := call(v, memory[:len(list)])
	want := copiedVolume(got)
	wantList(t, memory, kept, "the numbers for %s", name)
	fill(memory)
	wantVolume(t, got, code, want, code, "%s(%v, %v)", name, v, list)
}

// General rules: the numbers of words to keep are not changed and not kept, also if they share memory with the volume.
func TestVolumeCrashKeepsItsNumbers(t *testing.T) {
	for _, list := range [][]int{nil, {0, 0, 0}, {0, 0, 0, 0}, {1, 9, 3, 4}, {99, 99, 99, 99}, {1, 2, 3, -4}, {1, 2, 3, 4, 5}} {
		checkNumbers(t, "VolumeCrash", impl.VolumeCrash, knownVolume(), list)
	}
	for from := range 18 {
		v := knownVolume()
		keep := v.Dev[1].Words[from : from+zones]
		want, code := impl.VolumeCrash(knownVolume(), slices.Clone(keep))
		got, n := impl.VolumeCrash(v, keep)
		wantVolume(t, got, n, want, code, "VolumeCrash with %v", keep)
		wantVolume(t, v, 0, knownVolume(), 0, "VolumeCrash left a volume; it")
	}
}

// General rules: the parts of a volume may share memory in the argument, and do not in the result.
func TestRecoveryOfPartsThatShareMemory(t *testing.T) {
	for name, call := range recoveryCalls() {
		for _, apart := range []impl.Volume{knownVolume(), crowdedVolume(1, 60, []int{0, 2, 3}, 30), crowdedVolume(2, 60, nil, 30)} {
			checkSharing(t, name, call, apart, nil)
		}
	}
	// Two zones have the same words, and one of them begins behind the frames.
	words := laidOut(valueFrame(1, 2, 3), valueFrame(2, 3, 4))
	d := deviceOf(words, nil, words[3:], words[:0])
	want, code := afterOpen(kit{d, nil})
	wantOpen(t, kit{d, nil}, want, code)
	got, _ := impl.VolumeOpen(d, nil)
	checkVolumeApart(t, "VolumeOpen", got)
	wantList(t, words, laidOut(valueFrame(1, 2, 3), valueFrame(2, 3, 4)), "the words")
}

// General rules: nil and empty slices are equivalent, as arguments.
func TestRecoveryWithNilAndEmptySlices(t *testing.T) {
	d := slices.Repeat([]impl.Zone{{Words: []int{}}}, zones)
	wantOpen(t, kit{d, []impl.Object{}}, blankVolume(), volDone)
	wantOpen(t, kit{[]impl.Zone{}, []impl.Object{}}, impl.Volume{}, volInvalid)
	wantOpen(t, kit{nil, nil}, impl.Volume{}, volInvalid)
	v := edited(blankVolume(), func(v *impl.Volume) { v.Dev, v.Store = d, []impl.Object{} })
	got, code := impl.VolumeCrash(v, make([]int, zones))
	wantVolume(t, got, code, blankVolume(), volDone, "VolumeCrash(%v)", v)
	wantNoVolumeCrash(t, v, []int{})
	wantLost(t, v, 0)
	empty := impl.Volume{Dev: []impl.Zone{}, Store: []impl.Object{}, Map: []impl.Where{}, Heat: []int{}}
	wantNoVolumeCrash(t, empty, make([]int, zones))
	wantLost(t, empty, -1)
}

// What a call returns does not depend on others at the same time, even for the same arguments.
func TestRecoveryAtTheSameTime(t *testing.T) {
	v := knownVolume()
	opened, _ := afterOpen(kitOf(v))
	lost, _ := afterCrash(v, make([]int, zones))
	var calls sync.WaitGroup
	for range 8 {
		calls.Go(func() {
			for range 200 {
				got, code := impl.VolumeOpen(v.Dev, v.Store)
				if code != volDone || !sameVolume(got, opened) {
					t.Errorf("VolumeOpen(%v, %v) = %v, %d; want %v", v.Dev, v.Store, got, code, opened)
				}
				got, code = impl.VolumeCrash(v, make([]int, zones))
				if code != volDone || !sameVolume(got, lost) {
					t.Errorf("VolumeCrash(%v) = %v, %d; want %v", v, got, code, lost)
				}
			}
		})
	}
	calls.Wait()
}

// No goroutine is left behind, whether a call is done or fails.
func TestRecoveryLeavesNoGoroutines(t *testing.T) {
	before := runtime.NumGoroutine()
	known, refused := kitOf(knownVolume()), fewRefused()
	for i := range 500 {
		impl.VolumeOpen(known.d, known.s)
		k := refused[i%len(refused)]
		impl.VolumeOpen(k.d, k.s)
	}
	// A goroutine that was joined may still need a moment to end.
	for range 100000 {
		if runtime.NumGoroutine() <= before {
			return
		}
		runtime.Gosched()
	}
	t.Errorf("there are %d goroutines; before, there were %d", runtime.NumGoroutine(), before)
}

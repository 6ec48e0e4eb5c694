package tests

import (
	"fmt"
	"math/rand/v2"
	"slices"
	"sync"
	"testing"

	"loop.example/tiervolume/impl"
)

// oldestOn returns what VolumeOldest returns, apart from the program: the zone with the least number of a frame.
func oldestOn(v impl.Volume) int {
	if len(brokenRules(v)) > 0 {
		return -1
	}
	oldest, least, many := -1, seqMax+1, 0
	for z, zone := range v.Dev {
		list, _ := foundIn(zone.Words, z)
		if len(list) > 0 {
			many++
		}
		for _, x := range list {
			if x.Frame.Seq < least {
				oldest, least = z, x.Frame.Seq
			}
		}
	}
	if many < 2 {
		return -1
	}
	return oldest
}

// toldBy returns the blocks of a tier about which a zone tells, apart from the program.
func toldBy(v impl.Volume, zone int, tier int) []int {
	var list []int
	for block, w := range v.Map {
		if w.Tier == tier && w.Zone == zone {
			list = append(list, block)
		}
	}
	return list
}

// copiesOn returns the frames that VolumeCopy appends, without their numbers, apart from the program.
func copiesOn(v impl.Volume) []impl.Frame {
	var frames []impl.Frame
	oldest := oldestOn(v)
	for i, block := range toldBy(v, oldest, tierHot) {
		if i%pairMax == 0 {
			frames = append(frames, hotFrame())
		}
		f := &frames[len(frames)-1]
		f.Body = append(f.Body, block, valueOn(v, block))
	}
	for i, block := range toldBy(v, oldest, tierCold) {
		if i%packMax == 0 {
			frames = append(frames, coldFrame())
		}
		f := &frames[len(frames)-1]
		f.Body = append(f.Body, block, v.Map[block].Id, v.Map[block].Index)
	}
	return frames
}

// afterCopy returns what VolumeCopy returns, apart from the program.
func afterCopy(v impl.Volume) (impl.Volume, int) {
	if len(brokenRules(v)) > 0 {
		return impl.Volume{}, volInvalid
	}
	if oldestOn(v) < 0 {
		return copiedVolume(v), volNone
	}
	c := copiedVolume(v)
	for _, f := range copiesOn(v) {
		ok := false
		if c, ok = appended(c, f, 0); !ok {
			return copiedVolume(v), volFull
		}
	}
	return c, volDone
}

// afterCollection returns what VolumeCollect returns, apart from the program.
func afterCollection(v impl.Volume) (impl.Volume, int) {
	c, code := afterCopy(v)
	if code == volDone {
		c.Dev = withZone(synced(c.Dev), oldestOn(v), impl.Zone{})
	}
	return c, code
}

// wantOldest requires what VolumeOldest returns.
func wantOldest(t *testing.T, v impl.Volume, want int) {
	t.Helper()
	if z := impl.VolumeOldest(v); z != want {
		t.Fatalf("VolumeOldest(%v) = %d; want %d", v, z, want)
	}
}

// wantCopy requires what VolumeCopy returns, and returns it.
func wantCopy(t *testing.T, v impl.Volume) (impl.Volume, int) {
	t.Helper()
	return wantOf(t, "VolumeCopy", v, impl.VolumeCopy, afterCopy)
}

// wantCollect requires what VolumeCollect returns, and returns it.
func wantCollect(t *testing.T, v impl.Volume) (impl.Volume, int) {
	t.Helper()
	return wantOf(t, "VolumeCollect", v, impl.VolumeCollect, afterCollection)
}

// wantBoth requires what VolumeOldest, VolumeCopy and VolumeCollect return, and that both of the latter return a code. It returns
// the volumes.
func wantBoth(t *testing.T, v impl.Volume, code int) (impl.Volume, impl.Volume) {
	t.Helper()
	wantOldest(t, v, oldestOn(v))
	c, n := wantCopy(t, v)
	after, m := wantCollect(t, v)
	if n != code || m != code {
		t.Fatalf("VolumeCopy and VolumeCollect of %v returned %d and %d; want %d", v, n, m, code)
	}
	return c, after
}

// An age is how a volume with an oldest zone is built: the blocks about which this zone tells, all other ones being left to later
// zones; the zones with frames, from the oldest one to the current one; how many words the current one has; and the last number.
type age struct {
	hot   []int
	cold  []int
	order []int
	words int
	last  int
}

// withNoOther returns the blocks that are in neither of two lists.
func withNoOther(a, b []int) []int {
	return slices.DeleteFunc(counting(blocks, 0), func(block int) bool { return slices.Contains(a, block) || slices.Contains(b, block) })
}

// fillingOf returns frames about some blocks, all of them about the first one, that have together so many words, and whether
// there are such frames.
func fillingOf(words int, list []int) ([]impl.Frame, bool) {
	if words == 0 {
		return nil, true
	}
	for n := min(packMax, len(list)); n > 0; n-- {
		for _, f := range []impl.Frame{places(0, 8, list[:n]...), hotFrame(differentPairs(list[:n]...)...)} {
			if size := len(laidOut(f)); size <= words {
				if rest, ok := fillingOf(words-size, list); ok {
					return append(rest, f), true
				}
			}
		}
	}
	return nil, false
}

// oldFrames returns frames about hot and cold blocks, in several orders. The first of them is about a block that another zone
// tells anew.
func oldFrames(a age) []impl.Frame {
	var hot []impl.Pair
	var cold []impl.Cold
	for i, block := range a.hot {
		hot = append(hot, impl.Pair{Block: block, Value: 99 - 8*i})
	}
	for i, block := range a.cold {
		cold = append(cold, impl.Cold{Block: block, Id: []int{8, 3}[i%2], Index: 5 - i/2})
	}
	frames := []impl.Frame{hotFrame(impl.Pair{Block: withNoOther(a.hot, a.cold)[0], Value: 33})}
	for list := range slices.Chunk(cold, 4) {
		frames = append(frames, coldFrame(list...))
	}
	for list := range slices.Chunk(hot, 7) {
		frames = append(frames, hotFrame(list...))
	}
	return frames
}

// numberBack gives the frames of some zones their numbers, up to the last one.
func numberBack(logs [][]impl.Frame, order []int, last int) {
	for _, z := range slices.Backward(order) {
		for i := range slices.Backward(logs[z]) {
			logs[z][i].Seq = last
			last--
		}
	}
}

// aged returns a volume with an oldest zone, and whether there can be so many words in its current zone.
func aged(a age) (impl.Volume, bool) {
	rest, current := withNoOther(a.hot, a.cold), a.order[len(a.order)-1]
	frames, ok := fillingOf(a.words, rest)
	logs := make([][]impl.Frame, zones)
	logs[current] = frames
	for i, z := range a.order[:len(a.order)-1] {
		logs[z] = []impl.Frame{valueFrame(0, rest[0], 60+i)}
	}
	logs[a.order[0]] = oldFrames(a)
	numberBack(logs, a.order, a.last)
	v := volumeOn(current, twoObjects(), logs...)
	v.Dev[current].Synced = a.words / 2
	v.Heat = counting(blocks, 15)
	return v, ok
}

// orders returns all lists of so many different zones.
func orders(many int) [][]int {
	if many == 0 {
		return [][]int{nil}
	}
	var lists [][]int
	for _, list := range orders(many - 1) {
		for z := range zones {
			if !slices.Contains(list, z) {
				lists = append(lists, append(slices.Clone(list), z))
			}
		}
	}
	return lists
}

// copySizes returns how many words each copy has of so many hot and cold blocks, as the document says it.
func copySizes(hot int, cold int) []int {
	var sizes []int
	for ; hot > 0; hot -= pairMax {
		sizes = append(sizes, 4+2*min(hot, pairMax))
	}
	for ; cold > 0; cold -= packMax {
		sizes = append(sizes, 4+3*min(cold, packMax))
	}
	return sizes
}

// crowds returns how many words of the current zone matter for copies: without any, with all, and so many that each one of the
// copies has exactly enough room, or one or two words less.
func crowds(sizes []int) []int {
	list, sum := []int{0, 30, 60, zoneSize}, 0
	for _, size := range sizes {
		sum += size
		list = append(list, zoneSize-sum, zoneSize-sum+1, zoneSize-sum+2)
	}
	slices.Sort(list)
	return slices.Compact(list)
}

// someOf returns so many hot blocks, and so many other cold ones, both in ascending order.
func someOf(hot int, cold int) ([]int, []int) {
	mixed := []int{4, 9, 1, 11, 6, 0, 8, 3, 10, 5, 2, 7}
	a, b := slices.Clone(mixed[:hot]), slices.Clone(mixed[hot:hot+cold])
	slices.Sort(a)
	slices.Sort(b)
	return a, b
}

// everyAge calls with volumes with an oldest zone and other zones with frames: with numbers of hot and cold blocks, with two, one
// and no free zone, and with numbers of words in the current zone that matter.
func everyAge(last int, call func(a age, v impl.Volume)) {
	i := 0
	for hot := range blocks {
		for cold := range blocks - hot {
			for many := 2; many <= zones; many++ {
				for _, words := range crowds(copySizes(hot, cold)) {
					a := age{words: words, last: last, order: orders(many)[i%len(orders(many))]}
					a.hot, a.cold = someOf(hot, cold)
					// Without words in the current zone, there must be another one that is not the oldest one.
					if v, ok := aged(a); ok && many+words > 2 {
						call(a, v)
						i++
					}
				}
			}
		}
	}
}

// agedVolumes returns some volumes with an oldest zone.
func agedVolumes() []impl.Volume {
	var list []impl.Volume
	i := 0
	everyAge(100, func(_ age, v impl.Volume) {
		if i++; i%11 == 0 {
			list = append(list, v)
		}
	})
	return list
}

// collectedVolumes returns all volumes with which these tests call the functions of the chapter.
func collectedVolumes() []impl.Volume {
	return slices.Concat(agedVolumes(), movedVolumes())
}

// doneCalls calls with all volumes for which a function returned volDone, and what it returned, and requires that there are at
// least so many.
func doneCalls(t *testing.T, least int, call func(impl.Volume) (impl.Volume, int), done func(v impl.Volume, after impl.Volume)) {
	t.Helper()
	many := 0
	for _, v := range collectedVolumes() {
		if after, code := call(v); code == volDone {
			many++
			done(v, after)
		}
	}
	if many < least {
		t.Errorf("the function was done %d times; want at least %d", many, least)
	}
}

// freshVolume returns a volume whose oldest zone, with the largest number, tells about ten hot blocks and a cold one, and which
// has 6 words in its current zone.
func freshVolume() impl.Volume {
	old := []impl.Frame{
		numbered(4, hotFrame(pairsFrom(7, 5, 70)...)), numbered(5, hotFrame(impl.Pair{Block: 1, Value: 11}, impl.Pair{Block: 6, Value: 16})),
		numbered(6, coldFrame(impl.Cold{Block: 4, Id: 8, Index: 2})), numbered(7, hotFrame(pairsFrom(2, 2, 23)...)),
		numbered(8, hotFrame(impl.Pair{Block: 0, Value: 9}, impl.Pair{Block: 5, Value: 15}, impl.Pair{Block: 9, Value: 99})),
	}
	v := volumeOn(0, twoObjects(), []impl.Frame{valueFrame(9, 11, 5)}, nil, nil, old)
	v.Dev[0].Synced = 2
	v.Heat = counting(blocks, 40)
	return v
}

// The volumes of these tests are what they are meant to be.
func TestCollectedVolumesOfTheTests(t *testing.T) {
	many := 0
	everyAge(100, func(a age, v impl.Volume) {
		many++
		if rules := brokenRules(v); len(rules) > 0 || len(v.Dev[v.Zone].Words) != a.words || v.Seq != 101 {
			t.Fatalf("%v breaks %v, or has not %d words", v, rules, a.words)
		}
		if oldestOn(v) != a.order[0] || !slices.Equal(toldBy(v, a.order[0], tierHot), a.hot) || !slices.Equal(toldBy(v, a.order[0], tierCold), a.cold) {
			t.Fatalf("the zone %d of %v does not tell about %v and %v", a.order[0], v, a.hot, a.cold)
		}
		if len(freeZones(v)) != zones-len(a.order) {
			t.Fatalf("%v has the free zones %v; want %d of them", v, freeZones(v), zones-len(a.order))
		}
		sum := 0
		for i, size := range copySizes(len(a.hot), len(a.cold)) {
			sum += size
			if n := len(laidOut(copiesOn(v)[i])); n != size {
				t.Fatalf("a copy of %v has %d words; want %d", v, n, size)
			}
		}
		if sum > zoneSize {
			t.Fatalf("the copies of %v have %d words", v, sum)
		}
	})
	if many < 1500 || len(orders(4)) != 24 || len(agedVolumes()) < 100 {
		t.Errorf("there are %d volumes, %d orders and %d chosen volumes", many, len(orders(4)), len(agedVolumes()))
	}
	if rules := brokenRules(freshVolume()); len(rules) > 0 {
		t.Errorf("%v breaks %v", freshVolume(), rules)
	}
}

// Promises 131 to 138: a known volume. Only block 3 is still told by zone 2, which is the oldest one, though it has not the
// smallest number; then, zone 0 tells about blocks 1 and 2, and not about block 4, which has no value any more.
func TestCollectionOfAKnownVolume(t *testing.T) {
	v := knownVolume()
	wantOldest(t, v, 2)
	want := edited(v, func(v *impl.Volume) {
		v.Dev[1].Words = slices.Concat(v.Dev[1].Words, summed(1, 22, 2, 3, 8))
		v.Map[3] = hotAt(1, 25)
		v.Seq = 23
	})
	got, code := impl.VolumeCopy(v)
	wantVolume(t, got, code, want, volDone, "VolumeCopy(%v)", v)
	want = edited(want, func(v *impl.Volume) { v.Dev[1].Synced, v.Dev[2] = 27, impl.Zone{} })
	v, code = impl.VolumeCollect(v)
	wantVolume(t, v, code, want, volDone, "VolumeCollect")
	wantOldest(t, v, 0)
	want = edited(v, func(v *impl.Volume) {
		v.Dev[1].Words = slices.Concat(v.Dev[1].Words, summed(2, 23, 6, 1, 4, 0, 2, 4, 1))
		v.Map[1], v.Map[2] = coldAt(1, 30, 4, 0), coldAt(1, 33, 4, 1)
		v.Seq = 24
	})
	got, code = impl.VolumeCopy(v)
	wantVolume(t, got, code, want, volDone, "VolumeCopy(%v)", v)
	want = edited(want, func(v *impl.Volume) { v.Dev[1].Synced, v.Dev[0] = 37, impl.Zone{} })
	v, code = impl.VolumeCollect(v)
	wantVolume(t, v, code, want, volDone, "VolumeCollect")
	wantList(t, impl.VolumeAll(v), []int{50, 6, 7, 8, 0, 99, 0, 0, 0, 0, 0, 99}, "VolumeAll")
	wantOldest(t, v, -1)
	got, code = impl.VolumeCopy(v)
	wantVolume(t, got, code, v, volNone, "VolumeCopy(%v)", v)
	got, code = impl.VolumeCollect(v)
	wantVolume(t, got, code, v, volNone, "VolumeCollect(%v)", v)
}

// Promises 132 and 133: the words, the map and the number, exactly. Hot blocks are ahead of cold ones, and all blocks ascend,
// whatever order they had in the oldest zone.
func TestVolumeCopyAppendsHotBlocksFirst(t *testing.T) {
	v := freshVolume()
	want := edited(v, func(v *impl.Volume) {
		v.Dev[0].Words = slices.Concat(v.Dev[0].Words,
			summed(1, 10, 18, 0, 9, 1, 11, 2, 23, 3, 23, 5, 15, 6, 16, 7, 70, 8, 70, 9, 99), summed(1, 11, 2, 10, 70), summed(2, 12, 3, 4, 8, 2))
		v.Map = mapOf(hotAt(0, 10), hotAt(0, 12), hotAt(0, 14), hotAt(0, 16), coldAt(0, 37, 8, 2), hotAt(0, 18), hotAt(0, 20),
			hotAt(0, 22), hotAt(0, 24), hotAt(0, 26), hotAt(0, 32), hotAt(0, 4))
		v.Seq = 13
	})
	got, code := impl.VolumeCopy(v)
	wantVolume(t, got, code, want, volDone, "VolumeCopy(%v)", v)
	want.Dev[0].Synced, want.Dev[3] = 41, impl.Zone{}
	got, code = impl.VolumeCollect(v)
	wantVolume(t, got, code, want, volDone, "VolumeCollect(%v)", v)
}

// Of the three copies, some go into the current zone, and the others to the free zone with the least number. All that was written
// up to then lasts. The first copy has 22 words, the second one 6.
func TestVolumeCopyThatChangesTheZone(t *testing.T) {
	for _, c := range []struct{ words, fitting, more int }{{64, 0, 0}, {43, 0, 0}, {42, 1, 22}, {38, 1, 22}, {37, 1, 22}, {36, 2, 28}, {30, 2, 28}} {
		v := freshVolume()
		frames, _ := fillingOf(c.words-6, []int{11})
		for i := range frames {
			frames[i].Seq = 10 + i
		}
		v.Dev[0].Words = append(v.Dev[0].Words, laidOut(frames...)...)
		v = mapped(v)
		n := v.Seq
		copies := [][]int{
			summed(1, n, 18, 0, 9, 1, 11, 2, 23, 3, 23, 5, 15, 6, 16, 7, 70, 8, 70, 9, 99), summed(1, n+1, 2, 10, 70), summed(2, n+2, 3, 4, 8, 2),
		}
		got, code := wantCopy(t, v)
		if code != volDone || got.Zone != 1 || !got.Dev[0].Full || got.Dev[0].Synced != c.words+c.more || got.Dev[1].Synced != 0 {
			t.Fatalf("VolumeCopy(%v) = %v, %d", v, got, code)
		}
		wantList(t, got.Dev[0].Words, slices.Concat(v.Dev[0].Words, slices.Concat(copies[:c.fitting]...)), "the words of the zone that was current")
		wantList(t, got.Dev[1].Words, slices.Concat(copies[c.fitting:]...), "the words of the zone that is current")
		wantCollect(t, v)
	}
}

// Promise 131: no frame, all frames in one zone, and frames in two, three and four zones, in each order, with words in the current
// zone and without.
func TestVolumeOldest(t *testing.T) {
	for z := range zones {
		wantOldest(t, volumeOn(z, nil), -1)
		wantOldest(t, volumeOn(z, objectsFrom(objectMax, 1, 1)), -1)
		wantOldest(t, crowdedVolume(z, zoneSize, nil, 20), -1)
		wantOldest(t, crowdedVolume(z, zoneSize, nil, seqMax), -1)
		// All frames are in another zone than the current one.
		wantOldest(t, crowdedVolume(z, 0, []int{(z + 1) % zones}, 0), -1)
		wantOldest(t, crowdedVolume(z, 0, []int{(z + 2) % zones}, 0), -1)
	}
	for many := 2; many <= zones; many++ {
		for _, order := range orders(many) {
			for _, words := range []int{0, 6, 40, zoneSize} {
				for _, last := range []int{30, seqMax} {
					v, _ := aged(age{hot: []int{3}, cold: []int{7, 9}, order: order, words: words, last: last})
					want := order[0]
					if many == 2 && words == 0 {
						want = -1
					}
					wantOldest(t, v, want)
				}
			}
		}
	}
}

// Promise 131, as the chapters before say it.
func TestVolumeOldestIsTheZoneOfTheFirstFrame(t *testing.T) {
	seen := map[int]int{}
	for _, v := range collectedVolumes() {
		list := impl.ScanDevice(v.Dev)
		want := -1
		if len(list) > 0 && slices.ContainsFunc(list, func(x impl.Found) bool { return x.Zone != list[0].Zone }) {
			want = list[0].Zone
		}
		wantOldest(t, v, want)
		wantOldest(t, v, oldestOn(v))
		seen[want]++
	}
	for z := -1; z < zones; z++ {
		if seen[z] < 30 {
			t.Errorf("the zone %d was the oldest one %d times", z, seen[z])
		}
	}
}

// Promises 132, 134 and 136: all that VolumeCopy and VolumeCollect return of valid volumes.
func TestVolumeCopyAndVolumeCollect(t *testing.T) {
	seen := map[int]int{}
	for _, v := range collectedVolumes() {
		_, code := wantCopy(t, v)
		after, n := wantCollect(t, v)
		if seen[code]++; n != code || !impl.VolumeValid(after) {
			t.Fatalf("VolumeCollect(%v) = %v, %d", v, after, n)
		}
	}
	if seen[volDone] < 300 || seen[volNone] < 100 || seen[volFull] < 50 || len(seen) != 3 {
		t.Errorf("the codes were %v", seen)
	}
}

// Numbers of hot and cold blocks about which the oldest zone tells, room, and free zones: the copies that have room, those that
// have none, and those of which the first ones have room. A free zone is enough for all of them.
func TestVolumeCopyNeedsRoom(t *testing.T) {
	seen := map[string]int{}
	everyAge(100, func(a age, v impl.Volume) {
		sizes := copySizes(len(a.hot), len(a.cold))
		sum, fitting := 0, 0
		for _, size := range sizes {
			if sum += size; sum <= zoneSize-a.words {
				fitting++
			}
		}
		free, code, zone := zones-len(a.order), volDone, v.Zone
		if fitting < len(sizes) && free == 0 {
			code = volFull
		} else if fitting < len(sizes) {
			zone = freeZones(v)[0]
		}
		c, after := wantBoth(t, v, code)
		many := len(foundOn(c.Dev)) - len(foundOn(v.Dev))
		if code == volDone && (many != len(sizes) || c.Zone != zone || after.Zone != zone) || code == volFull && many != 0 {
			t.Fatalf("VolumeCopy(%v) leads to %d more frames and to the zone %d; want %d and %d", v, many, c.Zone, len(sizes), zone)
		}
		seen[fmt.Sprint(free, " free: ", fitting, " of ", len(sizes))]++
	})
	for free := range zones - 1 {
		for n := range 4 {
			for fitting := range n + 1 {
				kind, least := fmt.Sprint(free, " free: ", fitting, " of ", n), 3
				if seen[kind] < least {
					t.Errorf("%s was seen %d times; want at least %d", kind, seen[kind], least)
				}
			}
		}
	}
}

// agedNear returns a volume with an oldest zone, with so many words in its current zone, or with the next larger or smaller number
// of words for which there are frames.
func agedNear(a age, step int) impl.Volume {
	v, ok := aged(a)
	for !ok {
		a.words += step
		v, ok = aged(a)
	}
	return v
}

// Promises 132 and 134: the limits that the document names, with exactly enough room or, if there can be no such frames, a bit
// more; with one word less, or a bit more than this; and with a free zone.
func TestVolumeCopyOfManyBlocks(t *testing.T) {
	for _, c := range []struct{ hot, cold, frames, words int }{
		{0, 0, 0, 0}, {1, 0, 1, 6}, {pairMax, 0, 1, 22}, {pairMax + 1, 0, 2, 28}, {blocks - 1, 0, 2, 30},
		{0, 1, 1, 7}, {0, packMax, 1, 22}, {0, packMax + 1, 2, 29}, {0, blocks - 2, 2, 38}, {0, blocks - 1, 2, 41},
		{1, 1, 2, 13}, {pairMax, 2, 2, 32}, {pairMax + 1, 1, 3, 35}, {5, packMax, 2, 36}, {4, packMax + 1, 3, 41}, {1, blocks - 2, 3, 44},
	} {
		hot, cold := someOf(c.hot, c.cold)
		a := age{hot: hot, cold: cold, order: []int{2, 0, 3, 1}, words: zoneSize - c.words, last: 70}
		v := agedNear(a, -1)
		got, _ := wantBoth(t, v, volDone)
		if many := len(foundOn(got.Dev)) - len(foundOn(v.Dev)); many != c.frames || got.Zone != 1 {
			t.Fatalf("VolumeCopy(%v) has %d frames more, and leads to the zone %d; want %d, and the same zone", v, many, got.Zone, c.frames)
		}
		if a.words++; c.frames == 0 {
			continue
		}
		wantBoth(t, agedNear(a, 1), volFull)
		a.order = []int{3, 0, 1}
		v = agedNear(a, 1)
		got, _ = wantBoth(t, v, volDone)
		if many := len(foundOn(got.Dev)) - len(foundOn(v.Dev)); many != c.frames || got.Zone != 2 {
			t.Fatalf("VolumeCopy(%v) has %d frames more, and leads to the zone %d; want %d, and the free zone", v, many, got.Zone, c.frames)
		}
	}
}

// A zone that has all frames may tell about all blocks, and is not the oldest one. With one more frame in another zone, it tells
// about all blocks but those of this frame.
func TestCollectionOfAllBlocks(t *testing.T) {
	for _, v := range []impl.Volume{hotVolume(nil), coldVolume()} {
		old := v.Zone
		wantList(t, impl.MapIn(v.Map, old), counting(blocks, 0), "the blocks about which the zone of %v tells", v)
		wantBoth(t, v, volNone)
		v.Dev[old].Synced, v.Dev[old].Full = len(v.Dev[old].Words), true
		v.Zone = 3
		wantBoth(t, v, volNone)
		for block := range blocks {
			for value := range 2 {
				w, _ := impl.VolumeWrite(v, []impl.Pair{{Block: block, Value: value}})
				got, _ := wantBoth(t, w, volDone)
				want := counting(blocks, 0)
				if value == 0 {
					want = withNoOther([]int{block}, nil)
				}
				wantList(t, impl.MapIn(w.Map, old), withNoOther([]int{block}, nil), "the blocks about which the oldest zone of %v tells", w)
				wantList(t, impl.MapIn(got.Map, 3), want, "the blocks about which the current zone tells after VolumeCopy(%v)", w)
			}
		}
	}
}

// emptyTellers returns volumes whose oldest zone tells about no block: its blocks are told anew by a later zone, as hot ones, as
// cold ones, or as ones without a value; or they have no value already there. The current zone has so many words, and some zones
// have other frames.
func emptyTellers(words int, others []int, last int) []impl.Volume {
	var list []impl.Volume
	hot, cold, none := hotFrame(differentPairs(2, 5, 8)...), places(0, 3, 2, 5, 8), hotFrame(impl.Pair{Block: 2}, impl.Pair{Block: 5}, impl.Pair{Block: 8})
	for _, old := range [][]impl.Frame{{hot}, {cold}, {none}, {hot, cold}, {cold, hot, none}} {
		for _, later := range []impl.Frame{hot, cold, none} {
			logs := make([][]impl.Frame, zones)
			logs[3] = slices.Clone(old)
			for _, z := range others {
				logs[z] = []impl.Frame{valueFrame(0, 10, 10)}
			}
			rest, _ := fillingOf(words-len(laidOut(later)), []int{11})
			logs[1] = append([]impl.Frame{later}, rest...)
			numberBack(logs, slices.Concat([]int{3}, others, []int{1}), last)
			list = append(list, volumeOn(1, twoObjects(), logs...))
		}
	}
	return list
}

// Zones that tell about no block: VolumeCopy is done without a frame, also where no frame could be appended, as there is no room
// or no number. VolumeCollect removes the zone.
func TestCollectionOfZonesThatTellAboutNoBlock(t *testing.T) {
	for _, others := range [][]int{nil, {0}, {2, 0}} {
		for _, words := range []int{43, 64} {
			for _, last := range []int{40, seqMax - 1, seqMax} {
				for _, v := range emptyTellers(words, others, last) {
					if rules := brokenRules(v); len(rules) > 0 || len(v.Dev[1].Words) != words || len(impl.MapIn(v.Map, 3)) > 0 {
						t.Fatalf("%v breaks %v, or has not %d words", v, rules, words)
					}
					wantOldest(t, v, 3)
					got, code := impl.VolumeCopy(v)
					wantVolume(t, got, code, v, volDone, "VolumeCopy(%v)", v)
					want := edited(v, func(v *impl.Volume) { v.Dev = withZone(synced(v.Dev), 3, impl.Zone{}) })
					got, code = impl.VolumeCollect(v)
					wantVolume(t, got, code, want, volDone, "VolumeCollect(%v)", v)
				}
			}
		}
	}
}

// blocksOfFrame returns the blocks of a frame, apart from the program.
func blocksOfFrame(f impl.Frame) []int {
	var list []int
	for words := range slices.Chunk(f.Body, map[int]int{kindHot: 2, kindCold: 3}[f.Kind]) {
		list = append(list, words[0])
	}
	return list
}

// blocksSince returns the blocks of the frames of a volume from a number on, in ascending order, apart from the program.
func blocksSince(v impl.Volume, seq int) []int {
	var list []int
	for _, x := range foundOn(v.Dev) {
		if x.Frame.Seq >= seq {
			list = append(list, blocksOfFrame(x.Frame)...)
		}
	}
	slices.Sort(list)
	return list
}

// Blocks that are told anew by a later zone, with a value or without one, are not copied: many choices of blocks, where six are hot
// and five cold.
func TestVolumeCopyOfBlocksThatAreToldAnew(t *testing.T) {
	hot, cold := someOf(6, 5)
	for set := blockSet(0); set < blockSets; set += 5 {
		list := set.blocks()
		v, _ := aged(age{hot: hot, cold: cold, order: []int{0, 3, 2}, words: 6, last: 200})
		for some := range slices.Chunk(list, packMax) {
			pairs := differentPairs(some...)
			for i := range pairs {
				pairs[i].Value *= (pairs[i].Block + int(set)) % 3 % 2
			}
			v, _ = appended(v, hotFrame(pairs...), 0)
		}
		c, _ := wantBoth(t, v, volDone)
		// One block is neither hot nor cold in the oldest zone.
		want := withNoOther(list, withNoOther(hot, cold))
		wantList(t, blocksSince(c, v.Seq), want, "the blocks that are copied of %v", v)
		wantList(t, impl.VolumeAll(c), impl.VolumeAll(v), "VolumeAll after VolumeCopy(%v)", v)
	}
}

// The last numbers of frames, with copies that go into the current zone and into the next one. If there is a number for the first
// copy and none for the last one, nothing is copied. Without a copy, no number is needed.
func TestVolumeCopyUpToTheLastNumber(t *testing.T) {
	for _, n := range []struct{ hot, cold, frames int }{{0, 0, 0}, {3, 0, 1}, {0, 4, 1}, {pairMax + 1, 0, 2}, {2, 2, 2}, {0, packMax + 2, 2}, {3, packMax + 1, 3}} {
		for last := seqMax - 4; last <= seqMax; last++ {
			for _, words := range []int{20, 30, 40, 50, 60} {
				for _, order := range [][]int{{2, 0}, {1, 3, 2}, {0, 3}} {
					hot, cold := someOf(n.hot, n.cold)
					v := agedNear(age{hot: hot, cold: cold, order: order, words: words, last: last}, 1)
					code, seq := volDone, last+1+n.frames
					if n.frames > seqMax-last {
						code, seq = volFull, last+1
					}
					c, after := wantBoth(t, v, code)
					if c.Seq != seq || after.Seq != seq {
						t.Fatalf("VolumeCopy and VolumeCollect of %v lead to the numbers %d and %d; want %d", v, c.Seq, after.Seq, seq)
					}
				}
			}
		}
	}
}

// VolNone is checked ahead of room and numbers: all frames are in one zone without room, and all numbers are used.
func TestCollectionChecksTheOldestZoneFirst(t *testing.T) {
	for z := range zones {
		for _, last := range []int{20, seqMax} {
			wantBoth(t, crowdedVolume(z, zoneSize, nil, last), volNone)
			wantBoth(t, stocked(crowdedVolume(z, zoneSize, nil, last), objectMax, last < seqMax), volNone)
		}
		wantBoth(t, volumeOn(z, nil), volNone)
		wantBoth(t, volumeOn(z, objectsFrom(objectMax, 1, 1)), volNone)
		wantBoth(t, crowdedVolume(z, 0, []int{(z + 3) % zones}, 0), volNone)
	}
	wantBoth(t, blankVolume(), volNone)
}

// Promises 132 and 133, as the chapters before say it: nothing but the words, where blocks are and the number is changed.
func TestVolumeCopyChangesNoValue(t *testing.T) {
	doneCalls(t, 300, impl.VolumeCopy, func(v impl.Volume, after impl.Volume) {
		wantList(t, impl.VolumeAll(after), impl.VolumeAll(v), "VolumeAll after VolumeCopy(%v)", v)
		wantList(t, after.Heat, v.Heat, "the heat after VolumeCopy(%v)", v)
		oldest := impl.VolumeOldest(v)
		if !sameStore(after.Store, v.Store) || len(impl.MapIn(after.Map, oldest)) > 0 || !impl.VolumeValid(after) {
			t.Fatalf("VolumeCopy(%v) = %v", v, after)
		}
		for block, w := range v.Map {
			x := after.Map[block]
			if x.Tier != w.Tier || x.Id != w.Id || x.Index != w.Index {
				t.Fatalf("VolumeCopy(%v) = %v: the block %d was at %v, and is at %v", v, after, block, w, x)
			}
			if copied := w.Tier != tierNone && w.Zone == oldest; !copied && x != w {
				t.Fatalf("VolumeCopy(%v) = %v: the block %d was at %v, and is at %v", v, after, block, w, x)
			}
		}
		if !sameZone(after.Dev[oldest], v.Dev[oldest]) {
			t.Fatalf("VolumeCopy(%v) changed the oldest zone to %v", v, after.Dev[oldest])
		}
	})
}

// Promise 134.
func TestCollectionThatIsRefused(t *testing.T) {
	for name, call := range collectionCalls() {
		for _, v := range collectedVolumes() {
			after, code := call(v, nil)
			if (code == volNone) != (impl.VolumeOldest(v) == -1) || code == volInvalid {
				t.Fatalf("%s(%v) returned %d; the oldest zone is %d", name, v, code, impl.VolumeOldest(v))
			}
			if code != volDone && !sameVolume(v, after) {
				t.Fatalf("%s(%v) = %v, %d; want no change", name, v, after, code)
			}
		}
	}
}

// Promises 136 and 137, as the chapters before say it: the zone is open and without words, and free. One of the free zones may
// have been used.
func TestVolumeCollectMakesAZoneFree(t *testing.T) {
	more := map[int]int{}
	doneCalls(t, 300, impl.VolumeCollect, func(v impl.Volume, after impl.Volume) {
		oldest := impl.VolumeOldest(v)
		if !sameZone(after.Dev[oldest], impl.Zone{}) || after.Zone == oldest || !impl.VolumeValid(after) {
			t.Fatalf("VolumeCollect(%v) = %v; the oldest zone was %d", v, after, oldest)
		}
		wantLost(t, after, 0)
		wantList(t, impl.VolumeAll(after), impl.VolumeAll(v), "VolumeAll after VolumeCollect(%v)", v)
		wantList(t, after.Heat, v.Heat, "the heat after VolumeCollect(%v)", v)
		before, free := impl.VolumeFree(v), impl.VolumeFree(after)
		want := before + 1
		if after.Zone != v.Zone {
			want = before
		}
		if free != want || !sameStore(after.Store, v.Store) {
			t.Fatalf("VolumeCollect(%v) = %v, with %d free zones; want %d", v, after, free, want)
		}
		more[free-before]++
	})
	if more[0] < 50 || more[1] < 100 {
		t.Errorf("so many more zones were free: %v", more)
	}
}

// Promise 138, as the chapters before say it.
func TestVolumeCollectIsVolumeCopyAndMore(t *testing.T) {
	doneCalls(t, 300, impl.VolumeCollect, func(v impl.Volume, after impl.Volume) {
		want, code := impl.VolumeCopy(v)
		want, _ = impl.VolumeSync(want)
		want.Dev, _ = impl.DeviceReset(want.Dev, impl.VolumeOldest(v))
		wantVolume(t, after, volDone, want, code, "VolumeCollect(%v)", v)
	})
}

// What VolumeCopy copied is not copied again: neither by VolumeCopy nor by VolumeCollect, for which no room is needed then.
func TestCollectionAfterVolumeCopy(t *testing.T) {
	doneCalls(t, 300, impl.VolumeCopy, func(v impl.Volume, after impl.Volume) {
		again, code := impl.VolumeCopy(after)
		wantVolume(t, again, code, after, volDone, "VolumeCopy(%v)", after)
		want, _ := impl.VolumeCollect(v)
		got, code := impl.VolumeCollect(after)
		wantVolume(t, got, code, want, volDone, "VolumeCollect(%v) after VolumeCopy", after)
	})
}

// Copies that have no room have some when fewer blocks are left to be copied: without the two cold ones, one frame is enough.
func TestCollectionAfterItHadNoRoom(t *testing.T) {
	v, _ := aged(age{hot: []int{1, 2, 3}, cold: []int{5, 6}, order: []int{3, 1, 0, 2}, words: 45, last: 60})
	for range 3 {
		_, v = wantBoth(t, v, volFull)
	}
	v, _ = appended(v, hotFrame(pairsFrom(5, 2, 0)...), 0)
	c, after := wantBoth(t, v, volDone)
	wantList(t, blocksSince(c, v.Seq), []int{1, 2, 3}, "the blocks that are copied of %v", v)
	wantList(t, freeZones(after), []int{3}, "the free zones of %v", after)
}

// crashedVolumes returns the volumes with which these tests look at crashes.
func crashedVolumes() []impl.Volume {
	list := agedVolumes()
	for i, v := range movedVolumes() {
		if i%4 == 0 {
			list = append(list, v)
		}
	}
	return list
}

// lostCopies returns the copies, from a number on, that a crash with so many words kept loses, apart from the program.
func lostCopies(v impl.Volume, seq int, many int) []impl.Frame {
	var list []impl.Frame
	for _, x := range foundOn(v.Dev) {
		if end := x.At + len(laidOut(x.Frame)); x.Frame.Seq >= seq && end > v.Dev[x.Zone].Synced+many {
			list = append(list, x.Frame)
		}
	}
	return list
}

// wantSamePlaces requires that each block is in the same tier as before, and at the same place of the same object.
func wantSamePlaces(t *testing.T, got impl.Volume, v impl.Volume) {
	t.Helper()
	for block, w := range v.Map {
		if x := got.Map[block]; x.Tier != w.Tier || x.Id != w.Id || x.Index != w.Index {
			t.Fatalf("the block %d was at %v in %v, and is at %v in %v", block, w, v, x, got)
		}
	}
}

// Promise 135: crashes after VolumeCopy of a volume that was synced, with each number of words kept. The values are the same, and
// so are tiers and objects. The oldest zone tells about the blocks of those copies whose words are not all kept.
func TestCrashesAfterVolumeCopyOfSyncedVolumes(t *testing.T) {
	kept := map[string]int{}
	for _, v := range crashedVolumes() {
		v, _ := impl.VolumeSync(v)
		after, code := impl.VolumeCopy(v)
		if code != volDone {
			continue
		}
		wantCrashes(t, after, func(got impl.Volume, code int, many int) {
			lost := lostCopies(after, v.Seq, many)
			var left []int
			for _, f := range lost {
				left = append(left, blocksOfFrame(f)...)
			}
			slices.Sort(left)
			wantList(t, impl.MapIn(got.Map, oldestOn(v)), left, "the blocks of the oldest zone after VolumeCopy(%v) and VolumeCrash with %d words", v, many)
			wantList(t, impl.VolumeAll(got), impl.VolumeAll(v), "VolumeAll after VolumeCopy(%v) and VolumeCrash with %d words", v, many)
			wantSamePlaces(t, got, v)
			if code != volDone || got.Seq != after.Seq-len(lost) || !sameStore(got.Store, remaining(v.Store, impl.MapIds(v.Map))) {
				t.Fatalf("after VolumeCopy(%v), VolumeCrash with %d words = %v, %d", v, many, got, code)
			}
			kept[fmt.Sprint(got.Seq-v.Seq, " of ", after.Seq-v.Seq)]++
		})
	}
	for _, kind := range []string{"0 of 0", "0 of 1", "1 of 1", "0 of 2", "1 of 2", "2 of 2", "0 of 3", "1 of 3", "2 of 3", "3 of 3"} {
		if kept[kind] < 10 {
			t.Errorf("%s copies were kept %d times; want at least 10 of %v", kind, kept[kind], kept)
		}
	}
}

// A crash after VolumeCopy of a volume that was not synced leads to the values to which a crash ahead of it leads.
func TestCrashesAfterVolumeCopyOfOtherVolumes(t *testing.T) {
	less := 0
	for _, v := range crashedVolumes() {
		if after, code := impl.VolumeCopy(v); code == volDone {
			less += wantEarlierCrashes(t, "VolumeCopy", v, after)
		}
	}
	if less < 100 {
		t.Errorf("crashes led to earlier values %d times; want at least 100", less)
	}
}

// Promise 136: whatever is kept by a crash, and whether the volume was synced or not, nothing is lost after VolumeCollect but
// objects that no block needs.
func TestCrashesAfterVolumeCollect(t *testing.T) {
	doneCalls(t, 300, impl.VolumeCollect, func(v impl.Volume, after impl.Volume) {
		want := edited(after, func(c *impl.Volume) {
			c.Store, c.Heat = remaining(c.Store, idsOn(v.Map)), make([]int, blocks)
			// If the current zone has no words, another one without words may be the current one after a crash.
			c.Zone = currentOn(c.Dev)
		})
		for _, keep := range append(keepsFor(after.Dev), make([]int, zones)) {
			got, code := wantCrash(t, after, keep)
			wantVolume(t, got, code, want, volDone, "VolumeCrash(%v, %v)", after, keep)
			wantList(t, impl.VolumeAll(got), impl.VolumeAll(v), "VolumeAll after VolumeCollect(%v) and VolumeCrash with %v", v, keep)
		}
	})
}

// A crash interrupts VolumeCollect ahead of the words that last: it can be done again, and then the values are the same, and the
// zone is free.
func TestVolumeCollectAfterACrash(t *testing.T) {
	again := 0
	for _, v := range crashedVolumes() {
		v, _ := impl.VolumeSync(v)
		after, code := impl.VolumeCopy(v)
		if code != volDone || len(freeZones(v)) == 0 || v.Seq > seqMax-6 {
			continue
		}
		oldest := oldestOn(v)
		wantCrashes(t, after, func(got impl.Volume, _ int, many int) {
			if oldestOn(got) != oldest {
				t.Fatalf("after VolumeCopy(%v), VolumeCrash with %d words = %v", v, many, got)
			}
			got, code = wantCollect(t, got)
			wantList(t, impl.VolumeAll(got), impl.VolumeAll(v), "VolumeAll after VolumeCopy(%v), VolumeCrash with %d words and VolumeCollect", v, many)
			wantSamePlaces(t, got, v)
			if code != volDone || !slices.Contains(freeZones(got), oldest) {
				t.Fatalf("after VolumeCopy(%v) and VolumeCrash with %d words, VolumeCollect = %v, %d", v, many, got, code)
			}
			again++
		})
	}
	if again < 500 {
		t.Errorf("VolumeCollect was done %d times again; want at least 500", again)
	}
}

// VolumeCollect many times one after the other: as long as there is an oldest zone and room, the frames come into fewer zones, and
// at last into one.
func TestVolumeCollectUntilOneZoneIsLeft(t *testing.T) {
	times := map[int]int{}
	for _, v := range collectedVolumes() {
		values, code, many := impl.VolumeAll(v), volDone, 0
		for after := v; code == volDone; many++ {
			after, code = wantCollect(t, after)
			wantList(t, impl.VolumeAll(after), values, "VolumeAll after VolumeCollect(%v), and again", v)
			wantSamePlaces(t, after, v)
			if code == volNone && len(freeZones(after)) < zones-2 || many > 2*zones {
				t.Fatalf("VolumeCollect(%v), %d times again, returned %v, %d", v, many, after, code)
			}
		}
		if code == volNone {
			times[many-1]++
		}
	}
	for many := range zones {
		if times[many] < 20 {
			t.Errorf("VolumeCollect could be done %d times %d times; want at least 20 of %v", many, times[many], times)
		}
	}
}

// VolumeCollect makes room for writes until all numbers of frames are used. As one zone stays free for it, it always has room.
func TestVolumeCollectUntilAllNumbersAreUsed(t *testing.T) {
	for seed := range uint64(4) {
		r := rand.New(rand.NewPCG(91, seed))
		v, _ := impl.VolumeFormat(make([]impl.Zone, zones))
		values, collected := make([]int, blocks), 0
		for v.Seq <= seqMax {
			list := randomPairs(r)
			got, code := impl.VolumeWrite(v, list)
			if code == volFull {
				next := v.Seq + len(copiesOn(v))
				if v, code = wantCollect(t, v); (code == volDone) != (next <= seqMax+1) {
					t.Fatalf("VolumeCollect left %v, and returned %d", v, code)
				}
				if collected++; code == volFull {
					break
				}
				continue
			}
			v = got
			for _, p := range list {
				values[p.Block] = p.Value
			}
			wantList(t, impl.VolumeAll(v), values, "VolumeAll(%v)", v)
		}
		if v.Seq < seqMax-2 || collected < 100 {
			t.Errorf("VolumeCollect was called %d times up to %v", collected, v)
		}
	}
}

// Promises 131 to 138: invalid volumes.
func TestCollectionOfInvalidVolumes(t *testing.T) {
	for _, b := range brokenVolumes() {
		wantOldest(t, b.v, -1)
		for name, call := range collectionCalls() {
			got, code := call(b.v, nil)
			wantVolume(t, got, code, impl.Volume{}, volInvalid, "%s(%v)", name, b.v)
		}
	}
	wantOldest(t, impl.Volume{}, -1)
}

// randomCollection calls one function of the program with valid arguments, and returns what it returns, and what it should return.
// If the number of free zones is small, this is mostly VolumeCollect.
func randomCollection(r *rand.Rand, v impl.Volume) (string, impl.Volume, int, impl.Volume, int) {
	n := r.IntN(16)
	if n == 0 {
		got, code := impl.VolumeCopy(v)
		want, wantCode := afterCopy(v)
		return "VolumeCopy", got, code, want, wantCode
	}
	if n == 1 || n < 12 && len(freeZones(v)) < 2 {
		got, code := impl.VolumeCollect(v)
		want, wantCode := afterCollection(v)
		return "VolumeCollect", got, code, want, wantCode
	}
	return randomTierCall(r, v)
}

// Promises 131 to 138: whatever is done one after the other. VolumeCollect alone makes room, and always has room itself.
func TestManyCollectionsOneAfterTheOther(t *testing.T) {
	seen := manyCalls(t, rand.New(rand.NewPCG(93, 94)), randomCollection, copiedVolume)
	for _, name := range []string{"VolumeCopy0", "VolumeCopy2", "VolumeCollect0", "VolumeCollect2", "VolumeWrite0", "VolumeDemote0", "VolumePromote0", "VolumeSweep0"} {
		if seen[name] < 20 {
			t.Errorf("%s was seen %d times; want at least 20 of %v", name, seen[name], seen)
		}
	}
	if seen["VolumeCopy1"]+seen["VolumeCollect1"] > 0 {
		t.Errorf("there was no room: %v", seen)
	}
}

// collectionCalls returns the functions of the chapter that return a volume.
func collectionCalls() map[string]func(impl.Volume, []impl.Pair) (impl.Volume, int) {
	return map[string]func(impl.Volume, []impl.Pair) (impl.Volume, int){
		"VolumeCopy":    func(v impl.Volume, _ []impl.Pair) (impl.Volume, int) { return impl.VolumeCopy(v) },
		"VolumeCollect": func(v impl.Volume, _ []impl.Pair) (impl.Volume, int) { return impl.VolumeCollect(v) },
	}
}

// General rules: arguments, valid or not, are not changed, and results share no memory, also if a volume is returned unchanged.
func TestCollectionKeepsArgumentsAndSharesNoMemory(t *testing.T) {
	calls := collectionCalls()
	calls["VolumeOldest"] = func(v impl.Volume, _ []impl.Pair) (impl.Volume, int) { return impl.Volume{}, impl.VolumeOldest(v) }
	for name, call := range calls {
		for _, v := range slices.Concat(crashedVolumes(), fewBroken()) {
			checkVolumeMemory(t, name, call, v, nil)
		}
	}
}

// General rules: the parts of a volume may share memory in the argument, and do not in the result.
func TestCollectionOfPartsThatShareMemory(t *testing.T) {
	for name, call := range collectionCalls() {
		for _, apart := range append(agedVolumes(), hotVolume(nil), knownVolume(), freshVolume()) {
			checkSharing(t, name, call, apart, nil)
		}
		// Two objects have the same values, and one of them begins behind the other one.
		values := []int{9, 8, 7, 6, 5, 4}
		s := []impl.Object{{Id: 3, Values: values}, {Id: 4, Values: values[2:]}, {Id: 5, Values: values[:1]}}
		v := volumeOn(0, s, []impl.Frame{places(3, 3, 0, 1, 2)}, nil, []impl.Frame{places(1, 3, 7, 8), places(2, 4, 5, 6)})
		got, code := call(v, nil)
		if code != volDone {
			t.Fatalf("%s(%v) = %v, %d", name, v, got, code)
		}
		checkVolumeApart(t, name, got)
		wantList(t, values, []int{9, 8, 7, 6, 5, 4}, "the values")
	}
}

// General rules: nil and empty slices are equivalent, as arguments.
func TestCollectionWithNilAndEmptySlices(t *testing.T) {
	empty := impl.Volume{Dev: []impl.Zone{}, Store: []impl.Object{}, Map: []impl.Where{}, Heat: []int{}}
	v := volumeOn(3, nil, nil, []impl.Frame{valueFrame(2, 4, 5), valueFrame(4, 5, 6)}, nil, []impl.Frame{valueFrame(8, 5, 7)})
	bare := edited(v, func(v *impl.Volume) {
		v.Store = []impl.Object{}
		v.Dev[0].Words, v.Dev[2].Words = []int{}, []int{}
	})
	for name, call := range collectionCalls() {
		want, code := call(v, nil)
		got, again := call(bare, nil)
		wantVolume(t, got, again, want, code, "%s(%v)", name, v)
		got, code = call(empty, nil)
		wantVolume(t, got, code, impl.Volume{}, volInvalid, "%s", name)
	}
	wantOldest(t, bare, 1)
	wantOldest(t, empty, -1)
}

// What a call returns does not depend on others at the same time, even for the same argument.
func TestCollectionAtTheSameTime(t *testing.T) {
	v := freshVolume()
	copies, _ := afterCopy(v)
	left, _ := afterCollection(v)
	var calls sync.WaitGroup
	for range 8 {
		calls.Go(func() {
			for range 200 {
				if got, code := impl.VolumeCopy(v); code != volDone || !sameVolume(got, copies) {
					t.Errorf("VolumeCopy(%v) = %v, %d; want %v", v, got, code, copies)
				}
				if got, code := impl.VolumeCollect(v); code != volDone || !sameVolume(got, left) {
					t.Errorf("VolumeCollect(%v) = %v, %d; want %v", v, got, code, left)
				}
				if z := impl.VolumeOldest(v); z != 3 {
					t.Errorf("VolumeOldest(%v) = %d; want 3", v, z)
				}
			}
		})
	}
	calls.Wait()
}

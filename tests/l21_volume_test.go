package tests

import (
	"fmt"
	"math"
	"math/rand/v2"
	"slices"
	"testing"

	"loop.example/tiervolume/impl"
)

// As in the tests of frames, the numbers of the document are written out.
const (
	volDone    = 0
	volFull    = 1
	volNone    = 2
	volInvalid = 3
)

// copiedVolume returns a volume in memory of its own.
func copiedVolume(v impl.Volume) impl.Volume {
	v.Dev, v.Store = copied(v.Dev), copiedStore(v.Store)
	v.Map, v.Heat = slices.Clone(v.Map), slices.Clone(v.Heat)
	return v
}

// sameVolume reports whether two volumes are equal.
func sameVolume(a, b impl.Volume) bool {
	return sameDevice(a.Dev, b.Dev) && sameStore(a.Store, b.Store) && slices.Equal(a.Map, b.Map) && slices.Equal(a.Heat, b.Heat) &&
		a.Seq == b.Seq && a.Zone == b.Zone
}

// edited returns a volume, in memory of its own, in which something was changed.
func edited(v impl.Volume, change func(v *impl.Volume)) impl.Volume {
	c := copiedVolume(v)
	change(&c)
	return c
}

// blankVolume returns what VolumeFormat returns of valid devices, apart from the program.
func blankVolume() impl.Volume {
	return volumeOn(0, nil)
}

// volumeOn returns a volume whose first zones have some frames, apart from the program. All zones but the current one are closed
// if they have words, and all of these last; those of the current zone do not.
func volumeOn(current int, s []impl.Object, logs ...[]impl.Frame) impl.Volume {
	v := impl.Volume{Dev: make([]impl.Zone, zones), Store: s, Heat: make([]int, blocks), Zone: current}
	for z, frames := range logs {
		words := laidOut(frames...)
		v.Dev[z] = impl.Zone{Words: words, Synced: len(words), Full: len(words) > 0}
	}
	v.Dev[current].Synced, v.Dev[current].Full = 0, false
	return mapped(v)
}

// mapped returns a volume with the map and the number that arise from its device, apart from the program.
func mapped(v impl.Volume) impl.Volume {
	list := foundOn(v.Dev)
	v.Map, v.Seq = toldAll(list), 1
	if len(list) > 0 {
		v.Seq = list[len(list)-1].Frame.Seq + 1
	}
	return v
}

// places returns a KindCold frame with some blocks, whose values are in an object, in order.
func places(seq int, id int, blocks ...int) impl.Frame {
	var list []impl.Cold
	for i, block := range blocks {
		list = append(list, impl.Cold{Block: block, Id: id, Index: i})
	}
	return numbered(seq, coldFrame(list...))
}

// knownVolume returns a volume with frames in three zones, hot and cold blocks, blocks without a value, and an object of no
// block. Some words of the current zone last. The numbers of frames do not follow each other, and neither do the zones.
func knownVolume() impl.Volume {
	s := []impl.Object{{Id: 4, Values: []int{6, 7, 21}}, {Id: 40, Values: []int{33}}, {Id: 800, Values: []int{99}}}
	v := volumeOn(1, s,
		[]impl.Frame{places(9, 4, 1, 2), valueFrame(10, 4, 9)},
		[]impl.Frame{numbered(11, hotFrame(impl.Pair{Block: 0, Value: 50}, impl.Pair{Block: 4, Value: 0})), valueFrame(20, 5, valueMax), places(21, 800, 11)},
		[]impl.Frame{numbered(3, hotFrame(pairsFrom(0, 3, 5)...)), valueFrame(4, 3, 8)},
	)
	v.Dev[1].Synced = 8
	v.Heat = []int{0, 100, 95, 90, 89, 1, 0, 50, 0, 0, 91, 7}
	return v
}

// filling returns frames that have together so many words, 0, 6, 7, 8, 10 or at least 12, with numbers from first on. An odd
// number of words has a frame with a place of the object 5.
func filling(words int, first int) []impl.Frame {
	var list []impl.Frame
	if words%2 == 1 {
		list = append(list, places(first, 5, 11))
		words -= 7
	}
	for words > 0 {
		pairs := min(pairMax, (words-4)/2)
		// What is left must be enough for one more frame.
		if left := words - 2*pairs - 4; left > 0 && left < 6 {
			pairs -= 3
		}
		list = append(list, numbered(first+len(list), hotFrame(pairsFrom(len(list)%3, pairs, 1+len(list))...)))
		words -= 2*pairs + 4
	}
	return list
}

// crowdedVolume returns a volume whose current zone has so many words, and in which some other zones have words, too. The last
// number of its frames is given.
func crowdedVolume(current int, words int, others []int, last int) impl.Volume {
	logs := make([][]impl.Frame, zones)
	frames := filling(words, 0)
	for i := range frames {
		frames[i].Seq = last - len(frames) + 1 + i
	}
	logs[current] = frames
	for i, z := range others {
		logs[z] = []impl.Frame{valueFrame(1+i, 8+i, 20+i)}
	}
	v := volumeOn(current, []impl.Object{{Id: 5, Values: []int{44}}}, logs...)
	v.Dev[current].Synced = words / 2
	return v
}

// otherZones returns each choice of zones that are not the current one, those without any and with all included.
func otherZones(current int) [][]int {
	lists := [][]int{nil}
	for z := range zones {
		if z != current {
			for _, list := range lists {
				lists = append(lists, append(slices.Clone(list), z))
			}
		}
	}
	return lists
}

// freeZones returns the free zones of a volume, apart from the program.
func freeZones(v impl.Volume) []int {
	var list []int
	for z := range zones {
		if len(v.Dev[z].Words) == 0 && z != v.Zone {
			list = append(list, z)
		}
	}
	return list
}

// valueOn returns the value of a block of a valid volume, apart from the program: that of the last frame with the block.
func valueOn(v impl.Volume, block int) int {
	value := 0
	for _, x := range foundOn(v.Dev) {
		for i, w := range x.Frame.Body {
			switch {
			case x.Frame.Kind == kindHot && i%2 == 1 && x.Frame.Body[i-1] == block:
				value = w
			case x.Frame.Kind == kindCold && i%3 == 0 && w == block:
				value = objectValue(v.Store, x.Frame.Body[i+1], x.Frame.Body[i+2])
			}
		}
	}
	return value
}

// objectValue returns a value of a store, or 0 if it is not there (any more), apart from the program.
func objectValue(s []impl.Object, id int, index int) int {
	for _, o := range s {
		if o.Id == id && index < len(o.Values) {
			return o.Values[index]
		}
	}
	return 0
}

// valuesOn returns the values of all blocks of a valid volume, apart from the program.
func valuesOn(v impl.Volume) []int {
	var all []int
	for block := range blocks {
		all = append(all, valueOn(v, block))
	}
	return all
}

// usedHeat returns heat after some blocks were used, apart from the program.
func usedHeat(h []int, list ...int) []int {
	c := slices.Clone(h)
	for _, block := range list {
		c[block] += heatTouch
		if c[block] > heatMax {
			c[block] = heatMax
		}
	}
	return c
}

// blocksOf returns the blocks of values.
func blocksOf(list []impl.Pair) []int {
	var some []int
	for _, p := range list {
		some = append(some, p.Block)
	}
	return some
}

// appended returns a volume behind whose last frame there is a further one, apart from the program, and whether this is possible
// with so many free zones left; if not, it returns the volume as it is. The number of the frame does not matter.
func appended(v impl.Volume, f impl.Frame, left int) (impl.Volume, bool) {
	c := copiedVolume(v)
	f.Seq = v.Seq
	words, free := laidOut(f), freeZones(v)
	if len(c.Dev[c.Zone].Words)+len(words) > zoneSize {
		if len(free) == 0 {
			return c, false
		}
		c.Dev = synced(c.Dev)
		c.Dev[c.Zone].Full = true
		c.Zone, free = free[0], free[1:]
	}
	if len(free) < left || v.Seq > seqMax {
		return copiedVolume(v), false
	}
	zone := &c.Dev[c.Zone]
	c.Map = told(c.Map, f, c.Zone, len(zone.Words))
	zone.Words = append(zone.Words, words...)
	c.Seq++
	return c, true
}

// afterWrite returns what VolumeWrite returns of a valid volume and valid values, apart from the program.
func afterWrite(v impl.Volume, list []impl.Pair) (impl.Volume, int) {
	c, ok := appended(v, hotFrame(list...), 1)
	if !ok {
		return c, volFull
	}
	c.Heat = usedHeat(c.Heat, blocksOf(list)...)
	return c, volDone
}

// afterDemote returns a volume in which some hot blocks are cold, or the volume as it is if there is no room.
func afterDemote(v impl.Volume, some []int) impl.Volume {
	all := valuesOn(v)
	var values []int
	for _, block := range some {
		values = append(values, all[block])
	}
	if len(some) == 0 || len(v.Store) == objectMax || slices.Contains(numbers(v.Store), v.Seq) {
		return v
	}
	c, ok := appended(v, places(0, v.Seq, some...), 1)
	if ok {
		c.Store = stored(c.Store, v.Seq, values)
	}
	return c
}

// afterCollect returns a volume without the words of its first zone that are not needed any more as all that they tell was
// copied, or the volume as it is if there is no room.
func afterCollect(v impl.Volume) impl.Volume {
	list := foundOn(v.Dev)
	if len(list) == 0 || list[len(list)-1].Zone == list[0].Zone {
		return v
	}
	oldest, c, ok := list[0].Zone, v, true
	for block, w := range v.Map {
		f := hotFrame(impl.Pair{Block: block, Value: valueOn(v, block)})
		if w.Tier == tierCold {
			f = coldFrame(impl.Cold{Block: block, Id: w.Id, Index: w.Index})
		}
		if w.Tier != tierNone && w.Zone == oldest && ok {
			c, ok = appended(c, f, 0)
		}
	}
	if !ok {
		return v
	}
	c = copiedVolume(c)
	c.Dev = withZone(synced(c.Dev), oldest, impl.Zone{})
	return c
}

// randomPairs returns valid values, of which some are 0.
func randomPairs(r *rand.Rand) []impl.Pair {
	var list []impl.Pair
	for _, block := range someBlocks(r, 1+r.IntN(pairMax)) {
		list = append(list, impl.Pair{Block: block, Value: max(0, r.IntN(valueMax+21)-20)})
	}
	return list
}

// afterAnything returns a volume to which something was done, apart from the program.
func afterAnything(r *rand.Rand, v impl.Volume) impl.Volume {
	c := copiedVolume(v)
	switch r.IntN(10) {
	case 0:
		c.Dev = synced(c.Dev)
	case 1, 2:
		hot := impl.MapTier(c.Map, tierHot)
		return afterDemote(c, hot[:min(len(hot), 1+r.IntN(packMax))])
	case 3:
		c.Heat = usedHeat(c.Heat, someBlocks(r, r.IntN(blocks))...)
	case 4:
		c.Store = remaining(c.Store, impl.MapIds(c.Map))
	case 5:
		if len(freeZones(c)) < 2 {
			return afterCollect(c)
		}
	default:
		c, _ = afterWrite(c, randomPairs(r))
	}
	return c
}

// histories returns volumes to which many things were done, one after the other, apart from the program.
func histories() []impl.Volume {
	var list []impl.Volume
	r := rand.New(rand.NewPCG(61, 62))
	for range 8 {
		v := blankVolume()
		for i := range 80 {
			v = afterAnything(r, v)
			if i%3 == 0 {
				list = append(list, v)
			}
		}
	}
	return list
}

// plainVolumes returns volumes that matter: without frames, with one or several zones with words, with the least and the largest
// numbers of frames, without words in the current zone, and with all zones full.
func plainVolumes() []impl.Volume {
	list := []impl.Volume{blankVolume(), volumeOn(2, nil), volumeOn(zones-1, objectsFrom(objectMax, 3, 4)), knownVolume()}
	for current := range zones {
		list = append(list, volumeOn(current, nil, []impl.Frame{valueFrame(1, 3, 5)}), crowdedVolume(current, zoneSize, nil, 12))
		for _, others := range otherZones(current) {
			list = append(list, crowdedVolume(current, 0, others, 0), crowdedVolume(current, 50, others, 30))
		}
		for _, last := range []int{seqMax - 2, seqMax - 1, seqMax} {
			list = append(list, crowdedVolume(current, 20, []int{(current + 1) % zones}, last))
		}
	}
	// No word of the current zone lasts, or all of them do; no frame is left of what was cold once; the same place is told twice.
	list = append(list, edited(knownVolume(), func(v *impl.Volume) { v.Dev[1].Synced = 0 }))
	list = append(list, edited(knownVolume(), func(v *impl.Volume) { v.Dev = synced(v.Dev) }))
	s := []impl.Object{{Id: 7, Values: []int{1, 2, 3, 4, 5, valueMax}}}
	list = append(list, volumeOn(0, s, []impl.Frame{places(1, 7, 0, 2, 4, 6, 8, 10), numbered(2, hotFrame(pairsFrom(2, pairMax, 0)...))}))
	list = append(list, volumeOn(3, s, []impl.Frame{numbered(5, coldFrame(coldFrom(3, packMax, 7, 5)...))}))
	return list
}

// someVolumes returns plain volumes and ones that have a history. All of them are valid.
func someVolumes() []impl.Volume {
	return append(plainVolumes(), histories()...)
}

// mapBy returns the map of ScanMap, apart from the program, and whether it succeeds.
func mapBy(list []impl.Found) ([]impl.Where, bool) {
	last := 0
	for _, x := range list {
		_, fine := impl.PairsGet(x.Frame.Body)
		if x.Frame.Kind == kindCold {
			_, fine = impl.ColdGet(x.Frame.Body)
		}
		if !fine || x.Frame.Seq <= last {
			return nil, false
		}
		last = x.Frame.Seq
	}
	return toldAll(list), true
}

// follow reports whether the frames of each zone follow each other, apart from the program: then, the frames of all zones, one
// zone after the other, are those of the device.
func follow(d []impl.Zone) bool {
	var lists [][]impl.Found
	for z, zone := range d {
		if list, _ := foundIn(zone.Words, z); len(list) > 0 {
			lists = append(lists, list)
		}
	}
	slices.SortStableFunc(lists, func(a, b []impl.Found) int { return byNumber(a[0], b[0]) })
	return sameFounds(slices.Concat(lists...), foundOn(d))
}

// lacksValue reports whether a cold block of a map is at a place where a store has no value.
func lacksValue(m []impl.Where, s []impl.Object) bool {
	for _, w := range m {
		if w.Tier == tierCold && objectValue(s, w.Id, w.Index) == 0 {
			return true
		}
	}
	return false
}

// brokenZones returns which rules for zones do not hold for a volume with valid parts, apart from the program.
func brokenZones(v impl.Volume) []string {
	var rules []string
	for z, zone := range v.Dev {
		if _, n := foundIn(zone.Words, z); n < len(zone.Words) {
			rules = append(rules, "words")
		}
		if z == v.Zone && zone.Full {
			rules = append(rules, "current")
		}
		if z != v.Zone && zone.Full != (len(zone.Words) > 0) {
			rules = append(rules, "closed")
		}
		if z != v.Zone && zone.Synced < len(zone.Words) {
			rules = append(rules, "last")
		}
	}
	return rules
}

// brokenRules returns which rules of the document do not hold for a volume, apart from the program. If a part is invalid, it
// tells only this.
func brokenRules(v impl.Volume) []string {
	if !impl.DeviceValid(v.Dev) || !impl.StoreValid(v.Store) || !impl.MapValid(v.Map) || !impl.HeatValid(v.Heat) || v.Zone < 0 || v.Zone >= zones {
		return []string{"part"}
	}
	rules, list := brokenZones(v), foundOn(v.Dev)
	if m, ok := mapBy(list); !ok || !slices.Equal(m, v.Map) {
		rules = append(rules, "map")
	}
	if !follow(v.Dev) {
		rules = append(rules, "follow")
	}
	if lacksValue(v.Map, v.Store) {
		rules = append(rules, "store")
	}
	seq := 1
	if len(list) > 0 {
		last := list[len(list)-1]
		seq = last.Frame.Seq + 1
		if last.Zone != v.Zone && len(v.Dev[v.Zone].Words) > 0 {
			rules = append(rules, "end")
		}
	}
	if v.Seq != seq {
		rules = append(rules, "number")
	}
	return rules
}

// A broken volume is one for which just one rule does not hold.
type broken struct {
	rule string
	v    impl.Volume
}

// without returns a known volume that was changed, so that a rule does not hold any more.
func without(rule string, change func(v *impl.Volume)) broken {
	return broken{rule, edited(knownVolume(), change)}
}

// brokenParts returns volumes with one invalid part each, or a current zone that is not there.
func brokenParts() []broken {
	list := []broken{{"part", impl.Volume{}}, {"part", impl.Volume{Seq: 1}}}
	for _, z := range badZones {
		list = append(list, without("part", func(v *impl.Volume) { v.Zone = z }))
		list = append(list, broken{"part", edited(blankVolume(), func(v *impl.Volume) { v.Zone = z })})
	}
	for _, s := range invalidStores() {
		list = append(list, broken{"part", edited(blankVolume(), func(v *impl.Volume) { v.Store = s })})
	}
	for _, m := range invalidMaps() {
		list = append(list, broken{"part", edited(blankVolume(), func(v *impl.Volume) { v.Map = m })})
	}
	for _, h := range invalidHeats() {
		list = append(list, without("part", func(v *impl.Volume) { v.Heat = h }))
	}
	for _, d := range invalidDevices() {
		list = append(list, broken{"part", edited(blankVolume(), func(v *impl.Volume) { v.Dev = d })})
	}
	for _, synced := range []int{-1, 1 + len(knownVolume().Dev[1].Words), math.MaxInt, math.MinInt} {
		list = append(list, without("part", func(v *impl.Volume) { v.Dev[1].Synced = synced }))
	}
	list = append(list, without("part", func(v *impl.Volume) { v.Dev = v.Dev[:zones-1] }))
	list = append(list, without("part", func(v *impl.Volume) { v.Dev = append(v.Dev, impl.Zone{}) }))
	list = append(list, without("part", func(v *impl.Volume) { v.Store = append(v.Store, v.Store[2]) }))
	list = append(list, without("part", func(v *impl.Volume) { v.Map = v.Map[:blocks-1] }))
	list = append(list, without("part", func(v *impl.Volume) { v.Map = append(v.Map, impl.Where{}) }))
	return list
}

// put puts words behind those of a zone, and makes them last in all zones but the current one.
func put(v *impl.Volume, z int, words ...int) {
	zone := &v.Dev[z]
	zone.Words = slices.Concat(zone.Words, words)
	if z != v.Zone {
		zone.Synced, zone.Full = len(zone.Words), true
	}
}

// brokenWords returns volumes with words that are no frame: in the current zone and in others, behind frames and alone, and the
// beginning of a frame or one with another sum.
func brokenWords() []broken {
	var list []broken
	f := valueFrame(22, 7, 7)
	for _, words := range [][]int{{0}, {1, 2, 3}, laidOut(f)[:5], laidOut(f)[:1], append(laidOut(f)[:5], 5), counting(6, 100)} {
		for z := range zones {
			list = append(list, without("words", func(v *impl.Volume) { put(v, z, words...) }))
			list = append(list, broken{"words", edited(blankVolume(), func(v *impl.Volume) { put(v, z, words...) })})
		}
	}
	return list
}

// brokenMarks returns volumes whose current zone is closed, and others whose other zones are closed or open, or have words that
// do not last, as they may not.
func brokenMarks() []broken {
	list := []broken{
		without("current", func(v *impl.Volume) { v.Dev[1].Full = true }),
		without("current", func(v *impl.Volume) { v.Dev[1].Full, v.Dev[1].Synced = true, len(v.Dev[1].Words) }),
		{"current", edited(blankVolume(), func(v *impl.Volume) { v.Dev[0].Full = true })},
		without("closed", func(v *impl.Volume) { v.Dev[3].Full = true }),
	}
	for z := 1; z < zones; z++ {
		list = append(list, broken{"closed", edited(blankVolume(), func(v *impl.Volume) { v.Dev[z].Full = true })})
	}
	for _, z := range []int{0, 2} {
		list = append(list, without("closed", func(v *impl.Volume) { v.Dev[z].Full = false }))
		list = append(list, without("last", func(v *impl.Volume) { v.Dev[z].Synced-- }))
		list = append(list, without("last", func(v *impl.Volume) { v.Dev[z].Synced = 0 }))
	}
	return list
}

// brokenMaps returns volumes with another map than the one that their frames tell: one block elsewhere, and what the map was
// ahead of the last frame; and others whose frames tell no map.
func brokenMaps() []broken {
	var list []broken
	elements := []impl.Where{{}, hotAt(1, 4), hotAt(1, 5), hotAt(0, 4), coldAt(0, 3, 4, 0), coldAt(0, 3, 4, 1), coldAt(1, 3, 4, 0), coldAt(0, 6, 4, 0), coldAt(0, 3, 40, 0)}
	for block, w := range knownVolume().Map {
		for _, other := range elements {
			if other != w {
				list = append(list, without("map", func(v *impl.Volume) { v.Map[block] = other }))
			}
		}
	}
	list = append(list, without("map", func(v *impl.Volume) { v.Map = mapOf() }))
	list = append(list, without("map", func(v *impl.Volume) { put(v, 1, laidOut(valueFrame(22, 7, 7))...); v.Seq = 23 }))
	list = append(list, broken{"map", edited(blankVolume(), func(v *impl.Volume) { v.Map[4] = hotAt(0, 4) })})
	// Frames with a body that is none of chapter 2, and twice the same number, in one zone and in two.
	for _, f := range []impl.Frame{shortFrame(22), numbered(22, hotFrame(pairsFrom(0, 1, valueMax+1)...)), numbered(22, hotFrame(make([]impl.Pair, 2)...)), {Kind: kindCold, Seq: 22, Body: []int{7, 4}}} {
		list = append(list, without("map", func(v *impl.Volume) { put(v, 1, laidOut(f)...); v.Seq = 23 }))
	}
	list = append(list, broken{"map", volumeOn(0, nil, []impl.Frame{valueFrame(5, 1, 2), valueFrame(5, 2, 3)})})
	list = append(list, broken{"map", volumeOn(1, nil, []impl.Frame{valueFrame(5, 1, 2)}, []impl.Frame{valueFrame(5, 2, 3)})})
	return list
}

// brokenLogs returns volumes whose frames are in another order: those of two zones mixed; those of one zone not in its order, so
// that a crash could remove another one than the last; and the last one in another zone than the current one.
func brokenLogs() []broken {
	frame := func(seq int) impl.Frame { return valueFrame(seq, seq%5, seq) }
	list := []broken{
		{"follow", volumeOn(1, nil, []impl.Frame{frame(1), frame(3)}, []impl.Frame{frame(2), frame(4)})},
		{"follow", volumeOn(1, nil, []impl.Frame{frame(2)}, []impl.Frame{frame(1), frame(3)})},
		{"follow", volumeOn(0, nil, []impl.Frame{frame(7)}, []impl.Frame{frame(1), frame(3)}, []impl.Frame{frame(2)})},
		{"follow", volumeOn(3, nil, []impl.Frame{frame(1), frame(9)}, []impl.Frame{frame(5)}, []impl.Frame{frame(7)}, nil)},
		{"follow", volumeOn(2, nil, []impl.Frame{frame(2), frame(5)}, nil, []impl.Frame{frame(6)}, []impl.Frame{frame(1), frame(3), frame(4)})},
		{"follow", volumeOn(0, nil, []impl.Frame{frame(2), frame(1)})},
		{"follow", volumeOn(1, nil, []impl.Frame{frame(1), frame(3), frame(2)}, []impl.Frame{frame(4), frame(5)})},
		{"follow", volumeOn(3, nil, []impl.Frame{frame(3), frame(2)})},
		{"end", volumeOn(0, nil, []impl.Frame{frame(1)}, []impl.Frame{frame(2)})},
		{"end", volumeOn(2, nil, []impl.Frame{frame(8), frame(9)}, []impl.Frame{frame(1)}, []impl.Frame{frame(6), frame(7)})},
		without("end", func(v *impl.Volume) { put(v, 3, laidOut(frame(30))...); *v = mapped(*v) }),
	}
	return list
}

// brokenStores returns volumes without an object, or with an object that is too short, of a cold block.
func brokenStores() []broken {
	return []broken{
		without("store", func(v *impl.Volume) { v.Store = nil }),
		without("store", func(v *impl.Volume) { v.Store = v.Store[1:] }),
		without("store", func(v *impl.Volume) { v.Store = v.Store[:2] }),
		without("store", func(v *impl.Volume) { v.Store[0].Id = 5 }),
		without("store", func(v *impl.Volume) { v.Store[2].Id = seqMax }),
		without("store", func(v *impl.Volume) { v.Store[0].Values = []int{6} }),
		{"store", volumeOn(0, []impl.Object{{Id: 7, Values: counting(packMax-1, 1)}}, []impl.Frame{places(1, 7, 0, 2, 4, 6, 8, 10)})},
		{"store", volumeOn(3, objectsFrom(objectMax, 1, 1), []impl.Frame{numbered(5, coldFrame(coldFrom(11, 1, 7, 0)...))})},
	}
}

// brokenNumbers returns volumes whose next frame has another number than the one behind the last frame, or than 1.
func brokenNumbers() []broken {
	var list []broken
	for _, seq := range []int{-1, 0, 1, 2, 3, 20, 21, 22, 23, seqMax, seqMax + 1, seqMax + 2, math.MinInt, math.MaxInt} {
		if seq != 22 {
			list = append(list, without("number", func(v *impl.Volume) { v.Seq = seq }))
		}
		if seq != 1 {
			list = append(list, broken{"number", edited(volumeOn(2, nil), func(v *impl.Volume) { v.Seq = seq })})
		}
		if seq != seqMax+1 {
			list = append(list, broken{"number", edited(crowdedVolume(1, 20, nil, seqMax), func(v *impl.Volume) { v.Seq = seq })})
		}
		// The current zone has no words.
		if seq != 2 {
			list = append(list, broken{"number", edited(crowdedVolume(1, 0, []int{0}, 0), func(v *impl.Volume) { v.Seq = seq })})
		}
	}
	return list
}

// brokenVolumes returns volumes for each of which just one rule does not hold.
func brokenVolumes() []broken {
	return slices.Concat(brokenParts(), brokenWords(), brokenMarks(), brokenMaps(), brokenLogs(), brokenStores(), brokenNumbers())
}

// fewBroken returns some of the broken volumes, at least three of each rule.
func fewBroken() []impl.Volume {
	var list []impl.Volume
	seen := map[string]int{}
	for _, b := range brokenVolumes() {
		if seen[b.rule]++; seen[b.rule] <= 3 || seen[b.rule]%50 == 0 {
			list = append(list, b.v)
		}
	}
	return list
}

// wantVolume requires the volume and the code that a function returned. The function and its arguments are named by a format and
// by what goes into it.
func wantVolume(t *testing.T, got impl.Volume, code int, want impl.Volume, wantCode int, format string, args ...any) {
	t.Helper()
	if code != wantCode || !sameVolume(got, want) {
		t.Fatalf("%s returned %v, %d; want %v, %d", fmt.Sprintf(format, args...), got, code, want, wantCode)
	}
}

// wantVolumeWrite requires what VolumeWrite returns of a valid volume and valid values, and returns it.
func wantVolumeWrite(t *testing.T, v impl.Volume, list []impl.Pair) (impl.Volume, int) {
	t.Helper()
	want, wantCode := afterWrite(v, list)
	got, code := impl.VolumeWrite(v, list)
	wantVolume(t, got, code, want, wantCode, "VolumeWrite(%v, %v)", v, list)
	return got, code
}

// wantNoVolumeWrite requires that VolumeWrite returns the zero value and VolInvalid.
func wantNoVolumeWrite(t *testing.T, v impl.Volume, list []impl.Pair) {
	t.Helper()
	got, code := impl.VolumeWrite(v, list)
	wantVolume(t, got, code, impl.Volume{}, volInvalid, "VolumeWrite(%v, %v)", v, list)
}

// wantRead requires what VolumeRead returns.
func wantRead(t *testing.T, v impl.Volume, block int, value int, code int) {
	t.Helper()
	if got, n := impl.VolumeRead(v, block); got != value || n != code {
		t.Fatalf("VolumeRead(%v, %d) = %d, %d; want %d, %d", v, block, got, n, value, code)
	}
}

func TestVolumeConstants(t *testing.T) {
	wantList(t, []int{impl.VolDone, impl.VolFull, impl.VolNone, impl.VolInvalid}, counting(4, 0), "the codes")
}

// The volumes of these tests are what they are meant to be.
func TestVolumesOfTheTests(t *testing.T) {
	for _, v := range someVolumes() {
		if rules := brokenRules(v); len(rules) > 0 {
			t.Fatalf("%v breaks %v", v, rules)
		}
	}
	seen := map[string]int{}
	for _, b := range brokenVolumes() {
		if rules := slices.Compact(brokenRules(b.v)); len(rules) != 1 || rules[0] != b.rule {
			t.Fatalf("%v breaks %v; want only %q", b.v, rules, b.rule)
		}
		seen[b.rule]++
	}
	if len(seen) != 10 {
		t.Errorf("the rules that are broken are %v; want ten", seen)
	}
}

// Promise 93.
func TestVolumeFormat(t *testing.T) {
	want := impl.Volume{Dev: make([]impl.Zone, zones), Map: mapOf(), Heat: make([]int, blocks), Seq: 1, Zone: 0}
	devices := append(scannedDevices(), knownVolume().Dev, synced(knownVolume().Dev))
	for _, d := range devices {
		v, code := impl.VolumeFormat(d)
		wantVolume(t, v, code, want, volDone, "VolumeFormat(%v)", d)
		if !impl.VolumeValid(v) || impl.VolumeFree(v) != zones-1 {
			t.Fatalf("VolumeFormat(%v) is not valid, or has %d free zones", d, impl.VolumeFree(v))
		}
		wantList(t, impl.VolumeAll(v), make([]int, blocks), "VolumeAll(%v)", v)
	}
}

// Promise 93.
func TestVolumeFormatOfInvalidDevices(t *testing.T) {
	for _, d := range invalidDevices() {
		v, code := impl.VolumeFormat(d)
		wantVolume(t, v, code, impl.Volume{}, volInvalid, "VolumeFormat(%v)", d)
	}
}

func TestVolumeValid(t *testing.T) {
	for _, v := range someVolumes() {
		if !impl.VolumeValid(v) {
			t.Fatalf("VolumeValid(%v) = false; want true", v)
		}
	}
	if impl.VolumeValid(impl.Volume{}) {
		t.Error("VolumeValid holds for the zero value")
	}
}

// Promises 94 and 95, and all other rules for volumes: each one is broken alone.
func TestVolumeValidLooksAtEachRule(t *testing.T) {
	for _, b := range brokenVolumes() {
		if impl.VolumeValid(b.v) {
			t.Fatalf("VolumeValid(%v) = true; want false: %s", b.v, b.rule)
		}
	}
}

// What the document does not rule out is valid: the last frame in another zone while the current one has no words; a number that
// no further frame can have; objects of no block; zones in any order; and frames whose numbers do not follow each other.
func TestVolumesThatAreValid(t *testing.T) {
	for _, v := range []impl.Volume{
		volumeOn(3, nil, nil, []impl.Frame{valueFrame(7, 1, 2)}),
		volumeOn(0, nil, nil, []impl.Frame{valueFrame(7, 1, 2)}, []impl.Frame{valueFrame(2, 1, 3)}, []impl.Frame{valueFrame(5, 1, 4)}),
		volumeOn(0, nil, []impl.Frame{valueFrame(seqMax, 1, 2)}),
		volumeOn(1, nil, []impl.Frame{valueFrame(1, 0, 0)}, []impl.Frame{valueFrame(seqMax, 1, 0)}),
		volumeOn(2, objectsFrom(objectMax, 990, 1)),
		volumeOn(1, nil, []impl.Frame{valueFrame(900, 1, 2)}, []impl.Frame{valueFrame(901, 2, 3)}, nil, []impl.Frame{valueFrame(3, 4, 5), valueFrame(700, 4, 6)}),
	} {
		if !impl.VolumeValid(v) {
			t.Errorf("VolumeValid(%v) = false; want true", v)
		}
	}
}

// oneChange changes any number of a volume, a mark of a zone, or an element.
func oneChange(r *rand.Rand, v *impl.Volume) {
	zone, near := &v.Dev[r.IntN(zones)], 1-2*r.IntN(2)
	switch r.IntN(9) {
	case 0:
		zone.Full = !zone.Full
	case 1:
		zone.Synced += near
	case 2:
		if n := len(zone.Words); n > 0 {
			zone.Words[r.IntN(n)] += near
		}
	case 3:
		v.Zone = r.IntN(zones)
	case 4:
		v.Seq += near
	case 5:
		v.Map[r.IntN(blocks)] = randomElement(r)
	case 6:
		if n := len(v.Store); n > 0 {
			v.Store = withoutObject(v.Store, r.IntN(n))
		}
	case 7:
		v.Heat[r.IntN(blocks)] = r.IntN(heatMax + 3)
	case 8:
		*zone = impl.Zone{Words: laidOut(valueFrame(1+r.IntN(30), r.IntN(blocks), r.IntN(90))), Full: true, Synced: 6}
	}
}

// VolumeValid holds if all rules do, whatever is changed, and whether the map and the number are changed with it.
func TestVolumeValidOfChangedVolumes(t *testing.T) {
	r := rand.New(rand.NewPCG(63, 64))
	seen := map[bool]int{}
	for _, v := range someVolumes() {
		for range 20 {
			c := edited(v, func(v *impl.Volume) { oneChange(r, v) })
			if impl.DeviceValid(c.Dev) && r.IntN(2) == 0 {
				if _, ok := mapBy(foundOn(c.Dev)); ok {
					c = mapped(c)
				}
			}
			rules := brokenRules(c)
			seen[len(rules) == 0]++
			if impl.VolumeValid(c) != (len(rules) == 0) {
				t.Fatalf("VolumeValid(%v) = %v; it breaks %v", c, impl.VolumeValid(c), rules)
			}
		}
	}
	if seen[true] < 500 || seen[false] < 500 {
		t.Errorf("of the volumes, %v were valid; want at least 500 of both", seen)
	}
}

// Promise 94, for what the program itself returns: a number greater than all others, and the map that ScanMap tells.
func TestVolumesHaveTheMapOfTheirFrames(t *testing.T) {
	for _, v := range someVolumes() {
		v, _ = impl.VolumeWrite(v, pairsFrom(1, 3, 8))
		list := impl.ScanDevice(v.Dev)
		if m, ok := impl.ScanMap(list); !ok || !slices.Equal(m, v.Map) {
			t.Fatalf("the map is %v; want %v", v.Map, m)
		}
		for _, x := range list {
			if x.Frame.Seq >= v.Seq {
				t.Fatalf("the next frame of %v has the number %d; there is %v", v, v.Seq, x)
			}
		}
	}
}

// Promise 95, for what the program itself returns.
func TestWordsOfOtherZonesLast(t *testing.T) {
	for _, v := range someVolumes() {
		v, _ = impl.VolumeWrite(v, pairsFrom(1, pairMax, 8))
		for z, zone := range v.Dev {
			if z != v.Zone && (zone.Synced != len(zone.Words) || zone.Full != (len(zone.Words) > 0)) {
				t.Fatalf("the zone %d of %v is %v", z, v, zone)
			}
		}
	}
}

// Promise 96: all numbers of free zones, and each current zone.
func TestVolumeFree(t *testing.T) {
	for current := range zones {
		for _, others := range otherZones(current) {
			for _, words := range []int{0, 6, 40, zoneSize} {
				v := crowdedVolume(current, words, others, 40)
				if words == 0 {
					v = crowdedVolume(current, 0, others, 0)
				}
				if n := impl.VolumeFree(v); n != zones-1-len(others) {
					t.Fatalf("VolumeFree(%v) = %d; want %d", v, n, zones-1-len(others))
				}
			}
		}
	}
	for _, v := range someVolumes() {
		if n := impl.VolumeFree(v); n != len(freeZones(v)) {
			t.Fatalf("VolumeFree(%v) = %d; want %d", v, n, len(freeZones(v)))
		}
	}
}

func TestVolumeReadOfAKnownVolume(t *testing.T) {
	v := knownVolume()
	want := []int{50, 6, 7, 8, 0, 99, 0, 0, 0, 0, 0, 99}
	wantList(t, impl.VolumeAll(v), want, "VolumeAll(%v)", v)
	for block, value := range want {
		code := volDone
		if value == 0 {
			code = volNone
		}
		wantRead(t, v, block, value, code)
	}
	wantList(t, impl.MapTier(v.Map, tierHot), []int{0, 3, 5}, "the hot blocks")
	wantList(t, impl.MapTier(v.Map, tierCold), []int{1, 2, 11}, "the cold blocks")
	for _, block := range badBlocks {
		wantRead(t, v, block, 0, volInvalid)
	}
}

// Promises 97 and 98.
func TestVolumeReadAndVolumeAll(t *testing.T) {
	for _, v := range someVolumes() {
		want := valuesOn(v)
		wantList(t, impl.VolumeAll(v), want, "VolumeAll(%v)", v)
		for block, value := range want {
			code := volDone
			if value == 0 {
				code = volNone
			}
			wantRead(t, v, block, value, code)
			if value < 0 || value > valueMax || (value == 0) != (v.Map[block].Tier == tierNone) {
				t.Fatalf("the value of block %d of %v is %d", block, v, value)
			}
		}
		for _, block := range badBlocks {
			wantRead(t, v, block, 0, volInvalid)
		}
	}
}

// Promise 99.
func TestVolumeUse(t *testing.T) {
	for _, v := range someVolumes() {
		for block := range blocks {
			got, code := impl.VolumeUse(v, block)
			want := edited(v, func(v *impl.Volume) { v.Heat = usedHeat(v.Heat, block) })
			wantVolume(t, got, code, want, volDone, "VolumeUse(%v, %d)", v, block)
		}
		for _, block := range badBlocks {
			got, code := impl.VolumeUse(v, block)
			wantVolume(t, got, code, impl.Volume{}, volInvalid, "VolumeUse(%v, %d)", v, block)
		}
	}
}

// Promise 99: up to the largest heat, and not beyond.
func TestVolumeUseUpToTheLargestHeat(t *testing.T) {
	for block := range blocks {
		for heat := range heatTouch {
			v := edited(knownVolume(), func(v *impl.Volume) { v.Heat = withNumber(allEqual(3), block, heat) })
			for i := 1; i < 14; i++ {
				v, _ = impl.VolumeUse(v, block)
				want := withNumber(allEqual(3), block, min(heatMax, heat+i*heatTouch))
				wantList(t, v.Heat, want, "the heat of VolumeUse %d times", i)
			}
		}
	}
}

// Promises 97, 98 and 99: reading makes no block hotter.
func TestVolumeReadChangesNoHeat(t *testing.T) {
	v := knownVolume()
	for block := range blocks {
		impl.VolumeRead(v, block)
	}
	impl.VolumeAll(v)
	if !sameVolume(v, knownVolume()) {
		t.Errorf("after reading, the volume is %v; want %v", v, knownVolume())
	}
}

func TestVolumeWriteOfKnownValues(t *testing.T) {
	v, code := impl.VolumeWrite(blankVolume(), []impl.Pair{{Block: 4, Value: 9}, {Block: 7, Value: 0}})
	want := impl.Volume{Dev: deviceOf(summed(1, 1, 4, 4, 9, 7, 0)), Map: mapOf(), Heat: make([]int, blocks), Seq: 2}
	want.Map[4], want.Heat[4], want.Heat[7] = hotAt(0, 4), 10, 10
	wantVolume(t, v, code, want, volDone, "VolumeWrite")
	// The block that was hot has no value any more, and the one that had none is hot.
	v, code = impl.VolumeWrite(v, []impl.Pair{{Block: 4, Value: 0}, {Block: 7, Value: 99}})
	want.Dev[0].Words = slices.Concat(want.Dev[0].Words, summed(1, 2, 4, 4, 0, 7, 99))
	want.Map, want.Seq = withElement(mapOf(), 7, hotAt(0, 14)), 3
	want.Heat[4], want.Heat[7] = 20, 20
	wantVolume(t, v, code, want, volDone, "VolumeWrite")
	wantRead(t, v, 7, 99, volDone)
	wantRead(t, v, 4, 0, volNone)
}

// Promises 100, 104 and 105: the values of cold blocks, too, of hot ones, and of those without a value.
func TestVolumeWriteOverAKnownVolume(t *testing.T) {
	v, code := impl.VolumeWrite(knownVolume(), []impl.Pair{{Block: 0, Value: 1}, {Block: 1, Value: 2}, {Block: 2, Value: 0}, {Block: 5, Value: 0}, {Block: 8, Value: 3}})
	want := knownVolume()
	want.Dev[1].Words = slices.Concat(want.Dev[1].Words, summed(1, 22, 10, 0, 1, 1, 2, 2, 0, 5, 0, 8, 3))
	for block, at := range map[int]int{0: 25, 1: 27, 8: 33} {
		want.Map[block] = hotAt(1, at)
	}
	want.Map[2], want.Map[5] = impl.Where{}, impl.Where{}
	want.Heat = []int{10, 100, 100, 90, 89, 11, 0, 50, 10, 0, 91, 7}
	want.Seq = 23
	wantVolume(t, v, code, want, volDone, "VolumeWrite")
	wantList(t, impl.VolumeAll(v), []int{1, 2, 0, 8, 0, 0, 0, 0, 3, 0, 0, 99}, "VolumeAll")
}

// Promises 100 to 105, and all that VolumeWrite returns.
func TestVolumeWrite(t *testing.T) {
	lists, seen := validPairs(), map[int]int{}
	for i, v := range someVolumes() {
		for j, list := range lists {
			if (i+j)%5 == 0 {
				_, code := wantVolumeWrite(t, v, list)
				seen[code]++
			}
		}
	}
	if seen[volDone] < 500 || seen[volFull] < 500 {
		t.Errorf("the codes were %v; want at least 500 times each", seen)
	}
}

// everyWrite calls with volumes, values, and what VolumeWrite returns.
func everyWrite(call func(v impl.Volume, list []impl.Pair, after impl.Volume, code int)) {
	lists := validPairs()
	for i, v := range someVolumes() {
		for j, list := range lists {
			if (i+j)%7 == 0 {
				after, code := impl.VolumeWrite(v, list)
				call(v, list, after, code)
			}
		}
	}
}

// Promises 100 and 103.
func TestVolumeWriteAndBack(t *testing.T) {
	back := map[int]int{}
	everyWrite(func(v impl.Volume, list []impl.Pair, after impl.Volume, code int) {
		if code != volDone {
			return
		}
		before := impl.VolumeAll(v)
		want, undo := slices.Clone(before), slices.Clone(list)
		for i, p := range list {
			want[p.Block], undo[i].Value = p.Value, before[p.Block]
		}
		wantList(t, impl.VolumeAll(after), want, "VolumeAll after VolumeWrite(%v, %v)", v, list)
		again, n := impl.VolumeWrite(after, undo)
		if back[n]++; n == volDone {
			want = before
		}
		wantList(t, impl.VolumeAll(again), want, "VolumeAll after VolumeWrite(%v, %v)", after, undo)
	})
	if back[volDone] < 500 || back[volFull] < 20 || len(back) != 2 {
		t.Errorf("writing back returned %v", back)
	}
}

// Promise 101.
func TestVolumeWriteLeavesAFreeZone(t *testing.T) {
	everyWrite(func(v impl.Volume, list []impl.Pair, after impl.Volume, code int) {
		if code != volDone {
			return
		}
		if rules := brokenRules(after); len(rules) > 0 || !impl.VolumeValid(after) {
			t.Fatalf("VolumeWrite(%v, %v) = %v, which breaks %v", v, list, after, rules)
		}
		many, before := len(impl.ScanDevice(after.Dev)), len(impl.ScanDevice(v.Dev))
		if many != before+1 || impl.VolumeFree(after) < 1 {
			t.Fatalf("VolumeWrite(%v, %v) = %v, with %d frames and %d free zones", v, list, after, many, impl.VolumeFree(after))
		}
	})
}

// Promise 102.
func TestVolumeWriteThatHasNoRoom(t *testing.T) {
	everyWrite(func(v impl.Volume, list []impl.Pair, after impl.Volume, code int) {
		if code != volDone && code != volFull {
			t.Fatalf("VolumeWrite(%v, %v) returned %d", v, list, code)
		}
		if code == volFull && (!sameVolume(v, after) || impl.VolumeFree(v) > 1 && v.Seq <= seqMax) {
			t.Fatalf("VolumeWrite(%v, %v) = %v, and has no room", v, list, after)
		}
	})
}

// Promises 104 and 105.
func TestVolumeWriteMakesBlocksHot(t *testing.T) {
	everyWrite(func(v impl.Volume, list []impl.Pair, after impl.Volume, code int) {
		if code != volDone {
			return
		}
		heat := v.Heat
		for _, p := range list {
			heat, _ = impl.HeatUse(heat, p.Block)
			tier := tierHot
			if p.Value == 0 {
				tier = tierNone
			}
			if after.Map[p.Block].Tier != tier {
				t.Fatalf("after VolumeWrite(%v, %v), the map is %v", v, list, after.Map)
			}
		}
		wantList(t, after.Heat, heat, "the heat after VolumeWrite(%v, %v)", v, list)
		if !sameStore(after.Store, v.Store) {
			t.Fatalf("VolumeWrite(%v, %v) changed the store to %v", v, list, after.Store)
		}
	})
}

// roomFor returns whether a frame with so many words has room behind some words of the current zone, with so many free zones, as
// the document says it: at least one free zone must be left.
func roomFor(size int, words int, free int) bool {
	if words+size <= zoneSize {
		return free >= 1
	}
	return free >= 2
}

// Promises 101 and 102: how many zones are left, with all numbers of words in the current zone, all other zones with and without
// words, and frames of all sizes. The frame that just fits stays in the current zone.
func TestVolumeWriteNeedsFreeZones(t *testing.T) {
	seen := map[string]int{}
	for current := range zones {
		for _, others := range otherZones(current) {
			for words := 38; words <= zoneSize; words++ {
				v := crowdedVolume(current, words, others, 30)
				for pairs := 1; pairs <= pairMax; pairs++ {
					got, code := wantVolumeWrite(t, v, pairsFrom(3, pairs, 7))
					free := zones - 1 - len(others)
					if (code == volDone) != roomFor(4+2*pairs, words, free) {
						t.Fatalf("VolumeWrite(%v) of %d values returned %d; %d zones are free", v, pairs, code, free)
					}
					fits := words+4+2*pairs <= zoneSize
					if code == volDone && fits != (got.Zone == current) {
						t.Fatalf("VolumeWrite(%v) of %d values leads to the zone %d", v, pairs, got.Zone)
					}
					seen[fmt.Sprint(code, free, fits)]++
				}
			}
		}
	}
	// Done and refused with each number of free zones, where the current zone changes and where it does not.
	for _, kind := range []string{"0 3 true", "0 3 false", "0 2 true", "0 2 false", "0 1 true", "1 1 false", "1 0 true", "1 0 false"} {
		if seen[kind] < 100 {
			t.Errorf("%s was seen %d times", kind, seen[kind])
		}
	}
	if len(seen) != 8 {
		t.Errorf("%v was seen; want eight kinds", seen)
	}
}

// Promise 101: what changes the current zone, exactly.
func TestVolumeWriteThatChangesTheZone(t *testing.T) {
	v := crowdedVolume(1, 60, []int{2}, 30)
	got, code := impl.VolumeWrite(v, pairsFrom(5, 1, 3))
	want := edited(v, func(v *impl.Volume) {
		v.Dev[1].Full, v.Dev[1].Synced = true, 60
		v.Dev[0].Words = summed(1, 31, 2, 5, 3)
		v.Map[5], v.Heat[5] = hotAt(0, 4), 10
		v.Seq, v.Zone = 32, 0
	})
	wantVolume(t, got, code, want, volDone, "VolumeWrite(%v)", v)
	// With just as much room as is needed, nothing but the current zone is changed, and none of its words is made to last.
	v = crowdedVolume(1, 58, []int{2, 3}, 30)
	got, code = impl.VolumeWrite(v, pairsFrom(5, 1, 3))
	want = edited(v, func(v *impl.Volume) {
		v.Dev[1].Words = slices.Concat(v.Dev[1].Words, summed(1, 31, 2, 5, 3))
		v.Map[5], v.Heat[5] = hotAt(1, 62), 10
		v.Seq = 32
	})
	wantVolume(t, got, code, want, volDone, "VolumeWrite(%v)", v)
	// The last free zone is not used.
	v = crowdedVolume(1, 59, []int{2, 3}, 30)
	got, code = impl.VolumeWrite(v, pairsFrom(5, 1, 3))
	wantVolume(t, got, code, v, volFull, "VolumeWrite(%v)", v)
	// Without a free zone, nothing is written, although the current zone has room.
	v = crowdedVolume(1, 0, []int{0, 2, 3}, 0)
	got, code = impl.VolumeWrite(v, pairsFrom(5, 1, 3))
	wantVolume(t, got, code, v, volFull, "VolumeWrite(%v)", v)
}

// The free zone with the least number becomes the current one, behind or ahead of the one before.
func TestVolumeWriteUsesTheFirstFreeZone(t *testing.T) {
	for current := range zones {
		for _, others := range otherZones(current) {
			v := crowdedVolume(current, zoneSize, others, 30)
			free := freeZones(v)
			if len(free) < 2 {
				continue
			}
			if got, code := wantVolumeWrite(t, v, pairsFrom(0, pairMax, 9)); code != volDone || got.Zone != slices.Min(free) {
				t.Fatalf("VolumeWrite(%v) leads to the zone %d; want %d", v, got.Zone, slices.Min(free))
			}
		}
	}
}

// Promises 101 and 102: the last numbers of frames.
func TestVolumeWriteUpToTheLastNumber(t *testing.T) {
	for _, words := range []int{0, 20, 63} {
		for _, others := range [][]int{nil, {0}, {0, 3}} {
			for last := seqMax - 2; last <= seqMax; last++ {
				v := crowdedVolume(1, words, others, last)
				if words == 0 {
					v = volumeOn(1, nil, nil, nil, []impl.Frame{valueFrame(last, 1, 2)})
				}
				got, code := wantVolumeWrite(t, v, pairsFrom(2, 2, 5))
				if done := last < seqMax && (words < 60 || len(others) < 2); done != (code == volDone) {
					t.Fatalf("VolumeWrite(%v) returned %d", v, code)
				}
				if code == volDone && got.Seq != last+2 {
					t.Fatalf("VolumeWrite(%v) leads to the number %d", v, got.Seq)
				}
			}
		}
	}
	// With all numbers used, the volume can still be read, used and made to last.
	v := crowdedVolume(1, 20, nil, seqMax)
	wantList(t, impl.VolumeAll(v), valuesOn(v), "VolumeAll(%v)", v)
	_, first := impl.VolumeUse(v, 3)
	_, second := impl.VolumeSync(v)
	if first != volDone || second != volDone || impl.VolumeFree(v) != 3 {
		t.Errorf("a volume without numbers returned %d and %d", first, second)
	}
}

// General rules: invalid values are refused ahead of all else, also if there is no room.
func TestVolumeWriteOfInvalidValues(t *testing.T) {
	full, unnumbered := crowdedVolume(1, 60, []int{0, 2, 3}, 30), crowdedVolume(1, 20, nil, seqMax)
	for _, v := range []impl.Volume{blankVolume(), knownVolume(), full, unnumbered} {
		for _, list := range invalidPairs() {
			wantNoVolumeWrite(t, v, list)
		}
	}
}

// Promise 106.
func TestVolumeSync(t *testing.T) {
	for _, v := range someVolumes() {
		got, code := impl.VolumeSync(v)
		want := edited(v, func(v *impl.Volume) { v.Dev = synced(v.Dev) })
		wantVolume(t, got, code, want, volDone, "VolumeSync(%v)", v)
		device, _ := impl.DeviceSync(v.Dev)
		if !sameDevice(got.Dev, device) {
			t.Fatalf("VolumeSync(%v) has the device %v; want %v", v, got.Dev, device)
		}
		again, code := impl.VolumeSync(got)
		wantVolume(t, again, code, want, volDone, "VolumeSync(%v)", got)
	}
}

// Promise 106: all words of the current zone last, some, and none.
func TestVolumeSyncOfKnownVolumes(t *testing.T) {
	for last := range len(knownVolume().Dev[1].Words) + 1 {
		v := edited(knownVolume(), func(v *impl.Volume) { v.Dev[1].Synced = last })
		got, code := impl.VolumeSync(v)
		want := edited(v, func(v *impl.Volume) { v.Dev[1].Synced = 21 })
		wantVolume(t, got, code, want, volDone, "VolumeSync(%v)", v)
	}
}

// wantNothingOfVolume requires what each function returns of an invalid volume.
func wantNothingOfVolume(t *testing.T, v impl.Volume) {
	t.Helper()
	if impl.VolumeValid(v) || impl.VolumeFree(v) != -1 {
		t.Fatalf("VolumeValid(%v) = %v, VolumeFree = %d; want false and -1", v, impl.VolumeValid(v), impl.VolumeFree(v))
	}
	wantList(t, impl.VolumeAll(v), nil, "VolumeAll(%v)", v)
	for _, block := range []int{-1, 0, 3, 11, blocks} {
		wantRead(t, v, block, 0, volInvalid)
		got, code := impl.VolumeUse(v, block)
		wantVolume(t, got, code, impl.Volume{}, volInvalid, "VolumeUse(%v, %d)", v, block)
	}
	wantNoVolumeWrite(t, v, pairsFrom(4, 2, 6))
	wantNoVolumeWrite(t, v, nil)
	got, code := impl.VolumeSync(v)
	wantVolume(t, got, code, impl.Volume{}, volInvalid, "VolumeSync(%v)", v)
}

// Promises 96 to 106: invalid volumes.
func TestInvalidVolumesLeadToNothing(t *testing.T) {
	for _, b := range brokenVolumes() {
		wantNothingOfVolume(t, b.v)
	}
}

// randomCall calls one function of the program with valid arguments, and returns what it returns, and what it should return.
func randomCall(r *rand.Rand, v impl.Volume) (string, impl.Volume, int, impl.Volume, int) {
	switch r.IntN(8) {
	case 0:
		got, code := impl.VolumeSync(v)
		return "VolumeSync", got, code, edited(v, func(v *impl.Volume) { v.Dev = synced(v.Dev) }), volDone
	case 1:
		block := r.IntN(blocks)
		got, code := impl.VolumeUse(v, block)
		return "VolumeUse", got, code, edited(v, func(v *impl.Volume) { v.Heat = usedHeat(v.Heat, block) }), volDone
	}
	list := randomPairs(r)
	want, wantCode := afterWrite(v, list)
	got, code := impl.VolumeWrite(v, list)
	return "VolumeWrite", got, code, want, wantCode
}

// Promises 94 to 106: whatever is done one after the other, each volume is valid and has the values that were written last, and
// no earlier one changes. What later chapters do to a volume is done by these tests.
func TestManyCallsOneAfterTheOther(t *testing.T) {
	r := rand.New(rand.NewPCG(65, 66))
	seen := map[int]int{}
	for range 30 {
		v, _ := impl.VolumeFormat(make([]impl.Zone, zones))
		for range 120 {
			before := copiedVolume(v)
			name, got, code, want, wantCode := randomCall(r, v)
			wantVolume(t, got, code, want, wantCode, "%s of %v", name, before)
			if seen[code]++; !sameVolume(v, before) || !impl.VolumeValid(got) {
				t.Fatalf("%s of %v returned %v, and left %v", name, before, got, v)
			}
			wantList(t, impl.VolumeAll(got), valuesOn(got), "VolumeAll(%v)", got)
			v = got
			if hot := impl.MapTier(v.Map, tierHot); r.IntN(6) == 0 {
				v = afterDemote(v, hot[:min(len(hot), 3)])
			}
			if code == volFull {
				v = afterCollect(v)
			}
			v.Store = remaining(v.Store, impl.MapIds(v.Map))
		}
	}
	if seen[volDone] < 2000 || seen[volFull] < 50 {
		t.Errorf("the codes were %v; want at least 2000 times done, and 50 times full", seen)
	}
}

// volumeCalls returns all functions of the chapter, called with a volume and values, so that each one is done, refused, and fails.
// Results of other types are put into a volume.
func volumeCalls() map[string]func(impl.Volume, []impl.Pair) (impl.Volume, int) {
	calls := map[string]func(impl.Volume, []impl.Pair) (impl.Volume, int){
		"VolumeFormat": func(v impl.Volume, _ []impl.Pair) (impl.Volume, int) { return impl.VolumeFormat(v.Dev) },
		"VolumeFree":   func(v impl.Volume, _ []impl.Pair) (impl.Volume, int) { return impl.Volume{}, impl.VolumeFree(v) },
		"VolumeAll":    func(v impl.Volume, _ []impl.Pair) (impl.Volume, int) { return impl.Volume{Heat: impl.VolumeAll(v)}, 0 },
		"VolumeWrite":  impl.VolumeWrite,
		"VolumeSync":   func(v impl.Volume, _ []impl.Pair) (impl.Volume, int) { return impl.VolumeSync(v) },
		"VolumeValid": func(v impl.Volume, _ []impl.Pair) (impl.Volume, int) {
			return impl.Volume{Dev: []impl.Zone{{Full: impl.VolumeValid(v)}}}, 0
		},
	}
	for _, block := range []int{-1, 0, 5, blocks - 1, blocks} {
		calls[fmt.Sprintf("VolumeUse of %d", block)] = func(v impl.Volume, _ []impl.Pair) (impl.Volume, int) { return impl.VolumeUse(v, block) }
		calls[fmt.Sprintf("VolumeRead of %d", block)] = func(v impl.Volume, _ []impl.Pair) (impl.Volume, int) {
			value, code := impl.VolumeRead(v, block)
			return impl.Volume{Seq: value}, code
		}
	}
	return calls
}

// spaciousVolume returns a copy of a volume all of whose slices have spare capacity.
func spaciousVolume(v impl.Volume) impl.Volume {
	v.Dev, v.Store = spacious(v.Dev), spaciousStore(v.Store)
	v.Map = append(slices.Clone(v.Map), hotAt(1, 2), coldAt(1, 2, 3, 4))[:len(v.Map)]
	v.Heat = append(slices.Clone(v.Heat), 44, 45, 46)[:len(v.Heat)]
	return v
}

// volumeMemory returns a copy of a volume and of the spare capacity of all of its slices.
func volumeMemory(v impl.Volume) impl.Volume {
	v.Dev, v.Store = allMemory(v.Dev), storeMemory(v.Store)
	v.Map, v.Heat = slices.Clone(v.Map[:cap(v.Map)]), slices.Clone(v.Heat[:cap(v.Heat)])
	return v
}

// scribbleVolume writes over all memory of a volume.
func scribbleVolume(v impl.Volume) {
	scribble(v.Dev)
	scribbleStore(v.Store)
	fill(v.Heat)
	m := v.Map[:cap(v.Map)]
	for block := range m {
		m[block] = coldAt(3, 60, 77, 5)
	}
}

// numberLists returns the lists of numbers of a volume: the words of its zones, the values of its objects, and its heat.
func numberLists(v impl.Volume) [][]int {
	lists := [][]int{v.Heat}
	for _, zone := range v.Dev {
		lists = append(lists, zone.Words)
	}
	for _, o := range v.Store {
		lists = append(lists, o.Values)
	}
	return lists
}

// checkVolumeApart requires that no two parts of a volume share memory.
func checkVolumeApart(t *testing.T, name string, v impl.Volume) {
	t.Helper()
	lists := numberLists(v)
	for i := range lists {
		want := numberLists(copiedVolume(v))
		want[i] = slices.Repeat([]int{77}, len(lists[i]))
		fill(lists[i])
		if !slices.EqualFunc(lists, want, slices.Equal) {
			t.Fatalf("%s: two parts of a volume share memory: after a change of one, they are %v; want %v", name, lists, want)
		}
	}
}

// checkVolumeMemory requires that a call does not change its arguments, and that its results share no memory with these, with
// those of another call, or with each other.
func checkVolumeMemory(t *testing.T, name string, call func(impl.Volume, []impl.Pair) (impl.Volume, int), v impl.Volume, list []impl.Pair) {
	t.Helper()
	memory := append(slices.Clone(list), pairsFrom(10, 2, 88)...)
	volume, keptPairs := spaciousVolume(v), slices.Clone(memory)
	kept := volumeMemory(volume)
	first, code := call(volume, memory[:len(list)])
	second, _ := call(volume, memory[:len(list)])
	keptFirst := copiedVolume(first)
	checkVolumeApart(t, name, second)
	scribbleVolume(second)
	if !sameVolume(volumeMemory(volume), kept) || !slices.Equal(memory, keptPairs) || !sameVolume(first, keptFirst) {
		t.Fatalf("%s, for %v and %v: an argument was changed, or results share memory", name, v, list)
	}
	scribbleVolume(volume)
	for i := range memory {
		memory[i] = impl.Pair{Block: 77, Value: 77}
	}
	if !sameVolume(first, keptFirst) {
		t.Fatalf("%s, for %v and %v: a result shares memory with an argument", name, v, list)
	}
	// What a call returned for the same arguments does not depend on what was done before.
	if third, n := call(copiedVolume(v), slices.Clone(list)); n != code || !sameVolume(third, keptFirst) {
		t.Fatalf("%s, for %v and %v: a later call returned %v, %d; want %v, %d", name, v, list, third, n, keptFirst, code)
	}
}

// General rules: arguments, valid or not, are not changed, and results share no memory, also if a volume is returned unchanged.
func TestVolumesKeepArgumentsAndShareNoMemory(t *testing.T) {
	lists := [][]impl.Pair{nil, pairsFrom(4, 1, 0), pairsFrom(0, pairMax, 9), pairsFrom(0, pairMax+1, 9), make([]impl.Pair, 2)}
	volumes := slices.Concat(plainVolumes(), fewBroken())
	for i, v := range histories() {
		if i%4 == 0 {
			volumes = append(volumes, v)
		}
	}
	for name, call := range volumeCalls() {
		for _, v := range volumes {
			for _, list := range lists {
				checkVolumeMemory(t, name, call, v, list)
			}
		}
	}
}

// inOnePiece returns a copy of a volume whose lists of numbers follow each other in one piece of memory, so that each one has the
// next ones as its spare capacity.
func inOnePiece(v impl.Volume) impl.Volume {
	c := copiedVolume(v)
	memory := slices.Concat(numberLists(c)...)
	next := func(n int) []int {
		list := memory[:n]
		memory = memory[n:]
		return list
	}
	c.Heat = next(len(c.Heat))
	for z := range c.Dev {
		c.Dev[z].Words = next(len(c.Dev[z].Words))
	}
	for i := range c.Store {
		c.Store[i].Values = next(len(c.Store[i].Values))
	}
	return c
}

// checkSharing requires that a call returns the same of a volume whose parts share memory, and does not change it, and that the
// parts of what it returns share none.
func checkSharing(t *testing.T, name string, call func(impl.Volume, []impl.Pair) (impl.Volume, int), apart impl.Volume, list []impl.Pair) {
	t.Helper()
	sharing := inOnePiece(apart)
	want, code := call(apart, list)
	got, again := call(sharing, list)
	wantVolume(t, got, again, want, code, "%s", name)
	checkVolumeApart(t, name, got)
	if !sameVolume(sharing, apart) {
		t.Fatalf("%s left %v; want %v", name, sharing, apart)
	}
}

// General rules: the parts of a volume may share memory in the argument, and do not in the result.
func TestVolumesThatShareMemoryInTheArguments(t *testing.T) {
	full := crowdedVolume(1, 60, []int{0, 2, 3}, 30)
	for name, call := range volumeCalls() {
		for _, apart := range []impl.Volume{knownVolume(), full, crowdedVolume(2, 60, nil, 30), crowdedVolume(1, 20, []int{3}, seqMax)} {
			for _, list := range [][]impl.Pair{nil, pairsFrom(1, 2, 5)} {
				checkSharing(t, name, call, apart, list)
			}
		}
	}
	// The first words of a frame with five values are the heat, too.
	v := volumeOn(0, nil, []impl.Frame{numbered(1, hotFrame(pairsFrom(1, 5, 2)...))})
	v.Heat = v.Dev[0].Words[:blocks]
	want := edited(v, func(v *impl.Volume) { v.Heat[0] = 11 })
	got, code := impl.VolumeUse(v, 0)
	wantVolume(t, got, code, want, volDone, "VolumeUse(%v, 0)", v)
	checkVolumeApart(t, "VolumeUse", got)
}

// General rules: nil and empty slices are equivalent, as arguments.
func TestVolumesWithNilAndEmptySlices(t *testing.T) {
	empty := impl.Volume{Dev: []impl.Zone{}, Store: []impl.Object{}, Map: []impl.Where{}, Heat: []int{}}
	blank := edited(blankVolume(), func(v *impl.Volume) {
		v.Store = []impl.Object{}
		for z := range v.Dev {
			v.Dev[z].Words = []int{}
		}
	})
	for name, call := range volumeCalls() {
		for _, list := range [][]impl.Pair{{}, {{Block: 2, Value: 3}}} {
			want, code := call(impl.Volume{}, list)
			got, again := call(empty, list)
			wantVolume(t, got, again, want, code, "%s", name)
			want, code = call(blankVolume(), list)
			got, again = call(blank, list)
			wantVolume(t, got, again, want, code, "%s", name)
		}
		want, code := call(knownVolume(), nil)
		got, again := call(knownVolume(), []impl.Pair{})
		wantVolume(t, got, again, want, code, "%s", name)
	}
	wantNothingOfVolume(t, empty)
}

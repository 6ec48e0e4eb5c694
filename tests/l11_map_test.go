package tests

import (
	"math"
	"math/rand/v2"
	"slices"
	"testing"

	"loop.example/tiervolume/impl"
)

// As in the tests of frames, the numbers of the document are written out.
const (
	kindHot  = 1
	kindCold = 2
	tierNone = 0
	tierHot  = 1
	tierCold = 2
)

// Numbers that are out of range in one field each.
var (
	badTiers = []int{-1, -2, tierCold + 1, tierCold + 2, blocks, 1 << 32, math.MinInt, math.MaxInt}
	badAts   = []int{-1, -2, -zoneSize, zoneSize, zoneSize + 1, wordMax, 1 << 32, -1 << 32, math.MinInt, math.MinInt + 1, math.MaxInt, math.MaxInt - 1}
)

// hotAt returns an element of a block whose value is a word of a zone.
func hotAt(zone int, at int) impl.Where {
	return impl.Where{Tier: tierHot, Zone: zone, At: at}
}

// coldAt returns an element of a block whose value is in an object.
func coldAt(zone int, at int, id int, index int) impl.Where {
	return impl.Where{Tier: tierCold, Zone: zone, At: at, Id: id, Index: index}
}

// mapOf returns a map whose first blocks have some elements, and all others no value.
func mapOf(elements ...impl.Where) []impl.Where {
	m := make([]impl.Where, blocks)
	copy(m, elements)
	return m
}

// mixedMap returns a map with blocks of all tiers in all zones, several ones in one object, and objects whose numbers do not
// ascend with the blocks.
func mixedMap() []impl.Where {
	return []impl.Where{
		coldAt(3, 20, 700, 2), hotAt(0, 4), {}, coldAt(0, 30, 9, 0), coldAt(0, 33, 9, 1), hotAt(3, zoneSize-1),
		{}, hotAt(0, 6), coldAt(2, 3, 700, 0), hotAt(1, 50), coldAt(1, 9, 41, packMax-1), {},
	}
}

// withElement returns a map in which one element is another one.
func withElement(m []impl.Where, block int, w impl.Where) []impl.Where {
	c := slices.Clone(m)
	c[block] = w
	return c
}

// someElements returns valid elements with the least and the largest numbers in each field.
func someElements() []impl.Where {
	list := []impl.Where{{}}
	for _, zone := range []int{0, 1, zones - 1} {
		for _, at := range []int{0, 1, zoneSize - 1} {
			list = append(list, hotAt(zone, at))
			for _, id := range []int{1, 2, seqMax} {
				list = append(list, coldAt(zone, at, id, 0), coldAt(zone, at, id, packMax-1))
			}
		}
	}
	return list
}

// randomElement returns any valid element.
func randomElement(r *rand.Rand) impl.Where {
	switch r.IntN(3) {
	case tierHot:
		return hotAt(r.IntN(zones), r.IntN(zoneSize))
	case tierCold:
		return coldAt(r.IntN(zones), r.IntN(zoneSize), 1+r.IntN(seqMax), r.IntN(packMax))
	}
	return impl.Where{}
}

// validMaps returns maps without values, with one or all elements of someElements, mixed and random ones.
func validMaps() [][]impl.Where {
	list := [][]impl.Where{mapOf(), mixedMap()}
	for i, w := range someElements() {
		list = append(list, slices.Repeat([]impl.Where{w}, blocks), withElement(mapOf(), i%blocks, w), withElement(mixedMap(), i%blocks, w))
	}
	r := rand.New(rand.NewPCG(29, 30))
	for range 40 {
		m := mapOf()
		for block := range m {
			m[block] = randomElement(r)
		}
		list = append(list, m)
	}
	return list
}

// invalidElements returns elements of which just one rule does not hold.
func invalidElements() []impl.Where {
	list := []impl.Where{{Zone: 1}, {At: 1}, {Id: 1}, {Index: 1}, {Zone: -1}, {At: -1}, {Id: -1}, {Index: -1}, {Zone: 1, At: 1, Id: 1, Index: 1}}
	list = append(list, impl.Where{Tier: tierHot, Id: 1}, impl.Where{Tier: tierHot, Index: 1}, impl.Where{Tier: tierHot, Id: 5, Index: 2})
	list = append(list, impl.Where{Tier: tierHot, Id: -1}, impl.Where{Tier: tierHot, Index: -1}, impl.Where{Tier: tierHot, Id: seqMax}, impl.Where{Tier: tierHot, Index: packMax - 1})
	list = append(list, impl.Where{Tier: tierCold}, impl.Where{Tier: tierCold, Index: 1})
	for _, tier := range badTiers {
		list = append(list, impl.Where{Tier: tier}, impl.Where{Tier: tier, Zone: 1, At: 5}, impl.Where{Tier: tier, Zone: 1, At: 5, Id: 6, Index: 2})
	}
	for _, zone := range badZones {
		list = append(list, hotAt(zone, 5), coldAt(zone, 5, 6, 2), impl.Where{Zone: zone})
	}
	for _, at := range badAts {
		list = append(list, hotAt(1, at), coldAt(1, at, 6, 2), impl.Where{At: at})
	}
	for _, id := range badIds {
		list = append(list, coldAt(1, 5, id, 2))
	}
	for _, index := range badIndexes {
		list = append(list, coldAt(1, 5, 6, index))
	}
	return list
}

// invalidMaps returns maps with too few and too many elements, and ones with each of invalidElements at some blocks.
func invalidMaps() [][]impl.Where {
	list := [][]impl.Where{nil, {}, mixedMap()[:blocks-1], mixedMap()[1:], append(mixedMap(), impl.Where{}), append(mixedMap(), hotAt(1, 2))}
	for _, n := range []int{1, 2, blocks - 1, blocks + 1, 2 * blocks, 5000} {
		list = append(list, make([]impl.Where, n), slices.Repeat([]impl.Where{hotAt(1, 2)}, n), slices.Repeat([]impl.Where{coldAt(1, 2, 3, 4)}, n))
	}
	for _, w := range invalidElements() {
		for _, block := range []int{0, 5, blocks - 1} {
			list = append(list, withElement(mapOf(), block, w), withElement(mixedMap(), block, w))
		}
		list = append(list, slices.Repeat([]impl.Where{w}, blocks))
	}
	return list
}

// isElement reports whether a map may have an element, apart from the program.
func isElement(w impl.Where) bool {
	switch none := (impl.Where{}); {
	case w == none:
		return true
	case w.Zone < 0 || w.Zone > zones-1 || w.At < 0 || w.At > zoneSize-1:
		return false
	case w.Tier == tierCold:
		return w.Id > 0 && w.Id < seqMax+1 && w.Index > -1 && w.Index < packMax
	}
	return w == hotAt(w.Zone, w.At)
}

// hotFrame returns a frame with values.
func hotFrame(list ...impl.Pair) impl.Frame {
	return impl.Frame{Kind: kindHot, Seq: 7, Body: pairWords(list)}
}

// coldFrame returns a frame with places.
func coldFrame(list ...impl.Cold) impl.Frame {
	return impl.Frame{Kind: kindCold, Seq: 7, Body: coldWords(list)}
}

// hotFrames returns KindHot frames of all lengths, with the least and the largest numbers.
func hotFrames() []impl.Frame {
	var list []impl.Frame
	for i, pairs := range validPairs() {
		f := hotFrame(pairs...)
		f.Seq = []int{1, 500, seqMax}[i%3]
		list = append(list, f)
	}
	list = append(list, hotFrame(impl.Pair{Block: 1, Value: 0}, impl.Pair{Block: 2, Value: 1}, impl.Pair{Block: 3, Value: 0}, impl.Pair{Block: 8, Value: valueMax}, impl.Pair{Block: 10, Value: 0}))
	return list
}

// coldFrames returns KindCold frames of all lengths, with the least and the largest numbers.
func coldFrames() []impl.Frame {
	var list []impl.Frame
	for i, places := range validCold() {
		f := coldFrame(places...)
		f.Seq = []int{1, 500, seqMax}[i%3]
		list = append(list, f)
	}
	return append(list, coldFrame(impl.Cold{Block: 1, Id: 9, Index: 4}, impl.Cold{Block: 2, Id: 9, Index: 4}, impl.Cold{Block: 6, Id: 3, Index: 0}))
}

// refusedFrames returns frames that no map is changed by: invalid ones, ones with bodies of the other kind or of neither, and
// ones whose blocks do not ascend.
func refusedFrames() []impl.Frame {
	list := invalidFrames()
	for _, pairs := range invalidPairs() {
		list = append(list, hotFrame(pairs...))
	}
	for _, places := range invalidCold() {
		list = append(list, coldFrame(places...))
	}
	for _, f := range slices.Concat(hotFrames(), coldFrames()) {
		for _, seq := range []int{-1, 0, seqMax + 1, math.MinInt, math.MaxInt} {
			list = append(list, impl.Frame{Kind: f.Kind, Seq: seq, Body: f.Body})
		}
		for _, kind := range []int{-1, 0, kindCold + 1, math.MinInt, math.MaxInt} {
			list = append(list, impl.Frame{Kind: kind, Seq: f.Seq, Body: f.Body})
		}
		list = append(list, impl.Frame{Kind: f.Kind, Seq: f.Seq, Body: f.Body[:len(f.Body)-1]})
	}
	// Bodies of the other kind, and of neither.
	for _, body := range [][]int{{4}, {1, 9, 2}, {4, 5, 6, 7, 8}, {1, 999, 5, 2, 999, 5}, {1, 9, 1, 3, 9, 2}, {wordMax, wordMax, wordMax, wordMax, wordMax, wordMax}} {
		list = append(list, impl.Frame{Kind: kindHot, Seq: 7, Body: body})
	}
	for _, body := range [][]int{{4}, {5, 1}, {0, 5, 1, 6}, {0, 5, 1, 6, 2, 7}, {2, 0, 4, 5, 6, 7}, {4, 5, 3, 7, 8}, {wordMax, wordMax, wordMax, wordMax, wordMax, wordMax}} {
		list = append(list, impl.Frame{Kind: kindCold, Seq: 7, Body: body})
	}
	return list
}

// told returns the map after a frame, apart from the program. Everything must be valid.
func told(m []impl.Where, f impl.Frame, zone int, at int) []impl.Where {
	c := slices.Clone(m)
	for i, w := range f.Body {
		switch {
		case f.Kind == kindHot && i%2 == 1 && w > 0:
			c[f.Body[i-1]] = hotAt(zone, at+3+i)
		case f.Kind == kindHot && i%2 == 1:
			c[f.Body[i-1]] = impl.Where{}
		case f.Kind == kindCold && i%3 == 0:
			c[w] = coldAt(zone, at+3+i, f.Body[i+1], f.Body[i+2])
		}
	}
	return c
}

// lastAt returns the last index at which the words of a frame fit into a zone.
func lastAt(f impl.Frame) int {
	return zoneSize - len(f.Body) - 4
}

// wantApply requires the map that MapApply returns.
func wantApply(t *testing.T, m []impl.Where, f impl.Frame, zone int, at int, want []impl.Where) {
	t.Helper()
	if got, ok := impl.MapApply(m, f, zone, at); !ok || !slices.Equal(got, want) {
		t.Fatalf("MapApply(%v, %v, %d, %d) = %v, %v; want %v, true", m, f, zone, at, got, ok, want)
	}
}

// applied returns the map that MapApply returns, which must succeed.
func applied(t *testing.T, m []impl.Where, f impl.Frame, zone int, at int) []impl.Where {
	t.Helper()
	got, ok := impl.MapApply(m, f, zone, at)
	if !ok || len(got) != blocks {
		t.Fatalf("MapApply(%v, %v, %d, %d) = %v, %v", m, f, zone, at, got, ok)
	}
	return got
}

// wantNoApply requires that MapApply fails, and returns no map.
func wantNoApply(t *testing.T, m []impl.Where, f impl.Frame, zone int, at int) {
	t.Helper()
	if got, ok := impl.MapApply(m, f, zone, at); ok || len(got) != 0 {
		t.Fatalf("MapApply(%v, %v, %d, %d) = %v, %v; want nothing, false", m, f, zone, at, got, ok)
	}
}

// someApplies calls with frames: each one for a mixed map, at the first and the last place of each zone, and for all valid maps, at
// any place.
func someApplies(frames []impl.Frame, call func(m []impl.Where, f impl.Frame, zone int, at int)) {
	r := rand.New(rand.NewPCG(31, 32))
	for _, f := range frames {
		for zone := range zones {
			call(mixedMap(), f, zone, 0)
			call(mixedMap(), f, zone, lastAt(f))
		}
	}
	for _, m := range validMaps() {
		for _, f := range frames {
			call(m, f, r.IntN(zones), r.IntN(lastAt(f)+1))
		}
	}
}

// wantList requires the numbers that a function returned.
func wantList(t *testing.T, got []int, want []int, format string, args ...any) {
	t.Helper()
	if !slices.Equal(got, want) {
		t.Fatalf(format+" = %v; want %v", append(args, got, want)...)
	}
}

// wantNoLists requires that no function returns anything of a map: it is invalid.
func wantNoLists(t *testing.T, m []impl.Where) {
	t.Helper()
	for n := -1; n <= zones; n++ {
		wantList(t, impl.MapIn(m, n), nil, "MapIn(%v, %d)", m, n)
		wantList(t, impl.MapTier(m, n), nil, "MapTier(%v, %d)", m, n)
	}
	wantList(t, impl.MapIds(m), nil, "MapIds(%v)", m)
}

func TestMapConstants(t *testing.T) {
	got := []int{impl.TierNone, impl.TierHot, impl.TierCold}
	if want := []int{0, 1, 2}; !slices.Equal(got, want) {
		t.Errorf("the constants are %v; want %v", got, want)
	}
}

func TestMapApplyOfKnownFrames(t *testing.T) {
	m := make([]impl.Where, blocks)
	want := make([]impl.Where, blocks)
	for _, c := range []struct {
		f       impl.Frame
		zone    int
		at      int
		changes map[int]impl.Where
	}{
		{impl.Frame{Kind: 1, Seq: 1, Body: []int{2, 7, 5, 8}}, 1, 10, map[int]impl.Where{2: hotAt(1, 14), 5: hotAt(1, 16)}},
		{impl.Frame{Kind: 2, Seq: 2, Body: []int{2, 9, 0}}, 0, 0, map[int]impl.Where{2: coldAt(0, 3, 9, 0)}},
		{impl.Frame{Kind: 1, Seq: 3, Body: []int{0, 1}}, 3, 58, map[int]impl.Where{0: hotAt(3, 62)}},
		{impl.Frame{Kind: 1, Seq: 4, Body: []int{1, 99, 2, 0, 5, 0, 11, 1}}, 2, 0, map[int]impl.Where{1: hotAt(2, 4), 2: {}, 5: {}, 11: hotAt(2, 10)}},
		{impl.Frame{Kind: 2, Seq: 5, Body: []int{0, 999, 5, 3, 1, 0, 11, 999, 5}}, 3, 51, map[int]impl.Where{0: coldAt(3, 54, 999, 5), 3: coldAt(3, 57, 1, 0), 11: coldAt(3, 60, 999, 5)}},
		{impl.Frame{Kind: 2, Seq: 6, Body: []int{0, 8, 1}}, 0, 1, map[int]impl.Where{0: coldAt(0, 4, 8, 1)}},
		{impl.Frame{Kind: 1, Seq: 7, Body: []int{0, 0, 4, 0}}, 1, 1, map[int]impl.Where{0: {}, 4: {}}},
	} {
		for block, w := range c.changes {
			want[block] = w
		}
		wantApply(t, m, c.f, c.zone, c.at, want)
		m, _ = impl.MapApply(m, c.f, c.zone, c.at)
	}
}

// The same words are a body of both kinds: what they tell depends on the kind of the frame alone.
func TestMapApplyOfABodyOfBothKinds(t *testing.T) {
	body := []int{0, 5, 1, 6, 2, 3}
	hot := mapOf(hotAt(2, 10+4), hotAt(2, 10+6), hotAt(2, 10+8))
	cold := withElement(mapOf(coldAt(2, 10+3, 5, 1)), 6, coldAt(2, 10+6, 2, 3))
	wantApply(t, mapOf(), impl.Frame{Kind: kindHot, Seq: 3, Body: body}, 2, 10, hot)
	wantApply(t, mapOf(), impl.Frame{Kind: kindCold, Seq: 3, Body: body}, 2, 10, cold)
}

func TestMapValid(t *testing.T) {
	for _, m := range validMaps() {
		if !impl.MapValid(m) {
			t.Fatalf("MapValid(%v) = false", m)
		}
	}
	for _, m := range invalidMaps() {
		if impl.MapValid(m) {
			t.Fatalf("MapValid(%v) = true", m)
		}
	}
}

// All combinations of numbers at and around the limits of all fields, at any block.
func TestMapValidLooksAtEachField(t *testing.T) {
	some, none := 0, 0
	check := func(w impl.Where, block int) {
		m := withElement(mixedMap(), block, w)
		if got := impl.MapValid(m); got != isElement(w) {
			t.Fatalf("MapValid = %v, with the element %v at the block %d", got, w, block)
		}
		if isElement(w) {
			some++
		} else {
			none++
		}
	}
	for tier := -2; tier <= tierCold+2; tier++ {
		for _, zone := range []int{math.MinInt, -1, 0, 1, zones - 1, zones, math.MaxInt} {
			for _, at := range []int{math.MinInt, -1, 0, 1, zoneSize - 1, zoneSize, math.MaxInt} {
				for _, id := range []int{math.MinInt, -1, 0, 1, seqMax, seqMax + 1, math.MaxInt} {
					for _, index := range []int{math.MinInt, -1, 0, 1, packMax - 1, packMax, math.MaxInt} {
						check(impl.Where{Tier: tier, Zone: zone, At: at, Id: id, Index: index}, (some+none)%blocks)
					}
				}
			}
		}
	}
	if want := 1 + 9 + 9*2*3; some != want || none < 1000 {
		t.Errorf("%d elements were valid and %d were not; want %d and at least 1000", some, none, want)
	}
}

// All numbers of each field, ahead of their limits, up to them and behind them.
func TestMapValidOfAllNumbers(t *testing.T) {
	for n := -3; n <= seqMax+3; n++ {
		for _, w := range []impl.Where{
			{Tier: n}, {Zone: n}, {At: n}, {Id: n}, {Index: n}, hotAt(n, 5), hotAt(2, n), {Tier: tierHot, Id: n}, {Tier: tierHot, Index: n},
			{Tier: n, Zone: 1, At: 2}, {Tier: n, Zone: 1, At: 2, Id: 3, Index: 4}, coldAt(n, 5, 6, 2), coldAt(2, n, 6, 2), coldAt(2, 5, n, 2), coldAt(2, 5, 6, n),
		} {
			if got := impl.MapValid(withElement(mapOf(), blocks-1, w)); got != isElement(w) {
				t.Fatalf("MapValid = %v, with the element %v", got, w)
			}
		}
	}
}

// There are Blocks elements, whatever they are.
func TestMapsOfOtherLengths(t *testing.T) {
	for n := range 3 * blocks {
		for _, w := range someElements() {
			m := slices.Repeat([]impl.Where{w}, n)
			if got := impl.MapValid(m); got != (n == blocks) {
				t.Fatalf("MapValid = %v, with %d elements %v", got, n, w)
			}
			if n != blocks {
				wantNoLists(t, m)
				wantNoApply(t, m, hotFrame(impl.Pair{Block: 0, Value: 5}), 1, 0)
			}
		}
	}
}

// Promise 51.
func TestMapApplyDoneAgain(t *testing.T) {
	someApplies(slices.Concat(hotFrames(), coldFrames()), func(m []impl.Where, f impl.Frame, zone int, at int) {
		after := applied(t, m, f, zone, at)
		if !impl.MapValid(after) {
			t.Fatalf("MapApply(%v, %v, %d, %d) = %v, which is invalid", m, f, zone, at, after)
		}
		wantApply(t, after, f, zone, at, after)
	})
}

// Promises 52, 54 and 55: all that a frame tells, and nothing else, changes.
func TestMapApply(t *testing.T) {
	someApplies(slices.Concat(hotFrames(), coldFrames()), func(m []impl.Where, f impl.Frame, zone int, at int) {
		wantApply(t, m, f, zone, at, told(m, f, zone, at))
	})
}

// Promise 52.
func TestMapApplyOfHotFrames(t *testing.T) {
	someApplies(hotFrames(), func(m []impl.Where, f impl.Frame, zone int, at int) {
		after := applied(t, m, f, zone, at)
		pairs, _ := impl.PairsGet(f.Body)
		for i, p := range pairs {
			want := hotAt(zone, at+4+2*i)
			if p.Value == 0 {
				want = impl.Where{}
			}
			if after[p.Block] != want {
				t.Fatalf("after %v at %d of zone %d, block %d is %v; want %v", f, at, zone, p.Block, after[p.Block], want)
			}
		}
	})
}

// Promise 53. The words of the frame are among others, at the place.
func TestMapTellsTheWordsOfValues(t *testing.T) {
	someApplies(hotFrames(), func(m []impl.Where, f impl.Frame, zone int, at int) {
		after := applied(t, m, f, zone, at)
		words := slices.Concat(counting(at, 5000), impl.FramePut(f), counting(zoneSize, 6000))
		pairs, _ := impl.PairsGet(f.Body)
		for _, p := range pairs {
			w := after[p.Block]
			if p.Value > 0 && words[w.At] != p.Value {
				t.Fatalf("after %v at %d, block %d is %v, where the word is %d", f, at, p.Block, w, words[w.At])
			}
		}
	})
}

// Promise 54. The word that the map tells is that of the block, with those of the object and the place behind it.
func TestMapApplyOfColdFrames(t *testing.T) {
	someApplies(coldFrames(), func(m []impl.Where, f impl.Frame, zone int, at int) {
		after := applied(t, m, f, zone, at)
		words := slices.Concat(counting(at, 5000), impl.FramePut(f), counting(zoneSize, 6000))
		places, _ := impl.ColdGet(f.Body)
		for i, c := range places {
			w := after[c.Block]
			if w != coldAt(zone, at+3+3*i, c.Id, c.Index) {
				t.Fatalf("after %v at %d of zone %d, block %d is %v", f, at, zone, c.Block, w)
			}
			wantList(t, words[w.At:w.At+3], []int{c.Block, c.Id, c.Index}, "after %v at %d, the words at %v", f, at, w)
		}
	})
}

// Promise 55.
func TestMapApplyLeavesOtherBlocks(t *testing.T) {
	someApplies(slices.Concat(hotFrames(), coldFrames()), func(m []impl.Where, f impl.Frame, zone int, at int) {
		after := applied(t, m, f, zone, at)
		width := 2
		if f.Kind == kindCold {
			width = 3
		}
		about := map[int]bool{}
		for i := 0; i < len(f.Body); i += width {
			about[f.Body[i]] = true
		}
		for block, w := range m {
			if !about[block] && after[block] != w {
				t.Fatalf("after %v, which does not tell about it, block %d is %v; want %v", f, block, after[block], w)
			}
		}
	})
}

// Promises 52, 54 and 55: whatever a block was before, a frame tells all about it.
func TestMapApplyOverBlocksOfAllTiers(t *testing.T) {
	frames := []impl.Frame{coldFrame(impl.Cold{Block: 4, Id: 1, Index: 0}), coldFrame(impl.Cold{Block: 4, Id: seqMax, Index: packMax - 1})}
	wants := []impl.Where{coldAt(1, 13, 1, 0), coldAt(1, 13, seqMax, packMax-1)}
	for _, value := range []int{0, 1, 2, valueMax - 1, valueMax} {
		w := hotAt(1, 14)
		if value == 0 {
			w = impl.Where{}
		}
		frames, wants = append(frames, hotFrame(impl.Pair{Block: 4, Value: value})), append(wants, w)
	}
	for _, before := range append(someElements(), wants...) {
		for i, f := range frames {
			m := withElement(mixedMap(), 4, before)
			wantApply(t, m, f, 1, 10, withElement(m, 4, wants[i]))
		}
	}
}

// All values of a frame are 0, or some are: exactly the blocks with these lose theirs.
func TestMapApplyOfValuesThatAreZero(t *testing.T) {
	for _, m := range validMaps() {
		for _, first := range []int{0, 2, blocks - pairMax} {
			none := slices.Clone(m)
			copy(none[first:first+pairMax], make([]impl.Where, pairMax))
			wantApply(t, m, hotFrame(pairsFrom(first, pairMax, 0)...), 2, 9, none)
			for i := range pairMax {
				pairs := pairsFrom(first, pairMax, 0)
				pairs[i].Value = valueMax - i
				wantApply(t, m, hotFrame(pairs...), 2, 9, withElement(none, first+i, hotAt(2, 9+4+2*i)))
			}
		}
	}
}

// Promise 56: the map is valid, or not.
func TestMapApplyToInvalidMaps(t *testing.T) {
	frames := []impl.Frame{hotFrame(impl.Pair{Block: 5, Value: 3}), hotFrame(pairsFrom(0, pairMax, 0)...), coldFrame(impl.Cold{Block: 5, Id: 3, Index: 1}), coldFrame(coldFrom(6, packMax, 3, 1)...)}
	for _, m := range invalidMaps() {
		for _, f := range frames {
			wantNoApply(t, m, f, 1, 10)
		}
		wantNoApply(t, m, impl.Frame{}, 1, 10)
		wantNoApply(t, m, frames[0], zones, 10)
		wantNoApply(t, m, frames[0], 1, zoneSize)
	}
}

// Promise 56: a frame does not make a map valid, even if it tells about the block whose element is not.
func TestMapApplyDoesNotMendMaps(t *testing.T) {
	for _, w := range invalidElements() {
		for block := range blocks {
			m := withElement(mixedMap(), block, w)
			wantNoApply(t, m, hotFrame(impl.Pair{Block: block, Value: 3}), 1, 10)
			wantNoApply(t, m, hotFrame(impl.Pair{Block: block, Value: 0}), 1, 10)
			wantNoApply(t, m, coldFrame(impl.Cold{Block: block, Id: 3, Index: 1}), 1, 10)
		}
	}
}

// Promise 56: the frame and its body are valid, or not.
func TestMapApplyOfRefusedFrames(t *testing.T) {
	for _, f := range refusedFrames() {
		for _, m := range [][]impl.Where{mapOf(), mixedMap(), nil} {
			for zone := -1; zone <= zones; zone++ {
				wantNoApply(t, m, f, zone, 0)
				wantNoApply(t, m, f, zone, 20)
				wantNoApply(t, m, f, zone, -1)
				wantNoApply(t, m, f, zone, zoneSize)
			}
		}
	}
}

// Promise 56: whatever the words of a body are, a frame is applied just if they are a body of its kind.
func TestMapApplyOfAnyBody(t *testing.T) {
	some, none := 0, 0
	r := rand.New(rand.NewPCG(33, 34))
	for _, body := range slices.Concat(nearBodies(r, 2, pairMax), nearBodies(r, 3, packMax)) {
		_, hot := impl.PairsGet(body)
		_, cold := impl.ColdGet(body)
		for kind := range kindCold + 2 {
			f := impl.Frame{Kind: kind, Seq: 5, Body: body}
			if kind == kindHot && hot || kind == kindCold && cold {
				wantApply(t, mixedMap(), f, 3, 11, told(mixedMap(), f, 3, 11))
				some++
				continue
			}
			wantNoApply(t, mixedMap(), f, 3, 11)
			none++
		}
	}
	if some < 1000 || none < 1000 {
		t.Errorf("%d frames were applied and %d were not; want 1000 of both", some, none)
	}
}

// Promise 56: the zone exists, or not.
func TestMapApplyInZonesThatAreNotThere(t *testing.T) {
	for _, f := range slices.Concat(hotFrames(), coldFrames()) {
		for zone := -3; zone <= zones+3; zone++ {
			if zone >= 0 && zone < zones {
				wantApply(t, mixedMap(), f, zone, 7, told(mixedMap(), f, zone, 7))
			} else {
				wantNoApply(t, mixedMap(), f, zone, 7)
			}
		}
		for _, zone := range badZones {
			wantNoApply(t, mixedMap(), f, zone, 0)
			wantNoApply(t, mapOf(), f, zone, lastAt(f))
		}
	}
}

// Promise 56: the words of the frame, the last of which is the sum, end within the zone, or not.
func TestMapApplyAtEachPlace(t *testing.T) {
	var frames []impl.Frame
	for n := 1; n <= pairMax; n++ {
		frames = append(frames, hotFrame(pairsFrom(blocks-n, n, n)...), hotFrame(pairsFrom(0, n, 0)...))
	}
	for n := 1; n <= packMax; n++ {
		frames = append(frames, coldFrame(coldFrom(blocks-n, n, n, packMax-n)...))
	}
	for _, f := range frames {
		most := zoneSize - len(impl.FramePut(f))
		for at := -zoneSize; at <= 2*zoneSize; at++ {
			for zone := range zones {
				if at >= 0 && at <= most {
					wantApply(t, mixedMap(), f, zone, at, told(mixedMap(), f, zone, at))
				} else {
					wantNoApply(t, mixedMap(), f, zone, at)
				}
			}
		}
		for _, at := range badAts {
			wantNoApply(t, mixedMap(), f, 1, at)
		}
		for n := range zoneSize {
			wantNoApply(t, mixedMap(), f, 1, math.MaxInt-n)
			wantNoApply(t, mixedMap(), f, 1, math.MinInt+n)
			wantNoApply(t, mixedMap(), f, 1, 1<<32+n)
			wantNoApply(t, mixedMap(), f, 1, -1<<32+n)
		}
	}
}

// Promise 57.
func TestMapIn(t *testing.T) {
	for _, m := range validMaps() {
		for zone := -2; zone <= zones+1; zone++ {
			var want []int
			for block, w := range m {
				if w != (impl.Where{}) && w.Zone == zone {
					want = append(want, block)
				}
			}
			wantList(t, impl.MapIn(m, zone), want, "MapIn(%v, %d)", m, zone)
		}
	}
}

// Promise 57: zones that tell about some blocks, about none, and ones that are not there. Blocks without values are in no zone,
// not even in the first one.
func TestMapInOfKnownZones(t *testing.T) {
	for zone, want := range [][]int{{1, 3, 4, 7}, {9, 10}, {8}, {0, 5}} {
		wantList(t, impl.MapIn(mixedMap(), zone), want, "MapIn of zone %d", zone)
		wantList(t, impl.MapIn(mapOf(), zone), nil, "MapIn of zone %d, without values", zone)
		for _, w := range []impl.Where{hotAt(zone, 5), coldAt(zone, 0, 6, 0)} {
			all := slices.Repeat([]impl.Where{w}, blocks)
			wantList(t, impl.MapIn(all, zone), counting(blocks, 0), "MapIn(%v, %d)", all, zone)
			wantList(t, impl.MapIn(all, (zone+1)%zones), nil, "MapIn(%v, %d)", all, (zone+1)%zones)
			wantList(t, impl.MapIn(withElement(mapOf(), 11, w), zone), []int{11}, "MapIn of zone %d, with a value of block 11", zone)
		}
	}
	for _, m := range validMaps() {
		for _, zone := range badZones {
			wantList(t, impl.MapIn(m, zone), nil, "MapIn(%v, %d)", m, zone)
		}
	}
}

// Promise 58.
func TestMapIds(t *testing.T) {
	for _, m := range validMaps() {
		var there [seqMax + 1]bool
		for _, w := range m {
			there[w.Id] = there[w.Id] || w.Tier == tierCold
		}
		var want []int
		for id, yes := range there {
			if yes {
				want = append(want, id)
			}
		}
		wantList(t, impl.MapIds(m), want, "MapIds(%v)", m)
	}
}

// Promise 58: several blocks in one object, neighbouring or not, and objects whose numbers do not ascend with the blocks.
func TestMapIdsOfKnownObjects(t *testing.T) {
	for _, c := range []struct{ ids, want []int }{
		{nil, nil},
		{[]int{1}, []int{1}},
		{[]int{seqMax}, []int{seqMax}},
		{[]int{5, 5}, []int{5}},
		{[]int{5, 6, 5}, []int{5, 6}},
		{[]int{6, 5, 6, 5}, []int{5, 6}},
		{[]int{seqMax, 1}, []int{1, seqMax}},
		{[]int{100, 20, 3}, []int{3, 20, 100}},
		{[]int{7, 7, 7, 7, 7, 7, 7, 7, 7, 7, 7, 7}, []int{7}},
		{[]int{12, 11, 10, 9, 8, 7, 6, 5, 4, 3, 2, 1}, []int{1, 2, 3, 4, 5, 6, 7, 8, 9, 10, 11, 12}},
		{[]int{1, 2, 3, 1, 2, 3, 3, 2, 1, 900, 2, 900}, []int{1, 2, 3, 900}},
	} {
		ahead, behind := mapOf(), mapOf()
		for i, id := range c.ids {
			ahead[i] = coldAt(i%zones, i, id, i%packMax)
			behind[blocks-len(c.ids)+i] = coldAt(0, 5, id, 0)
		}
		wantList(t, impl.MapIds(ahead), c.want, "MapIds(%v)", ahead)
		wantList(t, impl.MapIds(behind), c.want, "MapIds(%v)", behind)
		for i := range blocks - len(c.ids) {
			behind[i] = hotAt(1, 2)
		}
		wantList(t, impl.MapIds(behind), c.want, "MapIds(%v)", behind)
	}
	wantList(t, impl.MapIds(mixedMap()), []int{9, 41, 700}, "MapIds(%v)", mixedMap())
}

// Promise 59.
func TestMapTier(t *testing.T) {
	for _, m := range validMaps() {
		var times [blocks]int
		for tier := tierNone; tier <= tierCold; tier++ {
			var want []int
			for block, w := range m {
				if w.Tier == tier {
					want = append(want, block)
					times[block]++
				}
			}
			wantList(t, impl.MapTier(m, tier), want, "MapTier(%v, %d)", m, tier)
		}
		wantList(t, times[:], slices.Repeat([]int{1}, blocks), "for %v, the numbers of tiers of blocks", m)
	}
}

// Promise 59: tiers that some blocks are in, or all or none, and ones that are not there.
func TestMapTierOfKnownTiers(t *testing.T) {
	for tier, want := range [][]int{{2, 6, 11}, {1, 5, 7, 9}, {0, 3, 4, 8, 10}} {
		wantList(t, impl.MapTier(mixedMap(), tier), want, "MapTier of %d", tier)
		for other, w := range []impl.Where{{}, hotAt(tier, 1), coldAt(tier, 1, tier+1, 0)} {
			all := slices.Repeat([]impl.Where{w}, blocks)
			if other == tier {
				wantList(t, impl.MapTier(all, tier), counting(blocks, 0), "MapTier(%v, %d)", all, tier)
			} else {
				wantList(t, impl.MapTier(all, tier), nil, "MapTier(%v, %d)", all, tier)
			}
		}
	}
	for _, m := range validMaps() {
		for _, tier := range badTiers {
			wantList(t, impl.MapTier(m, tier), nil, "MapTier(%v, %d)", m, tier)
		}
	}
}

// Promise 60.
func TestMapsWithoutOneValueAndWithOtherTiers(t *testing.T) {
	for _, m := range validMaps() {
		for block, w := range m {
			if less := withElement(m, block, impl.Where{}); !impl.MapValid(less) {
				t.Fatalf("MapValid(%v) = false", less)
			}
			for _, tier := range []int{tierCold + 1, tierCold + 2, 1000, math.MaxInt, -1, math.MinInt} {
				w.Tier = tier
				if more := withElement(m, block, w); impl.MapValid(more) {
					t.Fatalf("MapValid(%v) = true", more)
				}
			}
		}
	}
}

// Promises 57 to 59: invalid maps have no blocks and no objects, even if other elements are valid.
func TestInvalidMapsLeadToNothing(t *testing.T) {
	for _, m := range invalidMaps() {
		wantNoLists(t, m)
	}
	for _, w := range invalidElements() {
		for block := range blocks {
			m := withElement(mixedMap(), block, w)
			wantNoLists(t, m)
			wantList(t, impl.MapIn(m, w.Zone), nil, "MapIn(%v, %d)", m, w.Zone)
			wantList(t, impl.MapTier(m, w.Tier), nil, "MapTier(%v, %d)", m, w.Tier)
		}
	}
}

// Promises 51 to 59: a log of frames, one behind the other, tells about all blocks what the last one with the block tells.
func TestManyFramesOneAfterTheOther(t *testing.T) {
	r := rand.New(rand.NewPCG(35, 36))
	hot, cold := hotFrames(), coldFrames()
	for range 100 {
		want, m := mapOf(), mapOf()
		at, zone := 0, 0
		for range 80 {
			f := hot[r.IntN(len(hot))]
			if r.IntN(2) == 0 {
				f = cold[r.IntN(len(cold))]
			}
			if at > lastAt(f) {
				wantNoApply(t, m, f, zone, at)
				at, zone = 0, (zone+1)%zones
			}
			before := slices.Clone(m)
			want = told(want, f, zone, at)
			got, ok := impl.MapApply(m, f, zone, at)
			if !ok || !slices.Equal(got, want) || !slices.Equal(m, before) || !impl.MapValid(got) {
				t.Fatalf("MapApply(%v, %v, %d, %d) = %v, %v; want %v, true; the map is %v now", before, f, zone, at, got, ok, want, m)
			}
			m, at = got, at+len(f.Body)+4
			all := slices.Concat(impl.MapTier(m, tierNone), impl.MapTier(m, tierHot), impl.MapTier(m, tierCold))
			slices.Sort(all)
			wantList(t, all, counting(blocks, 0), "the blocks of all tiers of %v", m)
		}
	}
}

// General rules: no argument is changed, and no result shares memory, also if there is none.
func TestMapsKeepArgumentsAndShareNoMemory(t *testing.T) {
	other := coldAt(3, 60, 77, 5)
	valid := func(m []impl.Where) ([]bool, bool) { return nil, impl.MapValid(m) }
	ids := func(m []impl.Where) ([]int, bool) { return impl.MapIds(m), true }
	check := func(m []impl.Where, f impl.Frame, zone int, at int) {
		checkMemory(t, func(m []impl.Where) ([]impl.Where, bool) { return impl.MapApply(m, f, zone, at) }, m, other, other)
		checkMemory(t, func(body []int) ([]impl.Where, bool) {
			return impl.MapApply(m, impl.Frame{Kind: f.Kind, Seq: f.Seq, Body: body}, zone, at)
		}, f.Body, 77, other)
	}
	for _, m := range slices.Concat(validMaps(), invalidMaps()) {
		checkMemory(t, valid, m, other, true)
		checkMemory(t, ids, m, other, 77)
		for n := -1; n <= zones; n++ {
			checkMemory(t, func(m []impl.Where) ([]int, bool) { return impl.MapIn(m, n), true }, m, other, 77)
			checkMemory(t, func(m []impl.Where) ([]int, bool) { return impl.MapTier(m, n), true }, m, other, 77)
		}
		check(m, hotFrame(pairsFrom(2, pairMax, 0)...), 1, 5)
		check(m, coldFrame(coldFrom(3, packMax, 8, 4)...), 2, 6)
		check(m, coldFrame(coldFrom(3, packMax, 8, 4)...), 2, zoneSize)
	}
	for _, f := range slices.Concat(hotFrames(), coldFrames(), refusedFrames()) {
		check(mixedMap(), f, 1, 0)
		check(mapOf(), f, 3, 20)
		check(mixedMap(), f, zones, 0)
	}
}

// A nil slice and an empty one are the same.
func TestMapsWithNilAndEmptySlices(t *testing.T) {
	for _, m := range [][]impl.Where{nil, {}, mixedMap()[:0]} {
		if impl.MapValid(m) {
			t.Error("MapValid holds without elements")
		}
		wantNoLists(t, m)
		wantNoApply(t, m, hotFrame(impl.Pair{Block: 0, Value: 5}), 0, 0)
		wantNoApply(t, m, impl.Frame{}, 0, 0)
	}
	for kind := range kindCold + 2 {
		for _, body := range [][]int{nil, {}, counting(3, 0)[:0]} {
			wantNoApply(t, mixedMap(), impl.Frame{Kind: kind, Seq: 5, Body: body}, 0, 0)
		}
	}
}

package tests

import (
	"fmt"
	"math"
	"math/rand/v2"
	"slices"
	"sync"
	"testing"

	"loop.example/tiervolume/impl"
)

// areMovable reports whether blocks can be moved at once, apart from the program.
func areMovable(list []int) bool {
	for i, block := range list {
		if block < 0 || block >= blocks || slices.Contains(list[:i], block) {
			return false
		}
	}
	return len(list) > 0 && len(list) <= packMax && slices.IsSorted(list)
}

// tiersOf returns the tiers of some blocks, from the least one, each once.
func tiersOf(v impl.Volume, list []int) []int {
	var tiers []int
	for _, block := range list {
		tiers = append(tiers, v.Map[block].Tier)
	}
	slices.Sort(tiers)
	return slices.Compact(tiers)
}

// refusedMove returns the code for blocks that are not moved out of a tier, whether there is room or not, or volDone if they can
// be moved, apart from the program.
func refusedMove(v impl.Volume, list []int, tier int) int {
	if len(brokenRules(v)) > 0 || !areMovable(list) {
		return volInvalid
	}
	if !slices.Equal(tiersOf(v, list), []int{tier}) {
		return volNone
	}
	return volDone
}

// refusedVolume returns the volume that a function returns together with a code other than volDone.
func refusedVolume(v impl.Volume, code int) impl.Volume {
	if code == volInvalid {
		return impl.Volume{}
	}
	return copiedVolume(v)
}

// afterPack returns what VolumePack returns, apart from the program.
func afterPack(v impl.Volume, list []int) (impl.Volume, int) {
	if code := refusedMove(v, list, tierHot); code != volDone {
		return refusedVolume(v, code), code
	}
	if v.Seq > seqMax || len(v.Store) == objectMax || slices.Contains(numbers(v.Store), v.Seq) {
		return copiedVolume(v), volFull
	}
	return edited(v, func(c *impl.Volume) { c.Store = stored(c.Store, v.Seq, valuesAt(v, list)) }), volDone
}

// valuesAt returns the values of some blocks, apart from the program.
func valuesAt(v impl.Volume, list []int) []int {
	var values []int
	for _, block := range list {
		values = append(values, valueOn(v, block))
	}
	return values
}

// afterDemotion returns what VolumeDemote returns, apart from the program.
func afterDemotion(v impl.Volume, list []int) (impl.Volume, int) {
	c, code := afterPack(v, list)
	if code != volDone {
		return c, code
	}
	if c, ok := appended(c, places(0, v.Seq, list...), 1); ok {
		return c, volDone
	}
	return copiedVolume(v), volFull
}

// afterPromotion returns what VolumePromote returns, apart from the program.
func afterPromotion(v impl.Volume, list []int) (impl.Volume, int) {
	if code := refusedMove(v, list, tierCold); code != volDone {
		return refusedVolume(v, code), code
	}
	var pairs []impl.Pair
	for i, value := range valuesAt(v, list) {
		pairs = append(pairs, impl.Pair{Block: list[i], Value: value})
	}
	if c, ok := appended(v, hotFrame(pairs...), 1); ok {
		return c, volDone
	}
	return copiedVolume(v), volFull
}

// afterSweep returns what VolumeSweep returns, apart from the program.
func afterSweep(v impl.Volume) (impl.Volume, int) {
	if len(brokenRules(v)) > 0 {
		return impl.Volume{}, volInvalid
	}
	left := remaining(v.Store, idsOn(v.Map))
	if sameStore(left, v.Store) {
		return copiedVolume(v), volNone
	}
	return edited(v, func(c *impl.Volume) { c.Dev, c.Store = synced(c.Dev), left }), volDone
}

// A move is a function that moves blocks: its name, the tier in which they must be, how many words of a frame it needs for each
// of them (none without a frame), the function itself, and what it returns, apart from the program.
type move struct {
	name  string
	tier  int
	words int
	call  func(impl.Volume, []int) (impl.Volume, int)
	model func(impl.Volume, []int) (impl.Volume, int)
}

var (
	packing   = move{"VolumePack", tierHot, 0, impl.VolumePack, afterPack}
	demotion  = move{"VolumeDemote", tierHot, 3, impl.VolumeDemote, afterDemotion}
	promotion = move{"VolumePromote", tierCold, 2, impl.VolumePromote, afterPromotion}
	moves     = []move{packing, demotion, promotion}
)

// wantMove requires what a function that moves blocks returns, and returns it.
func wantMove(t *testing.T, m move, v impl.Volume, list []int) (impl.Volume, int) {
	t.Helper()
	want, wantCode := m.model(v, list)
	got, code := m.call(v, list)
	wantVolume(t, got, code, want, wantCode, "%s(%v, %v)", m.name, v, list)
	return got, code
}

// wantCode requires what a function that moves blocks returns, and that it returns a code.
func wantCode(t *testing.T, m move, v impl.Volume, list []int, code int) impl.Volume {
	t.Helper()
	got, n := wantMove(t, m, v, list)
	if n != code {
		t.Fatalf("%s(%v, %v) returned %d; want %d", m.name, v, list, n, code)
	}
	return got
}

// wantOf requires what a function returns of a volume, and returns it.
func wantOf(t *testing.T, name string, v impl.Volume, call, model func(impl.Volume) (impl.Volume, int)) (impl.Volume, int) {
	t.Helper()
	want, wantCode := model(v)
	got, code := call(v)
	wantVolume(t, got, code, want, wantCode, "%s(%v)", name, v)
	return got, code
}

// wantSweep requires what VolumeSweep returns, and returns it.
func wantSweep(t *testing.T, v impl.Volume) (impl.Volume, int) {
	t.Helper()
	return wantOf(t, "VolumeSweep", v, impl.VolumeSweep, afterSweep)
}

// differentPairs returns values of some blocks, all of them different, that do not ascend.
func differentPairs(list ...int) []impl.Pair {
	var pairs []impl.Pair
	for _, block := range list {
		pairs = append(pairs, impl.Pair{Block: block, Value: 1 + 37*(block+1)%valueMax})
	}
	return pairs
}

// hotVolume returns a volume all of whose blocks are hot, with some objects.
func hotVolume(s []impl.Object) impl.Volume {
	v := volumeOn(0, s, []impl.Frame{numbered(1, hotFrame(differentPairs(counting(9, 0)...)...)), numbered(2, hotFrame(differentPairs(9, 10, 11)...))})
	v.Heat = counting(blocks, 20)
	return v
}

// twoObjects returns a store whose objects have as many values as possible, all of them different.
func twoObjects() []impl.Object {
	return []impl.Object{{Id: 3, Values: []int{30, 20, 10, 60, 50, 40}}, {Id: 8, Values: []int{81, 86, 82, 85, 83, 84}}}
}

// coldVolume returns a volume all of whose blocks are cold: those of two objects take turns, and those of one do not ascend with
// their places.
func coldVolume() impl.Volume {
	var list []impl.Cold
	for block := range blocks {
		list = append(list, impl.Cold{Block: block, Id: []int{3, 8}[block%2], Index: 5 - block/2})
	}
	v := volumeOn(1, twoObjects(), nil, []impl.Frame{numbered(9, coldFrame(list[:6]...)), numbered(10, coldFrame(list[6:]...))})
	v.Heat = counting(blocks, 30)
	return v
}

// halfVolume returns a volume whose blocks 0 to 4 are hot and 7 to 11 cold; the other ones have no value.
func halfVolume() impl.Volume {
	hot := numbered(4, hotFrame(append(differentPairs(0, 1, 2, 3, 4), impl.Pair{Block: 5, Value: 0})...))
	v := volumeOn(2, twoObjects(), nil, nil, []impl.Frame{hot, places(5, 8, 7, 8, 9), places(6, 3, 10, 11)})
	v.Heat = counting(blocks, 40)
	return v
}

// endedVolume returns a volume whose current zone has so many words, the last ones of which are those of a frame with a given
// number, and in which some other zones have words, too.
func endedVolume(current int, words int, others []int, f impl.Frame) impl.Volume {
	frames := append(filling(words-len(laidOut(f)), 0), f)
	for i := range frames {
		frames[i].Seq = f.Seq - len(frames) + 1 + i
	}
	logs := make([][]impl.Frame, zones)
	logs[current] = frames
	for i, z := range others {
		logs[z] = []impl.Frame{valueFrame(1+i, 8+i, 20+i)}
	}
	s := []impl.Object{{Id: 5, Values: []int{44}}, {Id: 7, Values: []int{71, 75, 72, 76, 73, 74}}}
	v := volumeOn(current, s, logs...)
	v.Dev[current].Synced = words / 2
	return v
}

// lastHot and lastCold return frames that make the blocks 3 to 8 hot, or cold.
func lastHot(seq int) impl.Frame {
	return numbered(seq, hotFrame(differentPairs(3, 4, 5, 6, 7, 8)...))
}

func lastCold(seq int) impl.Frame {
	return places(seq, 7, 3, 4, 5, 6, 7, 8)
}

// stocked returns a volume with so many objects, of which none but one may have the number of its next frame.
func stocked(v impl.Volume, many int, withNext bool) impl.Volume {
	c := copiedVolume(v)
	if withNext {
		c.Store = stored(c.Store, v.Seq, []int{1, 99})
	}
	for id := 1; len(c.Store) < many; id += 7 {
		if id != v.Seq && !slices.Contains(numbers(c.Store), id) {
			c.Store = stored(c.Store, id, counting(1+id%packMax, id%90+1))
		}
	}
	return c
}

// tieredVolumes returns volumes whose blocks are in all tiers, with few and many objects, one with the number of the next frame
// among them, with the last numbers of frames, and with and without room.
func tieredVolumes() []impl.Volume {
	var list []impl.Volume
	for _, v := range []impl.Volume{blankVolume(), hotVolume(nil), coldVolume(), halfVolume(), knownVolume()} {
		for many := len(v.Store); many <= objectMax; many++ {
			list = append(list, stocked(v, many, false))
			if many < objectMax {
				list = append(list, stocked(v, many+1, true))
			}
		}
	}
	for _, others := range [][]int{nil, {0}, {0, 2}, {0, 2, 3}} {
		for _, words := range []int{40, 48, 55, 64} {
			list = append(list, endedVolume(1, words, others, lastHot(30)), endedVolume(1, words, others, lastCold(30)))
		}
		for last := seqMax - 2; last <= seqMax; last++ {
			list = append(list, endedVolume(1, 40, others, lastHot(last)), endedVolume(1, 40, others, lastCold(last)))
		}
	}
	for _, v := range slices.Clone(list) {
		list = append(list, edited(v, func(v *impl.Volume) { v.Dev = synced(v.Dev) }))
	}
	return list
}

// fewHistories returns some volumes with a history.
func fewHistories() []impl.Volume {
	var list []impl.Volume
	for i, v := range histories() {
		if i%2 == 0 {
			list = append(list, v)
		}
	}
	return list
}

// movedVolumes returns all volumes with which these tests move blocks.
func movedVolumes() []impl.Volume {
	return slices.Concat(tieredVolumes(), plainVolumes(), fewHistories())
}

// chosen returns some of a list, in its order, at most as many as can be moved at once.
func chosen(r *rand.Rand, list []int) []int {
	if len(list) == 0 {
		return nil
	}
	some := r.Perm(len(list))[:1+r.IntN(min(packMax, len(list)))]
	slices.Sort(some)
	for i, at := range some {
		some[i] = list[at]
	}
	return some
}

// blocksToMove returns lists of blocks of a volume that can be moved at once: of each tier, the first ones, the last ones, one
// and some; with one of another tier among them; and any blocks.
func blocksToMove(r *rand.Rand, v impl.Volume) [][]int {
	var lists [][]int
	for tier := tierNone; tier <= tierCold; tier++ {
		of := impl.MapTier(v.Map, tier)
		if len(of) == 0 {
			continue
		}
		n := min(packMax, len(of))
		lists = append(lists, of[:n], of[len(of)-n:], of[:1], of[len(of)-1:], chosen(r, of), chosen(r, of))
		if n < blocks && n > 1 {
			other := (of[0] + 1 + r.IntN(blocks-1)) % blocks
			mixed := append(slices.Clone(of[:n-1]), other)
			slices.Sort(mixed)
			lists = append(lists, slices.Compact(mixed))
		}
	}
	return append(lists, someBlocks(r, 1+r.IntN(packMax)), someBlocks(r, packMax), someBlocks(r, 1))
}

// immovable returns blocks that cannot be moved at once, whatever volume they are of: none, too many, ones that do not ascend,
// and others that are no blocks.
func immovable() [][]int {
	lists := append(invalidBlocks(), nil, []int{}, counting(blocks, 0))
	for n := packMax + 1; n < blocks; n++ {
		lists = append(lists, counting(n, 0), counting(n, blocks-n), slices.Concat(counting(n-1, 0), []int{blocks - 1}))
	}
	return append(lists, []int{math.MinInt, math.MaxInt}, []int{0, 1 << 32}, []int{-1 << 32, 0})
}

// everyMove calls with a function's results for volumes and blocks that can be moved at once.
func everyMove(m move, call func(v impl.Volume, list []int, after impl.Volume, code int)) {
	r := rand.New(rand.NewPCG(81, 82))
	for i, v := range movedVolumes() {
		for j, list := range blocksToMove(r, v) {
			if (i+j)%3 == 0 {
				after, code := m.call(v, list)
				call(v, list, after, code)
			}
		}
	}
}

// doneMoves calls with the results of a function that returned volDone, and requires that there are at least so many.
func doneMoves(t *testing.T, m move, least int, call func(v impl.Volume, list []int, after impl.Volume)) {
	t.Helper()
	many := 0
	everyMove(m, func(v impl.Volume, list []int, after impl.Volume, code int) {
		if code == volDone {
			many++
			call(v, list, after)
		}
	})
	if many < least {
		t.Errorf("%s was done %d times; want at least %d", m.name, many, least)
	}
}

// The volumes and the blocks of these tests are what they are meant to be.
func TestMovesOfTheTests(t *testing.T) {
	for _, v := range tieredVolumes() {
		if rules := brokenRules(v); len(rules) > 0 {
			t.Fatalf("%v breaks %v", v, rules)
		}
	}
	for _, list := range immovable() {
		if areMovable(list) {
			t.Fatalf("%v can be moved", list)
		}
	}
	wantList(t, tiersOf(hotVolume(nil), counting(blocks, 0)), []int{tierHot}, "the tiers of hot blocks")
	wantList(t, tiersOf(coldVolume(), counting(blocks, 0)), []int{tierCold}, "the tiers of cold blocks")
	wantList(t, valuesOn(coldVolume()), []int{40, 84, 50, 83, 60, 85, 10, 82, 20, 86, 30, 81}, "the values of cold blocks")
	for words := 38; words <= zoneSize; words++ {
		for _, f := range []impl.Frame{lastHot(30), lastCold(30)} {
			v := endedVolume(1, words, []int{3}, f)
			if tiers := tiersOf(v, counting(6, 3)); len(brokenRules(v)) > 0 || len(v.Dev[1].Words) != words || !slices.Equal(tiers, []int{f.Kind}) {
				t.Fatalf("%v breaks %v, or has not %d words, or the tiers %v", v, brokenRules(v), words, tiers)
			}
		}
	}
}

// Promise 118: three hot blocks of a known volume. Nothing but the store is changed.
func TestVolumePackOfAKnownVolume(t *testing.T) {
	for _, c := range []struct {
		list   []int
		values []int
	}{
		{[]int{0, 3, 5}, []int{50, 8, 99}}, {[]int{3, 5}, []int{8, 99}}, {[]int{0}, []int{50}}, {[]int{5}, []int{99}},
	} {
		want := knownVolume()
		want.Store = []impl.Object{{Id: 4, Values: []int{6, 7, 21}}, {Id: 22, Values: c.values}, {Id: 40, Values: []int{33}}, {Id: 800, Values: []int{99}}}
		got, code := impl.VolumePack(knownVolume(), c.list)
		wantVolume(t, got, code, want, volDone, "VolumePack(%v)", c.list)
		// The blocks are still hot, but the object has the number of the next frame, so that there can be no further one.
		again, code := impl.VolumePack(got, c.list)
		wantVolume(t, again, code, want, volFull, "VolumePack(%v) again", c.list)
		again, code = impl.VolumeDemote(got, c.list)
		wantVolume(t, again, code, want, volFull, "VolumeDemote(%v) after VolumePack", c.list)
	}
	for _, list := range [][]int{{1}, {4}, {0, 1}, {4, 5}, {0, 3, 5, 11}, {0, 3, 5, 6}, {1, 2, 11}, {6, 7, 8, 9, 10}} {
		got, code := impl.VolumePack(knownVolume(), list)
		wantVolume(t, got, code, knownVolume(), volNone, "VolumePack(%v)", list)
	}
}

// Promises 121 and 123: the words, the object, the map and the number, exactly. The heat is as before.
func TestVolumeDemoteOfAKnownVolume(t *testing.T) {
	want := knownVolume()
	want.Store = []impl.Object{{Id: 4, Values: []int{6, 7, 21}}, {Id: 22, Values: []int{50, 99}}, {Id: 40, Values: []int{33}}, {Id: 800, Values: []int{99}}}
	want.Dev[1].Words = slices.Concat(want.Dev[1].Words, summed(2, 22, 6, 0, 22, 0, 5, 22, 1))
	want.Map[0], want.Map[5] = coldAt(1, 24, 22, 0), coldAt(1, 27, 22, 1)
	want.Seq = 23
	got, code := impl.VolumeDemote(knownVolume(), []int{0, 5})
	wantVolume(t, got, code, want, volDone, "VolumeDemote")
	wantList(t, impl.VolumeAll(got), []int{50, 6, 7, 8, 0, 99, 0, 0, 0, 0, 0, 99}, "VolumeAll")
	for _, list := range [][]int{{1}, {4}, {0, 1}, {4, 5}, {0, 3, 5, 11}, {0, 3, 5, 6}, {1, 2, 11}, {6, 7, 8, 9, 10}} {
		got, code := impl.VolumeDemote(knownVolume(), list)
		wantVolume(t, got, code, knownVolume(), volNone, "VolumeDemote(%v)", list)
	}
}

// Promise 125: values of two objects. The objects stay, and so does the heat.
func TestVolumePromoteOfAKnownVolume(t *testing.T) {
	want := knownVolume()
	want.Dev[1].Words = slices.Concat(want.Dev[1].Words, summed(1, 22, 6, 1, 6, 2, 7, 11, 99))
	want.Map[1], want.Map[2], want.Map[11] = hotAt(1, 25), hotAt(1, 27), hotAt(1, 29)
	want.Seq = 23
	got, code := impl.VolumePromote(knownVolume(), []int{1, 2, 11})
	wantVolume(t, got, code, want, volDone, "VolumePromote")
	wantList(t, impl.VolumeAll(got), []int{50, 6, 7, 8, 0, 99, 0, 0, 0, 0, 0, 99}, "VolumeAll")
	for _, list := range [][]int{{0}, {4}, {0, 1}, {1, 2, 3, 11}, {2, 10, 11}, {0, 3, 5}, {6, 7, 8, 9, 10}} {
		got, code := impl.VolumePromote(knownVolume(), list)
		wantVolume(t, got, code, knownVolume(), volNone, "VolumePromote(%v)", list)
	}
}

// Promise 128: an object that no block needs. All words last, and all else is as before.
func TestVolumeSweepOfAKnownVolume(t *testing.T) {
	want := knownVolume()
	want.Store = []impl.Object{{Id: 4, Values: []int{6, 7, 21}}, {Id: 800, Values: []int{99}}}
	want.Dev[1].Synced = 21
	got, code := impl.VolumeSweep(knownVolume())
	wantVolume(t, got, code, want, volDone, "VolumeSweep")
	got, code = impl.VolumeSweep(want)
	wantVolume(t, got, code, want, volNone, "VolumeSweep again")
	// If there is nothing to be removed, no words are made to last.
	want.Dev[1].Synced = 8
	got, code = impl.VolumeSweep(want)
	wantVolume(t, got, code, want, volNone, "VolumeSweep(%v)", want)
}

// Promises 118 to 127: all that the functions return of valid volumes and blocks that can be moved at once.
func TestMoves(t *testing.T) {
	for _, m := range moves {
		r := rand.New(rand.NewPCG(83, 84))
		seen := map[int]int{}
		for i, v := range movedVolumes() {
			for j, list := range blocksToMove(r, v) {
				if (i+j)%2 == 0 {
					_, code := wantMove(t, m, v, list)
					seen[code]++
				}
			}
		}
		if seen[volDone] < 200 || seen[volNone] < 500 || seen[volFull] < 100 || len(seen) != 3 {
			t.Errorf("the codes of %s were %v", m.name, seen)
		}
	}
}

// All blocks of one volume: each choice of at most seven of them, whatever their tiers.
func TestMovesOfAllChoicesOfBlocks(t *testing.T) {
	v := halfVolume()
	for set := range blockSet(blockSets) {
		list := set.blocks()
		if len(list) > packMax+1 {
			continue
		}
		for _, m := range moves {
			code := volNone
			if len(list) == 0 || len(list) > packMax {
				code = volInvalid
			} else if slices.Equal(tiersOf(v, list), []int{m.tier}) {
				code = volDone
			}
			wantCode(t, m, v, list, code)
		}
	}
}

// Promise 118: as the chapters before say it.
func TestVolumePackStoresOneObject(t *testing.T) {
	doneMoves(t, packing, 100, func(v impl.Volume, list []int, after impl.Volume) {
		all := impl.VolumeAll(v)
		var values []int
		for _, block := range list {
			values = append(values, all[block])
		}
		s, code := impl.StorePut(v.Store, v.Seq, values)
		want := edited(v, func(c *impl.Volume) { c.Store = s })
		wantVolume(t, after, code, want, storeDone, "VolumePack(%v, %v)", v, list)
		if len(after.Store) != len(v.Store)+1 || !impl.VolumeValid(after) {
			t.Fatalf("VolumePack(%v, %v) = %v", v, list, after)
		}
	})
}

// Promises 119, 122 and 126.
func TestMovesThatAreRefused(t *testing.T) {
	for _, m := range moves {
		everyMove(m, func(v impl.Volume, list []int, after impl.Volume, code int) {
			elsewhere := slices.ContainsFunc(list, func(block int) bool { return v.Map[block].Tier != m.tier })
			if (code == volNone) != elsewhere || code == volInvalid {
				t.Fatalf("%s(%v, %v) returned %d", m.name, v, list, code)
			}
			if code != volDone && !sameVolume(v, after) {
				t.Fatalf("%s(%v, %v) = %v, %d; want no change", m.name, v, list, after, code)
			}
		})
	}
}

// Promise 120.
func TestVolumeOpenAfterVolumePack(t *testing.T) {
	doneMoves(t, packing, 100, func(v impl.Volume, list []int, after impl.Volume) {
		opened, code := impl.VolumeOpen(after.Dev, after.Store)
		if code != volDone || slices.Contains(numbers(opened.Store), v.Seq) || !slices.Contains(numbers(after.Store), v.Seq) {
			t.Fatalf("VolumeOpen after VolumePack(%v, %v) = %v, %d", v, list, opened, code)
		}
		wantList(t, impl.VolumeAll(opened), impl.VolumeAll(v), "VolumeAll after VolumeOpen after VolumePack(%v, %v)", v, list)
	})
}

// Promises 121 and 123.
func TestVolumeDemoteMakesBlocksCold(t *testing.T) {
	doneMoves(t, demotion, 80, func(v impl.Volume, list []int, after impl.Volume) {
		wantList(t, impl.VolumeAll(after), impl.VolumeAll(v), "VolumeAll after VolumeDemote(%v, %v)", v, list)
		cold := append(impl.MapTier(v.Map, tierCold), list...)
		slices.Sort(cold)
		wantList(t, impl.MapTier(after.Map, tierCold), cold, "the cold blocks after VolumeDemote(%v, %v)", v, list)
		packed, code := impl.VolumePack(v, list)
		if code != volDone || !sameStore(after.Store, packed.Store) {
			t.Fatalf("VolumeDemote(%v, %v) has the store %v; VolumePack has %v", v, list, after.Store, packed.Store)
		}
		for i, block := range list {
			if w := after.Map[block]; w.Id != v.Seq || w.Index != i || w.Zone != after.Zone {
				t.Fatalf("after VolumeDemote(%v, %v), the block %d is at %v", v, list, block, w)
			}
		}
	})
}

// Promise 125.
func TestVolumePromoteMakesBlocksHot(t *testing.T) {
	doneMoves(t, promotion, 80, func(v impl.Volume, list []int, after impl.Volume) {
		wantList(t, impl.VolumeAll(after), impl.VolumeAll(v), "VolumeAll after VolumePromote(%v, %v)", v, list)
		wantList(t, tiersOf(after, list), []int{tierHot}, "the tiers after VolumePromote(%v, %v)", v, list)
		if !sameStore(after.Store, v.Store) || !slices.Equal(after.Heat, v.Heat) {
			t.Fatalf("VolumePromote(%v, %v) = %v", v, list, after)
		}
	})
}

// Promises 121 and 125: what was moved is valid, with one frame more and with a free zone, and no block gets hotter.
func TestMovesLeaveAFreeZone(t *testing.T) {
	for _, m := range moves[1:] {
		doneMoves(t, m, 80, func(v impl.Volume, list []int, after impl.Volume) {
			if rules := brokenRules(after); len(rules) > 0 || !impl.VolumeValid(after) {
				t.Fatalf("%s(%v, %v) = %v, which breaks %v", m.name, v, list, after, rules)
			}
			many, before := len(impl.ScanDevice(after.Dev)), len(impl.ScanDevice(v.Dev))
			if many != before+1 || impl.VolumeFree(after) < 1 || after.Seq != v.Seq+1 {
				t.Fatalf("%s(%v, %v) = %v, with %d frames and %d free zones", m.name, v, list, after, many, impl.VolumeFree(after))
			}
			wantList(t, after.Heat, v.Heat, "the heat after %s(%v, %v)", m.name, v, list)
		})
	}
}

// Promise 127.
func TestVolumePromoteAfterVolumeDemote(t *testing.T) {
	codes := map[int]int{}
	doneMoves(t, demotion, 80, func(v impl.Volume, list []int, after impl.Volume) {
		back, code := wantMove(t, promotion, after, list)
		codes[code]++
		wantList(t, impl.VolumeAll(back), impl.VolumeAll(v), "VolumeAll after VolumePromote(%v, %v)", after, list)
		if code == volDone {
			wantList(t, tiersOf(back, list), []int{tierHot}, "the tiers after VolumePromote(%v, %v)", after, list)
		}
	})
	if codes[volDone] < 50 || codes[volFull] < 5 || len(codes) != 2 {
		t.Errorf("the codes of VolumePromote were %v", codes)
	}
}

// Promises 118 to 127, and the general rules: none, too many, or other numbers than ascending blocks are refused ahead of all
// else: whether the blocks are hot or cold, and also if there is no room at all.
func TestMovesOfInvalidBlocks(t *testing.T) {
	full := endedVolume(1, zoneSize, []int{0, 2, 3}, lastHot(30))
	volumes := []impl.Volume{
		blankVolume(), hotVolume(nil), coldVolume(), halfVolume(), stocked(full, objectMax, true),
		endedVolume(1, 40, nil, lastHot(seqMax)), endedVolume(1, 40, nil, lastCold(seqMax)),
	}
	for _, m := range moves {
		for _, v := range volumes {
			for _, list := range immovable() {
				got, code := m.call(v, list)
				wantVolume(t, got, code, impl.Volume{}, volInvalid, "%s(%v, %v)", m.name, v, list)
			}
		}
	}
}

// As many blocks as can be moved at once, one more, one, and none, from the first block on and up to the last one.
func TestMovesOfFewAndManyBlocks(t *testing.T) {
	for _, m := range moves {
		v := hotVolume(nil)
		if m.tier == tierCold {
			v = coldVolume()
		}
		for n := range blocks + 1 {
			code := volDone
			if n == 0 || n > packMax {
				code = volInvalid
			}
			wantCode(t, m, v, counting(n, 0), code)
			wantCode(t, m, v, counting(n, blocks-n), code)
		}
		for block := range blocks {
			wantCode(t, m, v, []int{block}, volDone)
		}
		wantCode(t, m, v, []int{0, 2, 3, 7, 10, 11}, volDone)
	}
}

// Promises 119 and 126: one block that is in the other tier, or has no value, among others, at each place.
func TestMovesOfABlockInAnotherTier(t *testing.T) {
	for _, m := range moves {
		for _, other := range []int{tierNone, tierHot, tierCold} {
			if other == m.tier {
				continue
			}
			for n := 1; n <= packMax; n++ {
				for at := range n {
					wantCode(t, m, volumeWithOther(counting(n, 5), m.tier, 5+at, other), counting(n, 5), volNone)
				}
				wantCode(t, m, volumeWithOther(counting(n, 5), m.tier, 1, other), counting(n, 5), volDone)
			}
		}
	}
}

// volumeWithOther returns a volume with blocks in a tier, and then one of all blocks in another one.
func volumeWithOther(list []int, tier int, block int, other int) impl.Volume {
	frame := func(seq int, tier int, list ...int) impl.Frame {
		switch tier {
		case tierHot:
			return numbered(seq, hotFrame(differentPairs(list...)...))
		case tierCold:
			return places(seq, 3, list...)
		}
		return numbered(seq, hotFrame(pairsFrom(list[0], 1, 0)...))
	}
	return volumeOn(3, twoObjects(), nil, nil, nil, []impl.Frame{frame(11, tier, list...), frame(12, other, block)})
}

// Promises 118, 119, 122 and 123: with all numbers of objects. As many as there can be, or one with the number of the next
// frame, are VolFull, also if both hold. VolumePromote needs no object.
func TestMovesWithAllNumbersOfObjects(t *testing.T) {
	for _, v := range []impl.Volume{hotVolume(nil), knownVolume(), halfVolume()} {
		hot, cold := impl.MapTier(v.Map, tierHot)[:3], impl.MapTier(v.Map, tierCold)
		for many := len(v.Store); many <= objectMax; many++ {
			code := volDone
			if many == objectMax {
				code = volFull
			}
			for _, m := range moves[:2] {
				wantCode(t, m, stocked(v, many, false), hot, code)
				if many > len(v.Store) {
					wantCode(t, m, stocked(v, many, true), hot, volFull)
				}
			}
			if len(cold) > 0 {
				wantCode(t, promotion, stocked(v, many, false), cold, volDone)
				wantCode(t, promotion, stocked(v, max(many, len(v.Store)+1), true), cold, volDone)
			}
		}
	}
}

// The object of VolumePack and VolumeDemote is at its place in the store: ahead of all others, between them, and behind them.
func TestMovesKeepTheOrderOfObjects(t *testing.T) {
	for _, ids := range [][]int{{31, 32}, {1, 2}, {1, 30, 32, 999}, {30, 31, 40}, {29, 30, 31}, {2, 3, 4, 5, 6}} {
		v := endedVolume(2, 40, nil, lastHot(30))
		v.Store = nil
		for i, id := range ids {
			v.Store = append(v.Store, impl.Object{Id: id, Values: counting(1+i, 10*i+1)})
		}
		code, want := volDone, slices.Clone(ids)
		if slices.Contains(ids, 31) {
			code = volFull
		} else {
			want = append(want, 31)
			slices.Sort(want)
		}
		for _, m := range moves[:2] {
			got := wantCode(t, m, v, []int{4, 6, 7}, code)
			wantList(t, numbers(got.Store), want, "the objects after %s", m.name)
		}
	}
}

// The least number of a frame, and the last ones. With all numbers used, nothing can be moved, whatever tier it is in.
func TestMovesUpToTheLastNumber(t *testing.T) {
	for _, m := range moves {
		// Without a frame, no block has a value.
		got := wantCode(t, m, volumeOn(2, objectsFrom(3, 1, 1)), []int{0, 5}, volNone)
		if got.Seq != 1 {
			t.Fatalf("%s left the number %d", m.name, got.Seq)
		}
		for _, others := range [][]int{nil, {3}, {0, 3}} {
			for last := seqMax - 2; last <= seqMax; last++ {
				f := lastHot(last)
				if m.tier == tierCold {
					f = lastCold(last)
				}
				code := volDone
				if last == seqMax {
					code = volFull
				}
				got := wantCode(t, m, endedVolume(1, 38, others, f), []int{3, 5, 8}, code)
				if want := last + 1 + min(m.words, 1)*(volFull-code); got.Seq != want {
					t.Fatalf("%s left the number %d; want %d", m.name, got.Seq, want)
				}
			}
		}
	}
	// The first number that a frame can have behind another one, and an object with it.
	v := volumeOn(0, nil, []impl.Frame{valueFrame(1, 6, 60)})
	v = wantCode(t, demotion, v, []int{6}, volDone)
	if v.Map[6] != coldAt(0, 9, 2, 0) || v.Seq != 3 {
		t.Errorf("VolumeDemote leads to %v", v)
	}
	// The last number that an object can have, and no number any more for the frame that makes the block hot again.
	v = wantCode(t, demotion, endedVolume(1, 38, nil, lastHot(seqMax-1)), []int{3, 4}, volDone)
	if v.Map[4] != coldAt(1, 44, seqMax, 1) || v.Seq != seqMax+1 {
		t.Errorf("VolumeDemote leads to %v", v)
	}
	wantCode(t, promotion, v, []int{3, 4}, volFull)
	wantCode(t, packing, v, []int{5}, volFull)
}

// The conditions are checked in order: first blocks that are not in the tier, and only then objects, numbers and room.
func TestMovesCheckTiersAheadOfRoom(t *testing.T) {
	full := []impl.Volume{
		stocked(endedVolume(1, zoneSize, []int{0, 2, 3}, lastHot(30)), objectMax, true), endedVolume(1, zoneSize, []int{0, 2, 3}, lastCold(30)),
		endedVolume(1, 40, nil, lastHot(seqMax)), endedVolume(1, 40, nil, lastCold(seqMax)), stocked(halfVolume(), objectMax, false),
		stocked(halfVolume(), 3, true), stocked(blankVolume(), objectMax, true),
	}
	for _, v := range full {
		for _, m := range moves {
			for block := range blocks {
				for _, other := range []int{0, blocks - 1} {
					list := slices.Compact([]int{min(block, other), max(block, other)})
					if v.Map[block].Tier != m.tier || v.Map[other].Tier != m.tier {
						wantCode(t, m, v, list, volNone)
					}
				}
			}
		}
	}
}

// Blocks that were cold before and are hot again get a new object. The old one stays until it is swept.
func TestVolumeDemoteOfBlocksThatAreHotAgain(t *testing.T) {
	v, _ := impl.VolumeFormat(make([]impl.Zone, zones))
	v, _ = impl.VolumeWrite(v, differentPairs(1, 2, 3, 4, 5))
	v = wantCode(t, demotion, v, []int{1, 2, 3}, volDone)
	v = wantCode(t, demotion, v, []int{1, 2, 3}, volNone)
	v, _ = impl.VolumeWrite(v, []impl.Pair{{Block: 2, Value: 77}})
	v = wantCode(t, promotion, v, []int{3}, volDone)
	v = wantCode(t, demotion, v, []int{1, 2, 4}, volNone)
	v = wantCode(t, demotion, v, []int{2, 3, 4}, volDone)
	wantList(t, impl.VolumeAll(v), []int{0, 75, 77, 50, 87, 25, 0, 0, 0, 0, 0, 0}, "VolumeAll")
	want := []impl.Object{{Id: 2, Values: []int{75, 13, 50}}, {Id: 5, Values: []int{77, 50, 87}}}
	if !sameStore(v.Store, want) {
		t.Fatalf("the store is %v; want %v", v.Store, want)
	}
	// Block 1 still needs the first object.
	v, code := wantSweep(t, v)
	if code != volNone {
		t.Fatalf("VolumeSweep(%v) returned %d", v, code)
	}
	v = wantCode(t, promotion, v, []int{1}, volDone)
	v, code = wantSweep(t, v)
	if code != volDone || !sameStore(v.Store, want[1:]) {
		t.Fatalf("VolumeSweep returned %v, %d", v, code)
	}
	wantList(t, impl.MapTier(v.Map, tierCold), []int{2, 3, 4}, "the cold blocks")
}

// Promise 125: blocks of one object and of several, in the order of its places and not, and each one alone.
func TestVolumePromoteOfSeveralObjects(t *testing.T) {
	v := coldVolume()
	for _, list := range [][]int{{0, 2, 4, 6, 8, 10}, {1, 3, 5, 7, 9, 11}, {0, 1, 2, 3, 4, 5}, {6, 7, 8, 9, 10, 11}, {0, 11}, {3, 4}, {5}, {10}} {
		got := wantCode(t, promotion, v, list, volDone)
		wantList(t, impl.VolumeAll(got), valuesOn(v), "VolumeAll after VolumePromote(%v, %v)", v, list)
		wantList(t, impl.MapTier(got.Map, tierHot), list, "the hot blocks")
	}
	// All blocks, six at a time; then, no object is needed any more.
	for _, list := range [][]int{{0, 3, 4, 7, 8, 11}, {1, 2, 5, 6, 9, 10}} {
		v = wantCode(t, promotion, v, list, volDone)
	}
	if got, code := wantSweep(t, v); code != volDone || len(got.Store) > 0 {
		t.Errorf("VolumeSweep(%v) = %v, %d", v, got, code)
	}
}

// The frames that have room, and those that have none: with all numbers of words in the current zone, all other zones with and
// without words, and frames of all sizes. VolumePack needs no room.
func TestMovesNeedFreeZones(t *testing.T) {
	for _, m := range moves {
		seen := map[string]int{}
		f := lastHot(30)
		if m.tier == tierCold {
			f = lastCold(30)
		}
		for current := range zones {
			for _, others := range otherZones(current) {
				for words := 40; words <= zoneSize; words++ {
					v := endedVolume(current, words, others, f)
					for n := 1; n <= packMax; n++ {
						size, free, code := 4+m.words*n, zones-1-len(others), volDone
						if m.words > 0 && !roomFor(size, words, free) {
							code = volFull
						}
						got := wantCode(t, m, v, counting(n, 3), code)
						fits := m.words == 0 || words+size <= zoneSize
						if code == volDone && fits != (got.Zone == current) {
							t.Fatalf("%s(%v) of %d blocks leads to the zone %d", m.name, v, n, got.Zone)
						}
						seen[fmt.Sprint(code, free, fits)]++
					}
				}
			}
		}
		wantRoomKinds(t, m, seen)
	}
}

// wantRoomKinds requires that a function was done and refused with each number of free zones, where the current zone changes and
// where it does not.
func wantRoomKinds(t *testing.T, m move, seen map[string]int) {
	t.Helper()
	kinds := []string{"0 3 true", "0 3 false", "0 2 true", "0 2 false", "0 1 true", "1 1 false", "1 0 true", "1 0 false"}
	if m.words == 0 {
		kinds = []string{"0 3 true", "0 2 true", "0 1 true", "0 0 true"}
	}
	for _, kind := range kinds {
		if seen[kind] < 80 {
			t.Errorf("%s: %s was seen %d times", m.name, kind, seen[kind])
		}
	}
	if len(seen) != len(kinds) {
		t.Errorf("%s: %v was seen; want the kinds %v", m.name, seen, kinds)
	}
}

// What VolumeDemote and VolumePromote do if the frame just fits, and if it is too long by one word, exactly. Where there is no
// room, the volume is unchanged, its store included.
func TestMovesThatChangeTheZone(t *testing.T) {
	// The frame has 10 words. Of the blocks 3 and 4, the values are 50 and 87.
	v := endedVolume(1, 54, []int{2, 3}, lastHot(30))
	want := edited(v, func(v *impl.Volume) {
		v.Dev[1].Words = slices.Concat(v.Dev[1].Words, summed(2, 31, 6, 3, 31, 0, 4, 31, 1))
		v.Store = append(v.Store, impl.Object{Id: 31, Values: []int{50, 87}})
		v.Map[3], v.Map[4] = coldAt(1, 57, 31, 0), coldAt(1, 60, 31, 1)
		v.Seq = 32
	})
	got, code := impl.VolumeDemote(v, []int{3, 4})
	wantVolume(t, got, code, want, volDone, "VolumeDemote(%v)", v)
	v = endedVolume(1, 55, []int{3}, lastHot(30))
	want = edited(v, func(v *impl.Volume) {
		v.Dev[1].Full, v.Dev[1].Synced = true, 55
		v.Dev[0].Words = summed(2, 31, 6, 3, 31, 0, 4, 31, 1)
		v.Store = append(v.Store, impl.Object{Id: 31, Values: []int{50, 87}})
		v.Map[3], v.Map[4] = coldAt(0, 3, 31, 0), coldAt(0, 6, 31, 1)
		v.Seq, v.Zone = 32, 0
	})
	got, code = impl.VolumeDemote(v, []int{3, 4})
	wantVolume(t, got, code, want, volDone, "VolumeDemote(%v)", v)
	// The frame has 8 words. Of the blocks 3 and 4, the values are 71 and 75.
	v = endedVolume(2, 57, []int{0}, lastCold(30))
	want = edited(v, func(v *impl.Volume) {
		v.Dev[2].Full, v.Dev[2].Synced = true, 57
		v.Dev[1].Words = summed(1, 31, 4, 3, 71, 4, 75)
		v.Map[3], v.Map[4] = hotAt(1, 4), hotAt(1, 6)
		v.Seq, v.Zone = 32, 1
	})
	got, code = impl.VolumePromote(v, []int{3, 4})
	wantVolume(t, got, code, want, volDone, "VolumePromote(%v)", v)
	// The last free zone is not used, and without one, no frame has room, although the current zone has.
	for _, others := range [][]int{{2, 3}, {0, 2, 3}} {
		v = endedVolume(1, 65-10*(len(others)-2)-10, others, lastHot(30))
		got, code = impl.VolumeDemote(v, []int{3, 4})
		wantVolume(t, got, code, v, volFull, "VolumeDemote(%v)", v)
		v = endedVolume(1, 65-8*(len(others)-2)-8, others, lastCold(30))
		got, code = impl.VolumePromote(v, []int{3, 4})
		wantVolume(t, got, code, v, volFull, "VolumePromote(%v)", v)
	}
}

// A frame without room leaves no object behind: after a zone was made free, blocks can be demoted with the same number.
func TestVolumeDemoteAfterItHadNoRoom(t *testing.T) {
	v := endedVolume(1, 60, []int{0, 3}, lastHot(30))
	for range 3 {
		v = wantCode(t, demotion, v, []int{3, 5, 6}, volFull)
	}
	v = afterCollect(v)
	v = wantCode(t, demotion, v, []int{3, 5, 6}, volDone)
	if id := v.Map[6].Id; id != v.Seq-1 || !slices.Contains(numbers(v.Store), id) {
		t.Errorf("the block 6 is in object %d of %v", id, v)
	}
}

// Promises 128 and 129: all that VolumeSweep returns.
func TestVolumeSweep(t *testing.T) {
	seen := map[int]int{}
	for _, v := range movedVolumes() {
		got, code := wantSweep(t, v)
		seen[code]++
		if code == volDone {
			wantList(t, numbers(got.Store), impl.MapIds(v.Map), "the objects after VolumeSweep(%v)", v)
			wantList(t, impl.VolumeAll(got), impl.VolumeAll(v), "VolumeAll after VolumeSweep(%v)", v)
			wantLost(t, got, 0)
			if !impl.VolumeValid(got) {
				t.Fatalf("VolumeSweep(%v) = %v, which is invalid", v, got)
			}
		}
		again, n := impl.VolumeSweep(got)
		wantVolume(t, again, n, got, volNone, "VolumeSweep(%v) again", got)
	}
	if seen[volDone] < 100 || seen[volNone] < 50 || len(seen) != 2 {
		t.Errorf("the codes were %v; want at least 100 times done, and 50 times none", seen)
	}
}

// Promises 128 and 129: each choice of objects that are needed, with all words that last, some and none.
func TestVolumeSweepOfAllChoicesOfObjects(t *testing.T) {
	s := objectsFrom(objectMax, 10, 10)
	for needed := range 1 << objectMax {
		var frames []impl.Frame
		var ids []int
		for i, o := range s {
			if needed>>i&1 == 1 {
				frames = append(frames, places(1+i, o.Id, 11-i))
				ids = append(ids, o.Id)
			}
		}
		v := volumeOn(1, s, nil, frames)
		for _, last := range []int{0, len(v.Dev[1].Words) / 2, len(v.Dev[1].Words)} {
			v.Dev[1].Synced = last
			want, code := edited(v, func(v *impl.Volume) { v.Dev, v.Store = synced(v.Dev), remaining(s, ids) }), volDone
			if len(ids) == objectMax {
				want, code = v, volNone
			}
			got, n := impl.VolumeSweep(v)
			wantVolume(t, got, n, want, code, "VolumeSweep(%v)", v)
		}
	}
}

// Without objects, there is nothing to be swept, whether words last or not; without frames, no object is needed.
func TestVolumeSweepWithoutObjects(t *testing.T) {
	for _, v := range []impl.Volume{blankVolume(), volumeOn(3, nil), hotVolume(nil), edited(hotVolume(nil), func(v *impl.Volume) { v.Dev = synced(v.Dev) })} {
		got, code := impl.VolumeSweep(v)
		wantVolume(t, got, code, v, volNone, "VolumeSweep(%v)", v)
		for many := 1; many <= objectMax; many++ {
			for _, withNext := range []bool{false, true} {
				stock := stocked(v, many, withNext)
				want := edited(v, func(v *impl.Volume) { v.Dev = synced(v.Dev) })
				got, code = impl.VolumeSweep(stock)
				wantVolume(t, got, code, want, volDone, "VolumeSweep(%v)", stock)
			}
		}
	}
}

// Several blocks of one object, and blocks of one object that are told twice: an object is needed as long as one block is in it.
func TestVolumeSweepOfSharedObjects(t *testing.T) {
	v := coldVolume()
	for block := range blocks {
		v, _ = impl.VolumeWrite(v, []impl.Pair{{Block: block, Value: block % 2}})
		if got, code := wantSweep(t, v); (code == volDone) != (block >= 10) {
			t.Fatalf("VolumeSweep(%v) = %v, %d", v, got, code)
		}
	}
	v, _ = impl.VolumeSweep(v)
	if len(v.Store) > 0 {
		t.Errorf("the objects %v are left", v.Store)
	}
}

// wantCrashes requires what each crash of a volume leads to, and calls with it and with how many words were kept of those that did
// not last.
func wantCrashes(t *testing.T, v impl.Volume, call func(got impl.Volume, code int, many int)) {
	t.Helper()
	for many := range unsynced(v.Dev[v.Zone]) + 2 {
		got, code := wantCrash(t, v, keeping(v.Zone, many))
		call(got, code, many)
	}
}

// Promises 120 and 124: a crash after a move of a volume that was synced, with each number of words kept, whether the current
// zone changes or not. The values are the same; the blocks are moved just if all words of the frame are kept, and only then the
// object of VolumeDemote is there. That of VolumePack is gone.
func TestCrashesAfterMovesOfSyncedVolumes(t *testing.T) {
	for _, m := range moves {
		seen := map[bool]int{}
		doneMoves(t, m, 80, func(v impl.Volume, list []int, _ impl.Volume) {
			before, _ := impl.VolumeSync(v)
			after, _ := m.call(before, list)
			opened, _ := impl.VolumeOpen(before.Dev, before.Store)
			moved, _ := impl.VolumeOpen(after.Dev, after.Store)
			size := len(after.Dev[after.Zone].Words) - after.Dev[after.Zone].Synced
			wantCrashes(t, after, func(got impl.Volume, code int, many int) {
				want := opened
				if many >= size {
					want = moved
				}
				if code != volDone || !slices.Equal(got.Map, want.Map) || !sameStore(got.Store, want.Store) {
					t.Fatalf("after %s(%v, %v), VolumeCrash with %d words = %v, %d; want %v", m.name, before, list, many, got, code, want)
				}
				if m.tier == tierHot && slices.Contains(numbers(got.Store), v.Seq) != (m.words > 0 && many >= size) {
					t.Fatalf("after %s(%v, %v), VolumeCrash with %d words = %v", m.name, before, list, many, got)
				}
				wantList(t, impl.VolumeAll(got), impl.VolumeAll(v), "VolumeAll after %s(%v, %v) and VolumeCrash with %d words", m.name, before, list, many)
			})
			seen[before.Zone == after.Zone]++
		})
		if seen[true] < 50 || m.words > 0 && seen[false] < 5 {
			t.Errorf("%s kept the zone, and did not: %v", m.name, seen)
		}
	}
}

// wantEarlierCrashes requires that crashes after a function that changes no value lead to the values to which crashes ahead of it
// lead, or to those of the volume itself if the zone was changed, as all words ahead of this last then. It returns how many of
// the crashes lead to earlier values.
func wantEarlierCrashes(t *testing.T, name string, v impl.Volume, after impl.Volume) int {
	t.Helper()
	less := 0
	wantCrashes(t, after, func(got impl.Volume, code int, many int) {
		keep := slices.Repeat([]int{zoneSize}, zones)
		if after.Zone == v.Zone {
			keep = keeping(v.Zone, many)
		}
		ahead, wantCode := impl.VolumeCrash(v, keep)
		if code != wantCode {
			t.Fatalf("after %s of %v, VolumeCrash with %d words returned %d; ahead of it, %d", name, v, many, code, wantCode)
		}
		wantList(t, impl.VolumeAll(got), impl.VolumeAll(ahead), "VolumeAll after %s of %v and VolumeCrash with %d words", name, v, many)
		if !slices.Equal(impl.VolumeAll(got), impl.VolumeAll(v)) {
			less++
		}
	})
	return less
}

// A crash after a move of a volume that was not synced leads to the values to which a crash ahead of the move leads.
func TestCrashesAfterMovesOfOtherVolumes(t *testing.T) {
	for _, m := range moves {
		less, calls := 0, 0
		doneMoves(t, m, 80, func(v impl.Volume, _ []int, after impl.Volume) {
			if calls++; calls%4 > 0 {
				return
			}
			less += wantEarlierCrashes(t, m.name, v, after)
		})
		if less < 300 {
			t.Errorf("after %s, crashes led to earlier values %d times; want at least 300", m.name, less)
		}
	}
}

// A crash after VolumeDemote that loses its frame: the blocks are hot, and can be demoted again, with the same number.
func TestVolumeDemoteAfterACrash(t *testing.T) {
	for _, words := range []int{44, 60} {
		v, _ := impl.VolumeSync(endedVolume(2, words, []int{1}, lastHot(30)))
		v.Store = remaining(v.Store, idsOn(v.Map))
		v.Heat = make([]int, blocks)
		after := wantCode(t, demotion, v, []int{3, 4, 5}, volDone)
		wantCrashes(t, after, func(got impl.Volume, code int, many int) {
			if many >= 13 {
				wantVolume(t, got, code, edited(after, func(v *impl.Volume) { v.Dev = synced(v.Dev) }), volDone, "VolumeCrash(%v)", after)
				return
			}
			wantList(t, tiersOf(got, []int{3, 4, 5}), []int{tierHot}, "the tiers after VolumeCrash(%v)", after)
			if again := wantCode(t, demotion, got, []int{3, 4, 5}, volDone); !sameStore(again.Store, after.Store) || again.Seq != after.Seq {
				t.Fatalf("VolumeDemote(%v) = %v; want the store of %v", got, again, after)
			}
		})
	}
}

// Promise 130, also for volumes that were not synced: no crash brings back what a swept object had.
func TestCrashesAfterVolumeSweep(t *testing.T) {
	many := 0
	for _, v := range movedVolumes() {
		after, code := impl.VolumeSweep(v)
		if code != volDone {
			continue
		}
		many++
		for _, keep := range keptWords(v) {
			got, code := wantCrash(t, after, keep)
			if code != volDone || !sameStore(got.Store, after.Store) || !slices.Equal(got.Map, after.Map) {
				t.Fatalf("VolumeCrash(%v, %v) after VolumeSweep = %v, %d", after, keep, got, code)
			}
			wantList(t, impl.VolumeAll(got), impl.VolumeAll(v), "VolumeAll after VolumeCrash(%v, %v) after VolumeSweep", after, keep)
		}
	}
	if many < 100 {
		t.Errorf("VolumeSweep was done %d times; want at least 100", many)
	}
}

// Promise 130: a block that was cold was written, and this frame does not last yet. The object is still needed if it is lost.
func TestVolumeSweepMakesWordsLastFirst(t *testing.T) {
	frames := []impl.Frame{places(9, 3, 0, 1), places(10, 8, 5, 6)}
	v, _ := impl.VolumeSync(volumeOn(1, twoObjects(), nil, frames))
	for _, list := range [][]impl.Pair{differentPairs(0, 5), pairsFrom(1, 1, 0), pairsFrom(6, 1, 0)} {
		v, _ = impl.VolumeWrite(v, list)
	}
	before := impl.VolumeLost(v)
	after, code := wantSweep(t, v)
	if code != volDone || before == 0 || len(after.Store) > 0 {
		t.Fatalf("VolumeSweep(%v) = %v, %d", v, after, code)
	}
	got, code := wantCrash(t, after, make([]int, zones))
	if code != volDone {
		t.Fatalf("VolumeCrash(%v) returned %d", after, code)
	}
	wantList(t, impl.VolumeAll(got), impl.VolumeAll(v), "VolumeAll after VolumeCrash(%v)", after)
	// If nothing is swept, the frames can still be lost, and then the objects are needed.
	stay, code := wantCrash(t, v, make([]int, zones))
	if code != volDone || len(stay.Store) != 2 {
		t.Fatalf("VolumeCrash(%v) = %v, %d", v, stay, code)
	}
}

// Promises 118 to 130: invalid volumes, with valid blocks and with invalid ones.
func TestTiersOfInvalidVolumes(t *testing.T) {
	for _, b := range brokenVolumes() {
		for _, m := range moves {
			for _, list := range [][]int{nil, {0}, {0, 3, 5}, {1, 2, 11}, {-1}, {3, 3}, counting(packMax+1, 0)} {
				got, code := m.call(b.v, list)
				wantVolume(t, got, code, impl.Volume{}, volInvalid, "%s(%v, %v)", m.name, b.v, list)
			}
		}
		got, code := impl.VolumeSweep(b.v)
		wantVolume(t, got, code, impl.Volume{}, volInvalid, "VolumeSweep(%v)", b.v)
	}
}

// randomTierCall calls one function of the program with valid arguments, and returns what it returns, and what it should return.
func randomTierCall(r *rand.Rand, v impl.Volume) (string, impl.Volume, int, impl.Volume, int) {
	n := r.IntN(14)
	if n < 8 {
		m := moves[min(n/2, 2)]
		list := chosen(r, impl.MapTier(v.Map, m.tier))
		if r.IntN(10) == 0 || len(list) == 0 {
			list = someBlocks(r, 1+r.IntN(packMax))
		}
		got, code := m.call(v, list)
		want, wantCode := m.model(v, list)
		return m.name, got, code, want, wantCode
	}
	if n == 8 {
		got, code := impl.VolumeSweep(v)
		want, wantCode := afterSweep(v)
		return "VolumeSweep", got, code, want, wantCode
	}
	return randomCall(r, v)
}

// manyCalls calls functions with volumes, one after the other, with a crash now and then and something that makes room, and returns
// how often each one returned each code. It requires what they return, that each volume is valid and has the values that were
// written last, that no earlier one changes, and that a crash leads to values that the volume had at some time since all of its
// words lasted.
func manyCalls(t *testing.T, r *rand.Rand, call func(*rand.Rand, impl.Volume) (string, impl.Volume, int, impl.Volume, int), makeRoom func(impl.Volume) impl.Volume) map[string]int {
	t.Helper()
	seen := map[string]int{}
	for range 30 {
		v, _ := impl.VolumeFormat(make([]impl.Zone, zones))
		past := [][]int{impl.VolumeAll(v)}
		for range 100 {
			before := copiedVolume(v)
			name, got, code, want, wantCode := call(r, v)
			wantVolume(t, got, code, want, wantCode, "%s of %v", name, before)
			if seen[fmt.Sprint(name, code)]++; !sameVolume(v, before) || !impl.VolumeValid(got) {
				t.Fatalf("%s of %v returned %v, and left %v", name, before, got, v)
			}
			if name != "VolumeWrite" {
				wantList(t, impl.VolumeAll(got), impl.VolumeAll(v), "VolumeAll after %s of %v", name, v)
			}
			if got.Zone != v.Zone || impl.VolumeLost(got) == 0 {
				past = [][]int{impl.VolumeAll(v)}
			}
			past = append(past, impl.VolumeAll(got))
			opened, n := wantCrash(t, got, []int{r.IntN(40), r.IntN(40), r.IntN(40), r.IntN(40)})
			values := impl.VolumeAll(opened)
			if n != volDone || !slices.ContainsFunc(past, func(list []int) bool { return slices.Equal(list, values) }) {
				t.Fatalf("VolumeCrash(%v) = %v, %d; the values were %v", got, opened, n, past)
			}
			if v = got; r.IntN(12) == 0 {
				v, past = opened, [][]int{values}
			}
			if more := makeRoom(v); !sameVolume(more, v) {
				v, past = more, [][]int{impl.VolumeAll(v)}
			}
		}
	}
	return seen
}

// Promises 118 to 130: whatever is done one after the other. What the next chapter does to a volume is done by these tests.
func TestManyMovesOneAfterTheOther(t *testing.T) {
	seen := manyCalls(t, rand.New(rand.NewPCG(85, 86)), randomTierCall, func(v impl.Volume) impl.Volume {
		if impl.VolumeFree(v) < 2 {
			return afterCollect(v)
		}
		return v
	})
	for _, name := range []string{"VolumePack0", "VolumePack1", "VolumePack2", "VolumeDemote0", "VolumeDemote1", "VolumeDemote2", "VolumePromote0", "VolumePromote2", "VolumeSweep0", "VolumeSweep2"} {
		if seen[name] < 20 {
			t.Errorf("%s was seen %d times; want at least 20 of %v", name, seen[name], seen)
		}
	}
}

// tierCalls returns all functions of the chapter, called with a volume, so that each one is done, refused, and fails.
func tierCalls() map[string]func(impl.Volume, []impl.Pair) (impl.Volume, int) {
	calls := map[string]func(impl.Volume, []impl.Pair) (impl.Volume, int){
		"VolumeSweep": func(v impl.Volume, _ []impl.Pair) (impl.Volume, int) { return impl.VolumeSweep(v) },
	}
	for _, m := range moves {
		for _, list := range [][]int{nil, {0}, {0, 3, 5}, {1, 2, 11}, {3, 4, 5, 6, 7, 8}, {-1}} {
			calls[fmt.Sprintf("%s of %v", m.name, list)] = func(v impl.Volume, _ []impl.Pair) (impl.Volume, int) { return m.call(v, list) }
		}
	}
	return calls
}

// General rules: arguments, valid or not, are not changed, and results share no memory, also if a volume is returned unchanged.
func TestTiersKeepArgumentsAndShareNoMemory(t *testing.T) {
	volumes := fewBroken()
	for i, v := range movedVolumes() {
		if i%3 == 0 {
			volumes = append(volumes, v)
		}
	}
	for name, call := range tierCalls() {
		for _, v := range volumes {
			checkVolumeMemory(t, name, call, v, nil)
		}
	}
}

// General rules: the blocks are not changed and not kept, also if they share memory with the volume.
func TestMovesKeepTheirBlocks(t *testing.T) {
	for _, m := range moves {
		for _, list := range [][]int{nil, {0}, {0, 3, 5}, {1, 2, 11}, {0, 1}, {5, 3}, {3, -1}, {-1, 0}, counting(packMax, 0), counting(packMax+1, 0)} {
			checkNumbers(t, m.name, m.call, knownVolume(), list)
		}
		for _, apart := range []impl.Volume{hotVolume(nil), coldVolume()} {
			apart.Heat = []int{5, 7, 8, 9, 10, 11, 1, 3, 4, 6, 8, 9}
			for n := 1; n <= packMax; n++ {
				for from := range blocks - n + 1 {
					v := copiedVolume(apart)
					got, code := m.call(v, v.Heat[from:from+n])
					want, wantCode := m.model(apart, apart.Heat[from:from+n])
					wantVolume(t, got, code, want, wantCode, "%s(%v, %v)", m.name, v, apart.Heat[from:from+n])
					wantVolume(t, v, 0, apart, 0, "%s left a volume; it", m.name)
				}
			}
		}
	}
	// The blocks are the values of an object, and words of a frame.
	v := volumeOn(0, []impl.Object{{Id: 4, Values: []int{1, 5}}}, []impl.Frame{places(1, 4, 1, 5)})
	apart := copiedVolume(v)
	got, code := impl.VolumePromote(v, v.Store[0].Values)
	want, wantCode := afterPromotion(apart, []int{1, 5})
	wantVolume(t, got, code, want, wantCode, "VolumePromote(%v)", v)
	checkVolumeApart(t, "VolumePromote", got)
	wantVolume(t, v, 0, apart, 0, "VolumePromote left a volume; it")
}

// General rules: the parts of a volume may share memory in the argument, and do not in the result.
func TestTiersOfPartsThatShareMemory(t *testing.T) {
	full := stocked(endedVolume(1, 60, []int{0, 2, 3}, lastHot(30)), objectMax, false)
	for name, call := range tierCalls() {
		for _, apart := range []impl.Volume{hotVolume(nil), coldVolume(), knownVolume(), full, endedVolume(2, 60, nil, lastCold(30)), endedVolume(1, 40, nil, lastHot(seqMax))} {
			checkSharing(t, name, call, apart, nil)
		}
	}
	// Two objects have the same values, and one of them begins behind the other one.
	values := []int{9, 8, 7, 6, 5, 4}
	s := []impl.Object{{Id: 3, Values: values}, {Id: 4, Values: values[2:]}, {Id: 5, Values: values[:1]}}
	v := volumeOn(0, s, []impl.Frame{places(1, 3, 0, 1, 2), places(2, 4, 5, 6), valueFrame(3, 8, 80)})
	for name, call := range tierCalls() {
		got, _ := call(v, nil)
		checkVolumeApart(t, name, got)
	}
	for _, m := range moves {
		got, _ := wantMove(t, m, v, []int{8})
		checkVolumeApart(t, m.name, got)
	}
	wantList(t, values, []int{9, 8, 7, 6, 5, 4}, "the values")
}

// General rules: nil and empty slices are equivalent, as arguments.
func TestTiersWithNilAndEmptySlices(t *testing.T) {
	empty := impl.Volume{Dev: []impl.Zone{}, Store: []impl.Object{}, Map: []impl.Where{}, Heat: []int{}}
	bare := edited(hotVolume(nil), func(v *impl.Volume) {
		v.Store = []impl.Object{}
		for z := 1; z < zones; z++ {
			v.Dev[z].Words = []int{}
		}
	})
	for name, call := range tierCalls() {
		want, code := call(hotVolume(nil), nil)
		got, again := call(bare, nil)
		wantVolume(t, got, again, want, code, "%s", name)
		got, code = call(empty, nil)
		wantVolume(t, got, code, impl.Volume{}, volInvalid, "%s", name)
		got, code = call(impl.Volume{}, nil)
		wantVolume(t, got, code, impl.Volume{}, volInvalid, "%s", name)
	}
	for _, m := range moves {
		for _, list := range [][]int{nil, {}} {
			got, code := m.call(bare, list)
			wantVolume(t, got, code, impl.Volume{}, volInvalid, "%s(%v, %v)", m.name, bare, list)
		}
	}
}

// What a call returns does not depend on others at the same time, even for the same arguments.
func TestTiersAtTheSameTime(t *testing.T) {
	v, list := knownVolume(), []int{0, 3, 5}
	cold, _ := afterDemotion(v, list)
	swept, _ := afterSweep(v)
	var calls sync.WaitGroup
	for range 8 {
		calls.Go(func() {
			for range 200 {
				got, code := impl.VolumeDemote(v, list)
				if code != volDone || !sameVolume(got, cold) {
					t.Errorf("VolumeDemote(%v, %v) = %v, %d; want %v", v, list, got, code, cold)
				}
				got, code = impl.VolumePromote(v, list)
				if code != volNone || !sameVolume(got, v) {
					t.Errorf("VolumePromote(%v, %v) = %v, %d; want %v", v, list, got, code, v)
				}
				got, code = impl.VolumeSweep(v)
				if code != volDone || !sameVolume(got, swept) {
					t.Errorf("VolumeSweep(%v) = %v, %d; want %v", v, got, code, swept)
				}
			}
		})
	}
	calls.Wait()
}

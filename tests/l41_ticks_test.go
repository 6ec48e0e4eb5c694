package tests

import (
	"fmt"
	"math/rand/v2"
	"slices"
	"sync"
	"testing"

	"loop.example/tiervolume/impl"
)

// As in the tests of frames, the numbers of the document are written out.
const (
	hotMax      = 6
	coldMany    = 3
	tickNone    = 0
	tickCollect = 1
	tickDemote  = 2
	tickSweep   = 3
	tickInvalid = 4
)

// inTier returns the blocks of a tier, apart from the program.
func inTier(v impl.Volume, tier int) []int {
	return slices.DeleteFunc(counting(blocks, 0), func(block int) bool { return v.Map[block].Tier != tier })
}

// A due tells for each of the plans whether its condition holds, whatever comes first.
type due struct {
	collect, demote, sweep bool
}

// dueOn returns what is due for a valid volume, apart from the program.
func dueOn(v impl.Volume) due {
	return due{
		collect: len(freeZones(v)) < 2 && oldestOn(v) >= 0,
		demote:  len(inTier(v, tierHot)) > hotMax && len(v.Store) < objectMax,
		sweep:   len(remaining(v.Store, idsOn(v.Map))) < len(v.Store),
	}
}

// first returns what comes first.
func (d due) first() int {
	switch {
	case d.collect:
		return tickCollect
	case d.demote:
		return tickDemote
	case d.sweep:
		return tickSweep
	}
	return tickNone
}

// planOn returns what TickPlan returns, apart from the program.
func planOn(v impl.Volume) (int, []int) {
	if len(brokenRules(v)) > 0 {
		return tickInvalid, nil
	}
	kind := dueOn(v).first()
	if kind != tickDemote {
		return kind, nil
	}
	return kind, coldest(v.Heat, inTier(v, tierHot), coldMany)
}

// afterPlan returns what the function of a plan returns, apart from the program. Without a plan, nothing is done.
func afterPlan(v impl.Volume, kind int, list []int) (impl.Volume, int) {
	switch kind {
	case tickCollect:
		return afterCollection(v)
	case tickDemote:
		return afterDemotion(v, list)
	case tickSweep:
		return afterSweep(v)
	}
	return copiedVolume(v), volNone
}

// afterTick returns what VolumeTick returns, apart from the program.
func afterTick(v impl.Volume) (impl.Volume, int) {
	kind, list := planOn(v)
	if kind == tickInvalid {
		return impl.Volume{}, tickInvalid
	}
	c, code := afterPlan(v, kind, list)
	c.Heat = halved(c.Heat)
	if code != volDone {
		kind = tickNone
	}
	return c, kind
}

// cooled returns a volume of which only the heat is changed, as time changes it, apart from the program.
func cooled(v impl.Volume) impl.Volume {
	return edited(v, func(c *impl.Volume) { c.Heat = halved(c.Heat) })
}

// wantPlan requires what TickPlan returns.
func wantPlan(t *testing.T, v impl.Volume, kind int, list []int) {
	t.Helper()
	if got, some := impl.TickPlan(v); got != kind || !slices.Equal(some, list) {
		t.Fatalf("TickPlan(%v) = %d, %v; want %d, %v", v, got, some, kind, list)
	}
}

// wantTick requires what TickPlan and VolumeTick return, and returns the latter.
func wantTick(t *testing.T, v impl.Volume) (impl.Volume, int) {
	t.Helper()
	kind, list := planOn(v)
	wantPlan(t, v, kind, list)
	return wantOf(t, "VolumeTick", v, impl.VolumeTick, afterTick)
}

// wantTickKind requires what TickPlan and VolumeTick return, and what they tell. It returns the volume.
func wantTickKind(t *testing.T, v impl.Volume, planned int, told int) impl.Volume {
	t.Helper()
	plan, _ := impl.TickPlan(v)
	after, kind := wantTick(t, v)
	if plan != planned || kind != told {
		t.Fatalf("TickPlan and VolumeTick of %v return %d and %d; want %d and %d", v, plan, kind, planned, told)
	}
	return after
}

// A scene is how a volume is built: the zones with frames, from the oldest one on; the current zone, which is the last one of these
// or has no words; the hot blocks, and the cold ones; how many objects these are in, and how many other objects there are; and the
// last number of a frame.
type scene struct {
	order   []int
	current int
	hot     []int
	cold    []int
	needed  int
	spare   int
	last    int
}

// eachOf returns every so many-th element of a list, from one on.
func eachOf(list []int, from int, step int) []int {
	var some []int
	for i := from; i < len(list); i += step {
		some = append(some, list[i])
	}
	return some
}

// objects returns the store of a scene. The objects that cold blocks are in have the first numbers, or the last ones.
func (s scene) objects() []impl.Object {
	var list []impl.Object
	for i := range s.needed + s.spare {
		list = append(list, impl.Object{Id: 200 + 30*i, Values: counting(packMax, 2+15*i)})
	}
	return list
}

// place returns where the i-th cold block of a scene is.
func (s scene) place(i int) impl.Cold {
	at := i % s.needed
	if s.spare%2 == 0 {
		at += s.spare
	}
	return impl.Cold{Block: s.cold[i], Id: 200 + 30*at, Index: i / s.needed}
}

// frames returns the frames of the i-th zone of a scene. A zone that would tell about no block has one that takes a value away.
func (s scene) frames(i int) []impl.Frame {
	var list []impl.Frame
	for some := range slices.Chunk(eachOf(s.hot, i, len(s.order)), pairMax) {
		list = append(list, hotFrame(differentPairs(some...)...))
	}
	for some := range slices.Chunk(eachOf(counting(len(s.cold), 0), i, len(s.order)), packMax) {
		f := coldFrame()
		for _, at := range some {
			f.Body = append(f.Body, coldFrame(s.place(at)).Body...)
		}
		list = append(list, f)
	}
	if len(list) == 0 {
		list = append(list, hotFrame(impl.Pair{Block: withNoOther(s.hot, s.cold)[0]}))
	}
	return list
}

// volume returns the volume of a scene, of whose current zone some words do not last.
func (s scene) volume() impl.Volume {
	logs := make([][]impl.Frame, zones)
	for i, z := range s.order {
		logs[z] = s.frames(i)
	}
	numberBack(logs, s.order, s.last)
	v := volumeOn(s.current, s.objects(), logs...)
	v.Dev[s.current].Synced = len(v.Dev[s.current].Words) / 2
	v.Heat = []int{7, 40, 0, 99, 40, 1, 100, 7, 3, 0, 40, 2}
	return v
}

// used returns how many zones of a scene are not free.
func (s scene) used() int {
	if slices.Contains(s.order, s.current) {
		return len(s.order)
	}
	return len(s.order) + 1
}

// due returns what is due for a scene.
func (s scene) due() due {
	return due{
		collect: s.used() > 2 && len(s.order) > 1,
		demote:  len(s.hot) > 6 && s.needed+s.spare < 6,
		sweep:   s.spare > 0,
	}
}

// layouts returns scenes without blocks, in lists of those with equally many free zones and zones with frames: each order of zones,
// and each current zone that there can be with it.
func layouts() [][]scene {
	var lists [][]scene
	for many := range zones + 1 {
		var without, with []scene
		for _, order := range orders(many) {
			for current := range zones {
				s := scene{order: order, current: current, last: 120}
				switch slices.Index(order, current) {
				case -1:
					without = append(without, s)
				case many - 1:
					with = append(with, s)
				}
			}
		}
		lists = append(lists, without, with)
	}
	return slices.DeleteFunc(lists, func(list []scene) bool { return len(list) == 0 })
}

// stocks returns how many objects there are, with cold blocks in them and without, for so many cold blocks.
func stocks(cold int) [][2]int {
	var list [][2]int
	least := (cold + packMax - 1) / packMax
	for _, needed := range distinct(least, min(cold, objectMax-2), min(cold, objectMax)) {
		for _, spare := range distinct(0, 1, max(0, objectMax-1-needed), objectMax-needed) {
			if needed+spare <= objectMax {
				list = append(list, [2]int{needed, spare})
			}
		}
	}
	return list
}

// everyScene calls with scenes: with each number of free zones, with an oldest zone and without one, with each number of hot
// blocks, with cold blocks and ones without a value among them, and with objects of which all, some and none are needed.
func everyScene(call func(s scene)) {
	i := 0
	for _, list := range layouts() {
		for hot := range blocks + 1 {
			for _, cold := range distinct(0, min(1, blocks-hot), (blocks-hot)/2, blocks-hot) {
				for _, stock := range stocks(cold) {
					s := list[i%len(list)]
					i++
					s.hot, s.cold = someOf(hot, cold)
					s.needed, s.spare = stock[0], stock[1]
					if len(s.order) > 0 || hot+cold == 0 {
						call(s)
					}
				}
			}
		}
	}
}

// sceneVolumes returns some volumes of scenes: one for each number of free zones, of zones with frames, and of hot blocks, for
// each choice of what is due.
func sceneVolumes() []impl.Volume {
	var list []impl.Volume
	seen := map[string]bool{}
	everyScene(func(s scene) {
		kind := fmt.Sprint(s.used(), len(s.order), len(s.hot), s.due(), len(s.cold) > 0)
		if !seen[kind] {
			list = append(list, s.volume())
		}
		seen[kind] = true
	})
	return list
}

// tickedVolumes returns all volumes with which these tests let time pass.
func tickedVolumes() []impl.Volume {
	return slices.Concat(sceneVolumes(), collectedVolumes())
}

// everyTick calls with all volumes, with what TickPlan tells, and with what VolumeTick returns.
func everyTick(call func(v impl.Volume, planned int, after impl.Volume, kind int)) {
	for _, v := range tickedVolumes() {
		planned, _ := impl.TickPlan(v)
		after, kind := impl.VolumeTick(v)
		call(v, planned, after, kind)
	}
}

func TestTickConstants(t *testing.T) {
	got := []int{impl.HotMax, impl.ColdMany, impl.TickNone, impl.TickCollect, impl.TickDemote, impl.TickSweep, impl.TickInvalid}
	wantList(t, got, []int{6, 3, 0, 1, 2, 3, 4}, "the constants")
}

// The volumes of these tests are what they are meant to be.
func TestScenesOfTheTests(t *testing.T) {
	everyScene(func(s scene) {
		v := s.volume()
		if rules := brokenRules(v); len(rules) > 0 {
			t.Fatalf("%v of %v breaks %v", v, s, rules)
		}
		wantList(t, inTier(v, tierHot), s.hot, "the hot blocks of %v", v)
		wantList(t, inTier(v, tierCold), s.cold, "the cold blocks of %v", v)
		needed := slices.Compact(slices.Sorted(slices.Values(idsOn(v.Map))))
		if len(needed) != s.needed || len(v.Store) != s.needed+s.spare || v.Zone != s.current || len(freeZones(v)) != zones-s.used() {
			t.Fatalf("%v is not what %v tells", v, s)
		}
		if oldest := oldestOn(v); len(s.order) > 1 && oldest != s.order[0] || len(s.order) < 2 && oldest != -1 {
			t.Fatalf("%v of %v has the oldest zone %d", v, s, oldest)
		}
	})
}

// Promise 147: what comes first, where each of the three conditions holds and does not, in all eight combinations.
func TestTickPlanTellsWhatComesFirst(t *testing.T) {
	seen, free := map[due]int{}, map[string]int{}
	everyScene(func(s scene) {
		v, d := s.volume(), s.due()
		kind, list := impl.TickPlan(v)
		if kind != d.first() || d != dueOn(v) || (kind == tickDemote) != (len(list) == coldMany) || kind != tickDemote && len(list) > 0 {
			t.Fatalf("TickPlan(%v) = %d, %v; due are %v", v, kind, list, d)
		}
		wantTick(t, v)
		seen[d]++
		free[fmt.Sprint(zones-s.used(), " free ", len(s.order) > 1)]++
	})
	for set := range 8 {
		if d := (due{set&1 > 0, set&2 > 0, set&4 > 0}); seen[d] < 50 {
			t.Errorf("%v was due %d times; want at least 50", d, seen[d])
		}
	}
	// With less than two free zones, frames are in two zones at least.
	for _, kind := range []string{"3 free false", "2 free false", "2 free true", "1 free true", "0 free true"} {
		if free[kind] < 5 {
			t.Errorf("%s was seen %d times", kind, free[kind])
		}
	}
	if len(seen) != 8 || len(free) != 5 {
		t.Errorf("%v and %v were seen; want eight and five kinds", seen, free)
	}
}

// Promise 147: the limit of free zones, for all zones that have frames and in each order.
func TestTickPlanOfAllZones(t *testing.T) {
	for _, s := range slices.Concat(layouts()...) {
		want := tickNone
		if s.used() > 2 {
			want = tickCollect
		}
		wantTickKind(t, s.volume(), want, want)
		if len(s.order) == 0 {
			continue
		}
		// Whatever else is due: hot blocks as many as there are, and objects that are not needed.
		s.hot, s.spare = counting(blocks, 0), objectMax-1
		if want == tickNone {
			wantTickKind(t, s.volume(), tickDemote, tickDemote)
			s.spare = objectMax
			wantTickKind(t, s.volume(), tickSweep, tickSweep)
			continue
		}
		wantTickKind(t, s.volume(), want, want)
	}
}

// Promises 147 and 148: the limits of hot blocks and of objects, one below them, at them and above them.
func TestTickPlanAtTheLimits(t *testing.T) {
	for _, s := range []scene{{order: []int{2}, current: 2}, {order: []int{0}, current: 3}, {order: []int{1, 0}, current: 0}} {
		s.last = 50
		for hot := range blocks + 1 {
			for objects := range objectMax + 1 {
				for cold := range blocks - hot + 1 {
					s.hot, s.cold = someOf(hot, cold)
					s.needed, s.spare = min(cold, objects), objects-min(cold, objects)
					if cold > packMax*s.needed {
						continue
					}
					want := tickNone
					if s.spare > 0 {
						want = tickSweep
					}
					if hot >= 7 && objects <= 5 {
						want = tickDemote
					}
					wantTickKind(t, s.volume(), want, want)
				}
			}
		}
	}
}

// hotOnly returns a volume with the blocks of a set hot, and of the others some cold and some without a value, and with a heat.
func hotOnly(set blockSet, h []int) impl.Volume {
	var frames []impl.Frame
	for some := range slices.Chunk(set.blocks(), pairMax) {
		frames = append(frames, hotFrame(differentPairs(some...)...))
	}
	for i, block := range (allBlocks &^ set).blocks() {
		if i%3 < 2 {
			frames = append(frames, coldFrame(impl.Cold{Block: block, Id: []int{3, 8}[i%2], Index: i}))
		}
	}
	for i := range frames {
		frames[i].Seq = 20 + i
	}
	v := volumeOn(1, twoObjects(), nil, frames)
	v.Heat = slices.Clone(h)
	return v
}

// Promise 148: known heats. Of equally hot blocks, those with the least numbers are told. Blocks that are not hot are never told,
// also if they are colder.
func TestTickPlanTellsTheColdestHotBlocks(t *testing.T) {
	for _, c := range []struct{ hot, heat, want []int }{
		{counting(12, 0), allEqual(0), []int{0, 1, 2}},
		{counting(12, 0), allEqual(heatMax), []int{0, 1, 2}},
		{counting(12, 0), counting(12, 40), []int{0, 1, 2}},
		{counting(12, 0), backward(counting(12, 40)), []int{9, 10, 11}},
		{counting(12, 0), []int{9, 1, 9, 2, 9, 2, 9, 2, 9, 9, 9, 9}, []int{1, 3, 5}},
		{counting(12, 0), []int{9, 9, 9, 9, 9, 9, 9, 0, 9, 9, 9, 0}, []int{0, 7, 11}},
		{counting(12, 0), []int{9, 8, 9, 9, 7, 9, 9, 9, 9, 9, 8, 8}, []int{1, 4, 10}},
		{counting(12, 0), []int{100, 99, 100, 100, 100, 100, 100, 98, 100, 100, 100, 100}, []int{0, 1, 7}},
		{counting(12, 0), []int{0, 0, 1, 0, 1, 1, 1, 1, 1, 1, 1, 0}, []int{0, 1, 3}},
		{counting(7, 0), []int{6, 5, 4, 3, 2, 1, 7, 0, 0, 0, 0, 0}, []int{3, 4, 5}},
		{counting(7, 5), []int{0, 0, 0, 0, 0, 50, 40, 50, 30, 50, 40, 40}, []int{6, 8, 10}},
		{[]int{0, 2, 4, 6, 8, 10, 11}, []int{80, 0, 80, 0, 80, 0, 80, 0, 80, 0, 80, 79}, []int{0, 2, 11}},
		{[]int{0, 1, 3, 4, 6, 7, 9, 10}, []int{5, 4, 0, 5, 4, 0, 5, 4, 0, 5, 3, 0}, []int{1, 4, 10}},
	} {
		var set blockSet
		for _, block := range c.hot {
			set |= 1 << block
		}
		v := hotOnly(set, c.heat)
		wantPlan(t, v, tickDemote, c.want)
		after := wantTickKind(t, v, tickDemote, tickDemote)
		wantList(t, tiersOf(after, c.want), []int{tierCold}, "the tiers of %v after VolumeTick(%v)", c.want, v)
	}
}

// Promise 148: all sets of hot blocks, with heats that are equal for few blocks and for many. With HotMax blocks or less, no
// blocks are told.
func TestTickPlanOfAllSetsOfHotBlocks(t *testing.T) {
	r := rand.New(rand.NewPCG(101, 102))
	for set := range blockSet(blockSets) {
		hot := set.blocks()
		for _, h := range [][]int{allEqual(60), randomHeat(r, 2), randomHeat(r, 4), randomHeat(r, heatMax+1)} {
			// All other blocks are colder.
			for _, block := range (allBlocks &^ set).blocks() {
				h[block] = 0
			}
			v := hotOnly(set, h)
			kind, list := impl.TickPlan(v)
			if len(hot) <= hotMax {
				if kind == tickDemote || len(list) > 0 {
					t.Fatalf("TickPlan(%v) = %d, %v; only %v are hot", v, kind, list, hot)
				}
				continue
			}
			if kind != tickDemote || !slices.Equal(list, impl.HeatColdest(h, hot, 3)) || !slices.Equal(list, coldest(h, hot, 3)) {
				t.Fatalf("TickPlan(%v) = %d, %v; %v are hot", v, kind, list, hot)
			}
		}
	}
}

// Promises 147 to 149, as the chapters before say it, for all volumes.
func TestTickPlan(t *testing.T) {
	seen := map[int]int{}
	for _, v := range tickedVolumes() {
		kind, list := impl.TickPlan(v)
		seen[kind]++
		hot := impl.MapTier(v.Map, tierHot)
		if collect := impl.VolumeFree(v) < 2 && impl.VolumeOldest(v) != -1; collect != (kind == tickCollect) {
			t.Fatalf("TickPlan(%v) = %d", v, kind)
		}
		if kind != tickDemote && len(list) > 0 || kind == tickDemote && (len(hot) <= 6 || !slices.Equal(list, impl.HeatColdest(v.Heat, hot, 3))) {
			t.Fatalf("TickPlan(%v) = %d, %v", v, kind, list)
		}
		_, code := impl.VolumeSweep(v)
		if kind == tickSweep && code != volDone || kind == tickNone && code != volNone {
			t.Fatalf("TickPlan(%v) = %d; VolumeSweep returned %d", v, kind, code)
		}
	}
	if seen[tickNone] < 50 || seen[tickCollect] < 300 || seen[tickDemote] < 50 || seen[tickSweep] < 50 || len(seen) != 4 {
		t.Errorf("the plans were %v", seen)
	}
}

// Promises 150 to 152: all that VolumeTick returns of valid volumes.
func TestVolumeTick(t *testing.T) {
	seen := map[string]int{}
	for _, v := range tickedVolumes() {
		planned, _ := impl.TickPlan(v)
		after, kind := wantTick(t, v)
		if rules := brokenRules(after); len(rules) > 0 || !impl.VolumeValid(after) {
			t.Fatalf("VolumeTick(%v) = %v, which breaks %v", v, after, rules)
		}
		seen[fmt.Sprint(planned, " ", kind)]++
	}
	for kind, least := range map[string]int{"0 0": 50, "1 1": 200, "1 0": 30, "2 2": 50, "2 0": 10, "3 3": 50} {
		if seen[kind] < least {
			t.Errorf("%s was planned and done %d times; want at least %d", kind, seen[kind], least)
		}
	}
	// A sweep that is planned is always possible.
	if len(seen) != 6 {
		t.Errorf("%v was planned and done; want six kinds", seen)
	}
}

// Promises 150, 151 and 152, as the chapters before say it: exactly what the function of the plan returns, but for the heat.
func TestVolumeTickDoesWhatIsPlanned(t *testing.T) {
	for _, v := range tickedVolumes() {
		planned, list := impl.TickPlan(v)
		want, code := v, volNone
		switch planned {
		case tickCollect:
			want, code = impl.VolumeCollect(v)
		case tickDemote:
			want, code = impl.VolumeDemote(v, list)
		case tickSweep:
			want, code = impl.VolumeSweep(v)
		}
		want.Heat = impl.HeatDecay(v.Heat)
		if code != volDone {
			planned = tickNone
		}
		got, kind := impl.VolumeTick(v)
		wantVolume(t, got, kind, want, planned, "VolumeTick(%v)", v)
		wantList(t, impl.VolumeAll(got), impl.VolumeAll(v), "VolumeAll after VolumeTick(%v)", v)
	}
}

// Promise 152: if nothing was done, only the heat is changed; otherwise, more than this is.
func TestVolumeTickThatChangesOnlyTheHeat(t *testing.T) {
	everyTick(func(v impl.Volume, planned int, after impl.Volume, kind int) {
		if kind != planned && kind != tickNone {
			t.Fatalf("VolumeTick(%v) returned %d; TickPlan, %d", v, kind, planned)
		}
		if sameVolume(after, cooled(v)) != (kind == tickNone) {
			t.Fatalf("VolumeTick(%v) = %v, %d", v, after, kind)
		}
	})
}

// A known volume: the oldest zone is removed, then the object that no block needs, and then nothing is left to be done. In the
// meantime, all blocks cool down.
func TestTicksOfAKnownVolume(t *testing.T) {
	v := knownVolume()
	want := edited(v, func(v *impl.Volume) {
		v.Dev[1].Words = slices.Concat(v.Dev[1].Words, summed(1, 22, 2, 3, 8))
		v.Dev[1].Synced, v.Dev[2] = 27, impl.Zone{}
		v.Map[3] = hotAt(1, 25)
		v.Heat = []int{0, 50, 47, 45, 44, 0, 0, 25, 0, 0, 45, 3}
		v.Seq = 23
	})
	wantPlan(t, v, tickCollect, nil)
	v, kind := impl.VolumeTick(v)
	wantVolume(t, v, kind, want, tickCollect, "VolumeTick")
	want.Store = []impl.Object{{Id: 4, Values: []int{6, 7, 21}}, {Id: 800, Values: []int{99}}}
	want.Heat = []int{0, 25, 23, 22, 22, 0, 0, 12, 0, 0, 22, 1}
	wantPlan(t, v, tickSweep, nil)
	v, kind = impl.VolumeTick(v)
	wantVolume(t, v, kind, want, tickSweep, "VolumeTick")
	want.Heat = []int{0, 12, 11, 11, 11, 0, 0, 6, 0, 0, 11, 0}
	wantPlan(t, v, tickNone, nil)
	v, kind = impl.VolumeTick(v)
	wantVolume(t, v, kind, want, tickNone, "VolumeTick")
	wantList(t, impl.VolumeAll(v), []int{50, 6, 7, 8, 0, 99, 0, 0, 0, 0, 0, 99}, "VolumeAll")
}

// A known volume with twelve hot blocks: three of them become cold, and three more, and then six are left.
func TestTicksOfAHotVolume(t *testing.T) {
	v := hotVolume(nil)
	v.Heat = []int{100, 1, 50, 3, 99, 2, 7, 5, 60, 2, 0, 100}
	want := edited(v, func(v *impl.Volume) {
		v.Dev[0].Words = slices.Concat(v.Dev[0].Words, summed(2, 3, 9, 1, 3, 0, 5, 3, 1, 10, 3, 2))
		v.Store = []impl.Object{{Id: 3, Values: []int{75, 25, 12}}}
		v.Map[1], v.Map[5], v.Map[10] = coldAt(0, 35, 3, 0), coldAt(0, 38, 3, 1), coldAt(0, 41, 3, 2)
		v.Heat = []int{50, 0, 25, 1, 49, 1, 3, 2, 30, 1, 0, 50}
		v.Seq = 4
	})
	wantPlan(t, v, tickDemote, []int{1, 5, 10})
	v, kind := impl.VolumeTick(v)
	wantVolume(t, v, kind, want, tickDemote, "VolumeTick")
	// The blocks 1, 5 and 10 are among the coldest ones, but not hot any more.
	want = edited(v, func(v *impl.Volume) {
		v.Dev[0].Words = slices.Concat(v.Dev[0].Words, summed(2, 4, 9, 3, 4, 0, 7, 4, 1, 9, 4, 2))
		v.Store = append(v.Store, impl.Object{Id: 4, Values: []int{50, 99, 74}})
		v.Map[3], v.Map[7], v.Map[9] = coldAt(0, 48, 4, 0), coldAt(0, 51, 4, 1), coldAt(0, 54, 4, 2)
		v.Heat = []int{25, 0, 12, 0, 24, 0, 1, 1, 15, 0, 0, 25}
		v.Seq = 5
	})
	wantPlan(t, v, tickDemote, []int{3, 7, 9})
	v, kind = impl.VolumeTick(v)
	wantVolume(t, v, kind, want, tickDemote, "VolumeTick")
	wantPlan(t, v, tickNone, nil)
	v, kind = impl.VolumeTick(v)
	wantVolume(t, v, kind, cooled(want), tickNone, "VolumeTick")
	wantList(t, inTier(v, tierHot), []int{0, 2, 4, 6, 8, 11}, "the hot blocks")
	wantList(t, impl.VolumeAll(v), valuesOn(hotVolume(nil)), "VolumeAll")
}

// With as many objects as there can be, they are swept first, although blocks are hot; then, these become cold.
func TestTicksOfAHotVolumeWithManyObjects(t *testing.T) {
	v := stocked(hotVolume(nil), objectMax, false)
	for _, want := range []int{tickSweep, tickDemote, tickDemote, tickNone, tickNone} {
		v = wantTickKind(t, v, want, want)
	}
	if len(v.Store) != 2 || len(inTier(v, tierHot)) != hotMax {
		t.Errorf("the ticks lead to %v", v)
	}
	// The one object that is not needed is enough.
	s := scene{order: []int{3}, current: 3, hot: counting(7, 0), cold: counting(5, 7), needed: 5, spare: 1, last: 20}
	v = s.volume()
	for _, want := range []int{tickSweep, tickDemote, tickNone} {
		v = wantTickKind(t, v, want, want)
	}
	if len(v.Store) != objectMax || len(inTier(v, tierHot)) != 4 {
		t.Errorf("the ticks lead to %v", v)
	}
}

// Promise 151: heats of 0, 1, HeatMax and others, for each plan.
func TestVolumeTickHalvesTheHeat(t *testing.T) {
	hot := scene{order: []int{1}, current: 1, hot: counting(9, 2), spare: 1, last: 30}
	spare := scene{order: []int{1, 2}, current: 2, hot: counting(6, 2), spare: 3, last: 30}
	old, _ := aged(age{hot: []int{1, 2, 3}, cold: []int{5, 6}, order: []int{3, 1, 0}, words: 40, last: 60})
	for planned, v := range map[int]impl.Volume{tickNone: blankVolume(), tickCollect: old, tickDemote: hot.volume(), tickSweep: spare.volume()} {
		for _, h := range validHeats() {
			v.Heat = h
			after := wantTickKind(t, v, planned, planned)
			wantList(t, after.Heat, halved(h), "the heat after VolumeTick(%v)", v)
			wantList(t, after.Heat, impl.HeatDecay(h), "the heat after VolumeTick(%v)", v)
		}
		for heat := range heatMax + 1 {
			v.Heat = withNumber(counting(blocks, 20), heat%blocks, heat)
			after := wantTickKind(t, v, planned, planned)
			if after.Heat[heat%blocks] != heat/2 {
				t.Fatalf("VolumeTick(%v) makes the heat %d to %d", v, heat, after.Heat[heat%blocks])
			}
		}
	}
}

// Promise 152: collections that are planned and have no room for their copies, or whose first copies only have room. Nothing but
// the heat is changed, however often time passes.
func TestVolumeTickOfCollectionsWithoutRoom(t *testing.T) {
	many := map[int]int{}
	everyAge(100, func(a age, v impl.Volume) {
		_, code := afterCollection(v)
		want := tickNone
		if len(a.order) > 2 && code == volDone {
			want = tickCollect
		}
		if len(a.order) == 2 {
			return
		}
		after := wantTickKind(t, v, tickCollect, want)
		if many[code]++; code != volFull || many[code]%20 > 0 {
			return
		}
		for range 8 {
			v = cooled(v)
			wantVolume(t, after, tickNone, v, tickNone, "VolumeTick, and again")
			after = wantTickKind(t, after, tickCollect, tickNone)
		}
		wantList(t, after.Heat, make([]int, blocks), "the heat after ten times")
	})
	if many[volFull] < 100 || many[volDone] < 500 {
		t.Errorf("the codes were %v", many)
	}
}

// Collections that had no room have some after a write that leaves fewer blocks to be copied. Then, time goes on with what is due.
func TestVolumeTickAfterACollectionHadNoRoom(t *testing.T) {
	v, _ := aged(age{hot: []int{1, 2, 3}, cold: []int{5, 6}, order: []int{3, 1, 0, 2}, words: 45, last: 60})
	for range 3 {
		v = wantTickKind(t, v, tickCollect, tickNone)
	}
	v, _ = appended(v, hotFrame(pairsFrom(5, 2, 0)...), 0)
	v = wantTickKind(t, v, tickCollect, tickCollect)
	wantList(t, freeZones(v), []int{3}, "the free zones of %v", v)
}

// A demotion that is planned has always room for its frame: at least two zones are free, of which one may be used. All numbers of
// words in the current zone, all other zones with and without words. If fewer zones are free, the oldest one is removed first.
func TestVolumeTickOfDemotionsHasRoom(t *testing.T) {
	changed := map[bool]int{}
	for current := range zones {
		for _, others := range otherZones(current) {
			for words := 44; words <= zoneSize; words++ {
				v := endedVolume(current, words, others, numbered(30, hotFrame(differentPairs(3, 4, 5, 6, 7, 8, 9)...)))
				v.Heat = []int{0, 0, 0, 9, 2, 9, 9, 3, 9, 1, 0, 0}
				if len(freeZones(v)) < 2 {
					if planned, _ := impl.TickPlan(v); planned != tickCollect {
						t.Fatalf("TickPlan(%v) = %d", v, planned)
					}
					continue
				}
				after := wantTickKind(t, v, tickDemote, tickDemote)
				if fits := words+13 <= zoneSize; fits != (after.Zone == current) {
					t.Fatalf("VolumeTick(%v) leads to the zone %d", v, after.Zone)
				}
				changed[after.Zone != current]++
			}
		}
	}
	if changed[true] < 100 || changed[false] < 50 {
		t.Errorf("the zone was changed, and was not: %v", changed)
	}
}

// Promise 152: a demotion whose object has a number that is there already is not possible, until another frame is appended.
func TestVolumeTickOfDemotionsWithoutAnObject(t *testing.T) {
	v := hotVolume(nil)
	v, _ = impl.VolumePack(v, []int{2, 5})
	for range 3 {
		after := wantTickKind(t, v, tickDemote, tickNone)
		wantVolume(t, after, tickNone, cooled(v), tickNone, "VolumeTick(%v)", v)
		v = after
	}
	v, _ = impl.VolumeWrite(v, []impl.Pair{{Block: 7, Value: 70}})
	for _, want := range []int{tickDemote, tickDemote, tickSweep, tickNone} {
		v = wantTickKind(t, v, want, want)
	}
	for many := 1; many < objectMax; many++ {
		v := stocked(hotVolume(nil), many, true)
		wantTickKind(t, v, tickDemote, tickNone)
	}
	wantTickKind(t, stocked(hotVolume(nil), objectMax, true), tickSweep, tickSweep)
}

// The numbers of frames at their end: Seq is one less than SeqMax, SeqMax, and one more. A collection needs as many numbers as it
// has copies, a demotion needs one, and a sweep none.
func TestVolumeTickUpToTheLastNumber(t *testing.T) {
	for left := range 4 {
		last := seqMax - left
		for frames, n := range [][2]int{{0, 0}, {4, 0}, {3, 2}, {3, packMax + 1}} {
			hot, cold := someOf(n[0], n[1])
			v, _ := aged(age{hot: hot, cold: cold, order: []int{1, 3, 0}, words: 30, last: last})
			want := tickCollect
			if frames > left {
				want = tickNone
			}
			after := wantTickKind(t, v, tickCollect, want)
			if added := after.Seq - v.Seq; want == tickCollect && added != frames || want == tickNone && added != 0 {
				t.Fatalf("VolumeTick(%v) adds %d frames", v, added)
			}
		}
		for _, v := range emptyTellers(43, []int{0}, last) {
			wantTickKind(t, v, tickCollect, tickCollect)
		}
		want := tickDemote
		if left == 0 {
			want = tickNone
		}
		for _, s := range []scene{{order: []int{1}, current: 1}, {order: []int{3}, current: 0}, {order: []int{2, 3}, current: 3}} {
			s.hot, s.spare, s.last = counting(10, 1), 3, last
			after := wantTickKind(t, s.volume(), tickDemote, want)
			if after.Seq != min(last+2, seqMax+1) {
				t.Fatalf("VolumeTick of %v leads to the number %d", s, after.Seq)
			}
			s.spare = objectMax
			wantTickKind(t, s.volume(), tickSweep, tickSweep)
			s.hot = counting(hotMax, 1)
			after = wantTickKind(t, s.volume(), tickSweep, tickSweep)
			after = wantTickKind(t, after, tickNone, tickNone)
			if after.Seq != last+1 {
				t.Fatalf("VolumeTick of %v leads to the number %d", s, after.Seq)
			}
		}
	}
}

// untilNothing lets time pass until nothing is done, and requires that VolumeAll is the same after each time, and each volume
// valid. It returns the volume, and how often something was done.
func untilNothing(t *testing.T, v impl.Volume) (impl.Volume, int) {
	t.Helper()
	values := impl.VolumeAll(v)
	for many := 0; ; many++ {
		after, kind := wantTick(t, v)
		if !impl.VolumeValid(after) || many > 20 {
			t.Fatalf("VolumeTick(%v) = %v, after %d times", v, after, many)
		}
		wantList(t, impl.VolumeAll(after), values, "VolumeAll after VolumeTick(%v)", v)
		wantList(t, after.Heat, halved(v.Heat), "the heat after VolumeTick(%v)", v)
		if v = after; kind == tickNone {
			return v, many
		}
	}
}

// Promises 150 to 152: many times one after the other, until nothing is done any more. Then, nothing is due, or what is due is not
// possible, however often time passes.
func TestVolumeTickUntilNothingIsDone(t *testing.T) {
	times, left := map[int]int{}, 0
	for _, v := range tickedVolumes() {
		v, many := untilNothing(t, v)
		times[min(many, 6)]++
		if kind, _ := impl.TickPlan(v); kind != tickNone {
			left++
			wantTickKind(t, v, kind, tickNone)
			continue
		}
		// If more blocks were hot, one of so many objects at least would not be needed.
		if len(freeZones(v)) < 2 || len(inTier(v, tierHot)) > hotMax || !sameStore(v.Store, remaining(v.Store, idsOn(v.Map))) {
			t.Fatalf("nothing is planned for %v", v)
		}
	}
	for many := range 7 {
		if times[many] < 10 {
			t.Errorf("something was done %d times %d times; want at least 10 of %v", many, times[many], times)
		}
	}
	if left < 50 {
		t.Errorf("%d volumes are left with something that is not possible; want at least 50", left)
	}
}

// Promises 150 to 152: with writes between them, until all numbers are used. Time alone makes room for all of the writes.
func TestVolumeTickMakesRoomForWrites(t *testing.T) {
	for seed := range uint64(6) {
		r := rand.New(rand.NewPCG(103, seed))
		v, _ := impl.VolumeFormat(make([]impl.Zone, zones))
		values, seen, full := make([]int, blocks), map[int]int{}, 0
		for v.Seq < seqMax-12 {
			list := randomPairs(r)
			got, code := impl.VolumeWrite(v, list)
			if code == volDone {
				v = got
				for _, p := range list {
					values[p.Block] = p.Value
				}
			} else if full++; full > 500 {
				t.Fatalf("VolumeWrite(%v, %v) returned %d", v, list, code)
			}
			for range r.IntN(4) {
				var kind int
				v, kind = wantTick(t, v)
				seen[kind]++
				wantList(t, impl.VolumeAll(v), values, "VolumeAll(%v)", v)
				if hot := inTier(v, tierHot); kind == tickNone && len(hot) > hotMax {
					t.Fatalf("the blocks %v of %v are hot", hot, v)
				}
			}
		}
		// From here on, there may be no number for what is planned.
		v, _ = untilNothing(t, v)
		wantList(t, impl.VolumeAll(v), values, "VolumeAll(%v)", v)
		for kind := tickNone; kind <= tickSweep; kind++ {
			if seen[kind] < 20 {
				t.Errorf("VolumeTick returned %d %d times of %v", kind, seen[kind], seen)
			}
		}
	}
}

// wantCrashesAfterTick requires that VolumeAll is the same after crashes with each number of words kept in the current zone, in
// which alone there are words that do not last, and with other numbers for all zones.
func wantCrashesAfterTick(t *testing.T, after impl.Volume, values []int) {
	t.Helper()
	wantCrashes(t, after, func(got impl.Volume, code int, many int) {
		if code != volDone {
			t.Fatalf("VolumeCrash(%v) with %d words returned %d", after, many, code)
		}
		wantList(t, impl.VolumeAll(got), values, "VolumeAll after VolumeCrash(%v) with %d words", after, many)
	})
	for _, keep := range keepsFor(after.Dev) {
		got, code := wantCrash(t, after, keep)
		if code != volDone {
			t.Fatalf("VolumeCrash(%v, %v) returned %d", after, keep, code)
		}
		wantList(t, impl.VolumeAll(got), values, "VolumeAll after VolumeCrash(%v, %v)", after, keep)
	}
}

// Promise 153: crashes after VolumeTick of volumes that were synced, for each plan, with each number of words kept.
func TestCrashesAfterVolumeTickOfSyncedVolumes(t *testing.T) {
	seen, lost := map[int]int{}, 0
	for _, v := range slices.Concat(sceneVolumes(), crashedVolumes()) {
		v, _ := impl.VolumeSync(v)
		after, kind := impl.VolumeTick(v)
		seen[kind]++
		lost += impl.VolumeLost(after)
		if kind != tickDemote {
			wantLost(t, after, 0)
		}
		wantCrashesAfterTick(t, after, impl.VolumeAll(v))
	}
	for kind := tickNone; kind <= tickSweep; kind++ {
		if seen[kind] < 40 {
			t.Errorf("VolumeTick returned %d %d times of %v", kind, seen[kind], seen)
		}
	}
	if lost < 500 {
		t.Errorf("there are %d words to be lost; want at least 500", lost)
	}
}

// Promise 153: the blocks are cold just if all words of the frame are kept; if not, they are hot, without the object, and become
// cold the next time, as all blocks are equally hot again.
func TestCrashesAfterVolumeTickThatMadeBlocksCold(t *testing.T) {
	for _, words := range []int{44, 58} {
		v, _ := impl.VolumeSync(endedVolume(2, words, nil, numbered(30, hotFrame(differentPairs(3, 4, 5, 6, 7, 8, 9)...))))
		v.Store = remaining(v.Store, idsOn(v.Map))
		v.Heat = make([]int, blocks)
		_, list := planOn(v)
		after := wantTickKind(t, v, tickDemote, tickDemote)
		wantCrashes(t, after, func(got impl.Volume, _ int, many int) {
			tier := tierHot
			if many >= 13 {
				tier = tierCold
			}
			wantList(t, tiersOf(got, list), []int{tier}, "the tiers after VolumeCrash(%v) with %d words", after, many)
			if tier == tierCold {
				return
			}
			if again := wantTickKind(t, got, tickDemote, tickDemote); !sameStore(again.Store, after.Store) || again.Seq != after.Seq {
				t.Fatalf("VolumeTick(%v) = %v; want the store of %v", got, again, after)
			}
		})
	}
}

// Promise 153: several times and several crashes one after the other. No crash loses a value, as nothing was written since all
// words lasted.
func TestCrashesAfterSeveralTicks(t *testing.T) {
	r := rand.New(rand.NewPCG(105, 106))
	seen, crashes := map[int]int{}, 0
	for _, v := range slices.Concat(sceneVolumes(), crashedVolumes()) {
		v, _ := impl.VolumeSync(v)
		values := impl.VolumeAll(v)
		for range 8 {
			var kind int
			v, kind = wantTick(t, v)
			seen[kind]++
			if r.IntN(4) == 0 {
				wantCrashesAfterTick(t, v, values)
			}
			if r.IntN(2) == 0 {
				v, _ = wantCrash(t, v, keeping(v.Zone, r.IntN(unsynced(v.Dev[v.Zone])+2)))
				crashes++
			}
			wantList(t, impl.VolumeAll(v), values, "VolumeAll(%v)", v)
		}
	}
	for kind := tickNone; kind <= tickSweep; kind++ {
		if seen[kind] < 100 {
			t.Errorf("VolumeTick returned %d %d times of %v", kind, seen[kind], seen)
		}
	}
	if crashes < 500 {
		t.Errorf("there were %d crashes; want at least 500", crashes)
	}
}

// A crash after VolumeTick of a volume that was not synced leads to the values to which a crash ahead of it leads, or to those of
// the volume: all of its words last after a collection and a sweep.
func TestCrashesAfterVolumeTickOfOtherVolumes(t *testing.T) {
	less := 0
	for _, v := range slices.Concat(sceneVolumes(), crashedVolumes()) {
		after, kind := impl.VolumeTick(v)
		if kind == tickDemote || kind == tickNone {
			less += wantEarlierCrashes(t, "VolumeTick", v, after)
			continue
		}
		wantLost(t, after, 0)
		wantCrashesAfterTick(t, after, impl.VolumeAll(v))
	}
	if less < 100 {
		t.Errorf("crashes led to earlier values %d times; want at least 100", less)
	}
}

// Promises 147 to 153: invalid volumes.
func TestTicksOfInvalidVolumes(t *testing.T) {
	for _, b := range brokenVolumes() {
		wantPlan(t, b.v, tickInvalid, nil)
		got, kind := impl.VolumeTick(b.v)
		wantVolume(t, got, kind, impl.Volume{}, tickInvalid, "VolumeTick(%v)", b.v)
	}
}

// Volumes for which something is due, each of whose parts is broken alone: nothing is due for them any more.
func TestTicksOfVolumesThatWereBroken(t *testing.T) {
	s := scene{order: []int{1}, current: 1, hot: counting(9, 2), spare: 1, last: 30}
	collect, _ := aged(age{hot: []int{1, 2, 3}, cold: []int{5, 6}, order: []int{3, 1, 0}, words: 40, last: 60})
	for _, v := range []impl.Volume{s.volume(), collect, stocked(halfVolume(), 4, false)} {
		if _, kind := wantTick(t, v); kind == tickNone {
			t.Fatalf("nothing is done to %v", v)
		}
		for _, change := range []func(v *impl.Volume){
			func(v *impl.Volume) { v.Seq++ }, func(v *impl.Volume) { v.Seq-- }, func(v *impl.Volume) { v.Zone = -1 }, func(v *impl.Volume) { v.Zone = zones },
			func(v *impl.Volume) { v.Heat[3] = -1 }, func(v *impl.Volume) { v.Heat[4] = heatMax + 1 }, func(v *impl.Volume) { v.Heat = v.Heat[1:] },
			func(v *impl.Volume) { v.Map[0] = hotAt(0, 63) }, func(v *impl.Volume) { v.Map = nil }, func(v *impl.Volume) { v.Store[0].Id = 0 },
			func(v *impl.Volume) { v.Dev[v.Zone].Full = true }, func(v *impl.Volume) { v.Dev[v.Zone].Words[0] = 0 }, func(v *impl.Volume) { v.Dev = v.Dev[1:] },
		} {
			c := edited(v, change)
			wantPlan(t, c, tickInvalid, nil)
			got, kind := impl.VolumeTick(c)
			wantVolume(t, got, kind, impl.Volume{}, tickInvalid, "VolumeTick(%v)", c)
		}
	}
}

// randomTick calls one function of the program with valid arguments, and returns what it returns, and what it should return.
func randomTick(r *rand.Rand, v impl.Volume) (string, impl.Volume, int, impl.Volume, int) {
	switch n := r.IntN(10); {
	case n < 3:
		got, kind := impl.VolumeTick(v)
		want, wantKind := afterTick(v)
		return "VolumeTick", got, kind, want, wantKind
	case n < 5:
		return randomTierCall(r, v)
	}
	return randomCall(r, v)
}

// Promises 147 to 153: whatever is done one after the other. Time alone makes room.
func TestManyTicksOneAfterTheOther(t *testing.T) {
	seen := manyCalls(t, rand.New(rand.NewPCG(107, 108)), randomTick, copiedVolume)
	for _, name := range []string{"VolumeTick0", "VolumeTick1", "VolumeTick2", "VolumeTick3", "VolumeWrite0", "VolumeDemote0", "VolumePromote0", "VolumePack0"} {
		if seen[name] < 20 {
			t.Errorf("%s was seen %d times; want at least 20 of %v", name, seen[name], seen)
		}
	}
}

// tickCalls returns the functions of the chapter. What TickPlan returns is put into a volume.
func tickCalls() map[string]func(impl.Volume, []impl.Pair) (impl.Volume, int) {
	return map[string]func(impl.Volume, []impl.Pair) (impl.Volume, int){
		"VolumeTick": func(v impl.Volume, _ []impl.Pair) (impl.Volume, int) { return impl.VolumeTick(v) },
		"TickPlan": func(v impl.Volume, _ []impl.Pair) (impl.Volume, int) {
			kind, list := impl.TickPlan(v)
			return impl.Volume{Heat: list}, kind
		},
	}
}

// General rules: arguments, valid or not, are not changed, and results share no memory, also if only the heat is changed.
func TestTicksKeepArgumentsAndShareNoMemory(t *testing.T) {
	for name, call := range tickCalls() {
		for _, v := range slices.Concat(sceneVolumes(), crashedVolumes(), fewBroken()) {
			checkVolumeMemory(t, name, call, v, nil)
		}
	}
}

// General rules: the parts of a volume may share memory in the argument, and do not in the result.
func TestTicksOfPartsThatShareMemory(t *testing.T) {
	for name, call := range tickCalls() {
		for _, apart := range append(sceneVolumes(), hotVolume(nil), knownVolume(), freshVolume(), stocked(hotVolume(nil), 3, true)) {
			checkSharing(t, name, call, apart, nil)
		}
	}
	// The first words of the current zone are the heat, too.
	v := volumeOn(0, nil, []impl.Frame{numbered(1, hotFrame(pairsFrom(0, 9, 2)...))})
	v.Heat = v.Dev[0].Words[:blocks]
	apart := copiedVolume(v)
	want, wantKind := afterTick(apart)
	got, kind := impl.VolumeTick(v)
	wantVolume(t, got, kind, want, wantKind, "VolumeTick(%v)", apart)
	checkVolumeApart(t, "VolumeTick", got)
	wantVolume(t, v, 0, apart, 0, "VolumeTick left a volume; it")
}

// General rules: nil and empty slices are equivalent, as arguments.
func TestTicksWithNilAndEmptySlices(t *testing.T) {
	empty := impl.Volume{Dev: []impl.Zone{}, Store: []impl.Object{}, Map: []impl.Where{}, Heat: []int{}}
	for name, call := range tickCalls() {
		for _, v := range []impl.Volume{blankVolume(), hotVolume(nil), volumeOn(3, nil, nil, []impl.Frame{valueFrame(4, 5, 6)}, nil, []impl.Frame{valueFrame(8, 5, 7)})} {
			bare := edited(v, func(v *impl.Volume) {
				v.Store = []impl.Object{}
				for z := range v.Dev {
					if len(v.Dev[z].Words) == 0 {
						v.Dev[z].Words = []int{}
					}
				}
			})
			want, kind := call(v, nil)
			got, again := call(bare, nil)
			wantVolume(t, got, again, want, kind, "%s(%v)", name, v)
		}
		for _, v := range []impl.Volume{empty, {}} {
			got, kind := call(v, nil)
			wantVolume(t, got, kind, impl.Volume{}, tickInvalid, "%s", name)
		}
	}
}

// What a call returns does not depend on others at the same time, even for the same argument.
func TestTicksAtTheSameTime(t *testing.T) {
	s := scene{order: []int{1}, current: 1, hot: counting(9, 2), spare: 1, last: 30}
	for _, v := range []impl.Volume{s.volume(), knownVolume(), stocked(halfVolume(), 4, false), blankVolume()} {
		want, wantKind := afterTick(v)
		planned, blocks := planOn(v)
		var calls sync.WaitGroup
		for range 8 {
			calls.Go(func() {
				for range 60 {
					if got, kind := impl.VolumeTick(v); kind != wantKind || !sameVolume(got, want) {
						t.Errorf("VolumeTick(%v) = %v, %d; want %v, %d", v, got, kind, want, wantKind)
					}
					if kind, list := impl.TickPlan(v); kind != planned || !slices.Equal(list, blocks) {
						t.Errorf("TickPlan(%v) = %d, %v; want %d, %v", v, kind, list, planned, blocks)
					}
				}
			})
		}
		calls.Wait()
	}
}

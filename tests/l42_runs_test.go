package tests

import (
	"fmt"
	"math"
	"math/rand/v2"
	"slices"
	"sync"
	"testing"

	"loop.example/tiervolume/impl"
)

// As in the tests of frames, the numbers of the document are written out.
const (
	runMax    = 60
	evWrite   = 1
	evSync    = 2
	evDemote  = 3
	evPromote = 4
	evPack    = 5
	evCopy    = 6
	evCollect = 7
	evSweep   = 8
	evTick    = 9
	evCrash   = 10
)

var (
	// kinds are those that there are, and noKinds are others.
	kinds   = counting(10, 1)
	noKinds = []int{
		0, 11, -1, 12, 13, 20, 100, -2, -9, -10, -11, 256 + evWrite, 1<<16 + evSync, 1<<32 + evCrash, -1<<32 + evTick,
		math.MinInt, math.MinInt + evWrite, math.MaxInt,
	}
)

// writeOf returns an event that writes values.
func writeOf(pairs ...impl.Pair) impl.Event {
	return impl.Event{Kind: evWrite, Pairs: pairs}
}

// eventOf returns an event of another kind.
func eventOf(kind int, list ...int) impl.Event {
	return impl.Event{Kind: kind, List: list}
}

// areValues reports whether values are valid, apart from the program.
func areValues(list []impl.Pair) bool {
	for i, p := range list {
		if p.Block < 0 || p.Block >= blocks || p.Value < 0 || p.Value > valueMax || i > 0 && p.Block <= list[i-1].Block {
			return false
		}
	}
	return len(list) > 0 && len(list) <= pairMax
}

// areKept reports whether a crash can keep so many words of the zones, apart from the program.
func areKept(list []int) bool {
	return len(list) == zones && slices.Min(list) >= 0
}

// unkeepable returns numbers of words that no crash can keep: for fewer zones or more than there are, and negative ones.
func unkeepable() [][]int {
	lists := [][]int{nil, {}, {5}, make([]int, zones-1), make([]int, zones+1), make([]int, 2*zones), make([]int, blocks), make([]int, 5000)}
	for z := range zones {
		for _, bad := range badKeeps {
			lists = append(lists, keeping(z, bad), withNumber([]int{9, 9, 9, 9}, z, bad))
		}
	}
	return lists
}

// doneTo returns what the function of an event returns of a valid volume, apart from the program.
func doneTo(v impl.Volume, e impl.Event) (impl.Volume, int) {
	switch e.Kind {
	case evWrite:
		if areValues(e.Pairs) {
			return afterWrite(v, e.Pairs)
		}
	case evSync:
		return edited(v, func(c *impl.Volume) { c.Dev = synced(c.Dev) }), volDone
	case evDemote:
		return afterDemotion(v, e.List)
	case evPromote:
		return afterPromotion(v, e.List)
	case evPack:
		return afterPack(v, e.List)
	case evCopy:
		return afterCopy(v)
	case evCollect:
		return afterCollection(v)
	case evSweep:
		return afterSweep(v)
	case evTick:
		c, kind := afterTick(v)
		return c, []int{volNone, volDone, volDone, volDone}[kind]
	case evCrash:
		if areKept(e.List) {
			return afterCrash(v, e.List)
		}
	}
	return impl.Volume{}, volInvalid
}

// afterEvent returns what RunDo returns, apart from the program.
func afterEvent(v impl.Volume, e impl.Event) (impl.Volume, int) {
	if len(brokenRules(v)) > 0 {
		return impl.Volume{}, volInvalid
	}
	c, code := doneTo(v, e)
	if code == volInvalid {
		return copiedVolume(v), volInvalid
	}
	return c, code
}

// wantDo requires what RunDo returns, and returns it.
func wantDo(t *testing.T, v impl.Volume, e impl.Event) (impl.Volume, int) {
	t.Helper()
	want, wantCode := afterEvent(v, e)
	got, code := impl.RunDo(v, e)
	wantVolume(t, got, code, want, wantCode, "RunDo(%v, %v)", v, e)
	return got, code
}

// wantRefused requires that RunDo refuses an event of a valid volume, and leaves this as it is.
func wantRefused(t *testing.T, v impl.Volume, e impl.Event) {
	t.Helper()
	got, code := impl.RunDo(v, e)
	wantVolume(t, got, code, v, volInvalid, "RunDo(%v, %v)", v, e)
}

// afterEvents returns what RunPlay returns, apart from the program.
func afterEvents(v impl.Volume, events []impl.Event) (impl.Volume, bool) {
	if len(brokenRules(v)) > 0 || len(events) > runMax {
		return impl.Volume{}, false
	}
	c := copiedVolume(v)
	for _, e := range events {
		c, _ = afterEvent(c, e)
	}
	return c, true
}

// wantPlayed requires a volume that RunPlay returned, and whether it succeeded.
func wantPlayed(t *testing.T, got impl.Volume, ok bool, want impl.Volume, wantOk bool, format string, args ...any) {
	t.Helper()
	if ok != wantOk || !sameVolume(got, want) {
		t.Fatalf("%s returned %v, %v; want %v, %v", fmt.Sprintf(format, args...), got, ok, want, wantOk)
	}
}

// wantPlay requires what RunPlay returns, and returns the volume.
func wantPlay(t *testing.T, v impl.Volume, events []impl.Event) impl.Volume {
	t.Helper()
	want, wantOk := afterEvents(v, events)
	got, ok := impl.RunPlay(v, events)
	wantPlayed(t, got, ok, want, wantOk, "RunPlay(%v, %v)", v, events)
	return got
}

// crashesOf returns crashes of a volume: with several numbers of words kept in each zone, and with fewer words of the current zone
// than it has.
func crashesOf(r *rand.Rand, v impl.Volume) []impl.Event {
	var list []impl.Event
	for _, keep := range append(keepsFor(v.Dev), keeping(v.Zone, r.IntN(unsynced(v.Dev[v.Zone])+1)), keeping(v.Zone, 6)) {
		list = append(list, eventOf(evCrash, keep...))
	}
	return list
}

// eventsFor returns events of all kinds with valid arguments for a volume, whether they are possible or not.
func eventsFor(r *rand.Rand, v impl.Volume) []impl.Event {
	list := []impl.Event{writeOf(randomPairs(r)...), writeOf(randomPairs(r)...), writeOf(pairsFrom(r.IntN(4), pairMax, r.IntN(2))...), writeOf(pairsFrom(r.IntN(blocks), 1, 0)...)}
	for _, kind := range []int{evSync, evCopy, evCollect, evSweep, evTick} {
		list = append(list, eventOf(kind))
	}
	for _, some := range blocksToMove(r, v) {
		list = append(list, eventOf(evDemote, some...), eventOf(evPromote, some...), eventOf(evPack, some...))
	}
	return append(list, crashesOf(r, v)...)
}

// runVolumes returns all volumes with which these tests do something.
func runVolumes() []impl.Volume {
	return slices.Concat(movedVolumes(), sceneVolumes(), agedVolumes())
}

// fewRunVolumes returns every so many-th of these volumes.
func fewRunVolumes(step int) []impl.Volume {
	var list []impl.Volume
	for i, v := range runVolumes() {
		if i%step == 0 {
			list = append(list, v)
		}
	}
	return list
}

// everyDo calls with volumes, events, some of which have invalid arguments, and what RunDo returns. Each part, from 0 to 4, has
// other events of the same volumes.
func everyDo(part int, call func(v impl.Volume, e impl.Event, after impl.Volume, code int)) {
	r := rand.New(rand.NewPCG(111, 112))
	bad := refusedEvents()
	for i, v := range runVolumes() {
		list := eventsFor(r, v)
		for range 5 {
			list = append(list, bad[r.IntN(len(bad))])
		}
		for j, e := range list {
			if (i+j)%5 == part {
				after, code := impl.RunDo(v, e)
				call(v, e, after, code)
			}
		}
	}
}

// refusedEvents returns events that are refused whatever volume they are of.
func refusedEvents() []impl.Event {
	list := []impl.Event{{}, writeOf(), writeOf(pairsFrom(0, pairMax+1, 5)...), writeOf(impl.Pair{Block: 3, Value: valueMax + 1}), writeOf(impl.Pair{Block: blocks, Value: 1})}
	list = append(list, writeOf(impl.Pair{Block: 4, Value: 1}, impl.Pair{Block: 4, Value: 2}), eventOf(evCrash), eventOf(evCrash, 1, 2, 3), eventOf(evCrash, 5, 5, 5, -5))
	for _, kind := range []int{evDemote, evPromote, evPack} {
		list = append(list, eventOf(kind), eventOf(kind, 3, 3), eventOf(kind, 5, 4), eventOf(kind, -1), eventOf(kind, blocks), eventOf(kind, counting(packMax+1, 0)...))
	}
	for _, kind := range noKinds {
		list = append(list, impl.Event{Kind: kind, Pairs: pairsFrom(2, 2, 5), List: make([]int, zones)}, eventOf(kind, 0, 3, 5))
	}
	return list
}

// randomEvent returns an event of a volume that is mostly possible.
func randomEvent(r *rand.Rand, v impl.Volume) impl.Event {
	switch n := r.IntN(24); n {
	case evSync, evCopy, evCollect, evSweep, evTick:
		return eventOf(n)
	case evDemote, 11:
		return eventOf(evDemote, chosen(r, impl.MapTier(v.Map, tierHot))...)
	case evPromote, 12:
		return eventOf(evPromote, chosen(r, impl.MapTier(v.Map, tierCold))...)
	case evPack:
		return eventOf(evPack, chosen(r, impl.MapTier(v.Map, tierHot))...)
	case evCrash, 13:
		keep := []int{r.IntN(40), r.IntN(40), r.IntN(40), r.IntN(40)}
		return eventOf(evCrash, withNumber(keep, v.Zone, r.IntN(unsynced(v.Dev[v.Zone])+2))...)
	case 14:
		list := refusedEvents()
		return list[r.IntN(len(list))]
	case 15:
		return eventOf([]int{evDemote, evPromote, evPack}[r.IntN(3)], someBlocks(r, 1+r.IntN(packMax))...)
	case 16, 17, 18:
		return eventOf(evTick)
	}
	return writeOf(randomPairs(r)...)
}

// randomRun returns so many events of a volume, each of which is drawn for the volume behind those ahead of it.
func randomRun(r *rand.Rand, v impl.Volume, many int) []impl.Event {
	var events []impl.Event
	for range many {
		e := randomEvent(r, v)
		events = append(events, e)
		v, _ = impl.RunDo(v, e)
	}
	return events
}

func TestRunConstants(t *testing.T) {
	got := []int{impl.RunMax, impl.EvWrite, impl.EvSync, impl.EvDemote, impl.EvPromote, impl.EvPack, impl.EvCopy, impl.EvCollect, impl.EvSweep, impl.EvTick, impl.EvCrash}
	wantList(t, got, []int{60, 1, 2, 3, 4, 5, 6, 7, 8, 9, 10}, "the constants")
}

// The volumes and the events of these tests are what they are meant to be.
func TestEventsOfTheTests(t *testing.T) {
	for _, v := range runVolumes() {
		if rules := brokenRules(v); len(rules) > 0 {
			t.Fatalf("%v breaks %v", v, rules)
		}
	}
	for _, e := range refusedEvents() {
		if _, code := doneTo(hotVolume(nil), e); code != volInvalid {
			t.Fatalf("%v has the code %d", e, code)
		}
	}
	for _, list := range unkeepable() {
		if _, ok := impl.DeviceCrash(blankVolume().Dev, list); ok || areKept(list) {
			t.Fatalf("a crash can keep %v", list)
		}
	}
	for _, list := range validPairs() {
		if !areValues(list) {
			t.Fatalf("%v are invalid", list)
		}
	}
	for _, list := range invalidPairs() {
		if areValues(list) {
			t.Fatalf("%v are valid", list)
		}
	}
}

// Promises 154 to 157: events of all kinds, with each code that there is for them.
func TestRunDo(t *testing.T) {
	seen := map[string]int{}
	everyDo(0, func(v impl.Volume, e impl.Event, after impl.Volume, code int) {
		want, wantCode := afterEvent(v, e)
		wantVolume(t, after, code, want, wantCode, "RunDo(%v, %v)", v, e)
		if !slices.Contains(kinds, e.Kind) {
			e.Kind = 0
		}
		seen[fmt.Sprint(e.Kind, " ", code)]++
	})
	want := []string{
		"1 0", "1 1", "1 3", "2 0", "3 0", "3 1", "3 2", "3 3", "4 0", "4 1", "4 2", "4 3", "5 0", "5 1", "5 2", "5 3",
		"6 0", "6 1", "6 2", "7 0", "7 1", "7 2", "8 0", "8 2", "9 0", "9 2", "10 0", "10 3", "0 3",
	}
	for _, kind := range want {
		if seen[kind] < 5 {
			t.Errorf("the kind and the code %s were seen %d times; want at least 5", kind, seen[kind])
		}
	}
	if len(seen) != len(want) {
		t.Errorf("%v were seen; want %v", seen, want)
	}
}

// Promises 154 to 156, as they say it.
func TestRunDoKeepsVolumesValid(t *testing.T) {
	everyDo(1, func(v impl.Volume, e impl.Event, after impl.Volume, code int) {
		if rules := brokenRules(after); len(rules) > 0 || !impl.VolumeValid(after) {
			t.Fatalf("RunDo(%v, %v) = %v, %d, which breaks %v", v, e, after, code, rules)
		}
		if (code == volFull || code == volInvalid) && !sameVolume(after, v) {
			t.Fatalf("RunDo(%v, %v) = %v, %d", v, e, after, code)
		}
		if code == volNone && !sameVolume(after, edited(v, func(c *impl.Volume) { c.Heat = after.Heat })) {
			t.Fatalf("RunDo(%v, %v) = %v, %d", v, e, after, code)
		}
		if e.Kind != evWrite && e.Kind != evCrash {
			wantList(t, impl.VolumeAll(after), impl.VolumeAll(v), "VolumeAll after RunDo(%v, %v)", v, e)
		}
	})
}

// Promise 157, and the same for all other kinds, as the chapters before say it.
func TestRunDoIsTheFunctionOfTheEvent(t *testing.T) {
	everyDo(2, func(v impl.Volume, e impl.Event, after impl.Volume, code int) {
		want, wantCode := v, volInvalid
		switch e.Kind {
		case impl.EvWrite:
			want, wantCode = impl.VolumeWrite(v, e.Pairs)
		case impl.EvSync:
			want, wantCode = impl.VolumeSync(v)
		case impl.EvDemote:
			want, wantCode = impl.VolumeDemote(v, e.List)
		case impl.EvPromote:
			want, wantCode = impl.VolumePromote(v, e.List)
		case impl.EvPack:
			want, wantCode = impl.VolumePack(v, e.List)
		case impl.EvCopy:
			want, wantCode = impl.VolumeCopy(v)
		case impl.EvCollect:
			want, wantCode = impl.VolumeCollect(v)
		case impl.EvSweep:
			want, wantCode = impl.VolumeSweep(v)
		case impl.EvTick:
			var kind int
			want, kind = impl.VolumeTick(v)
			if wantCode = impl.VolDone; kind == impl.TickNone {
				wantCode = impl.VolNone
			}
		case impl.EvCrash:
			want, wantCode = impl.VolumeCrash(v, e.List)
		}
		if wantCode == volInvalid {
			want = v
		}
		wantVolume(t, after, code, want, wantCode, "RunDo(%v, %v)", v, e)
	})
}

// A known volume, and one event behind the other, exactly.
func TestRunDoOfAKnownVolume(t *testing.T) {
	v := blankVolume()
	step := func(e impl.Event, wantCode int, change func(v *impl.Volume)) {
		t.Helper()
		want := edited(v, change)
		got, code := impl.RunDo(v, e)
		wantVolume(t, got, code, want, wantCode, "RunDo(%v, %v)", v, e)
		v = got
	}
	nothing := func(*impl.Volume) {}
	step(writeOf(impl.Pair{Block: 1, Value: 2}, impl.Pair{Block: 4, Value: 9}), volDone, func(v *impl.Volume) {
		v.Dev[0].Words = summed(1, 1, 4, 1, 2, 4, 9)
		v.Map[1], v.Map[4] = hotAt(0, 4), hotAt(0, 6)
		v.Heat[1], v.Heat[4] = 10, 10
		v.Seq = 2
	})
	step(eventOf(evPack, 1, 4), volDone, func(v *impl.Volume) { v.Store = []impl.Object{{Id: 2, Values: []int{2, 9}}} })
	step(eventOf(evDemote, 4), volFull, nothing)
	step(eventOf(evPromote, 4), volNone, nothing)
	step(eventOf(evTick), volDone, func(v *impl.Volume) {
		v.Dev[0].Synced, v.Store = 8, nil
		v.Heat[1], v.Heat[4] = 5, 5
	})
	step(eventOf(evSweep), volNone, nothing)
	step(eventOf(evTick), volNone, func(v *impl.Volume) { v.Heat[1], v.Heat[4] = 2, 2 })
	step(eventOf(evDemote, 4), volDone, func(v *impl.Volume) {
		v.Dev[0].Words = slices.Concat(v.Dev[0].Words, summed(2, 2, 3, 4, 2, 0))
		v.Store = []impl.Object{{Id: 2, Values: []int{9}}}
		v.Map[4] = coldAt(0, 11, 2, 0)
		v.Seq = 3
	})
	step(eventOf(evCollect), volNone, nothing)
	step(eventOf(evCopy), volNone, nothing)
	step(eventOf(evCrash, 6, 0, 0), volInvalid, nothing)
	step(eventOf(evCrash, 6, 9, 9, 9), volDone, func(v *impl.Volume) {
		v.Dev[0].Words, v.Store = v.Dev[0].Words[:8], nil
		v.Map[4], v.Seq = hotAt(0, 6), 2
		v.Heat = make([]int, blocks)
	})
	step(eventOf(evSync), volDone, nothing)
	step(writeOf(impl.Pair{Block: 1, Value: 100}), volInvalid, nothing)
	wantList(t, impl.VolumeAll(v), []int{0, 2, 0, 0, 9, 0, 0, 0, 0, 0, 0, 0}, "VolumeAll")
}

// An EvTick has the code volNone exactly for TickNone; the heat is changed nevertheless.
func TestRunDoOfTicks(t *testing.T) {
	seen := map[string]int{}
	for _, v := range tickedVolumes() {
		planned, _ := impl.TickPlan(v)
		want, kind := impl.VolumeTick(v)
		wantCode := volDone
		if kind == tickNone {
			wantCode = volNone
		}
		got, code := impl.RunDo(v, eventOf(evTick))
		wantVolume(t, got, code, want, wantCode, "RunDo(%v, an EvTick)", v)
		wantList(t, got.Heat, halved(v.Heat), "the heat after an EvTick of %v", v)
		if code == volNone {
			wantVolume(t, got, code, cooled(v), code, "RunDo(%v, an EvTick)", v)
		}
		seen[fmt.Sprint(planned, " ", kind, " ", code)]++
	}
	for _, kind := range []string{"0 0 2", "1 1 0", "1 0 2", "2 2 0", "2 0 2", "3 3 0"} {
		if seen[kind] < 10 {
			t.Errorf("%s was planned, was done, and had the code %d times; want at least 10", kind, seen[kind])
		}
	}
}

// fewPlain returns volumes of all kinds: without words, with all tiers, without room, with the last number, not synced, and with
// objects.
func fewPlain() []impl.Volume {
	return []impl.Volume{
		blankVolume(), knownVolume(), hotVolume(nil), coldVolume(), halfVolume(), crowdedVolume(1, 60, []int{0, 2, 3}, 30), crowdedVolume(2, 20, nil, seqMax),
		stocked(hotVolume(nil), 3, true), freshVolume(),
	}
}

// Arguments with which the function of the event returns volInvalid leave the volume unchanged.
func TestRunDoOfInvalidArguments(t *testing.T) {
	for _, v := range fewPlain() {
		for _, list := range invalidPairs() {
			wantRefused(t, v, writeOf(list...))
		}
		for i, list := range immovable() {
			wantRefused(t, v, eventOf([]int{evDemote, evPromote, evPack}[i%3], list...))
		}
		for _, list := range unkeepable() {
			wantRefused(t, v, eventOf(evCrash, list...))
		}
		// All of these for each of the kinds.
		for _, e := range refusedEvents() {
			wantRefused(t, v, e)
		}
	}
	for _, list := range immovable() {
		for _, kind := range []int{evDemote, evPromote, evPack} {
			wantRefused(t, hotVolume(nil), eventOf(kind, list...))
			wantRefused(t, coldVolume(), eventOf(kind, list...))
		}
	}
}

// Kinds that there are not, whatever arguments the event has.
func TestRunDoOfOtherKinds(t *testing.T) {
	for _, v := range fewRunVolumes(4) {
		for _, kind := range noKinds {
			wantRefused(t, v, eventOf(kind))
			wantRefused(t, v, impl.Event{Kind: kind, Pairs: pairsFrom(3, 4, 7), List: make([]int, zones)})
			wantRefused(t, v, impl.Event{Kind: kind, Pairs: pairsFrom(3, 1, 100), List: []int{0, 1}})
		}
	}
	for kind := -100; kind <= 300; kind++ {
		if !slices.Contains(kinds, kind) {
			wantRefused(t, knownVolume(), impl.Event{Kind: kind, Pairs: pairsFrom(3, 4, 7), List: []int{0, 3}})
		}
	}
}

// Promise 160, too: invalid volumes, whatever the events are.
func TestRunsOfInvalidVolumes(t *testing.T) {
	r := rand.New(rand.NewPCG(113, 114))
	for i, b := range brokenVolumes() {
		var events []impl.Event
		for _, kind := range kinds {
			events = append(events, impl.Event{Kind: kind, Pairs: pairsFrom(3, 2, 7), List: []int{0, 3, 5, 11}})
		}
		events = append(events, eventOf(0), eventOf(noKinds[i%len(noKinds)]), writeOf(), eventOf(evCrash), eventOf(evDemote, 1, 2), eventOf(evPromote, 3, 3))
		for _, e := range events {
			got, code := impl.RunDo(b.v, e)
			wantVolume(t, got, code, impl.Volume{}, volInvalid, "RunDo(%v, %v)", b.v, e)
		}
		for _, many := range []int{0, 1, r.IntN(len(events)), len(events)} {
			got, ok := impl.RunPlay(b.v, events[:many])
			wantPlayed(t, got, ok, impl.Volume{}, false, "RunPlay(%v, %v)", b.v, events[:many])
			if impl.RunCheck(b.v, events[:many]) {
				t.Fatalf("RunCheck(%v, %v) = true", b.v, events[:many])
			}
		}
	}
	for _, v := range fewBroken() {
		for _, many := range []int{runMax, runMax + 1, 500} {
			events := slices.Repeat([]impl.Event{eventOf(evSync)}, many)
			got, ok := impl.RunPlay(v, events)
			wantPlayed(t, got, ok, impl.Volume{}, false, "RunPlay(%v, %d events)", v, many)
			if impl.RunCheck(v, events) {
				t.Fatalf("RunCheck(%v, %d events) = true", v, many)
			}
		}
	}
}

// Pairs and List that a kind does not use have no influence, whether they are valid or not.
func TestRunDoUsesOnlyTheArgumentsOfItsKind(t *testing.T) {
	r := rand.New(rand.NewPCG(115, 116))
	pairs := [][]impl.Pair{nil, {}, pairsFrom(3, 4, 7), pairsFrom(0, pairMax, 0), pairsFrom(0, blocks, 5), {{Block: -1, Value: 100}}}
	lists := [][]int{nil, {}, {0, 3, 5}, make([]int, zones), {1, 9, 3, 4}, {5, 4, 3, -2}, {99}}
	for _, v := range append(fewRunVolumes(50), fewPlain()...) {
		for _, e := range eventsFor(r, v) {
			want, wantCode := impl.RunDo(v, e)
			for i := range lists {
				other := impl.Event{Kind: e.Kind, Pairs: pairs[i%len(pairs)], List: lists[i]}
				switch e.Kind {
				case evWrite:
					other.Pairs = e.Pairs
				case evDemote, evPromote, evPack, evCrash:
					other.List = e.List
				}
				got, code := impl.RunDo(v, other)
				wantVolume(t, got, code, want, wantCode, "RunDo(%v, %v)", v, other)
			}
		}
	}
}

// forgetfulVolume returns a volume whose block 4 was in an object that is not there any more, before it became hot; only the frame
// that made it hot does not last.
func forgetfulVolume() impl.Volume {
	v := volumeOn(0, nil, []impl.Frame{places(1, 7, 4), valueFrame(2, 4, 50)})
	v.Dev[0].Synced = 7
	return v
}

// Promise 157: VolumeCrash is refused if the frames that are left tell a place of an object that is not there. Then, the volume
// stays as it is, and so do its words that do not last.
func TestRunDoOfCrashesThatAreRefused(t *testing.T) {
	v := forgetfulVolume()
	if rules := brokenRules(v); len(rules) > 0 {
		t.Fatalf("%v breaks %v", v, rules)
	}
	for many := range zoneSize {
		e := eventOf(evCrash, keeping(0, many)...)
		if many < 6 {
			wantRefused(t, v, e)
			wantPlay(t, v, []impl.Event{e, e, writeOf(pairsFrom(5, 1, 2)...), e})
		} else if _, code := wantDo(t, v, e); code != volDone {
			t.Fatalf("RunDo(%v, %v) returned %d", v, e, code)
		}
		if !impl.RunCheck(v, []impl.Event{e, e, writeOf(pairsFrom(4, 1, 2)...), e}) {
			t.Fatalf("RunCheck(%v, %v) = false", v, e)
		}
	}
}

// Promises 158 and 160: no event, one, and more, up to RunMax. With one more, there is no volume.
func TestRunPlay(t *testing.T) {
	r := rand.New(rand.NewPCG(117, 118))
	for _, v := range append(fewRunVolumes(40), fewPlain()...) {
		events := randomRun(r, v, runMax+1)
		after := v
		for many := range runMax + 1 {
			if many > 0 {
				after, _ = impl.RunDo(after, events[many-1])
			}
			if many < 4 || many%13 == 0 || many >= runMax-1 {
				got, ok := impl.RunPlay(v, events[:many])
				wantPlayed(t, got, ok, after, true, "RunPlay(%v, %v)", v, events[:many])
			}
		}
		wantPlay(t, v, events[:runMax])
		for _, many := range []int{1, 2, 10, 500} {
			got, ok := impl.RunPlay(v, append(events[:runMax:runMax], slices.Repeat(events[runMax:], many)...))
			wantPlayed(t, got, ok, impl.Volume{}, false, "RunPlay(%v, %d events)", v, runMax+many)
		}
	}
}

// Promise 158: runs of one event.
func TestRunPlayOfOneEvent(t *testing.T) {
	r := rand.New(rand.NewPCG(119, 120))
	for _, v := range fewRunVolumes(10) {
		got, ok := impl.RunPlay(v, nil)
		wantPlayed(t, got, ok, v, true, "RunPlay(%v, no event)", v)
		for _, e := range eventsFor(r, v) {
			want, _ := afterEvent(v, e)
			got, ok := impl.RunPlay(v, []impl.Event{e})
			wantPlayed(t, got, ok, want, true, "RunPlay(%v, %v)", v, e)
		}
	}
}

// Promise 159: divided at each place.
func TestRunPlayOfDividedRuns(t *testing.T) {
	r := rand.New(rand.NewPCG(121, 122))
	for i, v := range append(fewPlain(), fewRunVolumes(60)...) {
		for _, many := range []int{0, 1, 2, 7, 20, runMax} {
			if many == runMax && i%3 > 0 {
				continue
			}
			events := randomRun(r, v, many)
			want, _ := impl.RunPlay(v, events)
			for at := range many + 1 {
				half, _ := impl.RunPlay(v, events[:at])
				got, ok := impl.RunPlay(half, events[at:])
				wantPlayed(t, got, ok, want, true, "RunPlay(%v, %v), divided at %d", v, events, at)
			}
		}
	}
}

// Promises 158 and 160: events that are refused do not end a run, and change nothing. Their number counts.
func TestRunPlayWithRefusedEvents(t *testing.T) {
	r := rand.New(rand.NewPCG(123, 124))
	bad := refusedEvents()
	for _, v := range append(fewRunVolumes(40), fewPlain()...) {
		events := randomRun(r, v, 20)
		want, _ := afterEvents(v, events)
		for range 5 {
			mixed := slices.Clone(events)
			for len(mixed) < runMax {
				mixed = slices.Insert(mixed, r.IntN(len(mixed)+1), bad[r.IntN(len(bad))])
			}
			got, ok := impl.RunPlay(v, mixed)
			wantPlayed(t, got, ok, want, true, "RunPlay(%v, %v)", v, mixed)
			got, ok = impl.RunPlay(v, append(mixed, bad[r.IntN(len(bad))]))
			wantPlayed(t, got, ok, impl.Volume{}, false, "RunPlay(%v, one event more)", v)
		}
		only := bad[:min(runMax, len(bad))]
		got, ok := impl.RunPlay(v, only)
		wantPlayed(t, got, ok, v, true, "RunPlay(%v, %v)", v, only)
	}
}

// areModelValues reports whether a model may have values, apart from the program.
func areModelValues(values []int) bool {
	return len(values) == blocks && slices.Min(values) >= 0 && slices.Max(values) <= valueMax
}

// modelOf returns a model with values of the past, the last of which it has now, apart from the program.
func modelOf(past ...[]int) impl.Model {
	m := impl.Model{Now: slices.Clone(past[len(past)-1])}
	for _, values := range past {
		m.Past = append(m.Past, slices.Clone(values))
	}
	return m
}

// copiedModel returns a model in memory of its own.
func copiedModel(m impl.Model) impl.Model {
	c := impl.Model{Now: slices.Clone(m.Now)}
	for _, values := range m.Past {
		c.Past = append(c.Past, slices.Clone(values))
	}
	return c
}

// sameModel reports whether two models are equal.
func sameModel(a, b impl.Model) bool {
	return slices.Equal(a.Now, b.Now) && slices.EqualFunc(a.Past, b.Past, slices.Equal)
}

// isModel reports whether a model is valid, apart from the program.
func isModel(m impl.Model) bool {
	for _, values := range m.Past {
		if !areModelValues(values) {
			return false
		}
	}
	return len(m.Past) > 0 && len(m.Past) <= runMax+1 && slices.Equal(m.Now, m.Past[len(m.Past)-1])
}

// isPast reports whether values are among those of a model's past.
func isPast(m impl.Model, values []int) bool {
	return slices.ContainsFunc(m.Past, func(other []int) bool { return slices.Equal(other, values) })
}

// writtenTo returns values in which others have been written, apart from the program.
func writtenTo(values []int, list []impl.Pair) []int {
	c := slices.Clone(values)
	for _, p := range list {
		c[p.Block] = p.Value
	}
	return c
}

// afterStepOf returns what ModelDo returns, apart from the program.
func afterStepOf(m impl.Model, e impl.Event, done bool, after []int) (impl.Model, bool) {
	if !isModel(m) || !areModelValues(after) {
		return impl.Model{}, false
	}
	if e.Kind == evCrash && done {
		if !isPast(m, after) {
			return impl.Model{}, false
		}
		return modelOf(after), true
	}
	want := m.Now
	if e.Kind == evWrite && done && areValues(e.Pairs) {
		want = writtenTo(want, e.Pairs)
	}
	if !slices.Equal(want, after) {
		return impl.Model{}, false
	}
	if e.Kind == evSync && done {
		return modelOf(after), true
	}
	past := append(slices.Clone(m.Past), after)
	for len(past) > runMax+1 {
		past = past[1:]
	}
	return modelOf(past...), true
}

// wantModel requires a model that a function returned, and whether it succeeded.
func wantModel(t *testing.T, got impl.Model, ok bool, want impl.Model, wantOk bool, format string, args ...any) {
	t.Helper()
	if ok != wantOk || !sameModel(got, want) {
		t.Fatalf("%s returned %v, %v; want %v, %v", fmt.Sprintf(format, args...), got, ok, want, wantOk)
	}
}

// wantStep requires what ModelDo returns, and returns it.
func wantStep(t *testing.T, m impl.Model, e impl.Event, done bool, after []int) (impl.Model, bool) {
	t.Helper()
	want, wantOk := afterStepOf(m, e, done, after)
	got, ok := impl.ModelDo(m, e, done, after)
	wantModel(t, got, ok, want, wantOk, "ModelDo(%v, %v, %v, %v)", m, e, done, after)
	return got, ok
}

// wantGrown requires that ModelDo succeeds, and that the past grows.
func wantGrown(t *testing.T, m impl.Model, e impl.Event, done bool, after []int) impl.Model {
	t.Helper()
	got, ok := wantStep(t, m, e, done, after)
	if !ok || len(got.Past) != min(len(m.Past)+1, runMax+1) || !slices.Equal(got.Now, after) {
		t.Fatalf("ModelDo(%v, %v, %v, %v) = %v, %v", m, e, done, after, got, ok)
	}
	return got
}

// wantNoStep requires that ModelDo fails.
func wantNoStep(t *testing.T, m impl.Model, e impl.Event, done bool, after []int) {
	t.Helper()
	got, ok := impl.ModelDo(m, e, done, after)
	wantModel(t, got, ok, impl.Model{}, false, "ModelDo(%v, %v, %v, %v)", m, e, done, after)
}

// nthValues returns values in range that are different for the first hundred numbers.
func nthValues(n int) []int {
	values := make([]int, blocks)
	for block := range values {
		values[block] = (7*n + 13*block) % (valueMax + 1)
	}
	return values
}

// pastModel returns a model whose past has so many elements, all of them different.
func pastModel(many int) impl.Model {
	var past [][]int
	for n := range many {
		past = append(past, nthValues(n))
	}
	return modelOf(past...)
}

// someModels returns valid models: with few and many elements of the past, with equal ones, and with the least and the largest
// values.
func someModels() []impl.Model {
	var list []impl.Model
	for _, many := range []int{1, 2, 3, 4, 30, runMax - 1, runMax, runMax + 1} {
		list = append(list, pastModel(many))
	}
	list = append(list, modelOf(make([]int, blocks)), modelOf(allEqual(valueMax)), modelOf(allEqual(valueMax), make([]int, blocks), allEqual(valueMax)))
	list = append(list, modelOf(slices.Repeat([][]int{nthValues(3)}, runMax+1)...), modelOf(nthValues(5), nthValues(6), nthValues(5), nthValues(6)))
	return list
}

// badModelValues returns values that no model has, made from ones that it may have: too few, too many, and one out of range.
func badModelValues(values []int) [][]int {
	lists := [][]int{nil, {}, values[:1], values[:blocks-1], values[1:], append(slices.Clone(values), 0), append(slices.Clone(values), values...)}
	for block := range blocks {
		for _, bad := range []int{-1, valueMax + 1} {
			lists = append(lists, withNumber(values, block, bad))
		}
	}
	for i, bad := range []int{-2, -valueMax, valueMax + 2, wordMax, 1 << 32, -1 << 32, 1<<32 + 5, math.MinInt, math.MaxInt} {
		lists = append(lists, withNumber(values, i, bad))
	}
	return lists
}

// badModels returns models that are not valid, of which just one rule does not hold.
func badModels() []impl.Model {
	list := []impl.Model{{}, {Now: nthValues(0)}, {Now: nthValues(0), Past: [][]int{}}, {Past: [][]int{nthValues(0)}}, {Past: [][]int{{}}}, {Now: []int{}, Past: [][]int{nil}}}
	for _, many := range []int{runMax + 2, runMax + 3, 2 * runMax, 500} {
		list = append(list, pastModel(many), modelOf(slices.Repeat([][]int{nthValues(3)}, many)...))
	}
	for _, many := range []int{1, 2, 5, runMax, runMax + 1} {
		list = append(list, badPasts(many)...)
	}
	return list
}

// badPasts returns models that are not valid, with so many elements of the past: ones that have other values now, or values
// that no model has, now and at the end of the past, or elsewhere in it.
func badPasts(many int) []impl.Model {
	var list []impl.Model
	m := pastModel(many)
	for block := range blocks {
		other := copiedModel(m)
		other.Now[block] = (other.Now[block] + 1) % (valueMax + 1)
		list = append(list, other)
	}
	if many > 1 {
		list = append(list, impl.Model{Now: nthValues(0), Past: m.Past}, impl.Model{Now: nthValues(many - 2), Past: m.Past})
	}
	list = append(list, impl.Model{Now: m.Now[:blocks-1], Past: m.Past}, impl.Model{Now: append(slices.Clone(m.Now), 0), Past: m.Past})
	for _, at := range distinct(0, many/2, max(0, many-2), many-1) {
		for _, values := range badModelValues(m.Past[at]) {
			other := copiedModel(m)
			other.Past[at] = values
			if at == many-1 {
				other.Now = values
			}
			list = append(list, other)
		}
	}
	return list
}

// stepEvents returns events of all kinds, and of kinds that there are not.
func stepEvents() []impl.Event {
	var list []impl.Event
	for _, kind := range slices.Concat(kinds, noKinds) {
		list = append(list, eventOf(kind), impl.Event{Kind: kind, Pairs: []impl.Pair{{Block: 2, Value: 0}, {Block: 3, Value: 1}, {Block: 11, Value: valueMax}}, List: make([]int, zones)})
	}
	return list
}

// behind returns the values that a volume must have behind an event that was done, or was not, if it is no crash that was done.
func behind(m impl.Model, e impl.Event, done bool) []int {
	if e.Kind == evWrite && done && areValues(e.Pairs) {
		return writtenTo(m.Now, e.Pairs)
	}
	return m.Now
}

// The models of these tests are what they are meant to be.
func TestModelsOfTheTests(t *testing.T) {
	for _, m := range someModels() {
		if !isModel(m) {
			t.Fatalf("%v is invalid", m)
		}
	}
	for _, m := range badModels() {
		if isModel(m) {
			t.Fatalf("%v is valid", m)
		}
	}
	for _, values := range badModelValues(nthValues(4)) {
		if areModelValues(values) {
			t.Fatalf("%v are valid", values)
		}
	}
	for n := range 100 {
		for other := range n {
			if slices.Equal(nthValues(n), nthValues(other)) {
				t.Fatalf("%d and %d have the same values", n, other)
			}
		}
	}
}

// Promise 162: values at both ends of their range and just beyond, and too few and too many of them.
func TestModelNew(t *testing.T) {
	for n := range 100 {
		values := nthValues(n)
		got, ok := impl.ModelNew(values)
		wantModel(t, got, ok, impl.Model{Now: values, Past: [][]int{values}}, true, "ModelNew(%v)", values)
	}
	for block := range blocks {
		for value := -3; value <= valueMax+3; value++ {
			for _, others := range []int{0, 50, valueMax} {
				values := withNumber(allEqual(others), block, value)
				want, wantOk := modelOf(values), true
				if value < 0 || value > 99 {
					want, wantOk = impl.Model{}, false
				}
				got, ok := impl.ModelNew(values)
				wantModel(t, got, ok, want, wantOk, "ModelNew(%v)", values)
			}
		}
	}
	for _, values := range badModelValues(nthValues(4)) {
		got, ok := impl.ModelNew(values)
		wantModel(t, got, ok, impl.Model{}, false, "ModelNew(%v)", values)
	}
	for many := range 30 {
		got, ok := impl.ModelNew(make([]int, many))
		if ok != (many == 12) || many != 12 && !sameModel(got, impl.Model{}) {
			t.Fatalf("ModelNew of %d values returned %v, %v", many, got, ok)
		}
	}
}

// The values of volumes are those of a model.
func TestModelNewOfVolumes(t *testing.T) {
	for _, v := range runVolumes() {
		values := impl.VolumeAll(v)
		got, ok := impl.ModelNew(values)
		wantModel(t, got, ok, modelOf(valuesOn(v)), true, "ModelNew(%v)", values)
	}
}

// Promises 163 to 166: models that are not valid, whatever the event is, with values that would be as they must be.
func TestModelDoOfInvalidModels(t *testing.T) {
	for _, m := range badModels() {
		for _, e := range stepEvents() {
			for _, done := range []bool{false, true} {
				wantNoStep(t, m, e, done, m.Now)
				wantNoStep(t, m, e, done, nthValues(0))
				if areModelValues(m.Now) {
					wantNoStep(t, m, e, done, behind(m, e, done))
				}
				if n := len(m.Past); n > 0 {
					wantNoStep(t, m, e, done, m.Past[n-1])
				}
			}
		}
	}
}

// Promises 163 to 166: values that no model has.
func TestModelDoOfInvalidValues(t *testing.T) {
	for _, m := range someModels() {
		for _, e := range stepEvents() {
			for _, done := range []bool{false, true} {
				for _, values := range badModelValues(behind(m, e, done)) {
					wantNoStep(t, m, e, done, values)
				}
			}
		}
	}
}

// Promises 163, 164 and 166: events of each kind, done and not, with the values as they must be, and with each of them changed.
func TestModelDo(t *testing.T) {
	grown, alone := 0, 0
	for _, m := range someModels() {
		for _, e := range stepEvents() {
			for _, done := range []bool{false, true} {
				after := behind(m, e, done)
				got, ok := wantStep(t, m, e, done, after)
				if !ok || !slices.Equal(got.Now, after) || !slices.Equal(got.Past[len(got.Past)-1], after) {
					t.Fatalf("ModelDo(%v, %v, %v, %v) = %v, %v", m, e, done, after, got, ok)
				}
				if done && (e.Kind == evSync || e.Kind == evCrash) {
					alone++
					wantModel(t, got, ok, impl.Model{Now: after, Past: [][]int{after}}, true, "ModelDo(%v, %v, %v, %v)", m, e, done, after)
				} else {
					grown++
					wantGrown(t, m, e, done, after)
				}
				for block, value := range after {
					for _, other := range distinct(0, (value+1)%100, (value+99)%100, (value+50)%100, 99) {
						if values := withNumber(after, block, other); other != value && !isPast(m, values) {
							wantNoStep(t, m, e, done, values)
						}
					}
				}
			}
		}
	}
	if grown < 200 || alone < 30 {
		t.Errorf("the past grew %d times, and did not %d times", grown, alone)
	}
}

// Promise 164: writes that were done and were not, with values of all lengths.
func TestModelDoOfWrites(t *testing.T) {
	for _, m := range []impl.Model{pastModel(1), pastModel(4), pastModel(runMax + 1), modelOf(make([]int, blocks)), modelOf(allEqual(valueMax))} {
		for _, list := range validPairs() {
			e, want := writeOf(list...), writtenTo(m.Now, list)
			wantGrown(t, m, e, true, want)
			wantGrown(t, m, e, false, m.Now)
			if !slices.Equal(want, m.Now) {
				wantNoStep(t, m, e, true, m.Now)
				wantNoStep(t, m, e, false, want)
			}
			// Each of the values must have been written.
			for i, p := range list {
				if some := writtenTo(m.Now, slices.Delete(slices.Clone(list), i, i+1)); p.Value != m.Now[p.Block] {
					wantNoStep(t, m, e, true, some)
				}
			}
		}
	}
}

// Promise 164: with values that are invalid, nothing was written, whether the event was done or not.
func TestModelDoOfInvalidWrites(t *testing.T) {
	for _, m := range []impl.Model{pastModel(1), pastModel(5), modelOf(make([]int, blocks)), modelOf(allEqual(valueMax))} {
		for _, list := range invalidPairs() {
			e := writeOf(list...)
			wantGrown(t, m, e, true, m.Now)
			wantGrown(t, m, e, false, m.Now)
			// What would be there if the values in range had been written all the same.
			values := slices.Clone(m.Now)
			for _, p := range list {
				if p.Block >= 0 && p.Block < blocks && p.Value >= 0 && p.Value <= valueMax {
					values[p.Block] = p.Value
				}
			}
			if !slices.Equal(values, m.Now) {
				wantNoStep(t, m, e, true, values)
				wantNoStep(t, m, e, false, values)
			}
		}
	}
}

// Promise 164: other events do not write their Pairs.
func TestModelDoOfPairsThatAreNotWritten(t *testing.T) {
	pairs := pairsFrom(2, 4, 71)
	for _, m := range someModels() {
		for _, kind := range slices.Concat(kinds[1:], noKinds) {
			e := impl.Event{Kind: kind, Pairs: pairs}
			for _, done := range []bool{false, true} {
				wantStep(t, m, e, done, m.Now)
				wantNoStep(t, m, e, done, writtenTo(m.Now, pairs))
			}
		}
	}
}

// Promise 165: crashes that were done lead to each element of the past, and to nothing else.
func TestModelDoOfCrashes(t *testing.T) {
	for _, m := range someModels() {
		for _, e := range []impl.Event{eventOf(evCrash), eventOf(evCrash, 1, 2, 3, 4), {Kind: evCrash, Pairs: pairsFrom(0, 3, 9), List: []int{-1}}} {
			for i, values := range m.Past {
				got, ok := impl.ModelDo(m, e, true, values)
				wantModel(t, got, ok, impl.Model{Now: values, Past: [][]int{values}}, true, "ModelDo(%v, %v, true, %v)", m, e, values)
				// A part of these values and a part of others.
				mixed := slices.Concat(values[:5], m.Past[(i+1)%len(m.Past)][5:])
				if !isPast(m, mixed) {
					wantNoStep(t, m, e, true, mixed)
				}
			}
			for _, values := range [][]int{nthValues(70), nthValues(99), withNumber(m.Now, 0, (m.Now[0]+1)%100), backward(m.Now)} {
				if !isPast(m, values) {
					wantNoStep(t, m, e, true, values)
				}
			}
		}
	}
}

// Promises 163, 164 and 166: crashes that were not done change no value. Earlier values are not possible.
func TestModelDoOfCrashesThatWereNotDone(t *testing.T) {
	for _, m := range someModels() {
		for _, e := range []impl.Event{eventOf(evCrash), eventOf(evCrash, 1, 2, 3, 4)} {
			wantGrown(t, m, e, false, m.Now)
			for _, values := range m.Past {
				if !slices.Equal(values, m.Now) {
					wantNoStep(t, m, e, false, values)
				}
			}
		}
	}
}

// Promises 163, 164 and 166: earlier values are not possible behind any other event, either, whether it was done or not.
func TestModelDoOfEarlierValues(t *testing.T) {
	for _, m := range []impl.Model{pastModel(2), pastModel(5), pastModel(runMax + 1)} {
		for _, kind := range slices.Concat(kinds[1:evCrash-1], noKinds) {
			for _, values := range m.Past[:len(m.Past)-1] {
				wantNoStep(t, m, eventOf(kind), true, values)
				wantNoStep(t, m, eventOf(kind), false, values)
			}
		}
	}
}

// Promise 166: a past with so many elements: how many there are then, which ones, and in which order.
func TestModelDoKeepsThePast(t *testing.T) {
	for many := 1; many <= runMax+1; many++ {
		m := pastModel(many)
		first := 0
		if many == runMax+1 {
			first = 1
		}
		for _, e := range []impl.Event{writeOf(impl.Pair{Block: 3, Value: 1}), eventOf(evSync), eventOf(evTick), eventOf(evCrash), eventOf(0)} {
			done := e.Kind == evWrite || e.Kind == evTick
			after := behind(m, e, done)
			want := impl.Model{Now: after, Past: append(slices.Clone(m.Past[first:]), after)}
			got, ok := impl.ModelDo(m, e, done, after)
			wantModel(t, got, ok, want, true, "ModelDo(%v, %v, %v, %v)", m, e, done, after)
		}
	}
}

// Promise 166: the past never gets longer than RunMax+1, however many events there are, and has the last values.
func TestModelDoOfManyEvents(t *testing.T) {
	r := rand.New(rand.NewPCG(125, 126))
	m, _ := impl.ModelNew(make([]int, blocks))
	all := [][]int{m.Now}
	for range 4 * runMax {
		list := randomPairs(r)
		all = append(all, writtenTo(m.Now, list))
		m, _ = impl.ModelDo(m, writeOf(list...), true, all[len(all)-1])
		want := modelOf(all[max(0, len(all)-61):]...)
		wantModel(t, m, true, want, true, "ModelDo")
	}
	// A crash can lead to the last RunMax+1 values only.
	for i, values := range all {
		if _, ok := impl.ModelDo(m, eventOf(evCrash), true, values); ok != isPast(m, values) || ok && i < len(all)-61 && !isPast(modelOf(all[len(all)-61:]...), values) {
			t.Fatalf("a crash leads to the values %d of %d: %v", i, len(all), ok)
		}
	}
	m, ok := impl.ModelDo(m, eventOf(evSync), true, m.Now)
	wantModel(t, m, ok, modelOf(all[len(all)-1]), true, "ModelDo")
}

// wantRun requires what RunDo returns for each event of a run of a volume that was synced, that the values behind it are possible,
// and what RunPlay and RunCheck return. It returns how often a crash led to other values than those ahead of it, and how often
// each kind of event had each code.
func wantRun(t *testing.T, v impl.Volume, events []impl.Event) (int, map[string]int) {
	t.Helper()
	if !impl.RunCheck(v, events) {
		t.Fatalf("RunCheck(%v, %v) = false", v, events)
	}
	first := edited(v, func(c *impl.Volume) { c.Dev = synced(c.Dev) })
	m, back, seen := modelOf(valuesOn(v)), 0, map[string]int{}
	last := first
	for i, e := range events {
		after, code := wantDo(t, last, e)
		values := impl.VolumeAll(after)
		next, ok := wantStep(t, m, e, code == volDone, values)
		if !ok || !impl.VolumeValid(after) {
			t.Fatalf("after the events %v of %v, the values are %v; the model is %v", events[:i+1], v, values, m)
		}
		if seen[fmt.Sprint(e.Kind, " ", code)]++; e.Kind == evCrash && !slices.Equal(values, m.Now) {
			back++
		}
		last, m = after, next
	}
	got, ok := impl.RunPlay(first, events)
	wantPlayed(t, got, ok, last, true, "RunPlay(%v, %v)", first, events)
	return back, seen
}

// Promise 161: runs drawn at random, of all kinds of events, of volumes that were synced and that were not.
func TestRunCheckOfRandomRuns(t *testing.T) {
	r := rand.New(rand.NewPCG(127, 128))
	back, seen := 0, map[string]int{}
	for i, v := range append(fewRunVolumes(7), slices.Repeat(fewPlain(), 4)...) {
		many := runMax
		if i%3 == 0 {
			many = r.IntN(runMax)
		}
		events := randomRun(r, v, many)
		times, codes := wantRun(t, v, events)
		back += times
		for kind, n := range codes {
			seen[kind] += n
		}
		long := slices.Concat(events, slices.Repeat([]impl.Event{eventOf(evSync)}, runMax))
		if !impl.RunCheck(v, long[:runMax]) || impl.RunCheck(v, long[:runMax+1]) || len(long) > runMax+1 && impl.RunCheck(v, long) {
			t.Fatalf("RunCheck(%v, %v and more) is not as it must be", v, events)
		}
	}
	if back < 100 {
		t.Errorf("crashes led to earlier values %d times; want at least 100", back)
	}
	for _, kind := range []string{
		"1 0", "1 1", "1 3", "2 0", "3 0", "3 1", "3 2", "3 3", "4 0", "4 1", "4 2", "4 3", "5 0", "5 1", "5 2", "5 3",
		"6 0", "6 2", "7 0", "7 2", "8 0", "8 2", "9 0", "9 2", "10 0", "10 3", "0 3",
	} {
		if seen[kind] < 5 {
			t.Errorf("the kind and the code %s were seen %d times of %v; want at least 5", kind, seen[kind], seen)
		}
	}
}

// doneEvents returns an event of each kind but evCrash that is done to a volume, as far as there is one.
func doneEvents(r *rand.Rand, v impl.Volume) []impl.Event {
	var list []impl.Event
	for _, e := range eventsFor(r, v) {
		same := func(other impl.Event) bool { return other.Kind == e.Kind }
		if _, code := impl.RunDo(v, e); code == volDone && e.Kind != evCrash && !slices.ContainsFunc(list, same) {
			list = append(list, e)
		}
	}
	return list
}

// Promise 161: a crash behind one event of each kind, alone and behind a write, with each number of words kept of those that do not
// last. Then, one more crash, a write, and a crash ahead of and behind the last sync.
func TestRunCheckOfCrashesBehindEachEvent(t *testing.T) {
	r := rand.New(rand.NewPCG(129, 130))
	crashes, back := map[int]int{}, map[int]int{}
	for _, v := range append(fewRunVolumes(90), fewPlain()...) {
		first, _ := impl.VolumeSync(v)
		write := writeOf(randomPairs(r)...)
		for _, ahead := range [][]impl.Event{nil, {write}} {
			begun, _ := impl.RunPlay(first, ahead)
			for _, e := range doneEvents(r, begun) {
				last, _ := impl.RunDo(begun, e)
				for many := range unsynced(last.Dev[last.Zone]) + 2 {
					crash := eventOf(evCrash, withNumber([]int{r.IntN(9), r.IntN(9), r.IntN(9), r.IntN(9)}, last.Zone, many)...)
					events := append(slices.Clone(ahead), e, crash, crash, writeOf(randomPairs(r)...), crash, eventOf(evSync), crash, crash)
					times, _ := wantRun(t, v, events)
					crashes[e.Kind]++
					back[e.Kind] += times
				}
			}
		}
	}
	for _, kind := range kinds[:evCrash-1] {
		if crashes[kind] < 30 || back[kind] < 20 {
			t.Errorf("there were %d crashes behind events of the kind %d, and %d led to earlier values; want at least 30 and 20", crashes[kind], kind, back[kind])
		}
	}
}

// Promise 161: known values. The block 0 is written again and again, each time with a frame of six words; all frames last behind the
// third and the sixth one. A crash at each place, with each number of words kept, and another one.
func TestCrashesBetweenTwoSyncs(t *testing.T) {
	var events []impl.Event
	for value := 1; value <= 9; value++ {
		events = append(events, writeOf(impl.Pair{Block: 0, Value: value}))
		if value == 3 || value == 6 {
			events = append(events, eventOf(evSync))
		}
	}
	for at := range len(events) + 1 {
		last, now := 0, 0
		for _, e := range events[:at] {
			if e.Kind == evSync {
				last = now
			} else {
				now = e.Pairs[0].Value
			}
		}
		for z := range zones {
			for many := range 26 {
				want := last
				if z == 0 {
					want = min(now, last+many/6)
				}
				mixed := slices.Insert(slices.Clone(events), at, eventOf(evCrash, keeping(z, many)...))
				for _, more := range []int{0, 3} {
					mixed := slices.Insert(slices.Clone(mixed), min(at+1+more, len(mixed)), eventOf(evCrash, make([]int, zones)...))
					got, ok := impl.RunPlay(blankVolume(), mixed[:at+1])
					if values := impl.VolumeAll(got); !ok || !slices.Equal(values, keepingValue(want)) {
						t.Fatalf("a crash behind %d events with %d words of the zone %d leads to %v; want %d", at, many, z, values, want)
					}
					if !impl.RunCheck(blankVolume(), mixed) {
						t.Fatalf("RunCheck(%v) = false", mixed)
					}
				}
			}
		}
	}
}

// keepingValue returns values of which only the block 0 has one.
func keepingValue(value int) []int {
	return withNumber(make([]int, blocks), 0, value)
}

// Promise 161: a run begins with all words made to last, so that a crash ahead of all else leads to no earlier values.
func TestRunCheckBeginsWithASync(t *testing.T) {
	less := 0
	for _, v := range runVolumes() {
		crash := eventOf(evCrash, make([]int, zones)...)
		if got, _ := impl.RunDo(v, crash); !slices.Equal(impl.VolumeAll(got), impl.VolumeAll(v)) {
			less++
		}
		for _, events := range [][]impl.Event{{crash}, {crash, crash, eventOf(evTick), crash}, {eventOf(evCopy), crash}} {
			if !impl.RunCheck(v, events) {
				t.Fatalf("RunCheck(%v, %v) = false", v, events)
			}
		}
	}
	if less < 100 {
		t.Errorf("%d volumes would lose values; want at least 100", less)
	}
}

// Promise 161: many events of a few kinds with no crash and no sync among them; then, a crash with each number of words kept.
func TestRunCheckOfCrashesBehindManyEvents(t *testing.T) {
	r := rand.New(rand.NewPCG(131, 132))
	back := 0
	for i, v := range append(fewRunVolumes(40), fewPlain()...) {
		only := [][]int{{evDemote, evPromote}, {evPack, evSweep}, {evCopy, evCollect}, {evTick}, {evDemote, evTick}, {evPromote, evCollect}}[i%6]
		v, _ := impl.VolumeSync(v)
		last, events := v, []impl.Event(nil)
		for len(events) < 12+i%20 {
			e := randomEvent(r, last)
			if e.Kind == evWrite || slices.Contains(only, e.Kind) {
				events = append(events, e)
				last, _ = impl.RunDo(last, e)
			}
		}
		for many := range unsynced(last.Dev[last.Zone]) + 2 {
			crash := eventOf(evCrash, keeping(last.Zone, many)...)
			if all := append(slices.Clone(events), crash, eventOf(evTick), crash); many%5 == 0 {
				times, _ := wantRun(t, v, all)
				back += times
			} else if !impl.RunCheck(v, all) {
				t.Fatalf("RunCheck(%v, %v) = false", v, all)
			}
		}
	}
	if back < 50 {
		t.Errorf("crashes led to earlier values %d times; want at least 50", back)
	}
}

// Promise 161: many crashes, one behind each event.
func TestRunCheckOfManyCrashes(t *testing.T) {
	r := rand.New(rand.NewPCG(133, 134))
	back := 0
	for _, v := range append(fewRunVolumes(40), fewPlain()...) {
		var events []impl.Event
		last, _ := impl.VolumeSync(v)
		for len(events) < runMax {
			e := randomEvent(r, last)
			last, _ = impl.RunDo(last, e)
			crash := eventOf(evCrash, keeping(last.Zone, r.IntN(unsynced(last.Dev[last.Zone])+1))...)
			last, _ = impl.RunDo(last, crash)
			events = append(events, e, crash)
		}
		times, _ := wantRun(t, v, events)
		back += times
	}
	if back < 200 {
		t.Errorf("crashes led to earlier values %d times; want at least 200", back)
	}
}

// Promise 161: with RunMax events RunCheck holds, and with one more it does not, whatever events these are.
func TestRunCheckOfTooManyEvents(t *testing.T) {
	for _, v := range fewPlain() {
		for _, e := range []impl.Event{{}, eventOf(11), writeOf(), writeOf(pairsFrom(3, 1, 0)...), eventOf(evSync), eventOf(evTick), eventOf(evCrash, make([]int, zones)...), eventOf(evCrash)} {
			for _, many := range []int{0, 1, runMax - 1, runMax, runMax + 1, runMax + 2, 500} {
				if got := impl.RunCheck(v, slices.Repeat([]impl.Event{e}, many)); got != (many <= 60) {
					t.Fatalf("RunCheck(%v, %d times %v) = %v", v, many, e, got)
				}
			}
		}
	}
}

// played returns what RunPlay returns, with a code.
func played(v impl.Volume, events []impl.Event) (impl.Volume, int) {
	got, ok := impl.RunPlay(v, events)
	if !ok {
		return got, volInvalid
	}
	return got, volDone
}

// runCalls returns the functions that take a volume, called with a volume and values. What RunCheck returns is put into a code.
func runCalls() map[string]func(impl.Volume, []impl.Pair) (impl.Volume, int) {
	calls := map[string]func(impl.Volume, []impl.Pair) (impl.Volume, int){
		"RunPlay of no event": func(v impl.Volume, _ []impl.Pair) (impl.Volume, int) { return played(v, nil) },
		"RunPlay": func(v impl.Volume, list []impl.Pair) (impl.Volume, int) {
			return played(v, []impl.Event{writeOf(list...), eventOf(evDemote, 3, 5), writeOf(list...), eventOf(evTick), eventOf(0), eventOf(evCrash, 1, 9, 3, 4), writeOf(list...)})
		},
		"RunPlay of too many": func(v impl.Volume, list []impl.Pair) (impl.Volume, int) {
			return played(v, slices.Repeat([]impl.Event{writeOf(list...)}, runMax+1))
		},
		"RunCheck": func(v impl.Volume, list []impl.Pair) (impl.Volume, int) {
			if impl.RunCheck(v, []impl.Event{writeOf(list...), eventOf(evDemote, 3, 5), eventOf(evCrash, 1, 9, 3, 4), writeOf(list...)}) {
				return impl.Volume{}, 1
			}
			return impl.Volume{}, 0
		},
	}
	for _, kind := range append(slices.Clone(kinds), 0) {
		for _, some := range [][]int{{0, 3, 5}, {1, 2, 11}, {1, 9, 3, 4}} {
			calls[fmt.Sprintf("RunDo of the kind %d and %v", kind, some)] = func(v impl.Volume, list []impl.Pair) (impl.Volume, int) {
				return impl.RunDo(v, impl.Event{Kind: kind, Pairs: list, List: some})
			}
		}
	}
	return calls
}

// General rules: arguments, valid or not, are not changed, and results share no memory, also if a volume is returned unchanged.
func TestRunsKeepArgumentsAndShareNoMemory(t *testing.T) {
	volumes := append(fewRunVolumes(100), fewPlain()...)
	for i, v := range fewBroken() {
		if i%5 == 0 {
			volumes = append(volumes, v)
		}
	}
	for name, call := range runCalls() {
		for _, v := range volumes {
			for _, list := range [][]impl.Pair{pairsFrom(4, 1, 0), pairsFrom(0, pairMax, 9), make([]impl.Pair, 2)} {
				checkVolumeMemory(t, name, call, v, list)
			}
		}
	}
}

// General rules: the List of an event is not changed and not kept.
func TestRunDoKeepsItsNumbers(t *testing.T) {
	for _, kind := range append(slices.Clone(kinds), 0) {
		for _, list := range [][]int{nil, {0, 3, 5}, {1, 2, 11}, {1, 9, 3, 4}, {5, -1, 5, 5}, {3, 2}} {
			for _, v := range fewPlain() {
				checkNumbers(t, fmt.Sprintf("RunDo of the kind %d", kind), func(v impl.Volume, list []int) (impl.Volume, int) {
					return impl.RunDo(v, eventOf(kind, list...))
				}, v, list)
			}
		}
	}
}

// copiedEvents returns events in memory of their own.
func copiedEvents(events []impl.Event) []impl.Event {
	var list []impl.Event
	for _, e := range events {
		list = append(list, impl.Event{Kind: e.Kind, Pairs: slices.Clone(e.Pairs), List: slices.Clone(e.List)})
	}
	return list
}

// sameEvents reports whether events are equal.
func sameEvents(a, b []impl.Event) bool {
	return slices.EqualFunc(a, b, func(x, y impl.Event) bool {
		return x.Kind == y.Kind && slices.Equal(x.Pairs, y.Pairs) && slices.Equal(x.List, y.List)
	})
}

// General rules: the events of a run are not changed and not kept, also if they share memory.
func TestRunsKeepTheirEvents(t *testing.T) {
	r := rand.New(rand.NewPCG(135, 136))
	for _, v := range fewPlain() {
		events := randomRun(r, v, 30)
		memory := append(copiedEvents(events), eventOf(77, 7, 7, 7))
		kept := copiedEvents(memory)
		got, _ := impl.RunPlay(v, memory[:30])
		want := copiedVolume(got)
		if !impl.RunCheck(v, memory[:30]) || !sameEvents(memory, kept) {
			t.Fatalf("the events of a run of %v were changed: they are %v; want %v", v, memory, kept)
		}
		for _, e := range memory {
			fill(e.List)
			for i := range e.Pairs {
				e.Pairs[i] = impl.Pair{Block: 77, Value: 77}
			}
		}
		wantVolume(t, got, 0, want, 0, "RunPlay(%v, %v)", v, events)
	}
	// The numbers of events are those of the volume: words, heat, and values of objects.
	v := halfVolume()
	shared := []impl.Event{{Kind: evDemote, List: v.Heat[:3]}, {Kind: evPack, List: v.Dev[2].Words[3:5]}, {Kind: evCrash, List: v.Store[0].Values[:4]}, {Kind: evPromote, List: v.Dev[2].Words[9:10]}}
	events := copiedEvents(shared)
	want, _ := afterEvents(halfVolume(), events)
	got, ok := impl.RunPlay(v, shared)
	wantPlayed(t, got, ok, want, true, "RunPlay(%v, %v)", halfVolume(), events)
	if !sameVolume(v, halfVolume()) || !sameEvents(shared, events) {
		t.Fatalf("RunPlay left %v and %v", v, shared)
	}
	checkVolumeApart(t, "RunPlay", got)
}

// General rules: the parts of a volume may share memory in the argument, and do not in the result.
func TestRunsOfPartsThatShareMemory(t *testing.T) {
	for name, call := range runCalls() {
		for _, apart := range fewPlain() {
			checkSharing(t, name, call, apart, pairsFrom(3, 2, 8))
		}
	}
}

// spaciousModel returns a copy of a model all of whose slices have spare capacity.
func spaciousModel(m impl.Model) impl.Model {
	c := impl.Model{Now: append(slices.Clone(m.Now), 88, 89)[:len(m.Now)]}
	for _, values := range m.Past {
		c.Past = append(c.Past, append(slices.Clone(values), 88, 89)[:len(values)])
	}
	c.Past = append(c.Past, []int{88}, []int{89})[:len(c.Past)]
	return c
}

// modelMemory returns a copy of a model and of the spare capacity of all of its slices.
func modelMemory(m impl.Model) impl.Model {
	c := impl.Model{Now: slices.Clone(m.Now[:cap(m.Now)])}
	for _, values := range m.Past[:cap(m.Past)] {
		c.Past = append(c.Past, slices.Clone(values[:cap(values)]))
	}
	return c
}

// scribbleModel writes over all memory of a model.
func scribbleModel(m impl.Model) {
	fill(m.Now)
	past := m.Past[:cap(m.Past)]
	for i := range past {
		fill(past[i])
		past[i] = nil
	}
}

// checkModelApart requires that no two parts of a model share memory.
func checkModelApart(t *testing.T, name string, m impl.Model) {
	t.Helper()
	lists := append([][]int{m.Now}, m.Past...)
	for i := range lists {
		want := slices.Clone(lists)
		for j, list := range want {
			want[j] = slices.Clone(list)
		}
		want[i] = slices.Repeat([]int{77}, len(lists[i]))
		fill(lists[i])
		if !slices.EqualFunc(lists, want, slices.Equal) {
			t.Fatalf("%s: two parts of a model share memory: after a change of one, they are %v; want %v", name, lists, want)
		}
	}
}

// checkModelMemory requires that a call with a model and values does not change these, and that its results share no memory with
// these, with those of another call, or with each other.
func checkModelMemory(t *testing.T, name string, call func(impl.Model, []int) (impl.Model, bool), m impl.Model, values []int) {
	t.Helper()
	model, memory := spaciousModel(m), append(slices.Clone(values), 88, 89)
	keptModel, keptValues := modelMemory(model), slices.Clone(memory)
	first, ok := call(model, memory[:len(values)])
	second, _ := call(model, memory[:len(values)])
	kept := copiedModel(first)
	checkModelApart(t, name, second)
	scribbleModel(second)
	if !sameModel(modelMemory(model), keptModel) || !slices.Equal(memory, keptValues) || !sameModel(first, kept) {
		t.Fatalf("%s, for %v and %v: an argument was changed, or results share memory", name, m, values)
	}
	scribbleModel(model)
	fill(memory)
	if !sameModel(first, kept) {
		t.Fatalf("%s, for %v and %v: a result shares memory with an argument", name, m, values)
	}
	if third, again := call(copiedModel(m), slices.Clone(values)); again != ok || !sameModel(third, kept) {
		t.Fatalf("%s, for %v and %v: a later call returned %v, %v; want %v, %v", name, m, values, third, again, kept, ok)
	}
}

// General rules: the elements of Past, and Now, share no memory, with each other and with the arguments.
func TestModelsKeepArgumentsAndShareNoMemory(t *testing.T) {
	newModel := func(_ impl.Model, values []int) (impl.Model, bool) { return impl.ModelNew(values) }
	some := append(someModels(), impl.Model{}, impl.Model{Now: nthValues(0), Past: [][]int{nthValues(1)}}, pastModel(runMax+2))
	for _, m := range some {
		for _, values := range [][]int{m.Now, nthValues(3), nthValues(99), nil, nthValues(4)[1:]} {
			checkModelMemory(t, "ModelNew", newModel, m, values)
			for _, e := range stepEvents()[:2*len(kinds)+2] {
				for _, done := range []bool{false, true} {
					step := func(m impl.Model, values []int) (impl.Model, bool) { return impl.ModelDo(m, e, done, values) }
					checkModelMemory(t, fmt.Sprintf("ModelDo of %v, %v", e, done), step, m, values)
					if areModelValues(m.Now) {
						checkModelMemory(t, fmt.Sprintf("ModelDo of %v, %v", e, done), step, m, behind(m, e, done))
					}
				}
			}
		}
	}
}

// General rules: the parts of a model may share memory in the arguments, and do not in the result. The event is not changed.
func TestModelsThatShareMemoryInTheArguments(t *testing.T) {
	for _, kind := range kinds {
		for _, done := range []bool{false, true} {
			for _, many := range []int{1, 2, runMax, runMax + 1} {
				values := nthValues(5)
				m := impl.Model{Now: values, Past: slices.Repeat([][]int{values}, many)}
				e := impl.Event{Kind: kind, Pairs: []impl.Pair{{Block: 2, Value: values[2]}, {Block: 7, Value: values[7]}}, List: values[:4]}
				kept, keptEvent := copiedModel(m), copiedEvents([]impl.Event{e})
				want, wantOk := afterStepOf(kept, keptEvent[0], done, nthValues(5))
				got, ok := impl.ModelDo(m, e, done, values)
				wantModel(t, got, ok, want, wantOk, "ModelDo of %v, %v", e, done)
				checkModelApart(t, "ModelDo", got)
				if !ok || !sameModel(m, kept) || !sameEvents([]impl.Event{e}, keptEvent) {
					t.Fatalf("ModelDo of %v, %v left %v", e, done, m)
				}
			}
		}
	}
}

// General rules: nil and empty slices are equivalent, as arguments.
func TestRunsWithNilAndEmptySlices(t *testing.T) {
	empty := impl.Volume{Dev: []impl.Zone{}, Store: []impl.Object{}, Map: []impl.Where{}, Heat: []int{}}
	for _, kind := range slices.Concat(kinds, noKinds) {
		bare, with := impl.Event{Kind: kind}, impl.Event{Kind: kind, Pairs: []impl.Pair{}, List: []int{}}
		for _, v := range fewPlain() {
			want, wantCode := impl.RunDo(v, bare)
			got, code := impl.RunDo(v, with)
			wantVolume(t, got, code, want, wantCode, "RunDo(%v, %v)", v, with)
		}
		got, code := impl.RunDo(empty, with)
		wantVolume(t, got, code, impl.Volume{}, volInvalid, "RunDo of an empty volume")
		m := pastModel(3)
		wantStep(t, m, with, true, m.Now)
		wantNoStep(t, m, with, true, []int{})
		wantNoStep(t, impl.Model{Now: []int{}, Past: [][]int{}}, with, true, nthValues(0))
		wantNoStep(t, impl.Model{Now: []int{}, Past: [][]int{{}}}, with, true, []int{})
	}
	for _, events := range [][]impl.Event{nil, {}} {
		got, ok := impl.RunPlay(knownVolume(), events)
		wantPlayed(t, got, ok, knownVolume(), true, "RunPlay of no event")
		got, ok = impl.RunPlay(empty, events)
		wantPlayed(t, got, ok, impl.Volume{}, false, "RunPlay of an empty volume")
		if !impl.RunCheck(knownVolume(), events) || impl.RunCheck(empty, events) {
			t.Fatalf("RunCheck of no event is not as it must be")
		}
	}
}

// What a call returns does not depend on others at the same time, even for the same argument.
func TestRunsAtTheSameTime(t *testing.T) {
	r := rand.New(rand.NewPCG(137, 138))
	for _, v := range fewPlain() {
		events := randomRun(r, v, 20)
		want, _ := afterEvents(v, events)
		last := events[len(events)-1]
		done, doneCode := afterEvent(v, last)
		m := pastModel(runMax + 1)
		next, _ := afterStepOf(m, eventOf(evTick), true, m.Now)
		var calls sync.WaitGroup
		for range 8 {
			calls.Go(func() {
				for range 10 {
					if got, ok := impl.RunPlay(v, events); !ok || !sameVolume(got, want) {
						t.Errorf("RunPlay(%v, %v) = %v, %v; want %v", v, events, got, ok, want)
					}
					if got, code := impl.RunDo(v, last); code != doneCode || !sameVolume(got, done) {
						t.Errorf("RunDo(%v, %v) = %v, %d; want %v, %d", v, last, got, code, done, doneCode)
					}
					if got, ok := impl.ModelDo(m, eventOf(evTick), true, m.Now); !ok || !sameModel(got, next) {
						t.Errorf("ModelDo(%v) = %v, %v; want %v", m, got, ok, next)
					}
					if !impl.RunCheck(v, events) {
						t.Errorf("RunCheck(%v, %v) = false", v, events)
					}
				}
			})
		}
		calls.Wait()
	}
}

package tests

import (
	"math"
	"math/rand/v2"
	"slices"
	"testing"

	"loop.example/tiervolume/impl"
)

// As in the tests of frames, the numbers of the document are written out.
const (
	heatMax   = 100
	heatTouch = 10
)

// badHeats are numbers that no block has as its heat.
var badHeats = []int{
	math.MinInt, math.MinInt + 1, -1 << 32, -heatMax, -heatTouch, -2, -1, heatMax + 1, heatMax + 2, heatMax + heatTouch, wordMax, 1 << 32,
	math.MaxInt - 1, math.MaxInt,
}

// withNumber returns a list in which one number is another one.
func withNumber(list []int, at int, n int) []int {
	c := slices.Clone(list)
	c[at] = n
	return c
}

// backward returns a list from its end to its beginning.
func backward(list []int) []int {
	c := slices.Clone(list)
	slices.Reverse(c)
	return c
}

// allEqual returns heat that is equal for all blocks.
func allEqual(heat int) []int {
	return slices.Repeat([]int{heat}, blocks)
}

// randomHeat returns any heat less than a limit.
func randomHeat(r *rand.Rand, limit int) []int {
	h := make([]int, blocks)
	for block := range h {
		h[block] = r.IntN(limit)
	}
	return h
}

// validHeats returns heat that is equal, ascends and descends, that is different for one block, and random one in which few or
// many blocks are equal.
func validHeats() [][]int {
	list := [][]int{counting(blocks, 0), counting(blocks, heatMax-blocks+1), {7, 0, 100, 50, 0, 99, 1, 100, 50, 89, 90, 91}}
	for _, heat := range []int{0, 1, 2, 3, 50, heatMax - heatTouch - 1, heatMax - heatTouch, heatMax - heatTouch + 1, heatMax - 1, heatMax} {
		list = append(list, allEqual(heat))
		for block := range blocks {
			list = append(list, withNumber(allEqual(0), block, heat), withNumber(allEqual(heatMax), block, heat))
		}
	}
	r := rand.New(rand.NewPCG(43, 44))
	for _, limit := range []int{2, 3, 5, 12, heatMax + 1} {
		for range 12 {
			h := randomHeat(r, limit)
			list = append(list, h, slices.Sorted(slices.Values(h)), backward(slices.Sorted(slices.Values(h))))
		}
	}
	return list
}

// invalidHeats returns heat of which just one rule does not hold.
func invalidHeats() [][]int {
	list := [][]int{nil, {}}
	for _, n := range []int{1, 2, blocks - 2, blocks - 1, blocks + 1, blocks + 2, 2 * blocks, 5000} {
		list = append(list, make([]int, n), slices.Repeat([]int{heatMax}, n), slices.Repeat([]int{7}, n))
	}
	for _, bad := range badHeats {
		list = append(list, allEqual(bad))
		for block := range blocks {
			list = append(list, withNumber(allEqual(0), block, bad), withNumber(counting(blocks, 40), block, bad))
		}
	}
	return list
}

// manyNumbers returns how many blocks may be wanted of so many: fewer, as many, and more.
func manyNumbers(n int) []int {
	list := []int{math.MinInt, math.MinInt + 1, -1 << 32, -blocks, -n, -1, n - 1, n, n + 1, 2 * n, blocks + 1, 1 << 32, math.MaxInt - 1, math.MaxInt}
	list = append(list, counting(blocks+1, 0)...)
	slices.Sort(list)
	return slices.Compact(list)
}

// ahead returns how many blocks of a list are colder than a block, or as cold with a smaller number, apart from the program.
func ahead(h []int, list []int, block int) int {
	n := 0
	for _, other := range list {
		if h[other] < h[block] || h[other] == h[block] && other < block {
			n++
		}
	}
	return n
}

// coldest returns what HeatColdest returns of valid heat and ascending blocks, apart from the program.
func coldest(h []int, list []int, many int) []int {
	return slices.DeleteFunc(slices.Clone(list), func(block int) bool { return ahead(h, list, block) >= many })
}

// wantUse requires what HeatUse returns of valid heat and a block.
func wantUse(t *testing.T, h []int, block int) {
	t.Helper()
	want := slices.Clone(h)
	want[block] += heatTouch
	if want[block] > heatMax {
		want[block] = heatMax
	}
	if got, ok := impl.HeatUse(h, block); !ok || !slices.Equal(got, want) {
		t.Fatalf("HeatUse(%v, %d) = %v, %v; want %v, true", h, block, got, ok, want)
	}
}

// wantNoUse requires that HeatUse fails, and returns no heat.
func wantNoUse(t *testing.T, h []int, block int) {
	t.Helper()
	if got, ok := impl.HeatUse(h, block); ok || len(got) != 0 {
		t.Fatalf("HeatUse(%v, %d) = %v, %v; want nothing, false", h, block, got, ok)
	}
}

// wantDecay requires what HeatDecay returns. It is empty for invalid heat.
func wantDecay(t *testing.T, h []int, want []int) {
	t.Helper()
	wantList(t, impl.HeatDecay(h), want, "HeatDecay(%v)", h)
}

// wantColdest requires the blocks that HeatColdest returns.
func wantColdest(t *testing.T, h []int, list []int, many int, want []int) {
	t.Helper()
	wantList(t, impl.HeatColdest(h, list, many), want, "HeatColdest(%v, %v, %d)", h, list, many)
}

func TestHeatConstants(t *testing.T) {
	if impl.HeatMax != 100 || impl.HeatTouch != 10 {
		t.Errorf("the constants are %d and %d; want 100 and 10", impl.HeatMax, impl.HeatTouch)
	}
}

func TestHeatValid(t *testing.T) {
	for _, h := range validHeats() {
		if !impl.HeatValid(h) {
			t.Fatalf("HeatValid(%v) = false", h)
		}
	}
	for _, h := range invalidHeats() {
		if impl.HeatValid(h) {
			t.Fatalf("HeatValid(%v) = true", h)
		}
	}
}

// Each number counts, the first and the last one included.
func TestHeatValidLooksAtEachNumber(t *testing.T) {
	for heat := -2 * heatMax; heat <= 3*heatMax; heat++ {
		for block := range blocks {
			for _, h := range [][]int{withNumber(allEqual(0), block, heat), withNumber(allEqual(heatMax), block, heat)} {
				if got := impl.HeatValid(h); got != (heat >= 0 && heat <= heatMax) {
					t.Fatalf("HeatValid(%v) = %v", h, got)
				}
			}
		}
	}
}

// Only as many numbers as there are blocks are heat, whatever they are.
func TestHeatOfOtherLengths(t *testing.T) {
	for n := range 3 * blocks {
		for _, heat := range []int{0, 1, heatMax} {
			h := slices.Repeat([]int{heat}, n)
			if got := impl.HeatValid(h); got != (n == blocks) {
				t.Fatalf("HeatValid = %v, for %d numbers", got, n)
			}
			if n != blocks {
				wantNoUse(t, h, 0)
				wantDecay(t, h, nil)
				wantColdest(t, h, []int{0}, 1, nil)
			}
		}
	}
}

func TestKnownHeat(t *testing.T) {
	h := []int{0, 5, 89, 90, 91, 99, 100, 1, 2, 3, 50, 51}
	for block, want := range []int{10, 15, 99, 100, 100, 100, 100, 11, 12, 13, 60, 61} {
		got, ok := impl.HeatUse(h, block)
		if !ok || !slices.Equal(got, withNumber(h, block, want)) {
			t.Errorf("HeatUse(%v, %d) = %v, %v; want %d for the block", h, block, got, ok, want)
		}
	}
	wantDecay(t, h, []int{0, 2, 44, 45, 45, 49, 50, 0, 1, 1, 25, 25})
}

// Promise 69: for all heat of each block, up to the largest one, and the ones of which it is reached.
func TestHeatUse(t *testing.T) {
	for _, h := range validHeats() {
		for block := range blocks {
			wantUse(t, h, block)
			if after, _ := impl.HeatUse(h, block); !impl.HeatValid(after) {
				t.Fatalf("HeatUse(%v, %d) = %v, which is not valid", h, block, after)
			}
		}
	}
	for heat := range heatMax + 1 {
		for block := range blocks {
			wantUse(t, withNumber(counting(blocks, 30), block, heat), block)
			wantUse(t, allEqual(heat), block)
		}
	}
}

// Promise 69: a block that is used again and again is as hot as a block can be, and stays so.
func TestHeatUseDoneAgain(t *testing.T) {
	for block := range blocks {
		for _, first := range []int{0, 1, 9, 50, 95} {
			h := withNumber(counting(blocks, 20), block, first)
			for n := 1; n <= 15; n++ {
				after, ok := impl.HeatUse(h, block)
				want := withNumber(h, block, min(first+n*heatTouch, heatMax))
				if !ok || !slices.Equal(after, want) {
					t.Fatalf("HeatUse(%v, %d) = %v, %v; want %v, true", h, block, after, ok, want)
				}
				h = after
			}
		}
	}
}

// Promise 70.
func TestHeatUseFails(t *testing.T) {
	for _, h := range validHeats() {
		for _, block := range badBlocks {
			wantNoUse(t, h, block)
		}
	}
	for _, h := range invalidHeats() {
		for block := range blocks {
			wantNoUse(t, h, block)
		}
		for _, block := range append([]int{len(h) - 1, len(h)}, badBlocks...) {
			wantNoUse(t, h, block)
		}
	}
}

// Promise 70: all numbers around those of blocks.
func TestHeatUseOfAllNumbers(t *testing.T) {
	for block := -2 * blocks; block <= 3*blocks; block++ {
		for _, h := range [][]int{allEqual(0), counting(blocks, 60), allEqual(heatMax)} {
			if block >= 0 && block < blocks {
				wantUse(t, h, block)
			} else {
				wantNoUse(t, h, block)
			}
		}
	}
}

// halved returns half of each number, rounded down, apart from the program.
func halved(h []int) []int {
	half := make([]int, len(h))
	for block, heat := range h {
		for 2*(half[block]+1) <= heat {
			half[block]++
		}
	}
	return half
}

// Promise 71: for all heat of each block, even and odd.
func TestHeatDecay(t *testing.T) {
	for _, h := range validHeats() {
		wantDecay(t, h, halved(h))
		if after := impl.HeatDecay(h); !impl.HeatValid(after) {
			t.Fatalf("HeatDecay(%v) = %v, which is not valid", h, after)
		}
	}
	for heat := range heatMax + 1 {
		for block := range blocks {
			h := withNumber(counting(blocks, 30), block, heat)
			wantDecay(t, h, halved(h))
		}
		wantDecay(t, allEqual(heat), allEqual(heat/2))
	}
}

// Promise 72. After six times, what was at least 64 is still 1.
func TestHeatDecaySevenTimes(t *testing.T) {
	lists := append(validHeats(), allEqual(63), allEqual(64), allEqual(65))
	for _, h := range lists {
		after, want := h, make([]int, blocks)
		for range 6 {
			after = impl.HeatDecay(after)
		}
		for block, heat := range h {
			if heat >= 64 {
				want[block] = 1
			}
		}
		wantList(t, after, want, "%v, after HeatDecay six times", h)
		wantList(t, impl.HeatDecay(after), make([]int, blocks), "%v, after HeatDecay seven times", h)
	}
}

// Promise 71: heat that is invalid has none.
func TestHeatDecayOfInvalidHeat(t *testing.T) {
	for _, h := range invalidHeats() {
		wantDecay(t, h, nil)
	}
}

// Promises 73 to 75: heat that is different, equal at the beginning, in the middle and at the end of the blocks, or for all.
func TestHeatColdestOfKnownHeat(t *testing.T) {
	for _, c := range []struct {
		h    []int
		list []int
		many int
		want []int
	}{
		{[]int{5, 3, 9, 1, 7, 0, 0, 0, 0, 0, 0, 0}, []int{0, 1, 2, 3, 4}, 1, []int{3}},
		{[]int{5, 3, 9, 1, 7, 0, 0, 0, 0, 0, 0, 0}, []int{0, 1, 2, 3, 4}, 2, []int{1, 3}},
		{[]int{5, 3, 9, 1, 7, 0, 0, 0, 0, 0, 0, 0}, []int{0, 1, 2, 3, 4}, 3, []int{0, 1, 3}},
		{[]int{5, 3, 9, 1, 7, 0, 0, 0, 0, 0, 0, 0}, []int{0, 1, 2, 3, 4}, 4, []int{0, 1, 3, 4}},
		{[]int{5, 3, 9, 1, 7, 0, 0, 0, 0, 0, 0, 0}, []int{0, 2, 4, 5}, 2, []int{0, 5}},
		{[]int{2, 2, 2, 8, 9, 7, 0, 0, 0, 0, 0, 0}, []int{0, 1, 2, 3, 4, 5}, 2, []int{0, 1}},
		{[]int{2, 2, 2, 1, 9, 7, 0, 0, 0, 0, 0, 0}, []int{0, 1, 2, 3, 4, 5}, 2, []int{0, 3}},
		{[]int{9, 4, 4, 4, 1, 0, 0, 0, 0, 0, 0, 0}, []int{0, 1, 2, 3, 4}, 3, []int{1, 2, 4}},
		{[]int{9, 8, 1, 6, 6, 6, 0, 0, 0, 0, 0, 0}, []int{0, 1, 2, 3, 4, 5}, 3, []int{2, 3, 4}},
		{[]int{0, 0, 0, 0, 0, 0, 0, 0, 5, 5, 5, 5}, []int{8, 9, 10, 11}, 3, []int{8, 9, 10}},
		{[]int{100, 99, 98, 97, 96, 95, 94, 93, 92, 91, 90, 89}, []int{0, 5, 11}, 2, []int{5, 11}},
		{[]int{0, 10, 20, 30, 40, 50, 60, 70, 80, 90, 95, 100}, []int{0, 5, 11}, 2, []int{0, 5}},
		{[]int{7, 7, 7, 7, 7, 7, 7, 7, 7, 7, 7, 7}, []int{1, 4, 6, 11}, 3, []int{1, 4, 6}},
		{[]int{7, 7, 7, 7, 7, 7, 7, 7, 7, 7, 7, 7}, []int{1, 4, 6, 11}, 9, []int{1, 4, 6, 11}},
		{[]int{0, 0, 0, 0, 0, 0, 0, 0, 0, 0, 0, 100}, []int{11}, 1, []int{11}},
		{[]int{7, 7, 7, 7, 7, 7, 7, 7, 7, 7, 7, 7}, []int{1, 4, 6, 11}, 0, nil},
		{[]int{7, 7, 7, 7, 7, 7, 7, 7, 7, 7, 7, 7}, []int{1, 4, 6, 11}, -1, nil},
		{[]int{7, 7, 7, 7, 7, 7, 7, 7, 7, 7, 7, 7}, nil, 5, nil},
	} {
		wantColdest(t, c.h, c.list, c.many, c.want)
	}
}

// Promises 73 to 75: all sets of blocks, with several heats, and each number that may be wanted.
func TestHeatColdest(t *testing.T) {
	heats := [][]int{allEqual(0), allEqual(heatMax), counting(blocks, 3), backward(counting(blocks, 3))}
	r := rand.New(rand.NewPCG(45, 46))
	for set := range blockSet(blockSets) {
		list := set.blocks()
		for _, h := range append(heats, randomHeat(r, 2), randomHeat(r, 4), randomHeat(r, heatMax+1)) {
			for many := -1; many <= len(list)+1; many++ {
				wantColdest(t, h, list, many, coldest(h, list, many))
			}
		}
	}
}

// someLists calls with all valid heats and with lists of blocks: none, one, some and all.
func someLists(call func(h []int, list []int)) {
	r := rand.New(rand.NewPCG(47, 48))
	for i, h := range validHeats() {
		call(h, nil)
		call(h, []int{i % blocks})
		call(h, counting(blocks, 0))
		for n := range blocks {
			call(h, someBlocks(r, n))
		}
	}
}

// Promise 73: as many blocks as are wanted, or all, in ascending order, and all of them are of the list.
func TestHeatColdestHasAsManyAsAreWanted(t *testing.T) {
	someLists(func(h []int, list []int) {
		for _, many := range manyNumbers(len(list)) {
			got := impl.HeatColdest(h, list, many)
			if len(got) != max(0, min(many, len(list))) {
				t.Fatalf("HeatColdest(%v, %v, %d) = %v", h, list, many, got)
			}
			last := -1
			for _, block := range got {
				if block <= last || !slices.Contains(list, block) {
					t.Fatalf("HeatColdest(%v, %v, %d) = %v", h, list, many, got)
				}
				last = block
			}
			wantColdest(t, h, list, many, coldest(h, list, many))
		}
	})
}

// Promise 74. Of equally cold blocks, those with the least numbers are not left out.
func TestHeatColdestLeavesOutNoColderBlock(t *testing.T) {
	someLists(func(h []int, list []int) {
		for many := 1; many <= len(list); many++ {
			got := impl.HeatColdest(h, list, many)
			for _, out := range list {
				if slices.Contains(got, out) {
					continue
				}
				for _, in := range got {
					if h[out] < h[in] || h[out] == h[in] && out < in {
						t.Fatalf("HeatColdest(%v, %v, %d) = %v, without %d", h, list, many, got, out)
					}
				}
			}
		}
	})
}

// Promise 75.
func TestHeatColdestOfOneBlockMore(t *testing.T) {
	someLists(func(h []int, list []int) {
		for many := -2; many <= len(list)+2; many++ {
			fewer, more := impl.HeatColdest(h, list, many), impl.HeatColdest(h, list, many+1)
			for _, block := range fewer {
				if !slices.Contains(more, block) {
					t.Fatalf("HeatColdest(%v, %v, %d) = %v; with one block more, it is %v", h, list, many, fewer, more)
				}
			}
			if many >= 0 && many < len(list) && len(more) != len(fewer)+1 {
				t.Fatalf("HeatColdest(%v, %v, %d) = %v; with one block more, it is %v", h, list, many, fewer, more)
			}
		}
	})
}

// Blocks with equal heat next to each other, at the beginning, in the middle and at the end of the list, of which only some are
// wanted: all other blocks are colder, or hotter.
func TestHeatColdestOfEquallyColdBlocks(t *testing.T) {
	list := counting(blocks, 0)
	for n := 2; n <= blocks; n++ {
		for first := range blocks - n + 1 {
			equal := counting(n, first)
			hotter, colder := counting(blocks, 60), counting(blocks, 10)
			for _, block := range equal {
				hotter[block], colder[block] = 40, 40
			}
			for many := 1; many <= n; many++ {
				wantColdest(t, hotter, list, many, equal[:many])
				wantColdest(t, hotter, equal, many, equal[:many])
				others := slices.Concat(list[:first], equal[:many], list[first+n:])
				wantColdest(t, colder, list, blocks-n+many, others)
			}
		}
	}
}

// Blocks with equal heat that are apart from each other, so that their order in the list is not that of their heat.
func TestHeatColdestOfEquallyColdBlocksThatAreApart(t *testing.T) {
	h := []int{30, 20, 10, 30, 20, 10, 30, 20, 10, 30, 20, 10}
	order := []int{2, 5, 8, 11, 1, 4, 7, 10, 0, 3, 6, 9}
	for many := 1; many <= blocks; many++ {
		want := slices.Clone(order[:many])
		slices.Sort(want)
		wantColdest(t, h, counting(blocks, 0), many, want)
	}
	for many, want := range [][]int{nil, {5}, {5, 8}, {4, 5, 8}, {4, 5, 7, 8}, {3, 4, 5, 7, 8}, {3, 4, 5, 6, 7, 8}} {
		wantColdest(t, h, counting(6, 3), many, want)
	}
}

// Heat that ascends with the blocks, and heat that descends.
func TestHeatColdestOfAscendingAndDescendingHeat(t *testing.T) {
	r := rand.New(rand.NewPCG(49, 50))
	for n := range blocks + 1 {
		for range 20 {
			list := someBlocks(r, n)
			for many := 1; many <= n; many++ {
				wantColdest(t, counting(blocks, 0), list, many, list[:many])
				wantColdest(t, counting(blocks, heatMax-blocks+1), list, many, list[:many])
				wantColdest(t, backward(counting(blocks, 0)), list, many, list[n-many:])
				wantColdest(t, backward(counting(blocks, heatMax-blocks+1)), list, many, list[n-many:])
			}
		}
	}
}

// The heat of blocks that are not in the list does not matter: colder ones do not get into it, and take no place of others.
func TestHeatColdestOfBlocksThatAreNotInTheList(t *testing.T) {
	r := rand.New(rand.NewPCG(51, 52))
	for range 300 {
		list := someBlocks(r, 1+r.IntN(blocks-1))
		h := randomHeat(r, 4)
		for block := range h {
			h[block] += 40
		}
		for _, other := range []int{0, 40, heatMax} {
			changed := allEqual(other)
			for _, block := range list {
				changed[block] = h[block]
			}
			for many := range len(list) + 2 {
				wantColdest(t, changed, list, many, coldest(h, list, many))
			}
		}
	}
}

// Promise 73: blocks that do not ascend, that are there twice, or that are not blocks, however many are wanted.
func TestHeatColdestOfInvalidLists(t *testing.T) {
	for _, list := range invalidBlocks() {
		for _, h := range [][]int{allEqual(0), counting(blocks, 0), backward(counting(blocks, 0)), allEqual(heatMax)} {
			for _, many := range []int{math.MinInt, -1, 0, 1, 2, len(list) - 1, len(list), len(list) + 1, math.MaxInt} {
				wantColdest(t, h, list, many, nil)
			}
		}
	}
}

// Each number of a list counts, also if few blocks are wanted and all others are colder.
func TestHeatColdestLooksAtEachBlock(t *testing.T) {
	h := counting(blocks, 5)
	for a := -2; a <= blocks+1; a++ {
		for b := -2; b <= blocks+1; b++ {
			for many := 1; many <= 3; many++ {
				list := []int{a, b}
				if a >= 0 && a < b && b < blocks {
					wantColdest(t, h, list, many, list[:min(many, 2)])
				} else {
					wantColdest(t, h, list, many, nil)
				}
			}
		}
		if a < 0 || a >= blocks {
			wantColdest(t, h, []int{a}, 1, nil)
		} else {
			wantColdest(t, h, []int{a}, 1, []int{a})
		}
	}
}

// Promise 73: invalid heat has no blocks, also if the heat of the blocks of the list is in range.
func TestHeatColdestOfInvalidHeat(t *testing.T) {
	for _, h := range invalidHeats() {
		for _, list := range [][]int{nil, {0}, {blocks - 1}, {2, 5}, counting(6, 0), counting(6, 6), counting(blocks, 0), {-1}, {4, 3}, {blocks}} {
			for _, many := range []int{math.MinInt, -1, 0, 1, 3, blocks, math.MaxInt} {
				wantColdest(t, h, list, many, nil)
			}
		}
	}
}

// Promises 69 to 74: whatever is done one after the other, each heat is valid, and no earlier one changes.
func TestManyUsesOneAfterTheOther(t *testing.T) {
	r := rand.New(rand.NewPCG(53, 54))
	for range 200 {
		h := make([]int, blocks)
		for range 80 {
			before, list, many := slices.Clone(h), someBlocks(r, r.IntN(blocks+1)), r.IntN(blocks+2)
			wantColdest(t, h, list, many, coldest(h, list, many))
			var after []int
			if r.IntN(8) == 0 {
				wantDecay(t, h, halved(h))
				after = impl.HeatDecay(h)
			} else {
				block := r.IntN(blocks)
				wantUse(t, h, block)
				after, _ = impl.HeatUse(h, block)
			}
			if !impl.HeatValid(after) || !slices.Equal(h, before) {
				t.Fatalf("of %v arose %v; it is %v now", before, after, h)
			}
			h = after
		}
	}
}

// checkHeatMemory requires that no function changes heat, valid or not, or shares memory with it.
func checkHeatMemory(t *testing.T, h []int) {
	t.Helper()
	checkMemory(t, func(h []int) ([]bool, bool) { return nil, impl.HeatValid(h) }, h, 44, true)
	checkMemory(t, func(h []int) ([]int, bool) { return impl.HeatDecay(h), true }, h, 44, 77)
	for block := -1; block <= blocks; block++ {
		checkMemory(t, func(h []int) ([]int, bool) { return impl.HeatUse(h, block) }, h, 44, 77)
	}
}

// checkColdestMemory requires that HeatColdest changes neither heat nor blocks, valid or not, or shares memory with them.
func checkColdestMemory(t *testing.T, h []int, list []int, many int) {
	t.Helper()
	checkMemory(t, func(h []int) ([]int, bool) { return impl.HeatColdest(h, list, many), true }, h, 44, 77)
	checkMemory(t, func(list []int) ([]int, bool) { return impl.HeatColdest(h, list, many), true }, list, 4, 77)
}

// General rules: no argument is changed, and no result shares memory, also if it is the same as an argument.
func TestHeatKeepsArgumentsAndSharesNoMemory(t *testing.T) {
	for _, h := range slices.Concat(validHeats(), invalidHeats()) {
		checkHeatMemory(t, h)
		for _, many := range []int{-1, 0, 1, 4, 5, 6, math.MaxInt} {
			for _, list := range [][]int{nil, {3}, {0, 2, 4, 7, 11}, counting(blocks, 0), {5, 3}, {4, 4}, {-1, 2}, {2, blocks}} {
				checkColdestMemory(t, h, list, many)
			}
		}
	}
	for _, list := range invalidBlocks() {
		checkColdestMemory(t, counting(blocks, 3), list, 2)
	}
}

// The same memory may be heat and blocks: what is in range as the one is so as the other one, too.
func TestHeatAndBlocksThatShareMemory(t *testing.T) {
	memory := append(counting(blocks, 0), counting(blocks, 0)...)
	kept := slices.Clone(memory)
	for first := range blocks + 1 {
		h := memory[first : first+blocks]
		for end := first; end <= blocks; end++ {
			list := memory[first:end]
			for many := range len(list) + 2 {
				want := coldest(slices.Clone(h), slices.Clone(list), many)
				got := impl.HeatColdest(h, list, many)
				wantList(t, got, want, "HeatColdest(%v, %v, %d)", h, list, many)
				fill(got)
				wantList(t, memory, kept, "the memory")
			}
		}
	}
}

// A nil slice and an empty one are the same.
func TestHeatWithNilAndEmptySlices(t *testing.T) {
	for _, none := range [][]int{nil, {}, counting(blocks, 0)[:0]} {
		if impl.HeatValid(none) {
			t.Error("HeatValid holds without elements")
		}
		wantDecay(t, none, nil)
		for _, many := range []int{-1, 0, 1, math.MaxInt} {
			wantColdest(t, none, []int{0}, many, nil)
			wantColdest(t, none, none, many, nil)
			wantColdest(t, counting(blocks, 0), none, many, nil)
		}
		wantNoUse(t, none, 0)
		wantNoUse(t, none, -1)
	}
}

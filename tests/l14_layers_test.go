package tests

import (
	"fmt"
	"math"
	"math/rand/v2"
	"slices"
	"testing"

	"loop.example/tiervolume/impl"
)

// As in the tests of frames, the numbers of the document are written out.
const layerMax = 5

// allBlocks is the set of all blocks.
const allBlocks = blockSet(blockSets - 1)

// valuesOf returns values of the blocks of a set: those of neighbouring blocks differ, that of block 0 would be the given one.
func valuesOf(set blockSet, first int) []impl.Pair {
	var list []impl.Pair
	for _, block := range set.blocks() {
		list = append(list, impl.Pair{Block: block, Value: (first + block) % (valueMax + 1)})
	}
	return list
}

// randomLayer returns values of any blocks, each one less than a limit.
func randomLayer(r *rand.Rand, limit int) []impl.Pair {
	var list []impl.Pair
	for _, block := range someBlocks(r, r.IntN(blocks+1)) {
		list = append(list, impl.Pair{Block: block, Value: r.IntN(limit)})
	}
	return list
}

// copiedLayers returns layers in memory of their own.
func copiedLayers(list [][]impl.Pair) [][]impl.Pair {
	c := slices.Clone(list)
	for at := range c {
		c[at] = slices.Clone(c[at])
	}
	return c
}

// sameLayers reports whether layers are the same. Nil and empty ones are.
func sameLayers(a, b [][]impl.Pair) bool {
	return slices.EqualFunc(a, b, slices.Equal)
}

// withLayer returns layers with another one at an index.
func withLayer(list [][]impl.Pair, at int, layer []impl.Pair) [][]impl.Pair {
	c := slices.Clone(list)
	c[at] = layer
	return c
}

// withoutLayer returns layers without one.
func withoutLayer(list [][]impl.Pair, at int) [][]impl.Pair {
	return slices.Delete(slices.Clone(list), at, at+1)
}

// placeOf returns the place of a block in a layer, or -1 if it does not have the block.
func placeOf(layer []impl.Pair, block int) int {
	return slices.IndexFunc(layer, func(p impl.Pair) bool { return p.Block == block })
}

// valueBy returns the value of a block that layers tell, each one in place of those ahead of it, apart from the program.
func valueBy(list [][]impl.Pair, block int) int {
	value := 0
	for _, layer := range list {
		if i := placeOf(layer, block); i >= 0 {
			value = layer[i].Value
		}
	}
	return value
}

// both returns the values of two layers, those of the upper one where both have a block, apart from the program.
func both(lower, upper []impl.Pair) []impl.Pair {
	var list []impl.Pair
	for block := range blocks {
		if i := placeOf(upper, block); i >= 0 {
			list = append(list, upper[i])
		} else if i := placeOf(lower, block); i >= 0 {
			list = append(list, lower[i])
		}
	}
	return list
}

// written returns what LayersWrite returns of valid arguments, apart from the program.
func written(list [][]impl.Pair, pairs []impl.Pair) [][]impl.Pair {
	last := len(list) - 1
	return withLayer(list, last, both(list[last], pairs))
}

// folded returns what LayersFold returns of valid arguments, apart from the program.
func folded(list [][]impl.Pair, at int) [][]impl.Pair {
	return withoutLayer(withLayer(list, at, both(list[at], list[at+1])), at+1)
}

// differing returns the blocks whose values two states tell differently, apart from the program.
func differing(list [][]impl.Pair, a int, b int) []int {
	var found []int
	for block := range blocks {
		if valueBy(list[:a], block) != valueBy(list[:b], block) {
			found = append(found, block)
		}
	}
	return found
}

// someLayers returns layers that are empty, have one block, some and all, with the least and the largest blocks and values.
func someLayers() [][]impl.Pair {
	return [][]impl.Pair{
		nil,
		{},
		{{Block: 3, Value: 7}},
		{{Block: 3, Value: 0}},
		{{Block: 0, Value: valueMax}},
		{{Block: blocks - 1, Value: 1}},
		{{Block: 0, Value: 0}, {Block: blocks - 1, Value: valueMax}},
		{{Block: 1, Value: 7}, {Block: 3, Value: 0}, {Block: 8, Value: valueMax}},
		valuesOf(0b010101010101, 40),
		valuesOf(0b101010101010, 40),
		valuesOf(0b000000111111, 95),
		valuesOf(allBlocks, 0),
		valuesOf(allBlocks, 90),
		pairsFrom(0, blocks, 0),
		pairsFrom(0, blocks, valueMax),
		pairsFrom(0, blocks-1, 5),
		pairsFrom(1, blocks-1, 6),
	}
}

// validLayers returns 1 to LayerMax layers: equal ones, each one at each index among others that are empty, have some blocks
// or all of them, and random ones, with few and many values.
func validLayers() [][][]impl.Pair {
	var lists [][][]impl.Pair
	for n := 1; n <= layerMax; n++ {
		for _, layer := range someLayers() {
			lists = append(lists, slices.Repeat([][]impl.Pair{layer}, n))
			for _, other := range [][]impl.Pair{nil, valuesOf(0b011001101001, 2), pairsFrom(0, blocks, 7)} {
				for at := range n {
					lists = append(lists, withLayer(slices.Repeat([][]impl.Pair{other}, n), at, layer))
				}
			}
		}
	}
	r := rand.New(rand.NewPCG(55, 56))
	for n := 1; n <= layerMax; n++ {
		for _, limit := range []int{1, 2, 4, valueMax + 1} {
			for range 12 {
				list := make([][]impl.Pair, n)
				for at := range list {
					list[at] = randomLayer(r, limit)
				}
				lists = append(lists, list)
			}
		}
	}
	return lists
}

// invalidLayer returns values that no layer has: just one rule does not hold.
func invalidLayer() [][]impl.Pair {
	lists := [][]impl.Pair{{{Block: 4, Value: 1}, {Block: 4, Value: 2}}, make([]impl.Pair, 2), make([]impl.Pair, 5000)}
	lists = append(lists, pairsFrom(0, blocks+1, 5), pairsFrom(-1, blocks+1, 5), pairsFrom(0, 5000, 5))
	for _, n := range []int{2, 3, blocks - 1, blocks} {
		lists = append(lists, disordered(pairsFrom(blocks-n, n, 5))...)
	}
	for _, n := range []int{1, 2, 3, blocks - 1, blocks} {
		for at := range n {
			for _, bad := range badBlocks {
				list := pairsFrom(min(1, blocks-n), n, 5)
				list[at].Block = bad
				lists = append(lists, list)
			}
			for _, bad := range badValues {
				list := pairsFrom(min(1, blocks-n), n, 5)
				list[at].Value = bad
				lists = append(lists, list)
			}
		}
	}
	return lists
}

// invalidLayers returns no layers, too many, and some of which the first, a middle or the last one is invalid.
func invalidLayers() [][][]impl.Pair {
	lists := [][][]impl.Pair{nil, {}}
	for _, n := range []int{layerMax + 1, layerMax + 2, 2 * layerMax, blocks, 5000} {
		lists = append(lists, make([][]impl.Pair, n), slices.Repeat([][]impl.Pair{pairsFrom(2, 3, 4)}, n))
	}
	for _, bad := range invalidLayer() {
		for _, n := range []int{1, 2, 3, layerMax} {
			for _, at := range slices.Compact([]int{0, n / 2, n - 1}) {
				lists = append(lists, withLayer(slices.Repeat([][]impl.Pair{pairsFrom(0, blocks, 7)}, n), at, bad))
			}
		}
	}
	return lists
}

// wantLayers requires the layers that a function returned.
func wantLayers(t *testing.T, got [][]impl.Pair, ok bool, want [][]impl.Pair, format string, args ...any) {
	t.Helper()
	if !ok || !sameLayers(got, want) {
		t.Fatalf(format+" = %v, %v; want %v, true", append(args, got, ok, want)...)
	}
	if !impl.LayersValid(got) {
		t.Fatalf(format+" = %v, which is not valid", append(args, got)...)
	}
}

// wantNoLayers requires that a function failed, and returned no layers.
func wantNoLayers(t *testing.T, got [][]impl.Pair, ok bool, format string, args ...any) {
	t.Helper()
	if ok || len(got) != 0 {
		t.Fatalf(format+" = %v, %v; want nothing, false", append(args, got, ok)...)
	}
}

// wantLayersRead requires what LayersRead returns of all blocks of valid layers, and of numbers that are none.
func wantLayersRead(t *testing.T, list [][]impl.Pair) {
	t.Helper()
	for block := range blocks {
		if got, want := impl.LayersRead(list, block), valueBy(list, block); got != want {
			t.Fatalf("LayersRead(%v, %d) = %d; want %d", list, block, got, want)
		}
	}
	for _, block := range badBlocks {
		if got := impl.LayersRead(list, block); got != -1 {
			t.Fatalf("LayersRead(%v, %d) = %d; want -1", list, block, got)
		}
	}
}

// wantLayersWrite requires what LayersWrite returns of valid arguments.
func wantLayersWrite(t *testing.T, list [][]impl.Pair, pairs []impl.Pair) {
	t.Helper()
	got, ok := impl.LayersWrite(list, pairs)
	wantLayers(t, got, ok, written(list, pairs), "LayersWrite(%v, %v)", list, pairs)
}

// wantNoWrite requires that LayersWrite fails.
func wantNoWrite(t *testing.T, list [][]impl.Pair, pairs []impl.Pair) {
	t.Helper()
	got, ok := impl.LayersWrite(list, pairs)
	wantNoLayers(t, got, ok, "LayersWrite(%v, %v)", list, pairs)
}

// wantSnap requires what LayersSnap returns of valid layers.
func wantSnap(t *testing.T, list [][]impl.Pair) {
	t.Helper()
	got, ok := impl.LayersSnap(list)
	if len(list) == layerMax {
		wantNoLayers(t, got, ok, "LayersSnap(%v)", list)
		return
	}
	wantLayers(t, got, ok, append(slices.Clone(list), nil), "LayersSnap(%v)", list)
}

// wantFold requires what LayersFold returns of valid layers.
func wantFold(t *testing.T, list [][]impl.Pair, at int) {
	t.Helper()
	got, ok := impl.LayersFold(list, at)
	if at < 0 || at >= len(list) || at == len(list)-1 {
		wantNoLayers(t, got, ok, "LayersFold(%v, %d)", list, at)
		return
	}
	wantLayers(t, got, ok, folded(list, at), "LayersFold(%v, %d)", list, at)
}

// wantDiff requires the blocks that LayersDiff returns.
func wantDiff(t *testing.T, list [][]impl.Pair, a int, b int, want []int) {
	t.Helper()
	wantList(t, impl.LayersDiff(list, a, b), want, "LayersDiff(%v, %d, %d)", list, a, b)
}

func TestLayerConstants(t *testing.T) {
	if impl.LayerMax != 5 {
		t.Errorf("LayerMax is %d; want 5", impl.LayerMax)
	}
}

// Promises 76 to 82, for layers that are written out.
func TestKnownLayers(t *testing.T) {
	list := [][]impl.Pair{
		{{Block: 1, Value: 4}, {Block: 2, Value: 5}, {Block: 6, Value: 8}, {Block: 9, Value: 9}},
		{{Block: 0, Value: 3}, {Block: 2, Value: 6}, {Block: 6, Value: 0}},
		{{Block: 2, Value: 5}, {Block: 7, Value: 0}, {Block: 11, Value: 2}},
	}
	for block, want := range []int{3, 4, 5, 0, 0, 0, 0, 0, 0, 9, 0, 2} {
		if got := impl.LayersRead(list, block); got != want {
			t.Errorf("LayersRead of block %d = %d; want %d", block, got, want)
		}
	}
	got, ok := impl.LayersWrite(list, []impl.Pair{{Block: 0, Value: 0}, {Block: 2, Value: 1}, {Block: 8, Value: 7}})
	last := []impl.Pair{{Block: 0, Value: 0}, {Block: 2, Value: 1}, {Block: 7, Value: 0}, {Block: 8, Value: 7}, {Block: 11, Value: 2}}
	wantLayers(t, got, ok, [][]impl.Pair{list[0], list[1], last}, "LayersWrite")
	got, ok = impl.LayersSnap(list)
	wantLayers(t, got, ok, [][]impl.Pair{list[0], list[1], list[2], {}}, "LayersSnap")
	got, ok = impl.LayersFold(list, 0)
	first := []impl.Pair{{Block: 0, Value: 3}, {Block: 1, Value: 4}, {Block: 2, Value: 6}, {Block: 6, Value: 0}, {Block: 9, Value: 9}}
	wantLayers(t, got, ok, [][]impl.Pair{first, list[2]}, "LayersFold of the first two")
	got, ok = impl.LayersFold(list, 1)
	last = []impl.Pair{{Block: 0, Value: 3}, {Block: 2, Value: 5}, {Block: 6, Value: 0}, {Block: 7, Value: 0}, {Block: 11, Value: 2}}
	wantLayers(t, got, ok, [][]impl.Pair{list[0], last}, "LayersFold of the last two")
	wantDiff(t, list, 0, 1, []int{1, 2, 6, 9})
	wantDiff(t, list, 0, 2, []int{0, 1, 2, 9})
	wantDiff(t, list, 0, 3, []int{0, 1, 2, 9, 11})
	wantDiff(t, list, 1, 2, []int{0, 2, 6})
	wantDiff(t, list, 1, 3, []int{0, 6, 11})
	wantDiff(t, list, 2, 3, []int{2, 11})
}

// Promise 83: valid layers, and invalid ones.
func TestLayersValid(t *testing.T) {
	for _, list := range validLayers() {
		if !impl.LayersValid(list) {
			t.Fatalf("LayersValid(%v) = false", list)
		}
	}
	for _, list := range invalidLayers() {
		if impl.LayersValid(list) {
			t.Fatalf("LayersValid(%v) = true", list)
		}
	}
}

// Each value counts, the first and the last one of the first and of the last layer included.
func TestLayersValidLooksAtEachValue(t *testing.T) {
	for n := 1; n <= layerMax; n++ {
		for at := range n {
			for block := range blocks {
				for _, value := range append([]int{-2, -1, 0, 1, valueMax - 1, valueMax, valueMax + 1, valueMax + 2}, badValues...) {
					layer := valuesOf(allBlocks, 3)
					layer[block].Value = value
					list := withLayer(slices.Repeat([][]impl.Pair{{{Block: 4, Value: 1}}}, n), at, layer)
					if got := impl.LayersValid(list); got != (value >= 0 && value <= valueMax) {
						t.Fatalf("LayersValid(%v) = %v", list, got)
					}
				}
			}
		}
	}
}

// Each block counts, too: all numbers around those of blocks, alone, and together with other blocks.
func TestLayersValidLooksAtEachBlock(t *testing.T) {
	others := valuesOf(0b000001000010, 5)
	for n := 1; n <= layerMax; n++ {
		for at := range n {
			for block := -2 * blocks; block <= 3*blocks; block++ {
				p := impl.Pair{Block: block, Value: 2}
				for i := range 3 {
					list := withLayer(make([][]impl.Pair, n), at, slices.Insert(slices.Clone(others), i, p))
					want := block >= []int{0, 2, 7}[i] && block < []int{1, 6, blocks}[i]
					if got := impl.LayersValid(list); got != want {
						t.Fatalf("LayersValid(%v) = %v", list, got)
					}
				}
				if got := impl.LayersValid(withLayer(make([][]impl.Pair, n), at, []impl.Pair{p})); got != (block >= 0 && block < blocks) {
					t.Fatalf("LayersValid = %v, for the block %d alone", got, block)
				}
			}
		}
	}
}

// Only 1 to LayerMax layers are valid, whatever they have.
func TestLayersOfOtherNumbers(t *testing.T) {
	for n := range 4 * layerMax {
		for _, layer := range someLayers() {
			list := slices.Repeat([][]impl.Pair{layer}, n)
			want := n >= 1 && n <= layerMax
			if got := impl.LayersValid(list); got != want {
				t.Fatalf("LayersValid = %v, for %d layers", got, n)
			}
			if !want {
				wantNothingOf(t, list)
			}
		}
	}
}

// Promise 83: several layers stay valid without any one of them.
func TestLayersWithoutAnyOne(t *testing.T) {
	for _, list := range validLayers() {
		for at := range list {
			if got := impl.LayersValid(withoutLayer(list, at)); got != (len(list) > 1) {
				t.Fatalf("LayersValid(%v) = %v, without the layer %d", list, got, at)
			}
		}
	}
}

// Promise 83: layers are invalid with a value that is too large, and with one that is too small.
func TestLayersWithABadValue(t *testing.T) {
	for _, list := range validLayers() {
		for at, layer := range list {
			for i := range layer {
				for _, bad := range []int{-1, valueMax + 1} {
					changed := slices.Clone(layer)
					changed[i].Value = bad
					if c := withLayer(list, at, changed); impl.LayersValid(c) {
						t.Fatalf("LayersValid(%v) = true", c)
					}
				}
			}
		}
	}
}

// Promise 76: of all blocks, and of numbers that are none.
func TestLayersRead(t *testing.T) {
	for _, list := range validLayers() {
		wantLayersRead(t, list)
	}
	for set := range allBlocks + 1 {
		wantLayersRead(t, [][]impl.Pair{valuesOf(set, 1)})
		wantLayersRead(t, [][]impl.Pair{valuesOf(allBlocks-set, 50), valuesOf(set, 1), valuesOf(set&0b110011001100, 60)})
	}
}

// Promise 76: a block that any of the layers have and the other ones do not: none, the first, a middle, the last one, or several,
// with different values, with equal ones, and with 0 above others or below them. Neighbouring blocks do not matter.
func TestLayersReadOfABlockOfAnyLayers(t *testing.T) {
	for block := range blocks {
		for n := 1; n <= layerMax; n++ {
			for which := range 1 << n {
				for _, values := range [][]int{{11, 12, 13, 14, 15}, {5, 5, 5, 5, 5}, {5, 0, 5, 0, 5}, {0, 9, 0, 9, 0}, {0, 0, 0, 0, 0}, {7, 0, 0, 99, 0}} {
					for _, others := range []blockSet{0, allBlocks, 0b110110110110} {
						list, want := make([][]impl.Pair, n), 0
						for at := range list {
							list[at] = valuesOf(others&^(1<<block), 30)
							if which>>at&1 == 1 {
								list[at] = both(list[at], []impl.Pair{{Block: block, Value: values[at]}})
								want = values[at]
							}
						}
						if got := impl.LayersRead(list, block); got != want {
							t.Fatalf("LayersRead(%v, %d) = %d; want %d", list, block, got, want)
						}
					}
				}
			}
		}
	}
}

// Promise 76: a block that no layer has, with any other blocks, has the value 0, not -1.
func TestLayersReadOfBlocksThatNoLayerHas(t *testing.T) {
	for set := range allBlocks + 1 {
		for _, list := range [][][]impl.Pair{{valuesOf(set, 1)}, {valuesOf(set, 1), nil}, {nil, valuesOf(set, 1), valuesOf(set, 2)}} {
			for _, block := range (allBlocks - set).blocks() {
				if got := impl.LayersRead(list, block); got != 0 {
					t.Fatalf("LayersRead(%v, %d) = %d; want 0", list, block, got)
				}
			}
		}
	}
}

// Promise 76: all numbers around those of blocks.
func TestLayersReadOfAllNumbers(t *testing.T) {
	for _, list := range [][][]impl.Pair{{nil}, {pairsFrom(0, blocks, 8)}, {{{Block: 0, Value: 8}}, {{Block: blocks - 1, Value: 8}}}} {
		for block := -2 * blocks; block <= 3*blocks; block++ {
			want := -1
			if block >= 0 && block < blocks {
				want = valueBy(list, block)
			}
			if got := impl.LayersRead(list, block); got != want {
				t.Fatalf("LayersRead(%v, %d) = %d; want %d", list, block, got, want)
			}
		}
	}
}

// wantNothingOf requires that no function returns anything of layers: they are invalid.
func wantNothingOf(t *testing.T, list [][]impl.Pair) {
	t.Helper()
	for block := -1; block <= blocks; block++ {
		if got := impl.LayersRead(list, block); got != -1 {
			t.Fatalf("LayersRead(%v, %d) = %d; want -1", list, block, got)
		}
	}
	for _, pairs := range [][]impl.Pair{nil, {{Block: 3, Value: 7}}, pairsFrom(0, blocks, 1), {{Block: 3, Value: -1}}} {
		wantNoWrite(t, list, pairs)
	}
	got, ok := impl.LayersSnap(list)
	wantNoLayers(t, got, ok, "LayersSnap(%v)", list)
	for at := -2; at <= layerMax+1; at++ {
		got, ok = impl.LayersFold(list, at)
		wantNoLayers(t, got, ok, "LayersFold(%v, %d)", list, at)
		for b := -2; b <= layerMax+1; b++ {
			wantDiff(t, list, at, b, nil)
		}
	}
	for _, n := range []int{len(list) - 2, len(list) - 1, len(list), len(list) + 1} {
		got, ok = impl.LayersFold(list, n)
		wantNoLayers(t, got, ok, "LayersFold(%v, %d)", list, n)
		wantDiff(t, list, 0, n, nil)
		wantDiff(t, list, n, 1, nil)
	}
}

// Promises 76 to 83: nothing can be done with invalid layers, also if only others than the one that matters are invalid.
func TestInvalidLayersLeadToNothing(t *testing.T) {
	for _, list := range invalidLayers() {
		wantNothingOf(t, list)
	}
}

// Promise 77: values of no block, of a block that the last layer has, that only a lower one has, that no layer has, and of all.
func TestLayersWrite(t *testing.T) {
	for _, list := range validLayers() {
		for _, pairs := range someLayers() {
			wantLayersWrite(t, list, pairs)
			got, _ := impl.LayersWrite(list, pairs)
			for block := range blocks {
				want := valueBy(list, block)
				if i := placeOf(pairs, block); i >= 0 {
					want = pairs[i].Value
				}
				if value := impl.LayersRead(got, block); value != want {
					t.Fatalf("LayersRead(%v, %d) = %d; want %d, as %v was written to %v", got, block, value, want, pairs, list)
				}
			}
		}
	}
}

// Promise 77: for all pairs of sets of few blocks, one of them in the last layer, and the other one written.
func TestLayersWriteOfAllBlocks(t *testing.T) {
	somePairs(func(a, b blockSet) {
		wantLayersWrite(t, [][]impl.Pair{valuesOf(a, 1)}, valuesOf(b, 40))
		wantLayersWrite(t, [][]impl.Pair{valuesOf(b, 20), valuesOf(a, 1)}, valuesOf(b, 40))
	})
}

// Promise 77: a value of each block and of each size, 0 included, which stays in the layer.
func TestLayersWriteOfOneValue(t *testing.T) {
	for _, list := range [][][]impl.Pair{{nil}, {pairsFrom(0, blocks, 5)}, {pairsFrom(0, blocks, 5), nil}, {nil, valuesOf(0b011011011011, 5), valuesOf(0b010101010101, 6)}} {
		for block := range blocks {
			for value := range valueMax + 1 {
				wantLayersWrite(t, list, []impl.Pair{{Block: block, Value: value}})
			}
		}
	}
}

// Promise 77: values that are written one after the other, in any order, are the same as all of them at once.
func TestLayersWriteInAnyOrder(t *testing.T) {
	r := rand.New(rand.NewPCG(57, 58))
	for range 300 {
		values, lower := randomLayer(r, valueMax+1), randomLayer(r, valueMax+1)
		list := [][]impl.Pair{lower, {}}
		for _, i := range r.Perm(len(values)) {
			list, _ = impl.LayersWrite(list, values[i:i+1])
		}
		wantLayers(t, list, true, [][]impl.Pair{lower, values}, "LayersWrite of %v, one by one", values)
	}
}

// What was written is written again without a change, and other values replace it.
func TestLayersWriteDoneAgain(t *testing.T) {
	for _, list := range validLayers() {
		pairs := valuesOf(0b001110010011, 60)
		once, _ := impl.LayersWrite(list, pairs)
		twice, ok := impl.LayersWrite(once, pairs)
		wantLayers(t, twice, ok, once, "LayersWrite(%v, %v)", once, pairs)
		wantLayersWrite(t, once, valuesOf(0b011100000001, 0))
		wantLayersWrite(t, once, once[len(once)-1])
		wantLayersWrite(t, once, pairsFrom(0, blocks, 0))
	}
}

// Promise 77: values that no layer may have are not written, neither are those that would be valid if they were put in order.
func TestLayersWriteOfInvalidValues(t *testing.T) {
	lists := [][][]impl.Pair{{nil}, {pairsFrom(0, blocks, 5)}, slices.Repeat([][]impl.Pair{{{Block: 4, Value: 1}}}, layerMax)}
	for _, pairs := range invalidLayer() {
		for _, list := range lists {
			wantNoWrite(t, list, pairs)
		}
	}
	for _, list := range validLayers() {
		for _, pairs := range [][]impl.Pair{{{Block: -1, Value: 1}}, {{Block: blocks, Value: 1}}, {{Block: 3, Value: -1}}, {{Block: 3, Value: valueMax + 1}}, {{Block: 5, Value: 1}, {Block: 4, Value: 1}}, {{Block: 4, Value: 1}, {Block: 4, Value: 1}}} {
			wantNoWrite(t, list, pairs)
		}
	}
}

// Promise 78: of 1 to LayerMax-1 layers; of LayerMax layers, it fails.
func TestLayersSnap(t *testing.T) {
	for _, list := range validLayers() {
		wantSnap(t, list)
		got, ok := impl.LayersSnap(list)
		if ok != (len(list) < layerMax) {
			t.Fatalf("LayersSnap(%v) = %v, %v", list, got, ok)
		}
		if !ok {
			continue
		}
		for block := range blocks {
			if a, b := impl.LayersRead(list, block), impl.LayersRead(got, block); a != b {
				t.Fatalf("LayersRead(%v, %d) = %d; want %d, as of %v", got, block, b, a, list)
			}
		}
		wantDiff(t, got, len(list), len(list)+1, nil)
	}
}

// Promise 78: again of its own result, up to LayerMax layers.
func TestLayersSnapDoneAgain(t *testing.T) {
	for _, layer := range someLayers() {
		list := [][]impl.Pair{layer}
		for n := 2; n <= layerMax; n++ {
			after, ok := impl.LayersSnap(list)
			if !ok || len(after) != n || !slices.Equal(after[0], layer) || slices.ContainsFunc(after[1:], func(l []impl.Pair) bool { return len(l) > 0 }) {
				t.Fatalf("LayersSnap(%v) = %v, %v", list, after, ok)
			}
			list = after
		}
		got, ok := impl.LayersSnap(list)
		wantNoLayers(t, got, ok, "LayersSnap(%v)", list)
	}
}

// Promise 79: what is written behind a snapshot changes no state up to it, and only one block of the state of all layers.
func TestLayersWriteBehindASnapshot(t *testing.T) {
	for _, list := range validLayers() {
		n := len(list)
		if n == layerMax {
			continue
		}
		snapped, _ := impl.LayersSnap(list)
		for block := range blocks {
			for _, value := range []int{0, 1, 7, valueMax} {
				p := impl.Pair{Block: block, Value: value}
				got, ok := impl.LayersWrite(snapped, []impl.Pair{p})
				if !ok || len(got) != n+1 || !sameLayers(got[:n], list) || !slices.Equal(got[n], []impl.Pair{p}) {
					t.Fatalf("LayersWrite(%v, %v) = %v, %v", snapped, p, got, ok)
				}
				var want []int
				if value != valueBy(list, block) {
					want = []int{block}
				}
				wantDiff(t, got, n, n+1, want)
				wantDiff(t, got, n+1, n, want)
				wantDiff(t, got, 0, n, impl.LayersDiff(list, 0, n))
			}
		}
	}
}

// Promise 80: of each two neighbouring layers.
func TestLayersFold(t *testing.T) {
	for _, list := range validLayers() {
		for at := -2; at <= len(list)+1; at++ {
			wantFold(t, list, at)
		}
		for at := range len(list) - 1 {
			got, _ := impl.LayersFold(list, at)
			if len(got) != len(list)-1 {
				t.Fatalf("LayersFold(%v, %d) = %v", list, at, got)
			}
			for block := range blocks {
				if a, b := impl.LayersRead(list, block), impl.LayersRead(got, block); a != b {
					t.Fatalf("LayersRead(%v, %d) = %d; want %d, as of %v", got, block, b, a, list)
				}
			}
		}
	}
}

// Promise 80: for all pairs of sets of few blocks, of the lower and of the upper layer, which share all blocks, some or none.
func TestLayersFoldOfAllBlocks(t *testing.T) {
	somePairs(func(a, b blockSet) {
		wantFold(t, [][]impl.Pair{valuesOf(a, 1), valuesOf(b, 40)}, 0)
		wantFold(t, [][]impl.Pair{valuesOf(b, 20), valuesOf(a, 1), valuesOf(b, 40), valuesOf(a, 60)}, 1)
	})
}

// Layers become one, from the first two on, from the last two on, and from the middle on.
func TestLayersFoldDoneAgain(t *testing.T) {
	for _, list := range validLayers() {
		var want []impl.Pair
		for _, layer := range list {
			want = both(want, layer)
		}
		for _, index := range []func(n int) int{
			func(n int) int { return 0 },
			func(n int) int { return n - 2 },
			func(n int) int { return (n - 1) / 2 },
		} {
			got := list
			for n := len(list); n > 1; n-- {
				before, at := got, index(n)
				wantFold(t, before, at)
				got, _ = impl.LayersFold(before, at)
			}
			wantLayers(t, got, true, [][]impl.Pair{want}, "LayersFold of %v, up to one layer", list)
			wantFold(t, got, 0)
		}
	}
}

// Promise 81: all states but the one between both layers stay.
func TestLayersFoldKeepsStates(t *testing.T) {
	for _, list := range validLayers() {
		for at := range len(list) - 1 {
			got, _ := impl.LayersFold(list, at)
			after := func(state int) int {
				if state > at {
					return state - 1
				}
				return state
			}
			for a := range len(list) + 1 {
				for b := range len(list) + 1 {
					if a != at+1 && b != at+1 {
						wantDiff(t, got, after(a), after(b), impl.LayersDiff(list, a, b))
					}
				}
			}
		}
	}
}

// Promise 80: two layers that are not there, also for numbers whose next one does not fit.
func TestLayersFoldFails(t *testing.T) {
	for n := 1; n <= layerMax; n++ {
		for _, layer := range someLayers() {
			list := slices.Repeat([][]impl.Pair{layer}, n)
			for _, at := range append([]int{-n, n - 1, n, n + 1, layerMax, layerMax - 1}, farNumbers...) {
				wantFold(t, list, at)
			}
		}
	}
}

// Promise 82: all states, in both orders.
func TestLayersDiff(t *testing.T) {
	for _, list := range validLayers() {
		for a := range len(list) + 1 {
			wantDiff(t, list, a, a, nil)
			for b := range a {
				want := differing(list, a, b)
				wantDiff(t, list, a, b, want)
				wantDiff(t, list, b, a, want)
				for _, block := range want {
					if !slices.ContainsFunc(list[b:a], func(layer []impl.Pair) bool { return placeOf(layer, block) >= 0 }) {
						t.Fatalf("LayersDiff(%v, %d, %d) has the block %d", list, a, b, block)
					}
				}
			}
		}
	}
}

// Promise 82: layers of all sets of blocks, above nothing, above equal values, and above values of some blocks.
func TestLayersDiffOfAllBlocks(t *testing.T) {
	for set := range allBlocks + 1 {
		wantDiff(t, [][]impl.Pair{valuesOf(set, 1)}, 0, 1, set.blocks())
		wantDiff(t, [][]impl.Pair{valuesOf(set, 1)}, 1, 0, set.blocks())
		list := [][]impl.Pair{valuesOf(allBlocks, 1), valuesOf(set, 1), valuesOf(0b111000111000, 30), valuesOf(set, 1)}
		wantDiff(t, list, 1, 2, nil)
		wantDiff(t, list, 2, 3, []int{3, 4, 5, 9, 10, 11})
		wantDiff(t, list, 3, 4, (set & 0b111000111000).blocks())
		wantDiff(t, list, 1, 4, (0b111000111000 &^ set).blocks())
		wantDiff(t, list, 0, 4, counting(blocks, 0))
	}
}

// Promise 82: states are compared by the values of their blocks. A value of 0 is the same as none, and a value that arises again
// is the same as before.
func TestLayersDiffOfEqualValues(t *testing.T) {
	for block := range blocks {
		value := func(n int) []impl.Pair { return []impl.Pair{{Block: block, Value: n}} }
		for _, c := range []struct {
			list [][]impl.Pair
			same [][2]int
		}{
			{[][]impl.Pair{value(0)}, [][2]int{{0, 1}}},
			{[][]impl.Pair{nil, value(0)}, [][2]int{{0, 1}, {0, 2}, {1, 2}}},
			{[][]impl.Pair{value(5), value(0)}, [][2]int{{0, 2}}},
			{[][]impl.Pair{value(5), value(5)}, [][2]int{{1, 2}}},
			{[][]impl.Pair{value(5), nil, value(5)}, [][2]int{{1, 2}, {1, 3}, {2, 3}}},
			{[][]impl.Pair{value(5), value(6), value(5)}, [][2]int{{1, 3}}},
			{[][]impl.Pair{value(5), value(0), value(5)}, [][2]int{{0, 2}, {1, 3}}},
			{[][]impl.Pair{value(0), value(5), value(0), nil}, [][2]int{{0, 1}, {0, 3}, {0, 4}, {1, 3}, {1, 4}, {3, 4}}},
		} {
			for a := range len(c.list) + 1 {
				for b := a; b <= len(c.list); b++ {
					var want []int
					if a != b && !slices.Contains(c.same, [2]int{a, b}) {
						want = []int{block}
					}
					wantDiff(t, c.list, a, b, want)
					wantDiff(t, c.list, b, a, want)
				}
			}
		}
	}
}

// Promise 82: there are no states but 0 to the number of layers, and each of both counts.
func TestLayersDiffOfStatesThatAreNotThere(t *testing.T) {
	for n := 1; n <= layerMax; n++ {
		list := make([][]impl.Pair, n)
		for at := range list {
			list[at] = pairsFrom(0, blocks, at+1)
		}
		states := append([]int{-n, n, n + 1, n + 2}, farNumbers...)
		for _, a := range states {
			for _, b := range states {
				var want []int
				if a >= 0 && a <= n && b >= 0 && b <= n && a != b {
					want = counting(blocks, 0)
				}
				wantDiff(t, list, a, b, want)
			}
		}
	}
}

// Promises 76 to 83: whatever is done one after the other, each state that was not folded away is as it was.
func TestManyLayersOneAfterTheOther(t *testing.T) {
	r := rand.New(rand.NewPCG(59, 60))
	for range 150 {
		list := [][]impl.Pair{{}}
		// states has what each state tells, the one without layers included.
		states := [][blocks]int{{}, {}}
		for range 60 {
			before, kept, n := list, copiedLayers(list), len(list)
			switch r.IntN(4) {
			case 0, 1:
				pairs := randomLayer(r, 4)
				wantLayersWrite(t, list, pairs)
				list, _ = impl.LayersWrite(list, pairs)
				for _, p := range pairs {
					states[n][p.Block] = p.Value
				}
			case 2:
				wantSnap(t, list)
				if n < layerMax {
					list, _ = impl.LayersSnap(list)
					states = append(states, states[n])
				}
			case 3:
				at := r.IntN(n)
				wantFold(t, list, at)
				if at < n-1 {
					list, _ = impl.LayersFold(list, at)
					states = slices.Delete(states, at+1, at+2)
				}
			}
			if !sameLayers(before, kept) {
				t.Fatalf("the layers were %v; they are %v now", kept, before)
			}
			wantStates(t, list, states)
		}
	}
}

// wantStates requires what all states of layers tell.
func wantStates(t *testing.T, list [][]impl.Pair, states [][blocks]int) {
	t.Helper()
	if len(list) != len(states)-1 {
		t.Fatalf("there are %d layers; want %d", len(list), len(states)-1)
	}
	for n := 1; n <= len(list); n++ {
		for block, want := range states[n] {
			if got := impl.LayersRead(list[:n], block); got != want {
				t.Fatalf("LayersRead(%v, %d) = %d; want %d", list[:n], block, got, want)
			}
		}
	}
	for a := range states {
		for b := range states {
			var want []int
			for block := range blocks {
				if states[a][block] != states[b][block] {
					want = append(want, block)
				}
			}
			wantDiff(t, list, a, b, want)
		}
	}
}

// layersCalls returns all functions of this chapter, each with layers and with values, which only LayersWrite takes. A result
// that is no layers is made such ones.
func layersCalls() map[string]func([][]impl.Pair, []impl.Pair) ([][]impl.Pair, bool) {
	calls := map[string]func([][]impl.Pair, []impl.Pair) ([][]impl.Pair, bool){
		"LayersValid": func(list [][]impl.Pair, _ []impl.Pair) ([][]impl.Pair, bool) { return nil, impl.LayersValid(list) },
		"LayersWrite": impl.LayersWrite,
		"LayersSnap":  func(list [][]impl.Pair, _ []impl.Pair) ([][]impl.Pair, bool) { return impl.LayersSnap(list) },
	}
	for _, block := range []int{-1, 0, 3, 4, blocks - 1, blocks} {
		calls[fmt.Sprintf("LayersRead of %d", block)] = func(list [][]impl.Pair, _ []impl.Pair) ([][]impl.Pair, bool) {
			return [][]impl.Pair{{{Block: block, Value: impl.LayersRead(list, block)}}}, true
		}
	}
	for at := -1; at <= layerMax; at++ {
		calls[fmt.Sprintf("LayersFold at %d", at)] = func(list [][]impl.Pair, _ []impl.Pair) ([][]impl.Pair, bool) {
			return impl.LayersFold(list, at)
		}
		calls[fmt.Sprintf("LayersDiff of 1 and %d", at)] = func(list [][]impl.Pair, _ []impl.Pair) ([][]impl.Pair, bool) {
			var found []impl.Pair
			for _, block := range impl.LayersDiff(list, 1, at) {
				found = append(found, impl.Pair{Block: block})
			}
			return [][]impl.Pair{found}, true
		}
	}
	return calls
}

// fillPairs writes into all memory of values, their spare capacity included.
func fillPairs(list []impl.Pair) {
	list = list[:cap(list)]
	for i := range list {
		list[i] = impl.Pair{Block: 77, Value: 77}
	}
}

// spaciousLayers returns a copy of layers that have spare capacity, behind all of them and behind the values of each one.
func spaciousLayers(list [][]impl.Pair) [][]impl.Pair {
	c := append(copiedLayers(list), pairsFrom(2, 3, 88), nil)
	for at := range list {
		c[at] = append(c[at], pairsFrom(20, 2*blocks, 55)...)[:len(list[at])]
	}
	return c[:len(list)]
}

// layersMemory returns a copy of layers and their spare capacity, that of their values included.
func layersMemory(list [][]impl.Pair) [][]impl.Pair {
	c := slices.Clone(list[:cap(list)])
	for at := range c {
		c[at] = slices.Clone(c[at][:cap(c[at])])
	}
	return c
}

// scribbleLayers writes over all memory of layers.
func scribbleLayers(list [][]impl.Pair) {
	list = list[:cap(list)]
	for at := range list {
		fillPairs(list[at])
		list[at] = []impl.Pair{{Block: 66, Value: 66}}
	}
}

// checkLayersApart requires that no two layers share memory.
func checkLayersApart(t *testing.T, list [][]impl.Pair) {
	t.Helper()
	for at := range list {
		want := copiedLayers(list)
		fillPairs(want[at])
		fillPairs(list[at])
		if !sameLayers(list, want) {
			t.Fatalf("two layers share memory: after a change of one, they are %v; want %v", list, want)
		}
	}
}

// checkLayersMemory requires that a call does not change its arguments, and that its results share no memory with these, with
// those of another call, or with each other.
func checkLayersMemory(t *testing.T, name string, call func([][]impl.Pair, []impl.Pair) ([][]impl.Pair, bool), list [][]impl.Pair, pairs []impl.Pair) {
	t.Helper()
	longPairs := append(slices.Clone(pairs), pairsFrom(20, 3, 44)...)
	layers, short := spaciousLayers(list), longPairs[:len(pairs)]
	keptLayers, keptPairs := layersMemory(layers), slices.Clone(longPairs)
	first, ok := call(layers, short)
	second, _ := call(layers, short)
	keptFirst := copiedLayers(first)
	checkLayersApart(t, second)
	scribbleLayers(second)
	if !sameLayers(layersMemory(layers), keptLayers) || !slices.Equal(longPairs, keptPairs) || !sameLayers(first, keptFirst) {
		t.Fatalf("%s, for %v and %v: an argument was changed, or results share memory", name, list, pairs)
	}
	scribbleLayers(layers)
	fillPairs(longPairs)
	if !sameLayers(first, keptFirst) {
		t.Fatalf("%s, for %v and %v: a result shares memory with an argument", name, list, pairs)
	}
	// What a call returned for the same arguments does not depend on what was done before.
	if third, fine := call(copiedLayers(list), slices.Clone(pairs)); fine != ok || !sameLayers(third, keptFirst) {
		t.Fatalf("%s, for %v and %v: a later call returned %v, %v; want %v, %v", name, list, pairs, third, fine, keptFirst, ok)
	}
}

// General rules: arguments, valid or not, are not changed, in any layer, and results share no memory, also with layers that stay.
func TestLayersKeepArgumentsAndShareNoMemory(t *testing.T) {
	var lists [][][]impl.Pair
	for i, list := range invalidLayers() {
		if len(list) <= 2*layerMax && i%5 == 0 {
			lists = append(lists, list)
		}
	}
	lists = append(lists, validLayers()...)
	values := [][]impl.Pair{nil, {{Block: 3, Value: 7}}, valuesOf(0b010101010101, 40), pairsFrom(0, blocks, 1), {{Block: 4, Value: 1}, {Block: 3, Value: 1}}, {{Block: 3, Value: -1}}}
	for name, call := range layersCalls() {
		for _, list := range lists {
			for _, pairs := range values {
				checkLayersMemory(t, name, call, list, pairs)
			}
		}
	}
}

// General rules: no two results of LayersDiff share memory.
func TestLayersDiffSharesNoMemory(t *testing.T) {
	for _, list := range validLayers() {
		for a := range len(list) + 1 {
			for b := range len(list) + 1 {
				first, second := impl.LayersDiff(list, a, b), impl.LayersDiff(list, a, b)
				fill(second)
				wantList(t, first, differing(list, a, b), "LayersDiff(%v, %d, %d), after a change of another result,", list, a, b)
			}
		}
	}
}

// sharingLayers returns layers in one piece of memory, so that the values of a layer have those of the next one as their spare
// capacity, and two layers have the same values.
func sharingLayers() [][]impl.Pair {
	memory := slices.Concat(valuesOf(0b000000110110, 10), valuesOf(0b010100100100, 30), valuesOf(0b111000000001, 50), valuesOf(allBlocks, 70))
	return [][]impl.Pair{memory[:4], memory[4:8], memory[4:8], memory[8:12]}
}

// General rules: the same memory may be in several arguments and in several layers, and the spare capacity of one layer may be
// another layer.
func TestLayersThatShareMemoryInTheArguments(t *testing.T) {
	for name, call := range layersCalls() {
		for at := range sharingLayers() {
			for n := range 5 {
				apart, sharing := copiedLayers(sharingLayers()), sharingLayers()
				pairs := sharing[at][:n]
				want, ok := call(copiedLayers(apart), slices.Clone(pairs))
				got, again := call(sharing, pairs)
				if again != ok || !sameLayers(got, want) || !sameLayers(sharing, apart) {
					t.Fatalf("%s returned %v, %v, and left %v; want %v, %v, and %v", name, got, again, sharing, want, ok, apart)
				}
				checkLayersApart(t, got)
				if !sameLayers(sharing, apart) {
					t.Fatalf("%s left %v; want %v", name, sharing, apart)
				}
			}
		}
	}
}

// General rules: nil and empty slices are equivalent, as arguments, as layers, and as values.
func TestLayersWithNilAndEmptySlices(t *testing.T) {
	for name, call := range layersCalls() {
		for _, pairs := range [][]impl.Pair{nil, {}, {{Block: 3, Value: 7}}, pairsFrom(0, 3, 1)[:0]} {
			for n := range layerMax + 2 {
				want, ok := call(make([][]impl.Pair, n), slices.Clone(pairs))
				for _, empty := range [][]impl.Pair{{}, pairsFrom(0, 3, 1)[:0]} {
					got, again := call(slices.Repeat([][]impl.Pair{empty}, n), pairs)
					if again != ok || !sameLayers(got, want) {
						t.Fatalf("%s returned %v, %v; want %v, %v", name, got, again, want, ok)
					}
				}
			}
		}
		want, ok := call(nil, nil)
		if got, again := call([][]impl.Pair{}, []impl.Pair{}); again != ok || !sameLayers(got, want) {
			t.Fatalf("%s returned %v, %v; want %v, %v", name, got, again, want, ok)
		}
		for _, list := range validLayers() {
			want, ok := call(list, nil)
			if got, again := call(list, []impl.Pair{}); again != ok || !sameLayers(got, want) {
				t.Fatalf("%s returned %v, %v; want %v, %v", name, got, again, want, ok)
			}
		}
	}
	wantLayersWrite(t, [][]impl.Pair{{{Block: 1, Value: 2}}, nil}, nil)
	wantNothingOf(t, nil)
	wantNothingOf(t, [][]impl.Pair{})
}

// Numbers whose sums or differences do not fit are refused like all others.
func TestLayersOfFarNumbers(t *testing.T) {
	list := slices.Repeat([][]impl.Pair{pairsFrom(0, blocks, 5)}, 3)
	for _, n := range farNumbers {
		if n < 0 || n >= blocks {
			if got := impl.LayersRead(list, n); got != -1 {
				t.Errorf("LayersRead of %d = %d; want -1", n, got)
			}
			wantNoWrite(t, list, []impl.Pair{{Block: n, Value: 5}})
			wantNothingOf(t, [][]impl.Pair{{{Block: n, Value: 5}}})
		}
		if n < 0 || n > valueMax {
			wantNoWrite(t, list, []impl.Pair{{Block: 5, Value: n}})
			wantNothingOf(t, [][]impl.Pair{{{Block: 5, Value: n}}, nil})
		}
	}
	wantDiff(t, list, math.MinInt, math.MaxInt, nil)
	wantDiff(t, list, math.MaxInt, math.MinInt, nil)
}

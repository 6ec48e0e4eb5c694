package tests

import (
	"math"
	"math/rand/v2"
	"slices"
	"testing"

	"loop.example/tiervolume/impl"
)

// As in the tests of frames, the numbers of the document are written out.
const (
	// extentMax is the largest number of extents, as there is a block between any two of them.
	extentMax = blocks / 2
	// blockSets is the number of sets of blocks.
	blockSets = 1 << blocks
)

// farNumbers are numbers around the limits of blocks, and such ones whose sums do not fit.
var farNumbers = []int{
	math.MinInt, math.MinInt + 1, math.MinInt + blocks, -1 << 32, -blocks - 1, -blocks, -2, -1, 0, 1, 2, blocks - 2, blocks - 1, blocks,
	blocks + 1, 2 * blocks, 1 << 32, 1<<32 + 1, math.MaxInt - blocks, math.MaxInt - blocks + 1, math.MaxInt - 1, math.MaxInt,
}

// blockSet is a set of blocks, apart from the program: the bit of each block that it has.
type blockSet uint

// has reports whether a block is in a set.
func (set blockSet) has(block int) bool {
	return block >= 0 && block < blocks && set>>block&1 == 1
}

// blocks returns the blocks of a set.
func (set blockSet) blocks() []int {
	var list []int
	for block := range blocks {
		if set.has(block) {
			list = append(list, block)
		}
	}
	return list
}

// extents returns the valid extents of a set: each one begins with a block that the one ahead of it is not in.
func (set blockSet) extents() []impl.Extent {
	var list []impl.Extent
	for block := range blocks {
		switch {
		case set.has(block) && !set.has(block-1):
			list = append(list, impl.Extent{First: block, Many: 1})
		case set.has(block):
			list[len(list)-1].Many++
		}
	}
	return list
}

// setOf returns the set of the blocks of extents, valid or not. It fails if one of their blocks is not in range.
func setOf(list []impl.Extent) (blockSet, bool) {
	var set blockSet
	for _, x := range list {
		for i := range x.Many {
			if x.First+i < 0 || x.First+i >= blocks {
				return 0, false
			}
			set |= 1 << (x.First + i)
		}
	}
	return set, true
}

// areExtents reports whether extents are valid, apart from the program: if they are those of the set of their blocks.
func areExtents(list []impl.Extent) bool {
	set, ok := setOf(list)
	return ok && slices.Equal(set.extents(), list)
}

// withExtent returns extents with a further one at a place.
func withExtent(list []impl.Extent, at int, x impl.Extent) []impl.Extent {
	return slices.Insert(slices.Clone(list), at, x)
}

// withoutExtent returns extents without one.
func withoutExtent(list []impl.Extent, at int) []impl.Extent {
	return slices.Delete(slices.Clone(list), at, at+1)
}

// invalidExtents returns extents of which just one rule does not hold.
func invalidExtents() [][]impl.Extent {
	lists := [][]impl.Extent{
		{{First: 1, Many: 2}, {First: 3, Many: 1}},
		{{First: 0, Many: 1}, {First: 1, Many: 11}},
		{{First: 0, Many: 11}, {First: 11, Many: 1}},
		{{First: 1, Many: 4}, {First: 4, Many: 2}},
		{{First: 1, Many: 8}, {First: 3, Many: 2}},
		{{First: 3, Many: 2}, {First: 1, Many: 8}},
		{{First: 4, Many: 1}, {First: 2, Many: 1}},
		{{First: 4, Many: 1}, {First: 4, Many: 1}},
		{{First: 0, Many: blocks}, {First: 0, Many: blocks}},
		{{First: 0, Many: blocks}, {First: blocks + 1, Many: 1}},
		make([]impl.Extent, 1), make([]impl.Extent, extentMax), make([]impl.Extent, 5000),
		slices.Repeat([]impl.Extent{{First: 0, Many: 1}}, 5000),
	}
	for _, many := range []int{-1, 0, blocks + 1, math.MinInt, math.MaxInt} {
		lists = append(lists, []impl.Extent{{First: 0, Many: many}}, []impl.Extent{{First: 0, Many: 1}, {First: 5, Many: many}})
	}
	for _, first := range badBlocks {
		lists = append(lists, []impl.Extent{{First: first, Many: 1}}, []impl.Extent{{First: first, Many: 1}, {First: 5, Many: 1}})
		lists = append(lists, []impl.Extent{{First: 5, Many: 1}, {First: first, Many: 1}})
	}
	for first := range blocks {
		lists = append(lists, []impl.Extent{{First: first, Many: blocks - first + 1}}, []impl.Extent{{First: first, Many: math.MaxInt - first + 1}})
	}
	return lists
}

// invalidBlocks returns blocks that do not ascend, or one of which is not in range.
func invalidBlocks() [][]int {
	lists := [][]int{{-1}, {blocks}, {0, blocks}, {blocks - 1, blocks}, {-1, 0}, {3, 3}, {4, 3}, {1, 2, 5, 4}, {1, 1, 2, 5}, {0, 2, 1, 3}, {2, 1, 0}}
	lists = append(lists, counting(blocks+1, 0), counting(blocks+1, -1), counting(5000, 0), make([]int, 2), make([]int, 5000))
	for n := 1; n <= blocks; n++ {
		lists = append(lists, disordered(counting(n, blocks-n))...)
		for at := range n {
			for _, bad := range badBlocks {
				list := counting(n, 0)
				list[at] = bad
				lists = append(lists, list)
			}
		}
	}
	return lists
}

// somePairs calls with pairs of sets: all those of few blocks next to each other, also with the first and the last block, and
// random ones of all blocks.
func somePairs(call func(a, b blockSet)) {
	const few = 6
	for _, first := range []int{0, 2, blocks - few} {
		for a := range blockSet(1 << few) {
			for b := range blockSet(1 << few) {
				call(a<<first, b<<first)
			}
		}
	}
	r := rand.New(rand.NewPCG(25, 26))
	for range 20000 {
		call(blockSet(r.IntN(blockSets)), blockSet(r.IntN(blockSets)))
	}
	for set := range blockSet(blockSets) {
		call(set, 0)
		call(0, set)
		call(set, set)
		call(set, blockSets-1)
		call(blockSets-1, set)
		call(set, blockSets-1-set)
	}
}

// wantExtents requires the extents that a function returned.
func wantExtents(t *testing.T, got []impl.Extent, ok bool, want []impl.Extent, format string, args ...any) {
	t.Helper()
	if !ok || !slices.Equal(got, want) {
		t.Fatalf(format+" = %v, %v; want %v, true", append(args, got, ok, want)...)
	}
}

// wantNoExtents requires that a function failed, and returned no extents.
func wantNoExtents(t *testing.T, got []impl.Extent, ok bool, format string, args ...any) {
	t.Helper()
	if ok || len(got) != 0 {
		t.Fatalf(format+" = %v, %v; want nothing, false", append(args, got, ok)...)
	}
}

// wantJoin requires the extents that ExtentsJoin returns, in both orders of the arguments.
func wantJoin(t *testing.T, a, b, want []impl.Extent) {
	t.Helper()
	got, ok := impl.ExtentsJoin(a, b)
	wantExtents(t, got, ok, want, "ExtentsJoin(%v, %v)", a, b)
	got, ok = impl.ExtentsJoin(b, a)
	wantExtents(t, got, ok, want, "ExtentsJoin(%v, %v)", b, a)
}

// wantWithout requires the extents that ExtentsWithout returns.
func wantWithout(t *testing.T, a, b, want []impl.Extent) {
	t.Helper()
	got, ok := impl.ExtentsWithout(a, b)
	wantExtents(t, got, ok, want, "ExtentsWithout(%v, %v)", a, b)
}

// wantInvalid requires that no function returns anything for two arguments one of which is invalid.
func wantInvalid(t *testing.T, a, b []impl.Extent) {
	t.Helper()
	got, ok := impl.ExtentsJoin(a, b)
	wantNoExtents(t, got, ok, "ExtentsJoin(%v, %v)", a, b)
	got, ok = impl.ExtentsWithout(a, b)
	wantNoExtents(t, got, ok, "ExtentsWithout(%v, %v)", a, b)
}

func TestKnownExtents(t *testing.T) {
	for _, c := range []struct {
		blocks []int
		want   []impl.Extent
	}{
		{nil, nil},
		{[]int{}, []impl.Extent{}},
		{[]int{0}, []impl.Extent{{First: 0, Many: 1}}},
		{[]int{11}, []impl.Extent{{First: 11, Many: 1}}},
		{[]int{0, 11}, []impl.Extent{{First: 0, Many: 1}, {First: 11, Many: 1}}},
		{[]int{1, 2, 5}, []impl.Extent{{First: 1, Many: 2}, {First: 5, Many: 1}}},
		{[]int{1, 4, 5}, []impl.Extent{{First: 1, Many: 1}, {First: 4, Many: 2}}},
		{[]int{0, 1, 2, 4, 6, 7, 10, 11}, []impl.Extent{{First: 0, Many: 3}, {First: 4, Many: 1}, {First: 6, Many: 2}, {First: 10, Many: 2}}},
		{[]int{0, 1, 2, 3, 4, 5, 6, 7, 8, 9, 10, 11}, []impl.Extent{{First: 0, Many: 12}}},
		{[]int{0, 1, 2, 3, 4, 5, 6, 7, 8, 9, 10}, []impl.Extent{{First: 0, Many: 11}}},
		{[]int{0, 2, 4, 6, 8, 10}, []impl.Extent{{First: 0, Many: 1}, {First: 2, Many: 1}, {First: 4, Many: 1}, {First: 6, Many: 1}, {First: 8, Many: 1}, {First: 10, Many: 1}}},
		{[]int{1, 3, 5, 7, 9, 11}, []impl.Extent{{First: 1, Many: 1}, {First: 3, Many: 1}, {First: 5, Many: 1}, {First: 7, Many: 1}, {First: 9, Many: 1}, {First: 11, Many: 1}}},
	} {
		got, ok := impl.ExtentsOf(c.blocks)
		wantExtents(t, got, ok, c.want, "ExtentsOf(%v)", c.blocks)
		if list := impl.ExtentsBlocks(c.want); !slices.Equal(list, c.blocks) || !impl.ExtentsValid(c.want) {
			t.Fatalf("ExtentsBlocks(%v) = %v, and ExtentsValid %v; want %v, true", c.want, list, impl.ExtentsValid(c.want), c.blocks)
		}
	}
}

func TestExtentsValid(t *testing.T) {
	for set := range blockSet(blockSets) {
		if list := set.extents(); !impl.ExtentsValid(list) || len(list) > extentMax {
			t.Fatalf("ExtentsValid(%v) = %v", list, impl.ExtentsValid(list))
		}
	}
	for _, list := range invalidExtents() {
		if impl.ExtentsValid(list) {
			t.Fatalf("ExtentsValid(%v) = true", list)
		}
	}
}

// All combinations of two extents, and of one at any place among others: they may ascend or not, touch, overlap, contain each
// other, be equal, have no blocks, fewer than none, or some out of range.
func TestExtentsValidLooksAtEachExtent(t *testing.T) {
	var all []impl.Extent
	for first := -2; first <= blocks+1; first++ {
		for many := -2; many <= blocks+2; many++ {
			all = append(all, impl.Extent{First: first, Many: many})
		}
	}
	lists := [][]impl.Extent{nil, {{First: 3, Many: 1}, {First: 7, Many: 2}}, {{First: 1, Many: 2}, {First: 5, Many: 3}, {First: 11, Many: 1}}, blockSet(0b010101010101).extents()}
	for _, x := range all {
		lists = append(lists, []impl.Extent{x})
	}
	for _, list := range lists {
		for _, x := range all {
			for at := range len(list) + 1 {
				more := withExtent(list, at, x)
				if got := impl.ExtentsValid(more); got != areExtents(more) {
					t.Fatalf("ExtentsValid(%v) = %v", more, got)
				}
			}
		}
	}
}

// The sum of the first block and the number of blocks need not fit.
func TestExtentsValidOfFarNumbers(t *testing.T) {
	for _, first := range farNumbers {
		for _, many := range farNumbers {
			want := first >= 0 && first < blocks && many >= 1 && many <= blocks && first+many <= blocks
			x := impl.Extent{First: first, Many: many}
			if got := impl.ExtentsValid([]impl.Extent{x}); got != want {
				t.Fatalf("ExtentsValid of %v = %v", x, got)
			}
			behind := []impl.Extent{{First: 0, Many: 1}, x}
			if got := impl.ExtentsValid(behind); got != (want && first >= 2) {
				t.Fatalf("ExtentsValid(%v) = %v", behind, got)
			}
			ahead := []impl.Extent{x, {First: blocks - 1, Many: 1}}
			if got := impl.ExtentsValid(ahead); got != (want && first+many <= blocks-2) {
				t.Fatalf("ExtentsValid(%v) = %v", ahead, got)
			}
		}
	}
}

// An extent that begins right behind the last block of another one makes a list invalid, wherever it stands. Where it begins
// one block later, the list is valid.
func TestExtentsThatTouch(t *testing.T) {
	touching, apart := 0, 0
	for set := range blockSet(blockSets) {
		list := set.extents()
		for i, x := range list {
			for many := 2; many <= x.Many; many++ {
				parts := withExtent(list, i, impl.Extent{First: x.First, Many: many - 1})
				parts[i+1] = impl.Extent{First: x.First + many - 1, Many: x.Many - many + 1}
				if impl.ExtentsValid(parts) {
					t.Fatalf("ExtentsValid(%v) = true", parts)
				}
				wantInvalid(t, parts, list)
				wantInvalid(t, list, parts)
				touching++
				if many == x.Many {
					continue
				}
				parts[i+1] = impl.Extent{First: x.First + many, Many: x.Many - many}
				if !impl.ExtentsValid(parts) {
					t.Fatalf("ExtentsValid(%v) = false", parts)
				}
				wantJoin(t, parts, list, list)
				apart++
			}
		}
	}
	if touching < 1000 || apart < 1000 {
		t.Errorf("%d extents touch, and %d do not; want 1000 of each", touching, apart)
	}
}

// Promise 44.
func TestExtentsOf(t *testing.T) {
	for set := range blockSet(blockSets) {
		list, ok := impl.ExtentsOf(set.blocks())
		wantExtents(t, list, ok, set.extents(), "ExtentsOf(%v)", set.blocks())
		if got := impl.ExtentsBlocks(list); !slices.Equal(got, set.blocks()) || !impl.ExtentsValid(list) {
			t.Fatalf("ExtentsBlocks(%v) = %v, and ExtentsValid %v; want %v, true", list, got, impl.ExtentsValid(list), set.blocks())
		}
	}
}

// Promise 44: there are no extents of blocks that do not ascend, or are not in range.
func TestExtentsOfInvalidBlocks(t *testing.T) {
	for _, list := range invalidBlocks() {
		got, ok := impl.ExtentsOf(list)
		wantNoExtents(t, got, ok, "ExtentsOf(%v)", list)
	}
	for set := range blockSet(blockSets) {
		for _, bad := range badBlocks {
			for _, list := range [][]int{append([]int{bad}, set.blocks()...), append(set.blocks(), bad)} {
				got, ok := impl.ExtentsOf(list)
				wantNoExtents(t, got, ok, "ExtentsOf(%v)", list)
			}
		}
	}
}

// Promise 44: the blocks of all lists of up to three numbers have extents exactly if these ascend and are in range.
func TestExtentsOfShortLists(t *testing.T) {
	for a := -2; a <= blocks+1; a++ {
		for b := -2; b <= blocks+1; b++ {
			for c := -2; c <= blocks+1; c++ {
				for _, list := range [][]int{{a}, {a, b}, {a, b, c}} {
					got, ok := impl.ExtentsOf(list)
					want := list[0] >= 0 && list[len(list)-1] < blocks && (len(list) < 2 || a < b) && (len(list) < 3 || b < c)
					if !want {
						wantNoExtents(t, got, ok, "ExtentsOf(%v)", list)
					} else if set, _ := setOf(got); !ok || !slices.Equal(set.blocks(), list) || !areExtents(got) {
						t.Fatalf("ExtentsOf(%v) = %v, %v", list, got, ok)
					}
				}
			}
		}
	}
}

// Promise 45.
func TestExtentsOfTheirBlocks(t *testing.T) {
	for set := range blockSet(blockSets) {
		list := set.extents()
		got, ok := impl.ExtentsOf(impl.ExtentsBlocks(list))
		wantExtents(t, got, ok, list, "ExtentsOf the blocks of %v", list)
	}
}

// Invalid extents have no blocks, even if some of them would be valid alone.
func TestInvalidExtentsHaveNoBlocks(t *testing.T) {
	for _, list := range invalidExtents() {
		if got := impl.ExtentsBlocks(list); len(got) != 0 {
			t.Fatalf("ExtentsBlocks(%v) = %v; want none", list, got)
		}
	}
	for _, first := range farNumbers {
		for _, many := range farNumbers {
			list := []impl.Extent{{First: 0, Many: 2}, {First: first, Many: many}, {First: blocks - 1, Many: 1}}
			if got := impl.ExtentsBlocks(list); !impl.ExtentsValid(list) && len(got) != 0 {
				t.Fatalf("ExtentsBlocks(%v) = %v; want none", list, got)
			}
		}
	}
}

// Promise 46.
func TestExtentsJoin(t *testing.T) {
	somePairs(func(a, b blockSet) {
		wantJoin(t, a.extents(), b.extents(), (a | b).extents())
	})
}

// Promise 46: two extents that touch, overlap, contain each other, are equal, or leave one block between them, and extents that
// fill what others leave.
func TestExtentsJoinOfKnownExtents(t *testing.T) {
	odd, even := blockSet(0b101010101010), blockSet(0b010101010101)
	for _, c := range []struct{ a, b, want []impl.Extent }{
		{nil, nil, nil},
		{nil, []impl.Extent{{First: 3, Many: 2}}, []impl.Extent{{First: 3, Many: 2}}},
		{[]impl.Extent{}, []impl.Extent{{First: 0, Many: 1}, {First: 11, Many: 1}}, []impl.Extent{{First: 0, Many: 1}, {First: 11, Many: 1}}},
		{[]impl.Extent{{First: 3, Many: 2}}, []impl.Extent{{First: 5, Many: 1}}, []impl.Extent{{First: 3, Many: 3}}},
		{[]impl.Extent{{First: 3, Many: 2}}, []impl.Extent{{First: 6, Many: 1}}, []impl.Extent{{First: 3, Many: 2}, {First: 6, Many: 1}}},
		{[]impl.Extent{{First: 3, Many: 4}}, []impl.Extent{{First: 5, Many: 5}}, []impl.Extent{{First: 3, Many: 7}}},
		{[]impl.Extent{{First: 3, Many: 4}}, []impl.Extent{{First: 6, Many: 1}}, []impl.Extent{{First: 3, Many: 4}}},
		{[]impl.Extent{{First: 3, Many: 4}}, []impl.Extent{{First: 3, Many: 1}}, []impl.Extent{{First: 3, Many: 4}}},
		{[]impl.Extent{{First: 3, Many: 4}}, []impl.Extent{{First: 4, Many: 2}}, []impl.Extent{{First: 3, Many: 4}}},
		{[]impl.Extent{{First: 3, Many: 4}}, []impl.Extent{{First: 3, Many: 4}}, []impl.Extent{{First: 3, Many: 4}}},
		{[]impl.Extent{{First: 0, Many: 12}}, []impl.Extent{{First: 0, Many: 12}}, []impl.Extent{{First: 0, Many: 12}}},
		{[]impl.Extent{{First: 0, Many: 6}}, []impl.Extent{{First: 6, Many: 6}}, []impl.Extent{{First: 0, Many: 12}}},
		{[]impl.Extent{{First: 1, Many: 2}, {First: 5, Many: 1}}, []impl.Extent{{First: 3, Many: 2}}, []impl.Extent{{First: 1, Many: 5}}},
		{[]impl.Extent{{First: 1, Many: 2}, {First: 5, Many: 2}}, []impl.Extent{{First: 2, Many: 9}}, []impl.Extent{{First: 1, Many: 10}}},
		{[]impl.Extent{{First: 1, Many: 1}, {First: 4, Many: 1}, {First: 9, Many: 2}}, []impl.Extent{{First: 2, Many: 2}, {First: 6, Many: 1}}, []impl.Extent{{First: 1, Many: 4}, {First: 6, Many: 1}, {First: 9, Many: 2}}},
		{odd.extents(), even.extents(), []impl.Extent{{First: 0, Many: 12}}},
		{odd.extents(), []impl.Extent{{First: 0, Many: 1}}, []impl.Extent{{First: 0, Many: 2}, {First: 3, Many: 1}, {First: 5, Many: 1}, {First: 7, Many: 1}, {First: 9, Many: 1}, {First: 11, Many: 1}}},
		{even.extents(), []impl.Extent{{First: 11, Many: 1}}, []impl.Extent{{First: 0, Many: 1}, {First: 2, Many: 1}, {First: 4, Many: 1}, {First: 6, Many: 1}, {First: 8, Many: 1}, {First: 10, Many: 2}}},
		{odd.extents(), []impl.Extent{{First: 2, Many: 9}}, []impl.Extent{{First: 1, Many: 11}}},
	} {
		wantJoin(t, c.a, c.b, c.want)
	}
}

// Promise 47.
func TestExtentsWithout(t *testing.T) {
	somePairs(func(a, b blockSet) {
		wantWithout(t, a.extents(), b.extents(), (a &^ b).extents())
	})
}

// Promise 47: extents are split in two, or lose their beginning, their end, both, or all of their blocks; others next to what is
// removed stay.
func TestExtentsWithoutKnownExtents(t *testing.T) {
	odd, even := blockSet(0b101010101010), blockSet(0b010101010101)
	for _, c := range []struct{ a, b, want []impl.Extent }{
		{nil, nil, nil},
		{nil, []impl.Extent{{First: 3, Many: 2}}, nil},
		{[]impl.Extent{{First: 3, Many: 2}}, []impl.Extent{}, []impl.Extent{{First: 3, Many: 2}}},
		{[]impl.Extent{{First: 3, Many: 4}}, []impl.Extent{{First: 4, Many: 2}}, []impl.Extent{{First: 3, Many: 1}, {First: 6, Many: 1}}},
		{[]impl.Extent{{First: 3, Many: 4}}, []impl.Extent{{First: 3, Many: 1}}, []impl.Extent{{First: 4, Many: 3}}},
		{[]impl.Extent{{First: 3, Many: 4}}, []impl.Extent{{First: 1, Many: 4}}, []impl.Extent{{First: 5, Many: 2}}},
		{[]impl.Extent{{First: 3, Many: 4}}, []impl.Extent{{First: 6, Many: 1}}, []impl.Extent{{First: 3, Many: 3}}},
		{[]impl.Extent{{First: 3, Many: 4}}, []impl.Extent{{First: 5, Many: 7}}, []impl.Extent{{First: 3, Many: 2}}},
		{[]impl.Extent{{First: 3, Many: 4}}, []impl.Extent{{First: 3, Many: 4}}, nil},
		{[]impl.Extent{{First: 3, Many: 4}}, []impl.Extent{{First: 2, Many: 6}}, nil},
		{[]impl.Extent{{First: 3, Many: 4}}, []impl.Extent{{First: 2, Many: 1}, {First: 7, Many: 1}}, []impl.Extent{{First: 3, Many: 4}}},
		{[]impl.Extent{{First: 3, Many: 4}}, []impl.Extent{{First: 2, Many: 2}, {First: 6, Many: 2}}, []impl.Extent{{First: 4, Many: 2}}},
		{[]impl.Extent{{First: 0, Many: 12}}, []impl.Extent{{First: 0, Many: 1}, {First: 11, Many: 1}}, []impl.Extent{{First: 1, Many: 10}}},
		{[]impl.Extent{{First: 0, Many: 12}}, []impl.Extent{{First: 0, Many: 12}}, nil},
		{[]impl.Extent{{First: 0, Many: 12}}, odd.extents(), even.extents()},
		{[]impl.Extent{{First: 0, Many: 12}}, even.extents(), odd.extents()},
		{odd.extents(), even.extents(), odd.extents()},
		{odd.extents(), []impl.Extent{{First: 0, Many: 12}}, nil},
		{odd.extents(), []impl.Extent{{First: 2, Many: 7}}, []impl.Extent{{First: 1, Many: 1}, {First: 9, Many: 1}, {First: 11, Many: 1}}},
		{[]impl.Extent{{First: 1, Many: 2}, {First: 5, Many: 1}}, []impl.Extent{{First: 2, Many: 4}}, []impl.Extent{{First: 1, Many: 1}}},
		{[]impl.Extent{{First: 1, Many: 3}, {First: 5, Many: 3}, {First: 10, Many: 2}}, []impl.Extent{{First: 3, Many: 3}, {First: 9, Many: 2}}, []impl.Extent{{First: 1, Many: 2}, {First: 6, Many: 2}, {First: 11, Many: 1}}},
	} {
		wantWithout(t, c.a, c.b, c.want)
	}
}

// Promise 48.
func TestExtentsWithoutAndWhatIsLeft(t *testing.T) {
	somePairs(func(a, b blockSet) {
		first := a.extents()
		left, _ := impl.ExtentsWithout(first, b.extents())
		rest, ok := impl.ExtentsWithout(first, left)
		wantExtents(t, rest, ok, (a & b).extents(), "ExtentsWithout(%v, %v)", first, left)
		wantJoin(t, left, rest, first)
	})
}

// Promise 49.
func TestExtentsJoinHasNoMoreThanBoth(t *testing.T) {
	most := 0
	somePairs(func(a, b blockSet) {
		one, other := a.extents(), b.extents()
		both, _ := impl.ExtentsJoin(one, other)
		if len(both) > len(one)+len(other) {
			t.Fatalf("ExtentsJoin(%v, %v) = %v", one, other, both)
		}
		most = max(most, len(both))
	})
	if most != extentMax {
		t.Errorf("at most %d extents arose; want %d", most, extentMax)
	}
}

// Promise 50. One without blocks may begin anywhere and stand at any place; so may one that is there twice.
func TestExtentsWithoutOneAndWithOneTwice(t *testing.T) {
	for set := range blockSet(blockSets) {
		list := set.extents()
		for at := range len(list) + 1 {
			for first := -1; first <= blocks; first++ {
				if more := withExtent(list, at, impl.Extent{First: first, Many: 0}); impl.ExtentsValid(more) {
					t.Fatalf("ExtentsValid(%v) = true", more)
				}
			}
		}
		for i, x := range list {
			if less := withoutExtent(list, i); !impl.ExtentsValid(less) {
				t.Fatalf("ExtentsValid(%v) = false", less)
			}
			empty := slices.Clone(list)
			empty[i].Many = 0
			if impl.ExtentsValid(empty) {
				t.Fatalf("ExtentsValid(%v) = true", empty)
			}
			for at := range len(list) + 1 {
				if more := withExtent(list, at, x); impl.ExtentsValid(more) {
					t.Fatalf("ExtentsValid(%v) = true", more)
				}
			}
		}
	}
}

// General rules: what is returned if the first argument is invalid, the second one, or both. It does not matter what blocks the
// other one has.
func TestInvalidExtentsLeadToNothing(t *testing.T) {
	valid := [][]impl.Extent{nil, {}, {{First: 0, Many: 1}}, {{First: 2, Many: 3}, {First: 8, Many: 4}}, {{First: 0, Many: blocks}}, blockSet(0b101010101010).extents()}
	for _, list := range invalidExtents() {
		for _, other := range slices.Concat(valid, invalidExtents()) {
			wantInvalid(t, list, other)
			wantInvalid(t, other, list)
		}
		wantInvalid(t, list, list)
	}
}

// Promises 44 to 49: whatever is done one after the other, each result is a valid list of extents, and no earlier one changes.
func TestManyExtentsOneAfterTheOther(t *testing.T) {
	r := rand.New(rand.NewPCG(27, 28))
	for range 200 {
		var set blockSet
		var list []impl.Extent
		for range 60 {
			var got []impl.Extent
			var ok bool
			before, other := slices.Clone(list), blockSet(r.IntN(blockSets)&r.IntN(blockSets))
			if r.IntN(2) == 0 {
				set |= other
				got, ok = impl.ExtentsJoin(list, other.extents())
			} else {
				set &^= other
				got, ok = impl.ExtentsWithout(list, other.extents())
			}
			wantExtents(t, got, ok, set.extents(), "of %v and %v arose", before, other.extents())
			if !impl.ExtentsValid(got) || !slices.Equal(list, before) || !slices.Equal(impl.ExtentsBlocks(got), set.blocks()) {
				t.Fatalf("the extents are %v, and were %v; these are %v now", got, before, list)
			}
			list = got
		}
	}
}

// General rules: no argument is changed, and no result shares memory, also where it is the same as an argument.
func TestExtentsKeepArgumentsAndShareNoMemory(t *testing.T) {
	other := impl.Extent{First: 6, Many: 1}
	ofBlocks := func(list []impl.Extent) ([]int, bool) { return impl.ExtentsBlocks(list), true }
	valid := func(list []impl.Extent) ([]bool, bool) { return nil, impl.ExtentsValid(list) }
	check := func(a, b []impl.Extent) {
		for _, call := range []func(a, b []impl.Extent) ([]impl.Extent, bool){impl.ExtentsJoin, impl.ExtentsWithout} {
			checkMemory(t, func(list []impl.Extent) ([]impl.Extent, bool) { return call(list, b) }, a, other, other)
			checkMemory(t, func(list []impl.Extent) ([]impl.Extent, bool) { return call(a, list) }, b, other, other)
			checkMemory(t, func(list []impl.Extent) ([]impl.Extent, bool) { return call(list, list) }, a, other, other)
		}
		checkMemory(t, ofBlocks, a, other, 3)
		checkMemory(t, valid, a, other, true)
	}
	for set := range blockSet(blockSets) {
		checkMemory(t, impl.ExtentsOf, set.blocks(), 3, other)
		for _, with := range []blockSet{0, 1, 0b100000000000, 0b000011110000, blockSets - 1, set} {
			check(set.extents(), with.extents())
		}
	}
	for _, list := range invalidExtents() {
		check(list, twoExtents())
		check(twoExtents(), list)
	}
	for _, list := range invalidBlocks() {
		checkMemory(t, impl.ExtentsOf, list, 3, other)
	}
}

// twoExtents returns two extents that are apart from the first and the last block.
func twoExtents() []impl.Extent {
	return []impl.Extent{{First: 2, Many: 2}, {First: 8, Many: 1}}
}

// Two arguments may be parts of the same memory, one behind the other.
func TestExtentsThatShareMemoryInTheArguments(t *testing.T) {
	memory := []impl.Extent{{First: 0, Many: 2}, {First: 4, Many: 1}, {First: 8, Many: 1}, {First: 5, Many: 1}, {First: 8, Many: 2}}
	kept := slices.Clone(memory)
	for n := range 4 {
		a, b := memory[:n], memory[3:]
		one, _ := setOf(a)
		other, _ := setOf(b)
		wantJoin(t, a, b, (one | other).extents())
		wantWithout(t, a, b, (one &^ other).extents())
		wantWithout(t, b, a, (other &^ one).extents())
		if !slices.Equal(memory, kept) {
			t.Fatalf("the arguments are %v; want %v", memory, kept)
		}
	}
}

// A nil slice and an empty one are the same.
func TestExtentsWithNilAndEmptySlices(t *testing.T) {
	none, some := [][]impl.Extent{nil, {}, twoExtents()[:0]}, twoExtents()
	for _, a := range none {
		if !impl.ExtentsValid(a) || len(impl.ExtentsBlocks(a)) != 0 {
			t.Errorf("without extents, there are the blocks %v, and ExtentsValid is %v", impl.ExtentsBlocks(a), impl.ExtentsValid(a))
		}
		for _, b := range none {
			wantJoin(t, a, b, nil)
			wantWithout(t, a, b, nil)
		}
		wantJoin(t, a, some, some)
		wantWithout(t, a, some, nil)
		wantWithout(t, some, a, some)
		wantInvalid(t, a, make([]impl.Extent, 1))
		wantInvalid(t, make([]impl.Extent, 1), a)
	}
	for _, list := range [][]int{nil, {}, {1, 2}} {
		got, ok := impl.ExtentsOf(list[:0])
		wantExtents(t, got, ok, nil, "ExtentsOf(%v)", list[:0])
	}
}

package tests

import (
	"math"
	"math/rand/v2"
	"slices"
	"testing"

	"loop.example/tiervolume/impl"
)

// As in the tests of frames, the numbers of the document are written out.
const (
	blocks   = 12
	valueMax = 99
	pairMax  = 9
	packMax  = 6
)

// Numbers that are out of range in one field each.
var (
	badBlocks  = []int{-1, -2, -blocks, blocks, blocks + 1, 2 * blocks, wordMax, math.MinInt, math.MaxInt}
	badValues  = []int{-1, -valueMax, valueMax + 1, valueMax + 2, wordMax, wordMax + 1, math.MinInt, math.MaxInt}
	badIds     = []int{0, -1, -seqMax, seqMax + 1, seqMax + 2, wordMax, wordMax + 1, math.MinInt, math.MaxInt}
	badIndexes = []int{-1, -packMax, packMax, packMax + 1, wordMax, wordMax + 1, math.MinInt, math.MaxInt}
)

// pairWords returns the words of values, valid or not, apart from the program.
func pairWords(list []impl.Pair) []int {
	var words []int
	for _, p := range list {
		words = append(words, p.Block, p.Value)
	}
	return words
}

// coldWords returns the words of places, valid or not, apart from the program.
func coldWords(list []impl.Cold) []int {
	var words []int
	for _, c := range list {
		words = append(words, c.Block, c.Id, c.Index)
	}
	return words
}

// pairsFrom returns n values of neighbouring blocks, from first on.
func pairsFrom(first int, n int, value int) []impl.Pair {
	list := make([]impl.Pair, n)
	for i := range list {
		list[i] = impl.Pair{Block: first + i, Value: value}
	}
	return list
}

// coldFrom returns n places of neighbouring blocks, from first on.
func coldFrom(first int, n int, id int, index int) []impl.Cold {
	list := make([]impl.Cold, n)
	for i := range list {
		list[i] = impl.Cold{Block: first + i, Id: id, Index: index}
	}
	return list
}

// someBlocks returns n blocks in ascending order.
func someBlocks(r *rand.Rand, n int) []int {
	list := r.Perm(blocks)[:n]
	slices.Sort(list)
	return list
}

// validPairs returns values of all lengths that a body has, with the least and the largest blocks and values.
func validPairs() [][]impl.Pair {
	lists := [][]impl.Pair{
		{{Block: 1, Value: 7}, {Block: 3, Value: 0}},
		{{Block: 0, Value: 0}, {Block: blocks - 1, Value: valueMax}},
		pairsFrom(0, pairMax, 0),
		pairsFrom(blocks-pairMax, pairMax, valueMax),
	}
	for block := range blocks {
		lists = append(lists, pairsFrom(block, 1, 0), pairsFrom(block, 1, 1), pairsFrom(block, 1, valueMax))
	}
	r := rand.New(rand.NewPCG(7, 8))
	for n := 1; n <= pairMax; n++ {
		for range 5 {
			var list []impl.Pair
			for _, block := range someBlocks(r, n) {
				list = append(list, impl.Pair{Block: block, Value: r.IntN(valueMax + 1)})
			}
			lists = append(lists, list)
		}
	}
	return lists
}

// validCold returns places of all lengths that a body has, with the least and the largest numbers in each field.
func validCold() [][]impl.Cold {
	lists := [][]impl.Cold{
		{{Block: 1, Id: 9, Index: 2}},
		{{Block: 0, Id: 1, Index: packMax - 1}, {Block: blocks - 1, Id: seqMax, Index: 0}},
		coldFrom(0, packMax, 1, 0),
		coldFrom(blocks-packMax, packMax, seqMax, packMax-1),
	}
	for block := range blocks {
		lists = append(lists, coldFrom(block, 1, 1, packMax-1), coldFrom(block, 1, seqMax, 0))
	}
	r := rand.New(rand.NewPCG(9, 10))
	for n := 1; n <= packMax; n++ {
		for range 5 {
			var list []impl.Cold
			for _, block := range someBlocks(r, n) {
				list = append(list, impl.Cold{Block: block, Id: 1 + r.IntN(seqMax), Index: r.IntN(packMax)})
			}
			lists = append(lists, list)
		}
	}
	return lists
}

// disordered returns lists made from one whose blocks ascend, in which they do not: with one element twice, and with two
// exchanged, at the beginning, at the end and everywhere between.
func disordered[T any](list []T) [][]T {
	lists := [][]T{append(slices.Clone(list), list[0]), append([]T{list[len(list)-1]}, list...)}
	for i := range list {
		lists = append(lists, slices.Insert(slices.Clone(list), i, list[i]))
		for j := range i {
			exchanged := slices.Clone(list)
			exchanged[i], exchanged[j] = list[j], list[i]
			lists = append(lists, exchanged)
		}
	}
	return lists
}

// invalidPairs returns values of which just one rule does not hold.
func invalidPairs() [][]impl.Pair {
	lists := [][]impl.Pair{nil, {}, pairsFrom(0, pairMax+1, 5), pairsFrom(0, blocks, 5), pairsFrom(0, blocks+1, 5), pairsFrom(0, 5000, 5), make([]impl.Pair, 2), make([]impl.Pair, 5000)}
	lists = append(lists, []impl.Pair{{Block: 4, Value: 1}, {Block: 4, Value: 2}})
	for _, n := range []int{2, 3, pairMax - 1} {
		lists = append(lists, disordered(pairsFrom(2, n, 5))...)
	}
	for _, n := range []int{1, 2, 3, pairMax} {
		for at := range n {
			for _, bad := range badBlocks {
				list := pairsFrom(1, n, 5)
				list[at].Block = bad
				lists = append(lists, list)
			}
			for _, bad := range badValues {
				list := pairsFrom(1, n, 5)
				list[at].Value = bad
				lists = append(lists, list)
			}
		}
	}
	return lists
}

// invalidCold returns places of which just one rule does not hold.
func invalidCold() [][]impl.Cold {
	lists := [][]impl.Cold{nil, {}, coldFrom(0, packMax+1, 5, 1), coldFrom(0, blocks, 5, 1), coldFrom(0, blocks+1, 5, 1), coldFrom(0, 5000, 5, 1), coldFrom(3, 1, 0, 0), make([]impl.Cold, 5000)}
	lists = append(lists, []impl.Cold{{Block: 4, Id: 5, Index: 0}, {Block: 4, Id: 6, Index: 1}})
	for _, n := range []int{2, 3, packMax - 1} {
		lists = append(lists, disordered(coldFrom(2, n, 5, 1))...)
	}
	for _, n := range []int{1, 2, 3, packMax} {
		for at := range n {
			for _, bad := range badBlocks {
				list := coldFrom(1, n, 5, 1)
				list[at].Block = bad
				lists = append(lists, list)
			}
			for _, bad := range badIds {
				list := coldFrom(1, n, 5, 1)
				list[at].Id = bad
				lists = append(lists, list)
			}
			for _, bad := range badIndexes {
				list := coldFrom(1, n, 5, 1)
				list[at].Index = bad
				lists = append(lists, list)
			}
		}
	}
	return lists
}

// wantPairs requires that values have a body, and that this has these values.
func wantPairs(t *testing.T, list []impl.Pair) {
	t.Helper()
	words := pairWords(list)
	if body, ok := impl.PairsPut(list); !ok || !slices.Equal(body, words) {
		t.Fatalf("PairsPut(%v) = %v, %v; want %v, true", list, body, ok, words)
	}
	if got, ok := impl.PairsGet(words); !ok || !slices.Equal(got, list) {
		t.Fatalf("PairsGet(%v) = %v, %v; want %v, true", words, got, ok, list)
	}
}

// wantNoPairsBody requires that values have no body.
func wantNoPairsBody(t *testing.T, list []impl.Pair) {
	t.Helper()
	if body, ok := impl.PairsPut(list); ok || len(body) != 0 {
		t.Fatalf("PairsPut(%v) = %v, %v; want nothing, false", list, body, ok)
	}
}

// wantNoPairs requires that a body has no values.
func wantNoPairs(t *testing.T, body []int) {
	t.Helper()
	if got, ok := impl.PairsGet(body); ok || len(got) != 0 {
		t.Fatalf("PairsGet(%v) = %v, %v; want nothing, false", body, got, ok)
	}
}

// wantCold requires that places have a body, and that this has these places.
func wantCold(t *testing.T, list []impl.Cold) {
	t.Helper()
	words := coldWords(list)
	if body, ok := impl.ColdPut(list); !ok || !slices.Equal(body, words) {
		t.Fatalf("ColdPut(%v) = %v, %v; want %v, true", list, body, ok, words)
	}
	if got, ok := impl.ColdGet(words); !ok || !slices.Equal(got, list) {
		t.Fatalf("ColdGet(%v) = %v, %v; want %v, true", words, got, ok, list)
	}
}

// wantNoColdBody requires that places have no body.
func wantNoColdBody(t *testing.T, list []impl.Cold) {
	t.Helper()
	if body, ok := impl.ColdPut(list); ok || len(body) != 0 {
		t.Fatalf("ColdPut(%v) = %v, %v; want nothing, false", list, body, ok)
	}
}

// wantNoCold requires that a body has no places.
func wantNoCold(t *testing.T, body []int) {
	t.Helper()
	if got, ok := impl.ColdGet(body); ok || len(got) != 0 {
		t.Fatalf("ColdGet(%v) = %v, %v; want nothing, false", body, got, ok)
	}
}

func TestBodyConstants(t *testing.T) {
	got := []int{impl.Blocks, impl.ValueMax, impl.PairMax, impl.PackMax}
	if want := []int{12, 99, 9, 6}; !slices.Equal(got, want) {
		t.Errorf("the constants are %v; want %v", got, want)
	}
}

func TestKnownBodies(t *testing.T) {
	body, ok := impl.PairsPut([]impl.Pair{{Block: 1, Value: 7}, {Block: 3, Value: 0}})
	if !ok || !slices.Equal(body, []int{1, 7, 3, 0}) {
		t.Errorf("PairsPut returned %v, %v", body, ok)
	}
	body, ok = impl.ColdPut([]impl.Cold{{Block: 1, Id: 9, Index: 2}, {Block: 4, Id: 9, Index: 0}})
	if !ok || !slices.Equal(body, []int{1, 9, 2, 4, 9, 0}) {
		t.Errorf("ColdPut returned %v, %v", body, ok)
	}
}

// Promise 12.
func TestPairsGetReturnsWhatWasPut(t *testing.T) {
	for _, list := range validPairs() {
		body, ok := impl.PairsPut(list)
		if !ok || len(body) != 2*len(list) {
			t.Fatalf("PairsPut(%v) = %v, %v; want two words for each", list, body, ok)
		}
		if got, fine := impl.PairsGet(body); !fine || !slices.Equal(got, list) {
			t.Fatalf("PairsGet(%v) = %v, %v; want %v, true", body, got, fine, list)
		}
		wantPairs(t, list)
	}
}

// Promises 12 and 16: without valid values, there is no body.
func TestInvalidPairsHaveNoBody(t *testing.T) {
	for _, list := range invalidPairs() {
		wantNoPairsBody(t, list)
	}
}

// Promise 13: what is not the body of valid values has none.
func TestInvalidBodiesHaveNoPairs(t *testing.T) {
	for _, list := range invalidPairs() {
		wantNoPairs(t, pairWords(list))
	}
}

// nearBodies returns bodies with so many words for each block, for at most one block more than is allowed, and with words left
// over: valid ones, and ones in which one or two words, around the limits of all fields, may be wrong.
func nearBodies(r *rand.Rand, width int, most int) [][]int {
	near := []int{-1, 0, 1, 2, 3, 4, 5, 6, 7, 10, 11, 12, 99, 100, 999, 1000}
	var bodies [][]int
	for range 20000 {
		body := make([]int, r.IntN(width*(most+1)+width))
		for i := range body {
			body[i] = 1 + r.IntN(packMax-1)
			if i%width == 0 {
				body[i] = i / width
			}
		}
		for range min(len(body), r.IntN(3)) {
			body[r.IntN(len(body))] = near[r.IntN(len(near))]
		}
		bodies = append(bodies, body)
	}
	return bodies
}

// Promise 13: whatever the words are, PairsGet has values just for bodies of PairsPut.
func TestPairsPutOfWhatWasGot(t *testing.T) {
	some, none := 0, 0
	for _, body := range nearBodies(rand.New(rand.NewPCG(11, 12)), 2, pairMax) {
		valid := len(body)%2 == 0 && len(body) >= 2 && len(body) <= 2*pairMax
		for i := 0; valid && i < len(body); i += 2 {
			valid = body[i] >= 0 && body[i] < blocks && body[i+1] >= 0 && body[i+1] <= valueMax && (i == 0 || body[i] > body[i-2])
		}
		if !valid {
			wantNoPairs(t, body)
			none++
			continue
		}
		list, ok := impl.PairsGet(body)
		again, fine := impl.PairsPut(list)
		if !ok || !fine || !slices.Equal(again, body) {
			t.Fatalf("PairsGet(%v) = %v, %v, and PairsPut of it %v, %v", body, list, ok, again, fine)
		}
		some++
	}
	if some < 1000 || none < 1000 {
		t.Errorf("there were %d bodies of values and %d others; want 1000 of both", some, none)
	}
}

// Promise 14.
func TestPairsWithoutOneAndWithOneTwice(t *testing.T) {
	for _, list := range validPairs() {
		for i := range list {
			less := slices.Delete(slices.Clone(list), i, i+1)
			if len(less) > 0 {
				wantPairs(t, less)
			}
		}
		for _, more := range disordered(list) {
			wantNoPairsBody(t, more)
			wantNoPairs(t, pairWords(more))
		}
	}
	wantNoPairsBody(t, []impl.Pair{{Block: 5, Value: 1}, {Block: 5, Value: 2}})
	wantNoPairsBody(t, []impl.Pair{{Block: 0, Value: 0}, {Block: 0, Value: 0}})
}

// Promise 15. The last words are still behind the end of a shorter slice of the same memory.
func TestPairsGetNeedsAllWords(t *testing.T) {
	wantNoPairs(t, nil)
	wantNoPairs(t, []int{})
	for _, list := range validPairs() {
		body := pairWords(list)
		for n := 1; n < len(body); n += 2 {
			wantNoPairs(t, body[:n])
			wantNoPairs(t, slices.Clip(slices.Clone(body[:n])))
			wantNoPairs(t, body[len(body)-n:])
		}
		wantNoPairs(t, body[:0])
		for _, w := range []int{-1, 0, 1, blocks, wordMax} {
			wantNoPairs(t, append(slices.Clone(body), w))
		}
	}
}

// Promise 16.
func TestPairsWithOtherValues(t *testing.T) {
	for _, list := range validPairs() {
		zeros := slices.Clone(list)
		for i := range zeros {
			zeros[i].Value = 0
		}
		wantPairs(t, zeros)
		for i := range list {
			changed := slices.Clone(list)
			for _, value := range []int{0, 1, valueMax - 1, valueMax} {
				changed[i].Value = value
				wantPairs(t, changed)
			}
			for _, bad := range badValues {
				changed[i].Value = bad
				wantNoPairsBody(t, changed)
				wantNoPairs(t, pairWords(changed))
			}
		}
	}
}

// The number of values is limited, even if there are more blocks.
func TestPairsAtTheirLimits(t *testing.T) {
	for n := range blocks + 3 {
		list := pairsFrom(0, n, 3)
		if n >= 1 && n <= pairMax {
			wantPairs(t, list)
			continue
		}
		wantNoPairsBody(t, list)
		wantNoPairs(t, pairWords(list))
	}
	for _, n := range []int{2*pairMax + 1, 2*pairMax + 2, 2 * blocks, 1000, 100001} {
		wantNoPairs(t, make([]int, n))
		wantNoPairs(t, counting(n, 0))
	}
}

// Promise 17.
func TestColdGetReturnsWhatWasPut(t *testing.T) {
	for _, list := range validCold() {
		body, ok := impl.ColdPut(list)
		if !ok || len(body) != 3*len(list) {
			t.Fatalf("ColdPut(%v) = %v, %v; want three words for each", list, body, ok)
		}
		if got, fine := impl.ColdGet(body); !fine || !slices.Equal(got, list) {
			t.Fatalf("ColdGet(%v) = %v, %v; want %v, true", body, got, fine, list)
		}
		wantCold(t, list)
	}
}

// Promise 17: without valid places, there is no body.
func TestInvalidColdHasNoBody(t *testing.T) {
	for _, list := range invalidCold() {
		wantNoColdBody(t, list)
	}
}

// Promise 18: what is not the body of valid places has none.
func TestInvalidBodiesHaveNoCold(t *testing.T) {
	for _, list := range invalidCold() {
		wantNoCold(t, coldWords(list))
	}
}

// Promise 18: whatever the words are, ColdGet has places just for bodies of ColdPut.
func TestColdPutOfWhatWasGot(t *testing.T) {
	some, none := 0, 0
	for _, body := range nearBodies(rand.New(rand.NewPCG(13, 14)), 3, packMax) {
		valid := len(body)%3 == 0 && len(body) >= 3 && len(body) <= 3*packMax
		for i := 0; valid && i < len(body); i += 3 {
			valid = body[i] >= 0 && body[i] < blocks && body[i+1] >= 1 && body[i+1] <= seqMax && body[i+2] >= 0 && body[i+2] < packMax && (i == 0 || body[i] > body[i-3])
		}
		if !valid {
			wantNoCold(t, body)
			none++
			continue
		}
		list, ok := impl.ColdGet(body)
		again, fine := impl.ColdPut(list)
		if !ok || !fine || !slices.Equal(again, body) {
			t.Fatalf("ColdGet(%v) = %v, %v, and ColdPut of it %v, %v", body, list, ok, again, fine)
		}
		some++
	}
	if some < 1000 || none < 1000 {
		t.Errorf("there were %d bodies of places and %d others; want 1000 of both", some, none)
	}
}

// Promise 19.
func TestColdWithoutOneAndWithOneTwice(t *testing.T) {
	for _, list := range validCold() {
		for i := range list {
			less := slices.Delete(slices.Clone(list), i, i+1)
			if len(less) > 0 {
				wantCold(t, less)
			}
		}
		for _, more := range disordered(list) {
			wantNoColdBody(t, more)
			wantNoCold(t, coldWords(more))
		}
	}
	wantNoColdBody(t, []impl.Cold{{Block: 5, Id: 1, Index: 0}, {Block: 5, Id: 2, Index: 1}})
	wantNoColdBody(t, []impl.Cold{{Block: 0, Id: 1, Index: 0}, {Block: 0, Id: 1, Index: 0}})
}

// Two blocks may be at one place.
func TestColdWithOnePlaceForAll(t *testing.T) {
	wantCold(t, []impl.Cold{{Block: 2, Id: 8, Index: 3}, {Block: 7, Id: 8, Index: 3}})
	wantCold(t, []impl.Cold{{Block: 2, Id: 9, Index: 5}, {Block: 7, Id: 8, Index: 4}})
}

// Promise 20. The last words are still behind the end of a shorter slice of the same memory.
func TestColdGetNeedsAllWords(t *testing.T) {
	wantNoCold(t, nil)
	wantNoCold(t, []int{})
	for _, list := range validCold() {
		body := coldWords(list)
		for n := range body {
			if n%3 == 0 && n > 0 {
				continue
			}
			wantNoCold(t, body[:n])
			wantNoCold(t, slices.Clip(slices.Clone(body[:n])))
			wantNoCold(t, body[len(body)-n:])
		}
		for _, w := range []int{-1, 0, 1, blocks, wordMax} {
			wantNoCold(t, append(slices.Clone(body), w))
			wantNoCold(t, append(slices.Clone(body), w, 1))
		}
	}
}

// Promise 21, and the same for all places and all other numbers.
func TestColdWithOtherObjectsAndPlaces(t *testing.T) {
	for _, list := range validCold() {
		for i := range list {
			changed := slices.Clone(list)
			for _, id := range []int{1, 2, seqMax - 1, seqMax} {
				changed[i].Id = id
				wantCold(t, changed)
			}
			for _, bad := range badIds {
				changed[i].Id = bad
				wantNoColdBody(t, changed)
				wantNoCold(t, coldWords(changed))
			}
			changed[i].Id = list[i].Id
			for index := range packMax {
				changed[i].Index = index
				wantCold(t, changed)
			}
			for _, bad := range badIndexes {
				changed[i].Index = bad
				wantNoColdBody(t, changed)
				wantNoCold(t, coldWords(changed))
			}
		}
	}
}

// The number of places is limited, even if there are more blocks.
func TestColdAtItsLimits(t *testing.T) {
	for n := range blocks + 3 {
		list := coldFrom(0, n, 3, 1)
		if n >= 1 && n <= packMax {
			wantCold(t, list)
			continue
		}
		wantNoColdBody(t, list)
		wantNoCold(t, coldWords(list))
	}
	for _, n := range []int{3*packMax + 1, 3*packMax + 2, 3*packMax + 3, 3 * blocks, 1000, 100001} {
		wantNoCold(t, make([]int, n))
		wantNoCold(t, counting(n, 0))
	}
}

// All bodies fit into a frame.
func TestBodiesFitIntoFrames(t *testing.T) {
	body, _ := impl.PairsPut(pairsFrom(0, pairMax, valueMax))
	if f := (impl.Frame{Kind: impl.KindHot, Seq: 1, Body: body}); len(body) != bodyMax || !impl.FrameValid(f) {
		t.Errorf("%v is not valid", f)
	}
	body, _ = impl.ColdPut(coldFrom(0, packMax, seqMax, packMax-1))
	if f := (impl.Frame{Kind: impl.KindCold, Seq: 1, Body: body}); len(body) != bodyMax || !impl.FrameValid(f) {
		t.Errorf("%v is not valid", f)
	}
}

// checkMemory requires, of a function from one list to another, that it leaves its argument, spare capacity included, as it is,
// and that its results share no memory with it or with each other. The two others are written over all memory.
func checkMemory[A, B comparable](t *testing.T, call func([]A) ([]B, bool), list []A, otherA A, otherB B) {
	t.Helper()
	memory := append(slices.Clone(list), otherA, otherA, otherA)
	kept := slices.Clone(memory)
	first, ok := call(memory[:len(list)])
	second, _ := call(memory[:len(list)])
	keptFirst := slices.Clone(first)
	second = second[:cap(second)]
	for i := range second {
		second[i] = otherB
	}
	if !slices.Equal(memory, kept) || !slices.Equal(first, keptFirst) {
		t.Fatalf("for %v, an argument was changed, or results share memory", list)
	}
	for i := range memory {
		memory[i] = otherA
	}
	if !slices.Equal(first, keptFirst) {
		t.Fatalf("for %v, a result shares memory with an argument", list)
	}
	// What a call returned for the same argument does not depend on what was done before.
	if third, fine := call(kept[:len(list)]); fine != ok || !slices.Equal(third, keptFirst) {
		t.Fatalf("for %v, a later call returned %v, %v; want %v, %v", list, third, fine, keptFirst, ok)
	}
}

// General rules: arguments, valid or not, are not changed, and results share no memory.
func TestBodiesKeepArgumentsAndShareNoMemory(t *testing.T) {
	pair, cold := impl.Pair{Block: 77, Value: 77}, impl.Cold{Block: 77, Id: 77, Index: 77}
	for _, list := range slices.Concat(validPairs(), invalidPairs()) {
		checkMemory(t, impl.PairsPut, list, pair, 77)
		checkMemory(t, impl.PairsGet, pairWords(list), 77, pair)
	}
	for _, list := range slices.Concat(validCold(), invalidCold()) {
		checkMemory(t, impl.ColdPut, list, cold, 77)
		checkMemory(t, impl.ColdGet, coldWords(list), 77, cold)
	}
}

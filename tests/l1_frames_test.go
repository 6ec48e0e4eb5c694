package tests

import (
	"math"
	"math/rand/v2"
	"slices"
	"testing"

	"loop.example/tiervolume/impl"
)

// The numbers of the document are written out here, so that a wrong constant of the program is found, too.
const (
	wordMax = 9999
	seqMax  = 999
	bodyMax = 18
	sumBase = 9973
)

// badWords are numbers that are no words.
var badWords = []int{-1, wordMax + 1, -wordMax, wordMax + 1 + sumBase, math.MinInt, math.MaxInt}

// countedSum is the sum of numbers that need not be words, apart from the program.
func countedSum(words []int) int {
	sum := 7
	for _, w := range words {
		sum = ((sum*31+w%sumBase+1)%sumBase + sumBase) % sumBase
	}
	return sum
}

// summed returns numbers and the sum of them, whatever they are.
func summed(words ...int) []int {
	return append(slices.Clone(words), countedSum(words))
}

// counting returns n words, from first on.
func counting(n int, first int) []int {
	words := make([]int, n)
	for i := range words {
		words[i] = first + i
	}
	return words
}

// wordLists returns lists of words: short and long ones, with the least and the largest words, and mixed ones.
func wordLists() [][]int {
	lists := [][]int{nil, {}, {0}, {1}, {wordMax}, {sumBase - 1}, {sumBase}, {0, 0}, {wordMax, wordMax}, {0, sumBase}, {3, 3 + sumBase, 3}}
	lists = append(lists, make([]int, 40), slices.Repeat([]int{wordMax}, 40), counting(1000, 5), counting(wordMax+1, 0))
	r := rand.New(rand.NewPCG(1, 2))
	for n := range 30 {
		words := make([]int, n)
		for i := range words {
			words[i] = r.IntN(wordMax + 1)
		}
		lists = append(lists, words)
	}
	return lists
}

// validFrames returns frames of both kinds with numbers and bodies of all lengths, at the limits and between them.
func validFrames() []impl.Frame {
	frames := []impl.Frame{
		{Kind: 1, Seq: 1, Body: []int{0}},
		{Kind: 2, Seq: 1, Body: []int{wordMax}},
		{Kind: 1, Seq: seqMax, Body: slices.Repeat([]int{wordMax}, bodyMax)},
		{Kind: 2, Seq: seqMax, Body: make([]int, bodyMax)},
	}
	r := rand.New(rand.NewPCG(3, 4))
	for n := 1; n <= bodyMax; n++ {
		for kind := 1; kind <= 2; kind++ {
			body := make([]int, n)
			for i := range body {
				body[i] = r.IntN(wordMax + 1)
			}
			frames = append(frames, impl.Frame{Kind: kind, Seq: 1 + r.IntN(seqMax), Body: body})
		}
	}
	return frames
}

// invalidFrames returns frames of which just one part is invalid.
func invalidFrames() []impl.Frame {
	frames := []impl.Frame{{}}
	for _, kind := range []int{-1, 0, 3, 4, math.MinInt, math.MaxInt} {
		frames = append(frames, impl.Frame{Kind: kind, Seq: 5, Body: []int{1, 2}})
	}
	for _, seq := range []int{-1, 0, seqMax + 1, wordMax, math.MinInt, math.MaxInt} {
		frames = append(frames, impl.Frame{Kind: 1, Seq: seq, Body: []int{1, 2}})
		frames = append(frames, impl.Frame{Kind: 2, Seq: seq, Body: []int{1, 2}})
	}
	for _, body := range [][]int{nil, {}, counting(bodyMax+1, 0), counting(bodyMax+2, 0), counting(wordMax, 0)} {
		frames = append(frames, impl.Frame{Kind: 1, Seq: 5, Body: body})
		frames = append(frames, impl.Frame{Kind: 2, Seq: 5, Body: body})
	}
	for _, bad := range badWords {
		for _, at := range []int{0, 1, bodyMax - 1} {
			body := counting(bodyMax, 3)
			body[at] = bad
			frames = append(frames, impl.Frame{Kind: 1, Seq: 5, Body: body})
		}
		frames = append(frames, impl.Frame{Kind: 2, Seq: 5, Body: []int{bad}})
	}
	return frames
}

// sameFrame reports whether two frames are equal, where a body without words may be nil.
func sameFrame(a, b impl.Frame) bool {
	return a.Kind == b.Kind && a.Seq == b.Seq && slices.Equal(a.Body, b.Body)
}

// wantGet requires a frame, and the index behind it.
func wantGet(t *testing.T, words []int, at int, f impl.Frame, end int) {
	t.Helper()
	got, gotEnd, ok := impl.FrameGet(words, at)
	if !ok || gotEnd != end || !sameFrame(got, f) {
		t.Fatalf("FrameGet(%v, %d) = %v, %d, %v; want %v, %d, true", words, at, got, gotEnd, ok, f, end)
	}
}

// wantNoFrame requires that there is no frame, and that the other results are zero values.
func wantNoFrame(t *testing.T, words []int, at int) {
	t.Helper()
	f, end, ok := impl.FrameGet(words, at)
	if ok || end != 0 || !sameFrame(f, impl.Frame{}) {
		t.Fatalf("FrameGet(%v, %d) = %v, %d, %v; want no frame, 0, false", words, at, f, end, ok)
	}
}

func TestFrameConstants(t *testing.T) {
	got := []int{impl.WordMax, impl.SeqMax, impl.BodyMax, impl.SumBase, impl.KindHot, impl.KindCold}
	if want := []int{9999, 999, 18, 9973, 1, 2}; !slices.Equal(got, want) {
		t.Errorf("the constants are %v; want %v", got, want)
	}
}

func TestSumWordsOfKnownWords(t *testing.T) {
	for _, c := range []struct {
		words []int
		sum   int
	}{
		{nil, 7},
		{[]int{}, 7},
		{[]int{0}, 218},
		{[]int{1}, 219},
		{[]int{wordMax}, 244},
		{[]int{sumBase - 1}, 217},
		{[]int{sumBase}, 218},
		{[]int{0, 0}, 6759},
		{[]int{1, 2}, 6792},
		{[]int{2, 1}, 6822},
	} {
		if got := impl.SumWords(c.words); got != c.sum {
			t.Errorf("SumWords(%v) = %d; want %d", c.words, got, c.sum)
		}
	}
}

// Promise 1.
func TestSumWordsIsInRange(t *testing.T) {
	for _, words := range wordLists() {
		if got := impl.SumWords(words); got < 0 || got >= sumBase || got != countedSum(words) {
			t.Errorf("SumWords(%v) = %d; want %d", words, got, countedSum(words))
		}
	}
}

// Promise 1.
func TestSumWordsRefusesWhatIsNoWord(t *testing.T) {
	for _, bad := range badWords {
		for at := range 20 {
			words := counting(20, 3)
			words[at] = bad
			if got := impl.SumWords(words); got != -1 {
				t.Errorf("SumWords with %d at %d = %d; want -1", bad, at, got)
			}
		}
		if got := impl.SumWords([]int{bad}); got != -1 {
			t.Errorf("SumWords of %d = %d; want -1", bad, got)
		}
		if got := impl.SumWords(append(counting(1000, 0), bad)); got != -1 {
			t.Errorf("SumWords of 1000 words and %d = %d; want -1", bad, got)
		}
	}
}

// Promise 2.
func TestSumWordsWithAFurtherWord(t *testing.T) {
	for _, words := range wordLists() {
		before := impl.SumWords(words)
		for _, w := range []int{0, 1, 500, sumBase - 1, sumBase, wordMax} {
			want := (31*before + w + 1) % sumBase
			if got := impl.SumWords(append(slices.Clone(words), w)); got != want {
				t.Errorf("SumWords(%v and %d) = %d; want %d", words, w, got, want)
			}
		}
	}
}

// Promise 3.
func TestSumWordsDiffersForTheNextWord(t *testing.T) {
	for _, words := range wordLists() {
		if len(words) > 100 {
			words = words[:100]
		}
		for i, w := range words {
			next := slices.Clone(words)
			next[i]++
			differs := impl.SumWords(next) != impl.SumWords(words)
			if !differs || w == wordMax && impl.SumWords(next) != -1 {
				t.Errorf("SumWords(%v) = %d, and for the next word at %d it is %d", words, impl.SumWords(words), i, impl.SumWords(next))
			}
		}
	}
}

// Promise 4.
func TestSumWordsOfExchangedWords(t *testing.T) {
	some := []int{0, 1, 2, 25, 26, 27, 5000, sumBase - 1, sumBase, sumBase + 1, wordMax - 1, wordMax}
	for _, a := range some {
		for _, b := range some {
			ahead := impl.SumWords([]int{8, a, b, 9})
			behind := impl.SumWords([]int{8, b, a, 9})
			if same := (a-b)%sumBase == 0; (ahead == behind) != same {
				t.Errorf("with %d and %d exchanged, the sums are %d and %d", a, b, ahead, behind)
			}
		}
	}
}

// Promises 5 and 7.
func TestFramePutHasAllParts(t *testing.T) {
	for _, f := range validFrames() {
		want := append([]int{f.Kind, f.Seq, len(f.Body)}, f.Body...)
		want = append(want, countedSum(want))
		if got := impl.FramePut(f); !impl.FrameValid(f) || !slices.Equal(got, want) {
			t.Errorf("FramePut(%v) = %v; want %v", f, got, want)
		}
	}
	if got := impl.FramePut(impl.Frame{Kind: 1, Seq: 2, Body: []int{0, 5}}); !slices.Equal(got, []int{1, 2, 2, 0, 5, 1195}) {
		t.Errorf("FramePut returned %v", got)
	}
}

// Promise 6.
func TestFrameGetReturnsWhatWasPut(t *testing.T) {
	for _, f := range validFrames() {
		words := impl.FramePut(f)
		wantGet(t, words, 0, f, len(f.Body)+4)
		wantGet(t, slices.Clip(slices.Clone(words)), 0, f, len(words))
	}
}

// Promise 7.
func TestInvalidFramesHaveNoWords(t *testing.T) {
	for _, f := range invalidFrames() {
		if got := impl.FramePut(f); impl.FrameValid(f) || len(got) != 0 {
			t.Errorf("FrameValid(%v) = %v, and FramePut returned %v", f, impl.FrameValid(f), got)
		}
	}
}

// Promise 8.
func TestFramePutOfWhatWasGot(t *testing.T) {
	var log []int
	frames := validFrames()
	for _, f := range frames {
		log = append(log, impl.FramePut(f)...)
	}
	at := 0
	for range frames {
		f, end, ok := impl.FrameGet(log, at)
		if !ok || end > len(log) || !slices.Equal(impl.FramePut(f), log[at:end]) {
			t.Fatalf("FrameGet at %d returned %v, %d, %v", at, f, end, ok)
		}
		at = end
	}
	if at != len(log) {
		t.Errorf("the frames end at %d; want %d", at, len(log))
	}
	wantNoFrame(t, log, at)
}

// Promise 8: wherever there is a frame among any words, its words are those of FramePut.
func TestFrameGetAtEachPlace(t *testing.T) {
	r := rand.New(rand.NewPCG(5, 6))
	for range 300 {
		words := summed(1+r.IntN(2), 1+r.IntN(3), 1+r.IntN(4), r.IntN(3), r.IntN(3), r.IntN(3))
		for at := range words {
			f, end, ok := impl.FrameGet(words, at)
			if ok && !slices.Equal(impl.FramePut(f), words[at:end]) {
				t.Errorf("FrameGet(%v, %d) returned %v, %d", words, at, f, end)
			}
			if !ok {
				wantNoFrame(t, words, at)
			}
		}
	}
}

// Promise 9. The last words are still behind the end of a shorter slice of the same memory.
func TestFrameGetNeedsAllWords(t *testing.T) {
	for _, f := range validFrames() {
		words := impl.FramePut(f)
		for n := range words {
			wantNoFrame(t, words[:n], 0)
			wantNoFrame(t, slices.Clip(slices.Clone(words[:n])), 0)
			wantNoFrame(t, append([]int{4}, words[:n]...), 1)
		}
	}
}

// Promise 10. What is ahead of a frame and behind it need not be a word.
func TestFrameGetOfMovedFrames(t *testing.T) {
	others := append([]int{0, 1, wordMax}, badWords...)
	for _, f := range validFrames() {
		words := impl.FramePut(f)
		n := len(words)
		for _, w := range others {
			moved := append([]int{w}, words...)
			wantGet(t, moved, 1, f, n+1)
			wantGet(t, append(slices.Clone(words), w), 0, f, n)
			wantGet(t, append(moved, w, w, 7), 1, f, n+1)
		}
		long := slices.Concat(counting(2000, -50), words, others)
		wantGet(t, long, 2000, f, 2000+n)
	}
}

// Promise 11.
func TestFrameGetFailsForGreaterWords(t *testing.T) {
	for _, f := range validFrames() {
		words := impl.FramePut(f)
		for i := range words {
			if i == 2 {
				continue
			}
			changed := slices.Clone(words)
			changed[i]++
			wantNoFrame(t, changed, 0)
		}
	}
}

// A sum that is not in the range of sums is wrong, even where it is equal modulo sumBase.
func TestFrameGetWithAnotherSum(t *testing.T) {
	small := 0
	for w := range wordMax + 1 {
		words := impl.FramePut(impl.Frame{Kind: 1, Seq: 1, Body: []int{w}})
		for _, by := range []int{-1, 1, sumBase, -sumBase, wordMax + 1} {
			changed := slices.Clone(words)
			changed[4] += by
			wantNoFrame(t, changed, 0)
		}
		if words[4]+sumBase <= wordMax {
			small++
		}
	}
	if small == 0 {
		t.Error("no frame had so small a sum that it is a word with sumBase added")
	}
}

func TestFrameGetAtOtherPlaces(t *testing.T) {
	words := impl.FramePut(impl.Frame{Kind: 1, Seq: 1, Body: []int{3, 4}})
	for _, list := range [][]int{nil, {}, {1}, words, slices.Concat(words, []int{5}), counting(3000, 0)} {
		n := len(list)
		for _, at := range []int{-1, -2, -3, -n, -n - 1, n, n + 1, n + 2, n + 3, n + 4, n + 64, math.MinInt, math.MinInt + 1, math.MinInt + n, math.MaxInt, math.MaxInt - 1, math.MaxInt - 2, math.MaxInt - 3, math.MaxInt - 5, math.MaxInt - n} {
			if at < 0 || at >= n {
				wantNoFrame(t, list, at)
			}
		}
	}
	for at := 1; at < len(words); at++ {
		wantNoFrame(t, words, at)
	}
}

// The sum is right, but the frame is not valid.
func TestFrameGetOfInvalidFrames(t *testing.T) {
	for _, f := range invalidFrames() {
		head := append([]int{f.Kind, f.Seq, len(f.Body)}, f.Body...)
		wantNoFrame(t, summed(head...), 0)
		wantNoFrame(t, append(slices.Clone(head), -1), 0)
		wantNoFrame(t, append(slices.Clone(head), 0), 0)
		wantNoFrame(t, append(summed(head...), counting(30, 0)...), 0)
	}
}

// The number of words of the body is not in range, or reaches beyond the words.
func TestFrameGetWithAnotherNumberOfWords(t *testing.T) {
	for _, body := range [][]int{{6}, {6, 7}, counting(bodyMax, 0), counting(bodyMax+1, 0), counting(100, 0)} {
		for _, n := range []int{-2, -1, 0, len(body) + 1, len(body) + 2, len(body) + 3, bodyMax + 1, bodyMax + 2, 99, 100, wordMax, math.MinInt, math.MaxInt, math.MaxInt - 3, math.MaxInt - 4} {
			if n != len(body) || n > bodyMax {
				wantNoFrame(t, summed(append([]int{1, 5, n}, body...)...), 0)
				wantNoFrame(t, append([]int{0, 0}, summed(append([]int{2, 5, n}, body...)...)...), 2)
			}
		}
	}
	wantNoFrame(t, summed(1, 5, 0), 0)
	wantNoFrame(t, summed(1, 5), 0)
	wantNoFrame(t, summed(1), 0)
}

func TestFrameGetEndsWithTheLastWord(t *testing.T) {
	for _, f := range validFrames() {
		words := impl.FramePut(f)
		for ahead := range 5 {
			all := append(counting(ahead, -2), words...)
			wantGet(t, slices.Clip(all), ahead, f, len(all))
			wantNoFrame(t, slices.Clip(all[:len(all)-1]), ahead)
		}
	}
}

// General rules: arguments, their spare capacity included, are not changed.
func TestFramesKeepArguments(t *testing.T) {
	for _, f := range validFrames() {
		memory := append(slices.Clone(f.Body), 11, 12, 13, 14, 15, 16)
		kept := slices.Clone(memory)
		g := impl.Frame{Kind: f.Kind, Seq: f.Seq, Body: memory[:len(f.Body)]}
		impl.FrameValid(g)
		words := append(impl.FramePut(g), 21, 22, 23)
		keptWords := slices.Clone(words)
		impl.SumWords(words)
		impl.SumWords(words[:len(words)-3])
		impl.FrameGet(words, 0)
		impl.FrameGet(words[:len(words)-3], 0)
		impl.FrameGet(words[:len(words)-4], 0)
		if !slices.Equal(memory, kept) || !slices.Equal(words, keptWords) {
			t.Fatalf("an argument was changed: %v to %v, or %v to %v", kept, memory, keptWords, words)
		}
	}
}

// fill writes into all memory of a slice, its spare capacity included.
func fill(list []int) {
	list = list[:cap(list)]
	for i := range list {
		list[i] = 77
	}
}

// General rules: results share no memory with arguments or with other results.
func TestFramesShareNoMemory(t *testing.T) {
	for _, f := range validFrames() {
		memory := append(slices.Clone(f.Body), 11, 12, 13, 14, 15, 16)
		kept := slices.Clone(memory)
		g := impl.Frame{Kind: f.Kind, Seq: f.Seq, Body: memory[:len(f.Body)]}
		words, again := impl.FramePut(g), impl.FramePut(g)
		fill(again)
		if !slices.Equal(memory, kept) || !slices.Equal(impl.FramePut(f), words) {
			t.Fatalf("the words of %v share memory", f)
		}
		log := append(slices.Clone(words), 21, 22, 23)
		keptLog := slices.Clone(log)
		first, _, _ := impl.FrameGet(log, 0)
		second, _, _ := impl.FrameGet(log, 0)
		fill(second.Body)
		if !slices.Equal(log, keptLog) || !sameFrame(first, f) {
			t.Fatalf("the body of %v shares memory", f)
		}
		fill(log)
		if !sameFrame(first, f) {
			t.Fatalf("the body of %v changed with the words", f)
		}
	}
}

package impl

import "slices"

// WordMax is the largest word.
const WordMax = 9999

// SeqMax is the largest number of a frame.
const SeqMax = 999

// BodyMax is the largest number of words of a body.
const BodyMax = 18

// SumBase is the number by which sums are divided.
const SumBase = 9973

// KindHot is a frame with values of blocks.
const KindHot = 1

// KindCold is a frame that tells in which objects the values of blocks are.
const KindCold = 2

// sumStart is the sum of no words.
const sumStart = 7

// sumFactor is by how much a sum is multiplied for each further word.
const sumFactor = 31

// headWords is the number of words of a frame ahead of its body.
const headWords = 3

// Frame is a record of a log.
type Frame struct {
	Kind int
	Seq  int
	Body []int
}

// cursor reads words one after the other, from an index on.
type cursor struct {
	words []int
	at    int
}

// take returns a copy of the next n words and moves behind them. It fails, and does not move, if there are not so many.
func (c *cursor) take(n int) ([]int, bool) {
	// The end, c.at+n, is not computed ahead of this, as it may overflow.
	if n < 0 || c.at < 0 || n > len(c.words)-c.at {
		return nil, false
	}
	taken := slices.Clone(c.words[c.at : c.at+n])
	c.at += n
	return taken, true
}

// takeFrame moves behind a frame and returns it and the word of its sum. Neither the frame nor the sum need be valid.
func (c *cursor) takeFrame() (Frame, int, bool) {
	head, ok := c.take(headWords)
	if !ok {
		return Frame{}, 0, false
	}
	body, ok := c.take(head[2])
	if !ok {
		return Frame{}, 0, false
	}
	sum, ok := c.take(1)
	if !ok {
		return Frame{}, 0, false
	}
	return Frame{Kind: head[0], Seq: head[1], Body: body}, sum[0], true
}

// SumWords returns the sum of words.
func SumWords(words []int) int {
	sum := sumStart
	for _, w := range words {
		if w < 0 || w > WordMax {
			return -1
		}
		sum = (sumFactor*sum + w + 1) % SumBase
	}
	return sum
}

// FrameValid reports whether f is valid.
func FrameValid(f Frame) bool {
	if f.Kind != KindHot && f.Kind != KindCold {
		return false
	}
	if f.Seq < 1 || f.Seq > SeqMax {
		return false
	}
	if len(f.Body) < 1 || len(f.Body) > BodyMax {
		return false
	}
	return SumWords(f.Body) >= 0
}

// FramePut returns the words of a frame.
func FramePut(f Frame) []int {
	if !FrameValid(f) {
		return nil
	}
	words := make([]int, 0, headWords+len(f.Body)+1)
	words = append(words, f.Kind, f.Seq, len(f.Body))
	words = append(words, f.Body...)
	return append(words, SumWords(words))
}

// FrameGet returns the frame at a place, and where the next one begins.
func FrameGet(words []int, at int) (Frame, int, bool) {
	c := cursor{words: words, at: at}
	f, sum, ok := c.takeFrame()
	// The sum of words that are not in range is -1, and so may be the word at its place: it is no sign of a valid frame.
	if !ok || !FrameValid(f) {
		return Frame{}, 0, false
	}
	if sum != SumWords(words[at:c.at-1]) {
		return Frame{}, 0, false
	}
	return f, c.at, true
}

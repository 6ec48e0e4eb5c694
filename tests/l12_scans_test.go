package tests

import (
	"cmp"
	"math"
	"math/rand/v2"
	"slices"
	"testing"

	"loop.example/tiervolume/impl"
)

// laidOut returns the words of frames, valid or not, one behind the other, apart from the program.
func laidOut(frames ...impl.Frame) []int {
	var words []int
	for _, f := range frames {
		words = append(words, summed(append([]int{f.Kind, f.Seq, len(f.Body)}, f.Body...)...)...)
	}
	return words
}

// numbered returns a frame with another number.
func numbered(seq int, f impl.Frame) impl.Frame {
	f.Seq = seq
	return f
}

// shortFrame returns a frame with as few words as possible, five of them. Its body is of no kind.
func shortFrame(seq int) impl.Frame {
	return impl.Frame{Kind: kindHot, Seq: seq, Body: []int{4}}
}

// shortFrames returns the words of short frames with some numbers.
func shortFrames(seqs ...int) []int {
	var words []int
	for _, seq := range seqs {
		words = append(words, laidOut(shortFrame(seq))...)
	}
	return words
}

// valueFrame returns a frame with one value.
func valueFrame(seq int, block int, value int) impl.Frame {
	return numbered(seq, hotFrame(impl.Pair{Block: block, Value: value}))
}

// deviceOf returns a device whose first zones have some words, and all others none.
func deviceOf(words ...[]int) []impl.Zone {
	d := make([]impl.Zone, zones)
	for z := range words {
		d[z].Words = words[z]
	}
	return d
}

// readFrame returns the frame at an index of words, all in range, and its end, apart from the program.
func readFrame(words []int, at int) (impl.Frame, int, bool) {
	if at+4 > len(words) {
		return impl.Frame{}, 0, false
	}
	kind, seq, many := words[at], words[at+1], words[at+2]
	end := at + 3 + many + 1
	if kind < 1 || kind > 2 || seq < 1 || seq > seqMax || many < 1 || many > bodyMax || end > len(words) {
		return impl.Frame{}, 0, false
	}
	f := impl.Frame{Kind: kind, Seq: seq, Body: words[at+3 : end-1]}
	return f, end, words[end-1] == countedSum(words[at:end-1])
}

// foundIn returns what ScanZone returns of a zone with some words, all in range, apart from the program.
func foundIn(words []int, z int) ([]impl.Found, int) {
	var list []impl.Found
	at := 0
	f, end, ok := readFrame(words, at)
	for ok {
		list = append(list, impl.Found{Zone: z, At: at, Frame: f})
		at = end
		f, end, ok = readFrame(words, at)
	}
	return list, at
}

// byNumber compares the numbers of frames.
func byNumber(a, b impl.Found) int {
	return cmp.Compare(a.Frame.Seq, b.Frame.Seq)
}

// foundOn returns what ScanDevice returns of a valid device, apart from the program.
func foundOn(d []impl.Zone) []impl.Found {
	var list []impl.Found
	for z, zone := range d {
		some, _ := foundIn(zone.Words, z)
		list = append(list, some...)
	}
	// Zones and indexes ascend already, and stay as they are for equal numbers.
	slices.SortStableFunc(list, byNumber)
	return list
}

// sameFound reports whether two frames are equal and were found at the same place.
func sameFound(a, b impl.Found) bool {
	return a.Zone == b.Zone && a.At == b.At && sameFrame(a.Frame, b.Frame)
}

// sameFounds reports whether the same frames were found, in the same order.
func sameFounds(a, b []impl.Found) bool {
	return slices.EqualFunc(a, b, sameFound)
}

// wantZoneScan requires what ScanZone returns.
func wantZoneScan(t *testing.T, d []impl.Zone, z int, want []impl.Found, n int) {
	t.Helper()
	if got, many := impl.ScanZone(d, z); many != n || !sameFounds(got, want) {
		t.Fatalf("ScanZone(%v, %d) = %v, %d; want %v, %d", d, z, got, many, want, n)
	}
}

// wantDeviceScan requires what ScanDevice returns.
func wantDeviceScan(t *testing.T, d []impl.Zone, want []impl.Found) {
	t.Helper()
	if got := impl.ScanDevice(d); !sameFounds(got, want) {
		t.Fatalf("ScanDevice(%v) = %v; want %v", d, got, want)
	}
}

// wantScans requires what is found on a valid device, and in each of its zones.
func wantScans(t *testing.T, d []impl.Zone) {
	t.Helper()
	for z, zone := range d {
		want, n := foundIn(zone.Words, z)
		wantZoneScan(t, d, z, want, n)
	}
	wantDeviceScan(t, d, foundOn(d))
}

// wantNoScans requires that nothing is found on a device, which is invalid, in any zone.
func wantNoScans(t *testing.T, d []impl.Zone) {
	t.Helper()
	for z := -1; z <= len(d); z++ {
		wantZoneScan(t, d, z, nil, 0)
	}
	wantDeviceScan(t, d, nil)
}

// wantMap requires the map that ScanMap returns.
func wantMap(t *testing.T, list []impl.Found, want []impl.Where) {
	t.Helper()
	if got, ok := impl.ScanMap(list); !ok || !slices.Equal(got, want) {
		t.Fatalf("ScanMap(%v) = %v, %v; want %v, true", list, got, ok, want)
	}
}

// wantNoMap requires that ScanMap fails, and returns no map.
func wantNoMap(t *testing.T, list []impl.Found) {
	t.Helper()
	if got, ok := impl.ScanMap(list); ok || len(got) != 0 {
		t.Fatalf("ScanMap(%v) = %v, %v; want nothing, false", list, got, ok)
	}
}

// anyFrames returns valid frames with bodies of their kinds, of the other one, and of none.
func anyFrames() []impl.Frame {
	list := slices.Concat(validFrames(), hotFrames(), coldFrames(), []impl.Frame{shortFrame(1), shortFrame(seqMax)})
	for _, body := range [][]int{{1, 9, 2}, {0, 5}, {0, 5, 1, 6}, {3, 5, 2, 6}, {0, 0, 0}, {11, 100}, {wordMax}} {
		list = append(list, impl.Frame{Kind: kindHot, Seq: 5, Body: body}, impl.Frame{Kind: kindCold, Seq: 6, Body: body})
	}
	return list
}

// wrongHeads returns words, all in range, that are a frame but for one of the first three; the sum is that of the wrong words.
func wrongHeads() [][]int {
	var list [][]int
	for _, kind := range []int{0, 3, 4, 99, wordMax} {
		list = append(list, summed(kind, 7, 2, 0, 5), summed(kind, 7, 3, 0, 5, 1))
	}
	for _, kind := range []int{kindHot, kindCold} {
		for _, seq := range []int{0, seqMax + 1, seqMax + 2, wordMax} {
			list = append(list, summed(kind, seq, 2, 0, 5), summed(kind, seq, 3, 0, 5, 1))
		}
		for _, many := range []int{0, 1, 3, 4, bodyMax - 1, bodyMax, bodyMax + 1, zoneSize, wordMax} {
			list = append(list, summed(kind, 7, many, 0, 5))
		}
		for _, many := range []int{0, bodyMax + 1, bodyMax + 2} {
			list = append(list, summed(append([]int{kind, 7, many}, counting(many, 3)...)...))
		}
	}
	return list
}

// wrongWords returns the words of frames without some of the last ones, and with one that is greater or less by 1.
func wrongWords() [][]int {
	var list [][]int
	for _, f := range []impl.Frame{shortFrame(2), valueFrame(7, 1, 5), numbered(seqMax-1, coldFrame(coldFrom(1, 2, 5, 3)...)), hotFrame(pairsFrom(1, pairMax, 9)...)} {
		words := laidOut(f)
		for i := range words {
			list = append(list, words[:i], words[i+1:])
			for _, by := range []int{-1, 1} {
				changed := slices.Clone(words)
				changed[i] += by
				list = append(list, changed)
			}
		}
		for _, sum := range []int{0, 1, sumBase, wordMax} {
			list = append(list, append(slices.Clone(words[:len(words)-1]), sum))
		}
	}
	return list
}

// noFrames returns words, all in range, that begin with no frame.
func noFrames() [][]int {
	list := [][]int{{0}, {3}, {5}, {wordMax}, {1}, {2}, {1, 1}, {2, 1, 1}, make([]int, 5), make([]int, 20), counting(20, 1), slices.Repeat([]int{1}, 20)}
	list = slices.Concat(list, wrongHeads(), wrongWords())
	return slices.DeleteFunc(list, func(words []int) bool { return len(words) == 0 })
}

// withFrames returns a device with frames in all zones. Their numbers are mixed, and other words are behind some of them.
func withFrames() []impl.Zone {
	d := deviceOf(
		laidOut(valueFrame(3, 0, 5), shortFrame(4), numbered(9, coldFrame(coldFrom(2, 3, 8, 1)...))),
		slices.Concat(laidOut(shortFrame(7)), []int{1, 2, 3}),
		laidOut(numbered(1, hotFrame(pairsFrom(0, pairMax, 9)...)), valueFrame(4, 1, 0)),
		slices.Concat(laidOut(valueFrame(12, 3, 4), valueFrame(11, 3, 5)), []int{9}),
	)
	d[0].Synced, d[2].Synced, d[2].Full = 6, len(d[2].Words), true
	return d
}

// randomZone returns a zone with some frames, and maybe with words that are none behind or between them.
func randomZone(r *rand.Rand, frames []impl.Frame, others [][]int) impl.Zone {
	var words []int
	for range r.IntN(10) {
		f := frames[r.IntN(len(frames))]
		more := laidOut(numbered(1+r.IntN([]int{3, 30, seqMax}[r.IntN(3)]), f))
		if r.IntN(8) == 0 {
			more = others[r.IntN(len(others))]
		}
		if len(words)+len(more) <= zoneSize {
			words = append(words, more...)
		}
	}
	return impl.Zone{Words: words, Synced: r.IntN(len(words) + 1), Full: r.IntN(2) == 0}
}

// scannedDevices returns valid devices: ones whose words are no frames, a known one, and random ones with many frames.
func scannedDevices() [][]impl.Zone {
	list := append(validDevices(), withFrames())
	frames, others := anyFrames(), noFrames()
	r := rand.New(rand.NewPCG(37, 38))
	for range 400 {
		d := make([]impl.Zone, zones)
		for z := range d {
			if r.IntN(6) > 0 {
				d[z] = randomZone(r, frames, others)
			}
		}
		list = append(list, d)
	}
	return list
}

func TestScanZoneOfKnownWords(t *testing.T) {
	d := deviceOf(nil, []int{1, 2, 2, 0, 5, 1194}, []int{1, 2, 2, 0, 5, 1195, 1, 2}, []int{1, 2, 2, 0, 5, 1195, 1, 2, 2, 0, 5, 1195, 1, 2, 2, 0, 5})
	f := impl.Frame{Kind: 1, Seq: 2, Body: []int{0, 5}}
	wantZoneScan(t, d, 0, nil, 0)
	wantZoneScan(t, d, 1, nil, 0)
	wantZoneScan(t, d, 2, []impl.Found{{Zone: 2, At: 0, Frame: f}}, 6)
	wantZoneScan(t, d, 3, []impl.Found{{Zone: 3, At: 0, Frame: f}, {Zone: 3, At: 6, Frame: f}}, 12)
	wantDeviceScan(t, d, []impl.Found{{Zone: 2, At: 0, Frame: f}, {Zone: 3, At: 0, Frame: f}, {Zone: 3, At: 6, Frame: f}})
}

// Promises 61 to 65: all that is found, and how many words it has.
func TestScans(t *testing.T) {
	many, longest := 0, 0
	for _, d := range scannedDevices() {
		wantScans(t, d)
		many += len(foundOn(d))
		longest = max(longest, len(foundOn(d)))
	}
	if many < 2000 || longest < 15 {
		t.Errorf("there were %d frames, at most %d on one device; want at least 2000, and 15", many, longest)
	}
}

// Promise 61.
func TestScanZoneHasTheWordsOfItsFrames(t *testing.T) {
	for _, d := range scannedDevices() {
		for z, zone := range d {
			list, n := impl.ScanZone(d, z)
			var words []int
			for _, x := range list {
				if x.Zone != z || x.At != len(words) {
					t.Fatalf("ScanZone(%v, %d) has %v; want it at %d", d, z, x, len(words))
				}
				words = append(words, impl.FramePut(x.Frame)...)
			}
			wantList(t, words, zone.Words[:n], "the words of ScanZone(%v, %d)", d, z)
		}
	}
}

// Promise 62.
func TestNoFrameIsBehindScanZone(t *testing.T) {
	for _, d := range scannedDevices() {
		for z, zone := range d {
			_, n := impl.ScanZone(d, z)
			wantNoFrame(t, zone.Words, n)
		}
	}
}

// Promise 61: each frame alone in a zone, and several times, as often as there is room for it.
func TestScanZoneOfEachFrame(t *testing.T) {
	for _, f := range anyFrames() {
		words := laidOut(f)
		for many := 1; many*len(words) <= zoneSize; many++ {
			z := many % zones
			var want []impl.Found
			for i := range many {
				want = append(want, impl.Found{Zone: z, At: i * len(words), Frame: f})
			}
			d := withZone(make([]impl.Zone, zones), z, impl.Zone{Words: slices.Repeat(words, many)})
			wantZoneScan(t, d, z, want, many*len(words))
			wantDeviceScan(t, d, want)
		}
	}
}

// Promises 61 and 62: frames up to the last word of a full zone.
func TestScanZoneOfFullZones(t *testing.T) {
	long := numbered(5, hotFrame(pairsFrom(1, pairMax, 9)...))
	for _, frames := range [][]impl.Frame{
		{long, long, {Kind: kindHot, Seq: 6, Body: counting(16, 3)}},
		{{Kind: kindHot, Seq: 6, Body: counting(16, 3)}, long, numbered(1, long)},
		slices.Concat(slices.Repeat([]impl.Frame{shortFrame(8)}, 8), slices.Repeat([]impl.Frame{valueFrame(9, 3, 4)}, 4)),
		slices.Repeat([]impl.Frame{{Kind: kindCold, Seq: seqMax, Body: counting(12, 0)}}, 4),
	} {
		words := laidOut(frames...)
		for z := range zones {
			d := withZone(withFrames(), z, impl.Zone{Words: words})
			list, n := impl.ScanZone(d, z)
			if len(words) != zoneSize || len(list) != len(frames) || n != zoneSize {
				t.Fatalf("ScanZone(%v, %d) = %v, %d; want %d frames with %d words", d, z, list, n, len(frames), zoneSize)
			}
			wantScans(t, d)
		}
	}
}

// Promise 62: behind twelve frames, there is room for so few words that no frame fits.
func TestScanZoneWithFewWordsBehindTheFrames(t *testing.T) {
	ahead := laidOut(slices.Repeat([]impl.Frame{shortFrame(1)}, 12)...)
	want, n := foundIn(ahead, 1)
	if len(want) != 12 || n != zoneSize-4 {
		t.Fatalf("the frames have %d words; want %d", n, zoneSize-4)
	}
	for many := range 5 {
		for _, behind := range [][]int{{0, 0, 0, 0}, {1, 1, 1, 1}, {2, 999, 18, 5}, {5, 6, 7, 8}, laidOut(shortFrame(1)), {wordMax, wordMax, wordMax, wordMax}, {1, 7, 0, 0}, summed(1, 7, 0)} {
			d := withZone(withFrames(), 1, impl.Zone{Words: slices.Concat(ahead, behind[:many])})
			wantZoneScan(t, d, 1, want, n)
			wantScans(t, d)
		}
	}
}

// Promise 62: words that are no frame, at the beginning of a zone, behind a frame, between frames, and at the end. What is
// behind them is not found.
func TestScanZoneEndsAtWordsThatAreNoFrame(t *testing.T) {
	a, b := valueFrame(7, 3, 4), numbered(8, coldFrame(coldFrom(2, 1, 8, 1)...))
	for _, words := range noFrames() {
		for many := range 3 {
			z := (many + len(words)) % zones
			ahead := laidOut(slices.Repeat([]impl.Frame{a}, many)...)
			want, n := foundIn(ahead, z)
			for _, behind := range [][]int{nil, {0}, laidOut(b), laidOut(a, b)} {
				d := withZone(make([]impl.Zone, zones), z, impl.Zone{Words: slices.Concat(ahead, words, behind)})
				wantZoneScan(t, d, z, want, n)
				wantDeviceScan(t, d, want)
			}
		}
	}
}

// Promise 62: words of a frame that are missing behind the last one of a zone are not looked for in the next zone, or in the
// memory behind.
func TestScanZoneEndsWithTheZone(t *testing.T) {
	for _, f := range []impl.Frame{shortFrame(9), valueFrame(9, 2, 3), numbered(9, coldFrame(coldFrom(2, 3, 8, 1)...))} {
		ahead, words := shortFrames(3, 4, 5), laidOut(f)
		want, n := foundIn(ahead, 1)
		memory := slices.Concat(ahead, words)
		for end := len(ahead); end < len(memory); end++ {
			d := deviceOf(memory[:0], memory[:end], memory[end:], memory)
			wantZoneScan(t, d, 0, nil, 0)
			wantZoneScan(t, d, 1, want, n)
			wantScans(t, d)
		}
	}
}

// Promises 61 and 62: whatever one word of a zone is, the frames ahead of it, and only these, are found, unless the word is part
// of another frame.
func TestScansWithAnyWordReplaced(t *testing.T) {
	for z, zone := range withFrames() {
		for i, w := range zone.Words {
			for _, other := range []int{0, 1, 2, 3, 4, 5, bodyMax, bodyMax + 1, seqMax, seqMax + 1, sumBase, wordMax, w ^ 1, w + 1, max(0, w-1), w % 7} {
				words := slices.Clone(zone.Words)
				words[i] = min(other, wordMax)
				wantScans(t, withZone(withFrames(), z, impl.Zone{Words: words}))
			}
		}
	}
}

// Words that are not in range make the device invalid, even behind all frames or in another zone.
func TestScansOfWordsOutOfRange(t *testing.T) {
	for _, bad := range badWords {
		for _, words := range [][]int{{bad}, summed(bad, 7, 2, 0, 5), summed(1, bad, 2, 0, 5), summed(1, 7, bad, 0, 5), summed(1, 7, bad), summed(1, 7, 2, bad, 5), {1, 7, 2, 0, 5, bad}} {
			for z := range zones {
				wantNoScans(t, withZone(withFrames(), z, impl.Zone{Words: words}))
				wantNoScans(t, withZone(withFrames(), z, impl.Zone{Words: slices.Concat(shortFrames(5, 6), words)}))
				wantNoScans(t, withZone(withFrames(), z, impl.Zone{Words: slices.Concat(words, shortFrames(5, 6))}))
			}
		}
	}
}

// Too few zones, too many, and ones with wrong words or a wrong number of words that last: nothing is found in any zone.
func TestScansOfInvalidDevices(t *testing.T) {
	for _, d := range invalidDevices() {
		wantNoScans(t, d)
	}
	for n := range 3 * zones {
		if n != zones {
			wantNoScans(t, slices.Repeat([]impl.Zone{{Words: shortFrames(5, 6), Synced: 3}}, n))
		}
	}
	wantNoScans(t, withFrames()[:zones-1])
	wantNoScans(t, append(withFrames(), impl.Zone{}))
	for z, zone := range withFrames() {
		for _, other := range invalidZones() {
			wantNoScans(t, withZone(withFrames(), z, other))
		}
		for _, lasting := range []int{-1, -2, len(zone.Words) + 1, zoneSize + 1, math.MinInt, math.MaxInt} {
			wantNoScans(t, withZone(withFrames(), z, impl.Zone{Words: zone.Words, Synced: lasting, Full: zone.Full}))
		}
		long := shortFrames(counting(13, 1)...)
		wantNoScans(t, withZone(withFrames(), z, impl.Zone{Words: long}))
		wantNoScans(t, withZone(withFrames(), z, impl.Zone{Words: long, Synced: len(long), Full: true}))
	}
}

// How many words last, and whether a zone is closed, does not matter.
func TestScansOfClosedZonesAndWordsThatDoNotLast(t *testing.T) {
	want := foundOn(withFrames())
	for z, zone := range withFrames() {
		for lasting := range len(zone.Words) + 1 {
			for _, full := range []bool{false, true} {
				d := withZone(withFrames(), z, impl.Zone{Words: zone.Words, Synced: lasting, Full: full})
				wantDeviceScan(t, d, want)
				wantScans(t, d)
			}
		}
	}
	for z := range zones {
		for _, words := range [][]int{nil, {}, counting(3, 0)[:0]} {
			wantZoneScan(t, withZone(withFrames(), z, impl.Zone{Words: words, Full: true}), z, nil, 0)
			wantScans(t, withZone(withFrames(), z, impl.Zone{Words: words}))
		}
	}
}

// Zones that are not there have no frames.
func TestScanZoneOfZonesThatAreNotThere(t *testing.T) {
	for _, d := range [][]impl.Zone{withFrames(), mixedDevice(), make([]impl.Zone, zones), nil} {
		for _, z := range badZones {
			wantZoneScan(t, d, z, nil, 0)
		}
	}
}

// Promise 63.
func TestScanZoneOfZonesThatWereCut(t *testing.T) {
	for _, d := range scannedDevices() {
		for z, zone := range d {
			all, many := impl.ScanZone(d, z)
			for n := range len(zone.Words) + 1 {
				cut, ok := impl.DeviceCut(d, z, n)
				list, left := impl.ScanZone(cut, z)
				if !ok || left > n || len(list) > len(all) || !sameFounds(list, all[:len(list)]) {
					t.Fatalf("after DeviceCut to %d words, ScanZone(%v, %d) = %v, %d; before, it was %v", n, d, z, list, left, all)
				}
				if n >= many && (len(list) != len(all) || left != many) {
					t.Fatalf("after DeviceCut to %d words, ScanZone(%v, %d) = %v, %d; want all of %v, %d", n, d, z, list, left, all, many)
				}
			}
		}
	}
}

// Promise 63: a zone cut within a frame, at the end of a frame, behind all frames, and not at all.
func TestScanZoneOfAKnownZoneThatWasCut(t *testing.T) {
	words := slices.Concat(laidOut(shortFrame(7), valueFrame(6, 1, 2), shortFrame(8)), []int{1, 2, 3})
	all := []impl.Found{{Zone: 1, At: 0, Frame: shortFrame(7)}, {Zone: 1, At: 5, Frame: valueFrame(6, 1, 2)}, {Zone: 1, At: 11, Frame: shortFrame(8)}}
	ends := []int{0, 5, 11, 16}
	for n := range len(words) + 1 {
		many := 0
		for many < len(all) && n >= ends[many+1] {
			many++
		}
		cut, _ := impl.DeviceCut(withZone(withFrames(), 1, impl.Zone{Words: words, Synced: 6}), 1, n)
		wantZoneScan(t, cut, 1, all[:many], ends[many])
	}
}

// Promise 64.
func TestScanDeviceHasTheFramesOfAllZones(t *testing.T) {
	for _, d := range scannedDevices() {
		list := impl.ScanDevice(d)
		many := 0
		for z := range d {
			some, _ := impl.ScanZone(d, z)
			many += len(some)
			for _, x := range some {
				if !slices.ContainsFunc(list, func(y impl.Found) bool { return sameFound(x, y) }) {
					t.Fatalf("ScanDevice(%v) = %v, without %v", d, list, x)
				}
			}
		}
		if len(list) != many || !slices.IsSortedFunc(list, byNumber) {
			t.Fatalf("ScanDevice(%v) = %v; want %d frames in order", d, list, many)
		}
	}
}

// Promise 65.
func TestScanDeviceTellsWhereFramesAre(t *testing.T) {
	for _, d := range scannedDevices() {
		for _, x := range impl.ScanDevice(d) {
			f, _, ok := impl.FrameGet(d[x.Zone].Words, x.At)
			if !ok || !sameFrame(f, x.Frame) {
				t.Fatalf("ScanDevice(%v) has %v, where FrameGet returns %v, %v", d, x, f, ok)
			}
		}
	}
}

// Promise 64: numbers of the frames of several zones, mixed in several ways. What is wanted is 100 times the zone of each frame,
// and how many frames are ahead of it there.
func TestScanDeviceOfKnownNumbers(t *testing.T) {
	for _, c := range []struct {
		seqs [zones][]int
		want []int
	}{
		{[zones][]int{}, nil},
		{[zones][]int{{5}}, []int{0}},
		{[zones][]int{nil, nil, nil, {seqMax}}, []int{300}},
		// Ascending from zone to zone, and descending.
		{[zones][]int{{1, 2}, {3, 4}, {5}, {6, 7}}, []int{0, 1, 100, 101, 200, 300, 301}},
		{[zones][]int{{8, 9}, {6, 7}, {4, 5}, {2, 3}}, []int{300, 301, 200, 201, 100, 101, 0, 1}},
		// Mixed.
		{[zones][]int{{1, 5, 9}, {2, 6}, {3, 7, 10}, {4, 8}}, []int{0, 100, 200, 300, 1, 101, 201, 301, 2, 202}},
		{[zones][]int{{4, 8}, {3, 7, 10}, {2, 6}, {1, 5, 9}}, []int{300, 200, 100, 0, 301, 201, 101, 1, 302, 102}},
		{[zones][]int{{10, 100}, {9, 99}, {2, 20}, {1, seqMax}}, []int{300, 200, 100, 0, 201, 101, 1, 301}},
		// Equal in several zones, and in one.
		{[zones][]int{{3}, {3}, {3}, {3}}, []int{0, 100, 200, 300}},
		{[zones][]int{{2, 4}, {1, 4}, {4, 5}, {3, 4}}, []int{100, 0, 300, 1, 101, 200, 301, 201}},
		{[zones][]int{nil, {7, 7, 7}}, []int{100, 101, 102}},
		{[zones][]int{{7, 7}, nil, {7, 7}, {6, 7}}, []int{300, 0, 1, 200, 201, 301}},
		// Not ascending in one zone.
		{[zones][]int{{3, 2, 1}}, []int{2, 1, 0}},
		{[zones][]int{{9, 1, 5}, {2, 9, 1}, nil, {5, 5, 1}}, []int{1, 102, 302, 100, 2, 300, 301, 0, 101}},
		{[zones][]int{{2, 1, 2, 1}, {1, 2, 1, 2}}, []int{1, 3, 100, 102, 0, 2, 101, 103}},
		{[zones][]int{nil, {12, 11, 10, 9, 8, 7, 6, 5, 4, 3, 2, 1}}, []int{111, 110, 109, 108, 107, 106, 105, 104, 103, 102, 101, 100}},
	} {
		var got []int
		for _, x := range impl.ScanDevice(deviceOf(shortFrames(c.seqs[0]...), shortFrames(c.seqs[1]...), shortFrames(c.seqs[2]...), shortFrames(c.seqs[3]...))) {
			got = append(got, 100*x.Zone+x.At/5)
			if x.At%5 != 0 || !sameFrame(x.Frame, shortFrame(c.seqs[x.Zone][x.At/5])) {
				t.Fatalf("for the numbers %v, ScanDevice has %v", c.seqs, x)
			}
		}
		wantList(t, got, c.want, "for the numbers %v, the frames of ScanDevice", c.seqs)
	}
}

// Promise 64: all ways to give up to two frames of each zone one of three numbers.
func TestScanDeviceOfAllNumbers(t *testing.T) {
	lists := [][]int{nil}
	for a := 1; a <= 3; a++ {
		lists = append(lists, shortFrames(a))
		for b := 1; b <= 3; b++ {
			lists = append(lists, shortFrames(a, b))
		}
	}
	for _, a := range lists {
		for _, b := range lists {
			for _, c := range lists {
				for _, d := range lists {
					device := deviceOf(a, b, c, d)
					wantDeviceScan(t, device, foundOn(device))
				}
			}
		}
	}
}

// ascendingFrames returns so many frames, all of their kinds, with ascending numbers, at any places where they fit.
func ascendingFrames(r *rand.Rand, many int) []impl.Found {
	frames := slices.Concat(hotFrames(), coldFrames())
	seqs := r.Perm(seqMax)[:many]
	slices.Sort(seqs)
	list := make([]impl.Found, many)
	for i, seq := range seqs {
		f := numbered(1+seq, frames[r.IntN(len(frames))])
		list[i] = impl.Found{Zone: r.IntN(zones), At: r.IntN(lastAt(f) + 1), Frame: f}
	}
	return list
}

// knownFrames returns four frames with ascending numbers, the first and the last one of these included.
func knownFrames() []impl.Found {
	return []impl.Found{
		{Zone: 3, At: 5, Frame: numbered(1, hotFrame(pairsFrom(0, pairMax, 9)...))},
		{Zone: 0, At: 0, Frame: numbered(2, coldFrame(coldFrom(6, packMax, 8, 3)...))},
		{Zone: 3, At: zoneSize - 6, Frame: valueFrame(500, 1, 0)},
		{Zone: 2, At: 7, Frame: numbered(seqMax, hotFrame(impl.Pair{Block: 0, Value: 0}, impl.Pair{Block: 7, Value: 1}))},
	}
}

// mappedLists returns lists of frames that ScanMap accepts: none, one, several, and as many as there are numbers.
func mappedLists() [][]impl.Found {
	lists := [][]impl.Found{nil, {}, knownFrames(), foundOn(deviceOf(laidOut(valueFrame(5, 1, 2), valueFrame(8, 1, 3)), laidOut(valueFrame(6, 1, 0))))}
	for _, f := range slices.Concat(hotFrames(), coldFrames()) {
		lists = append(lists, []impl.Found{{Zone: f.Seq % zones, At: lastAt(f), Frame: f}})
	}
	r := rand.New(rand.NewPCG(39, 40))
	for _, many := range []int{2, 3, 4, 5, 7, 10, 20, 50, seqMax - 1, seqMax} {
		lists = append(lists, ascendingFrames(r, many), ascendingFrames(r, many))
	}
	return lists
}

// toldAll returns the map after all frames of a list that ScanMap accepts, apart from the program.
func toldAll(list []impl.Found) []impl.Where {
	m := mapOf()
	for _, x := range list {
		m = told(m, x.Frame, x.Zone, x.At)
	}
	return m
}

func TestScanMapOfKnownFrames(t *testing.T) {
	list := knownFrames()
	want := mapOf(hotAt(3, 9), hotAt(3, 11), hotAt(3, 13), hotAt(3, 15), hotAt(3, 17), hotAt(3, 19), hotAt(3, 21), hotAt(3, 23), hotAt(3, 25))
	wantMap(t, list[:1], want)
	copy(want[6:], []impl.Where{coldAt(0, 3, 8, 3), coldAt(0, 6, 8, 3), coldAt(0, 9, 8, 3), coldAt(0, 12, 8, 3), coldAt(0, 15, 8, 3), coldAt(0, 18, 8, 3)})
	wantMap(t, list[:2], want)
	want[1] = impl.Where{}
	wantMap(t, list[:3], want)
	want[0], want[7] = impl.Where{}, hotAt(2, 13)
	wantMap(t, list, want)
	wantMap(t, list[3:], withElement(mapOf(), 7, hotAt(2, 13)))
}

// Promise 66.
func TestScanMap(t *testing.T) {
	for _, list := range mappedLists() {
		wantMap(t, list, toldAll(list))
		if len(list) > 0 {
			last := list[len(list)-1]
			before, ok := impl.ScanMap(list[:len(list)-1])
			if !ok {
				t.Fatalf("ScanMap fails without the last one of %v", list)
			}
			wantMap(t, list, applied(t, before, last.Frame, last.Zone, last.At))
		}
	}
}

// Promise 67.
func TestScanMapWithoutFramesAndWithOneTwice(t *testing.T) {
	wantMap(t, nil, make([]impl.Where, blocks))
	wantMap(t, []impl.Found{}, make([]impl.Where, blocks))
	wantMap(t, knownFrames()[:0], make([]impl.Where, blocks))
	for _, list := range mappedLists() {
		if len(list) > 0 {
			wantNoMap(t, append(slices.Clone(list), list[len(list)-1]))
		}
	}
}

// Promise 68.
func TestScanMapOfTheFirstFrames(t *testing.T) {
	for _, list := range mappedLists() {
		for n := range min(len(list), 60) {
			wantMap(t, list[:n], toldAll(list[:n]))
		}
	}
}

// Frames with values that are 0: the blocks have no values then, and again ones if they are written again.
func TestScanMapOfValuesThatAreZero(t *testing.T) {
	for block := range blocks {
		set := impl.Found{Zone: 1, At: 10, Frame: valueFrame(3, block, valueMax)}
		none := impl.Found{Zone: 2, At: 20, Frame: valueFrame(4, block, 0)}
		again := impl.Found{Zone: 3, At: 30, Frame: valueFrame(5, block, 1)}
		cold := impl.Found{Zone: 0, At: 40, Frame: numbered(2, coldFrame(impl.Cold{Block: block, Id: 6, Index: 1}))}
		wantMap(t, []impl.Found{none}, mapOf())
		wantMap(t, []impl.Found{cold}, withElement(mapOf(), block, coldAt(0, 43, 6, 1)))
		wantMap(t, []impl.Found{cold, set}, withElement(mapOf(), block, hotAt(1, 14)))
		wantMap(t, []impl.Found{cold, none}, mapOf())
		wantMap(t, []impl.Found{cold, set, none}, mapOf())
		wantMap(t, []impl.Found{cold, set, none, again}, withElement(mapOf(), block, hotAt(3, 34)))
		wantMap(t, []impl.Found{none, again}, withElement(mapOf(), block, hotAt(3, 34)))
	}
	all := []impl.Found{{Frame: numbered(1, hotFrame(pairsFrom(0, pairMax, 0)...))}, {Frame: numbered(2, hotFrame(pairsFrom(3, pairMax, 0)...))}}
	wantMap(t, all, mapOf())
	wantMap(t, append(knownFrames()[:1], all[1:]...), mapOf(hotAt(3, 9), hotAt(3, 11), hotAt(3, 13)))
}

// Numbers that are equal, neighbouring or not, and ones that descend.
func TestScanMapNeedsAscendingNumbers(t *testing.T) {
	for _, list := range mappedLists() {
		if len(list) < 2 || len(list) > 20 {
			continue
		}
		for _, other := range disordered(list) {
			wantNoMap(t, other)
		}
		for i := range list {
			for j := range i {
				other := slices.Clone(list)
				other[i].Frame.Seq = list[j].Frame.Seq
				wantNoMap(t, other)
			}
		}
	}
	for _, a := range []int{1, 2, 3, 500, seqMax - 1, seqMax} {
		for _, b := range []int{1, 2, 3, 500, seqMax - 1, seqMax} {
			list := []impl.Found{{Zone: 1, At: 5, Frame: valueFrame(a, 3, 7)}, {Zone: 2, At: 9, Frame: valueFrame(b, 4, 8)}}
			if a < b {
				wantMap(t, list, mapOf(impl.Where{}, impl.Where{}, impl.Where{}, hotAt(1, 9), hotAt(2, 13)))
			} else {
				wantNoMap(t, list)
			}
		}
	}
}

// wantNoMapWith requires that ScanMap fails with one frame, alone and at the beginning, in the middle and at the end of others.
func wantNoMapWith(t *testing.T, x impl.Found) {
	t.Helper()
	// The number of the frame is one between the others, unless the frame cannot be applied because of it.
	if x.Frame.Seq >= 1 && x.Frame.Seq <= seqMax {
		x.Frame.Seq = 300
	}
	list := knownFrames()
	for n := range 3 {
		wantNoMap(t, slices.Concat(list[:n], []impl.Found{x}))
		wantNoMap(t, slices.Concat(list[:n], []impl.Found{x}, list[2:]))
		wantNoMap(t, slices.Concat(list[:n], []impl.Found{x}, list[3:]))
	}
}

// Frames that cannot be applied: invalid ones, ones whose bodies are not of their kinds, and ones that are not in a zone.
func TestScanMapOfFramesThatCannotBeApplied(t *testing.T) {
	for _, f := range refusedFrames() {
		wantNoMapWith(t, impl.Found{Zone: 1, At: 0, Frame: f})
	}
	for _, f := range slices.Concat(hotFrames(), coldFrames()) {
		for _, zone := range badZones {
			wantNoMapWith(t, impl.Found{Zone: zone, At: 0, Frame: f})
		}
		for _, at := range append([]int{lastAt(f) + 1, lastAt(f) + 2}, badAts...) {
			wantNoMapWith(t, impl.Found{Zone: 1, At: at, Frame: f})
		}
		for _, seq := range []int{0, -1, seqMax + 1, math.MinInt, math.MaxInt} {
			wantNoMapWith(t, impl.Found{Zone: 1, At: 0, Frame: numbered(seq, f)})
		}
	}
	wantNoMap(t, []impl.Found{{}})
	wantNoMap(t, make([]impl.Found, 1000))
}

// There is room for SeqMax numbers, and for no further one.
func TestScanMapOfAllNumbers(t *testing.T) {
	var list []impl.Found
	for seq := 1; seq <= seqMax; seq++ {
		list = append(list, impl.Found{Zone: seq % zones, At: seq % 50, Frame: valueFrame(seq, seq%blocks, 1+seq%valueMax)})
	}
	wantMap(t, list, toldAll(list))
	for _, seq := range []int{seqMax + 1, seqMax, 1, 0, math.MaxInt} {
		wantNoMap(t, append(slices.Clone(list), impl.Found{Frame: valueFrame(seq, 0, 1)}))
	}
}

// Frames of a device whose bodies are of no kind, or of the other one, are found, but tell no map.
func TestScansOfBodiesOfNoKind(t *testing.T) {
	some, none := 0, 0
	for _, f := range anyFrames() {
		for z := range zones {
			d := deviceOf(laidOut(valueFrame(1, 2, 3)))
			d[z].Words = slices.Concat(d[z].Words, laidOut(numbered(2, f)))
			wantScans(t, d)
			_, hot := impl.PairsGet(f.Body)
			_, cold := impl.ColdGet(f.Body)
			if f.Kind == kindHot && hot || f.Kind == kindCold && cold {
				wantMap(t, impl.ScanDevice(d), toldAll(foundOn(d)))
				some++
			} else {
				wantNoMap(t, impl.ScanDevice(d))
				none++
			}
		}
	}
	if some < 100 || none < 100 {
		t.Errorf("%d devices had a map and %d had none; want 100 of both", some, none)
	}
}

// Promises 61 to 68: frames that were appended to any zones. The map tells the words of the values that were written last.
func TestScansOfALogOfFrames(t *testing.T) {
	r := rand.New(rand.NewPCG(41, 42))
	for range 60 {
		d, values := make([]impl.Zone, zones), make([]int, blocks)
		for seq := 1; seq <= 30; seq++ {
			f := valueFrame(seq, r.IntN(blocks), r.IntN(valueMax+1))
			after, code := impl.DeviceAppend(d, r.IntN(zones), impl.FramePut(f))
			if code == zoneDone {
				d, values[f.Body[0]] = after, f.Body[1]
			}
			wantScans(t, d)
			m, ok := impl.ScanMap(impl.ScanDevice(d))
			if !ok {
				t.Fatalf("ScanMap of ScanDevice(%v) fails", d)
			}
			got := make([]int, blocks)
			for block, w := range m {
				if w.Tier == tierHot {
					got[block] = d[w.Zone].Words[w.At]
				}
			}
			wantList(t, got, values, "the values of %v", d)
		}
	}
}

// copiedFounds returns frames in memory of their own. With spare capacity, there is some behind the list and behind each body.
func copiedFounds(list []impl.Found, spare bool) []impl.Found {
	c := slices.Clip(slices.Clone(list))
	for i := range c {
		c[i].Frame.Body = slices.Clip(slices.Clone(c[i].Frame.Body))
		if n := len(c[i].Frame.Body); spare {
			c[i].Frame.Body = append(c[i].Frame.Body, 5, 6, 7)[:n]
		}
	}
	if spare {
		c = append(c, valueFound(), valueFound())[:len(list)]
	}
	return c
}

// valueFound returns a frame that is behind all others, at a place where it fits.
func valueFound() impl.Found {
	return impl.Found{Zone: 1, At: 2, Frame: valueFrame(seqMax, 3, 4)}
}

// allFounds returns a copy of frames and their spare capacity, that of the bodies included.
func allFounds(list []impl.Found) []impl.Found {
	c := slices.Clone(list[:cap(list)])
	for i := range c {
		c[i].Frame.Body = slices.Clone(c[i].Frame.Body[:cap(c[i].Frame.Body)])
	}
	return c
}

// checkScanMemory requires that a scan does not change a device, and that its results share no memory with this one, with those
// of another call, or with each other.
func checkScanMemory(t *testing.T, call func([]impl.Zone) ([]impl.Found, int), d []impl.Zone) {
	t.Helper()
	device := spacious(d)
	kept := allMemory(device)
	first, n := call(device)
	second, _ := call(device)
	keptFirst := copiedFounds(first, false)
	for i := range second {
		others := copiedFounds(second, false)
		fill(second[i].Frame.Body)
		others[i].Frame.Body = slices.Repeat([]int{77}, len(others[i].Frame.Body))
		if !sameFounds(second, others) {
			t.Fatalf("for %v, two frames of a result share memory", d)
		}
	}
	clear(second[:cap(second)])
	if !sameDevice(allMemory(device), kept) || !sameFounds(first, keptFirst) {
		t.Fatalf("for %v, the device was changed, or results share memory", d)
	}
	scribble(device)
	if !sameFounds(first, keptFirst) {
		t.Fatalf("for %v, a result shares memory with the device", d)
	}
	// What a call returned for the same device does not depend on what was done before.
	if third, many := call(copied(d)); many != n || !sameFounds(third, keptFirst) {
		t.Fatalf("for %v, a later call returned %v, %d; want %v, %d", d, third, many, keptFirst, n)
	}
}

// General rules: no scan changes a device, valid or not, and no results share memory.
func TestScansKeepDevicesAndShareNoMemory(t *testing.T) {
	for _, d := range slices.Concat(scannedDevices(), invalidDevices(), [][]impl.Zone{sharingDevice(), append(withFrames(), impl.Zone{})}) {
		checkScanMemory(t, func(d []impl.Zone) ([]impl.Found, int) { return impl.ScanDevice(d), 0 }, d)
		for z := -1; z <= zones; z++ {
			checkScanMemory(t, func(d []impl.Zone) ([]impl.Found, int) { return impl.ScanZone(d, z) }, d)
		}
	}
}

// Zones that share memory in the argument do not do so in the result.
func TestScansOfZonesThatShareMemoryInTheArgument(t *testing.T) {
	words := laidOut(valueFrame(3, 1, 2), valueFrame(2, 3, 4), shortFrame(5))
	d := deviceOf(words, words, words[:6], words[6:])
	wantScans(t, d)
	list := impl.ScanDevice(d)
	for i := range list {
		fill(list[i].Frame.Body)
		if i+1 < len(list) && slices.Contains(list[i+1].Frame.Body, 77) {
			t.Fatalf("two frames of ScanDevice(%v) share memory", d)
		}
	}
	wantScans(t, deviceOf(words, words, words[:6], words[6:]))
	wantList(t, words, laidOut(valueFrame(3, 1, 2), valueFrame(2, 3, 4), shortFrame(5)), "the words")
}

// General rules: ScanMap changes no frames, whether it succeeds or not, and its maps share no memory.
func TestScanMapKeepsFramesAndSharesNoMemory(t *testing.T) {
	lists := append(mappedLists(), slices.Repeat(knownFrames(), 2), []impl.Found{{}}, []impl.Found{{Zone: zones, Frame: shortFrame(1)}})
	for _, f := range refusedFrames() {
		lists = append(lists, append(knownFrames()[:2], impl.Found{Zone: 1, At: 0, Frame: f}))
	}
	for _, list := range lists {
		memory := copiedFounds(list, true)
		kept := allFounds(memory)
		first, ok := impl.ScanMap(memory)
		second, _ := impl.ScanMap(memory)
		keptFirst := slices.Clone(first)
		for i := range second[:cap(second)] {
			second[:cap(second)][i] = coldAt(3, 60, 77, 5)
		}
		if !sameFounds(allFounds(memory), kept) || !slices.Equal(first, keptFirst) {
			t.Fatalf("for %v, the frames were changed, or maps share memory", list)
		}
		for i := range memory {
			fill(memory[i].Frame.Body)
			memory[i] = impl.Found{}
		}
		third, fine := impl.ScanMap(copiedFounds(list, false))
		if fine != ok || !slices.Equal(first, keptFirst) || !slices.Equal(third, keptFirst) {
			t.Fatalf("for %v, a later call returned %v, %v; want %v, %v", list, third, fine, keptFirst, ok)
		}
	}
}

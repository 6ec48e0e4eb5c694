package tests

import (
	"math"
	"math/rand/v2"
	"slices"
	"sync"
	"testing"

	"loop.example/tiervolume/impl"
)

// As in the tests of frames, the numbers of the document are written out.
const (
	timeMax   = 999
	bucketMax = 100
)

// noBucket is what is returned where there is no bucket.
var noBucket = impl.Bucket{}

// badManys are numbers that cannot be taken from any bucket.
var badManys = []int{
	math.MinInt, math.MinInt + 1, math.MinInt + bucketMax, -1 << 32, -1<<32 + 5, -timeMax, -bucketMax - 1, -bucketMax, -2, -1, bucketMax + 1,
	bucketMax + 2, 2 * bucketMax, timeMax, wordMax, 1 << 32, 1<<32 + 5, math.MaxInt - bucketMax, math.MaxInt - 1, math.MaxInt,
}

// bucketOf returns a bucket, valid or not.
func bucketOf(level, most, rate, time int) impl.Bucket {
	return impl.Bucket{Level: level, Max: most, Rate: rate, Time: time}
}

// holds reports whether a bucket is valid, apart from the program.
func holds(b impl.Bucket) bool {
	for _, part := range []struct{ n, least, most int }{
		{b.Max, 1, bucketMax},
		{b.Level, 0, b.Max},
		{b.Rate, 0, bucketMax},
		{b.Time, 0, timeMax},
	} {
		if part.n < part.least || part.n > part.most {
			return false
		}
	}
	return true
}

// bucketLater returns a bucket at a time, apart from the program: it grows with each unit of time.
func bucketLater(b impl.Bucket, time int) (impl.Bucket, bool) {
	if !holds(b) || time < b.Time || time > timeMax {
		return noBucket, false
	}
	for b.Time < time {
		b.Time++
		b.Level += b.Rate
		if b.Level > b.Max {
			b.Level = b.Max
		}
	}
	return b, true
}

// bucketLess returns a bucket at a time without what is taken, apart from the program.
func bucketLess(b impl.Bucket, time, many int) (impl.Bucket, bool) {
	later, ok := bucketLater(b, time)
	if !ok || many < 0 || many > bucketMax {
		return noBucket, false
	}
	if later.Level < many {
		return later, false
	}
	return bucketOf(later.Level-many, b.Max, b.Rate, time), true
}

// firstTime returns the first time at which there is so much in a bucket, apart from the program: all times are tried.
func firstTime(b impl.Bucket, many int) int {
	if !holds(b) || many < 0 || many > bucketMax {
		return -1
	}
	for ok := true; ok; b, ok = bucketLater(b, b.Time+1) {
		if b.Level >= many {
			return b.Time
		}
	}
	return -1
}

// wantBucketValid requires what BucketValid returns.
func wantBucketValid(t *testing.T, b impl.Bucket, want bool) {
	t.Helper()
	if got := impl.BucketValid(b); got != want {
		t.Fatalf("BucketValid(%+v) = %v", b, got)
	}
}

// wantAt requires what BucketAt returns.
func wantAt(t *testing.T, b impl.Bucket, time int, want impl.Bucket, done bool) {
	t.Helper()
	if got, ok := impl.BucketAt(b, time); got != want || ok != done {
		t.Fatalf("BucketAt(%+v, %d) = %+v, %v; want %+v, %v", b, time, got, ok, want, done)
	}
}

// wantTake requires what BucketTake returns.
func wantTake(t *testing.T, b impl.Bucket, time, many int, want impl.Bucket, done bool) {
	t.Helper()
	if got, ok := impl.BucketTake(b, time, many); got != want || ok != done {
		t.Fatalf("BucketTake(%+v, %d, %d) = %+v, %v; want %+v, %v", b, time, many, got, ok, want, done)
	}
}

// wantWait requires what BucketWait returns.
func wantWait(t *testing.T, b impl.Bucket, many int, want int) {
	t.Helper()
	if got := impl.BucketWait(b, many); got != want {
		t.Fatalf("BucketWait(%+v, %d) = %d; want %d", b, many, got, want)
	}
}

// wantAtAndTake requires what BucketAt and BucketTake return, apart from the program.
func wantAtAndTake(t *testing.T, b impl.Bucket, time, many int) {
	t.Helper()
	later, ok := bucketLater(b, time)
	wantAt(t, b, time, later, ok)
	less, ok := bucketLess(b, time, many)
	wantTake(t, b, time, many, less, ok)
}

// wantNoBucket requires that all functions refuse a bucket.
func wantNoBucket(t *testing.T, b impl.Bucket) {
	t.Helper()
	wantBucketValid(t, b, false)
	for _, time := range []int{b.Time, b.Time + 1, -1, 0, 1, 500, timeMax, timeMax + 1} {
		wantAt(t, b, time, noBucket, false)
		for _, many := range []int{-1, 0, 1, b.Level, b.Max, bucketMax, bucketMax + 1} {
			wantTake(t, b, time, many, noBucket, false)
		}
	}
	for _, many := range []int{-1, 0, 1, 2, 50, b.Level, b.Max, bucketMax, bucketMax + 1} {
		wantWait(t, b, many, -1)
	}
}

// distinct returns numbers without those that are there twice.
func distinct(list ...int) []int {
	slices.Sort(list)
	return slices.Compact(list)
}

// fewLevels returns the least and the largest levels of a bucket, and some between.
func fewLevels(most int) []int {
	return distinct(0, min(1, most), most/2, most-1, most)
}

// fewRates are how fast buckets grow, or that they do not.
var fewRates = []int{0, 1, 2, 3, 7, 33, 49, 50, 51, 99, 100}

// fewBuckets returns valid buckets: small and large ones, from empty to full, from early to late times.
func fewBuckets() []impl.Bucket {
	var list []impl.Bucket
	for _, most := range []int{1, 2, 10, 55, 99, 100} {
		for _, level := range fewLevels(most) {
			for _, rate := range fewRates {
				for _, time := range []int{0, 1, 500, 989, 998, timeMax} {
					list = append(list, bucketOf(level, most, rate, time))
				}
			}
		}
	}
	return list
}

// fewTimes returns some times that are not earlier than that of a bucket.
func fewTimes(b impl.Bucket) []int {
	list := distinct(b.Time, b.Time+1, b.Time+2, b.Time+9, (b.Time+timeMax)/2, timeMax-1, timeMax)
	return slices.DeleteFunc(list, func(time int) bool { return time < b.Time || time > timeMax })
}

// badTimes returns times that are earlier than that of a bucket, or after all times.
func badTimes(b impl.Bucket) []int {
	list := []int{
		math.MinInt, math.MinInt + 1, math.MinInt + b.Time, -1 << 32, b.Time - 1<<32, -timeMax, -b.Time - 1, -2, -1, 0, b.Time / 2, b.Time - 2, b.Time - 1,
		timeMax + 1, timeMax + 2, timeMax + b.Time, 2 * timeMax, wordMax, 1 << 32, b.Time + 1<<32, math.MaxInt - timeMax, math.MaxInt - 1, math.MaxInt,
	}
	return slices.DeleteFunc(list, func(time int) bool { return time >= b.Time && time <= timeMax })
}

// anyBucket returns any valid bucket.
func anyBucket(r *rand.Rand) impl.Bucket {
	most := 1 + r.IntN(bucketMax)
	return bucketOf(r.IntN(most+1), most, r.IntN(bucketMax+1), r.IntN(timeMax+1))
}

func TestBucketConstants(t *testing.T) {
	if impl.TimeMax != 999 {
		t.Errorf("TimeMax is %d; want 999", impl.TimeMax)
	}
}

// Promise 140, for buckets that are written out.
func TestKnownBuckets(t *testing.T) {
	for _, c := range []struct {
		b     impl.Bucket
		time  int
		level int
	}{
		{bucketOf(4, 10, 2, 5), 5, 4},
		{bucketOf(4, 10, 2, 5), 6, 6},
		{bucketOf(4, 10, 2, 5), 7, 8},
		{bucketOf(4, 10, 2, 5), 8, 10},
		{bucketOf(4, 10, 2, 5), 9, 10},
		{bucketOf(4, 10, 2, 5), 999, 10},
		{bucketOf(0, 10, 3, 0), 3, 9},
		{bucketOf(0, 10, 3, 0), 4, 10},
		{bucketOf(0, 1, 0, 0), 0, 0},
		{bucketOf(0, 1, 0, 0), 999, 0},
		{bucketOf(0, 1, 1, 0), 1, 1},
		{bucketOf(0, 1, 100, 0), 1, 1},
		{bucketOf(0, 1, 100, 0), 999, 1},
		{bucketOf(1, 1, 0, 999), 999, 1},
		{bucketOf(0, 100, 1, 0), 99, 99},
		{bucketOf(0, 100, 1, 0), 100, 100},
		{bucketOf(0, 100, 1, 0), 101, 100},
		{bucketOf(0, 100, 1, 900), 999, 99},
		{bucketOf(0, 100, 1, 899), 999, 100},
		{bucketOf(0, 100, 99, 7), 8, 99},
		{bucketOf(0, 100, 99, 7), 9, 100},
		{bucketOf(0, 100, 100, 0), 999, 100},
		{bucketOf(37, 100, 0, 0), 999, 37},
		{bucketOf(100, 100, 100, 998), 999, 100},
	} {
		wantAt(t, c.b, c.time, bucketOf(c.level, c.b.Max, c.b.Rate, c.time), true)
	}
	wantAt(t, bucketOf(4, 10, 2, 5), 4, noBucket, false)
	wantAt(t, bucketOf(4, 10, 2, 5), 1000, noBucket, false)
	wantAt(t, bucketOf(11, 10, 2, 5), 7, noBucket, false)
}

// Promises 141 and 142, for buckets that are written out.
func TestKnownTakes(t *testing.T) {
	b := bucketOf(4, 10, 2, 5)
	wantTake(t, b, 5, 0, b, true)
	wantTake(t, b, 5, 4, bucketOf(0, 10, 2, 5), true)
	wantTake(t, b, 5, 5, b, false)
	wantTake(t, b, 6, 5, bucketOf(1, 10, 2, 6), true)
	wantTake(t, b, 6, 6, bucketOf(0, 10, 2, 6), true)
	wantTake(t, b, 6, 7, bucketOf(6, 10, 2, 6), false)
	wantTake(t, b, 999, 10, bucketOf(0, 10, 2, 999), true)
	wantTake(t, b, 999, 11, bucketOf(10, 10, 2, 999), false)
	wantTake(t, b, 999, 100, bucketOf(10, 10, 2, 999), false)
	wantTake(t, b, 999, 101, noBucket, false)
	wantTake(t, b, 999, -1, noBucket, false)
	wantTake(t, b, 4, 0, noBucket, false)
	wantTake(t, b, 1000, 0, noBucket, false)
	wantTake(t, bucketOf(100, 100, 0, 0), 999, 100, bucketOf(0, 100, 0, 999), true)
	wantTake(t, bucketOf(99, 100, 0, 0), 999, 100, bucketOf(99, 100, 0, 999), false)
	wantTake(t, bucketOf(5, 4, 0, 0), 0, 0, noBucket, false)
}

// Promises 145 and 146, for buckets that are written out.
func TestKnownWaits(t *testing.T) {
	for _, c := range []struct {
		b    impl.Bucket
		many int
		want int
	}{
		{bucketOf(4, 10, 2, 5), 0, 5},
		{bucketOf(4, 10, 2, 5), 4, 5},
		{bucketOf(4, 10, 2, 5), 5, 6},
		{bucketOf(4, 10, 2, 5), 6, 6},
		{bucketOf(4, 10, 2, 5), 7, 7},
		{bucketOf(4, 10, 2, 5), 9, 8},
		{bucketOf(4, 10, 2, 5), 10, 8},
		{bucketOf(4, 10, 2, 5), 11, -1},
		{bucketOf(4, 10, 2, 5), -1, -1},
		{bucketOf(0, 10, 3, 0), 10, 4},
		{bucketOf(4, 10, 0, 5), 4, 5},
		{bucketOf(4, 10, 0, 5), 5, -1},
		{bucketOf(10, 10, 0, 5), 10, 5},
		{bucketOf(10, 10, 0, 5), 11, -1},
		{bucketOf(0, 100, 1, 899), 100, 999},
		{bucketOf(0, 100, 1, 900), 100, -1},
		{bucketOf(0, 100, 1, 900), 99, 999},
		{bucketOf(0, 100, 100, 998), 100, 999},
		{bucketOf(0, 100, 100, 999), 100, -1},
		{bucketOf(0, 100, 100, 999), 1, -1},
		{bucketOf(0, 100, 100, 999), 0, 999},
		{bucketOf(100, 100, 100, 999), 100, 999},
		{bucketOf(100, 100, 100, 0), 100, 0},
		{bucketOf(100, 100, 100, 0), 101, -1},
		{bucketOf(4, 3, 2, 5), 0, -1},
	} {
		wantWait(t, c.b, c.many, c.want)
	}
}

// withFarNumbers returns some numbers, and others that are far beyond all limits.
func withFarNumbers(list ...int) []int {
	return distinct(append(list, math.MinInt, math.MinInt+1, -1<<32, -1<<32+1, -wordMax, 1<<32, 1<<32+1, wordMax, math.MaxInt-1, math.MaxInt)...)
}

// Each number alone, at both ends of its range, just beyond them and far beyond; the others are in range.
func TestBucketValidLooksAtEachNumber(t *testing.T) {
	for _, b := range []impl.Bucket{bucketOf(0, 1, 0, 0), bucketOf(1, 1, 100, 999), bucketOf(4, 10, 2, 5), bucketOf(100, 100, 100, 999), bucketOf(0, 100, 1, 0)} {
		wantBucketValid(t, b, true)
		for _, n := range withFarNumbers(-101, -100, -2, -1, 0, 1, 2, 99, 100, 101, 102, 200, 998, 999, 1000, 1001, 1100) {
			changed := b
			changed.Max = n
			wantBucketValid(t, changed, n >= 1 && n <= 100 && n >= b.Level)
			changed = b
			changed.Rate = n
			wantBucketValid(t, changed, n >= 0 && n <= 100)
			changed = b
			changed.Time = n
			wantBucketValid(t, changed, n >= 0 && n <= 999)
		}
		for _, n := range withFarNumbers(-b.Max, -2, -1, 0, 1, b.Max-1, b.Max, b.Max+1, b.Max+2, 99, 100, 101, 102) {
			changed := b
			changed.Level = n
			wantBucketValid(t, changed, n >= 0 && n <= b.Max)
		}
	}
}

// All levels of all largest levels, and those that are just beyond; all rates and all times.
func TestBucketValidForAllNumbers(t *testing.T) {
	for most := -3; most <= bucketMax+3; most++ {
		for level := -3; level <= bucketMax+6; level++ {
			wantBucketValid(t, bucketOf(level, most, 1, 1), most >= 1 && most <= 100 && level >= 0 && level <= most)
		}
	}
	for rate := -2 * bucketMax; rate <= timeMax+2; rate++ {
		wantBucketValid(t, bucketOf(1, 2, rate, 3), rate >= 0 && rate <= 100)
	}
	for time := -timeMax - 1; time <= 2*timeMax; time++ {
		wantBucketValid(t, bucketOf(1, 2, 3, time), time >= 0 && time <= 999)
	}
}

// All numbers together, at both ends of their ranges, just beyond them and far beyond.
func TestBucketsAtTheLimits(t *testing.T) {
	valid, invalid := 0, 0
	for _, most := range []int{math.MinInt, -1, 0, 1, 2, 99, 100, 101, math.MaxInt} {
		levels := distinct(math.MinInt, -1, 0, 1, most-1, most, most+1, 100, 101, math.MaxInt)
		for _, level := range levels {
			for _, rate := range []int{math.MinInt, -1, 0, 1, 100, 101, math.MaxInt} {
				for _, time := range []int{math.MinInt, -1, 0, 1, 998, timeMax, timeMax + 1, math.MaxInt} {
					b := bucketOf(level, most, rate, time)
					if !holds(b) {
						wantNoBucket(t, b)
						invalid++
						continue
					}
					wantBucketValid(t, b, true)
					for _, many := range []int{-1, 0, 1, level, most, most + 1, 100, 101} {
						wantAtAndTake(t, b, time, many)
						wantAtAndTake(t, b, timeMax, many)
						wantWait(t, b, many, firstTime(b, many))
					}
					valid++
				}
			}
		}
	}
	if valid < 100 || invalid < 1000 {
		t.Fatalf("%d buckets are valid and %d are not", valid, invalid)
	}
}

// A bucket without any number is invalid, as its largest level is 0.
func TestTheZeroBucket(t *testing.T) {
	wantNoBucket(t, noBucket)
}

// Promises 139 to 142 and 146: with Rate 0, full, empty and between, at the bucket's own time, one later and at TimeMax.
func TestBucketsThatDoNotGrow(t *testing.T) {
	for most := 1; most <= bucketMax; most++ {
		for level := range most + 1 {
			for _, time := range []int{0, 1, 500, 998, timeMax} {
				b := bucketOf(level, most, 0, time)
				wantBucketValid(t, b, true)
				for _, at := range distinct(time, min(time+1, timeMax), timeMax) {
					same := bucketOf(level, most, 0, at)
					wantAt(t, b, at, same, true)
					wantTake(t, b, at, 0, same, true)
					wantTake(t, b, at, level, bucketOf(0, most, 0, at), true)
					if level < bucketMax {
						wantTake(t, b, at, level+1, same, false)
						wantTake(t, b, at, bucketMax, same, false)
					}
				}
				wantAt(t, b, time-1, noBucket, false)
				wantAt(t, b, timeMax+1, noBucket, false)
			}
		}
	}
}

// Promises 145 and 146: in a bucket with Rate 0, there is what is there, or it never comes.
func TestBucketWaitOfBucketsThatDoNotGrow(t *testing.T) {
	for _, most := range []int{1, 2, 3, 10, 50, 99, 100} {
		for level := range most + 1 {
			for _, time := range []int{0, 1, 500, 998, timeMax} {
				for many := -1; many <= bucketMax+1; many++ {
					want := -1
					if many >= 0 && many <= level {
						want = time
					}
					wantWait(t, bucketOf(level, most, 0, time), many, want)
				}
			}
		}
	}
}

// Promises 140 and 146: full buckets stay full, however fast they would grow.
func TestFullBuckets(t *testing.T) {
	for most := 1; most <= bucketMax; most++ {
		for rate := range bucketMax + 1 {
			for _, time := range []int{0, 500, 998, timeMax} {
				full := bucketOf(most, most, rate, time)
				for _, at := range distinct(time, min(time+1, timeMax), timeMax) {
					wantAt(t, full, at, bucketOf(most, most, rate, at), true)
				}
				wantTake(t, full, timeMax, most, bucketOf(0, most, rate, timeMax), true)
				wantWait(t, full, most, time)
				wantWait(t, full, most-1, time)
				wantWait(t, full, most+1, -1)
			}
		}
	}
}

// Promise 140: all levels and all rates, at the bucket's own time, soon after it, and at TimeMax.
func TestBucketAtForEachLevelAndRate(t *testing.T) {
	for _, most := range []int{1, 2, 7, 50, 99, 100} {
		for level := range most + 1 {
			for rate := range bucketMax + 1 {
				for _, after := range []int{0, 1, 2, 3} {
					for _, time := range []int{0, 400, timeMax - after} {
						want := min(level+rate*after, most)
						wantAt(t, bucketOf(level, most, rate, time), time+after, bucketOf(want, most, rate, time+after), true)
					}
				}
				want := most
				if rate == 0 {
					want = level
				}
				wantAt(t, bucketOf(level, most, rate, 0), timeMax, bucketOf(want, most, rate, timeMax), true)
			}
		}
	}
}

// Promise 140: at each time from the bucket's own one on, and at none ahead of it.
func TestBucketAtEachTime(t *testing.T) {
	for _, b := range []impl.Bucket{
		bucketOf(0, 100, 1, 0), bucketOf(0, 100, 1, 899), bucketOf(0, 100, 1, 900), bucketOf(4, 10, 2, 5), bucketOf(3, 100, 7, 985), bucketOf(0, 100, 100, 0),
		bucketOf(0, 1, 1, 998), bucketOf(50, 100, 0, 500), bucketOf(99, 100, 100, 998), bucketOf(1, 2, 3, timeMax), bucketOf(0, 99, 49, 500),
	} {
		want := b
		for time := -3; time <= timeMax+3; time++ {
			if time < b.Time || time > timeMax {
				wantAt(t, b, time, noBucket, false)
				continue
			}
			want.Time = time
			wantAt(t, b, time, want, true)
			want.Level += min(b.Rate, b.Max-want.Level)
		}
	}
}

// Promise 140: just below the largest level, at it, and where the rate would lead beyond it, by little and by far.
func TestBucketAtAroundTheLargestLevel(t *testing.T) {
	for most := 1; most <= bucketMax; most++ {
		for rate := 1; rate <= bucketMax; rate++ {
			for after := 1; rate*after <= most; after++ {
				level := most - rate*after
				wantAt(t, bucketOf(level, most, rate, 0), after, bucketOf(most, most, rate, after), true)
				wantAt(t, bucketOf(level, most, rate, 0), after-1, bucketOf(most-rate, most, rate, after-1), true)
				wantAt(t, bucketOf(level, most, rate, 0), after+1, bucketOf(most, most, rate, after+1), true)
				wantAt(t, bucketOf(level, most, rate, 0), timeMax, bucketOf(most, most, rate, timeMax), true)
				wantAt(t, bucketOf(level+1, most, rate, 0), after, bucketOf(most, most, rate, after), true)
				if level > 0 {
					wantAt(t, bucketOf(level-1, most, rate, 0), after, bucketOf(most-1, most, rate, after), true)
				}
			}
		}
	}
}

// BucketAt fails at times that are earlier than the bucket's, and after TimeMax. So does BucketTake, whatever is taken.
func TestBucketsAtOtherTimes(t *testing.T) {
	for _, b := range fewBuckets() {
		for _, time := range badTimes(b) {
			wantAt(t, b, time, noBucket, false)
			for _, many := range []int{0, 1, b.Level, b.Max, bucketMax, -1, bucketMax + 1, time} {
				wantTake(t, b, time, many, noBucket, false)
			}
		}
	}
}

// Promise 139: with one time between on the way, with several, and with all.
func TestBucketAtWithTimesBetween(t *testing.T) {
	for _, b := range fewBuckets() {
		step := b
		for _, time := range fewTimes(b) {
			want, ok := impl.BucketAt(b, time)
			if !ok {
				t.Fatalf("BucketAt(%+v, %d) failed", b, time)
			}
			for _, between := range fewTimes(b) {
				if between <= time {
					half, _ := impl.BucketAt(b, between)
					wantAt(t, half, time, want, true)
				}
			}
			wantAt(t, step, time, want, true)
			step = want
		}
	}
	for _, b := range []impl.Bucket{bucketOf(0, 100, 1, 0), bucketOf(1, 100, 7, 400), bucketOf(0, 3, 100, 3), bucketOf(9, 10, 0, 990)} {
		want, _ := impl.BucketAt(b, timeMax)
		for step, ok := b, true; ok; step, ok = impl.BucketAt(step, step.Time+1) {
			wantAt(t, step, timeMax, want, true)
		}
	}
}

// Promises 141 and 142: all that could be taken, from buckets at several times.
func TestBucketTakeOfEachNumber(t *testing.T) {
	for _, b := range fewBuckets() {
		for _, time := range fewTimes(b) {
			at, _ := impl.BucketAt(b, time)
			for many := range bucketMax + 1 {
				if many > at.Level {
					wantTake(t, b, time, many, at, false)
				} else {
					wantTake(t, b, time, many, bucketOf(at.Level-many, b.Max, b.Rate, time), true)
				}
			}
		}
	}
}

// BucketTake and BucketWait refuse numbers that are not in the range 0 to 100, also of full buckets.
func TestNumbersThatCannotBeTaken(t *testing.T) {
	for _, b := range fewBuckets() {
		for _, many := range badManys {
			for _, time := range fewTimes(b) {
				wantTake(t, b, time, many, noBucket, false)
			}
			wantWait(t, b, many, -1)
		}
	}
}

// Promise 142: what is left then can be taken at the same time, and not more.
func TestBucketTakeOfWhatIsLeft(t *testing.T) {
	for _, b := range fewBuckets() {
		for _, time := range fewTimes(b) {
			for _, many := range []int{0, 1, b.Level, b.Max / 2, b.Max} {
				left, ok := impl.BucketTake(b, time, many)
				if !ok {
					continue
				}
				wantTake(t, left, time, left.Level, bucketOf(0, b.Max, b.Rate, time), true)
				for more := left.Level + 1; more <= bucketMax; more++ {
					wantTake(t, left, time, more, left, false)
				}
				wantTake(t, left, time, bucketMax+1, noBucket, false)
			}
		}
	}
}

// Promise 143: never more than there was and what came since then, nor more than the largest level.
func TestBucketTakeIsLimited(t *testing.T) {
	for _, b := range fewBuckets() {
		for _, time := range fewTimes(b) {
			for many := range bucketMax + 1 {
				limit := min(b.Level+b.Rate*(time-b.Time), b.Max)
				if _, ok := impl.BucketTake(b, time, many); ok != (many <= limit) {
					t.Fatalf("BucketTake(%+v, %d, %d) returned %v; at most %d can be taken", b, time, many, ok, limit)
				}
			}
		}
	}
}

// Promise 144: in two parts, in all ways, and in parts of one each.
func TestBucketTakeInParts(t *testing.T) {
	for _, b := range fewBuckets() {
		for _, time := range []int{b.Time, min(b.Time+3, timeMax)} {
			at, _ := impl.BucketAt(b, time)
			for _, many := range distinct(1, at.Level/2, at.Level) {
				want, ok := impl.BucketTake(b, time, many)
				if !ok {
					continue
				}
				for part := range many + 1 {
					first, ok := impl.BucketTake(b, time, part)
					if !ok {
						t.Fatalf("BucketTake(%+v, %d, %d) failed, but of %d it succeeded", b, time, part, many)
					}
					wantTake(t, first, time, many-part, want, true)
				}
				left := b
				for range many {
					left, _ = impl.BucketTake(left, time, 1)
				}
				wantTake(t, left, time, 0, want, true)
			}
		}
	}
}

// Promise 145: for each rate, at a distance of each number of units of time, from time 0 on, between, and up to TimeMax just or not.
func TestBucketWaitForEachRate(t *testing.T) {
	for rate := 1; rate <= bucketMax; rate++ {
		for _, level := range []int{0, 1, 37} {
			for units := 1; level+rate*units <= bucketMax+rate; units++ {
				// The least number that takes so many units of time, and the greatest one.
				least, greatest := level+rate*(units-1)+1, min(level+rate*units, bucketMax)
				if least > bucketMax {
					continue
				}
				for _, many := range distinct(least, greatest) {
					for _, most := range distinct(many, bucketMax) {
						for _, time := range []int{0, 5, 400, timeMax - units - 1, timeMax - units} {
							wantWait(t, bucketOf(level, most, rate, time), many, time+units)
						}
						for _, time := range distinct(timeMax-units+1, timeMax) {
							wantWait(t, bucketOf(level, most, rate, time), many, -1)
						}
					}
				}
			}
		}
	}
}

// Promise 145: BucketTake succeeds at the time, and not at any one before it; if there is no time, it does not at all.
func TestBucketWaitIsTheFirstTime(t *testing.T) {
	for _, b := range fewBuckets() {
		for _, many := range distinct(0, 1, b.Level, min(b.Level+1, bucketMax), b.Max-1, b.Max, min(b.Max+1, bucketMax), bucketMax) {
			wait := impl.BucketWait(b, many)
			if wait < -1 || wait > timeMax || wait >= 0 && wait < b.Time {
				t.Fatalf("BucketWait(%+v, %d) = %d", b, many, wait)
			}
			for time := b.Time; time <= timeMax && time != wait; time++ {
				if left, ok := impl.BucketTake(b, time, many); ok {
					t.Fatalf("BucketWait(%+v, %d) = %d, but BucketTake at %d = %+v, true", b, many, wait, time, left)
				}
			}
			if left, ok := impl.BucketTake(b, wait, many); ok != (wait != -1) {
				t.Fatalf("BucketWait(%+v, %d) = %d, but BucketTake then = %+v, %v", b, many, wait, left, ok)
			}
		}
	}
}

// Promise 146: what is there need not be waited for, and what is more than the largest level never comes.
func TestBucketWaitOfWhatIsThereAndOfTooMuch(t *testing.T) {
	for _, b := range fewBuckets() {
		for many := range bucketMax + 1 {
			if many <= b.Level {
				wantWait(t, b, many, b.Time)
			}
			if many > b.Max {
				wantWait(t, b, many, -1)
			}
		}
	}
}

// Promises 145 and 146: all levels of some buckets and all numbers, soon enough and too late.
func TestBucketWaitForEachLevelAndNumber(t *testing.T) {
	for _, most := range []int{1, 2, 30, 100} {
		for level := range most + 1 {
			for _, rate := range []int{1, 2, 9, 99, 100} {
				for _, time := range []int{0, 950, 990, 998, timeMax} {
					for many := range bucketMax + 1 {
						// So many units of time are needed: what is not there yet, by the rate, and one more for a remainder.
						need := max(many-level, 0)
						want := time + need/rate + min(need%rate, 1)
						if many > most || want > timeMax {
							want = -1
						}
						wantWait(t, bucketOf(level, most, rate, time), many, want)
					}
				}
			}
		}
	}
}

// Promises 139 to 146: valid buckets, times and numbers drawn at random, against the sentences of the document.
func TestRandomBuckets(t *testing.T) {
	r := rand.New(rand.NewPCG(331, 332))
	for range 60000 {
		b := anyBucket(r)
		wantBucketValid(t, b, true)
		time := b.Time + r.IntN(timeMax-b.Time+1)
		if r.IntN(2) == 0 {
			time = min(b.Time+r.IntN(6), timeMax)
		}
		many := r.IntN(bucketMax + 1)
		if r.IntN(2) == 0 {
			many = r.IntN(b.Max + 1)
		}
		wantAtAndTake(t, b, time, many)
		wantWait(t, b, many, firstTime(b, many))
	}
}

// anyNumber returns any number: one around a range from 0 on, one that ends like one of the range, or any other one.
func anyNumber(r *rand.Rand, most int) int {
	switch r.IntN(12) {
	case 0:
		return int(r.Uint64())
	case 1:
		return 1<<32 + r.IntN(most+1)
	case 2:
		return []int{math.MinInt, math.MaxInt, -1, most + 1, -most}[r.IntN(5)]
	}
	return r.IntN(most+3) - 1
}

// The same for any buckets, times and numbers.
func TestAnyNumbersAsBuckets(t *testing.T) {
	r := rand.New(rand.NewPCG(333, 334))
	valid, taken, waited := 0, 0, 0
	for range 120000 {
		b := bucketOf(anyNumber(r, bucketMax), anyNumber(r, bucketMax), anyNumber(r, bucketMax), anyNumber(r, timeMax))
		time, many := anyNumber(r, timeMax), anyNumber(r, bucketMax)
		wantBucketValid(t, b, holds(b))
		wantAtAndTake(t, b, time, many)
		wantWait(t, b, many, firstTime(b, many))
		if holds(b) {
			valid++
		}
		if _, ok := bucketLess(b, time, many); ok {
			taken++
		}
		if firstTime(b, many) > b.Time {
			waited++
		}
	}
	if valid < 1000 || taken < 1000 || waited < 1000 {
		t.Fatalf("%d buckets were valid, %d times something was taken, and %d times it was waited for", valid, taken, waited)
	}
}

// Max and Rate never change, Time is the time that was asked for, and what is returned is a bucket again.
func TestBucketsKeepMaxAndRate(t *testing.T) {
	check := func(call string, b, got impl.Bucket, time int) {
		if got.Max != b.Max || got.Rate != b.Rate || got.Time != time || !impl.BucketValid(got) {
			t.Fatalf("%s of %+v at %d returned %+v", call, b, time, got)
		}
	}
	for _, b := range fewBuckets() {
		for _, time := range fewTimes(b) {
			at, ok := impl.BucketAt(b, time)
			if !ok {
				t.Fatalf("BucketAt(%+v, %d) failed", b, time)
			}
			check("BucketAt", b, at, time)
			for many := range bucketMax + 1 {
				left, _ := impl.BucketTake(b, time, many)
				check("BucketTake", b, left, time)
			}
		}
	}
}

// Promises 141 and 143: something is taken time after time. The level is that of the model, and all that was taken is never more than
// there was and what came.
func TestManyTakesOneAfterTheOther(t *testing.T) {
	r := rand.New(rand.NewPCG(335, 336))
	refused, done := 0, 0
	for range 400 {
		first := anyBucket(r)
		first.Time, first.Rate = r.IntN(20), r.IntN(1+r.IntN(bucketMax+1))
		b, taken := first, 0
		for b.Time < timeMax {
			time := min(b.Time+r.IntN(1+r.IntN(40)), timeMax)
			many := r.IntN(min(b.Max+2, bucketMax+1))
			want, ok := bucketLess(b, time, many)
			wantTake(t, b, time, many, want, ok)
			b = want
			if !ok {
				refused++
				continue
			}
			done++
			taken += many
			if limit := first.Level + first.Rate*(time-first.Time); taken > limit {
				t.Fatalf("of %+v, %d were taken up to %d", first, taken, time)
			}
		}
	}
	if refused < 1000 || done < 1000 {
		t.Fatalf("%d takes were refused, and %d were not", refused, done)
	}
}

// Promise 145: who waits and then takes, again and again, is never refused, until no time is left for it.
func TestWaitsAndTakesOneAfterTheOther(t *testing.T) {
	for rate := range bucketMax + 1 {
		for _, many := range []int{1, 7, 50, 100} {
			b := bucketOf(30, 100, rate, 980)
			for time := impl.BucketWait(b, many); time != -1; time = impl.BucketWait(b, many) {
				want, ok := bucketLess(b, time, many)
				if !ok {
					t.Fatalf("BucketWait(%+v, %d) = %d, which is too early", b, many, time)
				}
				wantTake(t, b, time, many, want, true)
				b = want
			}
			if last, _ := bucketLater(b, timeMax); last.Level >= many {
				t.Fatalf("BucketWait(%+v, %d) = -1, but at last, it is %+v", b, many, last)
			}
		}
	}
}

// Functions keep no state: the same calls return the same, in whatever order, and also at the same time.
func TestBucketsAtTheSameTime(t *testing.T) {
	list := fewBuckets()
	var calls sync.WaitGroup
	for first := range 8 {
		calls.Go(func() {
			for i := range list {
				b := list[(i*7+first*331)%len(list)]
				many := (i + first) % (bucketMax + 1)
				want := firstTime(b, many)
				if got := impl.BucketWait(b, many); got != want {
					t.Errorf("BucketWait(%+v, %d) = %d; want %d", b, many, got, want)
					return
				}
				less, done := bucketLess(b, timeMax, many)
				if got, ok := impl.BucketTake(b, timeMax, many); got != less || ok != done {
					t.Errorf("BucketTake(%+v, %d, %d) = %+v, %v; want %+v, %v", b, timeMax, many, got, ok, less, done)
					return
				}
			}
		})
	}
	calls.Wait()
}

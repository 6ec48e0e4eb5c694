package tests

import (
	"math"
	"math/rand/v2"
	"slices"
	"testing"

	"loop.example/tiervolume/impl"
)

// As in the tests of frames, the numbers of the document are written out.
const (
	columnMax = 6
	checkBase = 101
)

// badChecks are numbers that no check is.
var badChecks = []int{
	math.MinInt, math.MinInt + 1, -1 << 32, -checkBase - 1, -checkBase, -checkBase + 1, -2, -1, checkBase, checkBase + 1, 2 * checkBase,
	wordMax, 1 << 32, math.MaxInt - 1, math.MaxInt,
}

// badColumnPlaces returns numbers that are no indexes of so many columns.
func badColumnPlaces(n int) []int {
	return []int{math.MinInt, math.MinInt + 1, -1 << 32, -checkBase, -n, -2, -1, n, n + 1, 2 * n, columnMax, checkBase, checkBase + 1, 1 << 32, math.MaxInt - 1, math.MaxInt}
}

// checksBy returns the checks of columns, apart from the program.
func checksBy(list []int) impl.Check {
	sum, weigh := 0, 0
	for at, value := range list {
		sum += value
		weigh += (at + 1) * value
	}
	return impl.Check{Sum: sum % checkBase, Weigh: weigh % checkBase}
}

// randomColumns returns any n columns.
func randomColumns(r *rand.Rand, n int) []int {
	list := make([]int, n)
	for at := range list {
		list[at] = r.IntN(valueMax + 1)
	}
	return list
}

// fewColumns returns some lists of n columns: the least and the largest values, and mixed ones.
func fewColumns(n int) [][]int {
	r := rand.New(rand.NewPCG(61, uint64(n)))
	return [][]int{make([]int, n), slices.Repeat([]int{valueMax}, n), []int{10, 99, 0, 45, 98, 1}[:n], randomColumns(r, n)}
}

// validColumns returns columns: 1 to ColumnMax, equal ones, one that differs from all others, ascending and random ones.
func validColumns() [][]int {
	var lists [][]int
	r := rand.New(rand.NewPCG(63, 64))
	for n := 1; n <= columnMax; n++ {
		lists = append(lists, counting(n, 0), counting(n, valueMax-n+1), backward(counting(n, 47)))
		for _, value := range []int{0, 1, 2, 49, 50, 51, valueMax - 1, valueMax} {
			lists = append(lists, slices.Repeat([]int{value}, n))
			for at := range n {
				for _, other := range []int{0, 50, valueMax} {
					lists = append(lists, withNumber(slices.Repeat([]int{other}, n), at, value))
				}
			}
		}
		for range 20 {
			lists = append(lists, randomColumns(r, n))
		}
	}
	return lists
}

// invalidColumns returns columns of which just one rule does not hold.
func invalidColumns() [][]int {
	lists := [][]int{nil, {}}
	for _, n := range []int{columnMax + 1, columnMax + 2, 2 * columnMax, checkBase, 5000} {
		for _, value := range []int{0, 7, valueMax} {
			lists = append(lists, slices.Repeat([]int{value}, n))
		}
	}
	for n := 1; n <= columnMax; n++ {
		for at := range n {
			for _, bad := range append([]int{checkBase, checkBase + 1, -checkBase}, badValues...) {
				for _, other := range []int{0, 20, valueMax} {
					lists = append(lists, withNumber(slices.Repeat([]int{other}, n), at, bad))
				}
			}
		}
	}
	return lists
}

// everyCheck calls with all checks.
func everyCheck(call func(c impl.Check)) {
	for sum := range checkBase {
		for weigh := range checkBase {
			call(impl.Check{Sum: sum, Weigh: weigh})
		}
	}
}

// invalidChecks returns checks of which one number or both are not in range, but would be right otherwise.
func invalidChecks(c impl.Check) []impl.Check {
	list := []impl.Check{
		{Sum: c.Sum - checkBase, Weigh: c.Weigh}, {Sum: c.Sum + checkBase, Weigh: c.Weigh},
		{Sum: c.Sum, Weigh: c.Weigh - checkBase}, {Sum: c.Sum, Weigh: c.Weigh + checkBase},
		{Sum: c.Sum + checkBase, Weigh: c.Weigh + checkBase}, {Sum: c.Sum - checkBase, Weigh: c.Weigh + checkBase},
	}
	for _, bad := range badChecks {
		list = append(list, impl.Check{Sum: bad, Weigh: c.Weigh}, impl.Check{Sum: c.Sum, Weigh: bad})
		for _, other := range badChecks {
			list = append(list, impl.Check{Sum: bad, Weigh: other})
		}
	}
	return list
}

// mend is how columns are mended: by another value of the column at an index, or not at all, with the index -1.
type mend struct {
	list []int
	at   int
}

// mendsOf returns, by their checks, some columns and all that differ from them in one column, apart from the program.
func mendsOf(t *testing.T, list []int) map[impl.Check]mend {
	t.Helper()
	all := map[impl.Check]mend{checksBy(list): {list: list, at: -1}}
	for at, value := range list {
		for other := range valueMax + 1 {
			if other == value {
				continue
			}
			changed := withNumber(list, at, other)
			if _, there := all[checksBy(changed)]; there {
				t.Fatalf("of %v, there are two ways to %v", list, checksBy(changed))
			}
			all[checksBy(changed)] = mend{list: changed, at: at}
		}
	}
	return all
}

// fillsOf returns, by their checks, all columns that differ from some at most at two indices, apart from the program.
func fillsOf(t *testing.T, list []int, a, b int) map[impl.Check][]int {
	t.Helper()
	all := map[impl.Check][]int{}
	for first := range valueMax + 1 {
		for second := range valueMax + 1 {
			changed := withNumber(withNumber(list, a, first), b, second)
			if _, there := all[checksBy(changed)]; there {
				t.Fatalf("of %v, there are two ways to %v at %d and %d", list, checksBy(changed), a, b)
			}
			all[checksBy(changed)] = changed
		}
	}
	return all
}

// wantChecks requires what ColumnsCheck returns of valid columns, and that ColumnsGood holds with it.
func wantChecks(t *testing.T, list []int, want impl.Check) {
	t.Helper()
	if got, ok := impl.ColumnsCheck(list); !ok || got != want {
		t.Fatalf("ColumnsCheck(%v) = %v, %v; want %v, true", list, got, ok, want)
	}
	wantGood(t, list, want, true)
}

// wantGood requires what ColumnsGood returns.
func wantGood(t *testing.T, list []int, c impl.Check, want bool) {
	t.Helper()
	if got := impl.ColumnsGood(list, c); got != want {
		t.Fatalf("ColumnsGood(%v, %v) = %v", list, c, got)
	}
}

// wantMend requires how ColumnsMend mends columns.
func wantMend(t *testing.T, list []int, c impl.Check, want []int, at int) {
	t.Helper()
	got, place, ok := impl.ColumnsMend(list, c)
	if !ok || place != at || !slices.Equal(got, want) {
		t.Fatalf("ColumnsMend(%v, %v) = %v, %d, %v; want %v, %d, true", list, c, got, place, ok, want, at)
	}
	wantGood(t, got, c, true)
}

// wantNoMend requires that ColumnsMend fails, and returns nothing and 0.
func wantNoMend(t *testing.T, list []int, c impl.Check) {
	t.Helper()
	if got, at, ok := impl.ColumnsMend(list, c); ok || at != 0 || len(got) != 0 {
		t.Fatalf("ColumnsMend(%v, %v) = %v, %d, %v; want nothing, 0, false", list, c, got, at, ok)
	}
}

// wantFill requires what ColumnsFill returns.
func wantFill(t *testing.T, list []int, a, b int, c impl.Check, want []int) {
	t.Helper()
	got, ok := impl.ColumnsFill(list, a, b, c)
	if !ok || !slices.Equal(got, want) {
		t.Fatalf("ColumnsFill(%v, %d, %d, %v) = %v, %v; want %v, true", list, a, b, c, got, ok, want)
	}
	wantGood(t, got, c, true)
}

// wantNoFill requires that ColumnsFill fails, and returns nothing.
func wantNoFill(t *testing.T, list []int, a, b int, c impl.Check) {
	t.Helper()
	if got, ok := impl.ColumnsFill(list, a, b, c); ok || len(got) != 0 {
		t.Fatalf("ColumnsFill(%v, %d, %d, %v) = %v, %v; want nothing, false", list, a, b, c, got, ok)
	}
}

// wantNoColumns requires that all functions fail, with any checks and indices: the columns are invalid.
func wantNoColumns(t *testing.T, list []int, c impl.Check) {
	t.Helper()
	if got, ok := impl.ColumnsCheck(list); ok || got != (impl.Check{}) {
		t.Fatalf("ColumnsCheck(%v) = %v, %v; want {0 0}, false", list, got, ok)
	}
	for _, c := range []impl.Check{{}, c, {Sum: 100, Weigh: 100}, {Sum: 60, Weigh: 39}, {Sum: -1, Weigh: -1}} {
		wantGood(t, list, c, false)
		wantNoMend(t, list, c)
		for a := -1; a <= min(len(list), columnMax+2); a++ {
			for b := -1; b <= min(len(list), columnMax+2); b++ {
				wantNoFill(t, list, a, b, c)
			}
		}
	}
}

func TestColumnConstants(t *testing.T) {
	if impl.ColumnMax != 6 {
		t.Errorf("ColumnMax is %d; want 6", impl.ColumnMax)
	}
}

// Promise 85, for columns that are written out, with sums below 101, of 101, and above.
func TestKnownChecks(t *testing.T) {
	for _, c := range []struct {
		list       []int
		sum, weigh int
	}{
		{[]int{0}, 0, 0},
		{[]int{1}, 1, 1},
		{[]int{99}, 99, 99},
		{[]int{0, 50}, 50, 100},
		{[]int{1, 50}, 51, 0},
		{[]int{99, 1}, 100, 0},
		{[]int{99, 2}, 0, 2},
		{[]int{99, 3}, 1, 4},
		{[]int{10, 20, 30}, 60, 39},
		{[]int{99, 0, 0, 25}, 23, 98},
		{[]int{0, 0, 0, 0, 99}, 99, 91},
		{[]int{1, 2, 3, 4, 5, 6}, 21, 91},
		{[]int{0, 0, 0, 0, 0, 0}, 0, 0},
		{[]int{0, 0, 0, 0, 0, 1}, 1, 6},
		{[]int{0, 0, 0, 0, 0, 99}, 99, 89},
		{[]int{99, 99, 99, 99, 99, 99}, 89, 59},
	} {
		wantChecks(t, c.list, impl.Check{Sum: c.sum, Weigh: c.weigh})
	}
}

// Promises 87 to 90, for columns that are written out.
func TestKnownMendsAndFills(t *testing.T) {
	list, c := []int{10, 20, 30}, impl.Check{Sum: 60, Weigh: 39}
	wantMend(t, list, c, list, -1)
	wantMend(t, []int{0, 20, 30}, c, list, 0)
	wantMend(t, []int{10, 99, 30}, c, list, 1)
	wantMend(t, []int{10, 20, 31}, c, list, 2)
	// Columns 1 and 3 are wrong, which looks as if column 4 alone were, which is not there.
	wantNoMend(t, []int{11, 20, 27}, c)
	// Columns 2 and 3 are wrong, which looks as if column 1 alone were.
	wantMend(t, []int{10, 22, 29}, c, []int{9, 22, 29}, 0)
	// Only the weighed sum is wrong.
	wantNoMend(t, []int{11, 19, 30}, c)
	// Column 1 would have to be 100, which is the same as -1.
	wantNoMend(t, []int{99, 0}, impl.Check{Sum: 100, Weigh: 100})
	wantNoMend(t, []int{0, 0}, impl.Check{Sum: 100, Weigh: 100})
	wantFill(t, []int{0, 20, 0}, 0, 2, c, list)
	wantFill(t, []int{0, 20, 0}, 2, 0, c, list)
	wantFill(t, []int{99, 0, 30}, 1, 0, c, list)
	wantFill(t, []int{10, 20, 30}, 1, 2, c, list)
	wantFill(t, []int{11, 20, 26}, 0, 1, c, []int{6, 28, 26})
	wantNoFill(t, []int{0, 0}, 0, 1, impl.Check{Sum: 100, Weigh: 100})
	wantNoFill(t, []int{0, 0}, 0, 1, impl.Check{Sum: 100, Weigh: 99})
	wantFill(t, []int{0, 0}, 0, 1, impl.Check{Sum: 100, Weigh: 0}, []int{99, 1})
}

// Promises 84 and 85: 1 to ColumnMax columns, also all of one column and of two.
func TestColumnsCheck(t *testing.T) {
	for _, list := range validColumns() {
		wantChecks(t, list, checksBy(list))
	}
	for first := range valueMax + 1 {
		wantChecks(t, []int{first}, checksBy([]int{first}))
		for second := range valueMax + 1 {
			wantChecks(t, []int{first, second}, checksBy([]int{first, second}))
		}
	}
}

// Promise 85: each value of each column, among others.
func TestColumnsCheckOfEachValue(t *testing.T) {
	for n := 1; n <= columnMax; n++ {
		for _, list := range fewColumns(n) {
			for at := range n {
				for value := -2 * checkBase; value <= 3*checkBase; value++ {
					changed := withNumber(list, at, value)
					if value >= 0 && value <= valueMax {
						wantChecks(t, changed, checksBy(changed))
					} else {
						wantNoColumns(t, changed, impl.Check{Sum: 1, Weigh: 2})
					}
				}
			}
		}
	}
}

// Promises 84, 87 and 90: columns that are invalid have no checks, are not good, and are not mended or filled.
func TestInvalidColumns(t *testing.T) {
	for _, list := range invalidColumns() {
		// What would be right, if the numbers were taken as they are.
		c := impl.Check{Sum: (checksBy(list).Sum + checkBase) % checkBase, Weigh: (checksBy(list).Weigh + checkBase) % checkBase}
		wantNoColumns(t, list, c)
	}
}

// Only 1 to ColumnMax columns are valid, whatever they are.
func TestColumnsOfOtherNumbers(t *testing.T) {
	for n := range 4 * columnMax {
		for _, value := range []int{0, 1, 50, valueMax} {
			list := slices.Repeat([]int{value}, n)
			if n >= 1 && n <= columnMax {
				wantChecks(t, list, checksBy(list))
				wantMend(t, list, checksBy(list), list, -1)
			} else {
				wantNoColumns(t, list, checksBy(list))
			}
		}
	}
}

// Promise 84: columns are good with one pair of checks only, of all that there are, and also of those that are not in range.
func TestColumnsGoodWithEachCheck(t *testing.T) {
	for n := 1; n <= columnMax; n++ {
		for _, list := range fewColumns(n) {
			want := checksBy(list)
			everyCheck(func(c impl.Check) { wantGood(t, list, c, c == want) })
			for _, c := range invalidChecks(want) {
				wantGood(t, list, c, false)
			}
		}
	}
}

// Promise 84: with another Sum, with another Weigh, and with both.
func TestColumnsGoodWithOtherChecks(t *testing.T) {
	for _, list := range validColumns() {
		c := checksBy(list)
		for by := 1; by < checkBase; by++ {
			sum, weigh := (c.Sum+by)%checkBase, (c.Weigh+by)%checkBase
			wantGood(t, list, impl.Check{Sum: sum, Weigh: c.Weigh}, false)
			wantGood(t, list, impl.Check{Sum: c.Sum, Weigh: weigh}, false)
			wantGood(t, list, impl.Check{Sum: sum, Weigh: weigh}, false)
		}
		if c.Sum != c.Weigh {
			wantGood(t, list, impl.Check{Sum: c.Weigh, Weigh: c.Sum}, false)
		}
	}
}

// Promise 86: with any one column changed, to each other value.
func TestColumnsGoodWithOneColumnChanged(t *testing.T) {
	for _, list := range validColumns() {
		c := checksBy(list)
		for at := range list {
			for value := range valueMax + 1 {
				wantGood(t, withNumber(list, at, value), c, value == list[at])
			}
		}
	}
}

// Promise 86: with any two columns changed, to all other values.
func TestColumnsGoodWithTwoColumnsChanged(t *testing.T) {
	for n := 2; n <= columnMax; n++ {
		for _, list := range fewColumns(n) {
			c := checksBy(list)
			for a := range n {
				for b := a + 1; b < n; b++ {
					changed := slices.Clone(list)
					for changed[a] = range valueMax + 1 {
						for changed[b] = range valueMax + 1 {
							wantGood(t, changed, c, changed[a] == list[a] && changed[b] == list[b])
						}
					}
				}
			}
		}
	}
}

// Promise 86 does not go further: of three columns that are changed, the checks may be the same.
func TestColumnsGoodWithThreeColumnsChanged(t *testing.T) {
	for n := 3; n <= columnMax; n++ {
		for first := range n - 2 {
			list := slices.Repeat([]int{40}, n)
			changed := slices.Clone(list)
			changed[first], changed[first+1], changed[first+2] = 41, 38, 41
			wantGood(t, changed, checksBy(list), true)
			wantMend(t, changed, checksBy(list), changed, -1)
		}
	}
}

// Promise 89.
func TestColumnsMendOfGoodColumns(t *testing.T) {
	for _, list := range validColumns() {
		wantMend(t, list, checksBy(list), list, -1)
	}
}

// Promise 88: each column, changed to each other value.
func TestColumnsMendOfOneWrongColumn(t *testing.T) {
	for _, list := range validColumns() {
		c := checksBy(list)
		for at := range list {
			for value := range valueMax + 1 {
				if value != list[at] {
					wantMend(t, withNumber(list, at, value), c, list, at)
				}
			}
		}
	}
}

// Promise 87: all checks, those that a change of one column leads to and those that none does.
func TestColumnsMendForEachCheck(t *testing.T) {
	for n := 1; n <= columnMax; n++ {
		for _, list := range fewColumns(n) {
			all := mendsOf(t, list)
			everyCheck(func(c impl.Check) {
				if way, there := all[c]; there {
					wantMend(t, list, c, way.list, way.at)
				} else {
					wantNoMend(t, list, c)
				}
			})
		}
	}
}

// Promise 87: with two wrong columns, what is returned is never what was there before. It is what a change of one column leads
// to, or nothing.
func TestColumnsMendOfTwoWrongColumns(t *testing.T) {
	r := rand.New(rand.NewPCG(65, 66))
	for n := 2; n <= columnMax; n++ {
		found, failed := 0, 0
		for range 400 {
			list := randomColumns(r, n)
			places := r.Perm(n)
			wrong := withNumber(withNumber(list, places[0], otherValue(r, list[places[0]])), places[1], otherValue(r, list[places[1]]))
			c := checksBy(list)
			if way, there := mendsOf(t, wrong)[c]; there {
				wantMend(t, wrong, c, way.list, way.at)
				if slices.Equal(way.list, list) || way.at < 0 {
					t.Fatalf("%v and %v differ in one column only", list, wrong)
				}
				found++
			} else {
				wantNoMend(t, wrong, c)
				failed++
			}
		}
		// If both of two columns are wrong, there is no third one that would look as if it were.
		if failed == 0 || (found == 0) != (n == 2) {
			t.Fatalf("of %d columns, %d were mended and %d were not", n, found, failed)
		}
	}
}

// otherValue returns any value but a given one.
func otherValue(r *rand.Rand, value int) int {
	return (value + 1 + r.IntN(valueMax)) % (valueMax + 1)
}

// Promise 87: each two columns, changed by as much in opposite directions: only Weigh is wrong, which no single change leads to.
func TestColumnsMendOfWrongWeighOnly(t *testing.T) {
	for n := 2; n <= columnMax; n++ {
		list := slices.Repeat([]int{50}, n)
		for a := range n {
			for b := range n {
				for by := 1; by <= 49 && a != b; by++ {
					wantNoMend(t, withNumber(withNumber(list, a, 50+by), b, 50-by), checksBy(list))
				}
			}
		}
	}
	for _, list := range validColumns() {
		c := checksBy(list)
		for by := 1; by < checkBase; by++ {
			wantNoMend(t, list, impl.Check{Sum: c.Sum, Weigh: (c.Weigh + by) % checkBase})
			wantNoMend(t, list, impl.Check{Sum: (c.Sum + by) % checkBase, Weigh: c.Weigh})
		}
	}
}

// Promise 87: the place is found, but it would need 100, which is -1 modulo 101: a value above ValueMax, or one below 0.
func TestColumnsMendToNoValue(t *testing.T) {
	for _, list := range validColumns() {
		for at := range list {
			wantNoMend(t, list, checksBy(withNumber(list, at, valueMax+1)))
			for _, value := range []int{0, valueMax} {
				if value != list[at] {
					want := withNumber(list, at, value)
					wantMend(t, list, checksBy(want), want, at)
				}
			}
		}
	}
}

// Promise 87: the columns that would have to be changed are those behind the last one, up to the hundredth, or one with the place 0.
func TestColumnsMendAtNoPlace(t *testing.T) {
	for n := 1; n <= columnMax; n++ {
		list := slices.Repeat([]int{40}, n)
		c := checksBy(list)
		for place := range checkBase {
			for _, by := range []int{1, 10, 50, 59} {
				changed := impl.Check{Sum: (c.Sum + by) % checkBase, Weigh: (c.Weigh + by*place) % checkBase}
				if place >= 1 && place <= n {
					wantMend(t, list, changed, withNumber(list, place-1, 40+by), place-1)
				} else {
					wantNoMend(t, list, changed)
				}
			}
		}
	}
}

// Promise 87: one column is mended exactly if both checks are equal and a value.
func TestColumnsMendOfOneColumn(t *testing.T) {
	for value := range valueMax + 1 {
		everyCheck(func(c impl.Check) {
			switch {
			case c.Sum != c.Weigh || c.Sum > valueMax:
				wantNoMend(t, []int{value}, c)
			case c.Sum == value:
				wantMend(t, []int{value}, c, []int{value}, -1)
			default:
				wantMend(t, []int{value}, c, []int{c.Sum}, 0)
			}
		})
	}
}

// Promises 84, 87 and 90: checks out of range are those of no columns, also if they would be right modulo 101.
func TestInvalidChecks(t *testing.T) {
	for n := 1; n <= columnMax; n++ {
		for _, list := range fewColumns(n) {
			for at := range n {
				changed := withNumber(list, at, (list[at]+30)%(valueMax+1))
				for _, c := range invalidChecks(checksBy(list)) {
					wantNoMend(t, list, c)
					wantNoMend(t, changed, c)
					for b := range n {
						wantNoFill(t, changed, at, b, c)
					}
				}
			}
		}
	}
}

// The least and the largest checks, and those that are just out of range, each alone and both.
func TestChecksAtTheLimits(t *testing.T) {
	limits := []int{-1, 0, 1, 99, 100, 101}
	for n := 1; n <= columnMax; n++ {
		for _, list := range fewColumns(n) {
			mends := mendsOf(t, list)
			for _, sum := range limits {
				for _, weigh := range limits {
					c := impl.Check{Sum: sum, Weigh: weigh}
					wantGood(t, list, c, c == checksBy(list))
					if way, there := mends[c]; there {
						wantMend(t, list, c, way.list, way.at)
					} else {
						wantNoMend(t, list, c)
					}
					for at := range n {
						if sum < 0 || sum > 100 || weigh < 0 || weigh > 100 {
							wantNoFill(t, list, at, n-1, c)
							wantNoFill(t, list, 0, at, c)
						}
					}
				}
			}
		}
	}
}

// Promise 90: all checks, those that two values lead to and those that none do, at each two indices in both orders.
func TestColumnsFillForEachCheck(t *testing.T) {
	for n := 2; n <= columnMax; n++ {
		list := fewColumns(n)[2]
		for a := range n {
			for b := range a {
				all := fillsOf(t, list, a, b)
				everyCheck(func(c impl.Check) {
					if want, there := all[c]; there {
						wantFill(t, list, a, b, c, want)
						wantFill(t, list, b, a, c, want)
					} else {
						wantNoFill(t, list, a, b, c)
						wantNoFill(t, list, b, a, c)
					}
				})
			}
		}
	}
}

// Promise 91: any two columns replaced by 0, in both orders.
func TestColumnsFillLeadsBack(t *testing.T) {
	for _, list := range validColumns() {
		c := checksBy(list)
		for a := range list {
			for b := range list {
				if a == b {
					wantNoFill(t, withNumber(list, a, 0), a, b, c)
				} else {
					wantFill(t, withNumber(withNumber(list, a, 0), b, 0), a, b, c, list)
				}
			}
		}
	}
}

// Promise 92: other values at both places change nothing, whether two values lead to the checks or none do.
func TestColumnsFillWithOtherValuesAtBothPlaces(t *testing.T) {
	r := rand.New(rand.NewPCG(67, 68))
	for n := 2; n <= columnMax; n++ {
		for range 60 {
			list, c := randomColumns(r, n), impl.Check{Sum: r.IntN(checkBase), Weigh: r.IntN(checkBase)}
			for a := range n {
				for b := range n {
					want, ok := impl.ColumnsFill(list, a, b, c)
					for _, first := range []int{0, 1, r.IntN(valueMax + 1), valueMax} {
						for _, second := range []int{0, 1, r.IntN(valueMax + 1), valueMax} {
							other := withNumber(withNumber(list, a, first), b, second)
							if ok {
								wantFill(t, other, a, b, c, want)
							} else {
								wantNoFill(t, other, a, b, c)
							}
						}
					}
				}
			}
		}
	}
}

// Promise 92: the values at both places are not used, but they must be values.
func TestColumnsFillWithInvalidValuesAtThePlaces(t *testing.T) {
	for n := 2; n <= columnMax; n++ {
		for _, list := range fewColumns(n) {
			c := checksBy(list)
			for a := range n {
				for b := range n {
					for _, bad := range append([]int{checkBase, checkBase + list[a], list[a] - checkBase}, badValues...) {
						wantNoFill(t, withNumber(list, a, bad), a, b, c)
						wantNoFill(t, withNumber(list, b, bad), a, b, c)
						wantNoFill(t, withNumber(withNumber(list, a, bad), b, bad), a, b, c)
					}
				}
			}
		}
	}
}

// Promise 90: one of both values, or both, would have to be 100.
func TestColumnsFillToNoValue(t *testing.T) {
	for n := 2; n <= columnMax; n++ {
		for _, list := range fewColumns(n) {
			for a := range n {
				for b := range n {
					if a == b {
						continue
					}
					for _, value := range []int{0, 1, 50, valueMax} {
						wantNoFill(t, list, a, b, checksBy(withNumber(withNumber(list, a, valueMax+1), b, value)))
						wantNoFill(t, list, a, b, checksBy(withNumber(withNumber(list, a, value), b, valueMax+1)))
					}
					wantNoFill(t, list, a, b, checksBy(withNumber(withNumber(list, a, valueMax+1), b, valueMax+1)))
					largest := withNumber(withNumber(list, a, valueMax), b, valueMax)
					wantFill(t, list, a, b, checksBy(largest), largest)
					least := withNumber(withNumber(list, a, 0), b, 0)
					wantFill(t, list, a, b, checksBy(least), least)
				}
			}
		}
	}
}

// Promise 90: indices that are not there, each alone and both, and equal ones, for columns that are good without being filled.
func TestColumnsFillAtNoPlace(t *testing.T) {
	for n := 1; n <= columnMax; n++ {
		for _, list := range fewColumns(n) {
			c := checksBy(list)
			for _, bad := range badColumnPlaces(n) {
				if bad >= 0 && bad < n {
					continue
				}
				for at := range n {
					wantNoFill(t, list, at, bad, c)
					wantNoFill(t, list, bad, at, c)
				}
				for _, other := range badColumnPlaces(n) {
					wantNoFill(t, list, bad, other, c)
					wantNoFill(t, list, other, bad, c)
				}
			}
			for at := range n {
				wantNoFill(t, list, at, at, c)
				everyCheck(func(c impl.Check) { wantNoFill(t, list, at, at, c) })
			}
		}
	}
}

// Promise 90: one column has no two indices.
func TestColumnsFillOfOneColumn(t *testing.T) {
	for _, value := range []int{0, 1, 50, valueMax} {
		for a := -2; a <= 2; a++ {
			for b := -2; b <= 2; b++ {
				wantNoFill(t, []int{value}, a, b, impl.Check{Sum: value, Weigh: value})
				wantNoFill(t, []int{value}, a, b, impl.Check{})
			}
		}
	}
}

// Promise 90: all of two columns. They are found from their checks alone.
func TestColumnsFillOfTwoColumns(t *testing.T) {
	for first := range valueMax + 1 {
		for second := range valueMax + 1 {
			list := []int{first, second}
			wantFill(t, []int{0, 0}, 0, 1, checksBy(list), list)
			wantFill(t, []int{second, first}, 1, 0, checksBy(list), list)
		}
	}
}

// Promises 84 to 92: whatever is lost or wrong, one after the other.
func TestManyWrongColumnsOneAfterTheOther(t *testing.T) {
	r := rand.New(rand.NewPCG(69, 70))
	for range 2000 {
		n := 1 + r.IntN(columnMax)
		list := randomColumns(r, n)
		c, ok := impl.ColumnsCheck(list)
		if !ok || c != checksBy(list) {
			t.Fatalf("ColumnsCheck(%v) = %v, %v", list, c, ok)
		}
		at := r.IntN(n)
		wrong := withNumber(list, at, otherValue(r, list[at]))
		mended, place, ok := impl.ColumnsMend(wrong, c)
		if !ok || place != at || !slices.Equal(mended, list) {
			t.Fatalf("ColumnsMend(%v, %v) = %v, %d, %v; want %v, %d, true", wrong, c, mended, place, ok, list, at)
		}
		wantMend(t, mended, c, list, -1)
		if n > 1 {
			b := (at + 1 + r.IntN(n-1)) % n
			lost := withNumber(wrong, b, r.IntN(valueMax+1))
			wantFill(t, lost, at, b, c, list)
			wantFill(t, lost, b, at, c, list)
		}
	}
}

// checkColumnsMemory requires that no function changes columns, valid or not, or shares memory with them.
func checkColumnsMemory(t *testing.T, list []int, c impl.Check) {
	t.Helper()
	checkMemory(t, func(list []int) ([]impl.Check, bool) {
		got, ok := impl.ColumnsCheck(list)
		return []impl.Check{got}, ok
	}, list, 44, impl.Check{Sum: 77, Weigh: 77})
	checkMemory(t, func(list []int) ([]int, bool) { return nil, impl.ColumnsGood(list, c) }, list, 44, 77)
	checkMemory(t, func(list []int) ([]int, bool) {
		got, _, ok := impl.ColumnsMend(list, c)
		return got, ok
	}, list, 44, 77)
	for a := -1; a <= min(len(list), columnMax+1); a++ {
		for b := -1; b <= min(len(list), columnMax+1); b++ {
			checkMemory(t, func(list []int) ([]int, bool) { return impl.ColumnsFill(list, a, b, c) }, list, 44, 77)
		}
	}
}

// General rules: no argument is changed, and no result shares memory, also if it is the same as an argument.
func TestColumnsKeepArgumentsAndShareNoMemory(t *testing.T) {
	for _, list := range validColumns() {
		checkColumnsMemory(t, list, checksBy(list))
		for at := range list {
			checkColumnsMemory(t, list, checksBy(withNumber(list, at, 33)))
		}
		checkColumnsMemory(t, list, impl.Check{Sum: 100, Weigh: 100})
		checkColumnsMemory(t, list, impl.Check{Sum: -1, Weigh: 101})
	}
	for _, list := range invalidColumns() {
		checkColumnsMemory(t, list, checksBy(list))
		checkColumnsMemory(t, list, impl.Check{})
	}
}

// General rules: a result that is the same as the columns is other memory, so that a change of one leaves the other as it is.
func TestColumnsThatStayAreNewMemory(t *testing.T) {
	for _, kept := range validColumns() {
		c := checksBy(kept)
		list := slices.Clone(kept)
		mended, _, _ := impl.ColumnsMend(list, c)
		fill(mended)
		wantList(t, list, kept, "the columns, after a change of what ColumnsMend returned,")
		if len(list) < 2 {
			continue
		}
		filled, _ := impl.ColumnsFill(list, 0, len(list)-1, c)
		fill(filled)
		wantList(t, list, kept, "the columns, after a change of what ColumnsFill returned,")
	}
}

// A nil slice and an empty one are the same.
func TestColumnsWithNilAndEmptySlices(t *testing.T) {
	for _, none := range [][]int{nil, {}, counting(columnMax, 0)[:0]} {
		wantNoColumns(t, none, impl.Check{})
	}
}

// Numbers whose sums or products do not fit are refused like all others.
func TestColumnsOfFarNumbers(t *testing.T) {
	for n := 1; n <= columnMax; n++ {
		list := counting(n, 20)
		c := checksBy(list)
		for _, far := range []int{math.MinInt, math.MinInt + 1, math.MinInt + checkBase, -1 << 32, 1 << 32, math.MaxInt - checkBase, math.MaxInt - 1, math.MaxInt} {
			for at := range n {
				wantNoColumns(t, withNumber(list, at, far), c)
				wantNoFill(t, list, at, far, c)
				wantNoFill(t, list, far, at, c)
			}
			wantNoColumns(t, slices.Repeat([]int{far}, n), c)
			wantNoFill(t, list, far, far, c)
			wantNoFill(t, list, far, -far, c)
			for _, bad := range []impl.Check{{Sum: far, Weigh: c.Weigh}, {Sum: c.Sum, Weigh: far}, {Sum: far, Weigh: far}, {Sum: far, Weigh: -far}} {
				wantGood(t, list, bad, false)
				wantNoMend(t, list, bad)
				wantNoFill(t, list, 0, n-1, bad)
			}
		}
	}
}

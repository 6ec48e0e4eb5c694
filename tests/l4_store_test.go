package tests

import (
	"fmt"
	"math"
	"math/rand/v2"
	"slices"
	"testing"

	"loop.example/tiervolume/impl"
)

// As in the tests of frames, the numbers of the document are written out.
const (
	objectMax    = 6
	storeDone    = 0
	storeThere   = 1
	storeFull    = 2
	storeInvalid = 3
)

// badObjectValues are numbers that no value of an object is. Unlike a value of a frame, it is not 0.
var badObjectValues = append([]int{0}, badValues...)

// objectsFrom returns n objects whose numbers begin with first and are apart by step. All of them have different values, and
// not equally many.
func objectsFrom(n int, first int, step int) []impl.Object {
	s := make([]impl.Object, n)
	for i := range s {
		s[i] = impl.Object{Id: first + i*step, Values: counting(1+i%packMax, 1+10*(i%9))}
	}
	return s
}

// sameObject reports whether two objects are equal.
func sameObject(a, b impl.Object) bool {
	return a.Id == b.Id && slices.Equal(a.Values, b.Values)
}

// sameStore reports whether two stores are equal.
func sameStore(a, b []impl.Object) bool {
	return slices.EqualFunc(a, b, sameObject)
}

// copiedStore returns a store in memory of its own.
func copiedStore(s []impl.Object) []impl.Object {
	c := slices.Clone(s)
	for i := range c {
		c[i].Values = slices.Clone(c[i].Values)
	}
	return c
}

// withObject returns a store in which one object is another one.
func withObject(s []impl.Object, i int, o impl.Object) []impl.Object {
	c := copiedStore(s)
	c[i] = o
	return c
}

// withoutObject returns a store without one object.
func withoutObject(s []impl.Object, i int) []impl.Object {
	return slices.Delete(copiedStore(s), i, i+1)
}

// numbers returns the numbers of objects.
func numbers(s []impl.Object) []int {
	var ids []int
	for _, o := range s {
		ids = append(ids, o.Id)
	}
	return ids
}

// otherNumbers returns numbers in range that no object of a store has: ahead of all, between and behind them, next to them and
// elsewhere.
func otherNumbers(s []impl.Object) []int {
	some := []int{1, 2, 7, 500, seqMax - 1, seqMax}
	for _, id := range numbers(s) {
		some = append(some, id-1, id+1)
	}
	slices.Sort(some)
	return slices.DeleteFunc(slices.Compact(some), func(id int) bool {
		return id < 1 || id > seqMax || slices.Contains(numbers(s), id)
	})
}

// stored returns a store with a further object, apart from the program.
func stored(s []impl.Object, id int, values []int) []impl.Object {
	at := 0
	for at < len(s) && s[at].Id < id {
		at++
	}
	return slices.Insert(copiedStore(s), at, impl.Object{Id: id, Values: slices.Clone(values)})
}

// remaining returns the objects of a store with some numbers, apart from the program.
func remaining(s []impl.Object, ids []int) []impl.Object {
	return slices.DeleteFunc(copiedStore(s), func(o impl.Object) bool { return !slices.Contains(ids, o.Id) })
}

// objectValues returns values that an object can have: of all lengths, and with the least and the largest ones.
func objectValues() [][]int {
	var lists [][]int
	for n := 1; n <= packMax; n++ {
		lists = append(lists, counting(n, 1), counting(n, valueMax-n+1), slices.Repeat([]int{1}, n), slices.Repeat([]int{valueMax}, n))
	}
	return append(lists, []int{99, 1, 50}, []int{7, 7, 3, 3}, []int{6, 5, 4, 3, 2, 1})
}

// otherValues returns values that no object can have: of other lengths, and with one value that is not in range.
func otherValues() [][]int {
	lists := [][]int{nil, {}, {0, 0, 0, 0, 0, 0, 0}}
	for _, n := range []int{packMax + 1, packMax + 2, 2 * packMax, 5000} {
		lists = append(lists, slices.Repeat([]int{5}, n))
	}
	for _, n := range []int{1, 2, packMax} {
		for at := range n {
			for _, bad := range badObjectValues {
				values := counting(n, 20)
				values[at] = bad
				lists = append(lists, values)
			}
		}
	}
	return lists
}

// sharingStore returns a store whose objects follow each other in one piece of memory, so that the values of an object have
// those of the next one as their spare capacity, and two of them have the same values.
func sharingStore() []impl.Object {
	memory := counting(40, 30)
	return []impl.Object{
		{Id: 2, Values: memory[:3]},
		{Id: 5, Values: memory[3:9]},
		{Id: 6, Values: memory[3:9]},
		{Id: 500, Values: memory[9:10]},
	}
}

// validStores returns stores with all numbers of objects, with the least and the largest numbers and values, and random ones.
func validStores() [][]impl.Object {
	list := [][]impl.Object{nil, {}, sharingStore()}
	for n := 1; n <= objectMax; n++ {
		list = append(list, objectsFrom(n, 1, 1), objectsFrom(n, 3, 4), objectsFrom(n, seqMax-n+1, 1), objectsFrom(n, 1, 190))
	}
	for _, values := range objectValues() {
		list = append(list, []impl.Object{{Id: 1, Values: values}}, withObject(objectsFrom(objectMax, 9, 9), 2, impl.Object{Id: 27, Values: values}))
	}
	r := rand.New(rand.NewPCG(19, 20))
	for n := range objectMax + 1 {
		for range 5 {
			s := make([]impl.Object, n)
			ids := r.Perm(seqMax)[:n]
			slices.Sort(ids)
			for i, id := range ids {
				s[i] = impl.Object{Id: id + 1, Values: counting(1+r.IntN(packMax), 1+r.IntN(90))}
			}
			list = append(list, s)
		}
	}
	return list
}

// invalidStores returns stores of which just one rule does not hold.
func invalidStores() [][]impl.Object {
	var list [][]impl.Object
	for _, n := range []int{objectMax + 1, objectMax + 2, 100, seqMax} {
		list = append(list, objectsFrom(n, 1, 1))
	}
	list = append(list, make([]impl.Object, 1), make([]impl.Object, objectMax), make([]impl.Object, 5000))
	for n := 1; n <= objectMax; n++ {
		if n < objectMax {
			list = append(list, disordered(objectsFrom(n, 4, 3))...)
		}
		if n > 1 {
			list = append(list, objectsFrom(n, 900, -2), objectsFrom(n, 8, 0))
		}
	}
	for _, n := range []int{1, 3, objectMax} {
		for i := range n {
			s := objectsFrom(n, 10, 10)
			for _, values := range otherValues() {
				list = append(list, withObject(s, i, impl.Object{Id: s[i].Id, Values: values}))
			}
			for _, bad := range badIds {
				list = append(list, withObject(s, i, impl.Object{Id: bad, Values: []int{5}}))
			}
		}
	}
	return list
}

// wantPut requires the code and the store that StorePut returns. The store is empty for storeInvalid.
func wantPut(t *testing.T, s []impl.Object, id int, values []int, want []impl.Object, code int) {
	t.Helper()
	got, n := impl.StorePut(s, id, values)
	if n != code || !sameStore(got, want) {
		t.Fatalf("StorePut(%v, %d, %v) = %v, %d; want %v, %d", s, id, values, got, n, want, code)
	}
}

// wantValue requires a value of an object.
func wantValue(t *testing.T, s []impl.Object, id int, index int, value int) {
	t.Helper()
	if got, ok := impl.StoreGet(s, id, index); !ok || got != value {
		t.Fatalf("StoreGet(%v, %d, %d) = %d, %v; want %d, true", s, id, index, got, ok, value)
	}
}

// wantNoValue requires that there is no value.
func wantNoValue(t *testing.T, s []impl.Object, id int, index int) {
	t.Helper()
	if got, ok := impl.StoreGet(s, id, index); ok || got != 0 {
		t.Fatalf("StoreGet(%v, %d, %d) = %d, %v; want 0, false", s, id, index, got, ok)
	}
}

// wantKept requires the objects that StoreKeep returns.
func wantKept(t *testing.T, s []impl.Object, ids []int, want []impl.Object) {
	t.Helper()
	if got, ok := impl.StoreKeep(s, ids); !ok || !sameStore(got, want) {
		t.Fatalf("StoreKeep(%v, %v) = %v, %v; want %v, true", s, ids, got, ok, want)
	}
}

// wantNothingKept requires that StoreKeep fails, and returns no objects.
func wantNothingKept(t *testing.T, s []impl.Object, ids []int) {
	t.Helper()
	if got, ok := impl.StoreKeep(s, ids); ok || len(got) != 0 {
		t.Fatalf("StoreKeep(%v, %v) = %v, %v; want nothing, false", s, ids, got, ok)
	}
}

// keepLists returns numbers to keep: none, all, some, twice, in another order, of no object, and out of range.
func keepLists(s []impl.Object) [][]int {
	all := numbers(s)
	backward := slices.Clone(all)
	slices.Reverse(backward)
	lists := [][]int{nil, {}, all, backward, slices.Concat(all, all), slices.Concat(backward, badIds, all), badIds, otherNumbers(s), counting(seqMax+2, 0), counting(20000, -10000)}
	for i, id := range all {
		lists = append(lists, []int{id}, []int{id, id, id}, numbers(withoutObject(s, i)), []int{id - 1, id + 1}, []int{-id, 1000 * id}, append([]int{id}, badIds...))
		for _, other := range all[:i] {
			lists = append(lists, []int{id, other}, []int{other, id, other})
		}
	}
	return lists
}

func TestStoreConstants(t *testing.T) {
	got := []int{impl.ObjectMax, impl.StoreDone, impl.StoreThere, impl.StoreFull, impl.StoreInvalid}
	if want := []int{6, 0, 1, 2, 3}; !slices.Equal(got, want) {
		t.Errorf("the constants are %v; want %v", got, want)
	}
}

func TestStoreValid(t *testing.T) {
	for _, s := range validStores() {
		if !impl.StoreValid(s) {
			t.Fatalf("StoreValid(%v) = false", s)
		}
	}
	for _, s := range invalidStores() {
		if impl.StoreValid(s) {
			t.Fatalf("StoreValid(%v) = true", s)
		}
	}
}

// Promise 43. In the store with one object twice, it may stand anywhere, and with other values.
func TestStoresWithoutOneObjectAndWithOneTwice(t *testing.T) {
	for _, s := range validStores() {
		for i, o := range s {
			if less := withoutObject(s, i); !impl.StoreValid(less) {
				t.Fatalf("StoreValid(%v) = false, without object %d", less, o.Id)
			}
			for at := range len(s) + 1 {
				same := slices.Insert(copiedStore(s), at, o)
				other := slices.Insert(copiedStore(s), at, impl.Object{Id: o.Id, Values: []int{1, 2}})
				if impl.StoreValid(same) || impl.StoreValid(other) {
					t.Fatalf("StoreValid(%v) = %v, and for %v %v", same, impl.StoreValid(same), other, impl.StoreValid(other))
				}
			}
		}
	}
}

// Each object counts, and each value of it.
func TestStoreValidLooksAtEachValue(t *testing.T) {
	full := make([]impl.Object, objectMax)
	for i := range full {
		full[i] = impl.Object{Id: 10 * (i + 1), Values: counting(packMax, 40)}
	}
	for i := range full {
		for at := range packMax {
			for _, value := range append([]int{1, 2, valueMax - 1, valueMax}, badObjectValues...) {
				s := copiedStore(full)
				s[i].Values[at] = value
				if got := impl.StoreValid(s); got != (value >= 1 && value <= valueMax) {
					t.Fatalf("StoreValid = %v, with the value %d at %d of object %d", got, value, at, i)
				}
			}
		}
	}
}

// The numbers of neighbouring objects differ by at least 1, and are in range.
func TestStoreValidLooksAtEachNumber(t *testing.T) {
	for id := -3; id <= seqMax+3; id++ {
		one := []impl.Object{{Id: id, Values: []int{5}}}
		if got := impl.StoreValid(one); got != (id >= 1 && id <= seqMax) {
			t.Fatalf("StoreValid(%v) = %v", one, got)
		}
		for i, s := range [][]impl.Object{append(one, objectsFrom(2, 500, 10)...), append(objectsFrom(2, 500, 10), one...)} {
			if got := impl.StoreValid(s); got != (i == 0 && id >= 1 && id < 500 || i == 1 && id > 510 && id <= seqMax) {
				t.Fatalf("StoreValid(%v) = %v", s, got)
			}
		}
	}
}

// General rules: what is returned for an invalid store, with arguments that are valid otherwise and with ones that are not.
func TestInvalidStoresLeadToNothing(t *testing.T) {
	for _, s := range invalidStores() {
		ids := []int{-1, 0, 1, 500, seqMax, seqMax + 1}
		if len(s) <= objectMax {
			ids = append(ids, numbers(s)...)
		}
		for _, id := range ids {
			for _, values := range [][]int{nil, {1}, counting(packMax, 1), counting(packMax+1, 1), {0}} {
				wantPut(t, s, id, values, nil, storeInvalid)
			}
			for _, index := range []int{-1, 0, 1, packMax} {
				wantNoValue(t, s, id, index)
			}
			wantNothingKept(t, s, []int{id})
		}
		wantNothingKept(t, s, nil)
		wantNothingKept(t, s, numbers(s))
	}
}

// Promises 36 and 37: ahead of all objects, between and behind them.
func TestStorePut(t *testing.T) {
	done := 0
	for _, s := range validStores() {
		if len(s) == objectMax {
			continue
		}
		for _, id := range otherNumbers(s) {
			for _, values := range objectValues() {
				want := stored(s, id, values)
				wantPut(t, s, id, values, want, storeDone)
				if len(want) != len(s)+1 || !impl.StoreValid(want) {
					t.Fatalf("StorePut(%v, %d, %v) = %v", s, id, values, want)
				}
				done++
			}
		}
	}
	if done < 1000 {
		t.Errorf("%d objects were put; want 1000", done)
	}
}

// Promises 36 and 37: all values are there, at their places only, and those of all other objects are as before.
func TestStoreGetAfterStorePut(t *testing.T) {
	for _, s := range validStores() {
		for _, id := range otherNumbers(s) {
			values := []int{90, 1, 45}
			after, code := impl.StorePut(s, id, values)
			if code != storeDone {
				continue
			}
			for _, o := range append(copiedStore(s), impl.Object{Id: id, Values: values}) {
				for index, value := range o.Values {
					wantValue(t, after, o.Id, index, value)
				}
				wantNoValue(t, after, o.Id, -1)
				wantNoValue(t, after, o.Id, len(o.Values))
			}
			for _, other := range otherNumbers(after) {
				wantNoValue(t, after, other, 0)
			}
		}
	}
}

// Objects may have equal values, and be put in any order.
func TestStorePutInAnyOrder(t *testing.T) {
	want := objectsFrom(objectMax, 5, 3)
	want[4].Values = []int{1}
	r := rand.New(rand.NewPCG(21, 22))
	for range 100 {
		var s []impl.Object
		for _, i := range r.Perm(objectMax) {
			more, code := impl.StorePut(s, want[i].Id, want[i].Values)
			if code != storeDone || len(more) != len(s)+1 {
				t.Fatalf("StorePut(%v, %d, %v) = %v, %d", s, want[i].Id, want[i].Values, more, code)
			}
			s = more
		}
		if !sameStore(s, want) {
			t.Fatalf("the store is %v; want %v", s, want)
		}
	}
}

// Promise 38: the values may be the same ones or others, if they are valid.
func TestStorePutDoneAgain(t *testing.T) {
	for _, s := range validStores() {
		for _, id := range otherNumbers(s) {
			after, code := impl.StorePut(s, id, []int{8, 9})
			if code != storeDone {
				continue
			}
			wantPut(t, after, id, []int{8, 9}, after, storeThere)
			for _, values := range objectValues() {
				wantPut(t, after, id, values, after, storeThere)
			}
			wantValue(t, after, id, 1, 9)
		}
	}
}

// Promise 39: each object is found, the first, the last and all between, also in a store that is full.
func TestStorePutOfObjectsThatAreThere(t *testing.T) {
	for _, s := range validStores() {
		for _, o := range s {
			wantPut(t, s, o.Id, o.Values, s, storeThere)
			for _, values := range objectValues() {
				wantPut(t, s, o.Id, values, s, storeThere)
			}
		}
	}
}

// Promise 39: a store with objectMax objects has no room, wherever the object would be, and one with fewer has.
func TestStorePutIntoFullStores(t *testing.T) {
	full := 0
	for _, s := range validStores() {
		if len(s) < objectMax {
			continue
		}
		for _, id := range otherNumbers(s) {
			for _, values := range objectValues() {
				wantPut(t, s, id, values, s, storeFull)
				full++
			}
			less := withoutObject(s, len(s)/2)
			wantPut(t, less, id, []int{3}, stored(less, id, []int{3}), storeDone)
		}
	}
	if full < 1000 {
		t.Errorf("%d objects were put into full stores; want 1000", full)
	}
}

// Promises 36 to 39: what is no object comes first, whether its number is there or not, and whether the store is full or not.
func TestStorePutOfInvalidObjects(t *testing.T) {
	for _, s := range [][]impl.Object{nil, {}, sharingStore(), objectsFrom(1, 7, 1), objectsFrom(objectMax-1, 1, 1), objectsFrom(objectMax, 1, 1), objectsFrom(objectMax, seqMax-objectMax+1, 1)} {
		for _, id := range badIds {
			for _, values := range slices.Concat(objectValues(), otherValues()) {
				wantPut(t, s, id, values, nil, storeInvalid)
			}
		}
		for _, id := range append(numbers(s), otherNumbers(s)...) {
			for _, values := range otherValues() {
				wantPut(t, s, id, values, nil, storeInvalid)
			}
		}
	}
}

// The code of each combination of what is wrong, in known stores.
func TestStorePutOfKnownObjects(t *testing.T) {
	some, full := objectsFrom(3, 10, 10), objectsFrom(objectMax, 10, 10)
	long := objectsFrom(objectMax+1, 10, 10)
	for _, c := range []struct {
		s      []impl.Object
		id     int
		values []int
		code   int
	}{
		{some, 15, []int{1}, storeDone},
		{some, 10, []int{1}, storeThere},
		{some, 20, []int{1}, storeThere},
		{some, 30, []int{1}, storeThere},
		{full, 15, []int{1}, storeFull},
		{full, 5, []int{valueMax}, storeFull},
		{full, 70, []int{1}, storeFull},
		{full, 10, []int{1}, storeThere},
		{full, 30, []int{1}, storeThere},
		{full, 60, []int{1}, storeThere},
		{some, 10, []int{0}, storeInvalid},
		{some, 20, nil, storeInvalid},
		{some, 30, counting(packMax+1, 1), storeInvalid},
		{full, 10, []int{valueMax + 1}, storeInvalid},
		{full, 60, []int{-1}, storeInvalid},
		{full, 15, []int{0}, storeInvalid},
		{full, 0, []int{1}, storeInvalid},
		{full, seqMax + 1, []int{1}, storeInvalid},
		{long, 15, []int{1}, storeInvalid},
		{long, 10, []int{1}, storeInvalid},
		{long, 70, []int{1}, storeInvalid},
	} {
		want := c.s
		if c.code == storeDone {
			want = stored(c.s, c.id, c.values)
		}
		if c.code == storeInvalid {
			want = nil
		}
		wantPut(t, c.s, c.id, c.values, want, c.code)
	}
}

// Promise 40: for each number and each place around those that are there, a value, or none.
func TestStoreGet(t *testing.T) {
	for _, s := range [][]impl.Object{nil, {}, sharingStore(), objectsFrom(objectMax, 1, 2), objectsFrom(objectMax, seqMax-objectMax+1, 1)} {
		for id := -2; id <= seqMax+2; id++ {
			i := slices.Index(numbers(s), id)
			for index := -2; index <= packMax+2; index++ {
				if i >= 0 && index >= 0 && index < len(s[i].Values) {
					wantValue(t, s, id, index, s[i].Values[index])
				} else {
					wantNoValue(t, s, id, index)
				}
			}
		}
	}
}

// Promise 40: an object ends with its last value, even if there is memory behind it.
func TestStoreGetOfAllValues(t *testing.T) {
	for _, s := range validStores() {
		for _, o := range s {
			for index, value := range o.Values {
				wantValue(t, s, o.Id, index, value)
			}
			for index := len(o.Values); index <= 2*packMax; index++ {
				wantNoValue(t, s, o.Id, index)
			}
			for _, index := range append([]int{math.MinInt + 1, math.MaxInt - 1, 1 << 32, -1 << 32}, badIndexes...) {
				wantNoValue(t, s, o.Id, index)
			}
			for _, id := range []int{o.Id + 1<<32, o.Id - 1<<32, -o.Id} {
				wantNoValue(t, s, id, 0)
			}
		}
		for _, id := range append(otherNumbers(s), badIds...) {
			for _, index := range append([]int{0, 1, packMax - 1}, badIndexes...) {
				wantNoValue(t, s, id, index)
			}
		}
	}
}

// Promise 41.
func TestStoreKeep(t *testing.T) {
	for _, s := range validStores() {
		for _, ids := range keepLists(s) {
			wantKept(t, s, ids, remaining(s, ids))
		}
	}
}

// Promise 41: in the order of the store, whatever the order of the numbers is, and each object once.
func TestStoreKeepOfKnownNumbers(t *testing.T) {
	s := objectsFrom(5, 10, 10)
	for _, c := range []struct {
		ids  []int
		want []impl.Object
	}{
		{[]int{10, 20, 30, 40, 50}, s},
		{[]int{50, 40, 30, 20, 10}, s},
		{[]int{50}, s[4:]},
		{[]int{10}, s[:1]},
		{[]int{30, 20}, s[1:3]},
		{[]int{20, 30, 20, 30, 30}, s[1:3]},
		{[]int{30, -20, 0, 25, 20, seqMax + 1, math.MaxInt, math.MinInt}, s[1:3]},
		{[]int{0, 1, 2, 3, 4, -10, 11, 51, 100}, nil},
		{[]int{10 + 1<<32, 10 - 1<<32}, nil},
		{nil, nil},
	} {
		wantKept(t, s, c.ids, c.want)
	}
}

// Promise 42.
func TestStoreKeepDoneAgain(t *testing.T) {
	for _, s := range validStores() {
		for _, ids := range keepLists(s) {
			once, _ := impl.StoreKeep(s, ids)
			wantKept(t, once, ids, once)
		}
		wantKept(t, s, nil, nil)
		wantKept(t, s, []int{}, nil)
		wantKept(t, s, numbers(s), s)
	}
}

// The number of an object that was removed can be used again, for other values.
func TestStorePutAfterStoreKeep(t *testing.T) {
	full := objectsFrom(objectMax, 10, 10)
	for i, o := range full {
		less, _ := impl.StoreKeep(full, numbers(withoutObject(full, i)))
		wantNoValue(t, less, o.Id, 0)
		want := withObject(full, i, impl.Object{Id: o.Id, Values: []int{70, 71}})
		wantPut(t, less, o.Id, []int{70, 71}, want, storeDone)
		wantPut(t, want, 15, []int{70}, want, storeFull)
	}
}

// shelves are the values of all numbers of objects, apart from the program; those without values are not there.
type shelves [seqMax + 1][]int

// store returns the store with all that is there.
func (all *shelves) store() []impl.Object {
	var s []impl.Object
	for id, values := range all {
		if len(values) > 0 {
			s = append(s, impl.Object{Id: id, Values: values})
		}
	}
	return s
}

// randomPut puts an object whose number is often there into a store, and into the model of it.
func (all *shelves) randomPut(t *testing.T, r *rand.Rand, s []impl.Object) []impl.Object {
	t.Helper()
	id, values, code := 1+r.IntN(9), counting(1+r.IntN(packMax), 1+r.IntN(90)), storeDone
	switch {
	case len(all[id]) > 0:
		code = storeThere
	case len(s) == objectMax:
		code = storeFull
	default:
		all[id] = slices.Clone(values)
	}
	got, n := impl.StorePut(s, id, values)
	if n != code {
		t.Fatalf("StorePut(%v, %d, %v) returned %d; want %d", s, id, values, n, code)
	}
	return got
}

// randomKeep removes some objects of a store, and of the model of it.
func (all *shelves) randomKeep(r *rand.Rand, s []impl.Object) []impl.Object {
	var ids []int
	for range 12 {
		ids = append(ids, r.IntN(12)-1)
	}
	for id := range all {
		if !slices.Contains(ids, id) {
			all[id] = nil
		}
	}
	got, _ := impl.StoreKeep(s, ids)
	return got
}

// Promises 36 to 42: whatever is done one after the other, each result is a valid store, and no earlier one changes.
func TestManyStoresOneAfterTheOther(t *testing.T) {
	r := rand.New(rand.NewPCG(23, 24))
	for range 100 {
		var all shelves
		var s []impl.Object
		for range 60 {
			var got []impl.Object
			before := copiedStore(s)
			if r.IntN(10) == 0 {
				got = all.randomKeep(r, s)
			} else {
				got = all.randomPut(t, r, s)
			}
			if want := all.store(); !sameStore(got, want) || !impl.StoreValid(got) || !sameStore(s, before) {
				t.Fatalf("of %v arose %v; want %v; it is %v now", before, got, want, s)
			}
			s = got
		}
	}
}

// storeCalls returns all functions of the chapter, called with a store and a list, so that each one is done, refused, and fails.
func storeCalls() map[string]func([]impl.Object, []int) ([]impl.Object, int) {
	code := func(s []impl.Object, ok bool) ([]impl.Object, int) {
		if ok {
			return s, storeDone
		}
		return s, storeInvalid
	}
	calls := map[string]func([]impl.Object, []int) ([]impl.Object, int){
		"StoreValid": func(s []impl.Object, _ []int) ([]impl.Object, int) { return code(nil, impl.StoreValid(s)) },
		"StoreKeep":  func(s []impl.Object, list []int) ([]impl.Object, int) { return code(impl.StoreKeep(s, list)) },
	}
	for _, id := range []int{-1, 0, 1, 2, 4, 5, 11, 500, seqMax, seqMax + 1} {
		calls[fmt.Sprintf("StorePut of %d", id)] = func(s []impl.Object, list []int) ([]impl.Object, int) { return impl.StorePut(s, id, list) }
		calls[fmt.Sprintf("StoreGet of %d", id)] = func(s []impl.Object, list []int) ([]impl.Object, int) {
			value, ok := impl.StoreGet(s, id, len(list)-1)
			return code([]impl.Object{{Id: value}}, ok)
		}
	}
	return calls
}

// spaciousStore returns a copy of a store that has spare capacity, behind its objects and behind the values of each of them.
func spaciousStore(s []impl.Object) []impl.Object {
	c := append(copiedStore(s), impl.Object{Id: 888}, impl.Object{Id: 889, Values: []int{88}})
	for i := range s {
		c[i].Values = append(c[i].Values, counting(2*packMax, 55)...)[:len(s[i].Values)]
	}
	return c[:len(s)]
}

// storeMemory returns a copy of a store and its spare capacity, that of its values included.
func storeMemory(s []impl.Object) []impl.Object {
	c := slices.Clone(s[:cap(s)])
	for i := range c {
		c[i].Values = slices.Clone(c[i].Values[:cap(c[i].Values)])
	}
	return c
}

// scribbleStore writes over all memory of a store.
func scribbleStore(s []impl.Object) {
	s = s[:cap(s)]
	for i := range s {
		fill(s[i].Values)
		s[i] = impl.Object{Id: 777, Values: []int{77}}
	}
}

// checkApart requires that no two objects of a store share memory.
func checkApart(t *testing.T, s []impl.Object) {
	t.Helper()
	for i := range s {
		want := copiedStore(s)
		want[i].Values = slices.Repeat([]int{77}, len(s[i].Values))
		fill(s[i].Values)
		if !sameStore(s, want) {
			t.Fatalf("two objects share memory: after a change of one, the store is %v; want %v", s, want)
		}
	}
}

// checkStoreMemory requires that a call does not change its arguments, and that its results share no memory with these, with
// those of another call, or with each other.
func checkStoreMemory(t *testing.T, name string, call func([]impl.Object, []int) ([]impl.Object, int), s []impl.Object, list []int) {
	t.Helper()
	longList := append(slices.Clone(list), 44, 45)
	store, short := spaciousStore(s), longList[:len(list)]
	keptStore, keptList := storeMemory(store), slices.Clone(longList)
	first, code := call(store, short)
	second, _ := call(store, short)
	keptFirst := copiedStore(first)
	checkApart(t, second)
	scribbleStore(second)
	if !sameStore(storeMemory(store), keptStore) || !slices.Equal(longList, keptList) || !sameStore(first, keptFirst) {
		t.Fatalf("%s, for %v and %v: an argument was changed, or results share memory", name, s, list)
	}
	scribbleStore(store)
	fill(longList)
	if !sameStore(first, keptFirst) {
		t.Fatalf("%s, for %v and %v: a result shares memory with an argument", name, s, list)
	}
	// What a call returned for the same arguments does not depend on what was done before.
	if third, n := call(copiedStore(s), slices.Clone(list)); n != code || !sameStore(third, keptFirst) {
		t.Fatalf("%s, for %v and %v: a later call returned %v, %d; want %v, %d", name, s, list, third, n, keptFirst, code)
	}
}

// General rules: arguments, valid or not, are not changed, and results share no memory, also if a store is returned unchanged.
func TestStoresKeepArgumentsAndShareNoMemory(t *testing.T) {
	stores := [][]impl.Object{make([]impl.Object, 1), objectsFrom(objectMax+1, 1, 1), objectsFrom(3, 5, 0), objectsFrom(4, 11, -3)}
	stores = append(stores, validStores()...)
	lists := [][]int{nil, {1}, {5, 2, 5}, {1, 2, 3, 4, 5, 6}, {9, 18, 27, 27, 5, 1}, {0}, {-1, 5}, {500, 1, seqMax}, counting(packMax+1, 1)}
	for name, call := range storeCalls() {
		for _, s := range stores {
			for _, list := range append(lists, numbers(s)) {
				checkStoreMemory(t, name, call, s, list)
			}
		}
	}
}

// General rules: the same memory may be in several arguments and in several objects, and the spare capacity of one object may be
// another object.
func TestStoresThatShareMemoryInTheArguments(t *testing.T) {
	for name, call := range storeCalls() {
		for n := range packMax + 1 {
			apart, sharing := sharingStore(), sharingStore()
			list := sharing[1].Values[:n]
			want, code := call(copiedStore(apart), slices.Clone(list))
			got, again := call(sharing, list)
			if again != code || !sameStore(got, want) || !sameStore(sharing, apart) {
				t.Fatalf("%s returned %v, %d, and left %v; want %v, %d, and %v", name, got, again, sharing, want, code, apart)
			}
			checkApart(t, got)
			if !sameStore(sharing, apart) {
				t.Fatalf("%s left %v; want %v", name, sharing, apart)
			}
		}
	}
}

// General rules: nil and empty slices are equivalent, as arguments.
func TestStoresWithNilAndEmptySlices(t *testing.T) {
	empty := []impl.Object{}
	for name, call := range storeCalls() {
		for _, list := range [][]int{{}, {5}} {
			want, code := call(nil, list)
			got, again := call(empty, list)
			if again != code || !sameStore(got, want) {
				t.Fatalf("%s returned %v, %d; want %v, %d", name, got, again, want, code)
			}
		}
		for _, s := range [][]impl.Object{nil, sharingStore(), objectsFrom(objectMax, 1, 1)} {
			want, code := call(s, nil)
			got, again := call(s, []int{})
			if again != code || !sameStore(got, want) {
				t.Fatalf("%s returned %v, %d; want %v, %d", name, got, again, want, code)
			}
		}
	}
	if impl.StoreValid([]impl.Object{{Id: 1, Values: []int{}}}) || impl.StoreValid([]impl.Object{{Id: 1}}) {
		t.Error("StoreValid holds for an object without values")
	}
}

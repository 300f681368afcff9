package tests

import (
	"math"
	"slices"
	"testing"

	"loop.example/g00668/impl"
)

// areaSet is a set of numbers of the area, kept in another way than the program does.
type areaSet [impl.AreaSize]bool

func setOf(l []int64) areaSet {
	var s areaSet
	for _, k := range l {
		s[k] = true
	}
	return s
}

// list returns the numbers whose presence is wanted.
func (s areaSet) list(present bool) []int64 {
	var l []int64
	for k, there := range s {
		if there == present {
			l = append(l, int64(k))
		}
	}
	return l
}

// bits adds powers of two.
func (s areaSet) bits() int64 {
	sum, power := int64(0), int64(1)
	for _, there := range s {
		if there {
			sum += power
		}
		power *= 2
	}
	return sum
}

// maskedSet has the numbers whose bits are set.
func maskedSet(mask int) areaSet {
	var s areaSet
	for k := range s {
		s[k] = mask%2 == 1
		mask /= 2
	}
	return s
}

// upTo returns the numbers from..end-1.
func upTo(from int64, end int64) []int64 {
	var l []int64
	for k := from; k < end; k++ {
		l = append(l, k)
	}
	return l
}

func whole() []int64 {
	return upTo(0, impl.AreaSize)
}

func listIs(t *testing.T, what string, got []int64, want []int64) {
	t.Helper()
	if !slices.Equal(got, want) {
		t.Errorf("%s: got %v, want %v", what, got, want)
	}
}

func listOutIs(t *testing.T, what string, got impl.ListOut, want []int64) {
	t.Helper()
	if got.Code != impl.OK || !slices.Equal(got.List, want) {
		t.Errorf("%s: got %+v, want %v", what, got, want)
	}
}

func listFails(t *testing.T, what string, got impl.ListOut, code int64) {
	t.Helper()
	if got.Code != code || len(got.List) != 0 {
		t.Errorf("%s: got %+v, want the code %d", what, got, code)
	}
}

func extentsAre(t *testing.T, what string, got []impl.Extent, want ...impl.Extent) {
	t.Helper()
	if !slices.Equal(got, want) {
		t.Errorf("%s: got %+v, want %+v", what, got, want)
	}
}

// someSets has every set of the first and of the last 12 numbers, of every other number, and many arbitrary ones.
func someSets() []areaSet {
	var sets []areaSet
	for mask := range 1 << 12 {
		low := maskedSet(mask)
		var spread areaSet
		for k := range 12 {
			spread[2*k] = low[k]
		}
		sets = append(sets, low, maskedSet(mask<<12), spread)
	}
	next := numbers(5)
	for range 4000 {
		sets = append(sets, arbitrarySet(next))
	}
	return append(sets, setOf(whole()))
}

// arbitrarySet is anything between nearly empty and nearly full.
func arbitrarySet(next func(limit int) int) areaSet {
	var s areaSet
	density := 1 + next(9)
	for k := range s {
		s[k] = next(10) < density
	}
	return s
}

type namedList struct {
	what string
	list []int64
}

func validLists() []namedList {
	return []namedList{
		{"nil", nil},
		{"empty", []int64{}},
		{"the first number", []int64{0}},
		{"the last number", []int64{impl.AreaSize - 1}},
		{"both ends", []int64{0, impl.AreaSize - 1}},
		{"one run", []int64{3, 4, 5}},
		{"several runs", []int64{0, 1, 4, 6, 7, 8, 23}},
		{"every other number", []int64{0, 2, 4, 6, 8, 10, 12, 14, 16, 18, 20, 22}},
		{"all but one", append(upTo(0, 11), upTo(12, impl.AreaSize)...)},
		{"the whole area", whole()},
	}
}

func invalidLists() []namedList {
	l := []namedList{
		{"-1", []int64{-1}},
		{"-1 before a valid list", []int64{-1, 0, 1}},
		{"-1 at the end", []int64{0, 1, -1}},
		{"AreaSize", []int64{impl.AreaSize}},
		{"AreaSize behind a valid list", []int64{0, 5, impl.AreaSize}},
		{"AreaSize in front", []int64{impl.AreaSize, 1, 2}},
		{"the whole area and AreaSize", upTo(0, impl.AreaSize+1)},
		{"-1 and the whole area", upTo(-1, impl.AreaSize)},
		{"0 twice", []int64{0, 0}},
		{"a number twice in a row", []int64{1, 5, 5, 7}},
		{"a number twice apart", []int64{1, 5, 7, 5}},
		{"the last number twice", []int64{22, 23, 23}},
		{"the whole area and its last number again", append(whole(), impl.AreaSize-1)},
		{"the whole area and its first number again", append(whole(), 0)},
		{"decreasing", []int64{2, 1}},
		{"decreasing at the end", []int64{1, 2, 9, 8}},
		{"decreasing in front", []int64{4, 3, 9, 10}},
		{"as many zeros as the area has numbers", make([]int64, impl.AreaSize)},
		{"MaxList zeros", make([]int64, impl.MaxList)},
		{"MaxList increasing numbers", upTo(0, impl.MaxList)},
	}
	for _, k := range []int64{-2, -24, 25, 32, 63, 64, 1 << 32, 1<<32 + 1, -1 << 32, math.MinInt64, math.MaxInt64} {
		l = append(l, namedList{"a number far outside", []int64{k}})
		if k < 0 {
			l = append(l, namedList{"a number far below a valid list", []int64{k, 3}})
		} else {
			l = append(l, namedList{"a number far above a valid list", []int64{3, k}})
		}
	}
	return l
}

// hugeLists have more than MaxList elements, and are otherwise wrong in different ways.
func hugeLists() []namedList {
	return []namedList{
		{"MaxList + 1 zeros", make([]int64, impl.MaxList+1)},
		{"MaxList + 1 increasing numbers", upTo(0, impl.MaxList+1)},
		{"MaxList + 1 negative numbers", upTo(-impl.MaxList-1, 0)},
		{"far more than MaxList", upTo(0, 5000)},
	}
}

func TestAreaExamples(t *testing.T) {
	used := []int64{0, 1, 4}
	extentsAre(t, "0, 1, 4", impl.ExtentsOf(used), impl.Extent{From: 0, Count: 2}, impl.Extent{From: 4, Count: 1})
	if got := impl.BitsOf(used); got != 19 {
		t.Errorf("BitsOf 0, 1, 4 is %d", got)
	}
	listIs(t, "the bits 19", impl.FromBits(19), used)
	listFails(t, "{0, 2} and {1, 1}", impl.ListOf([]impl.Extent{{From: 0, Count: 2}, {From: 1, Count: 1}}), impl.ErrTwice)
	listFails(t, "{23, 2}", impl.ListOf([]impl.Extent{{From: 23, Count: 2}}), impl.ErrForm)
	listOutIs(t, "a reservation of 2", impl.Reserve(used, nil, 2), []int64{2, 3})
	listOutIs(t, "a reservation of 3", impl.Reserve(used, nil, 3), []int64{5, 6, 7})
	listFails(t, "a reservation of 22", impl.Reserve(used, nil, 22), impl.ErrSpace)
}

func TestListRight(t *testing.T) {
	for _, v := range validLists() {
		if !impl.ListRight(v.list) {
			t.Errorf("%s: not accepted", v.what)
		}
	}
	for _, v := range append(invalidLists(), hugeLists()...) {
		if impl.ListRight(v.list) {
			t.Errorf("%s: accepted: %v", v.what, v.list)
		}
	}
	for _, s := range someSets() {
		if !impl.ListRight(s.list(true)) {
			t.Errorf("not accepted: %v", s.list(true))
		}
	}
}

func TestListRightOfAllPairs(t *testing.T) {
	for a := int64(-3); a < impl.AreaSize+3; a++ {
		for b := int64(-3); b < impl.AreaSize+3; b++ {
			want := a >= 0 && b < impl.AreaSize && a < b
			if got := impl.ListRight([]int64{a, b}); got != want {
				t.Errorf("%d, %d: got %t", a, b, got)
			}
		}
	}
}

func TestInvalidListsHaveNoExtentsAndNoBits(t *testing.T) {
	for _, v := range append(invalidLists(), hugeLists()...) {
		extentsAre(t, v.what, impl.ExtentsOf(v.list))
		if got := impl.BitsOf(v.list); got != -1 {
			t.Errorf("%s: the bits are %d", v.what, got)
		}
	}
}

func TestExtentsOfKnownLists(t *testing.T) {
	extentsAre(t, "nil", impl.ExtentsOf(nil))
	extentsAre(t, "empty", impl.ExtentsOf([]int64{}))
	extentsAre(t, "the first number", impl.ExtentsOf([]int64{0}), impl.Extent{From: 0, Count: 1})
	extentsAre(t, "the last number", impl.ExtentsOf([]int64{23}), impl.Extent{From: 23, Count: 1})
	extentsAre(t, "one run", impl.ExtentsOf([]int64{3, 4, 5}), impl.Extent{From: 3, Count: 3})
	extentsAre(t, "the whole area", impl.ExtentsOf(whole()), impl.Extent{From: 0, Count: impl.AreaSize})
	extentsAre(t, "three runs", impl.ExtentsOf([]int64{0, 2, 3, 21, 22, 23}),
		impl.Extent{From: 0, Count: 1}, impl.Extent{From: 2, Count: 2}, impl.Extent{From: 21, Count: 3})
}

// areRuns reports whether extents are in increasing order and have a gap before each other, so that they are maximal.
func areRuns(l []impl.Extent) bool {
	least := int64(0)
	for _, e := range l {
		if e.From < least || e.Count < 1 {
			return false
		}
		least = e.From + e.Count + 1
	}
	return true
}

func TestListsAreRecoveredFromTheirExtentsAndBits(t *testing.T) {
	for _, s := range someSets() {
		list := s.list(true)
		extents := impl.ExtentsOf(list)
		if !areRuns(extents) {
			t.Fatalf("%v: not maximal runs: %+v", list, extents)
		}
		listOutIs(t, "from extents", impl.ListOf(extents), list)
		slices.Reverse(extents)
		listOutIs(t, "from reversed extents", impl.ListOf(extents), list)
		bits := impl.BitsOf(list)
		if bits != s.bits() {
			t.Fatalf("%v: the bits are %d, want %d", list, bits, s.bits())
		}
		listIs(t, "from bits", impl.FromBits(bits), list)
	}
}

func TestBitsOfKnownLists(t *testing.T) {
	known := []struct {
		list []int64
		bits int64
	}{
		{nil, 0}, {[]int64{}, 0}, {[]int64{0}, 1}, {[]int64{1}, 2}, {[]int64{0, 1}, 3}, {[]int64{23}, 8388608},
		{[]int64{0, 23}, 8388609}, {upTo(0, 23), 8388607}, {upTo(1, 24), 16777214}, {whole(), 16777215},
	}
	for _, k := range known {
		if got := impl.BitsOf(k.list); got != k.bits {
			t.Errorf("%v: the bits are %d, want %d", k.list, got, k.bits)
		}
		listIs(t, "from bits", impl.FromBits(k.bits), k.list)
	}
}

func TestFromBitsOutside(t *testing.T) {
	const end = 1 << impl.AreaSize
	for _, bits := range []int64{-1, -2, -end, -end + 1, end, end + 1, 2*end - 1, 2 * end, 1 << 32, 1<<32 + 1, 1 << 62, math.MinInt64, math.MinInt64 + 1, math.MaxInt64} {
		listIs(t, "outside", impl.FromBits(bits), nil)
	}
	listIs(t, "the greatest", impl.FromBits(end-1), whole())
}

// permuted calls f with the elements in every order.
func permuted[T any](l []T, f func(l []T)) {
	var place func(done int)
	place = func(done int) {
		if done == len(l) {
			f(l)
		}
		for i := done; i < len(l); i++ {
			l[done], l[i] = l[i], l[done]
			place(done + 1)
			l[done], l[i] = l[i], l[done]
		}
	}
	place(0)
}

func TestListOfExtentsInAnyOrder(t *testing.T) {
	known := []struct {
		what    string
		extents []impl.Extent
		list    []int64
	}{
		{"nil", nil, nil},
		{"empty", []impl.Extent{}, nil},
		{"one number", []impl.Extent{{From: 7, Count: 1}}, []int64{7}},
		{"the whole area", []impl.Extent{{From: 0, Count: impl.AreaSize}}, whole()},
		{"up to the end", []impl.Extent{{From: 20, Count: 4}}, []int64{20, 21, 22, 23}},
		{"touching", []impl.Extent{{From: 2, Count: 2}, {From: 4, Count: 3}}, upTo(2, 7)},
		{"touching, to the whole area", []impl.Extent{{From: 0, Count: 1}, {From: 1, Count: 22}, {From: 23, Count: 1}}, whole()},
		{"single numbers", []impl.Extent{{From: 0, Count: 1}, {From: 1, Count: 1}, {From: 3, Count: 1}, {From: 23, Count: 1}}, []int64{0, 1, 3, 23}},
		{"apart", []impl.Extent{{From: 0, Count: 2}, {From: 4, Count: 1}, {From: 9, Count: 3}, {From: 22, Count: 2}}, []int64{0, 1, 4, 9, 10, 11, 22, 23}},
	}
	for _, k := range known {
		permuted(k.extents, func(l []impl.Extent) {
			listOutIs(t, k.what, impl.ListOf(l), k.list)
		})
	}
	var singles []impl.Extent
	for k := range int64(impl.AreaSize) {
		singles = append(singles, impl.Extent{From: (k * 7) % impl.AreaSize, Count: 1})
	}
	listOutIs(t, "every number by itself", impl.ListOf(singles), whole())
}

func edgeCounts() []int64 {
	return []int64{math.MinInt64, math.MinInt64 + 1, math.MinInt64 + 23, -1 << 32, -24, -1, 0, 1, 2, 12, 23, 24, 25, 48, 63, 64, 65,
		1 << 32, 1<<32 + 1, math.MaxInt64 - 23, math.MaxInt64 - 22, math.MaxInt64 - 1, math.MaxInt64}
}

// within is defined for all integers: it never adds two of which one may be near the end of int64.
func within(e impl.Extent) bool {
	for count := int64(1); count <= impl.AreaSize; count++ {
		if e.Count == count {
			return e.From >= 0 && e.From <= impl.AreaSize-count
		}
	}
	return false
}

func TestListOfOneExtent(t *testing.T) {
	edges := append(edgeCounts(), upTo(-3, impl.AreaSize+4)...)
	for _, from := range edges {
		for _, count := range edges {
			e := impl.Extent{From: from, Count: count}
			out := impl.ListOf([]impl.Extent{e})
			if within(e) {
				listOutIs(t, "within the area", out, upTo(from, from+count))
			} else if out.Code != impl.ErrForm || len(out.List) != 0 {
				t.Errorf("%+v: got %+v, want ErrForm", e, out)
			}
		}
	}
}

func extentsWithin() []impl.Extent {
	var l []impl.Extent
	for from := range int64(impl.AreaSize) {
		for count := int64(1); from+count <= impl.AreaSize; count++ {
			l = append(l, impl.Extent{From: from, Count: count})
		}
	}
	return l
}

func TestListOfAllPairsOfExtents(t *testing.T) {
	all := extentsWithin()
	for _, a := range all {
		for _, b := range all {
			out := impl.ListOf([]impl.Extent{a, b})
			first, second := upTo(a.From, a.From+a.Count), upTo(b.From, b.From+b.Count)
			want := setOf(append(first, second...)).list(true)
			if int64(len(want)) < a.Count+b.Count {
				listFails(t, "overlapping", out, impl.ErrTwice)
			} else {
				listOutIs(t, "not overlapping", out, want)
			}
		}
	}
}

func TestListOfOverlapAnywhere(t *testing.T) {
	known := [][]impl.Extent{
		{{From: 0, Count: 2}, {From: 10, Count: 2}, {From: 1, Count: 1}},
		{{From: 5, Count: 1}, {From: 0, Count: 1}, {From: 5, Count: 1}},
		{{From: 0, Count: 24}, {From: 23, Count: 1}},
		{{From: 0, Count: 24}, {From: 0, Count: 24}},
		{{From: 3, Count: 4}, {From: 10, Count: 4}, {From: 6, Count: 5}},
	}
	for _, l := range known {
		permuted(l, func(l []impl.Extent) {
			listFails(t, "overlapping", impl.ListOf(l), impl.ErrTwice)
		})
	}
}

func TestListOfRejectsTheFormBeforeAnOverlap(t *testing.T) {
	for _, wrong := range []impl.Extent{
		{}, {From: 4, Count: 0}, {From: 4, Count: -1}, {From: -1, Count: 1}, {From: -1, Count: 2}, {From: impl.AreaSize, Count: 1}, {From: impl.AreaSize, Count: 0},
		{From: 23, Count: 2}, {From: 0, Count: 25}, {From: 1, Count: 24}, {From: 1, Count: math.MaxInt64}, {From: math.MaxInt64, Count: 1},
		{From: math.MaxInt64, Count: math.MaxInt64}, {From: math.MinInt64, Count: math.MaxInt64}, {From: math.MinInt64, Count: math.MinInt64}, {From: 3, Count: math.MinInt64},
	} {
		l := []impl.Extent{{From: 0, Count: 2}, {From: 1, Count: 1}, wrong}
		permuted(l, func(l []impl.Extent) {
			listFails(t, "beside an overlap", impl.ListOf(l), impl.ErrForm)
		})
		permuted([]impl.Extent{{From: 20, Count: 2}, wrong}, func(l []impl.Extent) {
			listFails(t, "beside a valid one", impl.ListOf(l), impl.ErrForm)
		})
		listFails(t, "twice", impl.ListOf([]impl.Extent{wrong, wrong}), impl.ErrForm)
	}
}

func TestListOfSizeLimit(t *testing.T) {
	twice := make([]impl.Extent, impl.MaxList+1)
	for i := range twice {
		twice[i] = impl.Extent{From: int64(i % impl.AreaSize), Count: 1}
	}
	wrong := make([]impl.Extent, impl.MaxList+1)
	mixed := slices.Clone(twice)
	mixed[0], mixed[impl.MaxList-1] = impl.Extent{From: 0, Count: 2}, impl.Extent{From: 23, Count: 2}
	listFails(t, "MaxList extents that overlap", impl.ListOf(twice[:impl.MaxList]), impl.ErrTwice)
	listFails(t, "MaxList extents without a Count", impl.ListOf(wrong[:impl.MaxList]), impl.ErrForm)
	listFails(t, "MaxList extents, the last not within the area", impl.ListOf(mixed[:impl.MaxList]), impl.ErrForm)
	for _, l := range [][]impl.Extent{twice, wrong, mixed} {
		listFails(t, "MaxList + 1 extents", impl.ListOf(l), impl.ErrSize)
	}
}

func TestFreeOf(t *testing.T) {
	known := []struct {
		what string
		a    []int64
		b    []int64
		free []int64
	}{
		{"both nil", nil, nil, whole()},
		{"both empty", []int64{}, []int64{}, whole()},
		{"the whole area and nil", whole(), nil, nil},
		{"nil and the whole area", nil, whole(), nil},
		{"the whole area twice", whole(), whole(), nil},
		{"two halves", upTo(0, 12), upTo(12, 24), nil},
		{"the ends", []int64{0}, []int64{23}, upTo(1, 23)},
		{"all but the ends", upTo(1, 23), []int64{5, 6}, []int64{0, 23}},
		{"lists that share numbers", []int64{0, 2, 3, 4}, append([]int64{2, 4, 5}, upTo(8, 24)...), []int64{1, 6, 7}},
		{"equal lists", upTo(3, 24), upTo(3, 24), []int64{0, 1, 2}},
	}
	for _, k := range known {
		listIs(t, k.what, impl.FreeOf(k.a, k.b), k.free)
		listIs(t, k.what+", exchanged", impl.FreeOf(k.b, k.a), k.free)
	}
}

// union has the numbers of both sets.
func union(a areaSet, b areaSet) areaSet {
	for k := range a {
		a[k] = a[k] || b[k]
	}
	return a
}

func TestFreeNumbersAreInNeitherList(t *testing.T) {
	next := numbers(6)
	for _, a := range someSets() {
		b := arbitrarySet(next)
		want := union(a, b).list(false)
		listIs(t, "free", impl.FreeOf(a.list(true), b.list(true)), want)
		listIs(t, "free, exchanged", impl.FreeOf(b.list(true), a.list(true)), want)
	}
}

func TestFreeOfInvalidLists(t *testing.T) {
	wrong := append(invalidLists(), hugeLists()...)
	for _, v := range wrong {
		for _, w := range validLists() {
			listIs(t, v.what+" first", impl.FreeOf(v.list, w.list), nil)
			listIs(t, v.what+" second", impl.FreeOf(w.list, v.list), nil)
		}
		for _, w := range wrong {
			listIs(t, v.what+" and "+w.what, impl.FreeOf(v.list, w.list), nil)
		}
	}
}

func TestReserve(t *testing.T) {
	odd := []int64{1, 3, 5, 7, 9, 11, 13, 15, 17, 19, 21, 23}
	known := []struct {
		what string
		a    []int64
		b    []int64
		n    int64
		list []int64
	}{
		{"nothing of a free area", nil, nil, 0, nil},
		{"nothing of a used area", whole(), nil, 0, nil},
		{"nothing of two used halves", upTo(0, 12), upTo(12, 24), 0, nil},
		{"one of a free area", nil, nil, 1, []int64{0}},
		{"the whole area", nil, nil, impl.AreaSize, whole()},
		{"the only free number, the first", upTo(1, 24), nil, 1, []int64{0}},
		{"the only free number, the last", nil, upTo(0, 23), 1, []int64{23}},
		{"two lists in use", []int64{0, 5}, []int64{2, 9}, 3, []int64{6, 7, 8}},
		{"a first run that is just long enough", []int64{0, 4}, []int64{8}, 3, []int64{1, 2, 3}},
		{"a first run that is longer", []int64{0}, []int64{8}, 3, []int64{1, 2, 3}},
		{"a later run, though a longer one follows", []int64{1, 4}, []int64{7}, 2, []int64{2, 3}},
		{"a later run that is just long enough", []int64{2, 5}, append([]int64{9}, upTo(13, 24)...), 3, []int64{6, 7, 8}},
		{"the last run, up to the end", []int64{2, 5, 10}, upTo(11, 20), 4, []int64{6, 7, 8, 9}},
		{"only the last run, up to the end", append([]int64{2}, upTo(5, 20)...), nil, 4, []int64{20, 21, 22, 23}},
		{"no run that is long enough", []int64{2, 5}, upTo(8, 24), 3, []int64{0, 1, 3}},
		{"no run that is long enough, over all runs", []int64{2, 5}, upTo(8, 24), 6, []int64{0, 1, 3, 4, 6, 7}},
		{"every other number", odd, nil, 5, []int64{0, 2, 4, 6, 8}},
		{"every other number, all of them", odd, odd, 12, []int64{0, 2, 4, 6, 8, 10, 12, 14, 16, 18, 20, 22}},
		{"lists that share numbers", []int64{0, 1, 2}, []int64{1, 2, 3}, 20, upTo(4, 24)},
	}
	for _, k := range known {
		listOutIs(t, k.what, impl.Reserve(k.a, k.b, k.n), k.list)
		listOutIs(t, k.what+", exchanged", impl.Reserve(k.b, k.a, k.n), k.list)
	}
}

// expected tries every start of a run of n numbers.
func expected(used areaSet, n int) []int64 {
	for from := range impl.AreaSize - n + 1 {
		if !slices.Contains(used[from:from+n], true) {
			return upTo(int64(from), int64(from+n))
		}
	}
	return used.list(false)[:n]
}

// checkReservations tries every n, from nothing to more than the area.
func checkReservations(t *testing.T, a areaSet, b areaSet) {
	t.Helper()
	used := union(a, b)
	free := len(used.list(false))
	for n := range impl.AreaSize + 3 {
		out := impl.Reserve(a.list(true), b.list(true), int64(n))
		if n > free {
			listFails(t, "more than are free", out, impl.ErrSpace)
			continue
		}
		if want := expected(used, n); out.Code != impl.OK || !slices.Equal(out.List, want) {
			t.Fatalf("%d beside %v and %v: got %+v, want %v", n, a.list(true), b.list(true), out, want)
		}
	}
}

func TestReservedNumbersWereFreeAndOneRunIfPossible(t *testing.T) {
	next := numbers(7)
	for i, a := range someSets() {
		if i%5 == 0 {
			checkReservations(t, a, areaSet{})
			checkReservations(t, a, arbitrarySet(next))
			checkReservations(t, areaSet{}, a)
		}
	}
}

func TestReserveMoreThanAreFree(t *testing.T) {
	for _, v := range validLists() {
		for _, w := range validLists() {
			free := int64(len(union(setOf(v.list), setOf(w.list)).list(false)))
			if out := impl.Reserve(v.list, w.list, free); out.Code != impl.OK || int64(len(out.List)) != free {
				t.Errorf("%s and %s: all %d that are free yield %+v", v.what, w.what, free, out)
			}
			for _, n := range []int64{free + 1, impl.AreaSize + 1, 64, impl.MaxList + 1, 1 << 32, math.MaxInt64 - 1, math.MaxInt64} {
				listFails(t, v.what+" and "+w.what, impl.Reserve(v.list, w.list, n), impl.ErrSpace)
			}
			for _, n := range []int64{-1, -2, -24, -1 << 32, math.MinInt64, math.MinInt64 + 1} {
				listFails(t, v.what+" and "+w.what, impl.Reserve(v.list, w.list, n), impl.ErrForm)
			}
		}
	}
}

func TestReserveWithInvalidLists(t *testing.T) {
	for _, n := range []int64{0, 1, impl.AreaSize, impl.AreaSize + 1, math.MaxInt64, -1, math.MinInt64} {
		for _, v := range invalidLists() {
			for _, w := range append(validLists(), invalidLists()...) {
				listFails(t, v.what+" first", impl.Reserve(v.list, w.list, n), impl.ErrForm)
				listFails(t, v.what+" second", impl.Reserve(w.list, v.list, n), impl.ErrForm)
			}
		}
		for _, v := range hugeLists() {
			for _, w := range slices.Concat(validLists(), invalidLists(), hugeLists()) {
				listFails(t, v.what+" first", impl.Reserve(v.list, w.list, n), impl.ErrSize)
				listFails(t, v.what+" second", impl.Reserve(w.list, v.list, n), impl.ErrSize)
			}
		}
	}
}

// roomBehind returns a copy of l with room for more, which nothing may be written to.
func roomBehind(l []int64) []int64 {
	return append(make([]int64, 0, len(l)+impl.AreaSize), l...)
}

func unchanged(t *testing.T, what string, got []int64, want []int64) {
	t.Helper()
	listIs(t, what, got, want)
	for _, k := range got[len(got):cap(got)] {
		if k != 0 {
			t.Errorf("%s: written behind the end of the argument", what)
		}
	}
}

func TestAreaResultsShareNoMemory(t *testing.T) {
	calls := []func(a []int64, b []int64) []int64{
		func(a []int64, b []int64) []int64 { return impl.FreeOf(a, b) },
		func(a []int64, b []int64) []int64 { return impl.Reserve(a, b, 0).List },
		func(a []int64, b []int64) []int64 { return impl.Reserve(a, b, 1).List },
		func(a []int64, b []int64) []int64 { return impl.Reserve(a, b, 3).List },
		func(a []int64, b []int64) []int64 { return impl.Reserve(a, b, impl.AreaSize).List },
		func(a []int64, b []int64) []int64 { return impl.FromBits(impl.BitsOf(a)) },
		func(a []int64, b []int64) []int64 { return impl.ListOf(impl.ExtentsOf(b)).List },
	}
	for _, v := range append(validLists(), invalidLists()...) {
		for _, w := range validLists() {
			for _, call := range calls {
				a, b := roomBehind(v.list), roomBehind(w.list)
				first := call(a, b)
				before := slices.Clone(first)
				second := call(a, b)
				listIs(t, "called again", second, before)
				for i := range second {
					second[i] = 99
				}
				listIs(t, "the first result", first, before)
				unchanged(t, v.what, a, v.list)
				unchanged(t, w.what, b, w.list)
			}
		}
	}
}

func TestExtentsAreNewAndNotChanged(t *testing.T) {
	list := []int64{0, 1, 4}
	first := impl.ExtentsOf(list)
	second := impl.ExtentsOf(list)
	second[0], second[1] = impl.Extent{From: 9}, impl.Extent{From: 9}
	extentsAre(t, "the first result", first, impl.Extent{From: 0, Count: 2}, impl.Extent{From: 4, Count: 1})
	for _, l := range [][]impl.Extent{{{From: 4, Count: 1}, {From: 0, Count: 2}}, {{From: 4, Count: 1}, {From: 0, Count: 24}}, {{From: 4, Count: 1}, {From: 3, Count: 0}}} {
		before := slices.Clone(l)
		impl.ListOf(l)
		extentsAre(t, "the argument", l, before...)
	}
}

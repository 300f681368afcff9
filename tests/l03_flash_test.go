package tests

import (
	"math"
	"slices"
	"strings"
	"testing"

	"loop.example/g00668/impl"
)

// sameFlash treats an empty slice and nil as equal.
func sameFlash(a impl.Flash, b impl.Flash) bool {
	return slices.Equal(a.Sectors, b.Sectors) && slices.Equal(a.Dirty, b.Dirty)
}

func flashIs(t *testing.T, what string, got impl.Flash, want impl.Flash) {
	t.Helper()
	if !sameFlash(got, want) {
		t.Errorf("%s: got %+v, want %+v", what, got, want)
	}
}

func flashOutIs(t *testing.T, what string, got impl.FlashOut, want impl.FlashOut) {
	t.Helper()
	if !sameFlash(got.Flash, want.Flash) || got.Data != want.Data || got.Code != want.Code {
		t.Errorf("%s: got %+v, want %+v", what, got, want)
	}
}

func flashFails(t *testing.T, what string, got impl.FlashOut, code int64) {
	t.Helper()
	flashOutIs(t, what, got, impl.FlashOut{Code: code})
}

func copyFlash(f impl.Flash) impl.Flash {
	return impl.Flash{Sectors: slices.Clone(f.Sectors), Dirty: slices.Clone(f.Dirty)}
}

// mixedFlash has synced, unsynced and empty sectors; the order of its Dirty elements is not that of the sectors.
func mixedFlash() impl.Flash {
	return impl.Flash{
		Sectors: []string{"zero", "one", "", "three", "four"},
		Dirty:   []impl.Dirty{{At: 4, Data: "FOUR4"}, {At: 0, Data: ""}, {At: 2, Data: "TWO"}},
	}
}

// fullFlash has the greatest number of sectors, all of the greatest size and all written since the last sync, the last one first.
func fullFlash() impl.Flash {
	f := impl.Flash{}
	for i := range impl.MaxSectors {
		f.Sectors = append(f.Sectors, pattern(impl.SectorSize-i)+strings.Repeat("s", i))
		at := int64(impl.MaxSectors - 1 - i)
		f.Dirty = append(f.Dirty, impl.Dirty{At: at, Data: pattern(impl.SectorSize-i) + strings.Repeat("d", i)})
	}
	return f
}

type namedFlash struct {
	what  string
	flash impl.Flash
}

func validFlashes() []namedFlash {
	return []namedFlash{
		{"one empty sector", impl.Flash{Sectors: []string{""}}},
		{"an empty slice of Dirty", impl.Flash{Sectors: []string{""}, Dirty: []impl.Dirty{}}},
		{"one sector of SectorSize bytes", impl.Flash{Sectors: []string{pattern(impl.SectorSize)}}},
		{"one dirty sector", impl.Flash{Sectors: []string{"a"}, Dirty: []impl.Dirty{{At: 0, Data: "b"}}}},
		{"Dirty without data", impl.Flash{Sectors: []string{"a", "b"}, Dirty: []impl.Dirty{{At: 1}}}},
		{"Dirty of SectorSize bytes", impl.Flash{Sectors: []string{"", ""}, Dirty: []impl.Dirty{{At: 1, Data: pattern(impl.SectorSize)}}}},
		{"all sectors dirty, in reverse", impl.Flash{Sectors: []string{"a", "b", "c"}, Dirty: []impl.Dirty{{At: 2, Data: "x"}, {At: 1, Data: "y"}, {At: 0, Data: "z"}}}},
		{"MaxSectors empty sectors", impl.Flash{Sectors: make([]string, impl.MaxSectors)}},
		{"the last of MaxSectors dirty", impl.Flash{Sectors: make([]string, impl.MaxSectors), Dirty: []impl.Dirty{{At: impl.MaxSectors - 1, Data: "l"}}}},
		{"mixed", mixedFlash()},
		{"full", fullFlash()},
	}
}

func invalidFlashes() []namedFlash {
	long := pattern(impl.SectorSize + 1)
	l := []namedFlash{
		{"zero", impl.Flash{}},
		{"an empty slice of sectors", impl.Flash{Sectors: []string{}, Dirty: []impl.Dirty{}}},
		{"no sectors but Dirty", impl.Flash{Dirty: []impl.Dirty{{At: 0, Data: "a"}}}},
		{"MaxSectors + 1 sectors", impl.Flash{Sectors: make([]string, impl.MaxSectors+1)}},
		{"MaxSectors + 1 sectors, the last dirty", impl.Flash{Sectors: make([]string, impl.MaxSectors+1), Dirty: []impl.Dirty{{At: impl.MaxSectors, Data: "a"}}}},
		{"MaxList + 1 sectors", impl.Flash{Sectors: make([]string, impl.MaxList+1)}},
		{"MaxList + 1 Dirty", impl.Flash{Sectors: []string{"a"}, Dirty: make([]impl.Dirty, impl.MaxList+1)}},
		{"the only sector too long", impl.Flash{Sectors: []string{long}}},
		{"the first sector too long", impl.Flash{Sectors: []string{long, "b", "c"}}},
		{"the last sector too long", impl.Flash{Sectors: []string{"a", "b", long}}},
		{"a sector beyond MaxBytes", impl.Flash{Sectors: []string{"a", pattern(impl.MaxBytes + 1)}}},
		{"a sector too long but dirty", impl.Flash{Sectors: []string{"a", long}, Dirty: []impl.Dirty{{At: 1, Data: "x"}}}},
		{"the first data too long", impl.Flash{Sectors: []string{"a", "b"}, Dirty: []impl.Dirty{{At: 1, Data: long}, {At: 0, Data: "x"}}}},
		{"the last data too long", impl.Flash{Sectors: []string{"a", "b"}, Dirty: []impl.Dirty{{At: 1, Data: "x"}, {At: 0, Data: long}}}},
		{"data beyond MaxBytes", impl.Flash{Sectors: []string{"a"}, Dirty: []impl.Dirty{{At: 0, Data: pattern(impl.MaxBytes + 1)}}}},
		{"the same At in a row", impl.Flash{Sectors: []string{"a", "b", "c"}, Dirty: []impl.Dirty{{At: 1, Data: "x"}, {At: 1, Data: "y"}}}},
		{"the same At and data", impl.Flash{Sectors: []string{"a", "b", "c"}, Dirty: []impl.Dirty{{At: 1, Data: "x"}, {At: 1, Data: "x"}}}},
		{"the same At apart", impl.Flash{Sectors: []string{"a", "b", "c"}, Dirty: []impl.Dirty{{At: 2, Data: "x"}, {At: 0, Data: "y"}, {At: 2, Data: "z"}}}},
		{"the At 0 twice", impl.Flash{Sectors: []string{"a", "b"}, Dirty: []impl.Dirty{{At: 0}, {At: 0}}}},
		{"more Dirty than sectors", impl.Flash{Sectors: []string{"a", "b"}, Dirty: []impl.Dirty{{At: 0}, {At: 1}, {At: 0}}}},
	}
	for _, at := range []int64{-1, 3, 4, impl.MaxSectors, math.MinInt64, math.MaxInt64, 1 << 32} {
		sectors := []string{"a", "b", "c"}
		l = append(l,
			namedFlash{"the first At outside", impl.Flash{Sectors: sectors, Dirty: []impl.Dirty{{At: at, Data: "x"}, {At: 1, Data: "y"}}}},
			namedFlash{"the last At outside", impl.Flash{Sectors: sectors, Dirty: []impl.Dirty{{At: 1, Data: "y"}, {At: at, Data: "x"}}}})
	}
	return l
}

func TestFlashRight(t *testing.T) {
	for _, v := range validFlashes() {
		if !impl.FlashRight(v.flash) {
			t.Errorf("%s: not accepted", v.what)
		}
	}
	for _, v := range invalidFlashes() {
		if impl.FlashRight(v.flash) {
			t.Errorf("%s: accepted: %+v", v.what, v.flash)
		}
	}
}

func TestFlashRightFindsTheOneWrongElement(t *testing.T) {
	for i := range impl.MaxSectors {
		f := fullFlash()
		f.Sectors[i] += "x"
		g := fullFlash()
		g.Dirty[i].Data += "x"
		h := fullFlash()
		h.Dirty[i].At = h.Dirty[(i+7)%impl.MaxSectors].At
		k := fullFlash()
		k.Dirty[i].At = impl.MaxSectors
		if impl.FlashRight(f) || impl.FlashRight(g) || impl.FlashRight(h) || impl.FlashRight(k) {
			t.Errorf("element %d is not checked", i)
		}
	}
}

func TestFlashNew(t *testing.T) {
	for sectors := int64(1); sectors <= impl.MaxSectors; sectors++ {
		f := impl.FlashNew(sectors)
		flashIs(t, "new", f, impl.Flash{Sectors: make([]string, sectors)})
		if !impl.FlashRight(f) {
			t.Errorf("a new flash with %d sectors is invalid", sectors)
		}
	}
	for _, sectors := range []int64{0, -1, math.MinInt64, impl.MaxSectors + 1, impl.MaxList, impl.MaxList + 1, 1<<32 + 1, math.MaxInt64} {
		flashIs(t, "out of range", impl.FlashNew(sectors), impl.Flash{})
	}
	f := impl.FlashNew(2)
	f.Sectors[0] = "changed"
	flashIs(t, "new again", impl.FlashNew(2), impl.Flash{Sectors: []string{"", ""}})
}

func TestFlashExamples(t *testing.T) {
	f := impl.FlashWrite(impl.FlashNew(3), 1, "abcd").Flash
	f = impl.FlashWrite(f, 1, "xyz").Flash
	flashIs(t, "written twice", f, impl.Flash{Sectors: []string{"", "", ""}, Dirty: []impl.Dirty{{At: 1, Data: "xyz"}}})
	flashOutIs(t, "read", impl.FlashRead(f, 1), impl.FlashOut{Flash: f, Data: "xyz"})
	flashIs(t, "without fates", impl.FlashCrash(f, nil), impl.Flash{Sectors: []string{"", "", ""}})
	flashIs(t, "with the fate 1", impl.FlashCrash(f, []int64{1}), impl.Flash{Sectors: []string{"", "xyz", ""}})
	flashIs(t, "with the fate 4", impl.FlashCrash(f, []int64{4}), impl.Flash{Sectors: []string{"", "xy", ""}})
	if got := impl.Torn("old", "fresh", 5); got != "fre" {
		t.Errorf("Torn(old, fresh, 5) = %q", got)
	}
}

func TestFlashRead(t *testing.T) {
	f := mixedFlash()
	for at, want := range []string{"", "one", "TWO", "three", "FOUR4"} {
		flashOutIs(t, "read", impl.FlashRead(f, int64(at)), impl.FlashOut{Flash: mixedFlash(), Data: want})
	}
	full := fullFlash()
	for _, d := range full.Dirty {
		flashOutIs(t, "read of a full flash", impl.FlashRead(full, d.At), impl.FlashOut{Flash: fullFlash(), Data: d.Data})
	}
	for _, v := range validFlashes() {
		for _, at := range []int64{0, int64(len(v.flash.Sectors)) - 1} {
			out := impl.FlashRead(v.flash, at)
			if out.Code != impl.OK || !sameFlash(out.Flash, v.flash) {
				t.Errorf("%s: reading sector %d yields %+v", v.what, at, out)
			}
		}
	}
}

func TestFlashReadErrors(t *testing.T) {
	for _, v := range validFlashes() {
		for _, at := range []int64{-1, int64(len(v.flash.Sectors)), impl.MaxSectors, 1 << 32, math.MinInt64, math.MaxInt64} {
			flashFails(t, v.what, impl.FlashRead(v.flash, at), impl.ErrRange)
		}
	}
	for _, v := range invalidFlashes() {
		for _, at := range []int64{0, 1, -1, 3, math.MaxInt64} {
			flashFails(t, v.what, impl.FlashRead(v.flash, at), impl.ErrForm)
		}
	}
}

func TestFlashWriteAppendsOrReplaces(t *testing.T) {
	f := mixedFlash()
	appended := mixedFlash()
	appended.Dirty = append(appended.Dirty, impl.Dirty{At: 1, Data: "ONE"})
	flashOutIs(t, "a sector that is not dirty", impl.FlashWrite(f, 1, "ONE"), impl.FlashOut{Flash: appended})
	for i, d := range f.Dirty {
		replaced := mixedFlash()
		replaced.Dirty[i].Data = "again"
		flashOutIs(t, "a dirty sector", impl.FlashWrite(f, d.At, "again"), impl.FlashOut{Flash: replaced})
	}
	same := mixedFlash()
	same.Dirty = append(same.Dirty, impl.Dirty{At: 3, Data: "three"})
	flashOutIs(t, "the contents that are there", impl.FlashWrite(f, 3, "three"), impl.FlashOut{Flash: same})
	empty := mixedFlash()
	empty.Dirty = append(empty.Dirty, impl.Dirty{At: 3})
	flashOutIs(t, "empty data", impl.FlashWrite(f, 3, ""), impl.FlashOut{Flash: empty})
	flashIs(t, "the argument", f, mixedFlash())
}

func TestFlashWriteKeepsTheOrderOfFirstWrites(t *testing.T) {
	f := impl.FlashNew(impl.MaxSectors)
	want := impl.FlashNew(impl.MaxSectors)
	for i := range int64(impl.MaxSectors) {
		at := i * 7 % impl.MaxSectors
		f = impl.FlashWrite(f, at, pattern(int(i))).Flash
		want.Dirty = append(want.Dirty, impl.Dirty{At: at, Data: pattern(int(i))})
		flashIs(t, "first writes", f, want)
	}
	for i := range int64(impl.MaxSectors) {
		at := i * 11 % impl.MaxSectors
		f = impl.FlashWrite(f, at, "second").Flash
		want.Dirty[slices.IndexFunc(want.Dirty, func(d impl.Dirty) bool { return d.At == at })].Data = "second"
		flashIs(t, "second writes", f, want)
	}
}

func TestFlashWriteErrors(t *testing.T) {
	outside := []int64{-1, 5, impl.MaxSectors, 1 << 32, math.MinInt64, math.MaxInt64}
	for _, size := range []int{0, 1, impl.SectorSize} {
		for _, at := range outside {
			flashFails(t, "no such sector", impl.FlashWrite(mixedFlash(), at, pattern(size)), impl.ErrRange)
		}
		for _, v := range invalidFlashes() {
			flashFails(t, v.what, impl.FlashWrite(v.flash, 0, pattern(size)), impl.ErrForm)
			flashFails(t, v.what, impl.FlashWrite(v.flash, -1, pattern(size)), impl.ErrForm)
		}
	}
	for _, size := range []int{impl.SectorSize + 1, impl.MaxBytes - 1, impl.MaxBytes} {
		for _, at := range append(outside, 0, 1, 4) {
			flashFails(t, "data too long", impl.FlashWrite(mixedFlash(), at, pattern(size)), impl.ErrForm)
		}
		flashFails(t, "data too long for an invalid flash", impl.FlashWrite(impl.Flash{}, 0, pattern(size)), impl.ErrForm)
	}
	for _, at := range append(outside, 0, 1, 4) {
		flashFails(t, "data beyond MaxBytes", impl.FlashWrite(mixedFlash(), at, pattern(impl.MaxBytes+1)), impl.ErrSize)
		flashFails(t, "data beyond MaxBytes for an invalid flash", impl.FlashWrite(impl.Flash{}, at, pattern(impl.MaxBytes+1)), impl.ErrSize)
	}
}

func TestFlashWriteOfTheGreatestSize(t *testing.T) {
	data := pattern(impl.SectorSize)
	f := impl.FlashWrite(impl.FlashNew(impl.MaxSectors), impl.MaxSectors-1, data)
	flashOutIs(t, "read", impl.FlashRead(f.Flash, impl.MaxSectors-1), impl.FlashOut{Flash: f.Flash, Data: data})
	synced := impl.FlashSync(f.Flash).Flash
	if synced.Sectors[impl.MaxSectors-1] != data || f.Code != impl.OK {
		t.Errorf("the last sector is %q", synced.Sectors[impl.MaxSectors-1])
	}
}

func TestFlashSync(t *testing.T) {
	want := impl.Flash{Sectors: []string{"", "one", "TWO", "three", "FOUR4"}}
	flashOutIs(t, "mixed", impl.FlashSync(mixedFlash()), impl.FlashOut{Flash: want})
	flashOutIs(t, "synced twice", impl.FlashSync(want), impl.FlashOut{Flash: want})
	all := impl.Flash{Sectors: make([]string, impl.MaxSectors)}
	for _, d := range fullFlash().Dirty {
		all.Sectors[d.At] = d.Data
	}
	flashOutIs(t, "full", impl.FlashSync(fullFlash()), impl.FlashOut{Flash: all})
	for _, v := range invalidFlashes() {
		flashFails(t, v.what, impl.FlashSync(v.flash), impl.ErrForm)
	}
}

func TestTorn(t *testing.T) {
	for _, fate := range []int64{0, -1, -2, -3, math.MinInt64, math.MinInt64 + 1} {
		if got := impl.Torn("old", "fresh", fate); got != "old" {
			t.Errorf("the fate %d leaves %q", fate, got)
		}
	}
	known := map[int64]string{1: "fresh", 2: "", 3: "f", 4: "fr", 5: "fre", 6: "fres", 7: "fresh", 8: "fresh", 200: "fresh", 1 << 32: "fresh", 1<<32 + 3: "fresh", math.MaxInt64: "fresh"}
	for fate, want := range known {
		for _, old := range []string{"", "o", "fresh", "a longer one"} {
			if got := impl.Torn(old, "fresh", fate); got != want {
				t.Errorf("Torn(%q, fresh, %d) = %q, want %q", old, fate, got, want)
			}
		}
	}
	for _, fate := range []int64{1, 2, 3, math.MaxInt64} {
		if got := impl.Torn("old", "", fate); got != "" {
			t.Errorf("the fate %d of an empty write leaves %q", fate, got)
		}
	}
}

func TestTornSizeLimit(t *testing.T) {
	old := pattern(impl.MaxBytes)
	fresh := old[1:] + "x"
	known := map[int64]string{0: old, 1: fresh, 2: "", 98: fresh[:96], 99: fresh[:97], impl.MaxBytes + 1: fresh[:impl.MaxBytes-1], impl.MaxBytes + 2: fresh, math.MaxInt64: fresh}
	for fate, want := range known {
		if got := impl.Torn(old, fresh, fate); got != want {
			t.Errorf("the fate %d leaves %d bytes, want %d", fate, len(got), len(want))
		}
	}
	for _, fate := range []int64{math.MinInt64, 0, 1, 2, 3, 100, math.MaxInt64} {
		if a, b := impl.Torn(old+"x", "fresh", fate), impl.Torn("old", fresh+"x", fate); a != "" || b != "" {
			t.Errorf("the fate %d leaves %d bytes if old is too long, and %d if fresh is", fate, len(a), len(b))
		}
	}
}

func TestFlashCrashTakesFatesByDirtyElement(t *testing.T) {
	known := []struct {
		what  string
		fates []int64
		want  []string
	}{
		{"nil", nil, []string{"zero", "one", "", "three", "four"}},
		{"none", []int64{}, []string{"zero", "one", "", "three", "four"}},
		{"all lost", []int64{0, -1, math.MinInt64}, []string{"zero", "one", "", "three", "four"}},
		{"all kept", []int64{1, 1, 1}, []string{"", "one", "TWO", "three", "FOUR4"}},
		{"the first kept", []int64{1}, []string{"zero", "one", "", "three", "FOUR4"}},
		{"the second kept", []int64{0, 1}, []string{"", "one", "", "three", "four"}},
		{"the third kept", []int64{0, 0, 1}, []string{"zero", "one", "TWO", "three", "four"}},
		{"all torn at once", []int64{2, 2, 2}, []string{"", "one", "", "three", ""}},
		{"all torn later", []int64{6, 3, 4}, []string{"", "one", "TW", "three", "FOUR"}},
		{"torn behind the data", []int64{200, 1 << 32, math.MaxInt64}, []string{"", "one", "TWO", "three", "FOUR4"}},
		{"more fates than Dirty elements", []int64{0, 1, 3, 1, 1, 2, 2}, []string{"", "one", "T", "three", "four"}},
	}
	for _, k := range known {
		flashIs(t, k.what, impl.FlashCrash(mixedFlash(), k.fates), impl.Flash{Sectors: k.want})
	}
}

func TestFlashCrashOfAllSectors(t *testing.T) {
	f := fullFlash()
	fates := make([]int64, impl.MaxList)
	want := impl.FlashNew(impl.MaxSectors)
	for i := range fates {
		fates[i] = int64(i*5%120 - 2)
	}
	for i, d := range f.Dirty {
		want.Sectors[d.At] = impl.Torn(f.Sectors[d.At], d.Data, fates[i])
	}
	flashIs(t, "MaxList fates", impl.FlashCrash(f, fates), want)
	flashIs(t, "as many fates as Dirty elements", impl.FlashCrash(f, fates[:impl.MaxSectors]), want)
	flashIs(t, "nothing dirty", impl.FlashCrash(want, fates), want)
}

func TestFlashCrashSizeLimit(t *testing.T) {
	fates := make([]int64, impl.MaxList+1)
	for _, v := range append(validFlashes(), invalidFlashes()...) {
		flashIs(t, v.what, impl.FlashCrash(v.flash, fates), impl.Flash{})
	}
}

func TestFlashCrashReturnsAnInvalidFlashUnchanged(t *testing.T) {
	for _, v := range invalidFlashes() {
		before := copyFlash(v.flash)
		for _, fates := range [][]int64{nil, {1, 1, 1}, {2}, make([]int64, impl.MaxList)} {
			got := impl.FlashCrash(v.flash, fates)
			flashIs(t, v.what, got, before)
			overwriteFlash(got)
			flashIs(t, v.what+", after the result was overwritten", v.flash, before)
		}
	}
}

// overwriteFlash changes everything that f refers to, also behind the ends of its slices.
func overwriteFlash(f impl.Flash) {
	sectors := f.Sectors[:cap(f.Sectors)]
	for i := range sectors {
		sectors[i] = "overwritten"
	}
	dirty := f.Dirty[:cap(f.Dirty)]
	for i := range dirty {
		dirty[i] = impl.Dirty{At: 99, Data: "overwritten"}
	}
}

// withRoom has slices with room behind their ends, into which an append would write.
func withRoom(f impl.Flash) impl.Flash {
	return impl.Flash{
		Sectors: append(make([]string, 0, len(f.Sectors)+20), f.Sectors...),
		Dirty:   append(make([]impl.Dirty, 0, len(f.Dirty)+20), f.Dirty...),
	}
}

func TestFlashResultsShareNoMemory(t *testing.T) {
	calls := []func(f impl.Flash, at int64) impl.Flash{
		func(f impl.Flash, at int64) impl.Flash { return impl.FlashRead(f, at).Flash },
		func(f impl.Flash, at int64) impl.Flash { return impl.FlashWrite(f, at, "new").Flash },
		func(f impl.Flash, _ int64) impl.Flash { return impl.FlashSync(f).Flash },
		func(f impl.Flash, at int64) impl.Flash { return impl.FlashCrash(f, []int64{1, at, 3}) },
	}
	for _, v := range validFlashes() {
		for i, call := range calls {
			for at := range int64(len(v.flash.Sectors)) {
				f := withRoom(v.flash)
				first := call(f, at)
				kept := copyFlash(first)
				second := call(f, at)
				flashIs(t, v.what+", called again", second, kept)
				overwriteFlash(second)
				flashIs(t, v.what+", the argument", f, v.flash)
				flashIs(t, v.what+", the first result", first, kept)
				for _, d := range f.Dirty[len(f.Dirty):cap(f.Dirty)] {
					if d != (impl.Dirty{}) {
						t.Errorf("%s: call %d wrote behind the end of its argument", v.what, i)
					}
				}
			}
		}
	}
}

func TestTwoWritesToOneFlashAreIndependent(t *testing.T) {
	f := withRoom(mixedFlash())
	a := impl.FlashWrite(f, 1, "a").Flash
	b := impl.FlashWrite(f, 3, "b").Flash
	if impl.FlashRead(a, 1).Data != "a" || impl.FlashRead(a, 3).Data != "three" || impl.FlashRead(b, 1).Data != "one" || impl.FlashRead(b, 3).Data != "b" {
		t.Errorf("two writes to one flash yield %+v and %+v", a, b)
	}
}

func TestFatesAreNotChanged(t *testing.T) {
	fates := []int64{5, 0, 1, 7}
	impl.FlashCrash(mixedFlash(), fates)
	if !slices.Equal(fates, []int64{5, 0, 1, 7}) {
		t.Errorf("the fates became %v", fates)
	}
}

// remains reports whether a sector may have these contents after a power failure.
func remains(got string, old string, fresh string) bool {
	return got == old || strings.HasPrefix(fresh, got)
}

// numbers returns a repeatable sequence of numbers below the limit that each call gives. They come from the high bits, since the low ones soon repeat, and with them whatever depends only on them.
func numbers(seed uint32) func(limit int) int {
	x := seed
	return func(limit int) int {
		x = x*1664525 + 1013904223
		return int(uint64(x) * uint64(limit) >> 32)
	}
}

// flashModel is what a flash must contain, kept in the most direct way: for each sector what is durable, and what is read.
type flashModel struct {
	durable []string
	current []string
	order   []int64
}

func (m *flashModel) write(at int64, data string) {
	m.current[at] = data
	if !slices.Contains(m.order, at) {
		m.order = append(m.order, at)
	}
}

func (m *flashModel) sync() {
	m.durable = slices.Clone(m.current)
	m.order = nil
}

func (m *flashModel) check(t *testing.T, f impl.Flash) {
	t.Helper()
	if !impl.FlashRight(f) || !slices.Equal(f.Sectors, m.durable) || len(f.Dirty) != len(m.order) {
		t.Fatalf("got %+v, want %+v", f, m)
	}
	for i, at := range m.order {
		if f.Dirty[i].At != at {
			t.Fatalf("element %d of Dirty is sector %d, want %d", i, f.Dirty[i].At, at)
		}
	}
	for at, want := range m.current {
		flashOutIs(t, "read", impl.FlashRead(f, int64(at)), impl.FlashOut{Flash: f, Data: want})
	}
}

func (m *flashModel) checkCrash(t *testing.T, f impl.Flash, fates []int64) impl.Flash {
	t.Helper()
	got := impl.FlashCrash(f, fates)
	if len(got.Dirty) != 0 || len(got.Sectors) != len(m.durable) {
		t.Fatalf("after a power failure: %+v", got)
	}
	for at, s := range got.Sectors {
		i := slices.Index(m.order, int64(at))
		if i < 0 && s != m.durable[at] || !remains(s, m.durable[at], m.current[at]) {
			t.Fatalf("after a power failure with the fates %v sector %d is %q, durable %q, written %q", fates, at, s, m.durable[at], m.current[at])
		}
		if i >= 0 && i < len(fates) && fates[i] == 1 && s != m.current[at] || i >= len(fates) && s != m.durable[at] {
			t.Fatalf("after a power failure with the fates %v sector %d is %q", fates, at, s)
		}
	}
	return got
}

func TestWhatWasWrittenIsReadAndWhatWasSyncedSurvives(t *testing.T) {
	for seed := range uint32(60) {
		next := numbers(seed)
		count := []int{1, 2, 3, 7, impl.MaxSectors}[seed%5]
		f := impl.FlashNew(int64(count))
		m := flashModel{durable: make([]string, count), current: make([]string, count)}
		for range 80 {
			switch next(8) {
			case 0:
				f = impl.FlashSync(f).Flash
				m.sync()
			case 1:
				fates := make([]int64, next(len(m.order)+3))
				for i := range fates {
					fates[i] = int64(next(12) - 2)
				}
				f = m.checkCrash(t, f, fates)
				m.current = slices.Clone(f.Sectors)
				m.sync()
			default:
				at, data := int64(next(count)), pattern(next(impl.SectorSize+1))
				f = impl.FlashWrite(f, at, data).Flash
				m.write(at, data)
			}
			m.check(t, f)
		}
	}
}

func TestEveryFateLeavesOldFreshOrAPrefix(t *testing.T) {
	old, fresh := pattern(impl.SectorSize), pattern(impl.SectorSize-1)+"f"
	f := impl.FlashWrite(impl.Flash{Sectors: []string{"before", old, "behind"}}, 1, fresh).Flash
	left := map[string]bool{}
	for fate := int64(-2); fate <= impl.SectorSize+4; fate++ {
		got := impl.FlashCrash(f, []int64{fate})
		if got.Sectors[0] != "before" || got.Sectors[2] != "behind" || !remains(got.Sectors[1], old, fresh) || got.Sectors[1] != impl.Torn(old, fresh, fate) {
			t.Errorf("the fate %d leaves %q", fate, got.Sectors)
		}
		left[got.Sectors[1]] = true
	}
	if len(left) != impl.SectorSize+2 {
		t.Errorf("there are %d outcomes, want the old contents and every prefix", len(left))
	}
}

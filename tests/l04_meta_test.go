package tests

import (
	"math"
	"slices"
	"strings"
	"testing"

	"loop.example/g00668/impl"
)

// maxMeta is the number of bytes that the text of the metadata may have.
const maxMeta = 80

func metaIs(t *testing.T, what string, got impl.MetaOut, want impl.MetaOut) {
	t.Helper()
	if got != want {
		t.Errorf("%s: got %+v, want %+v", what, got, want)
	}
}

func metaFails(t *testing.T, what string, got impl.MetaOut, code int64) {
	t.Helper()
	metaIs(t, what, got, impl.MetaOut{Code: code})
}

func actsAre(t *testing.T, what string, got []impl.Act, want ...impl.Act) {
	t.Helper()
	if !slices.Equal(got, want) {
		t.Errorf("%s: got %+v, want %+v", what, got, want)
	}
}

// kept returns f after its metadata was replaced.
func kept(t *testing.T, f impl.Flash, text string) impl.Flash {
	t.Helper()
	l := impl.MetaActs(f, text)
	out := impl.ActsDo(f, l)
	if len(l) != 2 || out.Code != impl.OK {
		t.Fatalf("keeping %q: acts %+v, code %d", text, l, out.Code)
	}
	return out.Flash
}

// metaFlash has these contents in the sectors 0 and 1.
func metaFlash(first string, second string) impl.Flash {
	return impl.Flash{Sectors: []string{first, second, "other"}}
}

func metaEdgeGens() []int64 {
	return []int64{1, 2, 63, 64, 8191, 8192, impl.MaxTime - 1, impl.MaxTime}
}

func gensOutside() []int64 {
	return []int64{0, -1, -2, impl.MaxTime + 1, 1 << 32, 1<<32 + 1, math.MinInt64, math.MaxInt64}
}

func metaEdgeTexts() []string {
	return []string{"", "a", "\x00", pattern(63), pattern(64), pattern(maxMeta - 1), pattern(maxMeta), strings.Repeat("\xff", maxMeta)}
}

func textsOutside() []string {
	return []string{pattern(maxMeta + 1), pattern(impl.SectorSize), pattern(impl.MaxBytes), pattern(impl.MaxBytes + 1)}
}

func TestMetaBytes(t *testing.T) {
	if got, want := impl.MetaBytes(1, "one"), impl.Seal("\x02\x06one"); got != want {
		t.Errorf("MetaBytes(1, one) = %q, want %q", got, want)
	}
	for _, gen := range metaEdgeGens() {
		for _, text := range metaEdgeTexts() {
			got := impl.MetaBytes(gen, text)
			if want := impl.Seal(impl.PutNum(gen) + impl.PutText(text)); got != want || len(got) > impl.SectorSize {
				t.Errorf("MetaBytes(%d, %q) = %q, want %q", gen, text, got, want)
			}
			metaIs(t, "decoded", impl.MetaRead(got), impl.MetaOut{Gen: gen, Text: text})
		}
	}
}

func TestMetaBytesOfInvalidArguments(t *testing.T) {
	for _, gen := range gensOutside() {
		for _, text := range append(metaEdgeTexts(), textsOutside()...) {
			if got := impl.MetaBytes(gen, text); got != "" {
				t.Errorf("the gen %d with %d bytes yields %q", gen, len(text), got)
			}
		}
	}
	for _, gen := range metaEdgeGens() {
		for _, text := range textsOutside() {
			if got := impl.MetaBytes(gen, text); got != "" {
				t.Errorf("the gen %d with %d bytes yields %q", gen, len(text), got)
			}
		}
	}
}

func TestMetaReadOfContentsThatAreNotSealed(t *testing.T) {
	for _, sector := range []string{"", "a", "abc", "\x00\x00\x00"} {
		metaFails(t, sector, impl.MetaRead(sector), impl.ErrShort)
	}
	for _, sector := range []string{"abcd", "\x00\x00\x00\x01", "\xff\xff\xff\xff", pattern(impl.SectorSize), pattern(impl.MaxBytes)} {
		metaFails(t, sector, impl.MetaRead(sector), impl.ErrSum)
	}
	metaFails(t, "beyond MaxBytes", impl.MetaRead(pattern(impl.MaxBytes+1)), impl.ErrSize)
	good := impl.MetaBytes(300, "text")
	for i := range len(good) {
		for bit := range 8 {
			changed := []byte(good)
			changed[i] ^= 1 << bit
			metaFails(t, "a changed bit", impl.MetaRead(string(changed)), impl.ErrSum)
		}
	}
}

func TestMetaReadOfOtherContents(t *testing.T) {
	one := impl.PutNum(1)
	known := []struct {
		what string
		body string
	}{
		{"nothing", ""},
		{"only a gen", one},
		{"a truncated gen", "\x80"},
		{"a gen longer than necessary", "\x82\x00" + impl.PutText("a")},
		{"a gen of more than ten bytes", strings.Repeat("\xff", 11) + impl.PutText("a")},
		{"a truncated length", one + "\x80"},
		{"a length longer than necessary", one + "\x82\x00a"},
		{"a negative length", one + impl.PutNum(-1)},
		{"a negative length of -2", one + impl.PutNum(-2) + "ab"},
		{"a truncated text", one + "\x06on"},
		{"a byte behind the text", one + impl.PutText("one") + "x"},
		{"a zero byte behind the text", one + impl.PutText("one") + "\x00"},
		{"a byte behind an empty text", one + impl.PutText("") + "x"},
		{"another text behind the text", one + impl.PutText("one") + impl.PutText("two")},
		{"a seal inside the seal", impl.Seal(one + impl.PutText("one"))},
		{"81 bytes", one + impl.PutText(pattern(maxMeta+1))},
		{"as many bytes as fit into a seal", one + impl.PutText(pattern(impl.MaxBytes-8))},
		{"a length beyond MaxBytes", one + impl.PutNum(impl.MaxBytes+1) + "a"},
		{"a length of the greatest integer", one + impl.PutNum(math.MaxInt64)},
	}
	for _, k := range known {
		sealed := impl.Seal(k.body)
		if sealed == "" {
			t.Fatalf("%s: not sealed", k.what)
		}
		metaFails(t, k.what, impl.MetaRead(sealed), impl.ErrSyntax)
	}
	for _, gen := range gensOutside() {
		for _, text := range metaEdgeTexts() {
			metaFails(t, "a gen outside", impl.MetaRead(impl.Seal(impl.PutNum(gen)+impl.PutText(text))), impl.ErrSyntax)
		}
	}
}

func TestNoPrefixOfACopyIsOne(t *testing.T) {
	for _, gen := range metaEdgeGens() {
		for _, text := range metaEdgeTexts() {
			sector := impl.MetaBytes(gen, text)
			for end := range len(sector) {
				out := impl.MetaRead(sector[:end])
				want := int64(impl.ErrSum)
				if end < 4 {
					want = impl.ErrShort
				}
				metaFails(t, "a prefix", out, want)
			}
		}
	}
}

func TestMetaExamples(t *testing.T) {
	f := impl.FlashNew(3)
	metaFails(t, "an empty flash", impl.MetaGet(f), impl.ErrNone)
	one := kept(t, f, "one")
	metaIs(t, "one", impl.MetaGet(one), impl.MetaOut{Gen: 1, Text: "one"})
	two := kept(t, one, "two")
	metaIs(t, "two", impl.MetaGet(two), impl.MetaOut{Gen: 2, Text: "two"})
	flashIs(t, "two", two, impl.Flash{Sectors: []string{impl.MetaBytes(1, "one"), impl.MetaBytes(2, "two"), ""}})
	three := kept(t, two, "three")
	metaIs(t, "three", impl.MetaGet(three), impl.MetaOut{Gen: 3, Text: "three"})
	flashIs(t, "three", three, impl.Flash{Sectors: []string{impl.MetaBytes(3, "three"), impl.MetaBytes(2, "two"), ""}})
	torn := impl.FlashCrash(impl.ActsDo(one, impl.MetaActs(one, "two")[:1]).Flash, []int64{5})
	metaIs(t, "torn", impl.MetaGet(torn), impl.MetaOut{Gen: 1, Text: "one"})
	metaFails(t, "abc", impl.MetaRead("abc"), impl.ErrShort)
}

func TestMetaGetPrefersTheGreaterGen(t *testing.T) {
	gens := metaEdgeGens()
	for _, a := range gens {
		for _, b := range gens {
			want := impl.MetaOut{Gen: a, Text: "first"}
			if b > a {
				want = impl.MetaOut{Gen: b, Text: "second"}
			}
			metaIs(t, "two copies", impl.MetaGet(metaFlash(impl.MetaBytes(a, "first"), impl.MetaBytes(b, "second"))), want)
		}
	}
}

func notCopies() []string {
	good := impl.MetaBytes(7, "good")
	return []string{
		"", "abc", "abcd", good[:len(good)-1], good + "x", good[1:], pattern(impl.SectorSize),
		impl.Seal(""), impl.Seal("good"), impl.Seal(impl.PutNum(0) + impl.PutText("good")),
		impl.Seal(impl.PutNum(impl.MaxTime+1) + impl.PutText("good")),
		impl.Seal(impl.PutNum(7) + impl.PutText(pattern(maxMeta+1))),
		impl.Seal(impl.PutNum(7) + impl.PutText("good") + "x"),
	}
}

func TestMetaGetWithOneOrNoCopy(t *testing.T) {
	for _, bad := range notCopies() {
		for _, gen := range metaEdgeGens() {
			want := impl.MetaOut{Gen: gen, Text: "good"}
			good := impl.MetaBytes(gen, "good")
			metaIs(t, "only the first", impl.MetaGet(metaFlash(good, bad)), want)
			metaIs(t, "only the second", impl.MetaGet(metaFlash(bad, good)), want)
			f := metaFlash(bad, "")
			f.Sectors[2] = good
			metaFails(t, "only the third", impl.MetaGet(f), impl.ErrNone)
		}
		for _, worse := range notCopies() {
			metaFails(t, "neither", impl.MetaGet(metaFlash(bad, worse)), impl.ErrNone)
		}
	}
}

func TestMetaGetReadsUnsyncedSectors(t *testing.T) {
	f := metaFlash(impl.MetaBytes(5, "five"), impl.MetaBytes(6, "six"))
	written := impl.FlashWrite(f, 0, impl.MetaBytes(9, "nine")).Flash
	metaIs(t, "a newer copy", impl.MetaGet(written), impl.MetaOut{Gen: 9, Text: "nine"})
	written = impl.FlashWrite(f, 1, impl.MetaBytes(4, "four")).Flash
	metaIs(t, "an older copy", impl.MetaGet(written), impl.MetaOut{Gen: 5, Text: "five"})
	written = impl.FlashWrite(f, 1, "").Flash
	metaIs(t, "an emptied sector", impl.MetaGet(written), impl.MetaOut{Gen: 5, Text: "five"})
	written = impl.FlashWrite(written, 0, "x").Flash
	metaFails(t, "two overwritten sectors", impl.MetaGet(written), impl.ErrNone)
	actsAre(t, "two overwritten sectors", impl.MetaActs(written, "new"), impl.Act{At: 0, Data: impl.MetaBytes(1, "new")}, impl.Act{Sync: true})
	written = impl.FlashWrite(f, 2, impl.MetaBytes(9, "nine")).Flash
	metaIs(t, "another sector", impl.MetaGet(written), impl.MetaOut{Gen: 6, Text: "six"})
}

func TestMetaOfUnfitFlashes(t *testing.T) {
	good := impl.MetaBytes(3, "good")
	unfit := invalidFlashes()
	unfit = append(unfit,
		namedFlash{"one empty sector", impl.FlashNew(1)},
		namedFlash{"one sector with a copy", impl.Flash{Sectors: []string{good}}},
		namedFlash{"one dirty sector with a copy", impl.Flash{Sectors: []string{""}, Dirty: []impl.Dirty{{At: 0, Data: good}}}},
		namedFlash{"two copies and a sector that is too long", impl.Flash{Sectors: []string{good, good, pattern(impl.SectorSize + 1)}}},
		namedFlash{"two copies and a wrong Dirty", impl.Flash{Sectors: []string{good, good}, Dirty: []impl.Dirty{{At: 2}}}})
	for _, v := range unfit {
		metaFails(t, v.what, impl.MetaGet(v.flash), impl.ErrForm)
		for _, text := range append(metaEdgeTexts(), textsOutside()...) {
			actsAre(t, v.what, impl.MetaActs(v.flash, text))
		}
	}
}

func TestMetaActs(t *testing.T) {
	sync := impl.Act{Sync: true}
	for _, text := range metaEdgeTexts() {
		for _, sectors := range []int64{2, 3, impl.MaxSectors} {
			actsAre(t, "an empty flash", impl.MetaActs(impl.FlashNew(sectors), text), impl.Act{At: 0, Data: impl.MetaBytes(1, text)}, sync)
		}
		for _, bad := range notCopies() {
			actsAre(t, "neither copy", impl.MetaActs(metaFlash(bad, bad), text), impl.Act{At: 0, Data: impl.MetaBytes(1, text)}, sync)
			for _, gen := range []int64{1, 63, 500, impl.MaxTime - 1} {
				good := impl.MetaBytes(gen, "good")
				data := impl.MetaBytes(gen+1, text)
				actsAre(t, "only the first", impl.MetaActs(metaFlash(good, bad), text), impl.Act{At: 1, Data: data}, sync)
				actsAre(t, "only the second", impl.MetaActs(metaFlash(bad, good), text), impl.Act{At: 0, Data: data}, sync)
			}
		}
		four, five := impl.MetaBytes(4, "four"), impl.MetaBytes(5, "five")
		actsAre(t, "the first is newer", impl.MetaActs(metaFlash(five, four), text), impl.Act{At: 1, Data: impl.MetaBytes(6, text)}, sync)
		actsAre(t, "the second is newer", impl.MetaActs(metaFlash(four, five), text), impl.Act{At: 0, Data: impl.MetaBytes(6, text)}, sync)
		actsAre(t, "equal", impl.MetaActs(metaFlash(four, impl.MetaBytes(4, "other")), text), impl.Act{At: 1, Data: impl.MetaBytes(5, text)}, sync)
		dirty := impl.FlashWrite(metaFlash(four, ""), 1, five).Flash
		actsAre(t, "the second is newer and unsynced", impl.MetaActs(dirty, text), impl.Act{At: 0, Data: impl.MetaBytes(6, text)}, sync)
	}
}

func TestMetaActsBeyondTheLimits(t *testing.T) {
	last, before := impl.MetaBytes(impl.MaxTime, "last"), impl.MetaBytes(impl.MaxTime-1, "before")
	for _, f := range []impl.Flash{metaFlash(last, ""), metaFlash("", last), metaFlash(last, before), metaFlash(before, last), metaFlash(last, last)} {
		metaIs(t, "the last gen", impl.MetaGet(f), impl.MetaOut{Gen: impl.MaxTime, Text: "last"})
		for _, text := range append(metaEdgeTexts(), textsOutside()...) {
			actsAre(t, "the last gen", impl.MetaActs(f, text))
		}
	}
	for _, text := range textsOutside() {
		actsAre(t, "a text that is too long", impl.MetaActs(impl.FlashNew(2), text))
		actsAre(t, "a text that is too long", impl.MetaActs(metaFlash(before, ""), text))
	}
	f := kept(t, metaFlash(before, ""), "last")
	metaIs(t, "the last gen", impl.MetaGet(f), impl.MetaOut{Gen: impl.MaxTime, Text: "last"})
}

func TestActsDo(t *testing.T) {
	l := []impl.Act{{At: 1, Data: "a"}, {Sync: true}, {At: 4, Data: ""}, {At: 1, Data: "b"}, {At: 4, Data: "c"}}
	want := impl.Flash{
		Sectors: []string{"", "a", "TWO", "three", "FOUR4"},
		Dirty:   []impl.Dirty{{At: 4, Data: "c"}, {At: 1, Data: "b"}},
	}
	flashOutIs(t, "writes and a sync", impl.ActsDo(mixedFlash(), l), impl.FlashOut{Flash: want})
	for _, v := range validFlashes() {
		flashOutIs(t, v.what, impl.ActsDo(v.flash, nil), impl.FlashOut{Flash: v.flash})
		flashOutIs(t, v.what, impl.ActsDo(v.flash, []impl.Act{}), impl.FlashOut{Flash: v.flash})
		flashOutIs(t, v.what, impl.ActsDo(v.flash, []impl.Act{{Sync: true}}), impl.FlashSync(v.flash))
		at := int64(len(v.flash.Sectors)) - 1
		data := pattern(impl.SectorSize)
		flashOutIs(t, v.what, impl.ActsDo(v.flash, []impl.Act{{At: at, Data: data}}), impl.FlashWrite(v.flash, at, data))
		flashOutIs(t, v.what, impl.ActsDo(v.flash, []impl.Act{{}}), impl.FlashWrite(v.flash, 0, ""))
	}
}

func TestActsDoLikeSingleWritesAndSyncs(t *testing.T) {
	for seed := range uint32(40) {
		next := numbers(seed)
		count := []int{1, 2, 5, impl.MaxSectors}[seed%4]
		f := impl.FlashNew(int64(count))
		want := f
		var l []impl.Act
		for range next(60) {
			a := impl.Act{At: int64(next(count)), Data: pattern(next(impl.SectorSize + 1))}
			if next(5) == 0 {
				a = impl.Act{Sync: true}
				want = impl.FlashSync(want).Flash
			} else {
				want = impl.FlashWrite(want, a.At, a.Data).Flash
			}
			l = append(l, a)
		}
		flashOutIs(t, "random acts", impl.ActsDo(f, l), impl.FlashOut{Flash: want})
	}
}

func TestActsDoErrors(t *testing.T) {
	good := impl.Act{At: 1, Data: "a"}
	sync := impl.Act{Sync: true}
	outside := impl.Act{At: 5}
	long := impl.Act{At: 1, Data: pattern(impl.SectorSize + 1)}
	huge := impl.Act{At: 1, Data: pattern(impl.MaxBytes + 1)}
	known := []struct {
		what string
		acts []impl.Act
		code int64
	}{
		{"a sync with an At", []impl.Act{{Sync: true, At: 1}}, impl.ErrForm},
		{"a sync with a negative At", []impl.Act{{Sync: true, At: -1}}, impl.ErrForm},
		{"a sync with an At outside", []impl.Act{{Sync: true, At: 5}}, impl.ErrForm},
		{"a sync with Data", []impl.Act{{Sync: true, Data: "a"}}, impl.ErrForm},
		{"a sync with huge Data", []impl.Act{{Sync: true, Data: huge.Data}}, impl.ErrForm},
		{"a sync with both", []impl.Act{{Sync: true, At: 2, Data: "a"}}, impl.ErrForm},
		{"a wrong sync at the end", []impl.Act{good, sync, {Sync: true, At: 1}}, impl.ErrForm},
		{"a wrong sync behind ErrRange", []impl.Act{outside, {Sync: true, At: 1}}, impl.ErrForm},
		{"a wrong sync behind ErrSize", []impl.Act{huge, {Sync: true, Data: "a"}}, impl.ErrForm},
		{"no such sector", []impl.Act{outside}, impl.ErrRange},
		{"a negative sector", []impl.Act{{At: -1, Data: "a"}}, impl.ErrRange},
		{"a sector beyond 32 bits", []impl.Act{{At: 1 << 32, Data: "a"}}, impl.ErrRange},
		{"data too long", []impl.Act{long}, impl.ErrForm},
		{"data of MaxBytes", []impl.Act{{At: 1, Data: huge.Data[1:]}}, impl.ErrForm},
		{"data beyond MaxBytes", []impl.Act{huge}, impl.ErrSize},
		{"data too long and no such sector", []impl.Act{{At: 5, Data: long.Data}}, impl.ErrForm},
		{"data beyond MaxBytes and no such sector", []impl.Act{{At: 5, Data: huge.Data}}, impl.ErrSize},
		{"ErrRange at the end", []impl.Act{good, sync, good, outside}, impl.ErrRange},
		{"ErrRange before ErrForm", []impl.Act{good, outside, long, huge, sync}, impl.ErrRange},
		{"ErrForm before ErrRange", []impl.Act{sync, long, outside, huge, good}, impl.ErrForm},
		{"ErrSize before ErrRange", []impl.Act{good, huge, outside, long}, impl.ErrSize},
	}
	for _, k := range known {
		flashFails(t, k.what, impl.ActsDo(mixedFlash(), k.acts), k.code)
		for _, v := range invalidFlashes() {
			flashFails(t, k.what+", "+v.what, impl.ActsDo(v.flash, k.acts), impl.ErrForm)
		}
	}
	for _, v := range invalidFlashes() {
		flashFails(t, v.what, impl.ActsDo(v.flash, nil), impl.ErrForm)
		flashFails(t, v.what, impl.ActsDo(v.flash, []impl.Act{sync}), impl.ErrForm)
	}
}

func TestActsDoSizeLimit(t *testing.T) {
	l := make([]impl.Act, impl.MaxList+1)
	for i := range l {
		l[i] = impl.Act{At: int64(i % 5), Data: pattern(i % 97)}
	}
	want := mixedFlash()
	for _, a := range l[:impl.MaxList] {
		want = impl.FlashWrite(want, a.At, a.Data).Flash
	}
	flashOutIs(t, "MaxList acts", impl.ActsDo(mixedFlash(), l[:impl.MaxList]), impl.FlashOut{Flash: want})
	flashFails(t, "MaxList + 1 acts", impl.ActsDo(mixedFlash(), l), impl.ErrSize)
	for _, wrong := range []impl.Act{{At: 9}, {Sync: true, At: 1}, {Data: pattern(impl.SectorSize + 1)}} {
		l[0] = wrong
		flashFails(t, "MaxList + 1 acts with an error", impl.ActsDo(mixedFlash(), l), impl.ErrSize)
	}
	for _, v := range invalidFlashes() {
		flashFails(t, v.what, impl.ActsDo(v.flash, l), impl.ErrSize)
	}
}

func TestMetaResultsShareNoMemory(t *testing.T) {
	calls := []func(f impl.Flash) impl.Flash{
		func(f impl.Flash) impl.Flash { return impl.ActsDo(f, nil).Flash },
		func(f impl.Flash) impl.Flash { return impl.ActsDo(f, []impl.Act{{Sync: true}}).Flash },
		func(f impl.Flash) impl.Flash { return impl.ActsDo(f, []impl.Act{{Data: "x"}, {Data: "y"}}).Flash },
		func(f impl.Flash) impl.Flash {
			return impl.ActsDo(f, []impl.Act{{Data: "x"}, {Sync: true}, {Data: "y"}}).Flash
		},
		func(f impl.Flash) impl.Flash {
			impl.MetaGet(f)
			impl.MetaActs(f, "text")
			return impl.ActsDo(f, impl.MetaActs(f, "text")).Flash
		},
	}
	for _, v := range validFlashes() {
		for _, call := range calls {
			f := withRoom(v.flash)
			first := call(f)
			before := copyFlash(first)
			second := call(f)
			flashIs(t, v.what+", called again", second, before)
			overwriteFlash(second)
			flashIs(t, v.what+", the argument", f, v.flash)
			flashIs(t, v.what+", the first result", first, before)
			for _, d := range f.Dirty[len(f.Dirty):cap(f.Dirty)] {
				if d != (impl.Dirty{}) {
					t.Errorf("%s: written behind the end of the argument", v.what)
				}
			}
		}
	}
}

func TestActsAreNewAndNotChanged(t *testing.T) {
	f := metaFlash("", "")
	first := impl.MetaActs(f, "text")
	second := impl.MetaActs(f, "text")
	second[0], second[1] = impl.Act{At: 9}, impl.Act{At: 9}
	actsAre(t, "the first result", first, impl.Act{At: 0, Data: impl.MetaBytes(1, "text")}, impl.Act{Sync: true})
	before := slices.Clone(first)
	impl.ActsDo(f, first)
	actsAre(t, "the argument", first, before...)
}

// fatesOf returns every different fate of one write.
func fatesOf(data string) []int64 {
	l := []int64{math.MinInt64, -1, math.MaxInt64}
	for fate := range int64(len(data) + 4) {
		l = append(l, fate)
	}
	return l
}

// survives checks that at whatever act and with whatever fate the power fails while text is kept, f has this text or its predecessor, and can keep others.
func survives(t *testing.T, f impl.Flash, text string) {
	t.Helper()
	old := impl.MetaGet(f)
	fresh := impl.MetaOut{Gen: old.Gen + 1, Text: text}
	l := impl.MetaActs(f, text)
	for done := range len(l) + 1 {
		cut := impl.ActsDo(f, l[:done]).Flash
		for _, fate := range fatesOf(l[0].Data) {
			left := impl.FlashCrash(cut, []int64{fate})
			want := old
			if done == 2 || done == 1 && impl.Torn("", l[0].Data, fate) == l[0].Data {
				want = fresh
			}
			metaIs(t, "after a power failure", impl.MetaGet(left), want)
			again := kept(t, left, "again")
			metaIs(t, "after another text", impl.MetaGet(again), impl.MetaOut{Gen: want.Gen + 1, Text: "again"})
		}
	}
}

func TestMetadataSurvivesEveryPowerFailure(t *testing.T) {
	for _, sectors := range []int64{2, 3, impl.MaxSectors} {
		f := impl.FlashNew(sectors)
		for i, text := range append(metaEdgeTexts(), "same", "same", "") {
			survives(t, f, text)
			f = kept(t, f, text)
			metaIs(t, "kept", impl.MetaGet(f), impl.MetaOut{Gen: int64(i) + 1, Text: text})
		}
	}
	for _, gen := range []int64{62, 63, 8190, 8191, impl.MaxTime - 2} {
		survives(t, metaFlash(impl.MetaBytes(gen, "newer"), impl.MetaBytes(gen-1, "older")), "text")
		survives(t, metaFlash(impl.MetaBytes(gen-1, "older"), impl.MetaBytes(gen, "newer")), "text")
		survives(t, metaFlash(impl.MetaBytes(gen, "newer"), "damaged"), "text")
		survives(t, metaFlash("damaged", impl.MetaBytes(gen, "newer")), pattern(maxMeta))
	}
}

func TestMetadataSurvivesManyPowerFailures(t *testing.T) {
	for seed := range uint32(60) {
		next := numbers(seed)
		f := impl.FlashNew(int64(2 + next(4)))
		old := impl.MetaGet(f)
		for range 60 {
			text := pattern(next(maxMeta + 1))
			l := impl.MetaActs(f, text)
			done := next(len(l) + 1)
			out := impl.ActsDo(f, l[:done])
			f = impl.FlashCrash(out.Flash, []int64{int64(next(len(l[0].Data)+6) - 2)})
			fresh := impl.MetaOut{Gen: old.Gen + 1, Text: text}
			got := impl.MetaGet(f)
			if got != old && got != fresh || done == len(l) && got != fresh || done == 0 && got != old {
				t.Fatalf("after %d acts: got %+v, want %+v or %+v", done, got, old, fresh)
			}
			old = got
		}
	}
}

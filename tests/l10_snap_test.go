package tests

import (
	"math"
	"slices"
	"testing"

	"loop.example/g00668/impl"
)

func readIs(t *testing.T, what string, base []string, l []impl.Step, block int64, want string) {
	t.Helper()
	if got := impl.SnapRead(base, l, block); got != (impl.TextOut{Text: want}) {
		t.Errorf("%s: SnapRead(%.40q, %s, %d) = %s, want %q", what, base, shown(l), block, shown(got), want)
	}
}

func snapReadFails(t *testing.T, what string, base []string, l []impl.Step, block int64, code int64) {
	t.Helper()
	if got := impl.SnapRead(base, l, block); got != (impl.TextOut{Code: code}) {
		t.Errorf("%s: SnapRead of %d blocks and %d steps, block %d: got %s, want the code %d", what, len(base), len(l), block, shown(got), code)
	}
}

func touchesIs(t *testing.T, what string, l []impl.Step, block int64, want int64) {
	t.Helper()
	if got := impl.Touches(l, block); got != want {
		t.Errorf("%s: Touches(%s, %d) = %d, want %d", what, shown(l), block, got, want)
	}
}

// blocksOutside has one beyond each end of the image, and what the lower bits of a number could be mistaken for.
func blocksOutside(blocks int) []int64 {
	end := int64(blocks)
	return append([]int64{-1, -2, -end, end, end + 1, 1 << 8, 1 << 31, 1 << 32, 1<<32 + 1, -1 << 32, math.MaxInt64 - 1, math.MaxInt64, math.MinInt64, math.MinInt64 + 1}, upTo(impl.MaxBlocks, impl.MaxBlocks+3)...)
}

// snapIs reads every block of the updated image, and the image as a whole.
func snapIs(t *testing.T, what string, base []string, l []impl.Step, want []string) {
	t.Helper()
	image, steps := withRoomBehind(base), withRoomBehind(l)
	for block, b := range want {
		readIs(t, what, image, steps, int64(block), b)
	}
	imageOutIs(t, what, impl.SnapAll(image, steps), want)
	onlyHas(t, what+", the base", image, base)
	onlyHas(t, what+", the steps", steps, l)
}

// snapFollows expects a valid list, and compares what is read before the merge with the updated image.
func snapFollows(t *testing.T, what string, base []string, l []impl.Step) {
	t.Helper()
	applied := impl.ImageApply(base, l)
	imageOutIs(t, what+", applied", applied, imageMade(base, l))
	snapIs(t, what, base, l, applied.Image)
	for _, block := range blocksOutside(len(base)) {
		snapReadFails(t, what, base, l, block, impl.ErrRange)
	}
	for block, b := range base {
		at := impl.Touches(l, int64(block))
		if at != touchesExpected(l, int64(block)) {
			t.Errorf("%s: Touches(%s, %d) = %d", what, shown(l), block, at)
		} else if at >= 0 {
			b = impl.MadeBy(base, l[at])
		}
		textIs(t, what+", by the step that touches it", applied.Image[block], b)
	}
}

// snapFails expects that the code does not depend on the block.
func snapFails(t *testing.T, what string, base []string, l []impl.Step, code int64) {
	t.Helper()
	imageFails(t, what, impl.SnapAll(base, l), code)
	for _, block := range append(blocksOutside(len(base)), 0, 1) {
		snapReadFails(t, what, base, l, block, code)
	}
}

// touchesExpected goes backwards, where the program goes forwards.
func touchesExpected(l []impl.Step, block int64) int64 {
	found := -1
	for i := len(l) - 1; i >= 0 && len(l) <= 20; i-- {
		if l[i].Kind != 5 && l[i].To == block {
			found = i
		}
	}
	return int64(found)
}

func TestSnapExample(t *testing.T) {
	base := letterImage("ab")
	l := []impl.Step{label(1), copying(1, 0)}
	touchesIs(t, "block 1", l, 1, 1)
	touchesIs(t, "block 0", l, 0, -1)
	readIs(t, "block 0", base, l, 0, "aaaaaaaa")
	readIs(t, "block 1", base, l, 1, "aaaaaaaa")
	snapIs(t, "both blocks", base, l, letterImage("aa"))
}

func TestSnapOfEveryKindOfStep(t *testing.T) {
	base := []string{"abcdefgh", data8, zeros8, "ABCDEFGH", "zzzzzzzz"}
	known := []struct {
		what  string
		steps []impl.Step
		block int64
		want  string
	}{
		{"a zero step", []impl.Step{zeroing(1)}, 1, zeros8},
		{"a zero step of the zero block", []impl.Step{zeroing(0)}, 0, zeros8},
		{"a zero step of zero bytes", []impl.Step{zeroing(2)}, 2, zeros8},
		{"a put", []impl.Step{putting(4, "put     ")}, 4, "put     "},
		{"a put of zero bytes", []impl.Step{putting(0, zeros8)}, 0, zeros8},
		{"a copy", []impl.Step{copying(0, 3)}, 0, "ABCDEFGH"},
		{"a copy of the same block", []impl.Step{copying(1, 1)}, 1, data8},
		{"a copy of zero bytes", []impl.Step{copying(4, 2)}, 4, zeros8},
		{"an xor", []impl.Step{xoring(2, 0, "        ")}, 2, "ABCDEFGH"},
		{"an xor of the same block", []impl.Step{xoring(1, 1, data8)}, 1, zeros8},
		{"an xor of zero bytes", []impl.Step{xoring(0, 2, "xor     ")}, 0, "xor     "},
		{"an xor with zero bytes", []impl.Step{xoring(3, 0, zeros8)}, 3, "abcdefgh"},
	}
	for _, k := range known {
		want := slices.Clone(base)
		want[k.block] = k.want
		snapIs(t, k.what, base, k.steps, want)
		snapIs(t, k.what+", with labels around it", base, slices.Concat(labels(0, 3), k.steps, labels(4, impl.MaxTime)), want)
	}
	l := []impl.Step{label(1), putting(2, "put     "), label(2), label(5), copying(0, 3), xoring(3, 0, "        "), label(7), zeroing(1), label(impl.MaxTime)}
	want := []string{"ABCDEFGH", zeros8, "put     ", "ABCDEFGH", "zzzzzzzz"}
	snapIs(t, "all kinds", base, l, want)
	slices.Reverse(l)
	snapIs(t, "all writes in the opposite order", base, impl.Writes(l), want)
}

func TestSnapWithoutWrites(t *testing.T) {
	for _, v := range validImages() {
		for _, l := range [][]impl.Step{nil, {}, labels(0), labels(impl.MaxTime), labels(1, 2, 3), labels(upTo(0, impl.MaxSteps)...)} {
			snapIs(t, v.what+", without writes", v.image, l, v.image)
			snapFollows(t, v.what+", without writes", v.image, l)
			for block := range int64(impl.MaxBlocks) {
				touchesIs(t, "without writes", l, block, -1)
			}
		}
	}
}

func TestSnapOfEveryValidStep(t *testing.T) {
	for blocks := int64(1); blocks <= impl.MaxBlocks; blocks++ {
		for _, image := range [][]string{patternImage(int(blocks)), letterImage("abcdefgh"[:blocks]), slices.Repeat([]string{zeros8}, int(blocks))} {
			for _, s := range validSteps(blocks) {
				want := slices.Clone(image)
				if s.Kind != impl.StLabel {
					want[s.To] = blockMade(image, s)
				}
				snapIs(t, "a valid step", image, []impl.Step{s}, want)
			}
			if t.Failed() {
				return
			}
		}
	}
}

// kindOfWrite turns a number into one of the four writes.
func kindOfWrite(kind int, to int64, from int64) impl.Step {
	return []impl.Step{zeroing(to), putting(to, ones8), copying(to, from), xoring(to, from, data8)}[kind%4]
}

// oneForEachBlock has writes that read the block some places further on; their kinds alternate.
func oneForEachBlock(blocks int64, kind int, shift int64) []impl.Step {
	var l []impl.Step
	for to := range blocks {
		l = append(l, kindOfWrite(kind+int(to), to, (to+shift)%blocks))
	}
	return l
}

func TestSnapOfOneStepForEachBlock(t *testing.T) {
	for blocks := int64(1); blocks <= impl.MaxBlocks; blocks++ {
		for kind := range 4 {
			for shift := range blocks {
				for _, image := range [][]string{patternImage(int(blocks)), letterImage("abcdefgh"[:blocks])} {
					l := oneForEachBlock(blocks, kind, shift)
					snapFollows(t, "one for each block", image, l)
					snapFollows(t, "labels before", image, slices.Concat(labels(0, 7), l))
					snapFollows(t, "labels behind", image, slices.Concat(l, labels(0, impl.MaxTime)))
					snapFollows(t, "labels between", image, slices.Insert(slices.Clone(l), int(shift), labels(3, 4)...))
					snapFollows(t, "labels everywhere", image, labelled(l))
					slices.Reverse(l)
					snapFollows(t, "the other way round", image, l)
					snapFollows(t, "labels everywhere, the other way round", image, labelled(l))
				}
			}
		}
	}
}

// labelled has a label before, between and behind the steps.
func labelled(l []impl.Step) []impl.Step {
	labelled := labels(0)
	for i, s := range l {
		labelled = append(labelled, s, label(int64(i+1)*1000))
	}
	return labelled
}

func TestSnapOfBlocksThatNoStepWrites(t *testing.T) {
	base, all := letterImage("abcdefgh"), oneForEachBlock(8, 1, 3)
	for mask := range 1 << impl.MaxBlocks {
		var l []impl.Step
		want := slices.Clone(base)
		for to := range base {
			if mask>>to&1 == 1 {
				l = append(l, all[to])
				want[to] = blockMade(base, all[to])
			}
		}
		snapIs(t, "some blocks", base, l, want)
		snapIs(t, "some blocks, and labels", base, labelled(l), want)
	}
}

// A step that reads a block which another step writes shows whether it reads the original image.
func TestSnapReadsTheOriginalImage(t *testing.T) {
	for _, blocks := range []int64{2, 3, impl.MaxBlocks} {
		base := patternImage(int(blocks))
		for to := range blocks {
			for from := range blocks {
				if to == from {
					continue
				}
				for kind := range 16 {
					read := kindOfWrite(2+kind%2, to, from)
					other := kindOfWrite(kind/2, from, []int64{to, from}[kind/8])
					snapFollows(t, "From is written before", base, []impl.Step{other, read})
					snapFollows(t, "From is written behind", base, []impl.Step{read, other})
					snapFollows(t, "From is written before, and labels", base, labelled([]impl.Step{other, read}))
					snapFollows(t, "From is written behind, and labels", base, labelled([]impl.Step{read, other}))
				}
			}
		}
	}
}

func TestSnapOfStepsThatReadTheirOwnBlock(t *testing.T) {
	for blocks := int64(1); blocks <= impl.MaxBlocks; blocks++ {
		base := patternImage(int(blocks))
		for at := range blocks {
			snapIs(t, "a copy of its own block", base, []impl.Step{copying(at, at)}, base)
			want := slices.Clone(base)
			want[at] = impl.Xored(base[at], data8)
			snapIs(t, "an xor of its own block", base, []impl.Step{xoring(at, at, data8)}, want)
			for other := range blocks {
				if other != at {
					l := []impl.Step{xoring(at, at, data8), copying(other, at)}
					want[other] = base[at]
					snapIs(t, "an xor of its own block, and a copy behind it", base, l, want)
					slices.Reverse(l)
					snapIs(t, "an xor of its own block, and a copy before it", base, l, want)
					want[other] = base[other]
				}
			}
		}
	}
}

func TestSnapOfStepsThatReadEachOther(t *testing.T) {
	base := letterImage("abcd")
	for _, k := range crossings() {
		snapIs(t, k.what, base, k.steps, k.want)
		slices.Reverse(k.steps)
		snapIs(t, k.what+", the other way round", base, k.steps, k.want)
		snapIs(t, k.what+", with labels", base, labelled(k.steps), k.want)
	}
}

// longestLists have MaxSteps steps for MaxBlocks blocks.
func longestLists() [][]impl.Step {
	return [][]impl.Step{
		mostSteps(),
		labels(upTo(0, impl.MaxSteps)...),
		append(labels(upTo(0, impl.MaxSteps-1)...), zeroing(7)),
		append([]impl.Step{xoring(0, 7, ones8)}, labels(upTo(0, impl.MaxSteps-1)...)...),
	}
}

func TestSnapOfTheLongestLists(t *testing.T) {
	base := patternImage(impl.MaxBlocks)
	for _, l := range longestLists() {
		if len(l) != impl.MaxSteps {
			t.Fatalf("there are %d steps", len(l))
		}
		snapFollows(t, "MaxSteps steps", base, l)
		snapFollows(t, "MaxSteps - 1 steps", base, l[1:])
		snapFollows(t, "MaxSteps - 1 steps", base, l[:len(l)-1])
	}
	for _, count := range []int64{impl.MaxSteps + 1, impl.MaxSteps + 2, impl.MaxList - 1, impl.MaxList} {
		l := labels(upTo(0, count)...)
		snapFails(t, "too many labels", base, l, impl.ErrForm)
		l[count/2] = copying(0, 1)
		snapFails(t, "too many steps", base, l, impl.ErrForm)
	}
	snapFails(t, "MaxSteps steps and a label", base, append(mostSteps(), label(impl.MaxTime)), impl.ErrForm)
	snapFails(t, "a label and MaxSteps steps", base, slices.Insert(mostSteps(), 1, label(1)), impl.ErrForm)
}

func TestEveryBlockIsReadAsInTheUpdatedImage(t *testing.T) {
	next := numbers(47)
	kinds, sizes := map[int64]int{}, map[int]int{}
	for range 10000 {
		if t.Failed() {
			return
		}
		base := arbitraryImage(next, 1+next(impl.MaxBlocks))
		l := arbitraryList(next, len(base))
		snapFollows(t, "an arbitrary list", base, l)
		sizes[len(base)]++
		for _, s := range l {
			kinds[s.Kind]++
		}
	}
	for kind := int64(impl.StZero); kind <= impl.StLabel; kind++ {
		if kinds[kind] < 2000 {
			t.Errorf("there were only %d steps of the kind %d", kinds[kind], kind)
		}
	}
	for blocks := 1; blocks <= impl.MaxBlocks; blocks++ {
		if sizes[blocks] < 1000 {
			t.Errorf("there were only %d images of %d blocks", sizes[blocks], blocks)
		}
	}
}

func TestSnapOfDifferences(t *testing.T) {
	next := numbers(53)
	for range 5000 {
		if t.Failed() {
			return
		}
		old := arbitraryImage(next, 1+next(impl.MaxBlocks))
		fresh := edited(next, old)
		snapIs(t, "a difference", old, impl.StepsFor(old, fresh), fresh)
		snapIs(t, "a package", old, impl.PackageOf(old, fresh).Package.Steps, fresh)
	}
}

func TestSnapReadOfTheFirstAndTheLastBlock(t *testing.T) {
	for blocks := 1; blocks <= impl.MaxBlocks; blocks++ {
		last := int64(blocks - 1)
		base := patternImage(blocks)
		for _, l := range [][]impl.Step{nil, labels(1), {putting(0, ones8)}, {putting(last, ones8)}, oneForEachBlock(int64(blocks), 1, 0)} {
			want := imageMade(base, l)
			readIs(t, "the first block", base, l, 0, want[0])
			readIs(t, "the last block", base, l, last, want[last])
			snapReadFails(t, "one before the first block", base, l, -1, impl.ErrRange)
			snapReadFails(t, "one behind the last block", base, l, last+1, impl.ErrRange)
			snapReadFails(t, "the least integer", base, l, math.MinInt64, impl.ErrRange)
			snapReadFails(t, "the greatest integer", base, l, math.MaxInt64, impl.ErrRange)
		}
	}
}

func TestSnapErrors(t *testing.T) {
	for _, l := range listsOfEachCode() {
		for _, base := range [][]string{letterImage("ab"), patternImage(2), {zeros8, zeros8}} {
			if l.code == impl.OK {
				snapFollows(t, l.what, base, l.steps)
			} else {
				snapFails(t, l.what, base, l.steps, l.code)
			}
		}
	}
}

func TestSnapNeedsTheNumberOfBlocksOfTheBase(t *testing.T) {
	for blocks := int64(1); blocks <= impl.MaxBlocks; blocks++ {
		last := blocks - 1
		for _, s := range []impl.Step{zeroing(last), putting(last, data8), copying(last, 0), copying(0, last), xoring(last, 0, data8), xoring(0, last, data8)} {
			codeIs(t, "for MaxBlocks", []impl.Step{s}, impl.MaxBlocks, impl.OK)
			for have := 1; have <= impl.MaxBlocks; have++ {
				base := patternImage(have)
				for _, l := range [][]impl.Step{{s}, {label(1), s, label(2)}} {
					if int64(have) < blocks {
						snapFails(t, "too few blocks", base, l, impl.ErrForm)
					} else {
						snapFollows(t, "enough blocks", base, l)
					}
				}
			}
		}
	}
}

func TestSnapChecksTheBaseBeforeTheSteps(t *testing.T) {
	for _, v := range invalidImages() {
		for _, l := range listsOfEachCode() {
			snapFails(t, v.what+" with "+l.what, v.image, l.steps, impl.ErrForm)
		}
	}
}

func TestSnapSizeLimitsComeFirst(t *testing.T) {
	for _, l := range hugeStepLists() {
		for _, v := range slices.Concat(validImages(), invalidImages(), hugeImages()) {
			snapFails(t, v.what+" with "+l.what, v.image, l.steps, impl.ErrSize)
		}
	}
	for _, v := range hugeImages() {
		for _, l := range listsOfEachCode() {
			snapFails(t, v.what+" with "+l.what, v.image, l.steps, impl.ErrSize)
		}
	}
}

// edgesOfBlocks has blocks that no image has beside those that one may have.
func edgesOfBlocks() []int64 {
	return append(blocksOutside(impl.MaxBlocks), upTo(0, impl.MaxBlocks)...)
}

func TestTouches(t *testing.T) {
	known := []struct {
		what  string
		steps []impl.Step
		block int64
		want  int64
	}{
		{"nil", nil, 0, -1},
		{"empty", []impl.Step{}, 0, -1},
		{"a label", labels(1), 0, -1},
		{"a label with the number of the block", labels(3), 3, -1},
		{"the zero block behind labels", []impl.Step{label(0), label(1), zeroing(0)}, 0, 2},
		{"the zero block before a label", []impl.Step{zeroing(0), label(0)}, 0, 0},
		{"the zero block beside others", []impl.Step{zeroing(1), label(1), copying(2, 0)}, 0, -1},
		{"a copy from the block", []impl.Step{copying(1, 0)}, 0, -1},
		{"a copy to the block", []impl.Step{copying(1, 0)}, 1, 0},
		{"an xor from the block", []impl.Step{xoring(5, 2, data8)}, 2, -1},
		{"an xor to the block", []impl.Step{zeroing(2), xoring(5, 2, data8)}, 5, 1},
		{"an xor of the block itself", []impl.Step{label(4), xoring(5, 5, data8)}, 5, 1},
		{"a put", []impl.Step{zeroing(0), zeroing(1), putting(7, data8)}, 7, 2},
		{"two writes", []impl.Step{zeroing(1), putting(4, data8), copying(4, 1)}, 4, 1},
		{"two writes with labels between", []impl.Step{copying(4, 1), label(1), label(2), putting(4, data8)}, 4, 0},
		{"equal writes", []impl.Step{label(9), zeroing(3), zeroing(3), zeroing(3)}, 3, 1},
		{"labels that decrease", []impl.Step{label(9), label(3), zeroing(3)}, 3, 2},
		{"a step of no kind", []impl.Step{label(1), {}}, 0, 1},
		{"an unknown kind", []impl.Step{label(1), {Kind: 6, To: 2}}, 2, 1},
		{"kinds that are nearly that of a label", []impl.Step{{Kind: 1<<32 + 5, To: 2}, {Kind: -5, To: 3}, zeroing(3)}, 3, 1},
		{"a kind with the lower bits of a label", []impl.Step{{Kind: 1<<32 + 5, To: 2}}, 2, 0},
		{"a label with To", []impl.Step{{Kind: impl.StLabel, To: 3}}, 3, -1},
		{"a label with To before a write", []impl.Step{{Kind: impl.StLabel, To: 3, Data: data8}, zeroing(3)}, 3, 1},
		{"an invalid label", []impl.Step{label(-1), zeroing(0)}, 0, 1},
		{"a put without data", []impl.Step{zeroing(1), {Kind: impl.StPut}}, 0, 1},
		{"a zero step with From", []impl.Step{{Kind: impl.StZero, To: 1, From: 2}}, 2, -1},
		{"a copy from far outside", []impl.Step{copying(1, math.MinInt64)}, 1, 0},
		{"an invalid write before a valid one", []impl.Step{putting(6, "1"), putting(6, data8)}, 6, 0},
		{"an invalid step of another block", []impl.Step{{}, zeroing(6)}, 6, 1},
	}
	for _, k := range known {
		touchesIs(t, k.what, k.steps, k.block, k.want)
		for _, block := range edgesOfBlocks() {
			touchesIs(t, k.what+", any block", k.steps, block, touchesExpected(k.steps, block))
		}
	}
}

func TestTouchesOfBlocksThatNoImageHas(t *testing.T) {
	for i, to := range edgesOfBlocks() {
		for _, s := range []impl.Step{zeroing(to), putting(to, data8), copying(to, 0), xoring(to, 0, data8), {To: to}, {Kind: impl.StLabel, To: to}} {
			l := []impl.Step{label(0), zeroing(edgesOfBlocks()[(i+1)%len(edgesOfBlocks())]), s}
			for _, block := range edgesOfBlocks() {
				touchesIs(t, "far outside", l, block, touchesExpected(l, block))
			}
		}
	}
}

func TestTouchesOfEdgeSteps(t *testing.T) {
	for _, s := range edgeSteps() {
		l := []impl.Step{label(0), s, zeroing(s.To)}
		if got, want := impl.Touches(l, s.To), touchesExpected(l, s.To); got != want || want < 1 {
			t.Fatalf("Touches(%s, %d) = %d, want %d", shown(l), s.To, got, want)
		}
		if got, want := impl.Touches(l, s.From), touchesExpected(l, s.From); got != want {
			t.Fatalf("Touches(%s, %d) = %d, want %d", shown(l), s.From, got, want)
		}
	}
}

func TestTouchesOfTheLongestLists(t *testing.T) {
	for _, size := range []int{1, 2, impl.MaxSteps - 1, impl.MaxSteps, impl.MaxSteps + 1, impl.MaxSteps + 2, impl.AreaSize, impl.MaxList, impl.MaxList + 1, 100000} {
		for _, at := range []int{0, size / 2, size - 1} {
			want := int64(at)
			if size > impl.MaxSteps {
				want = -1
			}
			for _, others := range []impl.Step{label(2), zeroing(1), {To: 7}} {
				l := slices.Repeat([]impl.Step{others}, size)
				l[at] = copying(2, 1)
				touchesIs(t, "one write to the block", l, 2, want)
				touchesIs(t, "no write to the block", l, 3, -1)
			}
			writes := slices.Repeat([]impl.Step{zeroing(0)}, size)
			touchesIs(t, "only writes to the block", writes, 0, min(want, 0))
		}
	}
}

func TestTouchesOfArbitraryLists(t *testing.T) {
	next := numbers(59)
	seen := map[int64]int{}
	for range 20000 {
		blocks := 1 + next(impl.MaxBlocks)
		l := labels(upTo(0, int64(next(impl.MaxSteps)))...)
		for i := range next(9) {
			l = append(l, arbitraryStep(next, blocks, i))
		}
		for block := int64(-1); block <= impl.MaxBlocks; block++ {
			want := touchesExpected(l, block)
			seen[want]++
			touchesIs(t, "an arbitrary list", l, block, want)
		}
		if t.Failed() {
			return
		}
	}
	for at := int64(-1); at < impl.MaxSteps; at++ {
		if seen[at] < 200 {
			t.Errorf("the step %d touched a block only %d times", at, seen[at])
		}
	}
}

func TestSnapsAreNewAndArgumentsNotChanged(t *testing.T) {
	lists := append(listsOfEachCode(), namedSteps{"an exchange", []impl.Step{copying(1, 0), copying(0, 1)}, impl.OK})
	for _, l := range lists {
		for _, v := range []namedImage{{"valid", letterImage("ab")}, {"invalid", []string{"a", "b"}}} {
			base, steps := withRoomBehind(v.image), withRoomBehind(l.steps)
			first := impl.SnapAll(base, steps).Image
			before := slices.Clone(first)
			overwriteBlocks(impl.SnapAll(base, steps).Image)
			for _, block := range edgesOfBlocks() {
				impl.SnapRead(base, steps, block)
				impl.Touches(steps, block)
			}
			blocksAre(t, "the first result", first, before)
			onlyHas(t, "the base", base, v.image)
			onlyHas(t, "the steps", steps, l.steps)
		}
	}
}

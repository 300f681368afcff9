package tests

import (
	"crypto/sha256"
	"math"
	"slices"
	"strings"
	"testing"

	"loop.example/g00668/impl"
)

const ones8 = "\xff\xff\xff\xff\xff\xff\xff\xff"

// letterImage has a block for each letter.
func letterImage(letters string) []string {
	var image []string
	for _, letter := range letters {
		image = append(image, strings.Repeat(string(letter), impl.BlockSize))
	}
	return image
}

// patternImage has blocks of which no two have more than a few bytes in common.
func patternImage(blocks int) []string {
	var image []string
	text := pattern(blocks * impl.BlockSize)
	for ; text != ""; text = text[impl.BlockSize:] {
		image = append(image, text[:impl.BlockSize])
	}
	return image
}

type namedImage struct {
	what  string
	image []string
}

func validImages() []namedImage {
	l := []namedImage{
		{"a block of zero bytes", []string{zeros8}},
		{"equal blocks", letterImage("aaa")},
		{"zero bytes, ones and data", []string{zeros8, ones8, data8, zeros8}},
	}
	for blocks := 1; blocks <= impl.MaxBlocks; blocks++ {
		l = append(l, namedImage{"a pattern", patternImage(blocks)}, namedImage{"letters", letterImage("abcdefgh"[:blocks])})
	}
	return l
}

func invalidImages() []namedImage {
	l := []namedImage{
		{"nil", nil},
		{"empty", []string{}},
		{"MaxBlocks + 1 blocks", patternImage(impl.MaxBlocks + 1)},
		{"MaxBlocks + 2 blocks", patternImage(impl.MaxBlocks + 2)},
		{"2 * MaxBlocks blocks", patternImage(2 * impl.MaxBlocks)},
		{"MaxList - 1 blocks", patternImage(impl.MaxList - 1)},
		{"MaxList blocks", patternImage(impl.MaxList)},
		{"one long block", []string{patternImage(1)[0] + patternImage(1)[0]}},
		{"a long and a short block", []string{data8 + "9", data8[1:]}},
		{"a short and a long block", []string{data8[1:], data8 + "9"}},
	}
	for _, size := range []int{0, 1, impl.BlockSize - 1, impl.BlockSize + 1, 2 * impl.BlockSize, impl.MaxBytes, impl.MaxBytes + 1} {
		for blocks := 1; blocks <= impl.MaxBlocks; blocks++ {
			for at := range blocks {
				image := patternImage(blocks)
				image[at] = pattern(size)
				l = append(l, namedImage{"a block of another size", image})
			}
		}
	}
	return l
}

// hugeImages have more than MaxList blocks.
func hugeImages() []namedImage {
	return []namedImage{
		{"MaxList + 1 blocks", patternImage(impl.MaxList + 1)},
		{"MaxList + 2 empty blocks", make([]string, impl.MaxList+2)},
		{"5000 blocks", patternImage(5000)},
	}
}

func blocksAre(t *testing.T, what string, got []string, want []string) {
	t.Helper()
	if !slices.Equal(got, want) {
		t.Errorf("%s: got %.40x, want %.40x", what, got, want)
	}
}

func imageOutIs(t *testing.T, what string, got impl.ImageOut, want []string) {
	t.Helper()
	if got.Code != impl.OK {
		t.Errorf("%s: the code is %d", what, got.Code)
	}
	blocksAre(t, what, got.Image, want)
}

func imageFails(t *testing.T, what string, got impl.ImageOut, code int64) {
	t.Helper()
	if got.Code != code || len(got.Image) != 0 {
		t.Errorf("%s: got %s, want the code %d", what, shown(got), code)
	}
}

func textIs(t *testing.T, what string, got string, want string) {
	t.Helper()
	if got != want {
		t.Errorf("%s: got %.40x, want %.40x", what, got, want)
	}
}

// byteMade is the byte that a valid write puts at a place of its block.
func byteMade(image []string, s impl.Step, at int) byte {
	var b byte
	if s.Kind == impl.StCopy || s.Kind == impl.StXor {
		b = image[s.From][at]
	}
	if s.Kind == impl.StPut || s.Kind == impl.StXor {
		b ^= s.Data[at]
	}
	return b
}

// blockMade makes a block byte by byte, and none of a label.
func blockMade(image []string, s impl.Step) string {
	if s.Kind == impl.StLabel {
		return ""
	}
	var b []byte
	for at := range impl.BlockSize {
		b = append(b, byteMade(image, s, at))
	}
	return string(b)
}

// imageMade expects a valid list, and looks for the write of each block.
func imageMade(image []string, l []impl.Step) []string {
	var made []string
	for to, b := range image {
		for _, s := range l {
			if s.Kind != impl.StLabel && s.To == int64(to) {
				b = blockMade(image, s)
			}
		}
		made = append(made, b)
	}
	return made
}

func copying(to int64, from int64) impl.Step {
	return impl.Step{Kind: impl.StCopy, To: to, From: from}
}

func putting(to int64, data string) impl.Step {
	return impl.Step{Kind: impl.StPut, To: to, Data: data}
}

func xoring(to int64, from int64, data string) impl.Step {
	return impl.Step{Kind: impl.StXor, To: to, From: from, Data: data}
}

func TestImageExamples(t *testing.T) {
	old := letterImage("ab")
	imageOutIs(t, "exchanged", impl.ImageApply(old, []impl.Step{copying(0, 1), copying(1, 0)}), letterImage("ba"))
	writesAre(t, "the steps", impl.StepsFor(old, []string{"bbbbbbbb", "bbbbbbbc"}), []impl.Step{copying(0, 1), xoring(1, 1, zeros8[1:]+"\x01")})
}

func TestImageRight(t *testing.T) {
	for _, v := range validImages() {
		if !impl.ImageRight(v.image) {
			t.Errorf("%s: %x is not accepted", v.what, v.image)
		}
	}
	for _, v := range append(invalidImages(), hugeImages()...) {
		if impl.ImageRight(v.image) {
			t.Errorf("%s: %d blocks %.100x are accepted", v.what, len(v.image), v.image)
		}
	}
}

func TestXored(t *testing.T) {
	known := []struct {
		a    string
		b    string
		want string
	}{
		{"aaaaaaaa", "aaaaaaab", zeros8[1:] + "\x03"},
		{"aaaaaaaa", "aaaaaaaa", zeros8},
		{zeros8, data8, data8},
		{ones8, data8, "\xce\xcd\xcc\xcb\xca\xc9\xc8\xc7"},
		{ones8, ones8, zeros8},
		{"\x01\x02\x04\x08\x10\x20\x40\x80", "\x01\x03\x05\x09\x11\x21\x41\x81", "\x00\x01\x01\x01\x01\x01\x01\x01"},
	}
	for _, k := range known {
		textIs(t, "known", impl.Xored(k.a, k.b), k.want)
		textIs(t, "known, in the other order", impl.Xored(k.b, k.a), k.want)
		textIs(t, "back to a", impl.Xored(k.want, k.b), k.a)
		textIs(t, "back to b", impl.Xored(k.want, k.a), k.b)
	}
	for at := range impl.BlockSize {
		for value := range 256 {
			one := []byte(data8)
			one[at] = byte(value)
			want := []byte(zeros8)
			want[at] = byte(value) ^ data8[at]
			textIs(t, "one byte", impl.Xored(string(one), data8), string(want))
		}
	}
}

func TestXoredOfOtherLengths(t *testing.T) {
	sizes := []int{0, 1, 2, 6, impl.BlockSize - 1, impl.BlockSize, impl.BlockSize + 1, 2 * impl.BlockSize, impl.MaxBytes, impl.MaxBytes + 1, 100000}
	for _, a := range sizes {
		for _, b := range sizes {
			if a != impl.BlockSize || b != impl.BlockSize {
				textIs(t, "other lengths", impl.Xored(pattern(a), pattern(b)), "")
			}
		}
	}
	textIs(t, "equal strings of another length", impl.Xored("abc", "abc"), "")
}

func TestMadeByKnown(t *testing.T) {
	image := []string{"abcdefgh", data8, zeros8}
	textIs(t, "a zero step", impl.MadeBy(image, zeroing(1)), zeros8)
	textIs(t, "a put", impl.MadeBy(image, putting(1, "ABCDEFGH")), "ABCDEFGH")
	textIs(t, "a copy", impl.MadeBy(image, copying(1, 0)), "abcdefgh")
	textIs(t, "a copy of the same block", impl.MadeBy(image, copying(1, 1)), data8)
	textIs(t, "an xor", impl.MadeBy(image, xoring(2, 0, "        ")), "ABCDEFGH")
	textIs(t, "an xor of the same block", impl.MadeBy(image, xoring(1, 1, data8)), zeros8)
	textIs(t, "an xor of zero bytes", impl.MadeBy(image, xoring(0, 2, "ABCDEFGH")), "ABCDEFGH")
	textIs(t, "an xor with zero bytes", impl.MadeBy(image, xoring(1, 0, zeros8)), "abcdefgh")
	textIs(t, "a label", impl.MadeBy(image, label(1)), "")
	textIs(t, "the label 0", impl.MadeBy(image, label(0)), "")
}

func TestMadeByOfEveryKind(t *testing.T) {
	for _, v := range validImages() {
		for _, s := range validSteps(int64(len(v.image))) {
			if got, want := impl.MadeBy(v.image, s), blockMade(v.image, s); got != want {
				t.Fatalf("%s: %+v makes %x of %x, want %x", v.what, s, got, v.image, want)
			}
		}
	}
}

func TestMadeByOfStepsThatAreNotValid(t *testing.T) {
	for blocks := int64(1); blocks <= impl.MaxBlocks; blocks++ {
		image := patternImage(int(blocks))
		outside := []impl.Step{zeroing(blocks), putting(blocks, data8), copying(blocks, 0), copying(0, blocks), xoring(blocks, 0, data8), xoring(0, blocks, data8)}
		for _, s := range outside {
			textIs(t, "a step that needs one block more", impl.MadeBy(image, s), "")
		}
	}
	image := patternImage(3)
	for _, s := range edgeSteps() {
		want := ""
		if stepValid(s, 3) {
			want = blockMade(image, s)
		}
		if got := impl.MadeBy(image, s); got != want {
			t.Fatalf("%s makes %x, want %x", shown(s), got, want)
		}
	}
}

func TestMadeByOfInvalidImages(t *testing.T) {
	steps := slices.Concat(writesTo(0), labels(1), []impl.Step{copying(0, 0), xoring(0, 0, data8), {}, zeroing(8), putting(0, "1")})
	for _, v := range append(invalidImages(), hugeImages()...) {
		for _, s := range steps {
			textIs(t, v.what, impl.MadeBy(v.image, s), "")
		}
	}
}

func TestStepsOfEveryKindAreAppliedOnce(t *testing.T) {
	image := []string{"abcdefgh", data8, zeros8, "ABCDEFGH", "zzzzzzzz"}
	l := []impl.Step{label(1), putting(2, "put     "), label(2), label(5), copying(0, 3), xoring(3, 0, "        "), label(7), zeroing(1), label(impl.MaxTime)}
	want := []string{"ABCDEFGH", zeros8, "put     ", "ABCDEFGH", "zzzzzzzz"}
	imageOutIs(t, "each kind", impl.ImageApply(image, l), want)
	imageOutIs(t, "without labels", impl.ImageApply(image, impl.Writes(l)), want)
	imageOutIs(t, "only labels", impl.ImageApply(image, labels(1, 2, 3)), image)
	imageOutIs(t, "no steps", impl.ImageApply(image, nil), image)
	imageOutIs(t, "an empty list", impl.ImageApply(image, []impl.Step{}), image)
	slices.Reverse(l)
	imageOutIs(t, "the writes in the opposite order", impl.ImageApply(image, impl.Writes(l)), want)
}

func TestEveryValidStepIsApplied(t *testing.T) {
	for _, v := range validImages() {
		for _, s := range validSteps(int64(len(v.image))) {
			want := slices.Clone(v.image)
			if s.Kind != impl.StLabel {
				want[s.To] = blockMade(v.image, s)
			}
			imageOutIs(t, v.what, impl.ImageApply(v.image, []impl.Step{s}), want)
		}
		if t.Failed() {
			return
		}
	}
}

type crossing struct {
	what  string
	steps []impl.Step
	want  []string
}

// crossings have steps that read what others write, and what they make of the blocks of four letters.
func crossings() []crossing {
	return []crossing{
		{"turned upwards", []impl.Step{copying(1, 0), copying(2, 1), copying(3, 2), copying(0, 3)}, letterImage("dabc")},
		{"turned downwards", []impl.Step{copying(0, 1), copying(1, 2), copying(2, 3), copying(3, 0)}, letterImage("bcda")},
		{"exchanged in pairs", []impl.Step{copying(0, 3), copying(3, 0), copying(2, 1), copying(1, 2)}, letterImage("dcba")},
		{"copied after a zero step", []impl.Step{zeroing(0), copying(1, 0)}, []string{zeros8, "aaaaaaaa", "cccccccc", "dddddddd"}},
		{"copied after a put", []impl.Step{putting(0, data8), copying(1, 0)}, []string{data8, "aaaaaaaa", "cccccccc", "dddddddd"}},
		{"xored after a copy", []impl.Step{copying(2, 3), xoring(0, 2, "        ")}, letterImage("Cbdd")},
		{"copied after an xor", []impl.Step{xoring(0, 0, "        "), copying(3, 0)}, letterImage("Abca")},
		{"xored after an xor", []impl.Step{xoring(0, 1, "        "), xoring(1, 0, "        ")}, letterImage("BAcd")},
		{"one block copied to all", []impl.Step{copying(0, 1), copying(1, 1), copying(2, 1), copying(3, 1)}, letterImage("bbbb")},
	}
}

func TestStepsReadTheOriginalImage(t *testing.T) {
	image := letterImage("abcd")
	for _, k := range crossings() {
		imageOutIs(t, k.what, impl.ImageApply(image, k.steps), k.want)
		slices.Reverse(k.steps)
		imageOutIs(t, k.what+", the other way round", impl.ImageApply(image, k.steps), k.want)
		imageOutIs(t, k.what+", with labels", impl.ImageApply(image, slices.Concat(labels(0), k.steps, labels(4, 9))), k.want)
	}
}

// arbitraryData is often the same.
func arbitraryData(next func(limit int) int) string {
	return []string{zeros8, ones8, data8, pattern(impl.BlockSize), letterImage("abcdefgh")[next(8)], zeros8[1:] + "\x01"}[next(6)]
}

func arbitraryImage(next func(limit int) int, blocks int) []string {
	var image []string
	for range blocks {
		image = append(image, arbitraryData(next))
	}
	return image
}

// arbitraryWrite is valid for the number of blocks.
func arbitraryWrite(next func(limit int) int, to int64, blocks int) impl.Step {
	from := int64(next(blocks))
	return []impl.Step{zeroing(to), putting(to, arbitraryData(next)), copying(to, from), xoring(to, from, arbitraryData(next))}[next(4)]
}

// arbitraryList is valid for the number of blocks and has writes in any order, with labels between them.
func arbitraryList(next func(limit int) int, blocks int) []impl.Step {
	var l []impl.Step
	tos := upTo(0, int64(blocks))
	for number := int64(0); len(tos) > 0 && next(8) > 0; number++ {
		if next(4) == 0 && len(l) < 10 {
			l = append(l, label(number))
			continue
		}
		at := next(len(tos))
		l = append(l, arbitraryWrite(next, tos[at], blocks))
		tos = slices.Delete(tos, at, at+1)
	}
	return l
}

func TestStepsMakeOfEachBlockWhatEachMakesOfTheOriginalImage(t *testing.T) {
	next := numbers(17)
	kinds := map[int64]int{}
	for range 20000 {
		if t.Failed() {
			return
		}
		blocks := 1 + next(impl.MaxBlocks)
		image := arbitraryImage(next, blocks)
		l := arbitraryList(next, blocks)
		out := impl.ImageApply(image, l)
		imageOutIs(t, "an arbitrary list", out, imageMade(image, l))
		written := map[int64]bool{}
		for _, s := range impl.Writes(l) {
			textIs(t, "a written block", out.Image[s.To], impl.MadeBy(image, s))
			written[s.To] = true
			kinds[s.Kind]++
		}
		for to, b := range image {
			if !written[int64(to)] {
				textIs(t, "a block without a write", out.Image[to], b)
			}
		}
	}
	for kind := int64(impl.StZero); kind <= impl.StXor; kind++ {
		if kinds[kind] < 5000 {
			t.Errorf("there were only %d writes of the kind %d", kinds[kind], kind)
		}
	}
}

func TestImageApplyOfTheLongestList(t *testing.T) {
	image := letterImage("abcdefgh")
	var l []impl.Step
	for to := range int64(impl.MaxBlocks) {
		l = append(l, label(to), copying(to, 7-to))
	}
	l = append(l, labels(20, 21, 22, 23)...)
	imageOutIs(t, "MaxSteps steps", impl.ImageApply(image, l), letterImage("hgfedcba"))
	imageFails(t, "MaxSteps + 1 steps", impl.ImageApply(image, append(l, label(24))), impl.ErrForm)
}

type namedSteps struct {
	what  string
	steps []impl.Step
	code  int64
}

// listsOfEachCode has the code for images of 2 blocks.
func listsOfEachCode() []namedSteps {
	return []namedSteps{
		{"nil", nil, impl.OK},
		{"valid steps", []impl.Step{copying(0, 1), label(1), zeroing(1)}, impl.OK},
		{"a zero step of no kind", []impl.Step{{}}, impl.ErrForm},
		{"a step of an unknown kind", []impl.Step{{Kind: 6}}, impl.ErrForm},
		{"a write to the third block", []impl.Step{zeroing(2)}, impl.ErrForm},
		{"a copy from the third block", []impl.Step{copying(0, 2)}, impl.ErrForm},
		{"an xor from the third block", []impl.Step{zeroing(1), xoring(0, 2, data8)}, impl.ErrForm},
		{"a write to block -1", []impl.Step{zeroing(-1)}, impl.ErrForm},
		{"a write far outside", []impl.Step{putting(math.MaxInt64, data8)}, impl.ErrForm},
		{"a copy from far outside", []impl.Step{copying(1, math.MinInt64)}, impl.ErrForm},
		{"a put without data", []impl.Step{{Kind: impl.StPut}}, impl.ErrForm},
		{"an xor with a byte too few", []impl.Step{xoring(0, 1, data8[1:])}, impl.ErrForm},
		{"a label beyond MaxTime", labels(impl.MaxTime + 1), impl.ErrForm},
		{"MaxSteps + 1 labels", labels(upTo(0, impl.MaxSteps+1)...), impl.ErrForm},
		{"MaxList labels", labels(upTo(0, impl.MaxList)...), impl.ErrForm},
		{"MaxList equal writes", slices.Repeat([]impl.Step{zeroing(0)}, impl.MaxList), impl.ErrForm},
		{"an invalid step behind two writes to one block", []impl.Step{zeroing(0), zeroing(0), {}}, impl.ErrForm},
		{"two writes to one block", []impl.Step{zeroing(0), putting(0, data8)}, impl.ErrTwice},
		{"equal writes", []impl.Step{copying(1, 0), label(3), copying(1, 0)}, impl.ErrTwice},
		{"two writes behind labels that decrease", append(labels(2, 1), zeroing(1), zeroing(1)), impl.ErrTwice},
		{"equal labels", labels(2, 2), impl.ErrRange},
		{"labels that decrease around a write", []impl.Step{label(2), zeroing(1), label(1)}, impl.ErrRange},
	}
}

func hugeStepLists() []namedSteps {
	return []namedSteps{
		{"MaxList + 1 labels", labels(upTo(0, impl.MaxList+1)...), impl.ErrSize},
		{"MaxList + 1 equal writes", slices.Repeat([]impl.Step{zeroing(0)}, impl.MaxList+1), impl.ErrSize},
		{"MaxList + 2 invalid steps", make([]impl.Step, impl.MaxList+2), impl.ErrSize},
	}
}

func TestImageApplyErrors(t *testing.T) {
	for _, l := range listsOfEachCode() {
		for _, image := range [][]string{letterImage("ab"), patternImage(2), {zeros8, zeros8}} {
			if got := impl.StepsCode(l.steps, 2); got != l.code {
				t.Errorf("%s: the code of the steps is %d", l.what, got)
			}
			if l.code == impl.OK {
				imageOutIs(t, l.what, impl.ImageApply(image, l.steps), imageMade(image, l.steps))
			} else {
				imageFails(t, l.what, impl.ImageApply(image, l.steps), l.code)
			}
		}
	}
}

func TestImageApplyNeedsTheNumberOfBlocksOfTheImage(t *testing.T) {
	for blocks := int64(1); blocks <= impl.MaxBlocks; blocks++ {
		last := blocks - 1
		for _, s := range []impl.Step{zeroing(last), putting(last, data8), copying(last, 0), copying(0, last), xoring(last, 0, data8), xoring(0, last, data8)} {
			for have := 1; have <= impl.MaxBlocks; have++ {
				image := patternImage(have)
				if int64(have) < blocks {
					imageFails(t, "too few blocks", impl.ImageApply(image, []impl.Step{s}), impl.ErrForm)
				} else {
					imageOutIs(t, "enough blocks", impl.ImageApply(image, []impl.Step{s}), imageMade(image, []impl.Step{s}))
				}
			}
		}
	}
}

func TestImageApplyChecksTheImageBeforeTheSteps(t *testing.T) {
	for _, v := range invalidImages() {
		for _, l := range listsOfEachCode() {
			imageFails(t, v.what+" with "+l.what, impl.ImageApply(v.image, l.steps), impl.ErrForm)
		}
	}
}

func TestImageApplySizeLimitsComeFirst(t *testing.T) {
	for _, l := range hugeStepLists() {
		for _, v := range slices.Concat(validImages(), invalidImages(), hugeImages()) {
			imageFails(t, v.what+" with "+l.what, impl.ImageApply(v.image, l.steps), impl.ErrSize)
		}
	}
	for _, v := range hugeImages() {
		for _, l := range listsOfEachCode() {
			imageFails(t, v.what+" with "+l.what, impl.ImageApply(v.image, l.steps), impl.ErrSize)
		}
	}
}

func TestImageDigest(t *testing.T) {
	for _, v := range validImages() {
		all := ""
		for _, b := range v.image {
			all += b
		}
		want := sha256.Sum256([]byte(all))
		textIs(t, v.what, impl.ImageDigest(v.image), string(want[:]))
		textIs(t, v.what, impl.ImageDigest(v.image), impl.Digest(all))
	}
	for _, v := range append(invalidImages(), hugeImages()...) {
		textIs(t, v.what, impl.ImageDigest(v.image), "")
	}
	if impl.ImageDigest(letterImage("ab")) == impl.ImageDigest(letterImage("ba")) {
		t.Error("the digest does not depend on the order of the blocks")
	}
}

func stepsAre(t *testing.T, what string, old []string, fresh []string, want ...impl.Step) {
	t.Helper()
	if got := impl.StepsFor(old, fresh); !slices.Equal(got, want) {
		t.Errorf("%s: StepsFor(%.40q, %.40q) = %+v, want %+v", what, old, fresh, got, want)
	}
}

func TestStepsForBlocksOfZeroBytes(t *testing.T) {
	stepsAre(t, "zero bytes", letterImage("ab"), []string{"aaaaaaaa", zeros8}, zeroing(1))
	stepsAre(t, "all zero bytes", letterImage("ab"), []string{zeros8, zeros8}, zeroing(0), zeroing(1))
	stepsAre(t, "zero bytes that are there", []string{zeros8, "aaaaaaaa"}, []string{zeros8, zeros8}, zeroing(1))
	stepsAre(t, "zero bytes that move", []string{zeros8, "aaaaaaaa"}, []string{"aaaaaaaa", zeros8}, copying(0, 1), zeroing(1))
	stepsAre(t, "zero bytes near the old block", []string{zeros8[1:] + "a"}, []string{zeros8}, zeroing(0))
	stepsAre(t, "zero bytes that stay", []string{zeros8, "aaaaaaaa"}, []string{zeros8, data8}, putting(1, data8))
	stepsAre(t, "zero digits", letterImage("ab"), letterImage("a0"), putting(1, "00000000"))
	stepsAre(t, "zero bytes but for the last", letterImage("ab"), []string{"aaaaaaaa", zeros8[1:] + "\x01"}, putting(1, zeros8[1:]+"\x01"))
	stepsAre(t, "zero bytes but for the first", letterImage("ab"), []string{"aaaaaaaa", "\x01" + zeros8[1:]}, putting(1, "\x01"+zeros8[1:]))
}

func TestStepsForBlocksThatAreCopied(t *testing.T) {
	stepsAre(t, "one old block", letterImage("abc"), letterImage("abb"), copying(2, 1))
	stepsAre(t, "several old blocks", letterImage("abcbb"), letterImage("bbcbb"), copying(0, 1))
	stepsAre(t, "several old blocks, of which the last is near", letterImage("abbc"), letterImage("abbb"), copying(3, 1))
	stepsAre(t, "old blocks that all change", letterImage("abcd"), letterImage("bcda"), copying(0, 1), copying(1, 2), copying(2, 3), copying(3, 0))
	stepsAre(t, "a block that only the new image has twice", letterImage("ab"), letterImage("zz"), putting(0, "zzzzzzzz"), putting(1, "zzzzzzzz"))
	stepsAre(t, "a nearer block in front", []string{"aaaaaaab", "zzzzzzzz", "aaaaaaaa"}, []string{"aaaaaaab", "aaaaaaaa", "aaaaaaaa"}, copying(1, 2))
	stepsAre(t, "the last of eight", letterImage("abcdefgh"), letterImage("hbcdefgh"), copying(0, 7))
}

// changedAt has other bytes at the given places.
func changedAt(b string, places ...int) string {
	changed := []byte(b)
	for i, at := range places {
		changed[at] ^= byte(i + 1)
	}
	return string(changed)
}

func TestStepsForBlocksThatDifferInSomeBytes(t *testing.T) {
	old := []string{"zzzzzzzz", "abcdefgh", zeros8}
	for i := range impl.BlockSize {
		one := changedAt(old[1], i)
		stepsAre(t, "one byte", old, []string{"zzzzzzzz", one, zeros8}, xoring(1, 1, impl.Xored(one, old[1])))
		stepsAre(t, "one byte of another block", old, []string{one, "abcdefgh", zeros8}, xoring(0, 1, impl.Xored(one, old[1])))
		for j := range i {
			two := changedAt(old[1], i, j)
			stepsAre(t, "two bytes", old, []string{"zzzzzzzz", "abcdefgh", two}, xoring(2, 1, impl.Xored(two, old[1])))
			for k := range j {
				three := changedAt(old[1], i, j, k)
				stepsAre(t, "three bytes", old, []string{"zzzzzzzz", three, zeros8}, putting(1, three))
				stepsAre(t, "three bytes of another block", old, []string{three, "abcdefgh", zeros8}, putting(0, three))
			}
		}
		few := zeros8[:i] + "\x80" + zeros8[i+1:]
		stepsAre(t, "one byte beside zero bytes", old, []string{few, "abcdefgh", zeros8}, xoring(0, 2, few))
	}
	stepsAre(t, "every byte", old, []string{"ABCDEFGH", "abcdefgh", zeros8}, putting(0, "ABCDEFGH"))
}

func TestStepsForTheFirstNearBlock(t *testing.T) {
	two, one, three := "aaaaaaBB", "aaaaaaaB", "aaaaaCCC"
	want := "aaaaaaaa"
	rest := []string{"zzzzzzzz", "yyyyyyyy"}
	for _, k := range []struct {
		what string
		near []string
		from int64
		data string
	}{
		{"two bytes in front of one", []string{two, one, three}, 0, zeros8[2:] + "##"},
		{"one byte in front of two", []string{one, two, three}, 0, zeros8[1:] + "#"},
		{"three bytes in front", []string{three, two, one}, 1, zeros8[2:] + "##"},
		{"equal blocks", []string{three, one, one}, 1, zeros8[1:] + "#"},
	} {
		old := slices.Concat(k.near, rest)
		for to := range old {
			fresh := slices.Clone(old)
			fresh[to] = want
			stepsAre(t, k.what, old, fresh, xoring(int64(to), k.from, k.data))
		}
	}
}

func TestStepsForOfSomeAndAllBlocks(t *testing.T) {
	old := patternImage(impl.MaxBlocks)
	fresh := letterImage("abcdefgh")
	for changed := range 1 << impl.MaxBlocks {
		if t.Failed() {
			return
		}
		mixed := slices.Clone(old)
		var want []impl.Step
		for to := range old {
			if changed>>to&1 == 1 {
				mixed[to] = fresh[to]
				want = append(want, putting(int64(to), fresh[to]))
			}
		}
		stepsAre(t, "some blocks", old, mixed, want...)
		imageOutIs(t, "some blocks", impl.ImageApply(old, want), mixed)
	}
}

func TestStepsForEqualImages(t *testing.T) {
	for _, v := range validImages() {
		stepsAre(t, v.what, v.image, slices.Clone(v.image))
		stepsAre(t, v.what, v.image, v.image)
	}
}

func TestStepsForDifferentNumbersOfBlocks(t *testing.T) {
	for _, v := range validImages() {
		for _, w := range validImages() {
			if len(v.image) != len(w.image) {
				stepsAre(t, v.what+" and "+w.what, v.image, w.image)
			}
		}
	}
}

func TestStepsForInvalidImages(t *testing.T) {
	for _, v := range append(invalidImages(), hugeImages()...) {
		for _, w := range validImages() {
			stepsAre(t, v.what+" to "+w.what, v.image, w.image)
			stepsAre(t, w.what+" to "+v.what, w.image, v.image)
		}
		changed := slices.Clone(v.image)
		for i := range changed {
			changed[i] = "changed" + changed[i]
		}
		stepsAre(t, "both invalid: "+v.what, v.image, changed)
		if len(v.image) > 1 {
			changed = slices.Clone(v.image)
			slices.Reverse(changed)
			stepsAre(t, "both invalid, of the same blocks: "+v.what, v.image, changed)
		}
	}
}

// differing returns the number of places where two blocks differ.
func differing(a string, b string) int {
	count := impl.BlockSize
	for i := range impl.BlockSize {
		if a[i] == b[i] {
			count--
		}
	}
	return count
}

// stepExpected looks for the first old block within each distance in turn.
func stepExpected(old []string, fresh string, to int64) impl.Step {
	if strings.Count(fresh, "\x00") == impl.BlockSize {
		return zeroing(to)
	}
	for from, b := range old {
		if b == fresh {
			return copying(to, int64(from))
		}
	}
	for from, b := range old {
		if differing(b, fresh) < 3 {
			var data []byte
			for i := range fresh {
				data = append(data, b[i]^fresh[i])
			}
			return xoring(to, int64(from), string(data))
		}
	}
	return putting(to, fresh)
}

func stepsExpected(old []string, fresh []string) []impl.Step {
	var l []impl.Step
	for to := range old {
		if old[to] != fresh[to] {
			l = append(l, stepExpected(old, fresh[to], int64(to)))
		}
	}
	return l
}

// checkDifference reports whether the steps are the expected ones and transform old into fresh.
func checkDifference(t *testing.T, old []string, fresh []string) []impl.Step {
	t.Helper()
	l := impl.StepsFor(old, fresh)
	writesAre(t, "the difference", l, stepsExpected(old, fresh))
	codeIs(t, "the difference", l, int64(len(old)), impl.OK)
	imageOutIs(t, "the difference applied", impl.ImageApply(old, l), fresh)
	if len(l) == 0 && !slices.Equal(old, fresh) || len(l) > 0 && slices.Equal(old, fresh) {
		t.Errorf("%x and %x have %d steps", old, fresh, len(l))
	}
	return l
}

func TestTheDifferenceTransformsAllSmallImages(t *testing.T) {
	values := []string{zeros8, "aaaaaaaa", "aaaaaaab", "aaaaabbb", "caaaaaaa", zeros8[1:] + "a", data8}
	var images [][]string
	for _, a := range values {
		for _, b := range values {
			images = append(images, []string{a, b})
			for _, c := range values[:4] {
				images = append(images, []string{a, b, c})
			}
		}
	}
	for _, old := range images {
		if t.Failed() {
			return
		}
		for _, fresh := range images {
			if len(old) == len(fresh) {
				checkDifference(t, old, fresh)
			} else {
				stepsAre(t, "different numbers of blocks", old, fresh)
			}
		}
	}
}

// edited changes some bytes of some blocks, and moves others.
func edited(next func(limit int) int, old []string) []string {
	fresh := slices.Clone(old)
	for i := range fresh {
		switch next(5) {
		case 0:
			fresh[i] = old[next(len(old))]
		case 1:
			fresh[i] = arbitraryData(next)
		case 2:
			fresh[i] = changedAt(old[next(len(old))], next(8), next(8), next(8))
		case 3:
			fresh[i] = changedAt(old[i], next(8), next(8))
		}
	}
	return fresh
}

func TestTheDifferenceTransformsArbitraryImages(t *testing.T) {
	next := numbers(23)
	kinds := map[int64]int{}
	for range 20000 {
		if t.Failed() {
			return
		}
		old := arbitraryImage(next, 1+next(impl.MaxBlocks))
		for _, s := range checkDifference(t, old, edited(next, old)) {
			kinds[s.Kind]++
		}
		checkDifference(t, old, arbitraryImage(next, len(old)))
	}
	for kind := int64(impl.StZero); kind <= impl.StXor; kind++ {
		if kinds[kind] < 2000 {
			t.Errorf("there were only %d steps of the kind %d", kinds[kind], kind)
		}
	}
}

// withRoomBehind has the same elements and room for more.
func withRoomBehind[T any](l []T) []T {
	return append(make([]T, 0, 2*len(l)+impl.MaxSteps), l...)
}

// onlyHas checks that nothing was changed, nor written behind the end.
func onlyHas[T comparable](t *testing.T, what string, got []T, want []T) {
	t.Helper()
	var zero T
	if !slices.Equal(got, want) {
		t.Errorf("%s: changed to %s", what, shown(got))
	}
	for _, v := range got[len(got):cap(got)] {
		if v != zero {
			t.Errorf("%s: written behind the end", what)
		}
	}
}

// overwriteBlocks changes all elements and the room behind them.
func overwriteBlocks(l []string) {
	l = l[:cap(l)]
	for i := range l {
		l[i] = "overwritten"
	}
}

func TestImagesAreNewAndArgumentsNotChanged(t *testing.T) {
	lists := append(listsOfEachCode(), namedSteps{"an exchange", []impl.Step{copying(1, 0), copying(0, 1)}, impl.OK})
	for _, l := range lists {
		for _, v := range []namedImage{{"valid", letterImage("ab")}, {"invalid", []string{"a", "b"}}} {
			image, steps := withRoomBehind(v.image), withRoomBehind(l.steps)
			first := impl.ImageApply(image, steps).Image
			before := slices.Clone(first)
			overwriteBlocks(impl.ImageApply(image, steps).Image)
			blocksAre(t, "the first result", first, before)
			impl.ImageRight(image)
			impl.ImageDigest(image)
			impl.MadeBy(image, copying(1, 0))
			onlyHas(t, "the image", image, v.image)
			onlyHas(t, "the steps", steps, l.steps)
		}
	}
}

func TestStepsForAreNewAndArgumentsNotChanged(t *testing.T) {
	for _, v := range validImages() {
		for _, w := range append(validImages(), invalidImages()[:4]...) {
			old, fresh := withRoomBehind(v.image), withRoomBehind(w.image)
			first := impl.StepsFor(old, fresh)
			before := slices.Clone(first)
			second := impl.StepsFor(old, fresh)
			second = second[:cap(second)]
			for i := range second {
				second[i] = label(99)
			}
			writesAre(t, "the first result", first, before)
			onlyHas(t, "old", old, v.image)
			onlyHas(t, "fresh", fresh, w.image)
		}
	}
}

package tests

import (
	"crypto/sha256"
	"encoding/binary"
	"hash/crc32"
	"math"
	"slices"
	"strings"
	"testing"

	"loop.example/g00668/impl"
)

// digest32 is as long as a digest.
const digest32 = "0123456789abcdefghijklmnopqrstuv"

func packageIs(t *testing.T, what string, got impl.Package, want impl.Package) {
	t.Helper()
	if got.Blocks != want.Blocks || got.Digest != want.Digest || !slices.Equal(got.Steps, want.Steps) {
		t.Errorf("%s: got %s, want %s", what, shown(got), shown(want))
	}
}

func packageOutIs(t *testing.T, what string, got impl.PackageOut, want impl.Package) {
	t.Helper()
	if got.Code != impl.OK {
		t.Errorf("%s: the code is %d", what, got.Code)
	}
	packageIs(t, what, got.Package, want)
}

func packageFails(t *testing.T, what string, got impl.PackageOut, code int64) {
	t.Helper()
	if got.Code != code || got.Package.Blocks != 0 || got.Package.Digest != "" || len(got.Package.Steps) != 0 {
		t.Errorf("%s: got %s, want the code %d", what, shown(got), code)
	}
}

func fitsWith(t *testing.T, what string, p impl.Package, old []string, code int64) {
	t.Helper()
	if got := impl.PackageFits(p, old); got != code {
		t.Errorf("%s: PackageFits(%s, %s) = %d, want %d", what, shown(p), shown(old), got, code)
	}
}

// packageValid counts and compares by itself what the program leaves to StepsCode.
func packageValid(p impl.Package) bool {
	return p.Blocks >= 1 && p.Blocks <= 8 && len(p.Digest) == 32 && len(p.Steps) <= 20 && listCode(p.Steps, p.Blocks) == impl.OK
}

// packageWriter encodes any package, also an invalid one, with one number in a longer form than necessary.
type packageWriter struct {
	longAt int
	more   int
	count  int
}

func (w *packageWriter) num(n int64) string {
	w.count++
	if w.count-1 == w.longAt {
		return longer(n, w.more)
	}
	return string(binary.AppendVarint(nil, n))
}

func (w *packageWriter) text(t string) string {
	return w.num(int64(len(t))) + t
}

func (w *packageWriter) step(s impl.Step) string {
	numbers := w.num(s.Kind) + w.num(s.To) + w.num(s.From)
	return w.text(numbers + w.text(s.Data))
}

func (w *packageWriter) body(p impl.Package) string {
	b := w.num(p.Blocks) + w.text(p.Digest) + w.num(int64(len(p.Steps)))
	for _, s := range p.Steps {
		b += w.step(s)
	}
	return b
}

func packageBody(p impl.Package) string {
	w := packageWriter{longAt: -1}
	return w.body(p)
}

func sealed(body string) string {
	return string(binary.LittleEndian.AppendUint32([]byte(body), crc32.ChecksumIEEE([]byte(body))))
}

// bodyReader decodes without telling one error from another.
type bodyReader struct {
	rest   string
	failed bool
}

func (r *bodyReader) num() int64 {
	n, size := binary.Varint([]byte(r.rest))
	if size <= 0 {
		r.failed = true
		return 0
	}
	r.rest = r.rest[size:]
	return n
}

func (r *bodyReader) text() string {
	size := r.num()
	if size < 0 || size > int64(len(r.rest)) {
		r.failed = true
		return ""
	}
	t := r.rest[:size]
	r.rest = r.rest[size:]
	return t
}

// packageWithin reports whether a body is that of a valid package.
func packageWithin(body string) (impl.Package, bool) {
	r := bodyReader{rest: body}
	p := impl.Package{Blocks: r.num(), Digest: r.text()}
	for range min(r.num(), impl.MaxSteps+1) {
		step := bodyReader{rest: r.text()}
		p.Steps = append(p.Steps, impl.Step{Kind: step.num(), To: step.num(), From: step.num(), Data: step.text()})
		r.failed = r.failed || step.failed
	}
	return p, !r.failed && packageValid(p) && packageBody(p) == body
}

// checkBody seals a body and checks how it is decoded; it reports whether it is that of a package.
func checkBody(t *testing.T, what string, body string) bool {
	t.Helper()
	p, there := packageWithin(body)
	if there {
		packageOutIs(t, what, impl.PackageRead(sealed(body)), p)
	} else {
		packageFails(t, what, impl.PackageRead(sealed(body)), impl.ErrSyntax)
	}
	return there
}

type namedPackage struct {
	what string
	p    impl.Package
}

func package32(blocks int64, steps ...impl.Step) impl.Package {
	return impl.Package{Blocks: blocks, Digest: digest32, Steps: steps}
}

// mixedSteps are of all kinds, for 5 blocks.
func mixedSteps() []impl.Step {
	return []impl.Step{label(0), zeroing(1), putting(4, data8), label(63), label(64), copying(0, 4), copying(2, 2), label(8192), xoring(3, 0, ones8), label(impl.MaxTime)}
}

// mostSteps are MaxSteps steps for MaxBlocks blocks.
func mostSteps() []impl.Step {
	var l []impl.Step
	for to := range int64(impl.MaxBlocks) {
		l = append(l, label(to*1000), xoring(to, 7-to, data8))
	}
	return append(l, labels(impl.MaxTime-3, impl.MaxTime-2, impl.MaxTime-1, impl.MaxTime)...)
}

func validPackages() []namedPackage {
	l := []namedPackage{
		{"all kinds", package32(5, mixedSteps()...)},
		{"all kinds for more blocks", package32(impl.MaxBlocks, mixedSteps()...)},
		{"one label", package32(1, label(7))},
		{"MaxSteps labels", package32(1, labels(upTo(100, 100+impl.MaxSteps)...)...)},
		{"MaxSteps - 1 steps", package32(impl.MaxBlocks, mostSteps()[1:]...)},
		{"MaxSteps steps", package32(impl.MaxBlocks, mostSteps()...)},
		{"a digest of zero bytes", impl.Package{Blocks: 1, Digest: strings.Repeat("\x00", 32)}},
		{"a digest of ones", impl.Package{Blocks: 1, Digest: strings.Repeat("\xff", 32), Steps: labels(0)}},
		{"an empty list", impl.Package{Blocks: 3, Digest: pattern(32), Steps: []impl.Step{}}},
	}
	for blocks := int64(1); blocks <= impl.MaxBlocks; blocks++ {
		l = append(l, namedPackage{"no steps", package32(blocks)})
		from := min(1, blocks-1)
		for _, s := range []impl.Step{zeroing(blocks - 1), putting(blocks-1, data8), copying(blocks-1, from), xoring(blocks-1, from, data8), label(blocks)} {
			l = append(l, namedPackage{"one step", package32(blocks, s)}, namedPackage{"one step and labels", package32(blocks, label(0), s, label(impl.MaxTime))})
		}
	}
	return l
}

func invalidPackages() []namedPackage {
	l := []namedPackage{
		{"the zero package", impl.Package{}},
		{"no digest", impl.Package{Blocks: 2}},
		{"no digest beside steps", impl.Package{Blocks: 5, Steps: mixedSteps()}},
		{"MaxSteps + 1 labels", package32(2, labels(upTo(0, impl.MaxSteps+1)...)...)},
		{"MaxSteps + 1 steps", package32(impl.MaxBlocks, slices.Insert(mostSteps(), 1, label(1))...)},
		{"MaxList labels", package32(2, labels(upTo(0, impl.MaxList)...)...)},
		{"MaxList + 1 labels", package32(2, labels(upTo(0, impl.MaxList+1)...)...)},
		{"5000 zero steps", package32(2, make([]impl.Step, 5000)...)},
	}
	for _, size := range []int{1, 16, 31, 33, 64, 1 << 10, impl.MaxBytes, impl.MaxBytes + 1} {
		l = append(l, namedPackage{"a digest of another size", impl.Package{Blocks: 2, Digest: pattern(size), Steps: labels(1)}})
		l = append(l, namedPackage{"a digest of another size without steps", impl.Package{Blocks: 2, Digest: pattern(size)}})
	}
	for _, blocks := range edgeBlocks() {
		if blocks < 1 || blocks > impl.MaxBlocks {
			l = append(l, namedPackage{"another number of blocks", package32(blocks)}, namedPackage{"another number of blocks with a label", package32(blocks, label(1))})
			l = append(l, namedPackage{"another number of blocks with a write", package32(blocks, zeroing(0))})
		}
	}
	for blocks := int64(1); blocks <= impl.MaxBlocks; blocks++ {
		for _, s := range []impl.Step{zeroing(blocks), putting(blocks, data8), copying(blocks, 0), copying(0, blocks), xoring(blocks, 0, data8), xoring(0, blocks, data8)} {
			l = append(l, namedPackage{"a step that needs one block more", package32(blocks, s)}, namedPackage{"one among others that needs one block more", package32(blocks, label(1), s, label(2))})
		}
	}
	for _, s := range listsOfEachCode() {
		if s.code != impl.OK {
			l = append(l, namedPackage{s.what, package32(2, s.steps...)})
		}
	}
	return l
}

func TestPackageExamples(t *testing.T) {
	old, fresh := letterImage("ab"), letterImage("bb")
	p := impl.PackageOf(old, fresh).Package
	packageIs(t, "the package", p, impl.Package{Blocks: 2, Digest: impl.Digest("bbbbbbbbbbbbbbbb"), Steps: []impl.Step{copying(0, 1), label(1)}})
	fitsWith(t, "the first image", p, old, impl.OK)
	fitsWith(t, "one block", p, old[:1], impl.ErrRange)
	p.Digest = impl.Digest("another")
	fitsWith(t, "another digest", p, old, impl.ErrSum)
}

func TestPackageRight(t *testing.T) {
	for _, v := range validPackages() {
		if !packageValid(v.p) || !impl.PackageRight(v.p) {
			t.Errorf("%s: %s is not accepted", v.what, shown(v.p))
		}
	}
	for _, v := range invalidPackages() {
		if packageValid(v.p) || impl.PackageRight(v.p) {
			t.Errorf("%s: %s is accepted", v.what, shown(v.p))
		}
	}
}

func TestPackageRightOfEveryStep(t *testing.T) {
	for _, s := range edgeSteps() {
		for _, blocks := range []int64{0, 1, 2, impl.MaxBlocks, impl.MaxBlocks + 1} {
			if got, want := impl.PackageRight(package32(blocks, s)), stepValid(s, blocks); got != want {
				t.Fatalf("PackageRight with %d blocks and %s is %t", blocks, shown(s), got)
			}
		}
	}
}

// checkPackage checks the package from one image to another one with the same number of blocks.
func checkPackage(t *testing.T, what string, old []string, fresh []string) impl.Package {
	t.Helper()
	out := impl.PackageOf(old, fresh)
	sum := sha256.Sum256([]byte(strings.Join(fresh, "")))
	packageOutIs(t, what, out, impl.Package{Blocks: int64(len(old)), Digest: string(sum[:]), Steps: append(stepsExpected(old, fresh), label(1))})
	fitsWith(t, what, out.Package, old, impl.OK)
	imageOutIs(t, what, impl.ImageApply(old, out.Package.Steps), fresh)
	packageOutIs(t, what, impl.PackageRead(impl.PackageBytes(out.Package)), out.Package)
	return out.Package
}

func TestPackageOfEqualImages(t *testing.T) {
	for _, v := range validImages() {
		p := checkPackage(t, v.what, v.image, slices.Clone(v.image))
		writesAre(t, v.what, p.Steps, labels(1))
		checkPackage(t, v.what, v.image, v.image)
	}
}

func TestPackageOfImagesThatDifferInSomeBlocks(t *testing.T) {
	old, other := patternImage(impl.MaxBlocks), []string{zeros8, "bbbbbbbb", "cccccccc", "cccccccd", ones8, "", "", ""}
	other[5], other[6], other[7] = old[0], changedAt(old[1], 2, 7), changedAt(old[2], 1, 3, 5)
	kinds := map[int64]int{}
	for changed := range 1 << impl.MaxBlocks {
		if t.Failed() {
			return
		}
		fresh := slices.Clone(old)
		count := 0
		for to := range old {
			if changed>>to&1 == 1 {
				fresh[to] = other[to]
				count++
			}
		}
		p := checkPackage(t, "some blocks", old, fresh)
		if len(p.Steps) != count+1 {
			t.Errorf("%d blocks differ, and there are %d steps", count, len(p.Steps))
		}
		for _, s := range p.Steps {
			kinds[s.Kind]++
		}
	}
	for kind := int64(impl.StZero); kind <= impl.StLabel; kind++ {
		if kinds[kind] < 128 {
			t.Errorf("there were only %d steps of the kind %d", kinds[kind], kind)
		}
	}
}

func TestPackagesOfArbitraryImagesFitTheFirstOne(t *testing.T) {
	next := numbers(31)
	for range 10000 {
		if t.Failed() {
			return
		}
		old := arbitraryImage(next, 1+next(impl.MaxBlocks))
		checkPackage(t, "an edited image", old, edited(next, old))
		checkPackage(t, "an arbitrary image", old, arbitraryImage(next, len(old)))
	}
}

func TestPackageOfDifferentNumbersOfBlocks(t *testing.T) {
	for _, v := range validImages() {
		for _, w := range validImages() {
			if len(v.image) == len(w.image) {
				checkPackage(t, v.what+" to "+w.what, v.image, w.image)
			} else {
				packageFails(t, v.what+" to "+w.what, impl.PackageOf(v.image, w.image), impl.ErrForm)
			}
		}
	}
}

func TestPackageOfInvalidImages(t *testing.T) {
	for _, v := range invalidImages() {
		for _, w := range validImages() {
			packageFails(t, v.what+" to "+w.what, impl.PackageOf(v.image, w.image), impl.ErrForm)
			packageFails(t, w.what+" to "+v.what, impl.PackageOf(w.image, v.image), impl.ErrForm)
		}
		packageFails(t, v.what+" to itself", impl.PackageOf(v.image, v.image), impl.ErrForm)
		packageFails(t, v.what+" to nothing", impl.PackageOf(v.image, nil), impl.ErrForm)
	}
}

func TestPackageOfSizeLimitsComeFirst(t *testing.T) {
	for _, v := range hugeImages() {
		for _, w := range slices.Concat(validImages(), invalidImages(), hugeImages()) {
			packageFails(t, v.what+" to "+w.what, impl.PackageOf(v.image, w.image), impl.ErrSize)
			packageFails(t, w.what+" to "+v.what, impl.PackageOf(w.image, v.image), impl.ErrSize)
		}
	}
}

func TestPackageBytesOfKnownPackages(t *testing.T) {
	known := []struct {
		p    impl.Package
		body string
	}{
		{package32(1), "\x02\x40" + digest32 + "\x00"},
		{package32(8), "\x10\x40" + digest32 + "\x00"},
		{package32(2, copying(0, 1), label(1)), "\x04\x40" + digest32 + "\x04\x08\x06\x00\x02\x00\x08\x0a\x00\x02\x00"},
		{package32(3, putting(2, data8)), "\x06\x40" + digest32 + "\x02\x18\x04\x04\x00\x10" + data8},
		{package32(3, label(64), zeroing(1), xoring(0, 2, ones8)), "\x06\x40" + digest32 + "\x06\x0a\x0a\x00\x80\x01\x00\x08\x02\x02\x00\x00\x18\x08\x00\x04\x10" + ones8},
	}
	for _, k := range known {
		textIs(t, "a known package", impl.PackageBytes(k.p), impl.Seal(k.body))
		textIs(t, "a known package", impl.PackageBytes(k.p), sealed(k.body))
		packageOutIs(t, "a known package", impl.PackageRead(sealed(k.body)), k.p)
	}
}

func TestPackagesAreDecodedFromTheirEncodings(t *testing.T) {
	for _, v := range validPackages() {
		text := impl.PackageBytes(v.p)
		textIs(t, v.what, text, sealed(packageBody(v.p)))
		packageOutIs(t, v.what, impl.PackageRead(text), v.p)
	}
	for blocks := int64(1); blocks <= impl.MaxBlocks; blocks++ {
		for _, s := range validSteps(blocks) {
			p := package32(blocks, s)
			packageOutIs(t, "a valid step", impl.PackageRead(impl.PackageBytes(p)), p)
		}
	}
}

func TestArbitraryPackagesAreDecodedFromTheirEncodings(t *testing.T) {
	next := numbers(37)
	for range 10000 {
		if t.Failed() {
			return
		}
		blocks := 1 + next(impl.MaxBlocks)
		p := impl.Package{Blocks: int64(blocks), Digest: pattern(32 + next(1000))[:32], Steps: arbitraryList(next, blocks)}
		text := impl.PackageBytes(p)
		textIs(t, "an arbitrary package", text, sealed(packageBody(p)))
		packageOutIs(t, "an arbitrary package", impl.PackageRead(text), p)
	}
}

func TestInvalidPackagesHaveNoEncoding(t *testing.T) {
	for _, v := range invalidPackages() {
		textIs(t, v.what, impl.PackageBytes(v.p), "")
		body := packageBody(v.p)
		want := int64(impl.ErrSyntax)
		if len(body)+4 > impl.MaxBytes {
			want = impl.ErrSize
		}
		packageFails(t, v.what, impl.PackageRead(sealed(body)), want)
	}
}

func TestPackagesWithAChangedByteAreRejected(t *testing.T) {
	for _, v := range validPackages() {
		if t.Failed() {
			return
		}
		text := impl.PackageBytes(v.p)
		for at := range len(text) {
			for change := 1; change < 256; change++ {
				changed := []byte(text)
				changed[at] ^= byte(change)
				packageFails(t, v.what, impl.PackageRead(string(changed)), impl.ErrSum)
			}
		}
	}
}

func TestNoPrefixOfAPackageIsOne(t *testing.T) {
	for _, v := range validPackages() {
		text := impl.PackageBytes(v.p)
		for end := range len(text) {
			want := int64(impl.ErrSum)
			if end < 4 {
				want = impl.ErrShort
			}
			packageFails(t, v.what, impl.PackageRead(text[:end]), want)
		}
		body := packageBody(v.p)
		for end := range len(body) {
			packageFails(t, v.what+", sealed again", impl.PackageRead(sealed(body[:end])), impl.ErrSyntax)
		}
	}
}

func TestPackagesWithBytesBehindThemAreRejected(t *testing.T) {
	for _, v := range validPackages() {
		text, body := impl.PackageBytes(v.p), packageBody(v.p)
		for _, more := range []string{"\x00", "\x01", "x", "\x80", "\xff", "\x00\x00\x00\x00", data8, "\x08\x0a\x00\x02\x00", text} {
			packageFails(t, v.what, impl.PackageRead(text+more), impl.ErrSum)
			packageFails(t, v.what+", in front", impl.PackageRead(more+text), impl.ErrSum)
			packageFails(t, v.what+", sealed again", impl.PackageRead(sealed(body+more)), impl.ErrSyntax)
		}
		packageFails(t, v.what+", sealed twice", impl.PackageRead(sealed(text)), impl.ErrSyntax)
	}
}

func TestPackageReadOfContentsThatAreNotSealed(t *testing.T) {
	for _, text := range []string{"", "a", "abc", "\x00\x00\x00"} {
		packageFails(t, "fewer than four bytes", impl.PackageRead(text), impl.ErrShort)
	}
	for _, text := range []string{"abcd", "\x00\x00\x00\x01", "\xff\xff\xff\xff", packageBody(package32(2, label(1))), pattern(100), pattern(impl.MaxBytes)} {
		packageFails(t, "a wrong checksum", impl.PackageRead(text), impl.ErrSum)
	}
	for _, size := range []int{impl.MaxBytes + 1, impl.MaxBytes + 2, 100000} {
		packageFails(t, "beyond MaxBytes", impl.PackageRead(pattern(size)), impl.ErrSize)
		packageFails(t, "beyond MaxBytes, but sealed", impl.PackageRead(sealed(pattern(size-4))), impl.ErrSize)
		body := packageBody(package32(2, label(1)))
		packageFails(t, "a package with bytes beyond MaxBytes", impl.PackageRead(sealed(body+pattern(size-4-len(body)))), impl.ErrSize)
	}
	packageFails(t, "MaxBytes, sealed", impl.PackageRead(sealed(pattern(impl.MaxBytes-4))), impl.ErrSyntax)
}

func TestPackageReadOfOtherContents(t *testing.T) {
	front := "\x04\x40" + digest32
	one := "\x08\x0a\x00\x02\x00"
	for _, body := range []string{
		"", "\x00", "\x04", "\x80", "\x02\x40", "\x02\x40" + digest32, front, digest32, "\x04\x00\x00", "\x04\x3e" + digest32[1:] + "\x00", "\x04\x42" + digest32 + "w\x00", "\x04\x41" + digest32 + "\x00",
		"\x00\x40" + digest32 + "\x00", "\x12\x40" + digest32 + "\x00", "\x01\x40" + digest32 + "\x00", "\x03\x40" + digest32 + "\x00",
		front + "\x80", front + "\x80\x00", front + "\x02\x80", front + "\x02\x01", front + "\x02\x03", front + "\x02\x00", front + "\x02" + one[1:], front + "\x02\x06" + one[1:], front + "\x02\x0a" + one[1:], front + "\x02\x0a" + one[1:] + "\x00",
		front + "\x02\x07" + one[1:], front + "\x04" + one + "\x08", front + "\x02\x80\x7d" + pattern(impl.MaxBytes-100), front + "\x02\x82\x7d" + pattern(impl.MaxBytes-100),
		pattern(20), pattern(400), strings.Repeat("\x00", 400), strings.Repeat("\x02", 400), strings.Repeat("\x80", impl.MaxBytes-4), strings.Repeat("\xff", impl.MaxBytes-4),
	} {
		packageFails(t, "other contents", impl.PackageRead(sealed(body)), impl.ErrSyntax)
	}
	packageOutIs(t, "the contents of a package", impl.PackageRead(sealed(front+"\x02"+one)), package32(2, label(1)))
}

func TestPackageReadOfAnotherNumberOfSteps(t *testing.T) {
	edges := append([]int64{math.MinInt64, -1 << 32, -20, -2, 1 << 32, 1<<32 + 2, math.MaxInt64 - 1, math.MaxInt64}, upTo(-1, impl.MaxSteps+3)...)
	for have := range impl.MaxSteps + 3 {
		l := labels(upTo(1, int64(have+1))...)
		front := impl.PutNum(2) + impl.PutText(digest32)
		behind := strings.TrimPrefix(packageBody(package32(2, l...)), front+impl.PutNum(int64(have)))
		for _, count := range append(edges, impl.MaxList, impl.MaxList+1, impl.MaxBytes) {
			text := sealed(front + impl.PutNum(count) + behind)
			if count == int64(have) && have <= impl.MaxSteps {
				packageOutIs(t, "the number of steps", impl.PackageRead(text), package32(2, l...))
			} else {
				packageFails(t, "another number of steps", impl.PackageRead(text), impl.ErrSyntax)
			}
		}
	}
}

func TestPackageReadOfNumbersThatAreNotShortest(t *testing.T) {
	for _, v := range validPackages() {
		counter := packageWriter{longAt: -1}
		counter.body(v.p)
		if want := 3 + 5*len(v.p.Steps); counter.count != want {
			t.Fatalf("%s: %d numbers, want %d", v.what, counter.count, want)
		}
		for at := range counter.count {
			for more := 1; more <= 3; more++ {
				w := packageWriter{longAt: at, more: more}
				packageFails(t, v.what, impl.PackageRead(sealed(w.body(v.p))), impl.ErrSyntax)
			}
		}
	}
}

func TestPackageReadOfEveryStep(t *testing.T) {
	for _, s := range edgeSteps() {
		if len(s.Data) > 100 {
			continue
		}
		if got, want := checkBody(t, "an edge step", packageBody(package32(3, s))), stepValid(s, 3); got != want {
			t.Fatalf("the model decodes %s: %t", shown(s), got)
		}
		if t.Failed() {
			return
		}
	}
}

func TestPackageReadOfChangedContents(t *testing.T) {
	accepted := 0
	check := func(what string, parts ...string) {
		if checkBody(t, what, strings.Join(parts, "")) {
			accepted++
		}
	}
	for _, v := range validPackages() {
		if t.Failed() {
			return
		}
		body := packageBody(v.p)
		for at := range len(body) {
			front, b, behind := body[:at], body[at], body[at+1:]
			for bit := range 8 {
				check("a changed bit", front, string([]byte{b ^ 1<<bit}), behind)
			}
			check("a removed byte", front, behind)
			for _, more := range []string{"\x00", "\x02", "\x80", "\xff", string([]byte{b})} {
				check("an inserted byte", front, more, body[at:])
			}
		}
	}
	if accepted < 1000 {
		t.Errorf("only %d changed bodies are those of packages", accepted)
	}
}

func TestPackageFits(t *testing.T) {
	image := []string{"abcdefgh", data8, zeros8}
	l := []impl.Step{label(0), xoring(2, 0, "        "), copying(0, 1), label(9)}
	p := impl.Package{Blocks: 3, Digest: impl.Digest(data8 + data8 + "ABCDEFGH"), Steps: l}
	fitsWith(t, "the image", p, image, impl.OK)
	fitsWith(t, "other contents of a block that is only written", p, []string{"abcdefgh", data8, ones8}, impl.OK)
	fitsWith(t, "other contents of a block that is copied", p, []string{"abcdefgh", "1234567_", zeros8}, impl.ErrSum)
	fitsWith(t, "other contents of a block that is read and written", p, []string{"abcdefg_", data8, zeros8}, impl.ErrSum)
	fitsWith(t, "the updated image", p, []string{data8, data8, "ABCDEFGH"}, impl.ErrSum)
	fitsWith(t, "the blocks in another order", p, []string{data8, "abcdefgh", zeros8}, impl.ErrSum)
	fitsWith(t, "a block fewer", p, image[:2], impl.ErrRange)
	fitsWith(t, "a block more", p, append(slices.Clone(image), zeros8), impl.ErrRange)
	p.Digest = impl.Digest(data8 + data8 + "ABCDEFG_")
	fitsWith(t, "another digest", p, image, impl.ErrSum)
	p.Digest = impl.ImageDigest(image)
	fitsWith(t, "the digest of the first image", p, image, impl.ErrSum)
	fitsWith(t, "no steps", impl.Package{Blocks: 3, Digest: impl.ImageDigest(image)}, image, impl.OK)
	fitsWith(t, "no steps and another digest", package32(3), image, impl.ErrSum)
	fitsWith(t, "a label", impl.Package{Blocks: 3, Digest: impl.ImageDigest(image), Steps: labels(5)}, image, impl.OK)
}

func TestPackageFitsWithOneChangedByteOfTheDigest(t *testing.T) {
	old := letterImage("abcd")
	p := impl.PackageOf(old, letterImage("dcba")).Package
	digest := p.Digest
	for at := range len(digest) {
		for bit := range 8 {
			changed := []byte(digest)
			changed[at] ^= 1 << bit
			p.Digest = string(changed)
			fitsWith(t, "a changed digest", p, old, impl.ErrSum)
		}
	}
	for _, size := range []int{0, 31} {
		p.Digest = digest[:size]
		fitsWith(t, "a digest that is too short", p, old, impl.ErrForm)
	}
	p.Digest = digest + "x"
	fitsWith(t, "a digest that is too long", p, old, impl.ErrForm)
}

func TestPackageFitsArbitraryImages(t *testing.T) {
	next := numbers(41)
	seen := map[int64]int{}
	for range 20000 {
		if t.Failed() {
			return
		}
		old := arbitraryImage(next, 1+next(impl.MaxBlocks))
		p := impl.PackageOf(old, edited(next, old)).Package
		other := edited(next, old)
		if next(8) == 0 {
			other = arbitraryImage(next, 1+next(impl.MaxBlocks))
		}
		sum := ""
		want := int64(impl.ErrRange)
		if len(other) == len(old) {
			made := sha256.Sum256([]byte(strings.Join(imageMade(other, p.Steps), "")))
			sum = string(made[:])
			want = impl.ErrSum
		}
		if sum == p.Digest {
			want = impl.OK
		}
		fitsWith(t, "an arbitrary image", p, other, want)
		seen[want]++
	}
	for _, code := range []int64{impl.OK, impl.ErrRange, impl.ErrSum} {
		if seen[code] < 1000 {
			t.Errorf("the code %d was expected only %d times", code, seen[code])
		}
	}
}

func TestPackageFitsChecksTheFormFirst(t *testing.T) {
	images := slices.Concat(validImages(), invalidImages(), hugeImages())
	for _, v := range invalidPackages() {
		if len(v.p.Steps) > 100 || len(v.p.Digest) > 100 {
			continue
		}
		for _, w := range images {
			fitsWith(t, v.what+" with "+w.what, v.p, w.image, impl.ErrForm)
		}
	}
	for _, v := range invalidPackages() {
		for _, image := range [][]string{nil, letterImage("a"), letterImage("ab"), {"a", "b"}, make([]string, impl.MaxList+1)} {
			fitsWith(t, v.what, v.p, image, impl.ErrForm)
		}
	}
	for _, v := range validPackages() {
		for _, w := range append(invalidImages(), hugeImages()...) {
			fitsWith(t, v.what+" with "+w.what, v.p, w.image, impl.ErrForm)
		}
	}
}

func TestPackageFitsChecksTheNumberOfBlocksBeforeTheDigest(t *testing.T) {
	for _, v := range validPackages() {
		for blocks := 1; blocks <= impl.MaxBlocks; blocks++ {
			image := patternImage(blocks)
			if int64(blocks) != v.p.Blocks {
				fitsWith(t, v.what+" with another digest", v.p, image, impl.ErrRange)
				p := v.p
				p.Digest = impl.ImageDigest(image)
				fitsWith(t, v.what+" with the digest of the image", p, image, impl.ErrRange)
				continue
			}
			fitsWith(t, v.what+" with another digest", v.p, image, impl.ErrSum)
			p := v.p
			p.Digest = impl.ImageDigest(imageMade(image, p.Steps))
			fitsWith(t, v.what+" with the digest of the result", p, image, impl.OK)
		}
	}
}

// overwriteSteps changes all elements and the room behind them.
func overwriteSteps(l []impl.Step) {
	l = l[:cap(l)]
	for i := range l {
		l[i] = label(99)
	}
}

func TestPackagesAreNewAndArgumentsNotChanged(t *testing.T) {
	images := append(validImages()[:6], invalidImages()[:4]...)
	for _, v := range images {
		for _, w := range images {
			old, fresh := withRoomBehind(v.image), withRoomBehind(w.image)
			first := impl.PackageOf(old, fresh).Package
			before := slices.Clone(first.Steps)
			overwriteSteps(impl.PackageOf(old, fresh).Package.Steps)
			writesAre(t, "the first result", first.Steps, before)
			onlyHas(t, "old", old, v.image)
			onlyHas(t, "fresh", fresh, w.image)
		}
	}
	for _, v := range append(validPackages(), invalidPackages()...) {
		p := v.p
		p.Steps = withRoomBehind(v.p.Steps)
		image := withRoomBehind(letterImage("abcde"))
		impl.PackageRight(p)
		impl.PackageFits(p, image)
		text := impl.PackageBytes(p)
		first := impl.PackageRead(text).Package
		before := slices.Clone(first.Steps)
		overwriteSteps(impl.PackageRead(text).Package.Steps)
		writesAre(t, "the first result", first.Steps, before)
		onlyHas(t, "the steps", p.Steps, v.p.Steps)
		onlyHas(t, "the image", image, letterImage("abcde"))
	}
}

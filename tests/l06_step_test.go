package tests

import (
	"encoding/binary"
	"fmt"
	"math"
	"slices"
	"strings"
	"testing"

	"loop.example/g00668/impl"
)

const data8 = "12345678"

const zeros8 = "\x00\x00\x00\x00\x00\x00\x00\x00"

// stepFields says which fields a kind of step has; its other ones have to be zero.
type stepFields struct {
	to     bool
	source bool
	number bool
	data   bool
}

func fieldsOf(kind int64) (stepFields, bool) {
	fields, there := map[int64]stepFields{
		1: {to: true},
		2: {to: true, data: true},
		3: {to: true, source: true},
		4: {to: true, source: true, data: true},
		5: {number: true},
	}[kind]
	return fields, there
}

// stepValid decides by a table what the program decides by types.
func stepValid(s impl.Step, blocks int64) bool {
	fields, there := fieldsOf(s.Kind)
	if !there || blocks < 1 || blocks > 8 {
		return false
	}
	toEnd, fromEnd, size := int64(1), int64(1), 0
	if fields.to {
		toEnd = blocks
	}
	if fields.source {
		fromEnd = blocks
	}
	if fields.number {
		fromEnd = 1000001
	}
	if fields.data {
		size = 8
	}
	return s.To >= 0 && s.To < toEnd && s.From >= 0 && s.From < fromEnd && len(s.Data) == size
}

// rawStep encodes any step, also an invalid one.
func rawStep(s impl.Step) string {
	var b []byte
	for _, n := range []int64{s.Kind, s.To, s.From, int64(len(s.Data))} {
		b = binary.AppendVarint(b, n)
	}
	return string(b) + s.Data
}

func edgeBlocks() []int64 {
	return append([]int64{math.MinInt64, -1 << 32, -8, 16, 1<<32 + 1, math.MaxInt64}, upTo(-1, impl.MaxBlocks+2)...)
}

// edgeSteps has every combination of edge values of the fields; few of them are valid.
func edgeSteps() []impl.Step {
	kinds := append([]int64{math.MinInt64, 128, 1<<32 + 1, math.MaxInt64}, upTo(-5, 8)...)
	tos := append([]int64{math.MinInt64, -1 << 32, 1 << 32, 1<<32 + 1, math.MaxInt64}, upTo(-2, 10)...)
	froms := append([]int64{63, 64, impl.MaxTime - 1, impl.MaxTime, impl.MaxTime + 1}, tos...)
	var l []impl.Step
	for _, kind := range kinds {
		for _, to := range tos {
			for _, from := range froms {
				for _, data := range []string{"", "1", data8[1:], data8, zeros8, data8 + "9", data8 + data8, pattern(impl.MaxBytes), pattern(impl.MaxBytes + 1)} {
					l = append(l, impl.Step{Kind: kind, To: to, From: from, Data: data})
				}
			}
		}
	}
	return l
}

// validSteps has steps of every kind for a number of blocks.
func validSteps(blocks int64) []impl.Step {
	var l []impl.Step
	for to := range blocks {
		l = append(l, impl.Step{Kind: impl.StZero, To: to})
		for _, data := range []string{data8, zeros8, "\xff\xff\xff\xff\xff\xff\xff\xff", pattern(impl.BlockSize)} {
			l = append(l, impl.Step{Kind: impl.StPut, To: to, Data: data})
			for from := range blocks {
				l = append(l, impl.Step{Kind: impl.StXor, To: to, From: from, Data: data})
			}
		}
		for from := range blocks {
			l = append(l, impl.Step{Kind: impl.StCopy, To: to, From: from})
		}
	}
	for number := int64(0); number <= impl.MaxTime; number += 997 {
		l = append(l, label(number))
	}
	for _, number := range []int64{1, 63, 64, 8191, 8192, impl.MaxTime - 1, impl.MaxTime} {
		l = append(l, label(number))
	}
	return l
}

func label(number int64) impl.Step {
	return impl.Step{Kind: impl.StLabel, From: number}
}

func zeroing(to int64) impl.Step {
	return impl.Step{Kind: impl.StZero, To: to}
}

// writesTo has a write of every kind to the same block.
func writesTo(to int64) []impl.Step {
	return []impl.Step{
		zeroing(to),
		{Kind: impl.StPut, To: to, Data: data8},
		{Kind: impl.StCopy, To: to, From: 1},
		{Kind: impl.StXor, To: to, From: 1, Data: data8},
	}
}

func labels(numbers ...int64) []impl.Step {
	var l []impl.Step
	for _, n := range numbers {
		l = append(l, label(n))
	}
	return l
}

// shown is short also for a value with a great list or text.
func shown(v any) string {
	text := fmt.Sprintf("%+q", fmt.Sprintf("%+v", v))
	return text[:min(len(text), 300)]
}

func readsAs(t *testing.T, text string, want impl.Step) {
	t.Helper()
	if got := impl.StepRead(text); got != (impl.StepOut{Step: want}) {
		t.Errorf("StepRead(%x) = %+v, want %+v", text, got, want)
	}
}

func readFails(t *testing.T, what string, text string, code int64) {
	t.Helper()
	if got := impl.StepRead(text); got != (impl.StepOut{Code: code}) {
		t.Errorf("%s: StepRead of %d bytes %.40x = %+v, want the code %d", what, len(text), text, got, code)
	}
}

func codeIs(t *testing.T, what string, l []impl.Step, blocks int64, want int64) {
	t.Helper()
	if got := impl.StepsCode(l, blocks); got != want {
		t.Errorf("%s: StepsCode(%s, %d) = %d, want %d", what, shown(l), blocks, got, want)
	}
}

func writesAre(t *testing.T, what string, got []impl.Step, want []impl.Step) {
	t.Helper()
	if !slices.Equal(got, want) {
		t.Errorf("%s: got %s, want %s", what, shown(got), shown(want))
	}
}

func TestStepConstants(t *testing.T) {
	listIs(t, "the kinds", []int64{impl.StZero, impl.StPut, impl.StCopy, impl.StXor, impl.StLabel}, []int64{1, 2, 3, 4, 5})
	listIs(t, "the limits", []int64{impl.MaxBlocks, impl.BlockSize, impl.MaxSteps}, []int64{8, 8, 20})
}

func TestStepExamples(t *testing.T) {
	if got := impl.StepBytes(impl.Step{Kind: impl.StCopy, To: 1, From: 2}); got != "\x06\x02\x04\x00" {
		t.Errorf("a copy from block 2 to block 1 is encoded as %x", got)
	}
	x := impl.Step{Kind: impl.StXor, To: 1, From: 2, Data: data8}
	if !impl.StepRight(x, 3) || impl.StepRight(x, 2) {
		t.Errorf("an StXor from block 2 is valid for 3 blocks: %t, for 2: %t", impl.StepRight(x, 3), impl.StepRight(x, 2))
	}
	codeIs(t, "two labels with the number 2", labels(2, 2), 4, impl.ErrRange)
}

func TestStepRightOfEveryKind(t *testing.T) {
	for blocks := int64(1); blocks <= impl.MaxBlocks; blocks++ {
		for _, s := range validSteps(blocks) {
			if !impl.StepRight(s, blocks) {
				t.Errorf("not accepted for %d blocks: %+v", blocks, s)
			}
			for _, outside := range []int64{0, -1, impl.MaxBlocks + 1, math.MinInt64, math.MaxInt64} {
				if impl.StepRight(s, outside) {
					t.Errorf("accepted for %d blocks: %+v", outside, s)
				}
			}
		}
	}
}

func TestStepRightOfInvalidSteps(t *testing.T) {
	for _, k := range []struct {
		what string
		step impl.Step
	}{
		{"the zero step", impl.Step{}},
		{"the kind 0", impl.Step{Kind: 0, To: 1}},
		{"the kind 6", impl.Step{Kind: 6}},
		{"the kind 6 with data", impl.Step{Kind: 6, To: 1, From: 1, Data: data8}},
		{"a zero step with From", impl.Step{Kind: impl.StZero, To: 1, From: 1}},
		{"a zero step with a negative From", impl.Step{Kind: impl.StZero, To: 1, From: -1}},
		{"a zero step with Data", impl.Step{Kind: impl.StZero, To: 1, Data: zeros8}},
		{"a put with From", impl.Step{Kind: impl.StPut, To: 1, From: 1, Data: data8}},
		{"a put without Data", impl.Step{Kind: impl.StPut, To: 1}},
		{"a put with a byte too few", impl.Step{Kind: impl.StPut, To: 1, Data: data8[1:]}},
		{"a put with a byte too many", impl.Step{Kind: impl.StPut, To: 1, Data: data8 + "9"}},
		{"a copy with Data", impl.Step{Kind: impl.StCopy, To: 1, From: 2, Data: data8}},
		{"a copy with a byte of Data", impl.Step{Kind: impl.StCopy, To: 1, From: 2, Data: "\x00"}},
		{"an xor without Data", impl.Step{Kind: impl.StXor, To: 1, From: 2}},
		{"an xor with a byte too few", impl.Step{Kind: impl.StXor, To: 1, From: 2, Data: data8[1:]}},
		{"an xor with a byte too many", impl.Step{Kind: impl.StXor, To: 1, From: 2, Data: data8 + "9"}},
		{"a label with To", impl.Step{Kind: impl.StLabel, To: 1, From: 2}},
		{"a label with a negative To", impl.Step{Kind: impl.StLabel, To: -1, From: 2}},
		{"a label with Data", impl.Step{Kind: impl.StLabel, From: 2, Data: data8}},
		{"a label with the number -1", label(-1)},
		{"a label with the number MaxTime + 1", label(impl.MaxTime + 1)},
	} {
		for _, blocks := range edgeBlocks() {
			if impl.StepRight(k.step, blocks) {
				t.Errorf("%s: accepted for %d blocks", k.what, blocks)
			}
		}
		if got := impl.StepBytes(k.step); got != "" {
			t.Errorf("%s: encoded as %x", k.what, got)
		}
	}
}

func TestStepRightAtTheLastBlock(t *testing.T) {
	for blocks := int64(1); blocks <= impl.MaxBlocks; blocks++ {
		for at := int64(-1); at <= blocks; at++ {
			want := at >= 0 && at < blocks
			for _, s := range []impl.Step{
				{Kind: impl.StZero, To: at},
				{Kind: impl.StPut, To: at, Data: data8},
				{Kind: impl.StCopy, To: at}, {Kind: impl.StCopy, From: at},
				{Kind: impl.StXor, To: at, Data: data8}, {Kind: impl.StXor, From: at, Data: data8},
			} {
				if got := impl.StepRight(s, blocks); got != want {
					t.Errorf("%+v for %d blocks: %t", s, blocks, got)
				}
			}
		}
	}
}

func TestStepRightAndBytesOfAllCombinations(t *testing.T) {
	sizes := edgeBlocks()
	for _, s := range edgeSteps() {
		for _, blocks := range sizes {
			if got, want := impl.StepRight(s, blocks), stepValid(s, blocks); got != want {
				t.Fatalf("StepRight(%s, %d) = %t, want %t", shown(s), blocks, got, want)
			}
		}
		want := ""
		if stepValid(s, impl.MaxBlocks) {
			want = rawStep(s)
		}
		if got := impl.StepBytes(s); got != want {
			t.Fatalf("StepBytes(%s) = %x, want %x", shown(s), got, want)
		}
	}
}

func TestStepBytesOfKnownSteps(t *testing.T) {
	known := []struct {
		step impl.Step
		want string
	}{
		{impl.Step{Kind: impl.StZero}, "\x02\x00\x00\x00"},
		{impl.Step{Kind: impl.StZero, To: 7}, "\x02\x0e\x00\x00"},
		{impl.Step{Kind: impl.StPut, To: 3, Data: data8}, "\x04\x06\x00\x1012345678"},
		{impl.Step{Kind: impl.StCopy, To: 0, From: 7}, "\x06\x00\x0e\x00"},
		{impl.Step{Kind: impl.StXor, To: 7, From: 6, Data: zeros8}, "\x08\x0e\x0c\x10" + zeros8},
		{label(0), "\x0a\x00\x00\x00"},
		{label(63), "\x0a\x00\x7e\x00"},
		{label(64), "\x0a\x00\x80\x01\x00"},
		{label(impl.MaxTime), "\x0a\x00\x80\x89\x7a\x00"},
	}
	for _, k := range known {
		if got := impl.StepBytes(k.step); got != k.want {
			t.Errorf("%+v is encoded as %x, want %x", k.step, got, k.want)
		}
		readsAs(t, k.want, k.step)
	}
}

func TestStepsAreDecodedFromTheirEncodings(t *testing.T) {
	for blocks := int64(1); blocks <= impl.MaxBlocks; blocks++ {
		for _, s := range validSteps(blocks) {
			text := impl.StepBytes(s)
			if text != rawStep(s) {
				t.Fatalf("%+v is encoded as %x", s, text)
			}
			readsAs(t, text, s)
		}
	}
}

func TestEncodingNeedsOnlyMaxBlocks(t *testing.T) {
	last := int64(impl.MaxBlocks - 1)
	for _, s := range []impl.Step{
		zeroing(last),
		{Kind: impl.StPut, To: last, Data: data8},
		{Kind: impl.StCopy, To: last},
		{Kind: impl.StCopy, From: last},
		{Kind: impl.StXor, From: last, Data: data8},
	} {
		for blocks := int64(1); blocks < impl.MaxBlocks; blocks++ {
			if impl.StepRight(s, blocks) {
				t.Errorf("accepted for %d blocks: %+v", blocks, s)
			}
			codeIs(t, "fewer blocks", []impl.Step{s}, blocks, impl.ErrForm)
		}
		readsAs(t, impl.StepBytes(s), s)
		codeIs(t, "MaxBlocks", []impl.Step{s}, impl.MaxBlocks, impl.OK)
	}
}

func TestStepReadOfTruncatedAndExtendedEncodings(t *testing.T) {
	for _, s := range validSteps(impl.MaxBlocks) {
		text := rawStep(s)
		for end := range len(text) {
			readFails(t, "truncated", text[:end], impl.ErrSyntax)
		}
		for _, more := range []string{"\x00", "\x01", "1", "\x80", "\xff", text, zeros8} {
			readFails(t, "extended", text+more, impl.ErrSyntax)
		}
		readFails(t, "a byte in front", "\x00"+text, impl.ErrSyntax)
	}
}

// longer encodes n with one or more bytes than necessary.
func longer(n int64, more int) string {
	b := binary.AppendVarint(nil, n)
	b[len(b)-1] |= 128
	for range more - 1 {
		b = append(b, 128)
	}
	return string(append(b, 0))
}

func TestStepReadOfNumbersThatAreNotShortest(t *testing.T) {
	for _, s := range validSteps(impl.MaxBlocks) {
		numbers := []int64{s.Kind, s.To, s.From, int64(len(s.Data))}
		for wrong := range numbers {
			for more := 1; more <= 7; more++ {
				text := ""
				for i, n := range numbers {
					if i == wrong {
						text += longer(n, more)
					} else {
						text += impl.PutNum(n)
					}
				}
				readFails(t, "not shortest", text+s.Data, impl.ErrSyntax)
			}
		}
	}
	if n, size := binary.Varint([]byte(longer(300, 2))); n != 300 || size != 4 {
		t.Errorf("the longer encoding of 300 contains %d in %d bytes", n, size)
	}
}

func TestStepReadOfInvalidSteps(t *testing.T) {
	for _, s := range edgeSteps() {
		text := rawStep(s)
		switch {
		case len(text) > impl.MaxBytes:
			readFails(t, "beyond MaxBytes", text, impl.ErrSize)
		case stepValid(s, impl.MaxBlocks):
			readsAs(t, text, s)
		default:
			readFails(t, "an invalid step", text, impl.ErrSyntax)
		}
	}
}

func TestStepReadOfMalformedTexts(t *testing.T) {
	endless := strings.Repeat("\x80", 9)
	for _, text := range []string{
		"", "\x00", "\x02", "\x80", "\xff", "abc", data8, zeros8, pattern(20), pattern(400), pattern(impl.MaxBytes), strings.Repeat("\x80", impl.MaxBytes),
		"\x00\x00\x00\x00", "\x0c\x00\x00\x00", "\x01\x00\x00\x00", "\x03\x00\x00\x00", "\x02\x01\x00\x00", "\x02\x10\x00\x00",
		"\x04\x00\x00\x0e12345678", "\x04\x00\x00\x1212345678", "\x04\x00\x00\x0f12345678", "\x04\x00\x00\x01",
		"\x04\x00\x00\x0e1234567", "\x04\x00\x00\x12123456789", "\x04\x00\x00\x10" + data8 + data8,
		"\x0a\x00\x82\x89\x7a\x00", "\x0a\x00\x01\x00", "\x0a\x02\x04\x00", "\x0a\x00\x04\x0212",
		"\x04\x00\x00\x82\x7d" + pattern(impl.MaxBytes-5), "\x04\x00\x00\x80\x7d" + pattern(impl.MaxBytes-5),
		"\x02" + endless + "\x01\x00\x00", "\x02" + endless + "\x02\x00\x00", "\x02" + endless + "\x80\x01\x00\x00", endless + "\x02\x00\x00\x00",
	} {
		readFails(t, "malformed", text, impl.ErrSyntax)
	}
}

func TestStepReadSizeLimit(t *testing.T) {
	const beyond = impl.MaxBytes + 1
	for _, s := range []impl.Step{zeroing(1), {Kind: impl.StXor, To: 1, From: 2, Data: data8}, label(5), {Kind: 6}} {
		text := rawStep(s)
		fill := strings.Repeat("\x00", impl.MaxBytes-len(text))
		readFails(t, "MaxBytes", text+fill, impl.ErrSyntax)
		readFails(t, "MaxBytes + 1", text+fill+"\x00", impl.ErrSize)
	}
	for _, text := range []string{pattern(beyond), strings.Repeat("\x00", beyond), strings.Repeat("\xff", beyond), pattern(100000)} {
		readFails(t, "beyond MaxBytes", text, impl.ErrSize)
	}
}

func TestNothingElseIsDecoded(t *testing.T) {
	valid := map[string]impl.Step{}
	for _, s := range edgeSteps() {
		if stepValid(s, impl.MaxBlocks) {
			valid[rawStep(s)] = s
		}
	}
	bytes := "\x00\x01\x02\x03\x04\x05\x06\x07\x08\x09\x0a\x0b\x0c\x0e\x10\x12\x7e\x7f\x80\x81\xff"
	for i := range len(bytes) {
		for j := range len(bytes) {
			for k := range len(bytes) {
				for _, last := range []string{"\x00", "\x01", "\x02", "\x80", "\x10" + data8, "\x10" + zeros8[1:]} {
					text := string([]byte{bytes[i], bytes[j], bytes[k]}) + last
					s, there := valid[text]
					if !there && bytes[i] == '\x0a' && bytes[j] == 0 && bytes[k]%2 == 0 && bytes[k] < 128 && last == "\x00" {
						s, there = label(int64(bytes[k]/2)), true
					}
					if there {
						readsAs(t, text, s)
					} else {
						readFails(t, "not an encoding", text, impl.ErrSyntax)
					}
				}
			}
		}
	}
}

func TestStepReadOfChangedEncodings(t *testing.T) {
	for _, s := range validSteps(impl.MaxBlocks) {
		text := rawStep(s)
		for i := range len(text) {
			for bit := range 8 {
				changed := []byte(text)
				changed[i] ^= 1 << bit
				out := impl.StepRead(string(changed))
				if out.Code == impl.ErrSyntax && out.Step == (impl.Step{}) {
					continue
				}
				if out.Code != impl.OK || !stepValid(out.Step, impl.MaxBlocks) || rawStep(out.Step) != string(changed) {
					t.Fatalf("%x is decoded as %+v", changed, out)
				}
			}
		}
	}
}

func TestStepsCodeOfEmptyLists(t *testing.T) {
	for _, blocks := range edgeBlocks() {
		want := int64(impl.OK)
		if blocks < 1 || blocks > impl.MaxBlocks {
			want = impl.ErrForm
		}
		codeIs(t, "nil", nil, blocks, want)
		codeIs(t, "empty", []impl.Step{}, blocks, want)
		codeIs(t, "a label", labels(1), blocks, want)
	}
}

func TestStepsCodeOfOneStep(t *testing.T) {
	for _, s := range edgeSteps() {
		for _, blocks := range []int64{-1, 0, 1, 2, 7, impl.MaxBlocks, impl.MaxBlocks + 1} {
			want := int64(impl.ErrForm)
			if stepValid(s, blocks) {
				want = impl.OK
			}
			if got := impl.StepsCode([]impl.Step{s}, blocks); got != want {
				t.Fatalf("StepsCode(%s, %d) = %d, want %d", shown(s), blocks, got, want)
			}
		}
	}
}

func TestStepsCodeOfTooManySteps(t *testing.T) {
	rising := labels(upTo(0, impl.MaxList+2)...)
	codeIs(t, "MaxSteps - 1 labels", rising[:impl.MaxSteps-1], 1, impl.OK)
	codeIs(t, "MaxSteps labels", rising[:impl.MaxSteps], 1, impl.OK)
	for _, count := range []int{impl.MaxSteps + 1, impl.MaxSteps + 2, impl.MaxList - 1, impl.MaxList, impl.MaxList + 1, impl.MaxList + 2} {
		codeIs(t, "too many labels", rising[:count], 1, impl.ErrForm)
		codeIs(t, "too many labels and an invalid number of blocks", rising[:count], 0, impl.ErrForm)
		codeIs(t, "too many equal writes", slices.Repeat([]impl.Step{zeroing(0)}, count), 1, impl.ErrForm)
		codeIs(t, "too many equal labels", slices.Repeat(labels(3), count), 1, impl.ErrForm)
		codeIs(t, "too many invalid steps", make([]impl.Step, count), 1, impl.ErrForm)
	}
	var full []impl.Step
	for to := range int64(impl.MaxBlocks) {
		full = append(full, label(2*to), zeroing(to))
	}
	full = append(full, labels(100, 101, 102, impl.MaxTime)...)
	codeIs(t, "MaxSteps steps", full, impl.MaxBlocks, impl.OK)
	codeIs(t, "MaxSteps steps, one of them not valid for fewer blocks", full, impl.MaxBlocks-1, impl.ErrForm)
	codeIs(t, "MaxSteps steps, the last label equal", append(slices.Clone(full[:19]), label(102)), impl.MaxBlocks, impl.ErrRange)
	codeIs(t, "MaxSteps steps, the last write again", append(slices.Clone(full[:19]), zeroing(7)), impl.MaxBlocks, impl.ErrTwice)
}

func TestStepsCodeOfOneInvalidStepAnywhere(t *testing.T) {
	good := []impl.Step{zeroing(0), label(1), {Kind: impl.StCopy, To: 1, From: 2}, {Kind: impl.StXor, To: 2, From: 2, Data: data8}, label(2)}
	codeIs(t, "the valid steps", good, 4, impl.OK)
	for _, wrong := range []impl.Step{
		{}, {Kind: 6}, zeroing(4), zeroing(-1), {Kind: impl.StCopy, To: 3, From: 4}, {Kind: impl.StCopy, To: 3, From: -1},
		{Kind: impl.StPut, To: 3, Data: "1"}, {Kind: impl.StXor, To: 3, From: 4, Data: data8}, label(-1), label(impl.MaxTime + 1), {Kind: impl.StLabel, To: 1, From: 9},
	} {
		for at := range len(good) + 1 {
			codeIs(t, "an invalid step", slices.Insert(slices.Clone(good), at, wrong), 4, impl.ErrForm)
		}
	}
}

func TestStepsCodeOfWritesToTheSameBlock(t *testing.T) {
	for a := range int64(4) {
		for b := range int64(4) {
			want := int64(impl.OK)
			if a == b {
				want = impl.ErrTwice
			}
			for _, first := range writesTo(a) {
				for _, second := range writesTo(b) {
					codeIs(t, "two writes", []impl.Step{first, second}, 4, want)
					codeIs(t, "two writes apart", []impl.Step{first, label(1), {Kind: impl.StCopy, To: 5, From: a}, second}, 8, want)
				}
			}
		}
	}
	for _, write := range writesTo(0) {
		codeIs(t, "a write and a label with the same To", []impl.Step{write, label(0)}, 2, impl.OK)
		codeIs(t, "a label and a write with the same To", []impl.Step{label(1), write, label(2)}, 2, impl.OK)
	}
	codeIs(t, "copies from the same block", []impl.Step{{Kind: impl.StCopy, To: 0, From: 1}, {Kind: impl.StCopy, To: 1, From: 1}, {Kind: impl.StCopy, To: 2, From: 1}}, 3, impl.OK)
	codeIs(t, "an exchange", []impl.Step{{Kind: impl.StCopy, To: 0, From: 1}, {Kind: impl.StCopy, To: 1}}, 2, impl.OK)
}

func TestStepsCodeOfLabels(t *testing.T) {
	known := []struct {
		numbers []int64
		want    int64
	}{
		{[]int64{0}, impl.OK}, {[]int64{impl.MaxTime}, impl.OK}, {[]int64{0, 1}, impl.OK}, {[]int64{0, impl.MaxTime}, impl.OK},
		{[]int64{3, 7, 100, 101, 5000, 1000000}, impl.OK},
		{[]int64{0, 0}, impl.ErrRange}, {[]int64{2, 2}, impl.ErrRange}, {[]int64{impl.MaxTime, impl.MaxTime}, impl.ErrRange},
		{[]int64{1, 0}, impl.ErrRange}, {[]int64{2, 1}, impl.ErrRange}, {[]int64{impl.MaxTime, 0}, impl.ErrRange},
		{[]int64{1, 2, 2}, impl.ErrRange}, {[]int64{1, 1, 2}, impl.ErrRange}, {[]int64{1, 3, 2}, impl.ErrRange},
		{[]int64{3, 1, 2}, impl.ErrRange}, {[]int64{1, 5, 3, 4, 6}, impl.ErrRange}, {[]int64{1, 2, 3, 1}, impl.ErrRange},
	}
	for _, k := range known {
		codeIs(t, "labels", labels(k.numbers...), 1, k.want)
		var between []impl.Step
		for i, n := range k.numbers {
			between = append(between, label(n), impl.Step{Kind: impl.StCopy, To: int64(i), From: 7})
		}
		codeIs(t, "labels with writes between them", between, 8, k.want)
	}
}

func TestStepsCodeOrderOfErrors(t *testing.T) {
	twice := []impl.Step{zeroing(1), {Kind: impl.StPut, To: 1, Data: data8}}
	falling := labels(4, 3)
	for _, l := range [][]impl.Step{
		slices.Concat(twice, falling), slices.Concat(falling, twice),
		{twice[0], falling[0], twice[1], falling[1]}, {falling[0], twice[0], falling[1], twice[1]},
		{twice[0], falling[0], falling[1], twice[1]}, {falling[0], twice[0], twice[1], falling[1]},
	} {
		codeIs(t, "two writes before labels", l, 2, impl.ErrTwice)
		codeIs(t, "an invalid number of blocks before both", l, 0, impl.ErrForm)
		codeIs(t, "a number of blocks that is too great before both", l, impl.MaxBlocks+1, impl.ErrForm)
		codeIs(t, "too few blocks before both", l, 1, impl.ErrForm)
		for _, wrong := range []impl.Step{{}, label(impl.MaxTime + 1), zeroing(2)} {
			for at := range len(l) + 1 {
				codeIs(t, "an invalid step before both", slices.Insert(slices.Clone(l), at, wrong), 2, impl.ErrForm)
			}
		}
		codeIs(t, "too many steps before both", slices.Concat(l, labels(upTo(10, 30)...)), 2, impl.ErrForm)
	}
	codeIs(t, "an invalid step before two writes", append(slices.Clone(twice), impl.Step{}), 2, impl.ErrForm)
	codeIs(t, "an invalid step before labels", append(slices.Clone(falling), impl.Step{}), 2, impl.ErrForm)
}

// listCode makes one pass over the list for each error.
func listCode(l []impl.Step, blocks int64) int64 {
	for _, s := range l {
		if !stepValid(s, blocks) {
			return impl.ErrForm
		}
	}
	count := map[int64]int{}
	for _, s := range l {
		count[s.To]++
		if s.Kind == impl.StLabel {
			count[s.To]--
		}
		if count[s.To] > 1 {
			return impl.ErrTwice
		}
	}
	for i, s := range l {
		for _, other := range l[:i] {
			if s.Kind == impl.StLabel && other.Kind == impl.StLabel && other.From >= s.From {
				return impl.ErrRange
			}
		}
	}
	return impl.OK
}

// arbitraryStep is now and then invalid for the number of blocks.
func arbitraryStep(next func(limit int) int, blocks int, number int) impl.Step {
	if next(3) == 0 {
		return label(int64(max(0, number*5+next(9)-2)))
	}
	l := writesTo(int64(next(blocks)))
	if next(60) == 0 {
		l = writesTo(int64(blocks))
	}
	s := l[next(len(l))]
	if s.From != 0 {
		s.From = int64(next(blocks))
	}
	return s
}

func TestStepsCodeAndWritesOfArbitraryLists(t *testing.T) {
	next := numbers(8)
	seen := map[int64]int{}
	for range 40000 {
		blocks := 1 + next(impl.MaxBlocks)
		var l, writes []impl.Step
		for i := range next(9) {
			s := arbitraryStep(next, blocks, i)
			l = append(l, s)
			if s.Kind != impl.StLabel {
				writes = append(writes, s)
			}
		}
		want := listCode(l, int64(blocks))
		seen[want]++
		codeIs(t, "an arbitrary list", l, int64(blocks), want)
		writesAre(t, "the writes of an arbitrary list", impl.Writes(l), writes)
	}
	for _, code := range []int64{impl.OK, impl.ErrForm, impl.ErrTwice, impl.ErrRange} {
		if seen[code] < 500 {
			t.Errorf("the code %d was expected only %d times", code, seen[code])
		}
	}
}

func TestWrites(t *testing.T) {
	writes := []impl.Step{
		zeroing(3),
		{Kind: impl.StPut, To: 2, Data: data8},
		{Kind: impl.StCopy, To: 1, From: 3},
		{Kind: impl.StXor, To: 0, From: 0, Data: data8},
	}
	writesAre(t, "nil", impl.Writes(nil), nil)
	writesAre(t, "empty", impl.Writes([]impl.Step{}), nil)
	writesAre(t, "only labels", impl.Writes(labels(1, 2, 3)), nil)
	writesAre(t, "no labels", impl.Writes(writes), writes)
	writesAre(t, "a label in front", impl.Writes(slices.Concat(labels(1), writes)), writes)
	writesAre(t, "labels behind", impl.Writes(slices.Concat(writes, labels(1, 2))), writes)
	writesAre(t, "labels between", impl.Writes([]impl.Step{label(1), writes[0], writes[1], label(2), label(3), writes[2], label(4), writes[3]}), writes)
	writesAre(t, "labels that decrease", impl.Writes([]impl.Step{label(4), writes[0], label(1)}), writes[:1])
	writesAre(t, "equal writes", impl.Writes([]impl.Step{writes[0], label(1), writes[0]}), []impl.Step{writes[0], writes[0]})
	others := []impl.Step{{}, {Kind: 6}, {Kind: -5}, {Kind: 1<<32 + 5}, zeroing(-1)}
	writesAre(t, "steps that are invalid", impl.Writes(slices.Concat(others, labels(-1))), others)
}

func TestWritesOfTooManySteps(t *testing.T) {
	var l []impl.Step
	for i := range int64(impl.MaxList + 2) {
		l = append(l, zeroing(i%impl.MaxBlocks))
	}
	writesAre(t, "MaxSteps - 1 steps", impl.Writes(l[:impl.MaxSteps-1]), l[:impl.MaxSteps-1])
	writesAre(t, "MaxSteps steps", impl.Writes(l[:impl.MaxSteps]), l[:impl.MaxSteps])
	mixed := slices.Concat(labels(upTo(0, 19)...), l[:1])
	writesAre(t, "MaxSteps steps with labels", impl.Writes(mixed), l[:1])
	writesAre(t, "MaxSteps + 1 steps with labels", impl.Writes(append(mixed, label(30))), nil)
	for _, count := range []int{impl.MaxSteps + 1, impl.MaxSteps + 2, impl.MaxList, impl.MaxList + 1, impl.MaxList + 2} {
		writesAre(t, "too many steps", impl.Writes(l[:count]), nil)
		writesAre(t, "too many labels", impl.Writes(labels(upTo(0, int64(count))...)), nil)
	}
}

func TestStepListsAreNotChangedOrKept(t *testing.T) {
	for _, l := range [][]impl.Step{
		{zeroing(1), zeroing(0)},
		{label(3), zeroing(1), label(2), {Kind: impl.StCopy, To: 1, From: 1}},
		{{}, label(1), {Kind: 6}, zeroing(3)},
	} {
		room := append(make([]impl.Step, 0, 2*impl.MaxSteps), l...)
		impl.StepsCode(room, 2)
		first := impl.Writes(room)
		before := slices.Clone(first)
		second := impl.Writes(room)
		second = second[:cap(second)]
		for i := range second {
			second[i] = label(99)
		}
		writesAre(t, "the first result", first, before)
		writesAre(t, "the argument", room, l)
		for _, s := range room[len(room):cap(room)] {
			if s != (impl.Step{}) {
				t.Errorf("written behind the end of the argument: %+v", s)
			}
		}
	}
}

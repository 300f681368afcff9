package tests

import (
	"encoding/binary"
	"hash/crc32"
	"math"
	"slices"
	"strings"
	"testing"

	"loop.example/g00668/impl"
)

func recordIs(t *testing.T, what string, sector string, n int64, want impl.Step) {
	t.Helper()
	if got := impl.RecordRead(sector, n); got != (impl.StepOut{Step: want}) {
		t.Errorf("%s: RecordRead(%x, %d) = %s, want %s", what, sector, n, shown(got), shown(want))
	}
}

func recordFails(t *testing.T, what string, sector string, n int64, code int64) {
	t.Helper()
	if got := impl.RecordRead(sector, n); got != (impl.StepOut{Code: code}) {
		t.Errorf("%s: RecordRead of %d bytes %.60x with %d = %s, want the code %d", what, len(sector), sector, n, shown(got), code)
	}
}

func keptIs(t *testing.T, what string, l []impl.Step, want int64) {
	t.Helper()
	if got := impl.KeptOf(l); got != want {
		t.Errorf("%s: KeptOf %s = %d, want %d", what, shown(l), got, want)
	}
}

func scanIs(t *testing.T, what string, sectors []string, steps []impl.Step, kept int64) {
	t.Helper()
	got := impl.Scan(sectors)
	if got.Kept != kept || !slices.Equal(got.Steps, steps) {
		t.Errorf("%s: got %s, want Kept %d and %s", what, shown(got), kept, shown(steps))
	}
}

// scanExpects scans and compares with the model's number of kept steps.
func scanExpects(t *testing.T, what string, sectors []string, steps []impl.Step) {
	t.Helper()
	scanIs(t, what, sectors, steps, keptExpected(steps))
}

// keptExpected goes forwards, where the program goes backwards.
func keptExpected(l []impl.Step) int64 {
	kept := 0
	for i, s := range l {
		if s.Kind == 5 && len(l) <= 20 {
			kept = i + 1
		}
	}
	return int64(kept)
}

// recordBody encodes any number and step, also invalid ones, without a seal.
func recordBody(n int64, s impl.Step) string {
	return string(binary.AppendVarint(nil, n)) + rawStep(s)
}

func rawRecord(n int64, s impl.Step) string {
	return sealed(recordBody(n, s))
}

// recordWithin decodes a body by a reader of its own, and reports whether it is that of a record.
func recordWithin(body string) (int64, impl.Step, bool) {
	r := bodyReader{rest: body}
	n := r.num()
	s := impl.Step{Kind: r.num(), To: r.num(), From: r.num(), Data: r.text()}
	return n, s, !r.failed && n >= 0 && n <= 1000000 && stepValid(s, 8) && recordBody(n, s) == body
}

// checkRecordBody seals a body and checks how it is read under a number; it reports whether it is that of a record.
func checkRecordBody(t *testing.T, what string, body string, n int64) bool {
	t.Helper()
	number, s, there := recordWithin(body)
	switch {
	case !there:
		recordFails(t, what, sealed(body), n, impl.ErrSyntax)
		recordFails(t, what+", under the number in it", sealed(body), number, impl.ErrSyntax)
	case number != n:
		recordFails(t, what, sealed(body), n, impl.ErrNone)
		recordIs(t, what+", under the number in it", sealed(body), number, s)
	default:
		recordIs(t, what, sealed(body), n, s)
	}
	return there
}

// oneOfEachKind has steps of all five kinds.
func oneOfEachKind() []impl.Step {
	return []impl.Step{zeroing(3), putting(0, data8), copying(7, 2), xoring(5, 5, ones8), label(64)}
}

// recordSteps has small and great values in every field.
func recordSteps() []impl.Step {
	return append(oneOfEachKind(), zeroing(0), zeroing(7), putting(7, zeros8), putting(2, pattern(8)), copying(0, 0), copying(0, 7), xoring(0, 7, data8), xoring(7, 0, zeros8),
		label(0), label(1), label(63), label(8191), label(8192), label(impl.MaxTime-1), label(impl.MaxTime))
}

// recordNumbers has the times around every change of the encoding's length.
func recordNumbers() []int64 {
	return append(upTo(0, impl.AreaSize+2), 62, 63, 64, 65, 127, 128, 8190, 8191, 8192, 8193, 500000, impl.MaxTime-1, impl.MaxTime)
}

// notTimes has one beyond each end, and what its encoding or its lower bits could be mistaken for.
func notTimes() []int64 {
	return []int64{-1, -2, -64, -65, -impl.MaxTime, impl.MaxTime + 1, impl.MaxTime + 2, 2 * impl.MaxTime, 1<<31 - 1, 1 << 32, 1<<32 + 1, 1<<62 + 5, math.MaxInt64, math.MinInt64, math.MinInt64 + 1}
}

// recordsOf numbers the steps from 0 on.
func recordsOf(steps []impl.Step) []string {
	var l []string
	for i, s := range steps {
		l = append(l, rawRecord(int64(i), s))
	}
	return l
}

func TestLogExample(t *testing.T) {
	steps := []impl.Step{zeroing(1), label(5), zeroing(1)}
	var l []string
	for i, s := range steps {
		l = append(l, impl.RecordBytes(int64(i), s))
	}
	scanIs(t, "the example", append(l, ""), steps, 2)
}

func TestRecordBytesOfKnownRecords(t *testing.T) {
	known := []struct {
		n    int64
		s    impl.Step
		body string
	}{
		{0, zeroing(1), "\x00\x02\x02\x00\x00"},
		{1, label(5), "\x02\x0a\x00\x0a\x00"},
		{23, copying(7, 2), "\x2e\x06\x0e\x04\x00"},
		{63, putting(3, data8), "\x7e\x04\x06\x00\x10" + data8},
		{64, xoring(7, 6, zeros8), "\x80\x01\x08\x0e\x0c\x10" + zeros8},
		{8192, label(64), "\x80\x80\x01\x0a\x00\x80\x01\x00"},
		{impl.MaxTime, label(impl.MaxTime), "\x80\x89\x7a\x0a\x00\x80\x89\x7a\x00"},
	}
	for _, k := range known {
		textIs(t, "a known record", impl.RecordBytes(k.n, k.s), sealed(k.body))
		textIs(t, "a known record", impl.RecordBytes(k.n, k.s), impl.Seal(k.body))
		recordIs(t, "a known record", sealed(k.body), k.n, k.s)
	}
}

func TestRecordsAreReadUnderTheirNumberOnly(t *testing.T) {
	for _, s := range recordSteps() {
		for _, n := range recordNumbers() {
			record := impl.RecordBytes(n, s)
			textIs(t, "a record", record, rawRecord(n, s))
			recordIs(t, "its number", record, n, s)
			for _, other := range slices.Concat(recordNumbers(), notTimes(), []int64{n - 1, n + 1, -n - 1, 2 * n, n + 128, n | 1<<32, n + 1<<20}) {
				if other != n {
					recordFails(t, "another number", record, other, impl.ErrNone)
				}
			}
		}
	}
}

func TestRecordsOfAllValidSteps(t *testing.T) {
	for blocks := int64(1); blocks <= impl.MaxBlocks; blocks++ {
		for i, s := range validSteps(blocks) {
			n := int64(i) * 13
			textIs(t, "a valid step", impl.RecordBytes(n, s), rawRecord(n, s))
			recordIs(t, "a valid step", rawRecord(n, s), n, s)
			recordFails(t, "a number below", rawRecord(n, s), n-1, impl.ErrNone)
			recordFails(t, "a number above", rawRecord(n, s), n+1, impl.ErrNone)
		}
	}
}

func TestRecordsOfManyNumbers(t *testing.T) {
	for n := int64(0); n <= impl.MaxTime; n += 37 {
		s := oneOfEachKind()[n%5]
		recordIs(t, "a number", impl.RecordBytes(n, s), n, s)
		recordFails(t, "the number below", impl.RecordBytes(n, s), n-1, impl.ErrNone)
		recordFails(t, "the number above", impl.RecordBytes(n, s), n+1, impl.ErrNone)
	}
}

func TestRecordOfAStepThatNeedsMaxBlocks(t *testing.T) {
	last := int64(impl.MaxBlocks - 1)
	for _, s := range []impl.Step{zeroing(last), putting(last, data8), copying(last, 0), copying(0, last), xoring(last, 1, data8), xoring(1, last, data8)} {
		if impl.StepRight(s, last) || !impl.StepRight(s, impl.MaxBlocks) {
			t.Errorf("%s is not a step for MaxBlocks blocks only", shown(s))
		}
		recordIs(t, "a step for MaxBlocks blocks only", impl.RecordBytes(4, s), 4, s)
		scanIs(t, "a step for MaxBlocks blocks only", []string{impl.RecordBytes(0, s)}, []impl.Step{s}, 0)
	}
	for _, s := range []impl.Step{zeroing(last + 1), putting(last+1, data8), copying(last+1, 0), copying(0, last+1), xoring(last+1, 1, data8), xoring(1, last+1, data8)} {
		textIs(t, "a step that needs a block more", impl.RecordBytes(4, s), "")
		recordFails(t, "a step that needs a block more", rawRecord(4, s), 4, impl.ErrSyntax)
	}
}

func TestNumbersThatAreNotTimesHaveNoRecord(t *testing.T) {
	for _, s := range recordSteps() {
		for _, n := range notTimes() {
			textIs(t, "not a time", impl.RecordBytes(n, s), "")
			for _, asked := range []int64{n, 0, 1, impl.MaxTime, -n} {
				recordFails(t, "not a time", rawRecord(n, s), asked, impl.ErrSyntax)
			}
		}
	}
}

func TestRecordsOfEdgeSteps(t *testing.T) {
	for _, s := range edgeSteps() {
		for _, n := range []int64{-1, 0, 64, impl.MaxTime, impl.MaxTime + 1} {
			want := ""
			if stepValid(s, impl.MaxBlocks) && n >= 0 && n <= impl.MaxTime {
				want = rawRecord(n, s)
			}
			if got := impl.RecordBytes(n, s); got != want {
				t.Fatalf("RecordBytes(%d, %s) = %x, want %x", n, shown(s), got, want)
			}
			if want == "" && len(s.Data) < 100 {
				recordFails(t, "an invalid step or number", rawRecord(n, s), n, impl.ErrSyntax)
			}
		}
		if t.Failed() {
			return
		}
	}
}

func TestRecordsWithAChangedByteAreRejected(t *testing.T) {
	for _, s := range recordSteps() {
		for _, n := range []int64{0, 1, 64, impl.MaxTime} {
			record := rawRecord(n, s)
			for at := range len(record) {
				for change := 1; change < 256; change++ {
					changed := []byte(record)
					changed[at] ^= byte(change)
					recordFails(t, "a changed byte", string(changed), n, impl.ErrSum)
				}
			}
			if t.Failed() {
				return
			}
		}
	}
}

func TestNoPrefixOfARecordIsOne(t *testing.T) {
	for _, s := range recordSteps() {
		for _, n := range recordNumbers() {
			record, body := rawRecord(n, s), recordBody(n, s)
			for end := range len(record) {
				want := int64(impl.ErrSum)
				if end < 4 {
					want = impl.ErrShort
				}
				recordFails(t, "a prefix", record[:end], n, want)
				recordFails(t, "a prefix and another number", record[:end], n+1, want)
			}
			for end := range len(body) {
				recordFails(t, "a prefix, sealed again", sealed(body[:end]), n, impl.ErrSyntax)
			}
		}
	}
}

// sumOf is the checksum that a seal appends.
func sumOf(text string) string {
	return string(binary.LittleEndian.AppendUint32(nil, crc32.ChecksumIEEE([]byte(text))))
}

// The data of a step may contain the checksum of what is in front of it, so that a prefix of the record has a right seal.
func TestNoPrefixWithARightSealIsARecord(t *testing.T) {
	for _, n := range []int64{0, 5, 64, impl.MaxTime} {
		for _, empty := range []impl.Step{putting(3, ""), xoring(2, 7, "")} {
			for before := range impl.BlockSize - 3 {
				body := recordBody(n, empty)
				front := body[:len(body)-1] + "\x10" + data8[:before]
				s := empty
				s.Data = data8[:before] + sumOf(front) + data8[before+4:]
				record := impl.RecordBytes(n, s)
				recordIs(t, "the whole record", record, n, s)
				prefix := record[:len(front)+4]
				if impl.Unseal(prefix).Text != front {
					t.Errorf("the prefix %x of %x is not sealed", prefix, record)
				}
				recordFails(t, "a prefix with a right seal", prefix, n, impl.ErrSyntax)
				scanIs(t, "a prefix with a right seal", []string{rawRecord(0, label(1)), prefix}, labels(1), 1)
			}
		}
	}
}

func TestRecordsWithBytesBehindThemAreRejected(t *testing.T) {
	for _, s := range recordSteps() {
		for _, n := range []int64{0, 9, 64, impl.MaxTime} {
			record, body := rawRecord(n, s), recordBody(n, s)
			for _, more := range []string{"\x00", "\x01", "x", "\x80", "\xff", "\x00\x00\x00\x00", data8, body, record} {
				recordFails(t, "outside the seal", record+more, n, impl.ErrSum)
				recordFails(t, "in front of the record", more+record, n, impl.ErrSum)
				recordFails(t, "inside the seal", sealed(body+more), n, impl.ErrSyntax)
				recordFails(t, "inside the seal, and another number", sealed(body+more), n+1, impl.ErrSyntax)
			}
			recordFails(t, "sealed twice", sealed(record), n, impl.ErrSyntax)
			recordFails(t, "without a seal", body, n, impl.ErrSum)
		}
	}
}

func TestRecordReadOfSectorsThatAreNotSealed(t *testing.T) {
	for _, n := range []int64{0, 1, impl.MaxTime, -1, impl.MaxTime + 1, math.MinInt64} {
		for _, sector := range []string{"", "a", "abc", "\x00\x00\x00"} {
			recordFails(t, "fewer than four bytes", sector, n, impl.ErrShort)
		}
		for _, sector := range []string{"abcd", "\x00\x00\x00\x01", "\xff\xff\xff\xff", recordBody(0, zeroing(1)), pattern(impl.SectorSize), pattern(impl.MaxBytes)} {
			recordFails(t, "a wrong checksum", sector, n, impl.ErrSum)
		}
	}
}

func TestRecordReadSizeLimit(t *testing.T) {
	body := recordBody(3, putting(1, data8))
	for _, fill := range []string{strings.Repeat("\x00", 100000), pattern(100000)} {
		within, beyond := sealed(body+fill[:impl.MaxBytes-4-len(body)]), sealed(body+fill[:impl.MaxBytes-3-len(body)])
		if len(within) != impl.MaxBytes || len(beyond) != impl.MaxBytes+1 {
			t.Fatalf("the sectors have %d and %d bytes", len(within), len(beyond))
		}
		for _, n := range []int64{3, 4, -1} {
			recordFails(t, "MaxBytes, sealed", within, n, impl.ErrSyntax)
			recordFails(t, "MaxBytes, with a wrong checksum", fill[:impl.MaxBytes-1]+"x", n, impl.ErrSum)
			recordFails(t, "MaxBytes + 1, sealed", beyond, n, impl.ErrSize)
			recordFails(t, "MaxBytes + 1, with a wrong checksum", fill[:impl.MaxBytes]+"x", n, impl.ErrSize)
			recordFails(t, "many more", sealed(body+fill), n, impl.ErrSize)
		}
	}
	for _, size := range []int{impl.MaxBytes, impl.MaxBytes + 1, 100000} {
		scanIs(t, "a great sector first", []string{pattern(size), rawRecord(1, label(1))}, nil, 0)
		scanIs(t, "a great sector between records", []string{rawRecord(0, label(1)), sealed(recordBody(1, label(2)) + pattern(size)), rawRecord(2, label(3))}, labels(1), 1)
	}
}

// notRecords are contents that are not those of a record, though some start or end as one.
func notRecords() []string {
	endless := strings.Repeat("\x80", 9)
	step := rawStep(zeroing(1))
	l := []string{
		"", "\x00", "\x02", "\x2e", "\x7e", "\x80", "\xff", "\x80\x00", "\x80\x01", "\x80\x89\x7a", "\x01" + step, "\x03" + step, "\x82\x89\x7a" + step,
		"\x80\x00" + step, "\x82\x00" + step, "\x82\x80\x00" + step, endless + "\x00" + step, endless + "\x01" + step, endless + "\x02" + step, endless + "\x80\x01" + step,
		step, "\x00\x02\x02\x00", "\x00\x02\x02", "\x00\x02", "\x00\x00\x02\x02\x00\x00", "\x00\x80\x02\x02\x00\x00", "\x00\x02\x02\x00\x00\x00", "\x00\x08" + step,
		"\x00\x00\x00\x00\x00", "\x00\x0c\x00\x00\x00", "\x00\x02\x10\x00\x00", "\x00\x02\x01\x00\x00", "\x00\x02\x02\x02\x00", "\x00\x06\x02\x10\x00", "\x00\x0a\x02\x04\x00", "\x00\x0a\x00\x01\x00", "\x00\x0a\x00\x82\x89\x7a\x00",
		"\x00\x04\x00\x00\x0e1234567", "\x00\x04\x00\x00\x12123456789", "\x00\x04\x00\x00\x101234567", "\x00\x04\x00\x00\x10123456789", "\x00\x04\x00\x00\x90\x00" + data8,
		"abc", data8, zeros8, pattern(20), pattern(92), strings.Repeat("\x00", 92), strings.Repeat("\x80", 92), strings.Repeat("\xff", 92), pattern(impl.MaxBytes - 4),
	}
	for _, n := range []int64{-1, impl.MaxTime + 1, math.MinInt64, math.MaxInt64} {
		l = append(l, recordBody(n, label(1)), recordBody(n, impl.Step{}))
	}
	for _, s := range []impl.Step{{}, {Kind: 6}, zeroing(8), zeroing(-1), label(-1), label(impl.MaxTime + 1), putting(0, "1"), copying(8, 0), copying(0, 8), xoring(0, 0, ""), {Kind: impl.StZero, From: 1}, {Kind: impl.StLabel, To: 1}} {
		l = append(l, recordBody(0, s), recordBody(64, s))
	}
	return l
}

func TestRecordReadOfContentsThatAreNotARecord(t *testing.T) {
	for _, body := range notRecords() {
		for _, n := range append(recordNumbers(), notTimes()...) {
			recordFails(t, "not a record", sealed(body), n, impl.ErrSyntax)
		}
		scanIs(t, "not a record", []string{sealed(body)}, nil, 0)
		scanIs(t, "not a record between records", []string{rawRecord(0, label(1)), sealed(body), rawRecord(2, label(2))}, labels(1), 1)
	}
}

func TestRecordReadOfNumbersThatAreNotShortest(t *testing.T) {
	for _, s := range recordSteps() {
		for _, n := range []int64{0, 1, 63, 64, 8192, impl.MaxTime} {
			for at := range 5 {
				for more := 1; more <= 7; more++ {
					w := packageWriter{longAt: at, more: more}
					body := w.num(n) + w.num(s.Kind) + w.num(s.To) + w.num(s.From) + w.text(s.Data)
					recordFails(t, "not shortest", sealed(body), n, impl.ErrSyntax)
					recordFails(t, "not shortest, and another number", sealed(body), n+1, impl.ErrSyntax)
				}
			}
		}
	}
}

func TestRecordReadOfChangedContents(t *testing.T) {
	accepted := 0
	for _, s := range recordSteps() {
		for _, n := range []int64{0, 1, 63, 64, 300, impl.MaxTime} {
			body := recordBody(n, s)
			changed := []string{body}
			for at := range len(body) {
				front, b, behind := body[:at], body[at], body[at+1:]
				changed = append(changed, front+behind)
				for bit := range 8 {
					changed = append(changed, front+string([]byte{b ^ 1<<bit})+behind)
				}
				for _, more := range []string{"\x00", "\x02", "\x80", "\xff", string([]byte{b})} {
					changed = append(changed, front+more+body[at:])
				}
			}
			for _, c := range changed {
				if checkRecordBody(t, "changed contents", c, n) {
					accepted++
				}
			}
			if t.Failed() {
				return
			}
		}
	}
	if accepted < 1000 {
		t.Errorf("only %d changed bodies are those of records", accepted)
	}
}

func TestKeptOf(t *testing.T) {
	a, b, c := zeroing(0), copying(1, 0), putting(2, data8)
	known := []struct {
		what  string
		steps []impl.Step
		want  int64
	}{
		{"nil", nil, 0},
		{"empty", []impl.Step{}, 0},
		{"a write", []impl.Step{a}, 0},
		{"no label", []impl.Step{a, b, c}, 0},
		{"a label", labels(1), 1},
		{"only labels", labels(1, 2, 3), 3},
		{"the label first", []impl.Step{label(5), a, b, c}, 1},
		{"the label in the middle", []impl.Step{a, b, label(0), c}, 3},
		{"the label last", []impl.Step{a, b, c, label(7)}, 4},
		{"several labels, one of them first", []impl.Step{label(1), a, label(2), b}, 3},
		{"several labels, one of them last", []impl.Step{label(1), a, b, label(2)}, 4},
		{"several labels in front", []impl.Step{label(1), label(2), label(3), a, b, c}, 3},
		{"labels that decrease", []impl.Step{label(9), a, label(3), b}, 3},
		{"equal labels", []impl.Step{label(4), a, label(4), a, b}, 3},
		{"equal writes", []impl.Step{a, a, label(4), a}, 3},
		{"steps of no kind", []impl.Step{{}, {Kind: 6}, label(1), {}, {Kind: -5}, {Kind: 1<<32 + 5}, {Kind: 4}}, 3},
		{"invalid writes", []impl.Step{zeroing(-1), label(1), zeroing(8), putting(0, "1")}, 2},
		{"a label that is not valid", []impl.Step{label(1), a, {Kind: impl.StLabel, To: 9, From: -1, Data: "x"}, b}, 3},
	}
	for _, k := range known {
		keptIs(t, k.what, k.steps, k.want)
	}
}

func TestKeptOfEveryPatternOfLabels(t *testing.T) {
	for size := range 11 {
		for mask := range 1 << size {
			var l []impl.Step
			want := 0
			for i := range size {
				if mask>>i&1 == 1 {
					l = append(l, label(int64(i)))
					want = i + 1
				} else {
					l = append(l, oneOfEachKind()[(i+mask)%4])
				}
			}
			keptIs(t, "a pattern of labels", l, int64(want))
			scanIs(t, "a pattern of labels", recordsOf(l), l, int64(want))
		}
	}
}

func TestKeptOfTheLongestLists(t *testing.T) {
	for _, size := range []int{impl.MaxSteps - 1, impl.MaxSteps, impl.MaxSteps + 1, impl.MaxSteps + 2, impl.AreaSize, impl.MaxList, impl.MaxList + 1, 100000} {
		writes := slices.Repeat([]impl.Step{zeroing(1)}, size)
		keptIs(t, "no label", writes, 0)
		for _, at := range []int{0, 1, size / 2, impl.MaxSteps - 2, size - 2, size - 1} {
			l := slices.Clone(writes)
			l[at] = label(3)
			want := int64(at + 1)
			if size > impl.MaxSteps {
				want = 0
			}
			keptIs(t, "one label", l, want)
		}
	}
	keptIs(t, "MaxSteps labels", labels(upTo(0, impl.MaxSteps)...), impl.MaxSteps)
	keptIs(t, "MaxSteps + 1 labels", labels(upTo(0, impl.MaxSteps+1)...), 0)
}

func TestScanOfNoRecords(t *testing.T) {
	scanIs(t, "nil", nil, nil, 0)
	scanIs(t, "no sectors", []string{}, nil, 0)
	for _, count := range []int{1, 2, impl.AreaSize - 1, impl.AreaSize, impl.AreaSize + 1, impl.MaxList, impl.MaxList + 1} {
		scanIs(t, "empty sectors", make([]string, count), nil, 0)
	}
}

// longLog has labels in every third place.
func longLog(size int) []impl.Step {
	var l []impl.Step
	for i := range size {
		if i%3 == 1 {
			l = append(l, label(int64(i)*1000))
		} else {
			l = append(l, oneOfEachKind()[i%4])
		}
	}
	return l
}

func TestScanOfLongLogs(t *testing.T) {
	for size := range impl.AreaSize + 1 {
		steps := longLog(size)
		for spare := range impl.AreaSize + 1 - size {
			sectors := append(recordsOf(steps), make([]string, spare)...)
			scanExpects(t, "a log and empty sectors", sectors, steps)
		}
		for _, count := range []int{impl.AreaSize + 1, impl.AreaSize + 2, impl.MaxList, impl.MaxList + 1, 10000} {
			sectors := append(recordsOf(steps), make([]string, count-size)...)
			scanIs(t, "too many sectors", sectors, nil, 0)
		}
	}
	for _, count := range []int{impl.AreaSize + 1, impl.AreaSize + 2, impl.MaxList, impl.MaxList + 1} {
		scanIs(t, "too many records", recordsOf(longLog(count)), nil, 0)
	}
}

func TestScanOfMoreRecordsThanMaxSteps(t *testing.T) {
	for size := impl.MaxSteps - 1; size <= impl.AreaSize; size++ {
		steps := labels(upTo(0, int64(size))...)
		want := int64(size)
		if size > impl.MaxSteps {
			want = 0
		}
		scanIs(t, "labels in a row", recordsOf(steps), steps, want)
		writes := slices.Repeat([]impl.Step{zeroing(2)}, size)
		scanIs(t, "writes in a row", recordsOf(writes), writes, 0)
		torn := recordsOf(steps)
		torn[impl.MaxSteps-2] += "x"
		scanIs(t, "labels in a row, with a torn one", torn, steps[:impl.MaxSteps-2], impl.MaxSteps-2)
	}
}

// The steps of a log need not make a valid list: other layers check that.
func TestScanOfStepsThatAreNotAValidList(t *testing.T) {
	steps := []impl.Step{zeroing(7), label(9), zeroing(7), label(3), label(3), copying(7, 7)}
	scanIs(t, "equal writes and labels that decrease", recordsOf(steps), steps, 5)
}

func TestScanOfTornLogs(t *testing.T) {
	logs := [][]impl.Step{
		oneOfEachKind(), recordSteps()[:13], mixedSteps(), mostSteps(), longLog(impl.AreaSize),
		{putting(0, data8), putting(1, data8), label(1)}, labels(4, 5, 6), {label(1), zeroing(0), copying(1, 0)},
	}
	for _, steps := range logs {
		whole := recordsOf(steps)
		scanExpects(t, "the whole log", whole, steps)
		for at := range whole {
			for end := range len(whole[at]) {
				sectors := slices.Clone(whole)
				sectors[at] = whole[at][:end]
				scanExpects(t, "torn in a record", sectors, steps[:at])
				scanExpects(t, "torn in the last record", sectors[:at+1], steps[:at])
			}
			for change := range len(whole[at]) {
				sectors := slices.Clone(whole)
				changed := []byte(whole[at])
				changed[change] ^= 16
				sectors[at] = string(changed)
				scanExpects(t, "a changed record", sectors, steps[:at])
			}
			scanExpects(t, "ended before a record", whole[:at], steps[:at])
		}
	}
}

func TestScanOfLogsWithOtherNumbers(t *testing.T) {
	steps := longLog(9)
	for at := range steps {
		for other := int64(-1); other < 30; other++ {
			sectors := recordsOf(steps)
			want := steps
			if other != int64(at) {
				sectors[at] = rawRecord(other, steps[at])
				want = steps[:at]
			}
			scanExpects(t, "another number", sectors, want)
		}
		whole := recordsOf(steps)
		if at < len(steps)-1 {
			scanExpects(t, "a number left out", slices.Delete(slices.Clone(whole), at, at+1), steps[:at])
			exchanged := slices.Clone(whole)
			exchanged[at], exchanged[at+1] = whole[at+1], whole[at]
			scanExpects(t, "two records exchanged", exchanged, steps[:at])
		}
		if at > 0 {
			scanExpects(t, "a record again", slices.Insert(slices.Clone(whole), at, whole[at-1]), steps[:at])
		}
		scanExpects(t, "an empty sector between records", slices.Insert(slices.Clone(whole), at, ""), steps[:at])
		scanExpects(t, "an empty sector instead of a record", slices.Replace(slices.Clone(whole), at, at+1, ""), steps[:at])
	}
	for start := 1; start < 30; start++ {
		var sectors []string
		for i, s := range steps {
			sectors = append(sectors, rawRecord(int64(start+i), s))
		}
		scanIs(t, "records that start with another number", sectors, nil, 0)
	}
	equal := slices.Repeat([]string{rawRecord(0, label(2))}, 5)
	scanIs(t, "only records with the number 0", equal, labels(2), 1)
}

// A log is written over an older one in the same sectors, and the power fails with every fate during its last record.
func TestScanAfterAPowerFailure(t *testing.T) {
	older := []string{rawRecord(3, label(77)), pattern(impl.SectorSize), rawRecord(0, putting(4, ones8)), rawRecord(8, zeroing(0)), "", rawRecord(4, label(78))}
	steps := []impl.Step{label(0), xoring(1, 0, data8), label(4), copying(2, 2), putting(3, pattern(8)), label(9)}
	whole := recordsOf(steps)
	for at := range steps {
		for fate := int64(-1); fate <= int64(len(whole[at]))+3; fate++ {
			f := impl.Flash{Sectors: slices.Clone(older)}
			for i := range at {
				f = impl.FlashSync(impl.FlashWrite(f, int64(i), whole[i]).Flash).Flash
			}
			f = impl.FlashCrash(impl.FlashWrite(f, int64(at), whole[at]).Flash, []int64{fate})
			want := steps[:at]
			if fate == 1 || fate >= int64(len(whole[at]))+2 {
				want = steps[:at+1]
			}
			scanExpects(t, "after a power failure", f.Sectors, want)
		}
	}
}

// scanExpected decodes each sector by itself and then looks for the first one that does not belong.
func scanExpected(sectors []string) []impl.Step {
	var steps []impl.Step
	for i, sector := range sectors {
		if len(sector) < 4 || sealed(sector[:len(sector)-4]) != sector {
			return steps
		}
		n, s, there := recordWithin(sector[:len(sector)-4])
		if !there || n != int64(i) {
			return steps
		}
		steps = append(steps, s)
	}
	return steps
}

// damaged has a sector that is mostly no longer the record with the number n.
func damaged(next func(limit int) int, n int64, s impl.Step) string {
	record, body := rawRecord(n, s), recordBody(n, s)
	switch next(8) {
	case 0:
		return ""
	case 1:
		return record[:next(len(record)+1)]
	case 2:
		return sealed(body[:next(len(body)+1)])
	case 3:
		return rawRecord(int64(next(impl.AreaSize)), s)
	case 4:
		return sealed(body + pattern(next(3)))
	case 5:
		return rawRecord(n, impl.Step{Kind: s.Kind, To: s.To + int64(next(9)), From: s.From, Data: s.Data})
	case 6:
		return notRecords()[next(40)]
	default:
		return pattern(next(impl.SectorSize + 1))
	}
}

func TestScanOfArbitraryLogs(t *testing.T) {
	next := numbers(43)
	lengths := map[int]int{}
	keptCounts := map[int64]int{}
	for range 20000 {
		if t.Failed() {
			return
		}
		var sectors []string
		for i := range next(impl.AreaSize + 1) {
			s := arbitraryWrite(next, int64(next(impl.MaxBlocks)), impl.MaxBlocks)
			if next(3) == 0 {
				s = label(int64(next(impl.MaxTime + 1)))
			}
			sectors = append(sectors, rawRecord(int64(i), s))
			if next(12) == 0 {
				sectors[i] = damaged(next, int64(i), s)
			}
		}
		steps := scanExpected(sectors)
		scanExpects(t, "an arbitrary log", sectors, steps)
		lengths[len(steps)]++
		keptCounts[keptExpected(steps)]++
	}
	for size := range impl.AreaSize + 1 {
		if lengths[size] < 10 {
			t.Errorf("there were only %d logs of %d steps", lengths[size], size)
		}
	}
	for kept := range int64(impl.MaxSteps + 1) {
		if keptCounts[kept] < 10 {
			t.Errorf("there were only %d logs of which %d steps are kept", keptCounts[kept], kept)
		}
	}
}

func TestLogsAreNewAndArgumentsNotChanged(t *testing.T) {
	for _, steps := range [][]impl.Step{nil, labels(1), oneOfEachKind(), longLog(impl.MaxSteps), longLog(impl.AreaSize)} {
		records := append(recordsOf(steps), "")[:min(len(steps)+1, impl.AreaSize)]
		sectors := withRoomBehind(records)
		first := impl.Scan(sectors)
		second := impl.Scan(sectors)
		overwriteSteps(second.Steps)
		writesAre(t, "the first result", first.Steps, steps)
		onlyHas(t, "the sectors", sectors, records)
		l := withRoomBehind(steps)
		impl.KeptOf(l)
		onlyHas(t, "the steps", l, steps)
	}
}

package tests

import (
	"encoding/binary"
	"hash/crc32"
	"math"
	"strings"
	"testing"

	"loop.example/g00668/impl"
)

func numFails(t *testing.T, text string, at int64, code int64) {
	t.Helper()
	if got := impl.GetNum(text, at); got != (impl.NumOut{Code: code}) {
		t.Errorf("GetNum(%.20q of %d bytes, %d) = %+v, want code %d and zeros", text, len(text), at, got, code)
	}
}

func textFails(t *testing.T, text string, at int64, code int64) {
	t.Helper()
	if got := impl.GetText(text, at); got != (impl.TextOut{Code: code}) {
		t.Errorf("GetText(%.20q of %d bytes, %d) = code %d, At %d and %d bytes, want code %d and zeros", text, len(text), at, got.Code, got.At, len(got.Text), code)
	}
}

func unsealFails(t *testing.T, text string, code int64) {
	t.Helper()
	if got := impl.Unseal(text); got != (impl.TextOut{Code: code}) {
		t.Errorf("Unseal(%.20q of %d bytes) = code %d, At %d and %d bytes, want code %d and zeros", text, len(text), got.Code, got.At, len(got.Text), code)
	}
}

// pattern has all byte values in an order that does not repeat with a short period.
func pattern(size int) string {
	b := make([]byte, size)
	x := uint32(size)*7 + 1
	for i := range b {
		x = x*1664525 + 1013904223
		b[i] = byte(x >> 24)
	}
	return string(b)
}

// edgeNums has the integers around every change of the encoding's length, and the extremes.
func edgeNums() []int64 {
	l := []int64{0, -1, 1, -2, 2, math.MaxInt64, math.MaxInt64 - 1, math.MinInt64, math.MinInt64 + 1}
	for k := 1; k < 63; k++ {
		p := int64(1) << k
		l = append(l, p-1, p, p+1, -p-1, -p, -p+1)
	}
	return l
}

func TestPutNumKnownBytes(t *testing.T) {
	ones := strings.Repeat("\xff", 9)
	known := []struct {
		n    int64
		want string
	}{
		{0, "\x00"}, {-1, "\x01"}, {1, "\x02"}, {63, "\x7e"}, {-64, "\x7f"},
		{64, "\x80\x01"}, {-65, "\x81\x01"}, {8191, "\xfe\x7f"}, {-8192, "\xff\x7f"}, {8192, "\x80\x80\x01"},
		{math.MaxInt64, "\xfe" + ones[1:] + "\x01"}, {math.MinInt64, ones + "\x01"},
	}
	for _, k := range known {
		if got := impl.PutNum(k.n); got != k.want {
			t.Errorf("PutNum(%d) = %x, want %x", k.n, got, k.want)
		}
	}
}

func TestNumbersAreDecodedFromTheirEncodings(t *testing.T) {
	lengths := map[int]bool{}
	for _, n := range edgeNums() {
		e := impl.PutNum(n)
		lengths[len(e)] = true
		if want := string(binary.AppendVarint(nil, n)); e != want {
			t.Errorf("PutNum(%d) = %x, want %x", n, e, want)
		}
		for _, before := range []string{"", "\x80", "abc"} {
			want := impl.NumOut{N: n, At: int64(len(before) + len(e))}
			for _, behind := range []string{"", "\x00", "\x80\xff"} {
				if got := impl.GetNum(before+e+behind, int64(len(before))); got != want {
					t.Errorf("GetNum of %x = %+v, want %+v", before+e+behind, got, want)
				}
			}
		}
		for cut := range len(e) {
			numFails(t, e[:cut], 0, impl.ErrShort)
		}
	}
	for size := 1; size <= 10; size++ {
		if !lengths[size] {
			t.Errorf("no encoding of %d bytes was tested", size)
		}
	}
}

func TestGetNumOfAllTwoByteStrings(t *testing.T) {
	for a := range 256 {
		for b := range 256 {
			text := string([]byte{byte(a), byte(b)})
			n, size := binary.Varint([]byte(text))
			switch {
			case size == 0:
				numFails(t, text, 0, impl.ErrShort)
			case size == 2 && b == 0:
				numFails(t, text, 0, impl.ErrSyntax)
			default:
				if got := impl.GetNum(text, 0); got != (impl.NumOut{N: n, At: int64(size)}) {
					t.Errorf("GetNum(%x) = %+v, want %d and %d", text, got, n, size)
				}
			}
		}
	}
}

func TestGetNumRejectsLongEncodings(t *testing.T) {
	for size := 1; size <= 9; size++ {
		numFails(t, strings.Repeat("\x80", size)+"\x00", 0, impl.ErrSyntax)
		numFails(t, strings.Repeat("\xff", size)+"\x00", 0, impl.ErrSyntax)
		numFails(t, strings.Repeat("\xff", size), 0, impl.ErrShort)
	}
	nine := strings.Repeat("\xff", 9)
	for tenth := 2; tenth < 256; tenth++ {
		numFails(t, nine+string([]byte{byte(tenth)}), 0, impl.ErrSyntax)
		numFails(t, nine+string([]byte{byte(tenth)})+"\x00", 0, impl.ErrSyntax)
	}
	if got := impl.GetNum(strings.Repeat("\x80", 9)+"\x01", 0); got != (impl.NumOut{N: 1 << 62, At: 10}) {
		t.Errorf("the tenth byte 1 yields %+v", got)
	}
}

func TestGetNumOffsets(t *testing.T) {
	for _, at := range []int64{-1, -2, math.MinInt64} {
		numFails(t, "\x00\x00", at, impl.ErrForm)
		numFails(t, "", at, impl.ErrForm)
	}
	for _, at := range []int64{2, 3, math.MaxInt64} {
		numFails(t, "\x00\x00", at, impl.ErrShort)
	}
	numFails(t, "", 0, impl.ErrShort)
	if got := impl.GetNum("\x80\x04", 1); got != (impl.NumOut{N: 2, At: 2}) {
		t.Errorf("the offset of the last byte yields %+v", got)
	}
}

func TestGetNumSizeLimit(t *testing.T) {
	full := strings.Repeat("\x02", impl.MaxBytes)
	if got := impl.GetNum(full, impl.MaxBytes-1); got != (impl.NumOut{N: 1, At: impl.MaxBytes}) {
		t.Errorf("the last byte of the longest string yields %+v", got)
	}
	numFails(t, full, impl.MaxBytes, impl.ErrShort)
	for _, at := range []int64{0, -1, math.MinInt64, impl.MaxBytes + 1, math.MaxInt64} {
		numFails(t, full+"\x02", at, impl.ErrSize)
	}
}

func TestPutText(t *testing.T) {
	if got := impl.PutText(""); got != "\x00" {
		t.Errorf("PutText of the empty string = %x", got)
	}
	if got := impl.PutText("ab"); got != "\x04ab" {
		t.Errorf("PutText(ab) = %x", got)
	}
	for _, size := range []int{63, 64, 8191 / 2, impl.MaxBytes - 1, impl.MaxBytes} {
		s := pattern(size)
		if got := impl.PutText(s); got != impl.PutNum(int64(size))+s {
			t.Errorf("PutText of %d bytes is wrong", size)
		}
	}
	for _, size := range []int{impl.MaxBytes + 1, 2 * impl.MaxBytes} {
		if got := impl.PutText(pattern(size)); got != "" {
			t.Errorf("PutText of %d bytes has %d bytes, want none", size, len(got))
		}
	}
}

func TestStringsAreDecodedFromTheirEncodings(t *testing.T) {
	for _, size := range []int{0, 1, 2, 63, 64, 65, 255, 256, 1000, impl.MaxBytes - 7, impl.MaxBytes - 6} {
		s := pattern(size)
		e := impl.PutText(s)
		for _, before := range []string{"", "\xff", "xyz"} {
			for _, behind := range []string{"", "\x80"} {
				want := impl.TextOut{Text: s, At: int64(len(before) + len(e))}
				if got := impl.GetText(before+e+behind, int64(len(before))); got != want {
					t.Errorf("%d bytes behind %q are not recovered: code %d, At %d", size, before, got.Code, got.At)
				}
			}
		}
		for _, cut := range []int{0, 1, len(e) / 2, len(e) - 1} {
			if cut < len(e) {
				textFails(t, e[:cut], 0, impl.ErrShort)
			}
		}
	}
}

func TestGetTextSizeLimit(t *testing.T) {
	longest := pattern(impl.MaxBytes - 2)
	if got := impl.GetText(impl.PutText(longest), 0); got != (impl.TextOut{Text: longest, At: impl.MaxBytes}) {
		t.Errorf("an encoding of MaxBytes bytes yields code %d, At %d", got.Code, got.At)
	}
	beyond := impl.PutText(pattern(impl.MaxBytes - 1))
	for _, at := range []int64{0, -1, math.MinInt64, math.MaxInt64} {
		textFails(t, beyond, at, impl.ErrSize)
	}
}

func TestGetTextErrors(t *testing.T) {
	textFails(t, "\x00", -1, impl.ErrForm)
	textFails(t, "\x00", math.MinInt64, impl.ErrForm)
	textFails(t, "\x00", 1, impl.ErrShort)
	textFails(t, "\x00", 2, impl.ErrShort)
	textFails(t, "\x00", math.MaxInt64, impl.ErrShort)
	textFails(t, "", 0, impl.ErrShort)
	textFails(t, "\x80", 0, impl.ErrShort)
	textFails(t, "\x82\x00a", 0, impl.ErrSyntax)
	textFails(t, strings.Repeat("\xff", 9)+"\x02", 0, impl.ErrSyntax)
	for _, n := range []int64{-1, -2, math.MinInt64, impl.MaxBytes + 1, math.MaxInt64} {
		textFails(t, impl.PutNum(n), 0, impl.ErrSyntax)
		textFails(t, impl.PutNum(n)+"abc", 0, impl.ErrSyntax)
	}
	for _, n := range []int64{1, 4, impl.MaxBytes - 1, impl.MaxBytes} {
		textFails(t, impl.PutNum(n)+"abc"[:min(n-1, 3)], 0, impl.ErrShort)
	}
}

func TestNameRight(t *testing.T) {
	for _, s := range []string{"a", "z", "a_9", "a0", "z_", "abcdefghijklmnopqrst", "a___________________"} {
		if !impl.NameRight(s) {
			t.Errorf("%q is not accepted", s)
		}
	}
	long := strings.Repeat("a", impl.MaxBytes+1)
	for _, s := range []string{"", "_a", "9a", "A", "aB", "a b", "a-", "ä", "aä", "a\x00", "abcdefghijklmnopqrstu", long} {
		if impl.NameRight(s) {
			t.Errorf("%.30q is accepted", s)
		}
	}
	for b := range 256 {
		c := string([]byte{byte(b)})
		letter := b >= 'a' && b <= 'z'
		other := letter || b == '_' || b >= '0' && b <= '9'
		if impl.NameRight(c) != letter || impl.NameRight(c+"a") != letter {
			t.Errorf("%q as the first byte is judged wrongly", c)
		}
		if impl.NameRight("a"+c) != other || impl.NameRight("a"+c+"a") != other {
			t.Errorf("%q behind the first byte is judged wrongly", c)
		}
	}
}

func TestCrc(t *testing.T) {
	if got := impl.Crc("123456789"); got != 3421780262 {
		t.Errorf("the check value is %d", got)
	}
	if got := impl.Crc(""); got != 0 {
		t.Errorf("the CRC of the empty string is %d", got)
	}
	for b := range 256 {
		s := string([]byte{byte(b)})
		if got, want := impl.Crc(s), int64(crc32.ChecksumIEEE([]byte(s))); got != want {
			t.Errorf("Crc(%q) = %d, want %d", s, got, want)
		}
	}
	for _, size := range []int{2, 3, 100, impl.MaxBytes - 1, impl.MaxBytes} {
		s := pattern(size)
		if got, want := impl.Crc(s), int64(crc32.ChecksumIEEE([]byte(s))); got != want {
			t.Errorf("Crc of %d bytes = %d, want %d", size, got, want)
		}
	}
	if got := impl.Crc(pattern(impl.MaxBytes + 1)); got != 0 {
		t.Errorf("Crc of a string that is too long = %d", got)
	}
}

func TestCrcIsContinuedOverConcatenatedStrings(t *testing.T) {
	s := pattern(300)
	for cut := 0; cut <= len(s); cut++ {
		if got, want := impl.CrcMore(impl.Crc(s[:cut]), s[cut:]), impl.Crc(s); got != want {
			t.Errorf("cut behind %d bytes: %d, want %d", cut, got, want)
		}
	}
	half := pattern(impl.MaxBytes)
	want := int64(crc32.ChecksumIEEE([]byte(half + half)))
	if got := impl.CrcMore(impl.Crc(half), half); got != want {
		t.Errorf("a concatenation beyond MaxBytes has the CRC %d, want %d", got, want)
	}
}

func TestCrcMoreLimits(t *testing.T) {
	for _, crc := range []int64{0, 1, 1 << 31, 1<<32 - 1} {
		if got := impl.CrcMore(crc, ""); got != crc {
			t.Errorf("CrcMore(%d, empty) = %d", crc, got)
		}
		want := int64(crc32.Update(uint32(crc), crc32.IEEETable, []byte("abc")))
		if got := impl.CrcMore(crc, "abc"); got != want {
			t.Errorf("CrcMore(%d, abc) = %d, want %d", crc, got, want)
		}
		if got := impl.CrcMore(crc, pattern(impl.MaxBytes+1)); got != 0 {
			t.Errorf("CrcMore(%d, a string that is too long) = %d", crc, got)
		}
	}
	for _, crc := range []int64{-1, 1 << 32, 1<<32 + 1, math.MinInt64, math.MaxInt64} {
		for _, s := range []string{"", "abc"} {
			if got := impl.CrcMore(crc, s); got != 0 {
				t.Errorf("CrcMore(%d, %q) = %d, want 0", crc, s, got)
			}
		}
	}
}

func TestSealedStringsAreRecovered(t *testing.T) {
	if got := impl.Seal("123456789"); got != "123456789\x26\x39\xf4\xcb" {
		t.Errorf("Seal(123456789) = %x", got)
	}
	for _, size := range []int{0, 1, 3, 4, 5, 96, impl.MaxBytes - 5, impl.MaxBytes - 4} {
		s := pattern(size)
		sealed := impl.Seal(s)
		if len(sealed) != size+4 || sealed[:size] != s {
			t.Errorf("the seal of %d bytes has %d bytes", size, len(sealed))
		}
		if got := impl.Unseal(sealed); got != (impl.TextOut{Text: s}) {
			t.Errorf("%d sealed bytes are not recovered: code %d, At %d", size, got.Code, got.At)
		}
	}
	for _, size := range []int{impl.MaxBytes - 3, impl.MaxBytes, impl.MaxBytes + 1} {
		if got := impl.Seal(pattern(size)); got != "" {
			t.Errorf("the seal of %d bytes has %d bytes, want none", size, len(got))
		}
	}
}

func TestChangedSealsAreRejected(t *testing.T) {
	for _, s := range []string{"", "a", "hello, flash", pattern(40)} {
		sealed := impl.Seal(s)
		for i := range len(sealed) {
			for x := 1; x < 256; x++ {
				b := []byte(sealed)
				b[i] ^= byte(x)
				unsealFails(t, string(b), impl.ErrSum)
			}
		}
	}
	big := []byte(impl.Seal(pattern(impl.MaxBytes - 4)))
	for _, i := range []int{0, 4000, impl.MaxBytes - 5, impl.MaxBytes - 4, impl.MaxBytes - 1} {
		big[i] ^= 16
		unsealFails(t, string(big), impl.ErrSum)
		big[i] ^= 16
	}
}

func TestUnsealErrors(t *testing.T) {
	for size := range 4 {
		unsealFails(t, "\x00\x00\x00\x00"[:size], impl.ErrShort)
		unsealFails(t, "abcd"[:size], impl.ErrShort)
	}
	if got := impl.Unseal("\x00\x00\x00\x00"); got != (impl.TextOut{}) {
		t.Errorf("the sealed empty string yields %+v", got)
	}
	unsealFails(t, "\x00\x00\x00\x01", impl.ErrSum)
	sealed := impl.Seal("truncated")
	for cut := 4; cut < len(sealed); cut++ {
		unsealFails(t, sealed[:cut], impl.ErrSum)
	}
	unsealFails(t, pattern(impl.MaxBytes), impl.ErrSum)
	unsealFails(t, pattern(impl.MaxBytes+1), impl.ErrSize)
	s := pattern(impl.MaxBytes - 3)
	crc := binary.LittleEndian.AppendUint32(nil, crc32.ChecksumIEEE([]byte(s)))
	unsealFails(t, s+string(crc), impl.ErrSize)
}

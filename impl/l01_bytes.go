package impl

import "errors"

// Constants, see chapter 1.
const (
	OK        = 0
	ErrForm   = 1
	ErrSize   = 2
	ErrSyntax = 3
	ErrShort  = 4
	ErrSum    = 5
	ErrNone   = 6
	ErrThere  = 7
	ErrRange  = 8
	ErrFull   = 9
	ErrState  = 10
	ErrSpace  = 11
	ErrTwice  = 12
	MaxBytes  = 8000
	MaxList   = 400
	MaxTime   = 1000000
)

// NumOut is a decoded integer and the offset behind it, see chapter 2.
type NumOut struct {
	N    int64
	At   int64
	Code int64
}

// TextOut is a decoded string and the offset behind it, see chapter 2.
type TextOut struct {
	Text string
	At   int64
	Code int64
}

// A 64-bit integer needs ten groups of seven bits, of which the tenth contains only the highest bit.
const (
	maxNumBytes  = 10
	maxTenthByte = 1
)

const (
	maxNameBytes  = 20
	crcBytes      = 4
	crcPolynomial = 0xEDB88320
	maxCrc        = 1<<32 - 1
)

// Why a sealed string cannot be opened.
var (
	errSealSize  = errors.New("the string is longer than any may be")
	errSealShort = errors.New("the string has no room for a checksum")
	errSealSum   = errors.New("the string has a wrong checksum")
)

// layerError wraps why something could not be read in the name of the layer that it belongs to.
type layerError struct {
	layer string
	why   error
}

func (l layerError) Error() string {
	return l.layer + ": " + l.why.Error()
}

func (l layerError) Unwrap() error {
	return l.why
}

// malformed is the error of an encoding that cannot be decoded. It carries the code with which the exported functions report it.
type malformed struct {
	code int64
}

func (m malformed) Error() string {
	if m.code == ErrShort {
		return "the encoding is truncated"
	}
	return "the encoding is malformed"
}

// PutNum returns the zigzag varint encoding of n.
func PutNum(n int64) string {
	// The sign shift is all ones for a negative n, and complementing 2n yields -2n - 1 without overflow.
	u := uint64(n)<<1 ^ uint64(n>>63)
	var buf [maxNumBytes]byte
	count := 0
	for u >= 128 {
		buf[count] = byte(u) | 128
		u >>= 7
		count++
	}
	buf[count] = byte(u)
	return string(buf[:count+1])
}

// GetNum decodes the integer at offset at.
func GetNum(text string, at int64) NumOut {
	if len(text) > MaxBytes {
		return NumOut{Code: ErrSize}
	}
	if at < 0 {
		return NumOut{Code: ErrForm}
	}
	n, behind, err := readNum(text, at)
	var bad malformed
	if errors.As(err, &bad) {
		return NumOut{Code: bad.code}
	}
	return NumOut{N: n, At: behind}
}

// readNum expects an offset that is not negative; its errors are malformed.
func readNum(text string, at int64) (int64, int64, error) {
	var u uint64
	var b byte
	count := 0
	code := int64(ErrSyntax)
more:
	if at >= int64(len(text)) {
		code = ErrShort
		goto wrong
	}
	b = text[at]
	at++
	count++
	if count == maxNumBytes && b > maxTenthByte {
		goto wrong
	}
	u |= uint64(b&127) << (7 * (count - 1))
	if b < 128 {
		goto last
	}
	goto more
last:
	if b == 0 && count > 1 {
		goto wrong
	}
	return int64(u>>1) ^ -int64(u&1), at, nil
wrong:
	return 0, 0, malformed{code: code}
}

// PutText returns t with its length in front of it, or the empty string if t is too long.
func PutText(t string) string {
	if len(t) > MaxBytes {
		return ""
	}
	return joined(PutNum(int64(len(t))), t)
}

// joined returns the concatenation of strings.
func joined(parts ...string) string {
	size := 0
	for _, part := range parts {
		size += len(part)
	}
	buf := make([]byte, size)
	end := 0
	for _, part := range parts {
		end += copy(buf[end:], part)
	}
	return string(buf)
}

// GetText decodes the length-prefixed string at offset at.
func GetText(text string, at int64) TextOut {
	size := GetNum(text, at)
	if size.Code != OK {
		return TextOut{Code: size.Code}
	}
	if size.N < 0 || size.N > MaxBytes {
		return TextOut{Code: ErrSyntax}
	}
	end := size.At + size.N
	if end > int64(len(text)) {
		return TextOut{Code: ErrShort}
	}
	return TextOut{Text: text[size.At:end], At: end}
}

// NameRight reports whether t is a name, see chapter 1.
func NameRight(t string) bool {
	if len(t) < 1 || len(t) > maxNameBytes || !isLetter(t[0]) {
		return false
	}
	for i := range len(t) {
		if !isLetter(t[i]) && !isDigit(t[i]) && t[i] != '_' {
			return false
		}
	}
	return true
}

func isLetter(b byte) bool {
	return 'a' <= b && b <= 'z'
}

func isDigit(b byte) bool {
	return '0' <= b && b <= '9'
}

// Crc returns the CRC-32 of text, or 0 if text is too long.
func Crc(text string) int64 {
	// The CRC of the empty string is 0, so every string continues it.
	return CrcMore(0, text)
}

// CrcMore returns the CRC-32 of a string with the CRC crc followed by text, or 0 for invalid arguments.
func CrcMore(crc int64, text string) int64 {
	if len(text) > MaxBytes || crc < 0 || crc > maxCrc {
		return 0
	}
	register := ^uint32(crc)
	for i := range len(text) {
		register = shiftedByte(register, text[i])
	}
	return int64(^register)
}

// shiftedByte exclusive-ors all eight bits at once, since a shift does not change how the higher ones meet the register.
func shiftedByte(register uint32, b byte) uint32 {
	register ^= uint32(b)
	for range 8 {
		low := register & 1
		register >>= 1
		if low == 1 {
			register ^= crcPolynomial
		}
	}
	return register
}

// Seal returns text followed by its CRC, or the empty string if text is too long.
func Seal(text string) string {
	if len(text) > MaxBytes-crcBytes {
		return ""
	}
	return joined(text, sumBytes(text))
}

func sumBytes(text string) string {
	crc := Crc(text)
	var buf [crcBytes]byte
	for i := range buf {
		buf[i] = byte(crc >> (8 * i))
	}
	return string(buf[:])
}

// Unseal returns a sealed string without its CRC.
func Unseal(text string) TextOut {
	body, err := unsealed(text)
	if err != nil {
		return TextOut{Code: sealedCode(err)}
	}
	return TextOut{Text: body}
}

func unsealed(text string) (string, error) {
	if len(text) > MaxBytes {
		return "", errSealSize
	}
	if len(text) < crcBytes {
		return "", errSealShort
	}
	end := len(text) - crcBytes
	if text[end:] != sumBytes(text[:end]) {
		return "", errSealSum
	}
	return text[:end], nil
}

// sealedCode returns the code of an error that came from reading a sealed string. Whatever is not about the seal is about what was sealed, and thus ErrSyntax.
func sealedCode(err error) int64 {
	switch {
	case errors.Is(err, errSealSize):
		return ErrSize
	case errors.Is(err, errSealShort):
		return ErrShort
	case errors.Is(err, errSealSum):
		return ErrSum
	default:
		return ErrSyntax
	}
}

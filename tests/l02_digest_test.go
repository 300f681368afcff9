package tests

import (
	"crypto/sha256"
	"encoding/hex"
	"strings"
	"testing"

	"loop.example/g00668/impl"
)

func digestIs(t *testing.T, text string, want string) {
	t.Helper()
	if got := hex.EncodeToString([]byte(impl.Digest(text))); got != want {
		t.Errorf("Digest(%.20q of %d bytes) = %q, want %q", text, len(text), got, want)
	}
}

func sumHex(text string) string {
	sum := sha256.Sum256([]byte(text))
	return hex.EncodeToString(sum[:])
}

// Digests that FIPS 180-4 fixes are written out here, so that this test depends on no other implementation.
func TestDigestKnown(t *testing.T) {
	known := []struct {
		text string
		want string
	}{
		{"", "e3b0c44298fc1c149afbf4c8996fb92427ae41e4649b934ca495991b7852b855"},
		{"abc", "ba7816bf8f01cfea414140de5dae2223b00361a396177a9cb410ff61f20015ad"},
		{"abcdbcdecdefdefgefghfghighijhijkijkljklmklmnlmnomnopnopq", "248d6a61d20638b8e5c026930c3e6039a33ce45964ff2167f6ecedd419db06c1"},
		{"abcdefghbcdefghicdefghijdefghijkefghijklfghijklmghijklmnhijklmnoijklmnopjklmnopqklmnopqrlmnopqrsmnopqrstnopqrstu", "cf5b16a778af8380036ce59e7b0492370b249b11e8f07a51afac45037afee9d1"},
		{"\xbd", "68325720aabd7c82f30f554b313d0570c95accbb7dc4b5aae11204c08ffe732b"},
		{strings.Repeat("\x00", 55), "02779466cdec163811d078815c633f21901413081449002f24aa3e80f0b88ef7"},
		{strings.Repeat("\x00", 56), "d4817aa5497628e7c77e6b606107042bbba3130888c5f47a375e6179be789fbb"},
		{strings.Repeat("\x00", 57), "65a16cb7861335d5ace3c60718b5052e44660726da4cd13bb745381b235a1785"},
		{strings.Repeat("\x00", 64), "f5a5fd42d16a20302798ef6ed309979b43003d2320d9f0e8ea9831a92759fb4b"},
		{strings.Repeat("\x00", 1000), "541b3e9daa09b20bf85fa273e5cbd3e80185aa4ec298e765db87742b70138a53"},
		{strings.Repeat("A", 1000), "c2e686823489ced2017f6059b8b239318b6364f6dcd835d0a519105a1eadd6e4"},
		{strings.Repeat("U", 1005), "f4d62ddec0f3dd90ea1380fa16a5ff8dc4c54b21740650f24afc4120903552b0"},
	}
	for _, k := range known {
		digestIs(t, k.text, k.want)
	}
}

func TestDigestAtEveryPadding(t *testing.T) {
	for size := range 3*64 + 10 {
		for _, text := range []string{pattern(size), strings.Repeat("\x00", size), strings.Repeat("\xff", size)} {
			digestIs(t, text, sumHex(text))
		}
	}
}

func TestDigestOfSeveralBlocks(t *testing.T) {
	for _, blocks := range []int{4, 5, 31, 32, 33, 124} {
		for _, beside := range []int{-9, -8, -1, 0, 1, 55, 56, 63} {
			text := pattern(64*blocks + beside)
			digestIs(t, text, sumHex(text))
		}
	}
}

func TestDigestAtTheSizeLimit(t *testing.T) {
	for _, size := range []int{impl.MaxBytes - 1, impl.MaxBytes} {
		text := pattern(size)
		digestIs(t, text, sumHex(text))
	}
	for _, size := range []int{impl.MaxBytes + 1, impl.MaxBytes + 64, 2 * impl.MaxBytes} {
		digestIs(t, pattern(size), "")
	}
}

func TestDigestHas32Bytes(t *testing.T) {
	for size := 0; size <= impl.MaxBytes; size += 37 {
		if got := len(impl.Digest(pattern(size))); got != 32 {
			t.Errorf("the digest of %d bytes has %d bytes", size, got)
		}
	}
}

func TestDigestDependsOnEveryByte(t *testing.T) {
	text := pattern(200)
	seen := map[string]int{impl.Digest(text): -1}
	for i := range len(text) {
		changed := text[:i] + string([]byte{text[i] ^ 1}) + text[i+1:]
		d := impl.Digest(changed)
		if other, ok := seen[d]; ok {
			t.Errorf("the digests with byte %d and with byte %d changed are equal", i, other)
		}
		seen[d] = i
	}
}

func TestDigestKeepsNoState(t *testing.T) {
	for range 3 {
		digestIs(t, "abc", sumHex("abc"))
		digestIs(t, pattern(impl.MaxBytes+1), "")
		digestIs(t, pattern(130), sumHex(pattern(130)))
	}
}

package tests

import (
	"bytes"
	"crypto/sha256"
	"encoding/binary"
	"encoding/hex"
	"strings"
	"testing"

	"loop.example/g00233/impl"
)

// knownDigests: texts of one block and of several, with the digests that NIST's examples of SHA-256 give.
var knownDigests = []struct {
	text   string
	digest string
}{
	{"", "e3b0c44298fc1c149afbf4c8996fb92427ae41e4649b934ca495991b7852b855"},
	{"abc", "ba7816bf8f01cfea414140de5dae2223b00361a396177a9cb410ff61f20015ad"},
	{"abcdbcdecdefdefgefghfghighijhijkijkljklmklmnlmnomnopnopq", "248d6a61d20638b8e5c026930c3e6039a33ce45964ff2167f6ecedd419db06c1"},
	{"abcdefghbcdefghicdefghijdefghijkefghijklfghijklmghijklmnhijklmnoijklmnopjklmnopqklmnopqrlmnopqrsmnopqrstnopqrstu", "cf5b16a778af8380036ce59e7b0492370b249b11e8f07a51afac45037afee9d1"},
	{"\xbd", "68325720aabd7c82f30f554b313d0570c95accbb7dc4b5aae11204c08ffe732b"},
	{"\xc9\x8c\x8e\x55", "7abc22c0ae5af26ce93dbb94433a0e0b2e119d014f8e7f65bd56c61ccccd9504"},
	{strings.Repeat("\x00", 55), "02779466cdec163811d078815c633f21901413081449002f24aa3e80f0b88ef7"},
	{strings.Repeat("\x00", 56), "d4817aa5497628e7c77e6b606107042bbba3130888c5f47a375e6179be789fbb"},
	{strings.Repeat("\x00", 57), "65a16cb7861335d5ace3c60718b5052e44660726da4cd13bb745381b235a1785"},
	{strings.Repeat("\x00", 64), "f5a5fd42d16a20302798ef6ed309979b43003d2320d9f0e8ea9831a92759fb4b"},
	{strings.Repeat("\x00", 1000), "541b3e9daa09b20bf85fa273e5cbd3e80185aa4ec298e765db87742b70138a53"},
	{strings.Repeat("A", 1000), "c2e686823489ced2017f6059b8b239318b6364f6dcd835d0a519105a1eadd6e4"},
	{strings.Repeat("a", 1000000), "cdc76e5c9914fb9281a1c7e284d73e67f1809a48a497200e046d39ccc7112cd0"},
}

// paddedSizes: how many bytes there are, and how many with what is padded.
var paddedSizes = []struct{ n, whole int }{
	{0, 64}, {1, 64}, {3, 64}, {54, 64}, {55, 64},
	{56, 128}, {57, 128}, {63, 128}, {64, 128}, {65, 128}, {118, 128}, {119, 128},
	{120, 192}, {127, 192}, {128, 192}, {183, 192}, {184, 256}, {1000, 1024}, {8192, 8256},
}

// wrongHexes: texts that no bytes have as their digits.
var wrongHexes = []string{
	"0", "a", "000", "00a", "0011a", strings.Repeat("0", 63),
	"A0", "0A", "AA", "F0", "0F", "fF", "Ff", "00B0", "000B", "0000FF",
	"g0", "0g", "/0", "0/", ":0", "0:", "`0", "0`", "@0", "0@", "G0", "0G", "z0", "0z",
	" 0", "0 ", "\n0", "0\n", "\x000", "0\x00", "-1", "+1", "x0", "0x", "0x0f", "00 0",
	"\x800", "0\x80", "\xff0", "0\xff", "\xb00", "0\xb0", "\xe10", "0\xe1", "é", "００",
	"00ffg0", "g000ff", "00g0ff", "000gff",
}

// bytesOf gives n bytes, none like its neighbours, so that one in a wrong place shows.
func bytesOf(n int) []byte {
	b := make([]byte, n)
	for i := range b {
		b[i] = byte(i*37 + i/256*11 + 5)
	}
	return b
}

func allBytes() string {
	b := make([]byte, 256)
	for i := range b {
		b[i] = byte(i)
	}
	return string(b)
}

// wantPadded holds each part of what is padded against the document's words, one by one.
func wantPadded(t *testing.T, b []byte) {
	t.Helper()
	p := impl.Padded(b)
	if len(p)%64 != 0 || len(p) < len(b)+9 || len(p) >= len(b)+9+64 {
		t.Errorf("%d bytes are padded to %d", len(b), len(p))
		return
	}
	if !bytes.HasPrefix(p, b) || p[len(b)] != 128 {
		t.Errorf("%d bytes: padded begins with %x", len(b), p[:len(b)+1])
	}
	for i, c := range p[len(b)+1 : len(p)-8] {
		if c != 0 {
			t.Errorf("%d bytes: %d stands among the noughts, at %d", len(b), c, i)
		}
	}
	if bits := binary.BigEndian.Uint64(p[len(p)-8:]); bits != uint64(len(b))*8 {
		t.Errorf("%d bytes are told to have %d bits", len(b), bits)
	}
}

func wantNoHex(t *testing.T, s string) {
	t.Helper()
	if got, ok := impl.UnHex(s); ok || got != "" {
		t.Errorf("UnHex(%q) = %q, %v; want nothing, false", s, got, ok)
	}
}

func wantHex(t *testing.T, s, digits string) {
	t.Helper()
	if got := impl.HexOf(s); got != digits {
		t.Errorf("HexOf(%q) = %q; want %q", s, got, digits)
	}
	if got, ok := impl.UnHex(digits); !ok || got != s {
		t.Errorf("UnHex(%q) = %q, %v; want %q, true", digits, got, ok, s)
	}
}

func TestPaddedWhole(t *testing.T) {
	noughts := func(n int) string { return strings.Repeat("\x00", n) }
	for _, x := range []struct{ text, padded string }{
		{"", "\x80" + noughts(63)},
		{"abc", "abc\x80" + noughts(52) + noughts(7) + "\x18"},
		{"\x00", "\x00\x80" + noughts(54) + noughts(7) + "\x08"},
		{"\xff\x80", "\xff\x80\x80" + noughts(53) + noughts(7) + "\x10"},
		{strings.Repeat("x", 55), strings.Repeat("x", 55) + "\x80" + noughts(6) + "\x01\xb8"},
		{strings.Repeat("x", 56), strings.Repeat("x", 56) + "\x80" + noughts(63) + noughts(6) + "\x01\xc0"},
		{strings.Repeat("x", 63), strings.Repeat("x", 63) + "\x80" + noughts(56) + noughts(6) + "\x01\xf8"},
		{strings.Repeat("x", 64), strings.Repeat("x", 64) + "\x80" + noughts(55) + noughts(6) + "\x02\x00"},
		{strings.Repeat("x", 8192), strings.Repeat("x", 8192) + "\x80" + noughts(55) + noughts(5) + "\x01\x00\x00"},
	} {
		if p := impl.Padded([]byte(x.text)); string(p) != x.padded {
			t.Errorf("Padded(%q) = %x; want %x", x.text, p, x.padded)
		}
	}
	if p := impl.Padded(nil); string(p) != "\x80"+noughts(63) {
		t.Errorf("Padded(nil) = %x", p)
	}
}

func TestPaddedPartByPart(t *testing.T) {
	for n := range 300 {
		wantPadded(t, bytesOf(n))
		wantPadded(t, bytes.Repeat([]byte{0}, n))
		wantPadded(t, bytes.Repeat([]byte{255}, n))
	}
	for _, n := range []int{4095, 4096, 8191, 8192, 65535, 65536, 1 << 21, 1<<21 + 56} {
		wantPadded(t, bytesOf(n))
	}
}

func TestPaddedHasNoBlockTooMany(t *testing.T) {
	for _, x := range paddedSizes {
		if p := impl.Padded(bytesOf(x.n)); len(p) != x.whole {
			t.Errorf("%d bytes are padded to %d; want %d", x.n, len(p), x.whole)
		}
	}
}

func TestKnownDigests(t *testing.T) {
	for _, x := range knownDigests {
		d := impl.Digest([]byte(x.text))
		if len(d) != 32 || hex.EncodeToString([]byte(d)) != x.digest {
			t.Errorf("Digest of %d bytes = %x; want %s", len(x.text), d, x.digest)
		}
		wantHex(t, d, x.digest)
	}
	if d := impl.Digest(nil); hex.EncodeToString([]byte(d)) != knownDigests[0].digest {
		t.Errorf("Digest(nil) = %x", d)
	}
}

func TestDigestsOfManySizes(t *testing.T) {
	sizes := []int{4095, 4096, 4097, 8192, 65536, 65591, 65592, 1 << 20}
	for n := range 400 {
		sizes = append(sizes, n)
	}
	for _, n := range sizes {
		for _, b := range [][]byte{bytesOf(n), bytes.Repeat([]byte{0}, n), bytes.Repeat([]byte{255}, n)} {
			want := sha256.Sum256(b)
			if d := impl.Digest(b); d != string(want[:]) {
				t.Fatalf("Digest of %d bytes = %x; want %x", n, d, want)
			}
		}
	}
}

func TestDigestsOfChains(t *testing.T) {
	d, want := "", [32]byte{}
	b := []byte{}
	for range 2000 {
		want = sha256.Sum256(b)
		d = impl.Digest(b)
		if d != string(want[:]) {
			t.Fatalf("Digest(%x) = %x; want %x", b, d, want)
		}
		b = append([]byte(d), d[:len(b)%32]...)
	}
}

func TestDigestTellsEachByte(t *testing.T) {
	seen := map[string]int{}
	b := bytesOf(130)
	seen[impl.Digest(b)]++
	for i := range b {
		for bit := range 8 {
			b[i] ^= 1 << bit
			seen[impl.Digest(b)]++
			b[i] ^= 1 << bit
		}
		seen[impl.Digest(b[:i])]++
	}
	if len(seen) != 1+130*9 {
		t.Errorf("%d digests of %d unlike lists", len(seen), 1+130*9)
	}
}

func TestHexOfEachByte(t *testing.T) {
	for i, c := range []byte(allBytes()) {
		digits := string("0123456789abcdef"[i/16]) + string("0123456789abcdef"[i%16])
		wantHex(t, string([]byte{c}), digits)
		wantHex(t, "\x00"+string([]byte{c})+"\xff", "00"+digits+"ff")
	}
	wantHex(t, allBytes(), hex.EncodeToString([]byte(allBytes())))
}

func TestHexComesBack(t *testing.T) {
	wantHex(t, "", "")
	wantHex(t, "\x00", "00")
	wantHex(t, "\xff", "ff")
	wantHex(t, "\x00\xff\x1a", "00ff1a")
	wantHex(t, "\x01\x23\x45\x67\x89\xab\xcd\xef", "0123456789abcdef")
	wantHex(t, "09af", "30396166")
	wantHex(t, "grüße", "6772c3bcc39f65")
	wantHex(t, strings.Repeat("\x00", 32), strings.Repeat("0", 64))
	wantHex(t, strings.Repeat("\xff", 32), strings.Repeat("f", 64))
	for n := range 200 {
		b := bytesOf(n)
		wantHex(t, string(b), hex.EncodeToString(b))
		wantHex(t, impl.Digest(b), hex.EncodeToString([]byte(impl.Digest(b))))
	}
}

func TestWrongHexes(t *testing.T) {
	for _, s := range wrongHexes {
		wantNoHex(t, s)
		wantNoHex(t, "00"+s)
		wantNoHex(t, s+"ff")
	}
	for n := 1; n < 130; n += 2 {
		wantNoHex(t, strings.Repeat("a", n))
	}
}

func TestEachPairOfSigns(t *testing.T) {
	right := 0
	for i := range 1 << 16 {
		s := string([]byte{byte(i >> 8), byte(i)})
		isHex := strings.Contains("0123456789abcdef", s[:1]) && strings.Contains("0123456789abcdef", s[1:])
		if !isHex {
			wantNoHex(t, s)
			continue
		}
		right++
		if got, ok := impl.UnHex(s); !ok || impl.HexOf(got) != s {
			t.Errorf("UnHex(%q) = %q, %v", s, got, ok)
		}
	}
	if right != 256 {
		t.Errorf("%d pairs are right", right)
	}
}

func TestPaddedSharesNothing(t *testing.T) {
	spare := strings.Repeat("#", 300)
	for _, n := range []int{0, 3, 55, 56, 64, 119, 120, 128} {
		text := string(bytesOf(n))
		b := roomy(text, spare)
		first, second := impl.Padded(b), impl.Padded(b)
		kept := string(second)
		if wholeOf(b) != text+spare {
			t.Errorf("Padded of %d bytes wrote into its argument or behind it", n)
		}
		for i := range first[:cap(first)] {
			first[:cap(first)][i] ^= 0xff
		}
		if wholeOf(b) != text+spare || string(second) != kept {
			t.Errorf("Padded of %d bytes: its answer shares memory", n)
		}
		for i := range b[:cap(b)] {
			b[:cap(b)][i] = '!'
		}
		if string(second) != kept {
			t.Errorf("Padded of %d bytes: its answer hangs on its argument", n)
		}
	}
}

func TestDigestLeavesItsArgumentAlone(t *testing.T) {
	spare := strings.Repeat("#", 300)
	for _, n := range []int{0, 3, 55, 56, 64, 119, 120, 128} {
		text := string(bytesOf(n))
		b := roomy(text, spare)
		want := sha256.Sum256([]byte(text))
		d := impl.Digest(b)
		if wholeOf(b) != text+spare {
			t.Errorf("Digest of %d bytes wrote into its argument or behind it", n)
		}
		if d != string(want[:]) {
			t.Errorf("Digest of %d bytes hangs on what is behind them", n)
		}
		for i := range b[:cap(b)] {
			b[:cap(b)][i] = '!'
		}
		if d != string(want[:]) || impl.Digest([]byte(text)) != d {
			t.Errorf("Digest of %d bytes hangs on its argument, or on an earlier call", n)
		}
	}
}

package tests

import (
	"bytes"
	"crypto/hmac"
	"crypto/sha256"
	"encoding"
	"encoding/binary"
	"encoding/hex"
	"fmt"
	"math/big"
	"regexp"
	"slices"
	"strings"
	"testing"

	"loop.example/g00123/impl"
)

// edgeSizes are the numbers of bytes at which padding begins a block more, and their neighbours.
func edgeSizes() []int {
	return []int{0, 1, 2, 54, 55, 56, 57, 62, 63, 64, 65, 66, 118, 119, 120, 121, 127, 128, 129, 183, 184, 191, 192, 193}
}

func (d *dice) text(size int) string {
	b := make([]byte, size)
	for i := range b {
		b[i] = byte(d.below(256))
	}
	return string(b)
}

// edgeTexts are of bytes that are all alike, or all different.
func edgeTexts(size int) []string {
	d := &dice{uint64(size) + 81}
	texts := []string{d.text(size)}
	for _, b := range []string{"\x00", "\x80", "\xff", "a"} {
		texts = append(texts, strings.Repeat(b, size))
	}
	return texts
}

// firstPrimes are found by dividing.
func firstPrimes(many int) []int64 {
	var primes []int64
	for x := int64(2); len(primes) < many; x++ {
		if !slices.ContainsFunc(primes, func(p int64) bool { return x%p == 0 }) {
			primes = append(primes, x)
		}
	}
	return primes
}

// rootBits are the first 32 bits behind the point of a root: the whole part of the root of p times 2 to the power of 32 times the degree, without what is ahead of the point.
func rootBits(p int64, degree uint) uint32 {
	aim := new(big.Int).Lsh(big.NewInt(p), 32*degree)
	root := new(big.Int)
	for bit := 40; bit >= 0; bit-- {
		more := new(big.Int).SetBit(root, bit, 1)
		if new(big.Int).Exp(more, big.NewInt(int64(degree)), nil).Cmp(aim) <= 0 {
			root = more
		}
	}
	return uint32(root.Uint64())
}

// wordsOf works with numbers of 64 bits, of which the lowest 32 are taken.
func wordsOf(block string) []uint32 {
	if len(block) != 64 {
		return nil
	}
	turned := func(x uint64, n int) uint64 { return (x>>n | x<<(32-n)) & 0xffffffff }
	var words []uint32
	for i := range 16 {
		words = append(words, binary.BigEndian.Uint32([]byte(block[4*i:])))
	}
	for i := 16; i < 64; i++ {
		x, y := uint64(words[i-15]), uint64(words[i-2])
		s0 := turned(x, 7) ^ turned(x, 18) ^ x/8
		s1 := turned(y, 17) ^ turned(y, 19) ^ y/1024
		words = append(words, uint32(uint64(words[i-16])+s0+uint64(words[i-7])+s1))
	}
	return words
}

const libraryState = "sha\x03"

// blockOf lets the library take the block, from any state on.
func blockOf(t *testing.T, state [8]uint32, block string) [8]uint32 {
	t.Helper()
	set := []byte(libraryState)
	for _, word := range state {
		set = binary.BigEndian.AppendUint32(set, word)
	}
	h := sha256.New()
	if err := h.(encoding.BinaryUnmarshaler).UnmarshalBinary(append(set, make([]byte, 64+8)...)); err != nil {
		t.Fatal(err)
	}
	h.Write([]byte(block))
	got, err := h.(encoding.BinaryMarshaler).MarshalBinary()
	if err != nil {
		t.Fatal(err)
	}
	for i := range state {
		state[i] = binary.BigEndian.Uint32(got[len(libraryState)+4*i:])
	}
	return state
}

func startState() [8]uint32 {
	return [8]uint32{1779033703, 3144134277, 1013904242, 2773480762, 1359893119, 2600822924, 528734635, 1541459225}
}

func (d *dice) eightWords() [8]uint32 {
	var state [8]uint32
	for i := range state {
		state[i] = uint32(d.below(1<<16))<<16 | uint32(d.below(1<<16))
	}
	return state
}

func sumOf(s string) string {
	if len(s) > 60000 {
		return ""
	}
	sum := sha256.Sum256([]byte(s))
	return string(sum[:])
}

func markOf(key string, s string) string {
	if len(key) > 64 || len(s) > 59800 {
		return ""
	}
	h := hmac.New(sha256.New, []byte(key))
	h.Write([]byte(s))
	return string(h.Sum(nil))
}

func TestConstantsOfSums(t *testing.T) {
	if impl.MaxBytes != 60000 {
		t.Fatal("MaxBytes")
	}
	want := []uint32{1116352408, 1899447441, 3049323471, 3921009573, 961987163, 1508970993, 2453635748, 2870763221}
	for i, word := range want {
		if got := impl.SumConst(i); got != word {
			t.Errorf("SumConst(%d): %d, want %d", i, got, word)
		}
	}
	for i, word := range startState() {
		if got := impl.SumStart(i); got != word {
			t.Errorf("SumStart(%d): %d, want %d", i, got, word)
		}
	}
}

func TestConstantsAreRootsOfPrimes(t *testing.T) {
	primes := firstPrimes(64)
	for i, p := range primes {
		if got, want := impl.SumConst(i), rootBits(p, 3); got != want {
			t.Errorf("SumConst(%d): %d, want %d", i, got, want)
		}
	}
	for i, p := range primes[:8] {
		if got, want := impl.SumStart(i), rootBits(p, 2); got != want {
			t.Errorf("SumStart(%d): %d, want %d", i, got, want)
		}
	}
	if impl.SumConst(63) != 3329325298 {
		t.Errorf("SumConst(63): %d", impl.SumConst(63))
	}
	for _, i := range append(edgeNumbers(), 7, 8, 9, 62, 63, 64, 65, 66, -7, -8, -63, -64, 320) {
		if got := impl.SumConst(i); got != 0 && (i < 0 || i > 63) || got == 0 && i >= 0 && i <= 63 {
			t.Errorf("SumConst(%d): %d", i, got)
		}
		if got := impl.SumStart(i); got != 0 && (i < 0 || i > 7) || got == 0 && i >= 0 && i <= 7 {
			t.Errorf("SumStart(%d): %d", i, got)
		}
	}
}

func TestSumWords(t *testing.T) {
	d := &dice{82}
	for _, size := range append(edgeSizes(), 60000, 60001) {
		for _, s := range edgeTexts(size) {
			if got := impl.SumWords(s); size != 64 && len(got) != 0 {
				t.Errorf("SumWords of %d bytes: %v", size, got)
			}
		}
	}
	blocks := edgeTexts(64)
	for i := range 64 {
		one := bytes.Repeat([]byte{0}, 64)
		one[i] = byte(1 << (i % 8))
		blocks = append(blocks, string(one), d.text(64))
	}
	for _, block := range blocks {
		if got, want := impl.SumWords(block), wordsOf(block); !slices.Equal(got, want) {
			t.Errorf("SumWords of %q: %v, want %v", block, got, want)
		}
	}
	// The block of abc, its words told apart from what is worked out here.
	got := impl.SumWords("abc\x80" + strings.Repeat("\x00", 59) + "\x18")
	if len(got) != 64 || got[0] != 0x61626380 || got[1] != 0 || got[15] != 0x18 || got[16] != 0x61626380 || got[17] != 0x000f0000 || got[63] != 0x12b1edeb {
		t.Errorf("SumWords of the block of abc: %x", got)
	}
}

func TestSumBlock(t *testing.T) {
	d := &dice{83}
	for _, block := range append(edgeTexts(64), d.text(64), d.text(64)) {
		states := [][8]uint32{{}, startState(), {5}, {7: 5}, {1, 2, 3, 4, 5, 6, 7, 8}, {1 << 31, 1 << 31, 1 << 31, 1 << 31, 1 << 31, 1 << 31, 1 << 31, 1 << 31}}
		var full [8]uint32
		for i := range full {
			full[i] = 1<<32 - 1
			var low, high [8]uint32
			low[i], high[i] = 1, 1<<32-1
			states = append(states, d.eightWords(), low, high)
		}
		for _, state := range append(states, full) {
			if got, want := impl.SumBlock(state, block), blockOf(t, state, block); got != want {
				t.Errorf("SumBlock of %v and %q: %v, want %v", state, block, got, want)
			}
		}
	}
	for _, size := range append(edgeSizes(), 256, 60000, 60001) {
		for _, s := range edgeTexts(size) {
			state := d.eightWords()
			if got := impl.SumBlock(state, s); size != 64 && got != state {
				t.Errorf("SumBlock of %v and %d bytes: %v", state, size, got)
			}
		}
	}
	got := impl.SumBlock(startState(), "abc\x80"+strings.Repeat("\x00", 59)+"\x18")
	if want := [8]uint32{0xba7816bf, 0x8f01cfea, 0x414140de, 0x5dae2223, 0xb00361a3, 0x96177a9c, 0xb410ff61, 0xf20015ad}; got != want {
		t.Errorf("SumBlock of the block of abc: %x", got)
	}
}

// checkPad asks for what the chapter says of the padded text, piece by piece.
func checkPad(t *testing.T, s string) {
	t.Helper()
	got := impl.SumPad(s)
	rest, ok := strings.CutPrefix(got, s+"\x80")
	if !ok || len(got)%64 != 0 || len(rest) < 8 || len(rest) >= 64+8 {
		t.Fatalf("SumPad of %d bytes: %q", len(s), got)
	}
	noughts, length := rest[:len(rest)-8], rest[len(rest)-8:]
	if strings.Trim(noughts, "\x00") != "" {
		t.Errorf("SumPad of %d bytes has %q ahead of how many they are", len(s), noughts)
	}
	if told := binary.BigEndian.Uint64([]byte(length)); told != 8*uint64(len(s)) {
		t.Errorf("SumPad of %d bytes tells %d bits", len(s), told)
	}
}

func TestSumPad(t *testing.T) {
	for size := range 260 {
		for _, s := range edgeTexts(size) {
			checkPad(t, s)
		}
	}
	for _, size := range []int{8191, 8192, 32767, 32768, 59959, 59960, 59968, 59999, 60000} {
		checkPad(t, edgeTexts(size)[0])
	}
	for _, k := range []struct {
		s    string
		want string
	}{
		{"", "\x80" + strings.Repeat("\x00", 63)},
		{"abc", "abc\x80" + strings.Repeat("\x00", 59) + "\x18"},
		{strings.Repeat("a", 55), strings.Repeat("a", 55) + "\x80\x00\x00\x00\x00\x00\x00\x01\xb8"},
		{strings.Repeat("a", 56), strings.Repeat("a", 56) + "\x80" + strings.Repeat("\x00", 69) + "\x01\xc0"},
		{strings.Repeat("a", 63), strings.Repeat("a", 63) + "\x80" + strings.Repeat("\x00", 62) + "\x01\xf8"},
		{strings.Repeat("a", 64), strings.Repeat("a", 64) + "\x80" + strings.Repeat("\x00", 61) + "\x02\x00"},
	} {
		if got := impl.SumPad(k.s); got != k.want {
			t.Errorf("SumPad of %q: %q, want %q", k.s, got, k.want)
		}
	}
	for size, want := range map[int]int{0: 64, 1: 64, 55: 64, 56: 128, 63: 128, 64: 128, 65: 128, 119: 128, 120: 192, 60000: 60032, 60001: 0, 60002: 0, 70000: 0} {
		if got := impl.SumPad(strings.Repeat("\x00", size)); len(got) != want {
			t.Errorf("SumPad of %d bytes has %d, want %d", size, len(got), want)
		}
	}
}

func TestSumsThatAreKnown(t *testing.T) {
	for _, k := range []struct {
		s    string
		want string
	}{
		{"", "e3b0c44298fc1c149afbf4c8996fb92427ae41e4649b934ca495991b7852b855"},
		{"abc", "ba7816bf8f01cfea414140de5dae2223b00361a396177a9cb410ff61f20015ad"},
		{"abcdbcdecdefdefgefghfghighijhijkijkljklmklmnlmnomnopnopq", "248d6a61d20638b8e5c026930c3e6039a33ce45964ff2167f6ecedd419db06c1"},
		{"abcdefghbcdefghicdefghijdefghijkefghijklfghijklmghijklmnhijklmnoijklmnopjklmnopqklmnopqrlmnopqrsmnopqrstnopqrstu", "cf5b16a778af8380036ce59e7b0492370b249b11e8f07a51afac45037afee9d1"},
		{"\xbd", "68325720aabd7c82f30f554b313d0570c95accbb7dc4b5aae11204c08ffe732b"},
		{"\xc9\x8c\x8e\x55", "7abc22c0ae5af26ce93dbb94433a0e0b2e119d014f8e7f65bd56c61ccccd9504"},
		{strings.Repeat("\x00", 55), "02779466cdec163811d078815c633f21901413081449002f24aa3e80f0b88ef7"},
		{strings.Repeat("\x00", 56), "d4817aa5497628e7c77e6b606107042bbba3130888c5f47a375e6179be789fbb"},
		{strings.Repeat("\x00", 64), "f5a5fd42d16a20302798ef6ed309979b43003d2320d9f0e8ea9831a92759fb4b"},
		{"a", "ca978112ca1bbdcafac231b39a23dc4da786eff8147c4e72b9807785afee48bb"},
		{strings.Repeat("a", 55), "9f4390f8d30c2dd92ec9f095b65e2b9ae9b0a925a5258e241c9f1e910f734318"},
		{strings.Repeat("a", 56), "b35439a4ac6f0948b6d6f9e3c6af0f5f590ce20f1bde7090ef7970686ec6738a"},
		{strings.Repeat("a", 63), "7d3e74a05d7db15bce4ad9ec0658ea98e3f06eeecf16b4c6fff2da457ddc2f34"},
		{strings.Repeat("a", 64), "ffe054fe7ae0cb6dc65c3af9b61d5209f439851db43d0ba5997337df154668eb"},
		{strings.Repeat("a", 65), "635361c48bb9eab14198e76ea8ab7f1a41685d6ad62aa9146d301d4f17eb0ae0"},
		{strings.Repeat("a", 119), "31eba51c313a5c08226adf18d4a359cfdfd8d2e816b13f4af952f7ea6584dcfb"},
		{strings.Repeat("a", 120), "2f3d335432c70b580af0e8e1b3674a7c020d683aa5f73aaaedfdc55af904c21c"},
		{strings.Repeat("a", 60000), "956efae2219533b44d328242c6083c0eee503625290fc829cef07ecea6e07c23"},
		{strings.Repeat("a", 60001), ""}, {strings.Repeat("a", 60064), ""}, {strings.Repeat("a", 1000000), ""},
	} {
		if got := hex.EncodeToString([]byte(impl.Sum(k.s))); got != k.want {
			t.Errorf("Sum of %d bytes: %s, want %s", len(k.s), got, k.want)
		}
	}
}

func TestSumsAsTheLibraryHasThem(t *testing.T) {
	var texts []string
	for size := range 260 {
		texts = append(texts, edgeTexts(size)...)
	}
	for _, size := range []int{4095, 4096, 8191, 8192, 32768, 59959, 59960, 59999, 60000, 60001} {
		texts = append(texts, edgeTexts(size)[0])
	}
	for _, s := range texts {
		if impl.Sum(s) != sumOf(s) {
			t.Errorf("Sum of %d bytes: %x, want %x", len(s), impl.Sum(s), sumOf(s))
		}
	}
}

// Promise 8: a sum is the blocks of what is padded.
func TestSumIsBlocksOfWhatIsPadded(t *testing.T) {
	for _, size := range append(edgeSizes(), 1000, 59999, 60000) {
		for _, s := range edgeTexts(size)[:2] {
			var state [8]uint32
			for i := range state {
				state[i] = impl.SumStart(i)
			}
			padded := impl.SumPad(s)
			for ; padded != ""; padded = padded[64:] {
				state = impl.SumBlock(state, padded[:64])
			}
			var want []byte
			for _, word := range state {
				want = binary.BigEndian.AppendUint32(want, word)
			}
			if got := impl.Sum(s); got != string(want) || len(got) != 32 {
				t.Errorf("Sum of %d bytes: %x, its blocks %x", size, got, want)
			}
		}
	}
}

func TestMarksThatAreKnown(t *testing.T) {
	var counted []byte
	for b := byte(1); b <= 25; b++ {
		counted = append(counted, b)
	}
	k64 := strings.Repeat("k", 64)
	for _, k := range []struct {
		key  string
		s    string
		want string
	}{
		{"", "", "b613679a0814d9ec772f95d778c35fc5ff1697c493715653c6c712144292c5ad"},
		{strings.Repeat("\x0b", 20), "Hi There", "b0344c61d8db38535ca8afceaf0bf12b881dc200c9833da726e9376c2e32cff7"},
		{"Jefe", "what do ya want for nothing?", "5bdcc146bf60754e6a042426089575c75a003f089d2739839dec58b964ec3843"},
		{strings.Repeat("\xaa", 20), strings.Repeat("\xdd", 50), "773ea91e36800e46854db8ebd09181a72959098b3ef8c122d9635514ced565fe"},
		{string(counted), strings.Repeat("\xcd", 50), "82558a389a443c0ea4cc819899f2083a85f0faa3e578f8077a2e3ff46729665b"},
		{"key", "The quick brown fox jumps over the lazy dog", "f7bc83f430538424b13298e6aa6fb143ef4d59a14946175997479dbc2d1a3cd8"},
		{k64, "", "83026a325aaee70e36cfe607536aa1054104ad1077c36134810d4ccded1ccd3b"},
		{k64, strings.Repeat("a", 59800), "7742427fc9cf0d977f668bf11375df679bfc41faf3aaf422859772ca1e3feb30"},
		// A key or a text that is one byte too long, or many; the longer key is not taken by its sum.
		{k64 + "k", "", ""}, {k64 + "\x00", "", ""}, {k64 + "k", "abc", ""}, {strings.Repeat("\xaa", 131), "Test Using Larger Than Block-Size Key - Hash Key First", ""},
		{k64, strings.Repeat("a", 59801), ""}, {"", strings.Repeat("a", 59801), ""}, {"", strings.Repeat("a", 59936), ""}, {"", strings.Repeat("a", 60000), ""}, {"", strings.Repeat("a", 60001), ""}, {k64 + "k", strings.Repeat("a", 59801), ""}, {strings.Repeat("k", 60001), strings.Repeat("a", 60001), ""},
	} {
		if got := hex.EncodeToString([]byte(impl.Mac(k.key, k.s))); got != k.want {
			t.Errorf("Mac by %q of %d bytes: %s, want %s", k.key, len(k.s), got, k.want)
		}
	}
}

func TestMarksAsTheLibraryHasThem(t *testing.T) {
	for size := range 70 {
		for i, key := range edgeTexts(size) {
			for _, many := range []int{0, 1, 20, 55, 56, 63, 64, 65} {
				s := edgeTexts(many)[i]
				if got, want := impl.Mac(key, s), markOf(key, s); got != want {
					t.Errorf("Mac by %q of %q: %x, want %x", key, s, got, want)
				}
			}
		}
	}
	for _, size := range []int{59735, 59736, 59799, 59800, 59801} {
		for _, key := range []string{"", "key", strings.Repeat("\xff", 64)} {
			s := edgeTexts(size)[0]
			if got, want := impl.Mac(key, s), markOf(key, s); got != want {
				t.Errorf("Mac by %q of %d bytes: %x, want %x", key, size, got, want)
			}
		}
	}
}

// Promise 8: a mark is that of its text and key, as the chapter puts it together out of sums.
func TestMarkIsSumOfSum(t *testing.T) {
	for _, size := range []int{0, 1, 31, 32, 63, 64} {
		for _, key := range edgeTexts(size) {
			k := key + strings.Repeat("\x00", 64-len(key))
			inner, outer := []byte(k), []byte(k)
			for i := range len(k) {
				inner[i], outer[i] = k[i]^54, k[i]^92
			}
			for _, s := range []string{"", "abc", strings.Repeat("x", 200)} {
				want := impl.Sum(string(outer) + impl.Sum(string(inner)+s))
				if got := impl.Mac(key, s); got != want || len(got) != 32 {
					t.Errorf("Mac by %q of %q: %x, want %x", key, s, got, want)
				}
			}
			for n := len(key); n <= 64; n++ {
				if impl.Mac(k[:n], "abc") != impl.Mac(key, "abc") {
					t.Errorf("Mac by %q is not that by %q", k[:n], key)
				}
			}
		}
	}
	if impl.Mac(strings.Repeat("\x00", 65), "abc") != "" {
		t.Error("Mac by 65 bytes 0")
	}
	if impl.Mac("k", "abc") == impl.Mac("\x00k", "abc") || impl.Mac("k", "abc") == impl.Mac("k", "abc\x00") || impl.Mac("ka", "bc") == impl.Mac("k", "abc") {
		t.Error("other keys and texts have other marks")
	}
}

func TestMacOk(t *testing.T) {
	for _, k := range [][2]string{{"", ""}, {"Jefe", "what do ya want for nothing?"}, {strings.Repeat("\xff", 64), strings.Repeat("\x00", 300)}, {"k", strings.Repeat("a", 59800)}} {
		key, s := k[0], k[1]
		mark := markOf(key, s)
		if !impl.MacOk(key, s, mark) || !impl.MacOk(key, s, impl.Mac(key, s)) {
			t.Errorf("MacOk by %q refuses the mark of %d bytes", key, len(s))
		}
		others := []string{"", "\x00", mark[:31], mark[1:], mark + "\x00", mark + mark, "\x00" + mark, strings.Repeat("\x00", 32), hex.EncodeToString([]byte(mark)), markOf(key, s+"x"), markOf(key+"x", s), sumOf(s)}
		for i := range 256 {
			if len(s) > 1000 && i%50 != 7 {
				continue
			}
			other := []byte(mark)
			other[i/8] ^= 1 << (i % 8)
			others = append(others, string(other))
		}
		for _, other := range others {
			if other != mark && impl.MacOk(key, s, other) {
				t.Errorf("MacOk by %q of %d bytes takes %x", key, len(s), other)
			}
		}
	}
	// Where Mac is the empty text, no mark is one, that text neither.
	for _, k := range [][2]string{{strings.Repeat("k", 65), "abc"}, {"k", strings.Repeat("a", 59801)}, {strings.Repeat("k", 65), strings.Repeat("a", 60001)}} {
		for _, mark := range []string{"", "\x00", impl.Mac(k[0], k[1]), markOf(k[0][:1], "abc"), strings.Repeat("\x00", 32)} {
			if impl.MacOk(k[0], k[1], mark) {
				t.Errorf("MacOk at a key of %d and a text of %d bytes takes %q", len(k[0]), len(k[1]), mark)
			}
		}
	}
	key := "Jefe"
	if impl.MacOk("jefe", "abc", impl.Mac(key, "abc")) || impl.MacOk(key, "abd", impl.Mac(key, "abc")) || !impl.MacOk(key+"\x00", "abc", impl.Mac(key, "abc")) {
		t.Error("another key or text")
	}
}

func TestHexText(t *testing.T) {
	for b := range 256 {
		s := string([]byte{byte(b)})
		if got, want := impl.HexText(s), fmt.Sprintf("%02x", b); got != want {
			t.Errorf("HexText of byte %d: %q, want %q", b, got, want)
		}
	}
	for _, size := range append(edgeSizes(), 300, 59999, 60000) {
		for _, s := range edgeTexts(size) {
			if got := impl.HexText(s); got != hex.EncodeToString([]byte(s)) {
				t.Errorf("HexText of %d bytes: %q", size, got)
			}
		}
	}
	for _, size := range []int{60001, 60002, 120000, 120001} {
		if got := impl.HexText(strings.Repeat("\x07", size)); got != "" {
			t.Errorf("HexText of %d bytes: %d digits", size, len(got))
		}
	}
	if got := impl.HexText("\x00\x0f\xf0é\xff"); got != "000ff0c3a9ff" {
		t.Errorf("HexText: %q", got)
	}
}

var hexForm = regexp.MustCompile(`\A([0-9a-f][0-9a-f])*\z`)

func checkHex(t *testing.T, s string) {
	t.Helper()
	want := ""
	wantOk := len(s) <= 120000 && hexForm.MatchString(s)
	if wantOk {
		b, _ := hex.DecodeString(s)
		want = string(b)
	}
	if got, ok := impl.HexBytes(s); got != want || ok != wantOk {
		t.Errorf("HexBytes of %d bytes %.100q: %.100q %v, want %.100q %v", len(s), s, got, ok, want, wantOk)
	}
}

func TestHexBytesAtTheEdges(t *testing.T) {
	for _, k := range []struct {
		s    string
		want string
		ok   bool
	}{
		{"", "", true}, {"00", "\x00", true}, {"ff", "\xff", true}, {"00ff", "\x00\xff", true}, {"6a6B", "", false}, {"0F", "", false}, {"F0", "", false}, {"FF", "", false}, {"AB", "", false},
		{"0", "", false}, {"f", "", false}, {"000", "", false}, {"00f", "", false}, {"0000g", "", false}, {"0g", "", false}, {"g0", "", false}, {"/0", "", false}, {"0:", "", false}, {"`a", "", false}, {"a@", "", false},
		{" 00", "", false}, {"00 ", "", false}, {"0 0", "", false}, {" 0", "", false}, {"0 ", "", false}, {"00\n", "", false}, {"0\n", "", false}, {"0x00", "", false}, {"-1", "", false}, {"+1", "", false}, {"\x00\x00", "", false}, {"é", "", false}, {"00é", "", false}, {"0é0", "", false}, {"\xff\xff", "", false}, {"\xff0", "", false}, {"٣٣", "", false}, {"00zz00", "", false}, {"0000-", "", false},
	} {
		if got, ok := impl.HexBytes(k.s); got != k.want || ok != k.ok {
			t.Errorf("HexBytes of %q: %q %v, want %q %v", k.s, got, ok, k.want, k.ok)
		}
		checkHex(t, k.s)
	}
	for _, size := range []int{119998, 119999, 120000, 120001, 120002, 240000} {
		checkHex(t, strings.Repeat("a", size))
		checkHex(t, strings.Repeat("a", size-1)+"A")
		checkHex(t, "."+strings.Repeat("a", size-1))
	}
	if s, ok := impl.HexBytes(strings.Repeat("07", 60000)); !ok || s != strings.Repeat("\x07", 60000) {
		t.Error("HexBytes of 2 * MaxBytes digits is refused")
	}
	if s, ok := impl.HexBytes(strings.Repeat("07", 60001)); ok || s != "" {
		t.Error("HexBytes of two digits more is taken")
	}
}

// Promise 8: a text comes back from its digits, and nothing but such digits is taken.
func TestHexBytesOfEveryTwoSigns(t *testing.T) {
	for x := range 1 << 16 {
		two := string([]byte{byte(x >> 8), byte(x)})
		checkHex(t, two)
		if got, ok := impl.HexBytes(impl.HexText(two)); got != two || !ok {
			t.Errorf("HexBytes of HexText of %q: %q %v", two, got, ok)
		}
		if got, ok := impl.HexBytes(two); ok && impl.HexText(got) != two {
			t.Errorf("HexBytes takes %q, which is no HexText", two)
		}
	}
	for _, size := range append(edgeSizes(), 1000, 59999, 60000) {
		for _, s := range edgeTexts(size) {
			if got, ok := impl.HexBytes(impl.HexText(s)); got != s || !ok {
				t.Errorf("HexBytes of HexText of %d bytes: %v", size, ok)
			}
		}
	}
}

func TestHexBytesOfTextsWithOneFault(t *testing.T) {
	d := &dice{84}
	for range 300 {
		s := []byte(hex.EncodeToString([]byte(d.text(1 + d.below(20)))))
		at := d.below(len(s))
		checkHex(t, string(s))
		checkHex(t, string(s[:at]))
		checkHex(t, string(slices.Delete(slices.Clone(s), at, at+1)))
		checkHex(t, string(slices.Insert(slices.Clone(s), at, byte(d.below(256)))))
		s[at] = byte(d.below(256))
		checkHex(t, string(s))
	}
}

// Promise 15: every function of the chapter answers at any arguments, and writes into none.
func TestSumFunctionsWriteIntoNothing(t *testing.T) {
	d := &dice{85}
	state := d.eightWords()
	was := state
	for _, size := range append(edgeSizes(), 59800, 59801, 60000, 60001, 120000, 120001) {
		for _, text := range edgeTexts(size)[:2] {
			kept := strings.Clone(text)
			key := d.text(d.below(66))
			keptKey := strings.Clone(key)
			first, second := impl.SumWords(text), impl.SumWords(text)
			want := slices.Clone(second)
			for i := range first[:cap(first)] {
				first[:cap(first)][i] = 9000
			}
			if !slices.Equal(second, want) || !slices.Equal(impl.SumWords(text), want) {
				t.Fatal("SumWords answers memory of another answer")
			}
			next := impl.SumBlock(state, text)
			next[0]++
			if state != was {
				t.Fatal("SumBlock wrote into its state")
			}
			again := impl.SumBlock(state, text)
			if next[0]--; next != again {
				t.Fatal("SumBlock answers something else the second time")
			}
			impl.SumPad(text)
			mark := impl.Mac(key, text)
			impl.MacOk(key, text, mark)
			impl.MacOk(key, text, text)
			impl.HexText(text)
			impl.HexBytes(text)
			if impl.Sum(text) != sumOf(text) || mark != markOf(key, text) || text != kept || key != keptKey {
				t.Fatalf("a text of %d bytes or what is told of it changed", size)
			}
		}
	}
}

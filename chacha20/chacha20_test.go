package chacha20_test

import (
	"bytes"
	"crypto/sha256"
	"encoding/binary"
	"encoding/hex"
	"math"
	"math/bits"
	"math/rand/v2"
	"strings"
	"testing"

	"kinkeep/api"
	"kinkeep/chacha20"
)

const (
	ok    = api.OK
	bad   = api.ErrArgument
	large = api.ErrTooLarge
)

const (
	mostBytes  = 1 << 20
	streamSize = 1 << 38
)

func newRandom() *rand.Rand { return rand.New(rand.NewPCG(7, 7)) }

// sample returns n random bytes.
func sample(random *rand.Rand, n int) []byte {
	b := make([]byte, n)
	for i := range b {
		b[i] = byte(random.Uint32())
	}
	return b
}

// text returns the bytes with these hexadecimal digits.
func text(t *testing.T, digits string) string {
	t.Helper()
	b, err := hex.DecodeString(digits)
	if err != nil {
		t.Fatal(err)
	}
	return string(b)
}

// counting returns a string of the bytes 0 to n - 1.
func counting(n int) string {
	b := make([]byte, n)
	for i := range b {
		b[i] = byte(i)
	}
	return string(b)
}

// quarter is the quarter round, step by step on numbers of 64 bits.
func quarter(a, b, c, d uint32) [4]uint32 {
	words := [4]uint32{a, b, c, d}
	for _, step := range []struct{ to, from, mixed, turn int }{{0, 1, 3, 16}, {2, 3, 1, 12}, {0, 1, 3, 8}, {2, 3, 1, 7}} {
		words[step.to] = uint32((uint64(words[step.to]) + uint64(words[step.from])) % (1 << 32))
		wide := uint64(words[step.mixed]^words[step.to]) << step.turn
		words[step.mixed] = uint32(wide) | uint32(wide>>32)
	}
	return words
}

// unquarter returns the words whose quarter round has this result.
func unquarter(a, b, c, d uint32) [4]uint32 {
	b = bits.RotateLeft32(b, -7) ^ c
	c -= d
	d = bits.RotateLeft32(d, -8) ^ a
	a -= b
	b = bits.RotateLeft32(b, -12) ^ c
	c -= d
	d = bits.RotateLeft32(d, -16) ^ a
	a -= b
	return [4]uint32{a, b, c, d}
}

// expected returns a block, computed by rows and diagonals.
func expected(key, nonce string, counter uint32) []byte {
	start := []byte("expand 32-byte k" + key)
	start = binary.LittleEndian.AppendUint32(start, counter)
	start = append(start, nonce...)
	var first, words [16]uint32
	for i := range first {
		first[i] = binary.LittleEndian.Uint32(start[4*i:])
	}
	words = first
	for round := range 20 {
		for column := range 4 {
			shift := round % 2
			at := [4]int{column, 4 + (column+shift)%4, 8 + (column+2*shift)%4, 12 + (column+3*shift)%4}
			for i, w := range quarter(words[at[0]], words[at[1]], words[at[2]], words[at[3]]) {
				words[at[i]] = w
			}
		}
	}
	var block []byte
	for i := range words {
		block = binary.LittleEndian.AppendUint32(block, words[i]+first[i])
	}
	return block
}

// P7.1: the examples of the chapter and of RFC 8439.
func TestKnownQuarters(t *testing.T) {
	for _, c := range [][2][4]uint32{
		{{0x11111111, 0x01020304, 0x9b8d6f43, 0x01234567}, {0xea2a92f4, 0xcb1cf8ce, 0x4581472e, 0x5881c4bb}},
		{{0x516461b1, 0x2a5f714c, 0x53372767, 0x3d631689}, {0xbdb886dc, 0xcfacafd2, 0xe46bea80, 0xccc07c79}},
		{{0, 0, 0, 0}, {0, 0, 0, 0}},
	} {
		a, b, c, d, want := c[0][0], c[0][1], c[0][2], c[0][3], c[1]
		a, b, c, d = chacha20.Quarter(a, b, c, d)
		if [4]uint32{a, b, c, d} != want {
			t.Errorf("%x, %x, %x, %x instead of %x", a, b, c, d, want)
		}
	}
}

// words returns words for quarter rounds, among them the least and the greatest.
func words() (list [][4]uint32) {
	edges := []uint32{0, 1, 0x7fffffff, 0x80000000, 0xffffffff}
	for i := range 625 {
		list = append(list, [4]uint32{edges[i%5], edges[i/5%5], edges[i/25%5], edges[i/125]})
	}
	random := newRandom()
	for range 5000 {
		list = append(list, [4]uint32{random.Uint32(), random.Uint32(), random.Uint32(), random.Uint32()})
	}
	return list
}

// P7.1, P7.5: every result leads back to its words, so that no two have the same.
func TestQuarter(t *testing.T) {
	for _, w := range words() {
		a, b, c, d := chacha20.Quarter(w[0], w[1], w[2], w[3])
		if [4]uint32{a, b, c, d} != quarter(w[0], w[1], w[2], w[3]) {
			t.Fatalf("of %x: %x, %x, %x, %x", w, a, b, c, d)
		}
		if unquarter(a, b, c, d) != w {
			t.Fatalf("%x is not the inverse", w)
		}
		back := unquarter(w[0], w[1], w[2], w[3])
		a, b, c, d = chacha20.Quarter(back[0], back[1], back[2], back[3])
		if [4]uint32{a, b, c, d} != w {
			t.Fatalf("%x is no result", w)
		}
	}
}

// P7.2: the example of the chapter with its whole block, those of RFC 8439, A.1, and the last block of a key stream; OpenSSL gives the same ones.
func TestKnownBlocks(t *testing.T) {
	zero := strings.Repeat("00", 32)
	for _, c := range []struct {
		key, nonce string
		counter    uint32
		want       string
	}{
		{"000102030405060708090a0b0c0d0e0f101112131415161718191a1b1c1d1e1f", "000000090000004a00000000", 1,
			"10f1e7e4d13b5915500fdd1fa32071c4c7d1f4c733c068030422aa9ac3d46c4ed2826446079faa0914c2d705d98b02a2b5129cd1de164eb9cbd083e8a2503c4e"},
		{zero, zero[:24], 0,
			"76b8e0ada0f13d90405d6ae55386bd28bdd219b8a08ded1aa836efcc8b770dc7da41597c5157488d7724e03fb8d84a376a43b8f41518a11cc387b669b2ee6586"},
		{zero, zero[:24], 1,
			"9f07e7be5551387a98ba977c732d080dcb0f29a048e3656912c6533e32ee7aed29b721769ce64e43d57133b074d839d531ed1f28510afb45ace10a1f4b794d6f"},
		{zero[:62] + "01", zero[:24], 1,
			"3aeb5224ecf849929b9d828db1ced4dd832025e8018b8160b82284f3c949aa5a8eca00bbb4a73bdad192b5c42f73f2fd4e273644c8b36125a64addeb006c13a0"},
		{"00ff" + zero[:60], zero[:24], 2,
			"72d54dfbf12ec44b362692df94137f328fea8da73990265ec1bbbea1ae9af0ca13b25aa26cb4a648cb9b9d1be65b2c0924a66c54d545ec1b7374f4872e99f096"},
		{zero, zero[:22] + "02", 0,
			"c2c64d378cd536374ae204b9ef933fcd1a8b2288b3dfa49672ab765b54ee27c78a970e0e955c14f3a88e741b97c286f75f8fc299e8148362fa198a39531bed6d"},
		{"000102030405060708090a0b0c0d0e0f101112131415161718191a1b1c1d1e1f", "000000000000004a00000000", math.MaxUint32,
			"6d29da5bd16a472910e8c0bdb47edfc8499c3222cc168d3721747fc2b21266d9f15c8339f10f354d16cc9b8e118eb182bf858ce5718fa4e76389ea4eb50a9475"},
	} {
		key, nonce := text(t, c.key), text(t, c.nonce)
		b, e := chacha20.Block(key, nonce, c.counter)
		if hex.EncodeToString(b) != c.want || e != ok {
			t.Errorf("counter %d: %x, %d", c.counter, b, e)
		}
		// The function that the other tests compare with is right, too.
		if !bytes.Equal(b, expected(key, nonce, c.counter)) {
			t.Errorf("counter %d: not %x", c.counter, b)
		}
	}
	b, e := chacha20.Block(counting(32), "\x00\x00\x00\x09\x00\x00\x00\x4a\x00\x00\x00\x00", 1)
	if e != ok || !bytes.HasPrefix(b, []byte{16, 241, 231, 228, 209, 59, 89, 21}) {
		t.Errorf("the example: %v, %d", b, e)
	}
}

// P7.2
func TestBlock(t *testing.T) {
	random := newRandom()
	for _, counter := range []uint32{0, 1, 2, 255, 256, 65535, 65536, 1 << 24, 1<<31 - 1, 1 << 31, math.MaxUint32 - 1, math.MaxUint32} {
		for range 20 {
			key, nonce := string(sample(random, 32)), string(sample(random, 12))
			if b, e := chacha20.Block(key, nonce, counter); e != ok || !bytes.Equal(b, expected(key, nonce, counter)) {
				t.Fatalf("key %x, nonce %x, counter %d: %x, %d", key, nonce, counter, b, e)
			}
		}
	}
	high := strings.Repeat("\xff", 32)
	if b, e := chacha20.Block(high, high[:12], math.MaxUint32); e != ok || !bytes.Equal(b, expected(high, high[:12], math.MaxUint32)) {
		t.Errorf("the highest bytes: %x, %d", b, e)
	}
}

// P7.3: from every byte of the first blocks on, and around limits of blocks far behind.
func TestStream(t *testing.T) {
	random := newRandom()
	key, nonce := string(sample(random, 32)), string(sample(random, 12))
	check := func(offset, n int) {
		t.Helper()
		var whole []byte
		first := offset / 64
		for counter := first; 64*counter < offset+n; counter++ {
			whole = append(whole, expected(key, nonce, uint32(counter))...)
		}
		part, e := chacha20.Stream(key, nonce, offset, n)
		if e != ok || len(part) != n || n > 0 && !bytes.Equal(part, whole[offset-64*first:][:n]) {
			t.Fatalf("%d bytes from %d on: %x, %d", n, offset, part, e)
		}
	}
	for offset := range 130 {
		for _, n := range []int{0, 1, 2, 63, 64, 65, 127, 128, 129, 200} {
			check(offset, n)
		}
	}
	for _, start := range []int{1 << 16, 1 << 22, 1 << 30, 1 << 32, 1<<37 + 64, streamSize - 1024} {
		for _, offset := range []int{start - 65, start - 64, start - 63, start - 1, start, start + 1, start + 63} {
			for _, n := range []int{0, 1, 64, 100, 128, 500} {
				check(offset, n)
			}
		}
	}
	check(0, mostBytes)
	check(streamSize/2-7, mostBytes)
	check(streamSize-mostBytes, mostBytes)
}

// P7.3: the text of RFC 8439, 2.4.2, and a long stream; OpenSSL gives the same ones.
func TestKnownStreams(t *testing.T) {
	key := counting(32)
	plain := "Ladies and Gentlemen of the class of '99: If I could offer you only one tip for the future, sunscreen would be it."
	stream, e := chacha20.Stream(key, "\x00\x00\x00\x00\x00\x00\x00\x4a\x00\x00\x00\x00", 64, len(plain))
	if e != ok {
		t.Fatal(e)
	}
	sealed, e := chacha20.Xor([]byte(plain), stream)
	if want := "6e2e359a2568f98041ba0728dd0d6981e97e7aec1d4360c20a27afccfd9fae0bf91b65c5524733ab8f593dabcd62b3571639d624e65152ab8f530c359f0861d8" +
		"07ca0dbf500d6a6156a38e088a22b65e52bc514d16ccf806818ce91ab77937365af90bbf74a35be6b40b8eedf2785e42874d"; hex.EncodeToString(sealed) != want || e != ok {
		t.Errorf("sealed: %x, %d", sealed, e)
	}
	stream, e = chacha20.Stream(key, "\x00\x00\x00\x09\x00\x00\x00\x4a\x00\x00\x00\x00", 0, 1000000)
	if sum := sha256.Sum256(stream); hex.EncodeToString(sum[:]) != "aa26a96a284f7402c145cd3c0f4053af63c5ad788dfd20cf473b61b322bcef7f" || e != ok {
		t.Errorf("a million bytes: %x, %d", sum, e)
	}
}

// P7.2, P7.3, P1
func TestErrors(t *testing.T) {
	key, nonce := counting(32), counting(12)
	type request struct {
		key, nonce string
		offset, n  int
		e          api.Errno
	}
	list := []request{
		{key, nonce, 0, 0, ok}, {key, nonce, 0, mostBytes, ok}, {key, nonce, 0, mostBytes + 1, large}, {key, nonce, 0, math.MaxInt, large},
		{key, nonce, streamSize, 0, ok}, {key, nonce, streamSize, 1, large}, {key, nonce, streamSize + 1, 0, large}, {key, nonce, streamSize - 1, 1, ok},
		{key, nonce, streamSize - 1, 2, large}, {key, nonce, streamSize - mostBytes, mostBytes, ok}, {key, nonce, streamSize - mostBytes + 1, mostBytes, large},
		{key, nonce, math.MaxInt, 0, large}, {key, nonce, math.MaxInt, 1, large}, {key, nonce, math.MaxInt, math.MaxInt, large}, {key, nonce, math.MaxInt - 5, 64, large},
		{key, nonce, -1, 1, bad}, {key, nonce, 1, -1, bad}, {key, nonce, math.MinInt, math.MinInt, bad}, {key, nonce, math.MinInt, 0, bad}, {key, nonce, 0, math.MinInt, bad},
		{key, nonce, -1, 0, bad}, {key, nonce, -64, 64, bad},
		// ErrArgument comes first.
		{key, nonce, -1, mostBytes + 1, bad}, {key, nonce, math.MaxInt, -1, bad}, {key[1:], nonce, 0, mostBytes + 1, bad}, {key, nonce[1:], streamSize, 1, bad},
	}
	for _, n := range []int{0, 1, 11, 12, 13, 16, 24, 31, 33, 64, 1000} {
		list = append(list, request{strings.Repeat("k", n), nonce, 0, 1, bad})
		if n != len(nonce) {
			list = append(list, request{key, strings.Repeat("n", n), 0, 1, bad})
		}
	}
	list = append(list, request{nonce, key, 0, 1, bad}, request{"", "", 0, 0, bad}, request{key + "\x00", nonce, 0, 0, bad}, request{key, nonce + "\x00", 0, 0, bad})
	for _, r := range list {
		s, e := chacha20.Stream(r.key, r.nonce, r.offset, r.n)
		if e != r.e || e == ok && len(s) != r.n || e != ok && len(s) != 0 {
			t.Errorf("key of %d bytes, nonce of %d, %d bytes from %d on: %d bytes, %d", len(r.key), len(r.nonce), r.n, r.offset, len(s), e)
		}
		wanted := bad
		if len(r.key) == 32 && len(r.nonce) == 12 {
			wanted = ok
		}
		if b, e := chacha20.Block(r.key, r.nonce, 5); e != wanted || e == ok && len(b) != 64 || e != ok && len(b) != 0 {
			t.Errorf("key of %d bytes, nonce of %d: a block of %d bytes, %d", len(r.key), len(r.nonce), len(b), e)
		}
	}
}

// P7.4, P7.5
func TestXor(t *testing.T) {
	random := newRandom()
	for _, n := range []int{0, 1, 2, 63, 64, 1000, 1 << 20} {
		a, b := sample(random, n), sample(random, n)
		first, second := bytes.Clone(a), bytes.Clone(b)
		x, e := chacha20.Xor(a, b)
		if e != ok || len(x) != n {
			t.Fatalf("%d bytes: %d, %d", n, len(x), e)
		}
		for i := range x {
			if x[i] != a[i]^b[i] {
				t.Fatalf("%d bytes: %d at %d", n, x[i], i)
			}
		}
		if again, e := chacha20.Xor(x, b); e != ok || !bytes.Equal(again, a) {
			t.Errorf("%d bytes: twice is not the same, %d", n, e)
		}
		clear(x)
		if !bytes.Equal(a, first) || !bytes.Equal(b, second) {
			t.Errorf("%d bytes: an argument has changed", n)
		}
		if same, e := chacha20.Xor(a, a); e != ok || !bytes.Equal(same, make([]byte, n)) {
			t.Errorf("%d bytes: with itself %v, %d", n, same, e)
		}
		for _, c := range [][2][]byte{{a, append(bytes.Clone(b), 1)}, {append(bytes.Clone(a), 0), b}} {
			if x, e := chacha20.Xor(c[0], c[1]); len(x) != 0 || e != bad {
				t.Errorf("%d and %d bytes: %v, %d", len(c[0]), len(c[1]), x, e)
			}
		}
	}
	if x, e := chacha20.Xor([]byte{1, 2}, []byte{3, 3}); !bytes.Equal(x, []byte{2, 1}) || e != ok {
		t.Error(x, e)
	}
	for _, c := range []struct {
		a, b []byte
		e    api.Errno
	}{{nil, nil, ok}, {nil, []byte{}, ok}, {nil, []byte{1}, bad}, {[]byte{1}, nil, bad}, {[]byte{1, 2}, []byte{1}, bad}} {
		if x, e := chacha20.Xor(c.a, c.b); len(x) != 0 || e != c.e {
			t.Errorf("Xor(%v, %v): %v, %d", c.a, c.b, x, e)
		}
	}
}

// P7.5
func TestPartsOfStreams(t *testing.T) {
	random := newRandom()
	for range 300 {
		key, nonce := string(sample(random, 32)), string(sample(random, 12))
		offset, n, m := random.IntN(streamSize-1000), random.IntN(300), random.IntN(300)
		first, e1 := chacha20.Stream(key, nonce, offset, n)
		second, e2 := chacha20.Stream(key, nonce, offset+n, m)
		both, e3 := chacha20.Stream(key, nonce, offset, n+m)
		if e1 != ok || e2 != ok || e3 != ok || !bytes.Equal(append(first, second...), both) {
			t.Fatalf("%d and %d bytes from %d on: %d, %d, %d", n, m, offset, e1, e2, e3)
		}
	}
}

// Results share no memory with each other, and calls remember nothing.
func TestResultsAreNew(t *testing.T) {
	key, nonce := counting(32), counting(12)
	b, _ := chacha20.Block(key, nonce, 3)
	s, _ := chacha20.Stream(key, nonce, 192, 64)
	x, _ := chacha20.Xor(b, make([]byte, 64))
	if !bytes.Equal(b, s) || !bytes.Equal(b, x) {
		t.Fatal("three ways to a block")
	}
	clear(b)
	if !bytes.Equal(s, expected(key, nonce, 3)) || !bytes.Equal(x, s) {
		t.Error("a change of a result changes another one")
	}
	clear(s)
	if b, _ := chacha20.Block(key, nonce, 3); !bytes.Equal(b, x) {
		t.Errorf("a block after a change of results: %x", b)
	}
	if s, _ := chacha20.Stream(key, nonce, 192, 64); !bytes.Equal(s, x) {
		t.Errorf("a stream after a change of results: %x", s)
	}
}

package sha256_test

import (
	"bytes"
	standard "crypto/sha256"
	"encoding/hex"
	"math/big"
	"math/rand/v2"
	"strings"
	"testing"

	"kinkeep/api"
	"kinkeep/sha256"
)

const emptySum = "e3b0c44298fc1c149afbf4c8996fb92427ae41e4649b934ca495991b7852b855"

// sample returns bytes that look like random ones, the same ones for the same length.
func sample(n int) []byte {
	random := rand.New(rand.NewPCG(uint64(n), 3))
	b := make([]byte, n)
	for i := range b {
		b[i] = byte(random.Uint32())
	}
	return b
}

// expected returns the sum by the library.
func expected(x []byte) string {
	sum := standard.Sum256(x)
	return string(sum[:])
}

// P3.1: the examples of the chapter and of FIPS 180-4.
func TestKnownSums(t *testing.T) {
	for _, c := range []struct{ name, x, want string }{
		{"abc", "abc", "ba7816bf8f01cfea414140de5dae2223b00361a396177a9cb410ff61f20015ad"},
		{"nothing", "", emptySum},
		{"two blocks", "abcdbcdecdefdefgefghfghighijhijkijkljklmklmnlmnomnopnopq",
			"248d6a61d20638b8e5c026930c3e6039a33ce45964ff2167f6ecedd419db06c1"},
		{"many blocks", strings.Repeat("a", 1000000), "cdc76e5c9914fb9281a1c7e284d73e67f1809a48a497200e046d39ccc7112cd0"},
	} {
		if sum := hex.EncodeToString([]byte(sha256.Sum([]byte(c.x)))); sum != c.want {
			t.Errorf("Sum of %s: %s", c.name, sum)
		}
		if sum := hex.EncodeToString([]byte(sha256.Join(c.x))); sum != c.want {
			t.Errorf("Join of %s: %s", c.name, sum)
		}
	}
}

// P3.1: every length around the ends of the first blocks, and some long ones.
func TestSum(t *testing.T) {
	for _, n := range append(upTo(400), 1000, 4095, 4096, 1<<16, 1<<20+1) {
		x := sample(n)
		if sum := sha256.Sum(x); sum != expected(x) {
			t.Errorf("Sum of %d bytes: %x", n, sum)
		}
		for _, b := range []byte{0, 128, 255} {
			same := bytes.Repeat([]byte{b}, n)
			if sum := sha256.Sum(same); sum != expected(same) {
				t.Errorf("Sum of %d times %d: %x", n, b, sum)
			}
		}
	}
	if sum := sha256.Sum(nil); sum != expected(nil) || len(sum) != api.SumSize {
		t.Errorf("Sum of nil: %x", sum)
	}
}

// upTo returns the numbers from 0 to n.
func upTo(n int) (numbers []int) {
	for i := range n + 1 {
		numbers = append(numbers, i)
	}
	return numbers
}

// P3.1
func TestJoin(t *testing.T) {
	long := string(sample(200))
	for _, parts := range [][]string{
		nil, {""}, {"", ""}, {"abc"}, {"a", "bc"}, {"", "a", "", "b", "c", ""}, {"ab", "\xff\x00", "\xc3"},
		{long[:63], "x"}, {long[:64], "x"}, {long[:65], long[:63]}, {long, long, long}, strings.Split(long, ""),
	} {
		if sum := sha256.Join(parts...); sum != expected([]byte(strings.Join(parts, ""))) {
			t.Errorf("Join of %q: %x", parts, sum)
		}
	}
}

// P3.1: the parts are concatenated without marks between them; a sum of another string is another one.
func TestSumsDiffer(t *testing.T) {
	if sha256.Join("ab", "c") != sha256.Join("a", "bc") {
		t.Error("the sum depends on the division")
	}
	seen := map[string]bool{}
	for n := range 200 {
		seen[sha256.Sum(make([]byte, n))] = true
	}
	if len(seen) != 200 {
		t.Errorf("%d different sums of 200 strings of zeros", len(seen))
	}
}

// P3.1: the sums of one block follow from the definition of the initial values and constants by roots of primes.
func TestConstants(t *testing.T) {
	var primes []int64
	for n := int64(2); len(primes) < 64; n++ {
		if big.NewInt(n).ProbablyPrime(20) {
			primes = append(primes, n)
		}
	}
	state := [8]uint32{}
	for i := range state {
		scaled := new(big.Int).Lsh(big.NewInt(primes[i]), 64)
		state[i] = uint32(scaled.Sqrt(scaled).Uint64())
	}
	constants := [64]uint32{}
	for i := range constants {
		constants[i] = uint32(cubeRoot(new(big.Int).Lsh(big.NewInt(primes[i]), 96)))
	}
	if constants[0] != 0x428a2f98 || constants[63] != 0xc67178f2 {
		t.Fatalf("the derivation is wrong: %x", constants)
	}
	for n := range 56 {
		x := sample(n)
		if sum := sha256.Sum(x); sum != oneBlock(state, constants, x) {
			t.Errorf("Sum of %d bytes: %x", n, sum)
		}
	}
}

// cubeRoot returns the greatest number whose cube is at most n.
func cubeRoot(n *big.Int) uint64 {
	low, high := uint64(0), uint64(1)<<40
	for high-low > 1 {
		middle := (low + high) / 2
		m := new(big.Int).SetUint64(middle)
		if m.Exp(m, big.NewInt(3), nil).Cmp(n) <= 0 {
			low = middle
		} else {
			high = middle
		}
	}
	return low
}

// oneBlock follows the chapter word by word, for at most 55 bytes.
func oneBlock(h [8]uint32, k [64]uint32, x []byte) string {
	rotr := func(x uint32, n int) uint32 { return x>>n | x<<(32-n) }
	block := make([]byte, 64)
	copy(block, x)
	block[len(x)] = 128
	block[62], block[63] = byte(8*len(x)>>8), byte(8*len(x))
	var w [64]uint32
	for i, b := range block {
		w[i/4] = w[i/4]<<8 | uint32(b)
	}
	for t := 16; t < 64; t++ {
		s0 := rotr(w[t-15], 7) ^ rotr(w[t-15], 18) ^ w[t-15]>>3
		s1 := rotr(w[t-2], 17) ^ rotr(w[t-2], 19) ^ w[t-2]>>10
		w[t] = s1 + w[t-7] + s0 + w[t-16]
	}
	v := h
	for t := range 64 {
		a, b, c, e, f, g := v[0], v[1], v[2], v[4], v[5], v[6]
		t1 := v[7] + (rotr(e, 6) ^ rotr(e, 11) ^ rotr(e, 25)) + (e&f ^ (^e)&g) + k[t] + w[t]
		t2 := (rotr(a, 2) ^ rotr(a, 13) ^ rotr(a, 22)) + (a&b ^ a&c ^ b&c)
		v = [8]uint32{t1 + t2, a, b, c, v[3] + t1, e, f, g}
	}
	sum := []byte{}
	for i := range h {
		n := h[i] + v[i]
		sum = append(sum, byte(n>>24), byte(n>>16), byte(n>>8), byte(n))
	}
	return string(sum)
}

// P3.2, P3.5: every division into two parts, and one into single bytes.
func TestWrite(t *testing.T) {
	for _, n := range []int{0, 1, 55, 56, 63, 64, 65, 127, 128, 129, 200} {
		x := sample(n)
		for at := range n + 1 {
			s := sha256.New()
			s.Write(x[:at])
			if s.Len() != at {
				t.Fatalf("Len after %d bytes: %d", at, s.Len())
			}
			s.Write(x[at:])
			if s.Sum() != expected(x) || s.Len() != n {
				t.Fatalf("%d of %d bytes first: %x, length %d", at, n, s.Sum(), s.Len())
			}
		}
		s := sha256.New()
		for _, b := range x {
			s.Write([]byte{b})
			s.Write(nil)
			s.Write([]byte{})
		}
		if s.Sum() != expected(x) || s.Len() != n {
			t.Errorf("%d single bytes: %x, length %d", n, s.Sum(), s.Len())
		}
	}
}

// P3.2, P3.5: parts of any lengths, with sums in between.
func TestSumBetweenWrites(t *testing.T) {
	random := rand.New(rand.NewPCG(1, 2))
	for range 50 {
		s := sha256.New()
		var all []byte
		for range 30 {
			part := sample(random.IntN(150))
			s.Write(part)
			all = append(all, part...)
			for range 2 {
				if s.Sum() != expected(all) || s.Len() != len(all) {
					t.Fatalf("after %d bytes: %x, length %d", len(all), s.Sum(), s.Len())
				}
			}
		}
	}
}

// P3.2
func TestNewIsEmpty(t *testing.T) {
	used := sha256.New()
	used.Write([]byte("used"))
	s := sha256.New()
	if sha256.Hex(s.Sum()) != emptySum || s.Len() != 0 {
		t.Errorf("%x, length %d", s.Sum(), s.Len())
	}
	s.Write([]byte("abc"))
	if s.Sum() != expected([]byte("abc")) || used.Sum() != expected([]byte("used")) {
		t.Error("two states are not independent")
	}
}

// P3.3: whichever of the two goes on, at and beside the ends of blocks.
func TestClone(t *testing.T) {
	for _, n := range []int{0, 1, 63, 64, 65, 100, 128} {
		x := sample(n)
		for _, m := range []int{0, 1, 30, 64, 100} {
			first, second := bytes.Repeat([]byte{1}, m), bytes.Repeat([]byte{2}, m+1)
			s := sha256.New()
			s.Write(x)
			c := s.Clone()
			if c.Sum() != expected(x) || c.Len() != n {
				t.Fatalf("clone of %d bytes: %x, length %d", n, c.Sum(), c.Len())
			}
			c.Write(second)
			if s.Sum() != expected(x) || s.Len() != n {
				t.Fatalf("%d bytes, and %d for the clone: the original has %x, length %d", n, m+1, s.Sum(), s.Len())
			}
			s.Write(first)
			if c.Sum() != expected(append(bytes.Clone(x), second...)) || c.Len() != n+m+1 {
				t.Fatalf("%d bytes, and %d for the original: the clone has %x, length %d", n, m, c.Sum(), c.Len())
			}
			if s.Sum() != expected(append(bytes.Clone(x), first...)) || s.Len() != n+m {
				t.Fatalf("%d and %d bytes: the original has %x, length %d", n, m, s.Sum(), s.Len())
			}
		}
	}
}

// P3.4
func TestHex(t *testing.T) {
	all := make([]byte, 256)
	for i := range all {
		all[i] = byte(i)
	}
	for _, s := range []string{"", "\x00", "\x00\xab", "\xff", "abc", string(all), strings.Repeat("\xf0", 5000)} {
		want := hex.EncodeToString([]byte(s))
		if text := sha256.Hex(s); text != want {
			t.Errorf("Hex of %q: %s", s, text)
		}
		if back, e := sha256.FromHex(want); back != s || e != api.OK {
			t.Errorf("FromHex of %s: %q, %d", want, back, e)
		}
	}
	if sha256.Hex("\x00\xab") != "00ab" {
		t.Errorf("Hex of 0, 171: %s", sha256.Hex("\x00\xab"))
	}
}

// P3.4, P3.5: of all pairs of characters exactly those of lower-case digits are accepted.
func TestFromHexPairs(t *testing.T) {
	const digits = "0123456789abcdef"
	for i := range 256 {
		for j := range 256 {
			pair := string([]byte{byte(i), byte(j)})
			high, low := strings.IndexByte(digits, byte(i)), strings.IndexByte(digits, byte(j))
			s, e := sha256.FromHex(pair)
			switch {
			case high < 0 || low < 0:
				if s != "" || e != api.ErrSyntax {
					t.Fatalf("FromHex(%q): %q, %d", pair, s, e)
				}
			case s != string([]byte{byte(16*high + low)}) || e != api.OK || sha256.Hex(s) != pair:
				t.Fatalf("FromHex(%q): %q, %d", pair, s, e)
			}
		}
	}
}

// P3.4, P1
func TestFromHexErrors(t *testing.T) {
	for _, text := range []string{
		"0", "abc", "0A", "A0", "AB", "0g", "0x", " 0", "0 ", "00 ", "0\n", "\xff\xff", "é", "00é", "-1", "+1", "0b\x00\x00",
		"00112233445566778899aabbccddeefF", "g0112233", strings.Repeat("0", 4999), strings.Repeat("0", 4999) + "g",
	} {
		if s, e := sha256.FromHex(text); s != "" || e != api.ErrSyntax {
			t.Errorf("FromHex(%q): %q, %d", text, s, e)
		}
	}
}

// Arguments are neither modified nor retained, also where Write keeps a part of a block.
func TestArgumentsAreIndependent(t *testing.T) {
	for _, n := range []int{1, 63, 64, 65, 130} {
		x := sample(n)
		s := sha256.New()
		s.Write(x)
		sha256.Sum(x)
		if !bytes.Equal(x, sample(n)) {
			t.Fatalf("an argument of %d bytes was changed", n)
		}
		before := s.Sum()
		clear(x)
		if s.Sum() != before || before != expected(sample(n)) {
			t.Errorf("a state keeps its argument of %d bytes", n)
		}
		s.Write(sample(70))
		if !bytes.Equal(x, make([]byte, n)) {
			t.Errorf("a state writes to its argument of %d bytes", n)
		}
	}
}

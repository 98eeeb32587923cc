package signature_test

import (
	"crypto/hmac"
	"crypto/sha256"
	"encoding/binary"
	"math"
	"math/rand/v2"
	"strings"
	"testing"

	"kinkeep/api"
	"kinkeep/onetime"
	"kinkeep/signature"
)

const (
	ok    = api.OK
	bad   = api.ErrArgument
	spent = api.ErrSpent
)

// newRandom returns a source of numbers that are the same in each run.
func newRandom() *rand.Rand { return rand.New(rand.NewPCG(13, 13)) }

// sample returns n bytes at random.
func sample(random *rand.Rand, n int) string {
	b := make([]byte, n)
	for i := range b {
		b[i] = byte(random.Uint32())
	}
	return string(b)
}

// samples returns count strings of 32 bytes at random.
func samples(random *rand.Rand, count int) []string {
	list := make([]string, count)
	for i := range list {
		list[i] = sample(random, 32)
	}
	return list
}

// counting returns n bytes that count from the first one on.
func counting(first, n int) string {
	b := make([]byte, n)
	for i := range b {
		b[i] = byte(first + i)
	}
	return string(b)
}

// flipped returns a string with one other bit.
func flipped(s string, bit int) string {
	b := []byte(s)
	b[bit/8] ^= 1 << (bit % 8)
	return string(b)
}

// numbers are of any size.
func numbers() []int {
	return []int{math.MinInt, math.MinInt + 1, math.MinInt + 8, -1 << 32, -256, -64, -8, -1, 0, 1, 2, 3, 4, 5, 7, 8, 9, 16, 31, 32, 62, 63, 64, 65, 127, 128, 254, 255, 256, 257, 1<<32 + 1, 1<<32 + 4, 1<<32 + 8, math.MaxInt - 1, math.MaxInt}
}

// notSums are strings that have not 32 bytes.
func notSums() []string { return []string{"", "a", counting(0, 31), counting(0, 33), counting(0, 64)} }

// chains are the numbers of the parts of a signature by the bits of a scheme.
func chains() map[int]int { return map[int]int{1: 265, 2: 133, 4: 67} }

// allSchemes are the valid ones.
func allSchemes() (list []api.Scheme) {
	for _, bits := range []int{1, 2, 4} {
		for height := range 9 {
			list = append(list, api.Scheme{Bits: bits, Height: height})
		}
	}
	return list
}

// someSchemes are valid ones that do not take long.
func someSchemes() (list []api.Scheme) {
	for _, x := range allSchemes() {
		if x.Height < 4 {
			list = append(list, x)
		}
	}
	return list
}

// invalidSchemes are some that are not valid.
func invalidSchemes() (list []api.Scheme) {
	for _, bits := range numbers() {
		if chains()[bits] == 0 {
			for _, height := range []int{bits, 0, 1, 3, 8} {
				list = append(list, api.Scheme{Bits: bits, Height: height})
			}
		}
	}
	for bits := range chains() {
		for _, height := range numbers() {
			if height < 0 || height > 8 {
				list = append(list, api.Scheme{Bits: bits, Height: height})
			}
		}
	}
	return list
}

// sum returns the sum of the concatenation of the parts, from Go's library.
func sum(parts ...string) string {
	s := sha256.Sum256([]byte(strings.Join(parts, "")))
	return string(s[:])
}

// paramsOf returns the parameters of a scheme's one-time signatures.
func paramsOf(x api.Scheme) onetime.Params { return onetime.Params{Bits: x.Bits, Size: 32} }

// seedOf returns the seed of a key.
func seedOf(seed string, index int) string {
	m := hmac.New(sha256.New, []byte(seed))
	m.Write(binary.AppendUvarint([]byte("onetime"), uint64(index)))
	return string(m.Sum(nil))
}

// leavesOf returns the leaves of all keys.
func leavesOf(t *testing.T, x api.Scheme, seed string) (leaves []string) {
	t.Helper()
	for index := range 1 << x.Height {
		public, e := onetime.Public(paramsOf(x), seedOf(seed, index))
		if e != ok {
			t.Fatalf("%v: key %d: %d", x, index, e)
		}
		leaves = append(leaves, sum("\x00", public))
	}
	return leaves
}

// rootOf returns the root of 2^h leaves.
func rootOf(leaves []string) string {
	if len(leaves) == 1 {
		return leaves[0]
	}
	half := len(leaves) / 2
	return sum("\x01", rootOf(leaves[:half]), rootOf(leaves[half:]))
}

// pathOf returns the path of a leaf among 2^h leaves.
func pathOf(leaves []string, i int) []string {
	if len(leaves) == 1 {
		return nil
	}
	half := len(leaves) / 2
	if i < half {
		return append(pathOf(leaves[:half], i), rootOf(leaves[half:]))
	}
	return append(pathOf(leaves[half:], i-half), rootOf(leaves[:half]))
}

// climbed returns the root that results from a leaf, its index among n = 2^h leaves, and a path.
func climbed(leaf string, i, n int, path []string) string {
	if n == 1 {
		return leaf
	}
	rest, last := path[:len(path)-1], path[len(path)-1]
	if half := n / 2; i >= half {
		return sum("\x01", last, climbed(leaf, i-half, half, rest))
	}
	return sum("\x01", climbed(leaf, i, n/2, rest), last)
}

// signatureOf returns the signature of a digest by a key.
func signatureOf(t *testing.T, x api.Scheme, seed string, leaves []string, index int, digest string) api.Signature {
	t.Helper()
	parts, e := onetime.Sign(paramsOf(x), seedOf(seed, index), digest)
	if e != ok {
		t.Fatalf("%v: key %d: %d", x, index, e)
	}
	return api.Signature{Index: index, Parts: parts, Path: pathOf(leaves, index)}
}

// newSigner and sign call the functions with valid arguments.
func newSigner(t *testing.T, x api.Scheme, seed string) *signature.Signer {
	t.Helper()
	s, e := signature.New(x, seed)
	if e != ok || s == nil {
		t.Fatalf("%v: New: %d", x, e)
	}
	return s
}

func sign(t *testing.T, s *signature.Signer, digest string) api.Signature {
	t.Helper()
	x, e := s.Sign(digest)
	if e != ok {
		t.Fatalf("Sign by key %d: %d", s.Next(), e)
	}
	return x
}

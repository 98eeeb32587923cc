package onetime_test

import (
	"crypto/hmac"
	"crypto/sha256"
	"encoding/binary"
	"fmt"
	"math"
	"math/rand/v2"
	"slices"
	"strconv"
	"strings"
	"testing"

	"kinkeep/api"
	"kinkeep/onetime"
)

const (
	ok  = api.OK
	bad = api.ErrArgument
)

type params = onetime.Params

// newRandom returns a source of numbers that are the same in each run.
func newRandom() *rand.Rand { return rand.New(rand.NewPCG(12, 12)) }

// sample returns n bytes at random.
func sample(random *rand.Rand, n int) string {
	b := make([]byte, n)
	for i := range b {
		b[i] = byte(random.Uint32())
	}
	return string(b)
}

// counting returns n bytes that count from the first one on.
func counting(first, n int) string {
	b := make([]byte, n)
	for i := range b {
		b[i] = byte(first + i)
	}
	return string(b)
}

// numbers are of any size.
func numbers() []int {
	return []int{math.MinInt, math.MinInt + 1, -1 << 32, -256, -8, -1, 0, 1, 2, 3, 4, 5, 7, 8, 9, 16, 31, 32, 33, 64, 254, 255, 256, 998, 999, 1000, 1<<32 + 1, 1<<32 + 8, math.MaxInt - 1, math.MaxInt}
}

// allParams are the valid ones.
func allParams() (list []params) {
	for _, bits := range []int{1, 2, 4, 8} {
		for size := 1; size <= 32; size++ {
			list = append(list, params{Bits: bits, Size: size})
		}
	}
	return list
}

// someParams are valid ones that do not take long.
func someParams() []params {
	return []params{{Bits: 1, Size: 1}, {Bits: 1, Size: 2}, {Bits: 1, Size: 32}, {Bits: 2, Size: 1}, {Bits: 2, Size: 3}, {Bits: 2, Size: 32}, {Bits: 4, Size: 1}, {Bits: 4, Size: 9}, {Bits: 4, Size: 32}, {Bits: 8, Size: 1}, {Bits: 8, Size: 2}, {Bits: 8, Size: 3}, {Bits: 8, Size: 32}}
}

// invalidParams are some that are not valid.
func invalidParams() (list []params) {
	for _, bits := range numbers() {
		if bits != 1 && bits != 2 && bits != 4 && bits != 8 {
			list = append(list, params{Bits: bits, Size: 1}, params{Bits: bits, Size: 8}, params{Bits: bits, Size: 32}, params{Bits: bits, Size: bits})
		}
	}
	for _, bits := range []int{1, 2, 4, 8} {
		for _, size := range numbers() {
			if size < 1 || size > 32 {
				list = append(list, params{Bits: bits, Size: size})
			}
		}
	}
	return list
}

// notSums are strings that have not 32 bytes.
func notSums() []string { return []string{"", "a", counting(0, 31), counting(0, 33), counting(0, 64)} }

// digitsOf returns the digits of a digest and its checksum, written with the library's functions.
func digitsOf(p params, digest string) (digits []int) {
	var text strings.Builder
	for i := range len(digest) {
		fmt.Fprintf(&text, "%08b", digest[i])
	}
	base, checksum := 1<<p.Bits, 0
	for group := range slices.Chunk([]byte(text.String()), p.Bits) {
		d, err := strconv.ParseInt(string(group), 2, 0)
		if err != nil {
			panic(err)
		}
		digits = append(digits, int(d))
		checksum += base - 1 - int(d)
	}
	most := uint64(len(digits) * (base - 1))
	count := 1 // the digits of most are as many as are needed to exceed it
	if base < 256 {
		count = len(strconv.FormatUint(most, base))
	} else if most > 255 {
		count = 2
	}
	low := make([]int, count)
	for i := range low {
		low[count-1-i] = checksum % base
		checksum /= base
	}
	return append(digits, low...)
}

// sum returns the sum of the concatenation of the parts, from Go's library.
func sum(parts ...string) string {
	s := sha256.Sum256([]byte(strings.Join(parts, "")))
	return string(s[:])
}

// encoded returns the encoding of n.
func encoded(n int) string { return string(binary.AppendUvarint(nil, uint64(n))) }

// secretOf returns the value of a chain at the step 0.
func secretOf(seed string, chain int) string {
	m := hmac.New(sha256.New, []byte(seed))
	m.Write([]byte("secret" + encoded(chain)))
	return string(m.Sum(nil))
}

// valueOf returns the value of a chain at the step to, by one that is known.
func valueOf(chain, from, to int, x string) string {
	if from == to {
		return x
	}
	return sum("chain", encoded(chain), encoded(to-1), valueOf(chain, from, to-1, x))
}

// publicOf returns the public key for a seed.
func publicOf(p params, seed string) string {
	ends := []string{"public"}
	for i := range digitsOf(p, strings.Repeat("0", p.Size)) {
		ends = append(ends, valueOf(i, 0, 1<<p.Bits-1, secretOf(seed, i)))
	}
	return sum(ends...)
}

// signatureOf returns the signature of a digest.
func signatureOf(p params, seed, digest string) (parts []string) {
	for i, d := range digitsOf(p, digest) {
		parts = append(parts, valueOf(i, 0, d, secretOf(seed, i)))
	}
	return parts
}

// recoveredOf returns the public key of parts.
func recoveredOf(p params, digest string, parts []string) string {
	ends := []string{"public"}
	for i, d := range digitsOf(p, digest) {
		ends = append(ends, valueOf(i, d, 1<<p.Bits-1, parts[i]))
	}
	return sum(ends...)
}

// publicKey and signature call the functions with valid arguments.
func publicKey(t *testing.T, p params, seed string) string {
	t.Helper()
	public, e := onetime.Public(p, seed)
	if e != ok {
		t.Fatalf("%v: Public: %d", p, e)
	}
	return public
}

func signature(t *testing.T, p params, seed, digest string) []string {
	t.Helper()
	parts, e := onetime.Sign(p, seed, digest)
	if e != ok {
		t.Fatalf("%v: Sign: %d", p, e)
	}
	return parts
}

// digests returns all digests of one byte, or some of more bytes.
func digests(random *rand.Rand, size int) (list []string) {
	if size == 1 {
		for b := range 256 {
			list = append(list, string([]byte{byte(b)}))
		}
		return list
	}
	low, high := strings.Repeat("\x00", size), strings.Repeat("\xff", size)
	list = []string{low, high, low[1:] + "\x01", "\x80" + low[1:], high[1:] + "\xfe", "\x7f" + high[1:]}
	for range 10 {
		list = append(list, sample(random, size))
	}
	return list
}

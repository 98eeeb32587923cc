package shamir_test

import (
	"bytes"
	"math"
	"math/rand/v2"
	"slices"
	"testing"

	"kinkeep/api"
)

const (
	ok       = api.OK
	bad      = api.ErrArgument
	large    = api.ErrTooLarge
	short    = api.ErrShort
	corrupt  = api.ErrCorrupt
	conflict = api.ErrConflict
)

type (
	list   = [][]byte
	shares = []api.Share
)

// newRandom returns a source of numbers that are the same in each run.
func newRandom() *rand.Rand { return rand.New(rand.NewPCG(10, 10)) }

// numbers returns some that may be thresholds or elements, and some that may not.
func numbers() []int {
	return []int{math.MinInt, -256, -1, 0, 1, 2, 3, 15, 16, 17, 64, 65, 255, 256, 257, 1 << 32, 1<<32 + 1, math.MaxInt}
}

// times is the product in the field, by the definition.
func times(a, b byte) byte {
	product := 0
	for i := range 8 {
		if b>>i&1 == 1 {
			product ^= int(a) << i
		}
	}
	for i := 14; i >= 8; i-- {
		if product>>i&1 == 1 {
			product ^= 0x11d << (i - 8)
		}
	}
	return byte(product)
}

// valueAt is the value of a polynomial with the constant coefficient c, as a sum of powers.
func valueAt(c byte, others []byte, x byte) byte {
	power := byte(1)
	for _, f := range others {
		power = times(power, x)
		c ^= times(f, power)
	}
	return c
}

// shareOf is the share of a sharing at x, by the definition.
func shareOf(secret []byte, coefficients list, x int) api.Share {
	data := make([]byte, len(secret))
	for b := range data {
		var others []byte
		for _, c := range coefficients {
			others = append(others, c[b])
		}
		data[b] = valueAt(secret[b], others, byte(x))
	}
	return api.Share{X: x, Data: data}
}

// sharesOf are the shares of a sharing at all xs.
func sharesOf(secret []byte, coefficients list, xs []int) shares {
	var all shares
	for _, x := range xs {
		all = append(all, shareOf(secret, coefficients, x))
	}
	return all
}

// sharing is a random one.
func sharing(random *rand.Rand, length, threshold int) ([]byte, list) {
	coefficients := make(list, threshold-1)
	for j := range coefficients {
		coefficients[j] = sample(random, length)
	}
	return sample(random, length), coefficients
}

// sample returns random bytes, of which some are 0.
func sample(random *rand.Rand, length int) []byte {
	x := make([]byte, length)
	for i := range x {
		if random.IntN(5) > 0 {
			x[i] = byte(random.IntN(256))
		}
	}
	return x
}

// elements returns different ones.
func elements(random *rand.Rand, count int) []int {
	xs := random.Perm(255)[:count]
	for i := range xs {
		xs[i]++
	}
	return xs
}

// upTo returns the numbers from 1 to n.
func upTo(n int) []int {
	xs := make([]int, n)
	for i := range xs {
		xs[i] = i + 1
	}
	return xs
}

// clone copies shares with their data.
func clone(all shares) shares {
	copied := slices.Clone(all)
	for i := range copied {
		copied[i].Data = bytes.Clone(copied[i].Data)
	}
	return copied
}

// same reports whether shares are equal.
func same(a, b shares) bool {
	return slices.EqualFunc(a, b, func(s, t api.Share) bool { return s.X == t.X && bytes.Equal(s.Data, t.Data) })
}

// cloneLists and sameLists are the same for lists of bytes.
func cloneLists(all list) list {
	copied := slices.Clone(all)
	for i := range copied {
		copied[i] = bytes.Clone(copied[i])
	}
	return copied
}

func sameLists(a, b list) bool { return slices.EqualFunc(a, b, bytes.Equal) }

// spoil changes a byte of a share to another value.
func spoil(random *rand.Rand, s api.Share) {
	s.Data[random.IntN(len(s.Data))] ^= byte(1 + random.IntN(255))
}

// checkShares fails unless results are these shares and share no memory with each other.
func checkShares(t *testing.T, name string, got, want shares) {
	t.Helper()
	if !same(got, want) {
		t.Fatalf("%s: %v instead of %v", name, got, want)
	}
	for i := range got {
		for b := range got[i].Data {
			got[i].Data[b] ^= 255
		}
		_ = append(got[i].Data, 1)
		if !same(got[i+1:], want[i+1:]) {
			t.Fatalf("%s: shares share memory", name)
		}
	}
}

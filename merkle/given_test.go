package merkle_test

import (
	"crypto/sha256"
	"encoding/hex"
	"math"
	"math/rand/v2"
	"slices"
	"strings"
	"testing"

	"kinkeep/api"
	"kinkeep/merkle"
)

const (
	ok    = api.OK
	bad   = api.ErrArgument
	large = api.ErrTooLarge
)

// newRandom returns a source of numbers that are the same in each run.
func newRandom() *rand.Rand { return rand.New(rand.NewPCG(9, 9)) }

// sum returns the sum of the concatenation of the parts, from Go's library.
func sum(parts ...string) string {
	s := sha256.Sum256([]byte(strings.Join(parts, "")))
	return string(s[:])
}

// leafOf and nodeOf are what the document defines.
func leafOf(x string) string           { return sum("\x00", x) }
func nodeOf(left, right string) string { return sum("\x01", left, right) }
func without(list []string) []string   { return list[:len(list)-1] }
func last(list []string) string        { return list[len(list)-1] }
func numbers() []int                   { return []int{math.MinInt, -1, 0, 1, 2, 3, 5, 1 << 20, 1 << 40, math.MaxInt} }
func fromHex(t *testing.T, s string) string {
	t.Helper()
	b, err := hex.DecodeString(s)
	if err != nil {
		t.Fatal(err)
	}
	return string(b)
}

// splitOf returns the greatest power of two that is less than n.
func splitOf(n int) int {
	k := 1
	for k < n-k {
		k *= 2
	}
	return k
}

// rootOf returns the root as the document defines it.
func rootOf(leaves []string) string {
	switch n := len(leaves); n {
	case 0:
		return sum()
	case 1:
		return leaves[0]
	default:
		k := splitOf(n)
		return nodeOf(rootOf(leaves[:k]), rootOf(leaves[k:]))
	}
}

// pathOf returns the path as the document defines it.
func pathOf(leaves []string, i int) []string {
	n := len(leaves)
	if n == 1 {
		return nil
	}
	k := splitOf(n)
	if i < k {
		return append(pathOf(leaves[:k], i), rootOf(leaves[k:]))
	}
	return append(pathOf(leaves[k:], i-k), rootOf(leaves[:k]))
}

// proofOf returns the proof that the first m leaves are a prefix, as the document defines it.
func proofOf(leaves []string, m int, b bool) []string {
	n := len(leaves)
	if m == 0 || m == n {
		if b {
			return nil
		}
		return []string{rootOf(leaves)}
	}
	k := splitOf(n)
	if m <= k {
		return append(proofOf(leaves[:k], m, b), rootOf(leaves[k:]))
	}
	return append(proofOf(leaves[k:], m-k, false), rootOf(leaves[:k]))
}

// verified decides like Verify, from below: the way of RFC 9162, section 2.1.3.2.
func verified(leaf string, i, n int, path []string, root string) bool {
	if i < 0 || i >= n || !sums(append(slices.Clone(path), leaf, root)) {
		return false
	}
	at, end := uint(i), uint(n-1)
	for _, p := range path {
		if end == 0 {
			return false
		}
		if at%2 == 1 || at == end {
			leaf = nodeOf(p, leaf)
			for at%2 == 0 && at != 0 {
				at, end = at/2, end/2
			}
		} else {
			leaf = nodeOf(leaf, p)
		}
		at, end = at/2, end/2
	}
	return end == 0 && leaf == root
}

// consistent decides like Consistent, from below: the way of RFC 9162, section 2.1.4.2.
func consistent(m, n int, old, new string, proof []string) bool {
	switch {
	case m < 0 || m > n || !sums(append(slices.Clone(proof), old, new)):
		return false
	case m == 0:
		return len(proof) == 0 && old == sum() && (n > 0 || new == sum())
	case m == n:
		return len(proof) == 0 && old == new
	case len(proof) == 0:
		return false
	}
	if m&(m-1) == 0 {
		proof = append([]string{old}, proof...)
	}
	at, end := uint(m-1), uint(n-1)
	for at%2 == 1 {
		at, end = at/2, end/2
	}
	first, second := proof[0], proof[0]
	for _, p := range proof[1:] {
		if end == 0 {
			return false
		}
		if at%2 == 1 || at == end {
			first, second = nodeOf(p, first), nodeOf(p, second)
			for at%2 == 0 && at != 0 {
				at, end = at/2, end/2
			}
		} else {
			second = nodeOf(second, p)
		}
		at, end = at/2, end/2
	}
	return end == 0 && first == old && second == new
}

// sums reports whether all strings have 32 bytes.
func sums(list []string) bool {
	for _, s := range list {
		if len(s) != 32 {
			return false
		}
	}
	return true
}

// sample returns n different leaves.
func sample(n int) []string {
	leaves := make([]string, n)
	for i := range leaves {
		leaves[i] = leafOf(string([]byte{byte(i), byte(i >> 8), 'x'}))
	}
	return leaves
}

// treeOf returns a tree of leaves.
func treeOf(t *testing.T, leaves []string) *merkle.Tree {
	t.Helper()
	tree := merkle.New()
	for i, leaf := range leaves {
		if index, e := tree.Add(leaf); index != i || e != ok {
			t.Fatalf("Add of leaf %d: %d, %d", i, index, e)
		}
	}
	return tree
}

// content returns n different bytes, as far as possible.
func content(n int) []byte {
	x := make([]byte, n)
	for i := range x {
		x[i] = byte(i*7 + i>>8)
	}
	return x
}

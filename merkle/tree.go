package merkle

import (
	"math/bits"

	"kinkeep/api"
	"kinkeep/sha256"
)

const (
	topLevel  = 20
	maxLeaves = 1 << topLevel
)

// Tree is a growing list of leaves.
type Tree struct {
	levels [topLevel + 1][]string // each the roots of the subtrees of 2^level leaves that are complete, in order
}

// part is a run of leaves.
type part struct{ first, count int }

// New returns an empty tree.
func New() *Tree { return &Tree{} }

// Add appends a leaf and returns its index.
func (t *Tree) Add(leaf string) (int, api.Errno) {
	index := t.Len()
	switch {
	case len(leaf) != api.SumSize:
		return 0, api.ErrArgument
	case index == maxLeaves:
		return 0, api.ErrTooLarge
	}
	root := leaf
	t.levels[0] = append(t.levels[0], root)
	// The leaf completes a subtree of 2^level leaves where their number is divisible by that.
	for level := range bits.TrailingZeros(uint(index + 1)) {
		root = Node(t.levels[level][index>>level-1], root)
		t.levels[level+1] = append(t.levels[level+1], root)
	}
	return index, api.OK
}

// Len returns the number of leaves.
func (t *Tree) Len() int { return len(t.levels[0]) }

// Root returns the root of the first n leaves.
func (t *Tree) Root(n int) (string, api.Errno) {
	if n < 0 || n > t.Len() {
		return "", api.ErrArgument
	}
	return t.root(part{0, n}), api.OK
}

// Path returns the inclusion proof of a leaf among the first n leaves.
func (t *Tree) Path(i, n int) ([]string, api.Errno) {
	if n < 1 || n > t.Len() || i < 0 || i >= n {
		return nil, api.ErrArgument
	}
	return path(part{0, n}, i, t.root), api.OK
}

// Consistency returns the proof that the first m leaves are a prefix of the first n leaves.
func (t *Tree) Consistency(m, n int) ([]string, api.Errno) {
	if m < 0 || m > n || n > t.Len() {
		return nil, api.ErrArgument
	}
	if m == 0 {
		return nil, api.OK
	}
	return proof(part{0, n}, m, true, t.root), api.OK
}

// root returns the root of a part that the splits lead to: it begins at a multiple of the greatest power of two that it contains.
func (t *Tree) root(p part) string {
	if p.count == 0 {
		return sha256.Sum(nil)
	}
	if level := bits.Len(uint(p.count)) - 1; p.count == 1<<level {
		return t.levels[level][p.first>>level]
	}
	left, right := p.halves()
	return Node(t.root(left), t.root(right))
}

// halves returns the two parts of a part of at least two leaves.
func (p part) halves() (left, right part) {
	k := split(p.count)
	return part{p.first, k}, part{p.first + k, p.count - k}
}

// path returns the path of the leaf with an index within the part, given a function that returns the roots of its parts.
func path(p part, i int, root func(part) string) []string {
	if p.count == 1 {
		return nil
	}
	left, right := p.halves()
	if i < left.count {
		return append(path(left, i, root), root(right))
	}
	return append(path(right, i-left.count, root), root(left))
}

// proof returns the proof that the first m leaves of a part, at least one, are a prefix of it, with their root only if that is not known.
func proof(p part, m int, known bool, root func(part) string) []string {
	if m == p.count {
		if known {
			return nil
		}
		return []string{root(p)}
	}
	left, right := p.halves()
	if m <= left.count {
		return append(proof(left, m, known, root), root(right))
	}
	return append(proof(right, m-left.count, false, root), root(left))
}

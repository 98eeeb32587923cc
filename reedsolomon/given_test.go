package reedsolomon_test

import (
	"bytes"
	"math"
	"math/rand/v2"
	"slices"
	"testing"

	"kinkeep/api"
	"kinkeep/gf256"
	"kinkeep/reedsolomon"
)

// request is what four functions are called with.
type request struct {
	data, total int
	indices     []int
	pieces      list
	e           api.Errno
}

// requests returns some with the errors that they lead to, of those that Reconstruct, Check, Repair and Locate share.
func requests() []request {
	long := make([]byte, api.MaxBlock+1)
	return []request{
		{2, 4, []int{0, 1}, list{{1}, {2}}, ok}, {2, 4, []int{3, 0}, list{{1}, {2}}, ok}, {2, 4, []int{3, 2}, list{long[1:], long[1:]}, ok}, {1, 1, []int{0}, list{{0}}, ok},
		{2, 4, nil, nil, short}, {2, 4, []int{}, list{}, short}, {2, 4, []int{3}, list{{1}}, short}, {8, 16, below(7), slices.Repeat(list{{1}}, 7), short}, {1, 16, nil, nil, short},
		// No such code.
		{0, 4, []int{0}, list{{1}}, bad}, {0, 0, nil, nil, bad}, {-1, 4, nil, nil, bad}, {3, 2, []int{0, 1}, list{{1}, {1}}, bad}, {9, 16, below(9), slices.Repeat(list{{1}}, 9), bad},
		{8, 17, below(17), slices.Repeat(list{{1}}, 17), bad}, {8, 17, nil, nil, bad}, {math.MinInt, math.MinInt, nil, nil, bad}, {math.MaxInt, math.MaxInt, nil, nil, bad},
		{1, math.MaxInt, []int{0}, list{{1}}, bad}, {math.MinInt, 4, []int{0}, list{{1}}, bad}, {1, math.MinInt, []int{0}, list{{1}}, bad},
		// Other indices.
		{2, 4, []int{0, 4}, list{{1}, {2}}, bad}, {2, 4, []int{0, -1}, list{{1}, {2}}, bad}, {2, 4, []int{1, 1}, list{{1}, {2}}, bad}, {2, 4, []int{0, 1, 2, 0}, list{{1}, {2}, {3}, {1}}, bad},
		{2, 4, []int{math.MinInt, math.MaxInt}, list{{1}, {2}}, bad}, {2, 16, []int{0, 16}, list{{1}, {2}}, bad}, {2, 4, []int{4, 5}, list{{1}, {2}}, bad}, {2, 4, []int{0, 1, 2, 3, 256}, slices.Repeat(list{{1}}, 5), bad},
		{2, 4, below(5), slices.Repeat(list{{1}}, 5), bad}, {2, 4, make([]int, 100000), slices.Repeat(list{{1}}, 100000), bad}, {2, 4, []int{1 << 32, 1}, list{{1}, {2}}, bad}, {2, 4, []int{-1}, list{{1}}, bad},
		// Lists of different lengths.
		{2, 4, []int{0, 1, 2}, list{{1}, {2}}, bad}, {2, 4, []int{0, 1}, list{{1}, {2}, {3}}, bad}, {2, 4, nil, list{{1}, {2}}, bad}, {2, 4, []int{0, 1}, nil, bad}, {2, 4, nil, list{{1}}, bad}, {2, 4, []int{0}, nil, bad},
		// Other pieces.
		{2, 4, []int{0, 1}, list{{}, {}}, bad}, {2, 4, []int{0, 1}, list{nil, nil}, bad}, {2, 4, []int{0, 1}, list{{1}, {2, 3}}, bad}, {2, 4, []int{0, 1}, list{{1, 2}, {3}}, bad}, {2, 4, []int{0, 1}, list{{1}, nil}, bad},
		{2, 4, []int{0, 1}, list{nil, {1}}, bad}, {2, 4, []int{0, 1}, list{long, long}, bad}, {2, 4, []int{0, 1}, list{long[1:], long}, bad}, {2, 4, []int{0, 1, 2}, list{{1}, {2}, {3, 4}}, bad},
		// ErrArgument comes first.
		{2, 4, []int{4}, list{{1}}, bad}, {2, 4, []int{0}, list{{}}, bad}, {2, 4, []int{0}, list{long}, bad}, {2, 4, []int{0}, list{nil}, bad}, {3, 4, []int{0, 0}, list{{1}, {1}}, bad}, {3, 4, []int{0, 1}, list{{1}, {1, 2}}, bad},
	}
}

// P8.3, P8.4, P8.5, P8.6, P1
func TestErrorsOfGivenPieces(t *testing.T) {
	for i, r := range requests() {
		if b, e := reedsolomon.Reconstruct(r.data, r.total, r.indices, r.pieces); e != r.e || e == ok && len(b) != r.data || e != ok && len(b) != 0 {
			t.Errorf("Reconstruct, request %d: %d blocks, %d", i, len(b), e)
		}
		if is, e := reedsolomon.Check(r.data, r.total, r.indices, r.pieces); e != r.e || is != (e == ok) {
			t.Errorf("Check, request %d: %t, %d", i, is, e)
		}
		if wrong, e := reedsolomon.Locate(r.data, r.total, r.indices, r.pieces); e != r.e || len(wrong) != 0 {
			t.Errorf("Locate, request %d: %v, %d", i, wrong, e)
		}
		for _, index := range numbers() {
			want := r.e
			if index < 0 || index >= r.total {
				want = bad
			}
			if p, e := reedsolomon.Repair(r.data, r.total, r.indices, r.pieces, index); e != want || e == ok && len(p) != len(r.pieces[0]) || e != ok && len(p) != 0 {
				t.Errorf("Repair of %d, request %d: %d bytes, %d", index, i, len(p), e)
			}
		}
	}
}

// P8.4, P1
func TestErrorsOfCoefficients(t *testing.T) {
	for i, r := range []struct {
		data, total int
		indices     []int
		index       int
		e           api.Errno
	}{
		{2, 4, []int{0, 1}, 3, ok}, {2, 4, []int{0, 1}, 1, ok}, {2, 4, []int{3, 1, 0, 2}, 2, ok}, {1, 1, []int{0}, 0, ok},
		{2, 4, nil, 0, short}, {2, 4, []int{1}, 0, short}, {2, 4, []int{1}, 1, short}, {8, 16, below(7), 15, short},
		{2, 4, []int{0, 1}, 4, bad}, {2, 4, []int{0, 1}, -1, bad}, {2, 4, []int{0, 1}, math.MaxInt, bad}, {2, 4, []int{0, 1}, math.MinInt, bad}, {2, 4, []int{0, 1}, 256, bad},
		{2, 4, []int{0, 4}, 0, bad}, {2, 4, []int{0, -1}, 0, bad}, {2, 4, []int{0, 0}, 0, bad}, {2, 4, []int{0, 1, 2, 1}, 0, bad}, {2, 4, below(5), 0, bad}, {2, 4, make([]int, 100000), 0, bad},
		{2, 4, []int{math.MinInt, math.MaxInt}, 0, bad}, {2, 4, []int{0, 1, 1 << 32}, 0, bad},
		{0, 4, []int{0}, 0, bad}, {0, 0, nil, 0, bad}, {-1, 4, []int{0}, 0, bad}, {3, 2, []int{0, 1}, 0, bad}, {9, 16, below(9), 0, bad}, {8, 17, below(8), 0, bad},
		{math.MaxInt, math.MaxInt, nil, 0, bad}, {math.MinInt, math.MinInt, nil, 0, bad}, {1, math.MaxInt, []int{0}, 0, bad}, {1, math.MinInt, []int{0}, 0, bad},
		// ErrArgument comes first.
		{2, 4, nil, 4, bad}, {2, 4, nil, -1, bad}, {2, 4, []int{4}, 0, bad}, {3, 4, []int{1, 1}, 0, bad}, {2, 17, nil, 0, bad}, {0, 4, nil, 0, bad},
	} {
		f, e := reedsolomon.Coefficients(r.data, r.total, r.indices, r.index)
		if e != r.e || e == ok && len(f) != r.data || e != ok && len(f) != 0 {
			t.Errorf("request %d: %v, %d", i, f, e)
		}
	}
}

// checkDerived fails unless all pieces follow from the given ones as they are defined.
func checkDerived(t *testing.T, data, total int, indices []int, blocks list) {
	t.Helper()
	pieces := piecesOf(data, indices, blocks)
	kept, order := clone(pieces), slices.Clone(indices)
	result, e := reedsolomon.Reconstruct(data, total, indices, pieces)
	if e != ok || !same(result, blocks) {
		t.Fatalf("Reconstruct(%d, %d, %v): %v instead of %v, %d", data, total, indices, result, blocks, e)
	}
	overwrite(result[0])
	if !same(result[1:], blocks[1:]) {
		t.Fatalf("Reconstruct(%d, %d, %v): blocks share memory", data, total, indices)
	}
	overwrite(result...)
	for index := range total {
		p, e := reedsolomon.Repair(data, total, indices, pieces, index)
		if e != ok || !bytes.Equal(p, piece(data, index, blocks)) {
			t.Fatalf("Repair(%d, %d, %v, %d): %v, %d", data, total, indices, index, p, e)
		}
		overwrite(p)
	}
	if !same(pieces, kept) || !slices.Equal(indices, order) {
		t.Fatalf("code %d of %d, pieces %v: an argument has changed", data, total, indices)
	}
}

// P8.3, P8.4, P8.7: exactly data pieces, and more, in any order.
func TestReconstructAndRepair(t *testing.T) {
	random := newRandom()
	for _, c := range codes() {
		data, total := c[0], c[1]
		for range 5 {
			for count := data; count <= total; count++ {
				checkDerived(t, data, total, random.Perm(total)[:count], sample(random, data, 1+random.IntN(4)))
			}
		}
	}
	checkDerived(t, 3, 16, []int{15, 7, 1}, sample(random, 3, api.MaxBlock))
}

// P8.3, P8.4: only the first data of the given pieces count, also for the index of a later one.
func TestLaterPiecesDoNotCount(t *testing.T) {
	random := newRandom()
	for _, c := range codes() {
		data, total := c[0], c[1]
		if data == total {
			continue
		}
		blocks, indices := sample(random, data, 3), random.Perm(total)
		pieces := piecesOf(data, indices, blocks)
		overwrite(pieces[data:]...)
		if result, e := reedsolomon.Reconstruct(data, total, indices, pieces); e != ok || !same(result, blocks) {
			t.Errorf("code %v: %v instead of %v, %d", c, result, blocks, e)
		}
		for index := range total {
			if p, e := reedsolomon.Repair(data, total, indices, pieces, index); e != ok || !bytes.Equal(p, piece(data, index, blocks)) {
				t.Errorf("code %v, index %d of %v: %v, %d", c, index, indices, p, e)
			}
		}
	}
}

// P8.3: one slice may be several pieces.
func TestReconstructFromOneSlice(t *testing.T) {
	b := []byte{1, 2, 3}
	blocks, e := reedsolomon.Reconstruct(2, 4, []int{2, 3}, list{b, b})
	if e != ok || !same(piecesOf(2, []int{2, 3}, blocks), list{b, b}) {
		t.Fatal(blocks, e)
	}
	overwrite(blocks...)
	if !bytes.Equal(b, []byte{1, 2, 3}) {
		t.Error("a block is the argument")
	}
}

// weighed returns the sum of the first pieces, each multiplied with its factor.
func weighed(factors []byte, pieces list) []byte {
	sum := make([]byte, len(pieces[0]))
	for j, f := range factors {
		for at := range sum {
			sum[at] ^= gf256.Mul(f, pieces[j][at])
		}
	}
	return sum
}

// P8.4: other factors would not do for blocks with as many random bytes.
func TestCoefficients(t *testing.T) {
	random := newRandom()
	for _, c := range codes() {
		data, total := c[0], c[1]
		for count := data; count <= total; count++ {
			indices := random.Perm(total)[:count]
			for index := range total {
				f, e := reedsolomon.Coefficients(data, total, indices, index)
				if e != ok || len(f) != data {
					t.Fatalf("Coefficients(%d, %d, %v, %d): %v, %d", data, total, indices, index, f, e)
				}
				blocks := sample(random, data, 16)
				if !bytes.Equal(weighed(f, piecesOf(data, indices, blocks)), piece(data, index, blocks)) {
					t.Fatalf("Coefficients(%d, %d, %v, %d): %v", data, total, indices, index, f)
				}
				if place := slices.Index(indices[:data], index); place >= 0 && !bytes.Equal(f, unit(data, place)) {
					t.Errorf("Coefficients(%d, %d, %v, %d): %v", data, total, indices, index, f)
				}
			}
		}
	}
	f, _ := reedsolomon.Coefficients(2, 4, []int{0, 1}, 2)
	overwrite(f)
	if f, e := reedsolomon.Coefficients(2, 4, []int{0, 1}, 2); !bytes.Equal(f, []byte{142, 244}) || e != ok {
		t.Errorf("after a change of the result: %v, %d", f, e)
	}
}

// unit returns n zeros, with 1 at a place.
func unit(n, place int) []byte {
	u := make([]byte, n)
	u[place] = 1
	return u
}

// P8.5: pieces are consistent, and are not any more once one of them is changed anywhere, if there are more than data.
func TestCheck(t *testing.T) {
	random := newRandom()
	for _, c := range codes() {
		data, total := c[0], c[1]
		for count := data; count <= total; count++ {
			indices := random.Perm(total)[:count]
			pieces := piecesOf(data, indices, sample(random, data, 3))
			kept := clone(pieces)
			if is, e := reedsolomon.Check(data, total, indices, pieces); !is || e != ok {
				t.Errorf("Check(%d, %d, %v): %t, %d", data, total, indices, is, e)
			}
			for place := range pieces {
				changed := change(random, pieces[place])
				if is, e := reedsolomon.Check(data, total, indices, pieces); is != (count == data) || e != ok {
					t.Errorf("Check(%d, %d, %v), byte %d of piece %d changed: %t, %d", data, total, indices, changed, place, is, e)
				}
				pieces[place] = bytes.Clone(kept[place])
			}
		}
	}
}

// change changes one byte, and returns its place.
func change(random *rand.Rand, b []byte) int {
	at := random.IntN(len(b))
	b[at] ^= byte(1 + random.IntN(255))
	return at
}

// P8.5: long pieces with one other bit at the end, and no pieces beyond data.
func TestCheckLongPieces(t *testing.T) {
	random := newRandom()
	indices := []int{9, 0, 15, 4, 3}
	pieces := piecesOf(3, indices, sample(random, 3, api.MaxBlock))
	for _, place := range below(5) {
		if is, e := reedsolomon.Check(3, 16, indices, pieces); !is || e != ok {
			t.Errorf("unchanged: %t, %d", is, e)
		}
		pieces[place][api.MaxBlock-1] ^= 128
		if is, e := reedsolomon.Check(3, 16, indices, pieces); is || e != ok {
			t.Errorf("the last byte of piece %d changed: %t, %d", place, is, e)
		}
		pieces[place][api.MaxBlock-1] ^= 128
	}
	if is, e := reedsolomon.Check(8, 16, below(8), sample(random, 8, 5)); !is || e != ok {
		t.Errorf("any data pieces: %t, %d", is, e)
	}
}

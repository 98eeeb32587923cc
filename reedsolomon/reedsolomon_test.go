package reedsolomon_test

import (
	"bytes"
	"math"
	"math/rand/v2"
	"slices"
	"testing"

	"kinkeep/api"
	"kinkeep/gf256"
	"kinkeep/reedsolomon"
)

const (
	ok      = api.OK
	bad     = api.ErrArgument
	short   = api.ErrShort
	corrupt = api.ErrCorrupt
)

// list is blocks or pieces.
type list = [][]byte

func newRandom() *rand.Rand { return rand.New(rand.NewPCG(8, 8)) }

// sample returns random blocks of one length.
func sample(random *rand.Rand, count, length int) list {
	blocks := make(list, count)
	for i := range blocks {
		blocks[i] = make([]byte, length)
		for j := range blocks[i] {
			blocks[i][j] = byte(random.Uint32())
		}
	}
	return blocks
}

// codes returns all of them, as data and total.
func codes() (all [][2]int) {
	for data := 1; data <= 8; data++ {
		for total := data; total <= 16; total++ {
			all = append(all, [2]int{data, total})
		}
	}
	return all
}

// coefficient is that of the block c in the piece i.
func coefficient(data, i, c int) byte {
	switch {
	case i >= data:
		inverse, _ := gf256.Inv(byte(i ^ c))
		return inverse
	case i == c:
		return 1
	}
	return 0
}

// piece returns the piece i of blocks, byte by byte.
func piece(data, i int, blocks list) []byte {
	p := make([]byte, len(blocks[0]))
	for at := range p {
		for c := range blocks {
			p[at] ^= gf256.Mul(coefficient(data, i, c), blocks[c][at])
		}
	}
	return p
}

// piecesOf returns the pieces of blocks with these indices.
func piecesOf(data int, indices []int, blocks list) list {
	pieces := make(list, len(indices))
	for j, i := range indices {
		pieces[j] = piece(data, i, blocks)
	}
	return pieces
}

// below returns the numbers from 0 to n - 1.
func below(n int) []int {
	numbers := make([]int, n)
	for i := range numbers {
		numbers[i] = i
	}
	return numbers
}

func same(a, b list) bool { return slices.EqualFunc(a, b, bytes.Equal) }

func clone(l list) list {
	var copies list
	for _, b := range l {
		copies = append(copies, bytes.Clone(b))
	}
	return copies
}

// overwrite changes every byte of lists.
func overwrite(lists ...[]byte) {
	for _, b := range lists {
		for i := range b {
			b[i] ^= 0xa5
		}
	}
}

// numbers are those at the limits of arguments, and extreme ones.
func numbers() []int {
	return []int{math.MinInt, math.MinInt32, -256, -1, 0, 1, 2, 7, 8, 9, 15, 16, 17, 255, 256, 257, 1 << 32, math.MaxInt}
}

// P8.1
func TestValid(t *testing.T) {
	count := 0
	for _, data := range append(below(40), numbers()...) {
		for _, total := range append(below(40), numbers()...) {
			want := data >= 1 && data <= 8 && total >= data && total <= 16
			if reedsolomon.Valid(data, total) != want {
				t.Errorf("Valid(%d, %d): %t", data, total, !want)
			}
		}
	}
	for data := -20; data < 20; data++ {
		for total := -20; total < 20; total++ {
			if reedsolomon.Valid(data, total) {
				count++
			}
		}
	}
	if count != len(codes()) {
		t.Errorf("%d codes", count)
	}
}

// P8.1, P1
func TestRow(t *testing.T) {
	for _, c := range codes() {
		data, total := c[0], c[1]
		for index := range total {
			row, e := reedsolomon.Row(data, total, index)
			if e != ok || len(row) != data {
				t.Fatalf("Row(%d, %d, %d): %v, %d", data, total, index, row, e)
			}
			for i := range row {
				if row[i] != coefficient(data, index, i) {
					t.Errorf("Row(%d, %d, %d): %v", data, total, index, row)
				}
			}
			overwrite(row)
			if again, _ := reedsolomon.Row(data, total, index); again[0] != coefficient(data, index, 0) {
				t.Errorf("Row(%d, %d, %d) after a change of the result: %v", data, total, index, again)
			}
		}
		for _, index := range append(numbers(), -total, total, total+1) {
			if row, e := reedsolomon.Row(data, total, index); (index < 0 || index >= total) && (len(row) != 0 || e != bad) {
				t.Errorf("Row(%d, %d, %d): %v, %d", data, total, index, row, e)
			}
		}
	}
	for _, data := range numbers() {
		for _, total := range numbers() {
			if reedsolomon.Valid(data, total) {
				continue
			}
			for _, index := range numbers() {
				if row, e := reedsolomon.Row(data, total, index); len(row) != 0 || e != bad {
					t.Errorf("Row(%d, %d, %d): %v, %d", data, total, index, row, e)
				}
			}
		}
	}
}

// The examples of the chapter.
func TestExamples(t *testing.T) {
	for index, want := range (list{{1, 0}, {0, 1}, {142, 244}, {244, 142}}) {
		if row, e := reedsolomon.Row(2, 4, index); !bytes.Equal(row, want) || e != ok {
			t.Errorf("Row(2, 4, %d): %v, %d", index, row, e)
		}
	}
	if pieces, e := reedsolomon.Encode(2, 3, list{{1}, {2}}); !same(pieces, list{{1}, {2}, {123}}) || e != ok {
		t.Error(pieces, e)
	}
	if p, e := reedsolomon.Repair(2, 3, []int{0, 2}, list{{1}, {123}}, 1); !bytes.Equal(p, []byte{2}) || e != ok {
		t.Error(p, e)
	}
	if wrong, e := reedsolomon.Locate(1, 3, []int{0, 1, 2}, list{{7}, {7}, {9}}); !slices.Equal(wrong, []int{2}) || e != ok {
		t.Error(wrong, e)
	}
	if wrong, e := reedsolomon.Locate(1, 3, []int{0, 1, 2}, list{{7}, {8}, {9}}); len(wrong) != 0 || e != corrupt {
		t.Error(wrong, e)
	}
	if pieces, e := reedsolomon.Encode(1, 3, list{{7}}); !same(pieces, list{{7}, {7}, {141}}) || e != ok {
		t.Error(pieces, e)
	}
}

// P8.2
func TestEncode(t *testing.T) {
	random := newRandom()
	for _, c := range codes() {
		data, total := c[0], c[1]
		for count := 1; count <= data; count++ {
			blocks := sample(random, count, 1+random.IntN(20))
			before := clone(blocks)
			pieces, e := reedsolomon.Encode(data, total, blocks)
			if e != ok || !same(pieces, piecesOf(data, below(total), blocks)) {
				t.Fatalf("code %v, blocks %v: %v, %d", c, blocks, pieces, e)
			}
			if !same(pieces[:count], blocks) || !zeros(pieces[count:data]) {
				t.Errorf("code %v: the first pieces of %v are %v", c, blocks, pieces[:data])
			}
			kept := clone(pieces)
			overwrite(pieces[0])
			if !same(blocks, before) || !same(pieces[1:], kept[1:]) {
				t.Errorf("code %v: a change of a piece changes others, or a block", c)
			}
			overwrite(pieces...)
			if again, _ := reedsolomon.Encode(data, total, blocks); !same(blocks, before) || !same(again, kept) {
				t.Errorf("code %v: a change of pieces changes later ones, or a block", c)
			}
		}
	}
}

// P8.2: the missing blocks are blocks of zeros.
func TestEncodeMissingBlocks(t *testing.T) {
	random := newRandom()
	for _, c := range codes() {
		for count := 1; count < c[0]; count++ {
			blocks := sample(random, count, 5)
			all := clone(blocks)
			for len(all) < c[0] {
				all = append(all, make([]byte, 5))
			}
			few, e := reedsolomon.Encode(c[0], c[1], blocks)
			many, f := reedsolomon.Encode(c[0], c[1], all)
			if e != ok || f != ok || !same(few, many) {
				t.Errorf("code %v, %d blocks: %d, %d", c, count, e, f)
			}
		}
	}
}

// P8.2: the greatest blocks, and one block twice.
func TestEncodeGreatest(t *testing.T) {
	blocks := sample(newRandom(), 3, api.MaxBlock)
	for _, b := range []list{blocks, {blocks[0], blocks[0], blocks[0]}} {
		pieces, e := reedsolomon.Encode(3, 6, b)
		if e != ok || !same(pieces, piecesOf(3, below(6), b)) {
			t.Errorf("%d pieces, %d", len(pieces), e)
		}
	}
}

// P8.2, P1
func TestEncodeErrors(t *testing.T) {
	long := make([]byte, api.MaxBlock+1)
	for _, c := range []struct {
		data, total int
		blocks      list
		e           api.Errno
	}{
		{2, 4, list{{1}}, ok}, {2, 4, list{{1}, {2}}, ok}, {2, 4, list{long[1:], long[1:]}, ok}, {1, 1, list{{0}}, ok}, {8, 16, list{{1}}, ok},
		{2, 4, nil, bad}, {2, 4, list{}, bad}, {2, 4, list{{}}, bad}, {2, 4, list{nil}, bad}, {2, 4, list{{}, {}}, bad}, {2, 4, list{{1}, {2}, {3}}, bad},
		{2, 4, list{{1}, {}}, bad}, {2, 4, list{{}, {1}}, bad}, {2, 4, list{nil, {1}}, bad}, {2, 4, list{{1}, {2, 3}}, bad}, {2, 4, list{{1, 2}, {3}}, bad},
		{2, 4, list{long}, bad}, {2, 4, list{long, long}, bad}, {2, 4, list{long[1:], long}, bad}, {2, 4, list{{1}, long}, bad}, {2, 4, make(list, 2), bad},
		{1, 16, list{{1}, {1}}, bad}, {8, 16, make(list, 100000), bad}, {8, 16, slices.Repeat(list{{1}}, 9), bad},
		{0, 4, list{{1}}, bad}, {0, 0, list{{1}}, bad}, {0, 0, nil, bad}, {-1, 4, list{{1}}, bad}, {2, 1, list{{1}}, bad}, {9, 16, list{{1}}, bad}, {8, 17, list{{1}}, bad},
		{math.MaxInt, math.MaxInt, list{{1}}, bad}, {math.MinInt, math.MaxInt, list{{1}}, bad}, {1, math.MaxInt, list{{1}}, bad}, {1, math.MinInt, nil, bad},
	} {
		pieces, e := reedsolomon.Encode(c.data, c.total, c.blocks)
		if e != c.e || e == ok && len(pieces) != c.total || e != ok && len(pieces) != 0 {
			t.Errorf("Encode(%d, %d, %d blocks): %d pieces, %d", c.data, c.total, len(c.blocks), len(pieces), e)
		}
	}
}

// zeros reports whether all bytes are 0.
func zeros(l list) bool {
	for _, b := range l {
		if !bytes.Equal(b, make([]byte, len(b))) {
			return false
		}
	}
	return true
}

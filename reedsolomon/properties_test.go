package reedsolomon_test

import (
	"bytes"
	"math/bits"
	"math/rand/v2"
	"testing"

	"kinkeep/api"
	"kinkeep/reedsolomon"
)

func encoded(t *testing.T, data, total int, blocks list) list {
	t.Helper()
	pieces, e := reedsolomon.Encode(data, total, blocks)
	if e != ok {
		t.Fatal(e)
	}
	return pieces
}

// P8.7: all selections of data pieces of all codes that have at most 10, and of the largest codes.
func TestAnyDataPieces(t *testing.T) {
	random := newRandom()
	for _, c := range codes() {
		data, total := c[0], c[1]
		if total > 10 && total < 16 {
			continue
		}
		blocks := sample(random, data, 1)
		pieces := encoded(t, data, total, blocks)
		for subset := range 1 << total {
			if bits.OnesCount(uint(subset)) != data {
				continue
			}
			var indices []int
			var some list
			for i := range total {
				if subset>>i&1 == 1 {
					indices, some = append(indices, i), append(some, pieces[i])
				}
			}
			if result, e := reedsolomon.Reconstruct(data, total, indices, some); e != ok || !same(result, blocks) {
				t.Fatalf("Reconstruct(%d, %d, %v): %v instead of %v, %d", data, total, indices, result, blocks, e)
			}
		}
	}
}

// differences returns the number of places where two lists differ.
func differences(a, b list) (n int) {
	for i := range a {
		if !bytes.Equal(a[i], b[i]) {
			n++
		}
	}
	return n
}

// P8.7: also for blocks that differ in one byte only.
func TestPiecesOfDifferentBlocks(t *testing.T) {
	random := newRandom()
	for _, c := range codes() {
		data, total := c[0], c[1]
		for range 30 {
			a := sample(random, data, 2)
			b := clone(a)
			for range 1 + random.IntN(2) {
				b[random.IntN(data)][0] ^= byte(random.IntN(256))
			}
			if same(a, b) {
				continue
			}
			if n := differences(encoded(t, data, total, a), encoded(t, data, total, b)); n <= total-data {
				t.Errorf("code %v, blocks %v and %v: %d pieces differ", c, a, b, n)
			}
		}
	}
}

// P8.7
func TestPiecesDoNotDependOnTotal(t *testing.T) {
	random := newRandom()
	for data := 1; data <= 8; data++ {
		blocks := sample(random, data, 3)
		all := encoded(t, data, 16, blocks)
		for total := data; total <= 16; total++ {
			if pieces := encoded(t, data, total, blocks); !same(pieces, all[:total]) {
				t.Errorf("code %d of %d: %v instead of %v", data, total, pieces, all[:total])
			}
		}
	}
}

// sum returns the sum of corresponding bytes.
func sum(a, b list) list {
	s := clone(a)
	for i := range s {
		for j := range s[i] {
			s[i][j] ^= b[i][j]
		}
	}
	return s
}

// P8.7
func TestPiecesOfSums(t *testing.T) {
	random := newRandom()
	for _, c := range codes() {
		data, total := c[0], c[1]
		a, b := sample(random, data, 5), sample(random, data, 5)
		if pieces := encoded(t, data, total, sum(a, b)); !same(pieces, sum(encoded(t, data, total, a), encoded(t, data, total, b))) {
			t.Errorf("code %v, blocks %v and %v: %v", c, a, b, pieces)
		}
	}
}

// anyNumber returns one that often is near to a valid one.
func anyNumber(random *rand.Rand) int {
	if random.IntN(4) == 0 {
		return numbers()[random.IntN(len(numbers()))]
	}
	return random.IntN(18) - 1
}

// anyPieces returns pieces that are often of one length.
func anyPieces(random *rand.Rand, count int) list {
	pieces := sample(random, count, random.IntN(3))
	if count > 0 && random.IntN(6) == 0 {
		pieces[random.IntN(count)] = make([]byte, random.IntN(3))
	}
	return pieces
}

// P1: no arguments lead to a panic, and errors come without other results.
func TestAnyArguments(t *testing.T) {
	random := newRandom()
	for range 20000 {
		data, total, index, count := anyNumber(random), anyNumber(random), anyNumber(random), random.IntN(18)
		if random.IntN(2) == 0 {
			data, total = 1+random.IntN(8), 16
		}
		indices := random.Perm(20)[:count]
		if random.IntN(5) == 0 && count > 0 {
			indices[random.IntN(count)] = anyNumber(random)
		}
		pieces := anyPieces(random, count+random.IntN(5)/4)
		row, e := reedsolomon.Row(data, total, index)
		empty(t, len(row), e)
		encoded, e := reedsolomon.Encode(data, total, pieces)
		empty(t, len(encoded), e)
		blocks, e := reedsolomon.Reconstruct(data, total, indices, pieces)
		empty(t, len(blocks), e)
		piece, e := reedsolomon.Repair(data, total, indices, pieces, index)
		empty(t, len(piece), e)
		factors, e := reedsolomon.Coefficients(data, total, indices, index)
		empty(t, len(factors), e)
		wrong, e := reedsolomon.Locate(data, total, indices, pieces)
		if e != ok {
			empty(t, len(wrong), e)
		}
		if is, e := reedsolomon.Check(data, total, indices, pieces); is && e != ok {
			t.Errorf("%t, %d", is, e)
		}
	}
}

// empty fails unless a result has elements exactly if there is no error.
func empty(t *testing.T, n int, e api.Errno) {
	t.Helper()
	if (n == 0) != (e != ok) {
		t.Errorf("%d elements, %d", n, e)
	}
}

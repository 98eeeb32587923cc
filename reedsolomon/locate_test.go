package reedsolomon_test

import (
	"bytes"
	"math/bits"
	"math/rand/v2"
	"slices"
	"testing"

	"kinkeep/api"
	"kinkeep/reedsolomon"
)

// differing returns the indices of the pieces that differ from those of blocks, ascending.
func differing(data int, indices []int, pieces, blocks list) (wrong []int) {
	for j, p := range piecesOf(data, indices, blocks) {
		if !bytes.Equal(p, pieces[j]) {
			wrong = append(wrong, indices[j])
		}
	}
	slices.Sort(wrong)
	return wrong
}

// sought returns the wrong pieces by their definition: the blocks sought are determined by some data pieces.
func sought(t *testing.T, data, total int, indices []int, pieces list) ([]int, api.Errno) {
	t.Helper()
	for subset := range 1 << len(indices) {
		if bits.OnesCount(uint(subset)) != data {
			continue
		}
		var some []int
		var their list
		for j := range indices {
			if subset>>j&1 == 1 {
				some, their = append(some, indices[j]), append(their, pieces[j])
			}
		}
		blocks, e := reedsolomon.Reconstruct(data, total, some, their)
		if e != ok {
			t.Fatal(e)
		}
		if wrong := differing(data, indices, pieces, blocks); len(wrong) <= (len(indices)-data)/2 {
			return wrong, ok
		}
	}
	return nil, corrupt
}

// checkLocated fails unless Locate returns these wrong pieces, and changes nothing.
func checkLocated(t *testing.T, data, total int, indices []int, pieces list, want []int, wantError api.Errno) {
	t.Helper()
	kept, order := clone(pieces), slices.Clone(indices)
	wrong, e := reedsolomon.Locate(data, total, indices, pieces)
	if e != wantError || !slices.Equal(wrong, want) {
		t.Fatalf("Locate(%d, %d, %v) of %d bytes: %v, %d instead of %v, %d", data, total, indices, len(pieces[0]), wrong, e, want, wantError)
	}
	if !same(pieces, kept) || !slices.Equal(indices, order) {
		t.Fatalf("Locate(%d, %d, %v): an argument has changed", data, total, indices)
	}
	is, e := reedsolomon.Check(data, total, indices, pieces)
	if consistent := wantError == ok && len(want) == 0; is != consistent || e != ok {
		t.Fatalf("Check(%d, %d, %v): %t, %d", data, total, indices, is, e)
	}
}

// spoil changes pieces with random indices in the way of a function, and returns the indices, ascending.
func spoil(random *rand.Rand, count int, indices []int, pieces list, one func(random *rand.Rand, number int, b []byte)) []int {
	var wrong []int
	for number, j := range random.Perm(len(indices))[:count] {
		one(random, number, pieces[j])
		wrong = append(wrong, indices[j])
	}
	slices.Sort(wrong)
	return wrong
}

// ways of changing pieces: the number counts the pieces that are changed.
func ways() []func(random *rand.Rand, number int, b []byte) {
	return []func(random *rand.Rand, number int, b []byte){
		func(random *rand.Rand, number int, b []byte) { change(random, b) },
		func(random *rand.Rand, number int, b []byte) { b[number%len(b)] ^= byte(1 + random.IntN(255)) },
		func(random *rand.Rand, number int, b []byte) { b[len(b)-1] ^= 1 },
		func(random *rand.Rand, number int, b []byte) { overwrite(b) },
		func(random *rand.Rand, number int, b []byte) {
			for i := range b {
				b[i] ^= byte(1 + random.IntN(255))
			}
		},
	}
}

// P8.6: as many wrong pieces as can be located, in any order of the given ones.
func TestLocate(t *testing.T) {
	random := newRandom()
	for _, c := range codes() {
		data, total := c[0], c[1]
		for count := data; count <= total; count++ {
			for errors := range (count-data)/2 + 1 {
				for _, way := range ways() {
					indices := random.Perm(total)[:count]
					pieces := piecesOf(data, indices, sample(random, data, 1+random.IntN(10)))
					want := spoil(random, errors, indices, pieces, way)
					checkLocated(t, data, total, indices, pieces, want, ok)
				}
			}
		}
	}
}

// P8.6: every set of wrong pieces of some codes.
func TestLocateAllSets(t *testing.T) {
	random := newRandom()
	for _, c := range [][2]int{{1, 9}, {2, 10}, {3, 9}, {5, 11}, {8, 12}} {
		data, total := c[0], c[1]
		for subset := range 1 << total {
			if bits.OnesCount(uint(subset)) > (total-data)/2 {
				continue
			}
			pieces := piecesOf(data, below(total), sample(random, data, 2))
			var want []int
			for i := range total {
				if subset>>i&1 == 1 {
					change(random, pieces[i])
					want = append(want, i)
				}
			}
			checkLocated(t, data, total, below(total), pieces, want, ok)
		}
	}
}

// P8.6: one wrong piece too many, where no other blocks can be near enough.
func TestTooManyWrongPieces(t *testing.T) {
	random := newRandom()
	for _, c := range codes() {
		data, total := c[0], c[1]
		for count := data + 1; count <= total; count += 2 {
			for _, way := range ways() {
				indices := random.Perm(total)[:count]
				pieces := piecesOf(data, indices, sample(random, data, 1+random.IntN(10)))
				spoil(random, (count-data)/2+1, indices, pieces, way)
				checkLocated(t, data, total, indices, pieces, nil, corrupt)
			}
		}
	}
}

// P8.6: any number of wrong pieces, of which some lead to other blocks.
func TestLocateAsDefined(t *testing.T) {
	random := newRandom()
	for _, c := range codes() {
		data, total := c[0], c[1]
		if total > 9 {
			continue
		}
		for count := data; count <= total; count++ {
			for errors := range count + 1 {
				way := ways()[random.IntN(len(ways()))]
				indices := random.Perm(total)[:count]
				pieces := piecesOf(data, indices, sample(random, data, 1+random.IntN(3)))
				spoil(random, errors, indices, pieces, way)
				want, e := sought(t, data, total, indices, pieces)
				checkLocated(t, data, total, indices, pieces, want, e)
			}
		}
	}
}

// P8.6: pieces of few different bytes, which are often near to pieces of blocks, and pieces that are nearer to those of other blocks.
func TestLocateAmongNeighbours(t *testing.T) {
	random := newRandom()
	located := 0
	for _, c := range [][2]int{{1, 3}, {1, 4}, {1, 5}, {2, 4}, {2, 5}, {2, 6}, {3, 7}} {
		data, total := c[0], c[1]
		for range 500 {
			pieces := make(list, total)
			first, second := sample(random, data, 2), sample(random, data, 2)
			for i := range pieces {
				pieces[i] = piece(data, i, [2]list{first, second}[random.IntN(2)])
				if random.IntN(4) == 0 {
					pieces[i] = []byte{byte(random.IntN(2)), byte(random.IntN(2))}
				}
			}
			want, e := sought(t, data, total, below(total), pieces)
			checkLocated(t, data, total, below(total), pieces, want, e)
			if e == ok && len(want) > 0 {
				located++
			}
		}
	}
	if located < 100 {
		t.Errorf("only %d times there was something to locate", located)
	}
}

// P8.6: all pieces of one byte out of a few, for one block.
func TestLocateBytes(t *testing.T) {
	alphabet := []byte{0, 7, 8, 9, 141}
	for number := range 5 * 5 * 5 * 5 * 5 {
		var pieces list
		for rest := number; len(pieces) < 5; rest /= 5 {
			pieces = append(pieces, []byte{alphabet[rest%5]})
		}
		for count := 1; count <= 5; count++ {
			want, e := sought(t, 1, 5, below(count), pieces[:count])
			checkLocated(t, 1, 5, below(count), pieces[:count], want, e)
		}
	}
}

// P8.6: the most pieces, where at each byte few enough are wrong, but together they are too many.
func TestManyWrongPiecesOneByOne(t *testing.T) {
	random := newRandom()
	for data := 1; data <= 8; data++ {
		most := (16 - data) / 2
		for errors := 1; errors <= 16; errors++ {
			indices := random.Perm(16)
			pieces := piecesOf(data, indices, sample(random, data, 16))
			want := spoil(random, errors, indices, pieces, func(random *rand.Rand, number int, b []byte) { b[15-number] ^= byte(1 + random.IntN(255)) })
			if errors <= most {
				checkLocated(t, data, 16, indices, pieces, want, ok)
			} else {
				checkLocated(t, data, 16, indices, pieces, nil, corrupt)
			}
		}
	}
}

// P8.6, P1: the longest pieces end soon, too.
func TestLocateInLongPieces(t *testing.T) {
	random := newRandom()
	for data := 1; data <= 8; data += 7 {
		most := (16 - data) / 2
		right := piecesOf(data, below(16), sample(random, data, api.MaxBlock))
		for _, way := range ways() {
			pieces := clone(right)
			want := spoil(random, most, below(16), pieces, way)
			checkLocated(t, data, 16, below(16), pieces, want, ok)
		}
		pieces := clone(right)
		for _, p := range pieces[:8] {
			change(random, p[api.MaxBlock-10:])
		}
		checkLocated(t, data, 16, below(16), pieces, nil, corrupt)
	}
}

// P8.6: nothing is wrong with data pieces, whatever they are.
func TestLocateWithoutSparePieces(t *testing.T) {
	random := newRandom()
	for _, c := range codes() {
		indices := random.Perm(c[1])[:c[0]]
		checkLocated(t, c[0], c[1], indices, sample(random, c[0], 4), nil, ok)
	}
}

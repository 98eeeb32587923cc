package chunker_test

import (
	"bytes"
	"math"
	"math/rand/v2"
	"slices"
	"testing"

	"kinkeep/api"
	"kinkeep/chunker"
	"kinkeep/rollinghash"
)

const (
	ok    = api.OK
	bad   = api.ErrArgument
	large = api.ErrTooLarge
)

// newRandom returns a source of numbers that are the same in each run.
func newRandom() *rand.Rand { return rand.New(rand.NewPCG(16, 16)) }

// sample returns n bytes at random, of so many values.
func sample(random *rand.Rand, n, values int) []byte {
	b := make([]byte, n)
	for i := range b {
		b[i] = byte(random.IntN(values))
	}
	return b
}

// counting returns n bytes that count from the first one on.
func counting(first, n int) []byte {
	b := make([]byte, n)
	for i := range b {
		b[i] = byte(first + i)
	}
	return b
}

// generated returns the highest bytes of a sequence of numbers that other languages can compute, too.
func generated(n int) (list []byte) {
	x := uint64(1)
	for range n {
		x = x*6364136223846793005 + 1442695040888963407
		list = append(list, byte(x>>56))
	}
	return list
}

// numbers are of any size.
func numbers() []int {
	return []int{math.MinInt, math.MinInt + 1, -1 << 32, -64, -2, -1, 0, 1, 2, 3, 19, 20, 21, 63, 64, 65, 1024, 32767, 32768, 32769, 65536, 1 << 20, 1<<20 + 1, 1 << 32, 1<<32 + 1, math.MaxInt - 1, math.MaxInt}
}

// someCuttings are valid, with few and with many cuts.
func someCuttings() []api.Cutting {
	return []api.Cutting{
		{Min: 1, Max: 1, Window: 1},
		{Min: 1, Max: 3, Window: 1},
		{Min: 2, Max: 3, Window: 1},
		{Min: 1, Max: 5, Window: 1, Bits: 1},
		{Min: 2, Max: 2, Window: 2, Bits: 1, Seed: 5},
		{Min: 3, Max: 7, Window: 2, Bits: 1, Seed: 1},
		{Min: 3, Max: 4, Window: 3, Bits: 2, Seed: 2},
		{Min: 5, Max: 40, Window: 4, Bits: 2, Seed: math.MaxUint64},
		{Min: 8, Max: 9, Window: 8, Bits: 3, Seed: 3},
		{Min: 4, Max: 100, Window: 4, Bits: 4, Seed: 4},
		{Min: 16, Max: 64, Window: 16, Bits: 3, Seed: 1 << 63},
		{Min: 63, Max: 70, Window: 63, Bits: 2, Seed: 6},
		{Min: 64, Max: 64, Window: 64, Bits: 1, Seed: 7},
		{Min: 64, Max: 200, Window: 64, Bits: 5, Seed: 8},
		{Min: 1, Max: 32768, Window: 1, Bits: 6, Seed: 9},
		{Min: 40, Max: 32768, Window: 7, Bits: 20, Seed: 10},
		{Min: 3, Max: 11, Window: 3, Bits: 20},
		{Min: 32768, Max: 32768, Window: 64, Bits: 0, Seed: 11},
	}
}

// anyCutting returns a valid one with small numbers.
func anyCutting(random *rand.Rand) api.Cutting {
	window := 1 + random.IntN(8)
	least := window + random.IntN(6)
	return api.Cutting{Min: least, Max: least + random.IntN(12), Window: window, Bits: random.IntN(5), Seed: random.Uint64()}
}

// invalidCuttings have one number outside its limits.
func invalidCuttings() []api.Cutting {
	return []api.Cutting{
		{},
		{Min: 0, Max: 10, Window: 0},
		{Min: -1, Max: 10, Window: -1},
		{Min: 10, Max: 20, Window: 0, Bits: 3},
		{Min: 10, Max: 20, Window: -5, Bits: 3},
		{Min: 65, Max: 100, Window: 65},
		{Min: 3, Max: 10, Window: 4},
		{Min: 0, Max: 10, Window: 1},
		{Min: 11, Max: 10, Window: 2},
		{Min: 10, Max: -10, Window: 2},
		{Min: 10, Max: 32769, Window: 2},
		{Min: 32769, Max: 32769, Window: 2},
		{Min: math.MinInt, Max: math.MaxInt, Window: math.MinInt, Bits: 3},
		{Min: 10, Max: math.MaxInt, Window: 2},
		{Min: 10, Max: 20, Window: 2, Bits: -1},
		{Min: 10, Max: 20, Window: 2, Bits: 21},
		{Min: 10, Max: 20, Window: 2, Bits: math.MinInt},
		{Min: 10, Max: 20, Window: 2, Bits: math.MaxInt},
		{Min: 10, Max: 20, Window: 2, Bits: 64},
		{Min: 10, Max: 20, Window: math.MaxInt},
	}
}

// someContents are of many lengths, with few and with many values.
func someContents(random *rand.Rand) [][]byte {
	list := [][]byte{nil, {}, {0}, {7}, make([]byte, 300), bytes.Repeat([]byte("ab"), 200), bytes.Repeat([]byte("kinkeep"), 60), counting(0, 520), generated(700)}
	for _, values := range []int{2, 3, 256} {
		for _, n := range []int{1, 2, 3, 4, 7, 8, 9, 62, 63, 64, 65, 66, 127, 128, 129, 500} {
			list = append(list, sample(random, n, values))
		}
	}
	return list
}

// primariesOf returns the primary cuts as the chapter defines them.
func primariesOf(t *testing.T, c api.Cutting, data []byte) (list []int) {
	t.Helper()
	hashes, e := rollinghash.All(c.Seed, c.Window, data)
	if e != ok {
		t.Fatalf("All: %d", e)
	}
	marked := func(p int) bool {
		return p >= c.Window && hashes[p-c.Window]%(1<<c.Bits) == 0
	}
	for p := 1; p <= len(data); p++ {
		primary := marked(p)
		for q := max(1, p-c.Min+1); q < p && primary; q++ {
			primary = !marked(q)
		}
		if primary {
			list = append(list, p)
		}
	}
	return list
}

// chunksOf returns the chunks as the chapter defines them.
func chunksOf(t *testing.T, c api.Cutting, data []byte) (chunks [][]byte) {
	t.Helper()
	begin := 0
	for _, end := range append(primariesOf(t, c, data), len(data)) {
		segment := data[begin:end]
		begin = end
		for len(segment) > c.Max {
			chunks = append(chunks, segment[:c.Max])
			segment = segment[c.Max:]
		}
		if len(segment) > 0 {
			chunks = append(chunks, segment)
		}
	}
	return chunks
}

// endsOf returns the ends of chunks.
func endsOf(chunks [][]byte) (ends []int) {
	end := 0
	for _, chunk := range chunks {
		end += len(chunk)
		ends = append(ends, end)
	}
	return ends
}

// equal reports whether two lists have the same chunks.
func equal(a, b [][]byte) bool { return slices.EqualFunc(a, b, bytes.Equal) }

// split calls Split with valid arguments.
func split(t *testing.T, c api.Cutting, data []byte) [][]byte {
	t.Helper()
	chunks, e := chunker.Split(c, data)
	if e != ok {
		t.Fatalf("%+v: Split of %d bytes: %d", c, len(data), e)
	}
	return chunks
}

// primary calls Primary with valid arguments.
func primary(t *testing.T, c api.Cutting, data []byte) []int {
	t.Helper()
	cuts, e := chunker.Primary(c, data)
	if e != ok {
		t.Fatalf("%+v: Primary of %d bytes: %d", c, len(data), e)
	}
	return cuts
}

// newChunker returns a chunker of a valid cutting.
func newChunker(t *testing.T, c api.Cutting) *chunker.Chunker {
	t.Helper()
	k, e := chunker.New(c)
	if e != ok || k == nil || k.Held() != 0 {
		t.Fatalf("%+v: New: %d", c, e)
	}
	return k
}

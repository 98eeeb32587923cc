package rollinghash_test

import (
	"bytes"
	"math"
	"math/bits"
	"math/rand/v2"
	"slices"
	"testing"

	"kinkeep/api"
	"kinkeep/rollinghash"
)

const (
	ok  = api.OK
	bad = api.ErrArgument
)

// newRandom returns a source of numbers that are the same in each run.
func newRandom() *rand.Rand { return rand.New(rand.NewPCG(14, 14)) }

// sample returns n bytes at random.
func sample(random *rand.Rand, n int) []byte {
	b := make([]byte, n)
	for i := range b {
		b[i] = byte(random.Uint32())
	}
	return b
}

// counting returns n bytes that count from the first one on.
func counting(first, n int) []byte {
	b := make([]byte, n)
	for i := range b {
		b[i] = byte(first + i)
	}
	return b
}

// seeds are some seeds, with which the sums wrap around or do not.
func seeds() []uint64 {
	return []uint64{0, 1, 2, 1234567, 1 << 63, 0x9e3779b97f4a7c15, -0x9e3779b97f4a7c15 & math.MaxUint64, 0xfedcba9876543210, math.MaxUint64 - 1, math.MaxUint64}
}

// windows are numbers of any size.
func windows() []int {
	list := []int{math.MinInt, math.MinInt + 64, -1 << 32, -65, -64, -2, -1, 1 << 32, 1<<32 + 1, math.MaxInt - 64, math.MaxInt}
	for n := range 131 {
		list = append(list, n)
	}
	return list
}

// limited returns the window that a number counts as.
func limited(window int) int {
	switch {
	case window < 1:
		return 1
	case window > 64:
		return 64
	}
	return window
}

// turned returns x rotated to the left, one bit at a time.
func turned(x uint64, n int) uint64 {
	for range n {
		x = x<<1 | x>>63
	}
	return x
}

// tableOf returns the table of a seed, as a generator gives it.
func tableOf(seed uint64) (table []uint64) {
	state := seed
	for range 256 {
		state += 0x9e3779b97f4a7c15
		z := state
		z = (z ^ (z >> 30)) * 0xbf58476d1ce4e5b9
		z = (z ^ (z >> 27)) * 0x94d049bb133111eb
		table = append(table, z^(z>>31))
	}
	return table
}

// hashOf returns the hash of bytes, as the document defines it.
func hashOf(table []uint64, b []byte) (hash uint64) {
	for i, x := range b {
		hash ^= turned(table[x], len(b)-1-i)
	}
	return hash
}

// push adds bytes.
func push(r *rollinghash.Roll, data []byte) {
	for _, b := range data {
		r.Push(b)
	}
}

// of calls Of with at most 64 bytes.
func of(t *testing.T, seed uint64, b []byte) uint64 {
	t.Helper()
	hash, e := rollinghash.Of(seed, b)
	if e != ok {
		t.Fatalf("Of %d bytes: %d", len(b), e)
	}
	return hash
}

// P14.1, P14.2, P14.4: the examples of the chapter.
func TestExamples(t *testing.T) {
	if table := rollinghash.Table(0); len(table) != 256 || table[0] != 0xe220a8397b1dcdaf {
		t.Errorf("Table: %x", table)
	}
	for _, seed := range seeds() {
		table := rollinghash.Table(seed)
		r := rollinghash.New(seed, 2)
		push(r, []byte{1, 2, 3})
		if r.Len() != 2 || r.Sum() != bits.RotateLeft64(table[2], 1)^table[3] {
			t.Errorf("seed %d: %d, %x", seed, r.Len(), r.Sum())
		}
	}
	if n := rollinghash.Zeros(40); n != 3 {
		t.Errorf("Zeros: %d", n)
	}
}

// P14.1: Python gives the same ones; the first number for the seed 1234567 is that of published lists of SplitMix64.
func TestKnownValues(t *testing.T) {
	for _, c := range []struct {
		seed, first, second, last, all uint64 // all: the numbers as digits to the base 31
		a, name, most                  uint64 // the hashes of "a", of "kinkeep", and of the bytes 192 to 255
	}{
		{0x0, 0xe220a8397b1dcdaf, 0x6e789e6aa1b965f4, 0x5a5832bb47bcf19e, 0xf23ddac01a50987f, 0xee8c2baf6343e5c3, 0x2bf74190fdc78572, 0xe4b4369debd7eace},
		{0x1, 0x910a2dec89025cc1, 0xbeeb8da1658eec67, 0x20933f9b9211242a, 0xbf56c0bf58435c9a, 0xd80391ffb30d1390, 0x9402f3fccbb2755f, 0x69962849af43e737},
		{1234567, 6457827717110365317, 0x2c73f08458540fa5, 0x1d18fa600ca8113f, 0xc19ec5c103d7b5cc, 0x834fa88a21030592, 0xc7c56e309b308a0b, 0xf1369cd81de0a817},
		{0xfedcba9876543210, 0x7ae893b5e32fee86, 0x9362a7a549a2689, 0x372399b04db5778, 0x4df6b326f807f28e, 0xb56752ceb143e8da, 0x24ef0b241e297f8, 0x4d3a27c6a1e840a7},
		{0xffffffffffffffff, 0xe4d971771b652c20, 0xe99ff867dbf682c9, 0x3608232f0c5ef258, 0x9c4aa3c18b9c397c, 0x17f27ce8213a4b35, 0x7a8551f31beb79fb, 0xa75808dd67818faa},
	} {
		table := rollinghash.Table(c.seed)
		if len(table) != 256 || table[0] != c.first || table[1] != c.second || table[255] != c.last {
			t.Errorf("seed %d: %x", c.seed, table)
		}
		all := uint64(0)
		for _, x := range table {
			all = all*31 + x
		}
		if all != c.all {
			t.Errorf("seed %d: %x", c.seed, table)
		}
		for text, want := range map[string]uint64{"": 0, "a": c.a, "kinkeep": c.name, string(counting(192, 64)): c.most} {
			if hash := of(t, c.seed, []byte(text)); hash != want {
				t.Errorf("seed %d, %q: %x", c.seed, text, hash)
			}
		}
	}
}

// P14.1
func TestTable(t *testing.T) {
	random := newRandom()
	list := seeds()
	for range 20 {
		list = append(list, random.Uint64())
	}
	for _, seed := range list {
		table := rollinghash.Table(seed)
		if !slices.Equal(table, tableOf(seed)) {
			t.Fatalf("seed %d: %x", seed, table)
		}
		clear(table)
		if !slices.Equal(rollinghash.Table(seed), tableOf(seed)) {
			t.Fatal("a table was not new")
		}
	}
}

// P14.1, P1
func TestOf(t *testing.T) {
	random := newRandom()
	for _, seed := range seeds() {
		table := tableOf(seed)
		for n := range 65 {
			for _, b := range [][]byte{sample(random, n), bytes.Repeat([]byte{255}, n), make([]byte, n), counting(n, n)} {
				kept := bytes.Clone(b)
				if hash, e := rollinghash.Of(seed, b); e != ok || hash != hashOf(table, b) {
					t.Fatalf("seed %d, %x: %x, %d", seed, b, hash, e)
				}
				if !bytes.Equal(b, kept) {
					t.Fatal("an argument has changed")
				}
			}
		}
		if hash, e := rollinghash.Of(seed, nil); e != ok || hash != 0 {
			t.Errorf("seed %d, no bytes: %x, %d", seed, hash, e)
		}
		for _, n := range []int{65, 66, 127, 128, 256, 1 << 16} {
			if hash, e := rollinghash.Of(seed, sample(random, n)); e != bad || hash != 0 {
				t.Errorf("seed %d, %d bytes: %x, %d", seed, n, hash, e)
			}
		}
	}
}

// P14.2, P14.5: the sum is that of the last bytes, after each byte.
func TestRoll(t *testing.T) {
	random := newRandom()
	for _, window := range windows() {
		seed, data, size := random.Uint64(), sample(random, 200), limited(window)
		table := tableOf(seed)
		r := rollinghash.New(seed, window)
		for range 3 {
			if r.Len() != 0 || r.Sum() != 0 {
				t.Fatalf("window %d: empty: %d, %x", window, r.Len(), r.Sum())
			}
			for i, b := range data {
				r.Push(b)
				last := data[max(0, i+1-size) : i+1]
				if r.Len() != len(last) || r.Sum() != hashOf(table, last) {
					t.Fatalf("window %d, after %d bytes: %d, %x", window, i+1, r.Len(), r.Sum())
				}
			}
			r.Reset()
			data = data[:random.IntN(len(data))+1]
		}
	}
}

// P14.2: after Reset at any time, a rolling hash is like a new one.
func TestReset(t *testing.T) {
	random := newRandom()
	for _, window := range []int{1, 2, 3, 31, 32, 33, 63, 64} {
		for n := range 140 {
			seed, data := random.Uint64(), sample(random, 150)
			used, fresh := rollinghash.New(seed, window), rollinghash.New(seed, window)
			push(used, sample(random, n))
			used.Reset()
			if used.Len() != 0 || used.Sum() != 0 {
				t.Fatalf("window %d, after %d bytes: %d, %x", window, n, used.Len(), used.Sum())
			}
			for _, b := range data {
				used.Push(b)
				fresh.Push(b)
				if used.Len() != fresh.Len() || used.Sum() != fresh.Sum() {
					t.Fatalf("window %d, after %d bytes: %x, %x", window, n, used.Sum(), fresh.Sum())
				}
			}
			used.Reset()
			used.Reset()
			if used.Len() != 0 || used.Sum() != 0 || fresh.Len() != min(window, 150) {
				t.Fatalf("window %d: %d, %d", window, used.Len(), fresh.Len())
			}
		}
	}
}

// P14.2: one rolling hash does not change another one.
func TestTwoRolls(t *testing.T) {
	random := newRandom()
	a, b := rollinghash.New(1, 5), rollinghash.New(2, 5)
	var first, second []byte
	for range 100 {
		x := sample(random, 2)
		a.Push(x[0])
		b.Push(x[1])
		first, second = append(first, x[0]), append(second, x[1])
		if a.Sum() != hashOf(tableOf(1), first[max(0, len(first)-5):]) || b.Sum() != hashOf(tableOf(2), second[max(0, len(second)-5):]) {
			t.Fatalf("after %d bytes: %x, %x", len(first), a.Sum(), b.Sum())
		}
	}
	b.Reset()
	if a.Len() != 5 || b.Len() != 0 {
		t.Errorf("%d, %d", a.Len(), b.Len())
	}
}

// P14.3, P1
func TestAll(t *testing.T) {
	random := newRandom()
	for _, window := range windows() {
		for _, n := range []int{0, 1, 2, window - 1, window, window + 1, 2 * window, 63, 64, 65, 100} {
			if n < 0 || n > 300 {
				continue
			}
			seed, data := random.Uint64(), sample(random, n)
			kept := bytes.Clone(data)
			hashes, e := rollinghash.All(seed, window, data)
			if !bytes.Equal(data, kept) {
				t.Fatal("an argument has changed")
			}
			if window < 1 || window > 64 {
				if e != bad || len(hashes) > 0 {
					t.Errorf("window %d of %d bytes: %x, %d", window, n, hashes, e)
				}
				continue
			}
			if e != ok || len(hashes) != max(0, n-window+1) {
				t.Fatalf("window %d of %d bytes: %x, %d", window, n, hashes, e)
			}
			table := tableOf(seed)
			for i, hash := range hashes {
				if hash != hashOf(table, data[i:i+window]) {
					t.Fatalf("window %d of %d bytes: %d: %x", window, n, i, hash)
				}
			}
		}
		if hashes, e := rollinghash.All(0, window, nil); len(hashes) > 0 || (e == ok) != (1 <= window && window <= 64) || e != ok && e != bad {
			t.Errorf("window %d of no bytes: %x, %d", window, hashes, e)
		}
	}
	data := sample(random, 1<<18)
	hashes, e := rollinghash.All(3, 48, data)
	if e != ok || len(hashes) != len(data)-47 {
		t.Fatalf("%d, %d", len(hashes), e)
	}
	for _, i := range []int{0, 1, 63, 64, 65, 12345, len(hashes) - 1} {
		if hashes[i] != of(t, 3, data[i:i+48]) {
			t.Errorf("%d: %x", i, hashes[i])
		}
	}
}

// P14.4
func TestZeros(t *testing.T) {
	random := newRandom()
	if n := rollinghash.Zeros(0); n != 64 {
		t.Errorf("of 0: %d", n)
	}
	for bit := range 64 {
		least := uint64(1) << bit
		for _, x := range []uint64{least, -least, least | 1<<63, least | random.Uint64()<<bit} {
			if n := rollinghash.Zeros(x); n != bit {
				t.Errorf("of %x: %d", x, n)
			}
		}
	}
}

// P14.5: what was pushed before the last bytes does not matter.
func TestLastBytes(t *testing.T) {
	random := newRandom()
	for range 300 {
		seed, window := random.Uint64(), 1+random.IntN(64)
		last := sample(random, window)
		want := of(t, seed, last)
		for range 3 {
			r := rollinghash.New(seed, window)
			push(r, sample(random, random.IntN(200)))
			push(r, last)
			if r.Len() != window || r.Sum() != want {
				t.Fatalf("window %d: %d, %x; want %x", window, r.Len(), r.Sum(), want)
			}
		}
	}
}

// P14.5: the hash of two strings in a row.
func TestTwoStrings(t *testing.T) {
	random := newRandom()
	for n := range 65 {
		for m := range 65 - n {
			seed, a, b := random.Uint64(), sample(random, n), sample(random, m)
			if hash := of(t, seed, slices.Concat(a, b)); hash != turned(of(t, seed, a), m)^of(t, seed, b) {
				t.Fatalf("%d and %d bytes: %x", n, m, hash)
			}
		}
	}
}

// P1: a rolling hash that New did not make has no stated meaning and does not panic.
func TestNoWindow(t *testing.T) {
	var r rollinghash.Roll
	push(&r, counting(0, 256))
	r.Sum()
	r.Len()
	r.Reset()
	push(&r, counting(0, 256))
}

package chunker_test

import (
	"bytes"
	"math"
	"math/rand/v2"
	"slices"
	"testing"

	"kinkeep/api"
	"kinkeep/chunker"
)

// P16.1, P16.2, P16.4: the examples of the chapter.
func TestExamples(t *testing.T) {
	random := newRandom()
	for range 20 {
		c := api.Cutting{Min: 2, Max: 3, Window: 1, Seed: random.Uint64()}
		data := sample(random, 8, 256)
		if cuts := primary(t, c, data); !slices.Equal(cuts, []int{1}) {
			t.Errorf("Primary: %d", cuts)
		}
		if cuts, e := chunker.Cuts(c, data); e != ok || !slices.Equal(cuts, []int{1, 4, 7, 8}) {
			t.Errorf("Cuts: %d, %d", cuts, e)
		}
		if first, last, e := chunker.Reach(c, 5, 6); e != ok || first != 6 || last != 7 {
			t.Errorf("Reach: %d, %d, %d", first, last, e)
		}
		k := newChunker(t, c)
		if chunks := k.Push(data[:5]); !equal(chunks, [][]byte{data[:1], data[1:4]}) || k.Held() != 1 {
			t.Errorf("Push: %x, %d held", chunks, k.Held())
		}
	}
	c := api.Cutting{Min: 2, Max: 3, Window: 1, Bits: 20}
	if cuts := primary(t, c, counting(0, 8)); len(cuts) > 0 {
		t.Errorf("Primary: %d", cuts)
	}
	if cuts, e := chunker.Cuts(c, counting(0, 8)); e != ok || !slices.Equal(cuts, []int{3, 6, 8}) {
		t.Errorf("Cuts: %d, %d", cuts, e)
	}
}

// P16.1: Python gives the same ones.
func TestKnownCuts(t *testing.T) {
	data := generated(6000)
	for _, c := range []struct {
		cutting       api.Cutting
		primary, more []int // the other cuts are where a segment is longer than Max, and at the end
	}{
		{api.Cutting{Min: 64, Max: 1024, Window: 16, Bits: 6},
			[]int{76, 242, 312, 417, 643, 834, 1115, 1211, 1372, 1450, 1523, 1647, 1793, 1863, 1961, 2043, 2259, 2548, 2623, 2765, 2961, 3136, 3326, 3393, 3493, 3631, 3703, 3906, 4011, 4137, 4270, 4511, 4585, 4956, 5027, 5133, 5273, 5350, 5724, 5839, 5919},
			[]int{6000}},
		{api.Cutting{Min: 48, Max: 200, Window: 48, Bits: 5, Seed: 12345},
			[]int{57, 162, 467, 837, 999, 1334, 1485, 1654, 1708, 1823, 1915, 2135, 2479, 2764, 2830, 3020, 3164, 3301, 3431, 3650, 3796, 4005, 4160, 4215, 4296, 4511, 4563, 4747, 5036, 5141, 5396, 5515, 5664, 5769, 5870},
			[]int{362, 667, 1199, 2115, 2335, 2679, 3631, 3996, 4496, 4947, 5341, 6000}},
		{api.Cutting{Min: 64, Max: 700, Window: 64, Bits: 5, Seed: math.MaxUint64},
			[]int{111, 225, 416, 546, 793, 1178, 1994, 2069, 2267, 2491, 2795, 2949, 3172, 3539, 3686, 3949, 4124, 4273, 4376, 4522, 4683, 5027, 5123, 5445, 5626, 5706, 5843, 5945},
			[]int{1878, 6000}},
		{api.Cutting{Min: 100, Max: 32768, Window: 1, Bits: 8, Seed: 7},
			[]int{329, 474, 702, 1002, 1838, 2215, 2526, 3406, 4033, 4223, 4392, 4758, 5074, 5338, 5801},
			[]int{6000}},
	} {
		if cuts := primary(t, c.cutting, data); !slices.Equal(cuts, c.primary) {
			t.Errorf("%+v: Primary: %d", c.cutting, cuts)
		}
		want := slices.Sorted(slices.Values(slices.Concat(c.primary, c.more)))
		if cuts, e := chunker.Cuts(c.cutting, data); e != ok || !slices.Equal(cuts, want) {
			t.Errorf("%+v: Cuts: %d, %d; want %d", c.cutting, cuts, e, want)
		}
		if ends := endsOf(split(t, c.cutting, data)); !slices.Equal(ends, want) {
			t.Errorf("%+v: Split: %d; want %d", c.cutting, ends, want)
		}
	}
}

// P16.1, P1
func TestValid(t *testing.T) {
	for _, window := range numbers() {
		for _, least := range numbers() {
			for _, most := range numbers() {
				for _, bits := range []int{math.MinInt, -1, 0, 1, 19, 20, 21, 64, math.MaxInt} {
					c := api.Cutting{Min: least, Max: most, Window: window, Bits: bits, Seed: uint64(window) * 77}
					want := 1 <= window && window <= 64 && window <= least && least <= most && most <= 32768 && 0 <= bits && bits <= 20
					if chunker.Valid(c) != want {
						t.Errorf("%+v: %v", c, !want)
					}
				}
			}
		}
	}
	for _, c := range someCuttings() {
		if !chunker.Valid(c) {
			t.Errorf("%+v is not valid", c)
		}
	}
}

// P16.1 to P16.4, P1: nothing comes of a cutting that is not valid, also if something else is wrong.
func TestInvalidCuttings(t *testing.T) {
	for _, c := range invalidCuttings() {
		if chunker.Valid(c) {
			t.Errorf("%+v is valid", c)
		}
		for _, n := range []int{0, 1, 100, api.MaxFile, api.MaxFile + 1} {
			data := make([]byte, n)
			if cuts, e := chunker.Primary(c, data); e != bad || len(cuts) > 0 {
				t.Errorf("%+v: Primary of %d bytes: %d, %d", c, n, cuts, e)
			}
			if cuts, e := chunker.Cuts(c, data); e != bad || len(cuts) > 0 {
				t.Errorf("%+v: Cuts of %d bytes: %d, %d", c, n, cuts, e)
			}
			if chunks, e := chunker.Split(c, data); e != bad || len(chunks) > 0 {
				t.Errorf("%+v: Split of %d bytes: %d chunks, %d", c, n, len(chunks), e)
			}
			for _, b := range [][]byte{nil, data} {
				if begin, end, e := chunker.Common(c, data, b); e != bad || begin != 0 || end != 0 {
					t.Errorf("%+v: Common of %d and %d bytes: %d, %d, %d", c, n, len(b), begin, end, e)
				}
			}
		}
		if first, last, e := chunker.Reach(c, 5, 6); e != bad || first != 0 || last != 0 {
			t.Errorf("%+v: Reach: %d, %d, %d", c, first, last, e)
		}
		if k, e := chunker.New(c); e != bad || k != nil {
			t.Errorf("%+v: New: %d", c, e)
		}
	}
}

// P16.1, P16.3, P1: contents of MaxFile bytes are divided, longer ones are not.
func TestTooLarge(t *testing.T) {
	random := newRandom()
	c := api.Cutting{Min: 2048, Max: 32768, Window: 48, Bits: 12, Seed: 3}
	data := sample(random, api.MaxFile+1, 256)
	most := data[:api.MaxFile]
	chunks := chunksOf(t, c, most)
	if cuts := primary(t, c, most); !slices.Equal(cuts, primariesOf(t, c, most)) {
		t.Errorf("Primary: %d", cuts)
	}
	if cuts, e := chunker.Cuts(c, most); e != ok || !slices.Equal(cuts, endsOf(chunks)) {
		t.Errorf("Cuts: %d, %d", cuts, e)
	}
	if !equal(split(t, c, most), chunks) {
		t.Error("Split")
	}
	if begin, end, e := chunker.Common(c, most, most); e != ok || begin != len(chunks) || end != 0 {
		t.Errorf("Common: %d, %d, %d; want %d", begin, end, e, len(chunks))
	}
	for _, long := range [][]byte{data, make([]byte, api.MaxFile+1), make([]byte, 3*api.MaxFile)} {
		if cuts, e := chunker.Primary(c, long); e != large || len(cuts) > 0 {
			t.Errorf("Primary: %d, %d", cuts, e)
		}
		if cuts, e := chunker.Cuts(c, long); e != large || len(cuts) > 0 {
			t.Errorf("Cuts: %d, %d", cuts, e)
		}
		if chunks, e := chunker.Split(c, long); e != large || len(chunks) > 0 {
			t.Errorf("Split: %d chunks, %d", len(chunks), e)
		}
		for _, pair := range [][2][]byte{{long, nil}, {nil, long}, {long, most}, {most, long}, {long, long}} {
			if begin, end, e := chunker.Common(c, pair[0], pair[1]); e != large || begin != 0 || end != 0 {
				t.Errorf("Common of %d and %d bytes: %d, %d, %d", len(pair[0]), len(pair[1]), begin, end, e)
			}
		}
	}
}

// P16.1, P16.5: the cuts are what the definitions say; each chunk has 1 to Max bytes, and the chunks in a row are the content.
func TestDefinitions(t *testing.T) {
	random := newRandom()
	for _, c := range someCuttings() {
		for _, data := range someContents(random) {
			checkContent(t, c, data)
		}
	}
	for range 2000 {
		checkContent(t, anyCutting(random), sample(random, random.IntN(120), 2+random.IntN(4)))
	}
}

// checkContent compares the cuts of a content with the definitions.
func checkContent(t *testing.T, c api.Cutting, data []byte) {
	t.Helper()
	kept := bytes.Clone(data)
	want := chunksOf(t, c, data)
	if cuts := primary(t, c, data); !slices.Equal(cuts, primariesOf(t, c, data)) {
		t.Fatalf("%+v: Primary of %x: %d; want %d", c, data, cuts, primariesOf(t, c, data))
	}
	if cuts, e := chunker.Cuts(c, data); e != ok || !slices.Equal(cuts, endsOf(want)) {
		t.Fatalf("%+v: Cuts of %x: %d, %d; want %d", c, data, cuts, e, endsOf(want))
	}
	chunks := split(t, c, data)
	if !equal(chunks, want) || !bytes.Equal(slices.Concat(chunks...), kept) {
		t.Fatalf("%+v: Split of %x: %x; want %x", c, data, chunks, want)
	}
	for _, chunk := range chunks {
		if len(chunk) < 1 || len(chunk) > c.Max {
			t.Fatalf("%+v: a chunk of %d bytes", c, len(chunk))
		}
	}
	if !bytes.Equal(data, kept) {
		t.Fatal("an argument has changed")
	}
}

// P16.1: two primary cuts are at least Min apart, and only the last chunk of a segment may be shorter than Min.
func TestDistances(t *testing.T) {
	random := newRandom()
	for range 500 {
		c := anyCutting(random)
		data := sample(random, 300, 4)
		cuts := primary(t, c, data)
		for i := range max(0, len(cuts)-1) {
			if cuts[i+1]-cuts[i] < c.Min {
				t.Fatalf("%+v: %d", c, cuts)
			}
		}
		end := 0
		for _, chunk := range split(t, c, data) {
			end += len(chunk)
			if len(chunk) < c.Min && !slices.Contains(cuts, end) && end != len(data) {
				t.Fatalf("%+v: a chunk of %d bytes ends at %d; primary cuts %d", c, len(chunk), end, cuts)
			}
		}
	}
}

// P16.1: the cuts depend on the seed, and equal windows are marked alike, wherever they are.
func TestSeed(t *testing.T) {
	data := generated(3000)
	c := api.Cutting{Min: 16, Max: 512, Window: 16, Bits: 4}
	other := c
	other.Seed = 1
	if slices.Equal(primary(t, c, data), primary(t, other, data)) {
		t.Error("two seeds have the same primary cuts")
	}
	shifted := primary(t, c, slices.Concat(counting(1, 777), data))
	for _, p := range primary(t, c, data) {
		if p >= 200 && !slices.Contains(shifted, p+777) {
			t.Errorf("no primary cut at %d", p+777)
		}
	}
}

// P16.2, P1: the numbers, and invalid ones.
func TestReach(t *testing.T) {
	for _, c := range someCuttings() {
		for _, from := range numbers() {
			for _, to := range numbers() {
				first, last, e := chunker.Reach(c, from, to)
				if from < 0 || to <= from || to > 1<<20 {
					if e != bad || first != 0 || last != 0 {
						t.Errorf("%+v: Reach of %d, %d: %d, %d, %d", c, from, to, first, last, e)
					}
				} else if e != ok || first != from+1 || last != to+c.Window+c.Min-2 {
					t.Errorf("%+v: Reach of %d, %d: %d, %d, %d", c, from, to, first, last, e)
				}
			}
		}
	}
}

// P16.2: a change of some bytes changes no primary cut outside its reach; it may change one at either end.
func TestReachOfChanges(t *testing.T) {
	random := newRandom()
	early, late := 0, 0
	for range 20000 {
		c := anyCutting(random)
		a := sample(random, 1+random.IntN(60), 3)
		b := bytes.Clone(a)
		from := random.IntN(len(a))
		to := from + 1 + random.IntN(min(3, len(a)-from))
		copy(b[from:to], sample(random, to-from, 3))
		first, last, e := chunker.Reach(c, from, to)
		if e != ok {
			t.Fatalf("Reach: %d", e)
		}
		before, after := primary(t, c, a), primary(t, c, b)
		outside := func(p int) bool { return p >= first && p <= last }
		if !slices.Equal(slices.DeleteFunc(slices.Clone(before), outside), slices.DeleteFunc(slices.Clone(after), outside)) {
			t.Fatalf("%+v: bytes %d to %d: %d, %d; reach %d to %d", c, from, to, before, after, first, last)
		}
		for p, count := range map[int]*int{first: &early, last: &late} {
			if slices.Contains(before, p) != slices.Contains(after, p) {
				*count++
			}
		}
	}
	if early == 0 || late == 0 {
		t.Errorf("no change reached its ends: %d, %d", early, late)
	}
}

// P16.3: how many chunks two contents have in common.
func TestCommon(t *testing.T) {
	random := newRandom()
	for range 3000 {
		c := anyCutting(random)
		a := sample(random, random.IntN(80), 2)
		checkCommon(t, c, a, sample(random, random.IntN(80), 2))
		checkCommon(t, c, a, a)
		checkCommon(t, c, a, edited(random, a))
		checkCommon(t, c, a, slices.Concat(a, a))
		checkCommon(t, c, a, a[random.IntN(len(a)+1):])
		checkCommon(t, c, a, nil)
	}
}

// edited returns a content with some bytes in place of others.
func edited(random *rand.Rand, a []byte) []byte {
	from := random.IntN(len(a) + 1)
	to := from + random.IntN(min(4, len(a)-from+1))
	return slices.Concat(a[:from], sample(random, random.IntN(4), 2), a[to:])
}

// checkCommon compares with a count in the lists of chunks, both ways.
func checkCommon(t *testing.T, c api.Cutting, a, b []byte) {
	t.Helper()
	x, y := chunksOf(t, c, a), chunksOf(t, c, b)
	most := min(len(x), len(y))
	begin := 0
	for n := range most + 1 {
		if equal(x[:n], y[:n]) {
			begin = n
		}
	}
	end := 0
	for n := range most - begin + 1 {
		if equal(x[len(x)-n:], y[len(y)-n:]) {
			end = n
		}
	}
	for _, pair := range [][2][]byte{{a, b}, {b, a}} {
		first, last, e := chunker.Common(c, pair[0], pair[1])
		if e != ok || first != begin || last != end {
			t.Fatalf("%+v: Common of %x and %x: %d, %d, %d; want %d, %d", c, pair[0], pair[1], first, last, e, begin, end)
		}
	}
}

// P16.3: chunks that are equal at the beginning do not count again at the end.
func TestCommonOfEqualChunks(t *testing.T) {
	c := api.Cutting{Min: 2, Max: 3, Window: 2, Bits: 20}
	zeros, one := make([]byte, 15), []byte{1, 1, 1}
	for _, x := range []struct {
		a, b       []byte
		begin, end int
	}{
		{zeros, zeros, 5, 0},
		{zeros, zeros[:9], 3, 0},
		{zeros[:9], zeros, 3, 0},
		{zeros, nil, 0, 0},
		{nil, nil, 0, 0},
		{zeros, slices.Concat(one, zeros[:12]), 0, 4},
		{zeros, slices.Concat(zeros[:6], one, zeros[:6]), 2, 2},
		{zeros[:12], slices.Concat(zeros[:6], one, zeros[:6]), 2, 2},
		{zeros[:6], slices.Concat(zeros[:6], one, zeros[:6]), 2, 0},
		{zeros, zeros[:14], 4, 0},
		{slices.Concat(one, zeros), slices.Concat(zeros, one), 0, 0},
	} {
		if begin, end, e := chunker.Common(c, x.a, x.b); e != ok || begin != x.begin || end != x.end {
			t.Errorf("%x and %x: %d, %d, %d; want %d, %d", x.a, x.b, begin, end, e, x.begin, x.end)
		}
	}
}

// P16.1: the chunks share no memory with the content or with each other.
func TestMemory(t *testing.T) {
	random := newRandom()
	for _, c := range someCuttings() {
		data := sample(random, 500, 256)
		kept := bytes.Clone(data)
		chunks := split(t, c, data)
		want := chunksOf(t, c, kept)
		clear(data)
		if !equal(chunks, want) {
			t.Fatalf("%+v: chunks are part of the content", c)
		}
		checkApart(t, chunks)
	}
}

// checkApart changes one chunk after the other, and the bytes behind it.
func checkApart(t *testing.T, chunks [][]byte) {
	t.Helper()
	want := make([][]byte, len(chunks))
	for i, chunk := range chunks {
		want[i] = bytes.Clone(chunk)
	}
	for i, chunk := range chunks {
		room := chunk[:cap(chunk)]
		for j := range room {
			room[j] ^= 255
		}
		for j := range want[i] {
			want[i][j] ^= 255
		}
		if !equal(chunks, want) {
			t.Fatal("two chunks share memory")
		}
	}
}

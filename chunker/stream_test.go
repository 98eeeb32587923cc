package chunker_test

import (
	"bytes"
	"math/rand/v2"
	"slices"
	"testing"

	"kinkeep/api"
	"kinkeep/chunker"
)

// completeOf returns how many of the chunks of the beginning of a stream are complete: all but the last one, and that one if it ends at a primary cut or has Max bytes.
func completeOf(t *testing.T, c api.Cutting, data []byte) [][]byte {
	t.Helper()
	chunks := chunksOf(t, c, data)
	if len(chunks) == 0 {
		return nil
	}
	last := len(chunks) - 1
	if len(chunks[last]) == c.Max || slices.Contains(primariesOf(t, c, data), len(data)) {
		return chunks
	}
	return chunks[:last]
}

// parted returns a content in parts of random lengths, at most the given one.
func parted(random *rand.Rand, data []byte, most int) (parts [][]byte) {
	for len(data) > 0 {
		n := min(len(data), random.IntN(most+1))
		parts = append(parts, data[:n])
		data = data[n:]
	}
	return parts
}

// P16.4, P16.5: after each byte the chunks are those that are complete then.
func TestPushOfBytes(t *testing.T) {
	random := newRandom()
	for range 300 {
		c, data := anyCutting(random), sample(random, 80, 3)
		k := newChunker(t, c)
		var chunks [][]byte
		for i := range data {
			chunks = append(chunks, k.Push(data[i:i+1])...)
			want := completeOf(t, c, data[:i+1])
			held := i + 1 - len(slices.Concat(want...))
			if !equal(chunks, want) || k.Held() != held {
				t.Fatalf("%+v: %x: %x, %d held; want %x, %d", c, data[:i+1], chunks, k.Held(), want, held)
			}
		}
	}
}

// P16.4, P16.5: the chunks do not depend on how a stream is divided; with the one of Close they are those of Split; then the chunker is as new.
func TestPushOfParts(t *testing.T) {
	random := newRandom()
	for _, c := range someCuttings() {
		k := newChunker(t, c)
		for _, data := range someContents(random) {
			for _, most := range []int{1, 2, 5, 60, 700} {
				checkStream(t, k, c, parted(random, data, most))
			}
		}
	}
	for range 1000 {
		c := anyCutting(random)
		k := newChunker(t, c)
		for range 3 {
			checkStream(t, k, c, parted(random, sample(random, random.IntN(150), 3), 1+random.IntN(70)))
		}
	}
}

// checkStream pushes the parts of a stream, and closes.
func checkStream(t *testing.T, k *chunker.Chunker, c api.Cutting, parts [][]byte) {
	t.Helper()
	var chunks [][]byte
	for i, part := range parts {
		kept := bytes.Clone(part)
		chunks = append(chunks, k.Push(part)...)
		so := slices.Concat(parts[:i+1]...)
		if held := len(so) - len(slices.Concat(chunks...)); k.Held() != held {
			t.Fatalf("%+v: %d held; want %d", c, k.Held(), held)
		}
		if !bytes.Equal(part, kept) {
			t.Fatal("an argument has changed")
		}
	}
	data := slices.Concat(parts...)
	if !equal(chunks, completeOf(t, c, data)) {
		t.Fatalf("%+v: %x: %x", c, data, chunks)
	}
	held, last := k.Held(), k.Close()
	if held == 0 && len(last) > 0 || held > 0 && (len(last) != 1 || len(last[0]) != held) {
		t.Fatalf("%+v: Close with %d held: %x", c, held, last)
	}
	chunks = append(chunks, last...)
	if !equal(chunks, chunksOf(t, c, data)) || !equal(chunks, split(t, c, data)) {
		t.Fatalf("%+v: %x: %x", c, data, chunks)
	}
	if k.Held() != 0 || len(k.Close()) > 0 || k.Held() != 0 {
		t.Fatalf("%+v: %d held after Close", c, k.Held())
	}
}

// P16.4: after Close at any time a chunker does not remember marked positions or bytes.
func TestCloseAnyTime(t *testing.T) {
	random := newRandom()
	for range 100 {
		c, first, second := anyCutting(random), sample(random, 30, 2), sample(random, 50, 2)
		k := newChunker(t, c)
		for n := range len(first) + 1 {
			k.Push(first[:n])
			k.Close()
			chunks := k.Push(second)
			if chunks = append(chunks, k.Close()...); !equal(chunks, chunksOf(t, c, second)) {
				t.Fatalf("%+v: %x after %x: %x", c, second, first[:n], chunks)
			}
		}
	}
}

// P16.4: no bytes change nothing.
func TestPushOfNothing(t *testing.T) {
	for _, c := range someCuttings() {
		k := newChunker(t, c)
		for _, b := range [][]byte{nil, {}} {
			if chunks := k.Push(b); len(chunks) > 0 || k.Held() != 0 || len(k.Close()) > 0 {
				t.Errorf("%+v: %x, %d held", c, chunks, k.Held())
			}
		}
		k.Push([]byte{1})
		held := k.Held()
		if chunks := k.Push(nil); len(chunks) > 0 || k.Held() != held {
			t.Errorf("%+v: %x, %d held; before %d", c, chunks, k.Held(), held)
		}
	}
}

// P16.4: a stream may be longer than a file.
func TestLongStream(t *testing.T) {
	random := newRandom()
	c := api.Cutting{Min: 1000, Max: 32768, Window: 64, Bits: 13, Seed: 12}
	data := sample(random, 3*api.MaxFile, 256)
	want := chunksOf(t, c, data)
	k := newChunker(t, c)
	var chunks [][]byte
	for _, part := range parted(random, data, 200000) {
		chunks = append(chunks, k.Push(part)...)
	}
	if chunks = append(chunks, k.Close()...); !equal(chunks, want) {
		t.Errorf("%d chunks; want %d", len(chunks), len(want))
	}
	if whole := k.Push(data); !equal(append(whole, k.Close()...), want) {
		t.Errorf("%d chunks at once; want %d", len(whole), len(want))
	}
}

// P16.4: chunks share no memory with what was pushed, with each other, or with the chunker.
func TestStreamMemory(t *testing.T) {
	random := newRandom()
	for _, c := range someCuttings() {
		data := sample(random, 600, 256)
		k := newChunker(t, c)
		var chunks, want [][]byte
		for _, part := range parted(random, data, 40) {
			pushed := bytes.Clone(part)
			for _, chunk := range k.Push(pushed) {
				want = append(want, bytes.Clone(chunk))
				// The bytes behind a chunk are not those that the chunker holds.
				room := chunk[:cap(chunk)]
				clear(room[len(chunk):])
				chunks = append(chunks, chunk)
			}
			clear(pushed)
		}
		rest := k.Close()
		chunks, want = append(chunks, rest...), append(want, rest...)
		if !equal(chunks, want) || !equal(chunks, chunksOf(t, c, data)) {
			t.Fatalf("%+v: a chunk has changed", c)
		}
		k.Push(sample(random, 600, 256))
		if !equal(chunks, chunksOf(t, c, data)) {
			t.Fatalf("%+v: a chunk has changed after Close", c)
		}
		checkApart(t, chunks)
	}
}

// P16.4: one chunker does not change another one.
func TestTwoChunkers(t *testing.T) {
	random := newRandom()
	for range 50 {
		c, first, second := anyCutting(random), sample(random, 90, 3), sample(random, 90, 3)
		a, b := newChunker(t, c), newChunker(t, c)
		var x, y [][]byte
		for i := range first {
			x = append(x, a.Push(first[i:i+1])...)
			y = append(y, b.Push(second[i:i+1])...)
		}
		x, y = append(x, a.Close()...), append(y, b.Close()...)
		if !equal(x, chunksOf(t, c, first)) || !equal(y, chunksOf(t, c, second)) {
			t.Fatalf("%+v: %x, %x", c, x, y)
		}
	}
}

// P16.5: the primary cuts of the beginning of a content are those of the content up to there.
func TestBeginnings(t *testing.T) {
	random := newRandom()
	for range 300 {
		c, data := anyCutting(random), sample(random, 60, 3)
		cuts := primary(t, c, data)
		for n := range len(data) + 1 {
			up := slices.DeleteFunc(slices.Clone(cuts), func(p int) bool { return p > n })
			if begin := primary(t, c, data[:n]); !slices.Equal(begin, up) {
				t.Fatalf("%+v: %d of the first %d bytes; want %d", c, begin, n, up)
			}
		}
	}
}

// P16.5: contents with the same end have the same primary cuts near the end; one at the distance that is not promised may differ.
func TestEnds(t *testing.T) {
	random := newRandom()
	beyond := 0
	for range 20000 {
		c, end := anyCutting(random), sample(random, random.IntN(40), 3)
		near := len(end) - c.Window - c.Min + 2
		var lists [2][]int
		for i := range lists {
			begin := sample(random, random.IntN(20), 3)
			for _, p := range primary(t, c, slices.Concat(begin, end)) {
				lists[i] = append(lists[i], len(begin)+len(end)-p)
			}
		}
		far := func(distance int) bool { return distance >= near }
		if slices.Contains(lists[0], near) != slices.Contains(lists[1], near) {
			beyond++
		}
		if !slices.Equal(slices.DeleteFunc(lists[0], far), slices.DeleteFunc(lists[1], far)) {
			t.Fatalf("%+v: %d; nearer than %d", c, lists, near)
		}
	}
	if beyond == 0 {
		t.Error("no two contents differed beyond the distance")
	}
}

// P1: a chunker that New did not make has no stated meaning and does not panic.
func TestNoChunker(t *testing.T) {
	var k chunker.Chunker
	for range 2 {
		k.Push(nil)
		k.Push(counting(0, 300))
		k.Held()
		k.Close()
	}
}

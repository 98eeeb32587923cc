package seal_test

import (
	"bytes"
	"crypto/hmac"
	"crypto/sha256"
	"encoding/binary"
	"math"
	"math/bits"
	"math/rand/v2"
	"slices"
	"strings"
	"testing"

	"kinkeep/api"
	"kinkeep/seal"
)

const (
	ok      = api.OK
	bad     = api.ErrArgument
	large   = api.ErrTooLarge
	syntax  = api.ErrSyntax
	corrupt = api.ErrCorrupt
)

// newRandom returns a source of numbers that are the same in each run.
func newRandom() *rand.Rand { return rand.New(rand.NewPCG(11, 11)) }

// sample returns n bytes at random.
func sample(random *rand.Rand, n int) []byte {
	b := make([]byte, n)
	for i := range b {
		b[i] = byte(random.Uint32())
	}
	return b
}

// counting returns n bytes that count from the first one on.
func counting(first, n int) string {
	b := make([]byte, n)
	for i := range b {
		b[i] = byte(first + i)
	}
	return string(b)
}

// content returns n bytes, each of which differs from the one before.
func content(n int) []byte {
	b := make([]byte, n)
	for i := range b {
		b[i] = byte(i * 7)
	}
	return b
}

// keys are five different keys.
func keys() api.Keys {
	return api.Keys{Name: counting(0, 32), Stream: counting(32, 32), Check: counting(64, 32), Index: counting(96, 32), Token: counting(128, 32)}
}

// invalidKeys are keys of which one has not 32 bytes.
func invalidKeys() (list []api.Keys) {
	for _, key := range []string{"", counting(0, 31), counting(0, 33), counting(0, 64)} {
		for i := range 5 {
			k := keys()
			*[]*string{&k.Name, &k.Stream, &k.Check, &k.Index, &k.Token}[i] = key
			list = append(list, k)
		}
	}
	return append(list, api.Keys{})
}

// lengths of contents: those around the limits of classes and of encodings.
func lengths() []int {
	return []int{0, 1, 2, 46, 47, 48, 49, 62, 63, 64, 65, 79, 80, 94, 95, 96, 110, 111, 112, 126, 127, 128, 129, 141, 142, 143, 205, 206, 207, 1000, 1006, 1007, 4078, 4079, 16383, 16384, 16385, 28652, 28653, 28654, 28655, 32748, 32749, 32750, 32767, 32768}
}

// numbers are of any size.
func numbers() []int {
	return []int{math.MinInt, math.MinInt + 1, -1 << 32, -1, 0, 1, 2, 47, 48, 64, 300, 32768, 32769, 40960, 65536, 65537, 1 << 20, 1 << 32, 1<<32 + 2, math.MaxInt}
}

// sizeOf returns the length of the encoding of n.
func sizeOf(n int) int { return len(binary.AppendUvarint(nil, uint64(n))) }

// classOf returns the least number of at least this size that is 4, 5, 6 or 7 times a power of two from 16 on: these are the size classes.
func classOf(need int) int {
	class := max(need, 64)
	for class>>(bits.Len(uint(class))-3)<<(bits.Len(uint(class))-3) != class {
		class++
	}
	return class
}

// bodyOf returns the body as the document defines it.
func bodyOf(content, check []byte) []byte {
	b := append(binary.AppendUvarint(nil, uint64(len(content))), content...)
	b = append(b, make([]byte, classOf(len(b)+16)-len(b)-16)...)
	return append(b, check...)
}

// nameOf, checkOf and streamOf are what the document defines.
func nameOf(k api.Keys, gen int, content []byte) string {
	return tagOf(k.Name, append(binary.AppendUvarint(nil, uint64(gen)), content...))
}

func checkOf(k api.Keys, content []byte) []byte { return []byte(tagOf(k.Check, content)[:16]) }

func tagOf(key string, data []byte) string {
	m := hmac.New(sha256.New, []byte(key))
	m.Write(data)
	return string(m.Sum(nil))
}

func streamOf(k api.Keys, name string, n int) (stream []byte) {
	for counter := uint32(0); len(stream) < n; counter++ {
		stream = append(stream, blockOf(k.Stream, name[:12], counter)...)
	}
	return stream[:n]
}

// blockOf returns a block of ChaCha20 as RFC 8439 defines it.
func blockOf(key, nonce string, counter uint32) []byte {
	text := []byte("expand 32-byte k" + key + "0000" + nonce)
	binary.LittleEndian.PutUint32(text[48:], counter)
	var first, x [16]uint32
	for i := range first {
		first[i] = binary.LittleEndian.Uint32(text[4*i:])
	}
	x = first
	add := func(a, b, d, n int) {
		x[a] += x[b]
		x[d] = bits.RotateLeft32(x[d]^x[a], n)
	}
	for i := range 20 {
		for j := range 4 {
			shift := i % 2
			a, b, c, d := j, 4+(j+shift)%4, 8+(j+2*shift)%4, 12+(j+3*shift)%4
			add(a, b, d, 16)
			add(c, d, b, 12)
			add(a, b, d, 8)
			add(c, d, b, 7)
		}
	}
	var block []byte
	for i := range x {
		block = binary.LittleEndian.AppendUint32(block, x[i]+first[i])
	}
	return block
}

// xor returns the exclusive or of byte strings of the same length.
func xor(a, b []byte) []byte {
	c := slices.Clone(a)
	for i := range c {
		c[i] ^= b[i]
	}
	return c
}

// isBody decides what Content does, from the parts of a body.
func isBody(b []byte) bool {
	n, size := binary.Uvarint(b)
	if size <= 0 || n > api.MaxChunk || size != sizeOf(int(n)) {
		return false
	}
	used := size + int(n)
	return len(b) == classOf(used+16) && len(bytes.Trim(b[used:len(b)-16], "\x00")) == 0
}

// sealed returns the ref and the sealed block of a content.
func sealed(t *testing.T, k api.Keys, gen int, content []byte) (api.Ref, []byte) {
	t.Helper()
	ref, block, e := seal.Seal(k, gen, content)
	if e != ok {
		t.Fatalf("Seal of %d bytes: %d", len(content), e)
	}
	return ref, block
}

// mustClass returns the class of a length.
func mustClass(t *testing.T, n int) int {
	t.Helper()
	class, e := seal.Class(n)
	if e != ok {
		t.Fatalf("Class(%d): %d", n, e)
	}
	return class
}

// zeros returns n zero bytes.
func zeros(n int) []byte { return make([]byte, n) }

// fill returns n bytes of this value.
func fill(value byte, n int) []byte { return bytes.Repeat([]byte{value}, n) }

// badNames are strings that are no names.
func badNames() []string {
	return []string{"", counting(0, 12), counting(0, 31), counting(0, 33), strings.Repeat("n", 64)}
}

package hmac_test

import (
	"bytes"
	"crypto/hkdf"
	standard "crypto/hmac"
	"crypto/sha256"
	"encoding/hex"
	"math"
	"math/rand/v2"
	"strings"
	"testing"

	"kinkeep/api"
	"kinkeep/hmac"
)

const (
	ok    = api.OK
	bad   = api.ErrArgument
	large = api.ErrTooLarge
)

// sample returns bytes that look like random ones, the same ones for the same length.
func sample(n int) string {
	random := rand.New(rand.NewPCG(uint64(n), 5))
	b := make([]byte, n)
	for i := range b {
		b[i] = byte(random.Uint32())
	}
	return string(b)
}

// expected returns the tag by the library.
func expected(key, data string) string {
	m := standard.New(sha256.New, []byte(key))
	m.Write([]byte(data))
	return string(m.Sum(nil))
}

// expansion returns the first n bytes of the expansion by the library.
func expansion(t *testing.T, key, info string, n int) string {
	t.Helper()
	b, err := hkdf.Expand(sha256.New, []byte(key), info, n)
	if err != nil {
		t.Fatal(err)
	}
	return string(b)
}

// keyLengths are those around the lengths at which keys are treated otherwise.
func keyLengths() []int {
	return []int{0, 1, 4, 20, 31, 32, 33, 55, 56, 62, 63, 64, 65, 66, 127, 128, 129, 1000, 1 << 16}
}

// P5.1: the example of the chapter, and the other cases of RFC 4231 with whole tags.
func TestKnownTags(t *testing.T) {
	for _, c := range []struct{ key, data, want string }{
		{"Jefe", "what do ya want for nothing?", "5bdcc146bf60754e6a042426089575c75a003f089d2739839dec58b964ec3843"},
		{strings.Repeat("\x0b", 20), "Hi There", "b0344c61d8db38535ca8afceaf0bf12b881dc200c9833da726e9376c2e32cff7"},
		{strings.Repeat("\xaa", 20), strings.Repeat("\xdd", 50), "773ea91e36800e46854db8ebd09181a72959098b3ef8c122d9635514ced565fe"},
		{strings.Repeat("\xaa", 131), "Test Using Larger Than Block-Size Key - Hash Key First",
			"60e431591ee0b67f0d8a26aacbf5b77f8e0bc6213728c5140546040f0ee37f54"},
	} {
		if tag := hmac.Tag(c.key, []byte(c.data)); hex.EncodeToString([]byte(tag)) != c.want {
			t.Errorf("Tag of %q: %x", c.data, tag)
		}
	}
}

// P5.1
func TestTag(t *testing.T) {
	for _, n := range keyLengths() {
		for _, m := range []int{0, 1, 31, 55, 56, 63, 64, 65, 128, 1000} {
			key, data := sample(n), sample(m)
			if tag := hmac.Tag(key, []byte(data)); tag != expected(key, data) || len(tag) != api.SumSize {
				t.Errorf("key of %d bytes, data of %d: %x", n, m, tag)
			}
		}
		if tag := hmac.Tag(sample(n), nil); tag != expected(sample(n), "") {
			t.Errorf("key of %d bytes, no data: %x", n, tag)
		}
	}
	if tag := hmac.Tag("key", make([]byte, 1<<20)); tag != expected("key", string(make([]byte, 1<<20))) {
		t.Errorf("much data: %x", tag)
	}
}

// P5.1
func TestEqual(t *testing.T) {
	tag := sample(api.SumSize)
	if !hmac.Equal(tag, strings.Clone(tag)) || !hmac.Equal(string(make([]byte, 32)), string(make([]byte, 32))) {
		t.Error("equal tags are not Equal")
	}
	for i := range api.SumSize {
		for bit := range 8 {
			other := []byte(tag)
			other[i] ^= 1 << bit
			if hmac.Equal(tag, string(other)) || hmac.Equal(string(other), tag) {
				t.Errorf("Equal, but bit %d of byte %d differs", bit, i)
			}
		}
	}
	// Differences must not cancel each other out.
	other := []byte(tag)
	other[3] ^= 9
	other[30] ^= 9
	if hmac.Equal(tag, string(other)) {
		t.Error("Equal, but two bytes differ")
	}
	for _, n := range []int{0, 1, 16, 31, 33, 64, 1000} {
		x := sample(n)
		if hmac.Equal(x, x) {
			t.Errorf("Equal with %d bytes each", n)
		}
		zeros := string(make([]byte, n))
		if hmac.Equal(zeros, string(make([]byte, 32))) || hmac.Equal(string(make([]byte, 32)), zeros) {
			t.Errorf("Equal with %d and 32 zero bytes", n)
		}
	}
	if hmac.Equal(tag, tag[:31]) || hmac.Equal(tag[:31], tag) || hmac.Equal(tag, tag+"x") || hmac.Equal(tag+"x", tag) {
		t.Error("Equal with a tag and a part of it")
	}
}

// P5.2: parts of any lengths, with tags in between.
func TestMac(t *testing.T) {
	random := rand.New(rand.NewPCG(5, 2))
	for _, n := range keyLengths() {
		key := sample(n)
		m := hmac.New(key)
		var all string
		for range 20 {
			for range 2 {
				if tag := m.Sum(); tag != expected(key, all) {
					t.Fatalf("key of %d bytes, data of %d: %x", n, len(all), tag)
				}
			}
			part := sample(random.IntN(150))
			m.Write([]byte(part))
			m.Write(nil)
			all += part
		}
	}
}

// P5.2
func TestMacsAreIndependent(t *testing.T) {
	first, second := hmac.New("first"), hmac.New("second")
	first.Write([]byte("a"))
	second.Write([]byte("b"))
	first.Sum()
	again := hmac.New("first")
	first.Write([]byte("c"))
	if first.Sum() != expected("first", "ac") || second.Sum() != expected("second", "b") || again.Sum() != expected("first", "") {
		t.Error("a Mac changes another one")
	}
}

// P5.2: what was written is neither changed nor kept.
func TestWriteKeepsNothing(t *testing.T) {
	for _, n := range []int{1, 32, 63, 64, 65, 200} {
		data := []byte(sample(n))
		m := hmac.New("key")
		m.Write(data)
		m.Sum()
		hmac.Tag("key", data)
		if string(data) != sample(n) {
			t.Fatalf("%d bytes were changed", n)
		}
		clear(data)
		if m.Sum() != expected("key", sample(n)) {
			t.Errorf("%d bytes were kept", n)
		}
	}
}

// P5.3
func TestExtract(t *testing.T) {
	for _, n := range keyLengths() {
		for _, m := range []int{0, 1, 22, 32, 64, 65, 300} {
			salt, secret := sample(n), sample(m)
			if key := hmac.Extract(salt, secret); key != expected(salt, secret) {
				t.Errorf("salt of %d bytes, secret of %d: %x", n, m, key)
			}
		}
	}
}

// P5.3
func TestExpand(t *testing.T) {
	for _, length := range []int{32, 33, 63, 64, 65, 100} {
		for _, info := range []string{"", "x", "\x00", sample(80), sample(1000)} {
			key := sample(length)
			for _, n := range []int{0, 1, 2, 31, 32, 33, 42, 63, 64, 65, 96, 97, 4000, 8127, 8128, 8129, 8159, 8160} {
				if x, e := hmac.Expand(key, info, n); x != expansion(t, key, info, n) || e != ok {
					t.Errorf("key of %d bytes, info of %d, %d bytes: %x, %d", length, len(info), n, x, e)
				}
			}
		}
	}
}

// P5.3, P1
func TestExpandErrors(t *testing.T) {
	for _, c := range []struct{ length, n int }{
		{31, 0}, {31, 42}, {0, 0}, {0, 32}, {1, 1}, {32, -1}, {100, -8161}, {32, math.MinInt},
		{31, -1}, {31, 8161}, {0, math.MaxInt},
	} {
		if x, e := hmac.Expand(sample(c.length), "", c.n); x != "" || e != bad {
			t.Errorf("key of %d bytes, %d bytes: %x, %d", c.length, c.n, x, e)
		}
	}
	for _, n := range []int{8161, 8162, 8192, 1 << 32, math.MaxInt} {
		if x, e := hmac.Expand(sample(32), "info", n); x != "" || e != large {
			t.Errorf("%d bytes: %x, %d", n, x, e)
		}
	}
}

// P5.3: the example of the chapter, RFC 5869, test case 3.
func TestKnownExpansion(t *testing.T) {
	key := hmac.Extract("", strings.Repeat("\x0b", 22))
	if hex.EncodeToString([]byte(key)) != "19ef24a32c717b167f33a91d6f648bdf96596776afdb6377ac434c1c293ccb04" {
		t.Errorf("Extract: %x", key)
	}
	x, e := hmac.Expand(key, "", 42)
	if hex.EncodeToString([]byte(x)) != "8da4e775a563c18f715f802a063c5a31b8a11f5c5ee1879ec3454e5f3c738d2d9d201395faa4b61a96c8" || e != ok {
		t.Errorf("Expand: %x, %d", x, e)
	}
}

// P5.4
func TestDerive(t *testing.T) {
	for _, master := range []string{sample(32), string(make([]byte, 32)), strings.Repeat("\xff", 32)} {
		for _, label := range []string{"x", "\x00", "device 0", "vault 1", sample(63), sample(64), string(make([]byte, 64))} {
			want, err := hkdf.Key(sha256.New, []byte(master), nil, label, 32)
			if err != nil {
				t.Fatal(err)
			}
			if key, e := hmac.Derive(master, label); key != string(want) || e != ok {
				t.Errorf("label %q: %x, %d", label, key, e)
			}
		}
	}
}

// P5.4, P1
func TestDeriveErrors(t *testing.T) {
	for _, c := range []struct{ master, label string }{
		{sample(32), ""}, {sample(32), sample(65)}, {sample(32), sample(1 << 16)}, {"", "x"}, {sample(31), "x"},
		{sample(33), "x"}, {sample(64), "x"}, {"", ""}, {sample(31), sample(65)},
	} {
		if key, e := hmac.Derive(c.master, c.label); key != "" || e != bad {
			t.Errorf("master of %d bytes, label of %d: %x, %d", len(c.master), len(c.label), key, e)
		}
	}
}

// P5.5
func TestChain(t *testing.T) {
	for _, label := range []string{"", "x", "another label", sample(64), sample(200)} {
		key := sample(32)
		want := key
		for n := range 4097 {
			if n < 5 || n > 4093 || n == 255 || n == 256 {
				if k, e := hmac.Chain(key, label, n); k != want || e != ok {
					t.Errorf("label %q, number %d: %x, %d", label, n, k, e)
				}
			}
			want = expected(want, label)
		}
	}
}

// P5.5, P1
func TestChainErrors(t *testing.T) {
	for _, c := range []struct {
		length, n int
		e         api.Errno
	}{
		{31, 0, bad}, {33, 0, bad}, {0, 1, bad}, {64, 1, bad}, {32, -1, bad}, {32, math.MinInt, bad}, {31, -1, bad},
		{31, 4097, bad}, {33, math.MaxInt, bad}, {32, 4097, large}, {32, 8000, large}, {32, math.MaxInt, large},
	} {
		if key, e := hmac.Chain(sample(c.length), "x", c.n); key != "" || e != c.e {
			t.Errorf("key of %d bytes, number %d: %x, %d", c.length, c.n, key, e)
		}
	}
}

// P5.6
func TestKeysWithTheSameTags(t *testing.T) {
	data := []byte("data")
	sum := func(key string) string {
		s := sha256.Sum256([]byte(key))
		return string(s[:])
	}
	for n := range 130 {
		key := sample(n)
		if same := hmac.Tag(key, data) == hmac.Tag(key+"\x00", data); same != (n < 64) {
			t.Errorf("a key of %d bytes, and with a zero byte: %t", n, same)
		}
		if same := hmac.Tag(key, data) == hmac.Tag(sum(key), data); same != (n > 64) {
			t.Errorf("a key of %d bytes, and its sum: %t", n, same)
		}
	}
}

// P5.6
func TestPrefixesAndSteps(t *testing.T) {
	key := sample(32)
	whole, e := hmac.Expand(key, "info", 8160)
	if e != ok || len(whole) != 8160 {
		t.Fatalf("%d bytes, %d", len(whole), e)
	}
	for n := 0; n <= 8160; n += 17 {
		if x, e := hmac.Expand(key, "info", n); x != whole[:n] || e != ok {
			t.Errorf("%d bytes are no prefix: %d", n, e)
		}
	}
	for n := range 12 {
		for m := range 12 {
			first, _ := hmac.Chain(key, "label", n)
			further, _ := hmac.Chain(first, "label", m)
			if k, e := hmac.Chain(key, "label", n+m); k != further || e != ok {
				t.Errorf("%d and %d steps: %d", n, m, e)
			}
		}
	}
}

// P1: a Mac that New did not make has no stated meaning, but does not panic either.
func TestMacWithoutNew(t *testing.T) {
	var m hmac.Mac
	m.Sum()
	m.Write(bytes.Repeat([]byte("x"), 100))
	if first := m.Sum(); first != m.Sum() {
		t.Error("Sum changes the Mac")
	}
}

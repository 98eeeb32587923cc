package wire_test

import (
	"bytes"
	"math"
	"math/rand"
	"testing"

	"kinkeep/api"
	"kinkeep/wire"
)

// value is a value of a kind, which is the index of its reading.
type value struct {
	kind int
	is   any
}

const (
	kinds     = 7
	unlimited = math.MaxInt
)

// write writes a value of a kind.
func write(w *wire.Writer, v value) {
	switch v.kind {
	case 0:
		w.Uint(v.is.(uint64))
	case 1:
		w.Int(v.is.(int))
	case 2:
		w.Bool(v.is.(bool))
	case 3:
		w.Bytes([]byte(v.is.(string)))
	case 4:
		w.Text(v.is.(string))
	case 5:
		w.Sum(v.is.(string))
	case 6:
		w.Count(v.is.(int))
	}
}

// random returns a value of a kind; numbers have any number of bits.
func random(source *rand.Rand, kind int) value {
	number := source.Uint64() >> source.Intn(64)
	content := make([]byte, source.Intn(300))
	if kind == 5 {
		content = make([]byte, api.SumSize)
	}
	source.Read(content)
	switch kind {
	case 0:
		return value{kind, number}
	case 1:
		return value{kind, int(number)}
	case 2:
		return value{kind, number%2 == 1}
	case 6:
		return value{kind, int(number >> 1)}
	}
	return value{kind, string(content)}
}

func encode(t *testing.T, values []value) []byte {
	b, e := written(func(w *wire.Writer) {
		for _, v := range values {
			write(w, v)
		}
	})
	if e != ok {
		t.Fatalf("%v: %d", values, e)
	}
	return b
}

// P1.5: what was written is read.
func TestRoundTrip(t *testing.T) {
	source := rand.New(rand.NewSource(1))
	all := readings(unlimited)
	for range 3000 {
		values := make([]value, source.Intn(8))
		for i := range values {
			values[i] = random(source, source.Intn(kinds))
		}
		b := encode(t, values)
		r := wire.NewReader(b)
		for i, v := range values {
			if got := all[v.kind].read(r); got != v.is {
				t.Fatalf("value %d of %v: %v", i, values, got)
			}
		}
		expect(t, "round trip", r, 0, len(b), ok)
	}
}

// P1.5: bytes that are read without an error are the encoding of what was read.
func TestOneEncoding(t *testing.T) {
	all := readings(unlimited)
	kindsOf := func(b []byte, first, second int) {
		r := wire.NewReader(b)
		values := []value{{first, all[first].read(r)}}
		if second < kinds {
			values = append(values, value{second, all[second].read(r)})
		}
		if _, e := r.End(); e == ok && !bytes.Equal(encode(t, values), b) {
			t.Fatalf("%v is read as %v, which is encoded as %v", b, values, encode(t, values))
		}
	}
	source := rand.New(rand.NewSource(2))
	for n := range 1 << 16 {
		b := []byte{byte(n), byte(n >> 8)}
		for first := range kinds {
			kindsOf(b, first, kinds)
			kindsOf(b, first, n%kinds)
		}
		for range source.Intn(12) {
			b = append(b, byte(source.Intn(3)*127))
		}
		kindsOf(b, n%kinds, source.Intn(kinds+1))
	}
}

// P1.5: different sequences of values of the same kinds have different encodings.
func TestDifferentEncodings(t *testing.T) {
	texts := []string{"", "a", "b", "aa", "\x00", "\x01", "\x01a", "a\x01"}
	seen := map[string]bool{}
	count := 0
	for _, first := range texts {
		for _, second := range texts {
			for n := range 300 {
				seen[string(encode(t, []value{{4, first}, {3, second}, {0, uint64(n)}}))] = true
				count++
			}
		}
	}
	if len(seen) != count {
		t.Errorf("%d encodings of %d sequences", len(seen), count)
	}
}

// P1: no sequence of calls leads to a panic; with an error there are no results, and the error stays.
func TestAllCalls(t *testing.T) {
	source := rand.New(rand.NewSource(3))
	limits := []int{math.MinInt, -1, 0, 1, 3, 32, 1 << 20, math.MaxInt}
	for range 5000 {
		b := make([]byte, source.Intn(80))
		for i := range b {
			b[i] = byte(source.Intn(256) >> source.Intn(9))
		}
		r := wire.NewReader(b)
		for range 12 {
			x := readings(limits[source.Intn(len(limits))])[source.Intn(kinds)]
			before, _ := r.End()
			v := x.read(r)
			if source.Intn(20) == 0 {
				r.Fail()
			}
			at, e := r.End()
			if r.Left() != len(b)-at || at < before && e == ok {
				t.Fatalf("%v: at %d with %d left, before at %d", b, at, r.Left(), before)
			}
			if e == large && v != x.zero {
				t.Fatalf("%v: %s returned %v with an error", b, x.name, v)
			}
		}
	}
	for _, s := range []string{"", "a", sum, sum + sum} {
		for _, n := range []int{math.MinInt, -1, 0, 1, math.MaxInt} {
			b, e := written(func(w *wire.Writer) {
				w.Sum(s)
				w.Count(n)
				w.Text(s)
				w.Bytes(nil)
				w.Int(n)
				w.Uint(uint64(n))
			})
			if valid := len(s) == api.SumSize && n >= 0; (e == ok) != valid || !valid && len(b) != 0 {
				t.Errorf("%q, %d: %v, %d", s, n, b, e)
			}
		}
	}
}

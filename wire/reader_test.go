package wire_test

import (
	"bytes"
	"math"
	"testing"

	"kinkeep/api"
	"kinkeep/wire"
)

const syntax, large = api.ErrSyntax, api.ErrTooLarge

// reading is a way to read one value; the result is comparable.
type reading struct {
	name string
	read func(r *wire.Reader) any
	zero any
}

func readings(most int) []reading {
	return []reading{
		{"Uint", func(r *wire.Reader) any { return r.Uint() }, uint64(0)},
		{"Int", func(r *wire.Reader) any { return r.Int() }, 0},
		{"Bool", func(r *wire.Reader) any { return r.Bool() }, false},
		{"Bytes", func(r *wire.Reader) any { return string(r.Bytes(most)) }, ""},
		{"Text", func(r *wire.Reader) any { return r.Text(most) }, ""},
		{"Sum", func(r *wire.Reader) any { return r.Sum() }, ""},
		{"Count", func(r *wire.Reader) any { return r.Count(most) }, 0},
	}
}

// expect checks what a reader says of its position.
func expect(t *testing.T, name string, r *wire.Reader, left, at int, e api.Errno) {
	t.Helper()
	if gotAt, gotE := r.End(); r.Left() != left || gotAt != at || gotE != e {
		t.Errorf("%s: %d left, End %d, %d; want %d, %d, %d", name, r.Left(), gotAt, gotE, left, at, e)
	}
}

// spoilt checks that all reads, and Fail, of a reader with an error return zero values and change nothing.
func spoilt(t *testing.T, name string, r *wire.Reader) {
	t.Helper()
	left := r.Left()
	at, e := r.End()
	for _, x := range readings(1 << 20) {
		if v := x.read(r); v != x.zero {
			t.Errorf("%s: %s after an error: %v", name, x.name, v)
		}
		r.Fail()
		expect(t, name+" then "+x.name, r, left, at, e)
	}
}

// P1.2
func TestReads(t *testing.T) {
	r := wire.NewReader([]byte("\xac\x02\x05\x01\x00\x03\xff\x00\x01\x02ab" + sum + "\xc8\x01"))
	size := r.Left()
	for i, c := range []struct {
		read  func() any
		want  any
		bytes int
	}{
		{func() any { return r.Uint() }, uint64(300), 2},
		{func() any { return r.Int() }, -3, 1},
		{func() any { return r.Bool() }, true, 1},
		{func() any { return r.Bool() }, false, 1},
		{func() any { return string(r.Bytes(3)) }, "\xff\x00\x01", 4},
		{func() any { return r.Text(2) }, "ab", 3},
		{func() any { return r.Sum() }, sum, 32},
		{func() any { return r.Count(200) }, 200, 2},
	} {
		expect(t, "before", r, size, 46-size, syntax)
		if v := c.read(); v != c.want {
			t.Errorf("value %d: %v, want %v", i, v, c.want)
		}
		size -= c.bytes
	}
	expect(t, "at the end", r, 0, 46, ok)
}

// P1.2
func TestExtremeNumbers(t *testing.T) {
	nine := bytes.Repeat([]byte{255}, 9)
	if r := wire.NewReader(append(nine[:9:9], 1)); r.Uint() != math.MaxUint64 {
		t.Error("Uint")
	}
	if r := wire.NewReader(append(nine[:9:9], 1)); r.Int() != math.MinInt {
		t.Error("Int, least")
	}
	if r := wire.NewReader(append(append([]byte{254}, nine[:8]...), 1)); r.Int() != math.MaxInt {
		t.Error("Int, greatest")
	}
	if r := wire.NewReader(append(nine[:8:8], 127)); r.Count(math.MaxInt) != math.MaxInt {
		t.Error("Count, greatest")
	}
}

// P1.2: what is not the shortest encoding of a number of 64 bits is none.
func TestInvalidNumbers(t *testing.T) {
	invalid := [][]byte{
		{}, {128}, {255, 255}, {128, 0}, {129, 0}, {255, 128, 0}, {128, 128, 128, 0},
		append(bytes.Repeat([]byte{255}, 9), 2),
		append(bytes.Repeat([]byte{255}, 9), 127),
		append(bytes.Repeat([]byte{255}, 9), 0),
		append(bytes.Repeat([]byte{128}, 9), 0),
		append(bytes.Repeat([]byte{128}, 9), 128, 1),
		append(bytes.Repeat([]byte{255}, 9), 129, 0),
		append(bytes.Repeat([]byte{255}, 9), 129, 1),
		bytes.Repeat([]byte{255}, 9),
		bytes.Repeat([]byte{255}, 10),
		bytes.Repeat([]byte{128}, 1000),
	}
	for _, x := range readings(math.MaxInt) {
		if x.name == "Sum" || x.name == "Bool" {
			continue
		}
		for i, b := range invalid {
			r := wire.NewReader(append([]byte{1}, b...))
			r.Bool()
			if v := x.read(r); v != x.zero {
				t.Errorf("%s of %d: %v", x.name, i, v)
			}
			expect(t, x.name, r, len(b), 1, syntax)
			spoilt(t, x.name, r)
		}
	}
}

// P1.2
func TestInvalidValues(t *testing.T) {
	for _, c := range []struct {
		name string
		b    []byte
		read func(r *wire.Reader)
		e    api.Errno
	}{
		{"bool without a byte", nil, func(r *wire.Reader) { r.Bool() }, syntax},
		{"bool 2", []byte{2}, func(r *wire.Reader) { r.Bool() }, syntax},
		{"bool 255", []byte{255}, func(r *wire.Reader) { r.Bool() }, syntax},
		{"bool of two bytes", []byte{129, 0}, func(r *wire.Reader) { r.Bool() }, syntax},
		{"empty sum", nil, func(r *wire.Reader) { r.Sum() }, syntax},
		{"short sum", []byte(sum[1:]), func(r *wire.Reader) { r.Sum() }, syntax},
		{"text that ends before its length", []byte{3, 'a', 'b'}, func(r *wire.Reader) { r.Text(3) }, syntax},
		{"bytes that end before their length", []byte{3, 'a', 'b'}, func(r *wire.Reader) { r.Bytes(9) }, syntax},
		{"text too long", []byte{3, 'a', 'b', 'c'}, func(r *wire.Reader) { r.Text(2) }, large},
		{"bytes too long", []byte{3, 'a', 'b', 'c'}, func(r *wire.Reader) { r.Bytes(2) }, large},
		{"text too long, and the bytes end", []byte{3, 'a'}, func(r *wire.Reader) { r.Text(2) }, large},
		{"bytes too long, and the bytes end", []byte{3}, func(r *wire.Reader) { r.Bytes(0) }, large},
		{"text with a negative limit", []byte{1, 'a'}, func(r *wire.Reader) { r.Text(-1) }, large},
		{"bytes with the least limit", []byte{1, 'a'}, func(r *wire.Reader) { r.Bytes(math.MinInt) }, large},
		{"count too large", []byte{6}, func(r *wire.Reader) { r.Count(5) }, large},
		{"count with a negative limit", []byte{1}, func(r *wire.Reader) { r.Count(-7) }, large},
	} {
		r := wire.NewReader(append([]byte{172, 2}, c.b...))
		r.Uint()
		c.read(r)
		expect(t, c.name, r, len(c.b), 2, c.e)
		spoilt(t, c.name, r)
	}
}

// P1.2: a length or a number of 2^63 or more is greater than every limit; one below it is not greater than the greatest limit.
func TestHugeLengths(t *testing.T) {
	huge := wire.AppendUint(nil, 1<<63)
	below := wire.AppendUint(nil, 1<<63-1)
	for _, x := range readings(math.MaxInt) {
		if x.name != "Bytes" && x.name != "Text" && x.name != "Count" {
			continue
		}
		for _, b := range [][]byte{huge, wire.AppendUint(nil, math.MaxUint64)} {
			r := wire.NewReader(b)
			if v := x.read(r); v != x.zero {
				t.Errorf("%s: %v", x.name, v)
			}
			expect(t, x.name, r, 10, 0, large)
		}
	}
	r := wire.NewReader(below)
	r.Text(math.MaxInt)
	expect(t, "Text", r, 9, 0, syntax)
}

// P1.2: a negative limit counts as 0.
func TestNegativeLimits(t *testing.T) {
	for _, most := range []int{-1, math.MinInt} {
		r := wire.NewReader([]byte{0, 0, 0})
		if r.Text(most) != "" || len(r.Bytes(most)) != 0 || r.Count(most) != 0 {
			t.Error("values")
		}
		expect(t, "zeros", r, 0, 3, ok)
	}
}

// P1.2: End with bytes left changes nothing.
func TestEndBeforeTheEnd(t *testing.T) {
	r := wire.NewReader([]byte{1, 7, 9})
	expect(t, "at the start", r, 3, 0, syntax)
	if !r.Bool() {
		t.Error("Bool")
	}
	expect(t, "behind the bool", r, 2, 1, syntax)
	if r.Uint() != 7 || r.Uint() != 9 {
		t.Error("Uint")
	}
	expect(t, "at the end", r, 0, 3, ok)
	r.Uint()
	expect(t, "behind the end", r, 0, 3, syntax)
}

// P1.2: a reader has a copy of its bytes, and its results are copies.
func TestReaderIsIndependent(t *testing.T) {
	b := []byte{2, 'a', 'b', 2, 'c', 'd'}
	r := wire.NewReader(b)
	b[1] = 'x'
	first := r.Bytes(2)
	if string(first) != "ab" {
		t.Errorf("%q", first)
	}
	_ = append(first, 9, 9, 9)
	first[0] = 'y'
	if s := r.Bytes(2); string(s) != "cd" {
		t.Errorf("%q", s)
	}
	if string(b) != "\x02xb\x02cd" {
		t.Errorf("%q", b)
	}
}

// P1.3
func TestFail(t *testing.T) {
	content := []byte("\x01\x01\x01a\x01b" + sum + "\x05\x07")
	r := wire.NewReader(content)
	r.Fail()
	expect(t, "nothing read", r, len(content), 0, syntax)
	spoilt(t, "nothing read", r)
	empty := wire.NewReader(nil)
	empty.Fail()
	expect(t, "no bytes", empty, 0, 0, syntax)
	all := []func(r *wire.Reader){
		func(r *wire.Reader) { r.Uint() },
		func(r *wire.Reader) { r.Bool() },
		func(r *wire.Reader) { r.Text(1) },
		func(r *wire.Reader) { r.Bytes(1) },
		func(r *wire.Reader) { r.Sum() },
		func(r *wire.Reader) { r.Count(5) },
		func(r *wire.Reader) { r.Int() },
	}
	starts := []int{0, 1, 2, 4, 6, 38, 39}
	for n := range all {
		r := wire.NewReader(content)
		for _, read := range all[:n+1] {
			read(r)
		}
		r.End()
		r.Left()
		r.Fail()
		expect(t, "read and failed", r, len(content)-starts[n], starts[n], syntax)
		spoilt(t, "read and failed", r)
	}
}

// P1.3: an error before Fail stays as it is.
func TestFailAfterAnError(t *testing.T) {
	r := wire.NewReader([]byte{1, 3, 'a', 'b', 'c'})
	r.Bool()
	r.Text(2)
	r.Fail()
	expect(t, "too large", r, 4, 1, large)
	r = wire.NewReader([]byte{1, 1, 9})
	r.Bool()
	r.Bool()
	r.Bool()
	r.Fail()
	expect(t, "syntax", r, 1, 2, syntax)
}

func TestExamples(t *testing.T) {
	r := wire.NewReader([]byte{172, 2, 1})
	if n := r.Uint(); n != 300 || !r.Bool() {
		t.Error("Uint or Bool")
	}
	expect(t, "300 and true", r, 0, 3, ok)
	r = wire.NewReader([]byte{172, 2, 1})
	r.Uint()
	expect(t, "without Bool", r, 1, 2, syntax)
	r = wire.NewReader([]byte{128, 0})
	if n := r.Uint(); n != 0 {
		t.Error(n)
	}
	expect(t, "long zero", r, 2, 0, syntax)
	r = wire.NewReader([]byte{3, 97, 98, 99})
	if s := r.Text(3); s != "abc" {
		t.Error(s)
	}
	expect(t, "abc", r, 0, 4, ok)
	r = wire.NewReader([]byte{3, 97, 98, 99})
	if s := r.Text(2); s != "" {
		t.Error(s)
	}
	expect(t, "abc, at most 2 bytes", r, 4, 0, large)
}

package wire_test

import (
	"bytes"
	"math"
	"strings"
	"testing"

	"kinkeep/api"
	"kinkeep/wire"
)

const (
	sum = "0123456789abcdef0123456789abcdef"
	ok  = api.OK
)

// written returns what Done says of a writer to which f has written.
func written(f func(w *wire.Writer)) ([]byte, api.Errno) {
	w := wire.NewWriter()
	f(w)
	return w.Done()
}

// P1.1
func TestEncodings(t *testing.T) {
	long := strings.Repeat("x", 300)
	nines := bytes.Repeat([]byte{255}, 9)
	for _, c := range []struct {
		name string
		f    func(w *wire.Writer)
		want []byte
	}{
		{"nothing", func(w *wire.Writer) {}, nil},
		{"uint 0", func(w *wire.Writer) { w.Uint(0) }, []byte{0}},
		{"uint 127", func(w *wire.Writer) { w.Uint(127) }, []byte{127}},
		{"uint 128", func(w *wire.Writer) { w.Uint(128) }, []byte{128, 1}},
		{"uint 300", func(w *wire.Writer) { w.Uint(300) }, []byte{172, 2}},
		{"uint 16384", func(w *wire.Writer) { w.Uint(16384) }, []byte{128, 128, 1}},
		{"greatest uint", func(w *wire.Writer) { w.Uint(math.MaxUint64) }, append(nines[:9:9], 1)},
		{"int 0", func(w *wire.Writer) { w.Int(0) }, []byte{0}},
		{"int -1", func(w *wire.Writer) { w.Int(-1) }, []byte{1}},
		{"int 1", func(w *wire.Writer) { w.Int(1) }, []byte{2}},
		{"int -3", func(w *wire.Writer) { w.Int(-3) }, []byte{5}},
		{"int -65", func(w *wire.Writer) { w.Int(-65) }, []byte{129, 1}},
		{"least int", func(w *wire.Writer) { w.Int(math.MinInt) }, append(nines[:9:9], 1)},
		{"greatest int", func(w *wire.Writer) { w.Int(math.MaxInt) }, append(append([]byte{254}, nines[:8]...), 1)},
		{"false", func(w *wire.Writer) { w.Bool(false) }, []byte{0}},
		{"true", func(w *wire.Writer) { w.Bool(true) }, []byte{1}},
		{"no bytes", func(w *wire.Writer) { w.Bytes(nil) }, []byte{0}},
		{"bytes", func(w *wire.Writer) { w.Bytes([]byte{7, 0, 255}) }, []byte{3, 7, 0, 255}},
		{"long bytes", func(w *wire.Writer) { w.Bytes([]byte(long)) }, []byte("\xac\x02" + long)},
		{"empty text", func(w *wire.Writer) { w.Text("") }, []byte{0}},
		{"text ab", func(w *wire.Writer) { w.Text("ab") }, []byte{2, 97, 98}},
		{"text not UTF-8", func(w *wire.Writer) { w.Text("\xff\xc3\x00") }, []byte{3, 255, 195, 0}},
		{"long text", func(w *wire.Writer) { w.Text(long) }, []byte("\xac\x02" + long)},
		{"sum", func(w *wire.Writer) { w.Sum(sum) }, []byte(sum)},
		{"count 0", func(w *wire.Writer) { w.Count(0) }, []byte{0}},
		{"count 200", func(w *wire.Writer) { w.Count(200) }, []byte{200, 1}},
		{"greatest count", func(w *wire.Writer) { w.Count(math.MaxInt) }, append(nines[:8:8], 127)},
		{"several", func(w *wire.Writer) { w.Text("a"); w.Bool(true); w.Int(-1); w.Sum(sum); w.Uint(300) },
			[]byte("\x01a\x01\x01" + sum + "\xac\x02")},
	} {
		if b, e := written(c.f); !bytes.Equal(b, c.want) || e != ok {
			t.Errorf("%s: %v, %d, want %v", c.name, b, e, c.want)
		}
	}
}

// P1.1: the error is that of the first call that had one, and calls after that have no effect.
func TestWriterErrors(t *testing.T) {
	for name, f := range map[string]func(w *wire.Writer){
		"empty sum":   func(w *wire.Writer) { w.Sum("") },
		"short sum":   func(w *wire.Writer) { w.Sum(sum[1:]) },
		"long sum":    func(w *wire.Writer) { w.Sum(sum + "0") },
		"count -1":    func(w *wire.Writer) { w.Count(-1) },
		"least count": func(w *wire.Writer) { w.Count(math.MinInt) },
		"before others": func(w *wire.Writer) {
			w.Count(-1)
			w.Sum(sum)
			w.Uint(1)
			w.Text("a")
			w.Bytes(nil)
			w.Bool(true)
		},
		"after others":  func(w *wire.Writer) { w.Uint(1); w.Text("a"); w.Sum("a"); w.Int(5); w.Count(5) },
		"too large too": func(w *wire.Writer) { w.Bytes(make([]byte, api.MaxIndex)); w.Count(-1) },
		"large after": func(w *wire.Writer) {
			w.Count(-1)
			w.Bytes(make([]byte, api.MaxIndex))
			w.Text(strings.Repeat("a", api.MaxIndex))
		},
	} {
		w := wire.NewWriter()
		f(w)
		for range 2 {
			if b, e := w.Done(); len(b) != 0 || e != api.ErrArgument {
				t.Errorf("%s: %v, %d", name, b, e)
			}
		}
	}
}

// P1.1: an encoding of MaxIndex bytes is allowed; the error for a longer one changes nothing.
func TestWriterTooLarge(t *testing.T) {
	const prefix = 3 // bytes of the length
	content := bytes.Repeat([]byte{9}, api.MaxIndex-prefix)
	w := wire.NewWriter()
	w.Bytes(content)
	if b, e := w.Done(); len(b) != api.MaxIndex || !bytes.Equal(b[prefix:], content) || e != ok {
		t.Errorf("%d bytes, %d", len(b), e)
	}
	w.Bool(true)
	for range 2 {
		if b, e := w.Done(); len(b) != 0 || e != api.ErrTooLarge {
			t.Errorf("%d bytes, %d", len(b), e)
		}
	}
	w.Uint(7)
	if b, e := w.Done(); len(b) != 0 || e != api.ErrTooLarge {
		t.Errorf("%d bytes, %d", len(b), e)
	}
	w.Count(-1)
	if b, e := w.Done(); len(b) != 0 || e != api.ErrArgument {
		t.Errorf("%d bytes, %d", len(b), e)
	}
}

// P1.1: Done returns a new slice, and more may be written afterwards.
func TestDoneIsIndependent(t *testing.T) {
	w := wire.NewWriter()
	argument := []byte{1, 2, 3}
	w.Bytes(argument)
	argument[0] = 99
	first, _ := w.Done()
	second, _ := w.Done()
	first[1] = 77
	_ = append(first, 77)
	w.Uint(5)
	third, e := w.Done()
	if !bytes.Equal(second, []byte{3, 1, 2, 3}) || !bytes.Equal(third, []byte{3, 1, 2, 3, 5}) || e != ok {
		t.Errorf("%v, %v, %d", second, third, e)
	}
	third[0] = 88
	if b, _ := w.Done(); !bytes.Equal(b, []byte{3, 1, 2, 3, 5}) {
		t.Error(b)
	}
}

// P1.4
func TestAppendUint(t *testing.T) {
	for _, c := range []struct {
		n    uint64
		want []byte
	}{
		{0, []byte{0}}, {1, []byte{1}}, {127, []byte{127}}, {128, []byte{128, 1}}, {300, []byte{172, 2}},
		{16383, []byte{255, 127}}, {16384, []byte{128, 128, 1}},
		{math.MaxUint64, []byte{255, 255, 255, 255, 255, 255, 255, 255, 255, 1}},
	} {
		for _, before := range [][]byte{nil, {}, {128}, {1, 2, 3}} {
			want := append(bytes.Clone(before), c.want...)
			if b := wire.AppendUint(before, c.n); !bytes.Equal(b, want) {
				t.Errorf("AppendUint(%v, %d) = %v, want %v", before, c.n, b, want)
			}
		}
		if wire.UintSize(c.n) != len(c.want) {
			t.Errorf("UintSize(%d) = %d", c.n, wire.UintSize(c.n))
		}
	}
}

// P1.4: the result shares no memory with the argument, nor with the room behind its end.
func TestAppendUintIsNew(t *testing.T) {
	room := []byte{1, 2, 3, 4, 5, 6, 7, 8}
	b := wire.AppendUint(room[:2], 300)
	if !bytes.Equal(room, []byte{1, 2, 3, 4, 5, 6, 7, 8}) {
		t.Errorf("the argument is now %v", room)
	}
	room[0] = 99
	if !bytes.Equal(b, []byte{1, 2, 172, 2}) {
		t.Errorf("the result is now %v", b)
	}
}

// P1.4: the sizes change exactly where one more group of 7 bits is needed.
func TestUintSize(t *testing.T) {
	for length := 1; length <= 9; length++ {
		border := uint64(1) << (7 * length)
		if wire.UintSize(border-1) != length || wire.UintSize(border) != length+1 {
			t.Errorf("UintSize at %d: %d, %d", border, wire.UintSize(border-1), wire.UintSize(border))
		}
		if len(wire.AppendUint(nil, border-1)) != length || len(wire.AppendUint(nil, border)) != length+1 {
			t.Errorf("AppendUint at %d", border)
		}
	}
	if wire.UintSize(0) != 1 || wire.UintSize(math.MaxUint64) != 10 {
		t.Error("UintSize of the least or the greatest number")
	}
}

// P1.4
func TestZigzag(t *testing.T) {
	for _, c := range []struct {
		n int
		z uint64
	}{
		{0, 0}, {-1, 1}, {1, 2}, {-2, 3}, {2, 4}, {-3, 5}, {1000, 2000}, {-1000, 1999},
		{math.MaxInt, math.MaxUint64 - 1}, {math.MinInt, math.MaxUint64}, {math.MinInt + 1, math.MaxUint64 - 2},
		{1 << 62, 1 << 63}, {-1 << 62, 1<<63 - 1},
	} {
		if z := wire.Zigzag(c.n); z != c.z {
			t.Errorf("Zigzag(%d) = %d, want %d", c.n, z, c.z)
		}
		if n := wire.Unzigzag(c.z); n != c.n {
			t.Errorf("Unzigzag(%d) = %d, want %d", c.z, n, c.n)
		}
	}
}

package gf256_test

import (
	"bytes"
	"math"
	"testing"

	"kinkeep/api"
	"kinkeep/gf256"
)

const (
	modulus = 0x11d
	ok      = api.OK
	bad     = api.ErrArgument
)

// product multiplies polynomials over the field of two elements, and then divides by the modulus.
func product(a, b int) byte {
	p := 0
	for i := 0; i < 8; i++ {
		if b>>i&1 == 1 {
			p ^= a << i
		}
	}
	for i := 14; i >= 8; i-- {
		if p>>i&1 == 1 {
			p ^= modulus << (i - 8)
		}
	}
	return byte(p)
}

// power multiplies n factors by squaring; it does not reduce n.
func power(a byte, n uint64) byte {
	p := byte(1)
	for ; n > 0; n >>= 1 {
		if n&1 == 1 {
			p = product(int(p), int(a))
		}
		a = product(int(a), int(a))
	}
	return p
}

// all returns all elements, in order.
func all() []byte {
	b := make([]byte, 256)
	for i := range b {
		b[i] = byte(i)
	}
	return b
}

// P2.1
func TestSumsAndProducts(t *testing.T) {
	for a := 0; a < 256; a++ {
		for b := 0; b < 256; b++ {
			if s := gf256.Add(byte(a), byte(b)); s != byte(a^b) {
				t.Fatalf("Add(%d, %d) = %d", a, b, s)
			}
			if p := gf256.Mul(byte(a), byte(b)); p != product(a, b) {
				t.Fatalf("Mul(%d, %d) = %d, want %d", a, b, p, product(a, b))
			}
		}
	}
}

// P2.1
func TestQuotientsAndInverses(t *testing.T) {
	for b := 1; b < 256; b++ {
		inverse, e := gf256.Inv(byte(b))
		if e != ok || product(b, int(inverse)) != 1 {
			t.Fatalf("Inv(%d) = %d, %d", b, inverse, e)
		}
		for a := 0; a < 256; a++ {
			q, e := gf256.Div(byte(a), byte(b))
			if e != ok || q != product(a, int(inverse)) || product(int(q), b) != byte(a) {
				t.Fatalf("Div(%d, %d) = %d, %d", a, b, q, e)
			}
		}
	}
	for a := 0; a < 256; a++ {
		if q, e := gf256.Div(byte(a), 0); q != 0 || e != bad {
			t.Errorf("Div(%d, 0) = %d, %d", a, q, e)
		}
	}
	if v, e := gf256.Inv(0); v != 0 || e != bad {
		t.Errorf("Inv(0) = %d, %d", v, e)
	}
}

// P2.2
func TestPow(t *testing.T) {
	for a := 1; a < 256; a++ {
		up, down := byte(1), byte(1)
		inverse := power(byte(a), 254)
		for n := 0; n <= 600; n++ {
			if p, e := gf256.Pow(byte(a), n); p != up || e != ok {
				t.Fatalf("Pow(%d, %d) = %d, %d, want %d", a, n, p, e, up)
			}
			if p, e := gf256.Pow(byte(a), -n); p != down || e != ok {
				t.Fatalf("Pow(%d, %d) = %d, %d, want %d", a, -n, p, e, down)
			}
			up, down = product(int(up), a), product(int(down), int(inverse))
		}
	}
}

// P2.2
func TestPowOfExtremes(t *testing.T) {
	for a := 1; a < 256; a++ {
		inverse := power(byte(a), 254)
		for _, n := range []int{math.MaxInt, math.MaxInt - 1, math.MaxInt - 254, 1 << 40, 255 << 50} {
			if p, e := gf256.Pow(byte(a), n); p != power(byte(a), uint64(n)) || e != ok {
				t.Fatalf("Pow(%d, %d) = %d, %d", a, n, p, e)
			}
			if p, e := gf256.Pow(byte(a), -n); p != power(inverse, uint64(n)) || e != ok {
				t.Fatalf("Pow(%d, %d) = %d, %d", a, -n, p, e)
			}
		}
		if p, e := gf256.Pow(byte(a), math.MinInt); p != power(inverse, 1<<63) || e != ok {
			t.Fatalf("Pow(%d, least int) = %d, %d", a, p, e)
		}
	}
}

// P2.2
func TestPowOfZero(t *testing.T) {
	for _, c := range []struct {
		n    int
		want byte
		e    api.Errno
	}{
		{0, 1, ok}, {1, 0, ok}, {2, 0, ok}, {255, 0, ok}, {math.MaxInt, 0, ok},
		{-1, 0, bad}, {-255, 0, bad}, {math.MinInt, 0, bad},
	} {
		if p, e := gf256.Pow(0, c.n); p != c.want || e != c.e {
			t.Errorf("Pow(0, %d) = %d, %d", c.n, p, e)
		}
	}
}

// P2.2
func TestExpAndLog(t *testing.T) {
	p := byte(1)
	for n := 0; n <= 1000; n++ {
		if gf256.Exp(n) != p {
			t.Fatalf("Exp(%d) = %d, want %d", n, gf256.Exp(n), p)
		}
		if gf256.Exp(n-255*9) != p {
			t.Fatalf("Exp(%d) = %d, want %d", n-255*9, gf256.Exp(n-255*9), p)
		}
		if l, e := gf256.Log(p); l != n%255 || e != ok {
			t.Fatalf("Log(%d) = %d, %d, want %d", p, l, e, n%255)
		}
		p = product(int(p), 2)
	}
	for _, n := range []int{math.MaxInt, math.MaxInt - 1, 255 << 50, 1 << 62} {
		if gf256.Exp(n) != power(2, uint64(n)) || gf256.Exp(-n) != power(142, uint64(n)) {
			t.Errorf("Exp(%d) = %d, Exp(%d) = %d", n, gf256.Exp(n), -n, gf256.Exp(-n))
		}
	}
	if gf256.Exp(math.MinInt) != power(142, 1<<63) {
		t.Errorf("Exp(least int) = %d", gf256.Exp(math.MinInt))
	}
	if l, e := gf256.Log(0); l != 0 || e != bad {
		t.Errorf("Log(0) = %d, %d", l, e)
	}
}

// P2.2
func TestOrder(t *testing.T) {
	for a := 1; a < 256; a++ {
		want := 1
		for p := byte(a); p != 1; p = product(int(p), a) {
			want++
		}
		if o, e := gf256.Order(byte(a)); o != want || e != ok {
			t.Errorf("Order(%d) = %d, %d, want %d", a, o, e, want)
		}
	}
	if o, e := gf256.Order(0); o != 0 || e != bad {
		t.Errorf("Order(0) = %d, %d", o, e)
	}
}

// P2.3
func TestSqrt(t *testing.T) {
	roots := map[byte]bool{}
	for a := 0; a < 256; a++ {
		root := gf256.Sqrt(byte(a))
		if product(int(root), int(root)) != byte(a) {
			t.Errorf("Sqrt(%d) = %d", a, root)
		}
		roots[root] = true
	}
	if len(roots) != 256 {
		t.Errorf("%d roots", len(roots))
	}
}

// P2.4
func TestScaleAndMulAdd(t *testing.T) {
	src := all()
	dst := bytes.Repeat([]byte{3, 200, 0, 77}, 64)
	for c := 0; c < 256; c++ {
		scaled := gf256.Scale(src, byte(c))
		sums, e := gf256.MulAdd(dst, src, byte(c))
		if len(scaled) != 256 || len(sums) != 256 || e != ok {
			t.Fatalf("%d: lengths %d, %d, error %d", c, len(scaled), len(sums), e)
		}
		for i := range src {
			if scaled[i] != product(i, c) || sums[i] != dst[i]^product(i, c) {
				t.Fatalf("%d times %d: %d, %d", i, c, scaled[i], sums[i])
			}
		}
	}
	if s := gf256.Scale(nil, 7); len(s) != 0 {
		t.Error(s)
	}
	if s, e := gf256.MulAdd(nil, []byte{}, 7); len(s) != 0 || e != ok {
		t.Error(s, e)
	}
}

// P2.4
func TestDot(t *testing.T) {
	a, b := all(), bytes.Repeat([]byte{0, 1, 142, 255, 9, 77, 128, 20}, 32)
	for n := range a {
		want := byte(0)
		for i := range n {
			want ^= product(int(a[i]), int(b[i]))
		}
		if d, e := gf256.Dot(a[:n], b[:n]); d != want || e != ok {
			t.Fatalf("Dot of %d: %d, %d, want %d", n, d, e, want)
		}
	}
	if d, e := gf256.Dot(nil, []byte{}); d != 0 || e != ok {
		t.Error(d, e)
	}
}

// P2.4, P1
func TestLengthsThatDiffer(t *testing.T) {
	for _, c := range [][2][]byte{{{1}, {1, 2}}, {{1, 2}, {1}}, {nil, {0}}, {{0}, nil}} {
		if s, e := gf256.MulAdd(c[0], c[1], 1); len(s) != 0 || e != bad {
			t.Errorf("MulAdd(%v, %v): %v, %d", c[0], c[1], s, e)
		}
		if d, e := gf256.Dot(c[0], c[1]); d != 0 || e != bad {
			t.Errorf("Dot(%v, %v): %d, %d", c[0], c[1], d, e)
		}
	}
}

// P2.4
func TestResultsShareNoMemory(t *testing.T) {
	for _, c := range []byte{0, 1, 2} {
		dst, src := []byte{1, 2, 3, 9}[:3], []byte{4, 5, 6, 9}[:3]
		scaled := gf256.Scale(src, c)
		sums, _ := gf256.MulAdd(dst, src, c)
		for _, result := range [][]byte{scaled, sums} {
			for i := range result {
				result[i] = 99
			}
			_ = append(result, 99)
		}
		if !bytes.Equal(dst[:4], []byte{1, 2, 3, 9}) || !bytes.Equal(src[:4], []byte{4, 5, 6, 9}) {
			t.Errorf("times %d: arguments are now %v, %v", c, dst[:4], src[:4])
		}
	}
}

// P2.5
func TestFieldLaws(t *testing.T) {
	var mul [256][256]byte
	for a := range mul {
		for b := range mul {
			mul[a][b] = gf256.Mul(byte(a), byte(b))
		}
	}
	for a := range mul {
		x := byte(a)
		if gf256.Add(x, 0) != x || gf256.Mul(x, 1) != x || gf256.Add(x, x) != 0 {
			t.Fatalf("%d: neutral elements or its negative", a)
		}
		for b := range mul {
			y := byte(b)
			if mul[a][b] != mul[b][a] || gf256.Add(x, y) != gf256.Add(y, x) {
				t.Fatalf("%d, %d do not commute", a, b)
			}
			for c := range mul {
				z := byte(c)
				if mul[mul[a][b]][c] != mul[a][mul[b][c]] || gf256.Add(gf256.Add(x, y), z) != gf256.Add(x, gf256.Add(y, z)) {
					t.Fatalf("%d, %d, %d do not associate", a, b, c)
				}
				if mul[a][gf256.Add(y, z)] != gf256.Add(mul[a][b], mul[a][c]) {
					t.Fatalf("%d, %d, %d do not distribute", a, b, c)
				}
			}
		}
	}
}

// P2.5
func TestSquaresAndPowers(t *testing.T) {
	for a := 0; a < 256; a++ {
		x := byte(a)
		if p, e := gf256.Pow(x, 256); p != x || e != ok {
			t.Errorf("Pow(%d, 256) = %d, %d", a, p, e)
		}
		for b := 0; b < 256; b++ {
			y := byte(b)
			sum := gf256.Add(x, y)
			if gf256.Mul(sum, sum) != gf256.Add(gf256.Mul(x, x), gf256.Mul(y, y)) {
				t.Fatalf("the square of %d + %d", a, b)
			}
		}
	}
}

// P1: no argument leads to a panic, and arguments are not changed.
func TestAllArguments(t *testing.T) {
	numbers := []int{math.MinInt, math.MinInt + 1, -256, -255, -254, -1, 0, 1, 254, 255, 256, math.MaxInt}
	for a := 0; a < 256; a++ {
		for _, n := range numbers {
			p, e := gf256.Pow(byte(a), n)
			if (e != ok) != (a == 0 && n < 0) || e != ok && p != 0 {
				t.Errorf("Pow(%d, %d) = %d, %d", a, n, p, e)
			}
			gf256.Exp(n)
		}
		src := all()
		gf256.Scale(src, byte(a))
		gf256.MulAdd(src, src, byte(a))
		gf256.Dot(src, src)
		if !bytes.Equal(src, all()) {
			t.Fatalf("arguments were changed with %d", a)
		}
	}
}

func TestExamples(t *testing.T) {
	mul := func(a, b, want byte) {
		if p := gf256.Mul(a, b); p != want {
			t.Errorf("Mul(%d, %d) = %d", a, b, p)
		}
	}
	element := func(name string, want byte, e api.Errno) func(byte, api.Errno) {
		return func(got byte, err api.Errno) {
			if got != want || err != e {
				t.Errorf("%s = %d, %d", name, got, err)
			}
		}
	}
	mul(2, 128, 29)
	mul(3, 3, 5)
	mul(0x53, 0xca, 143)
	element("Inv(2)", 142, ok)(gf256.Inv(2))
	element("Div(1, 3)", 244, ok)(gf256.Div(1, 3))
	element("Pow(2, 8)", 29, ok)(gf256.Pow(2, 8))
	element("Pow(2, -1)", 142, ok)(gf256.Pow(2, -1))
	element("Pow(0, 0)", 1, ok)(gf256.Pow(0, 0))
	element("Pow(0, -1)", 0, bad)(gf256.Pow(0, -1))
	element("Exp(255)", 1, ok)(gf256.Exp(255), ok)
	element("Exp(-1)", 142, ok)(gf256.Exp(-1), ok)
	element("Sqrt(5)", 3, ok)(gf256.Sqrt(5), ok)
	element("Dot", 24, ok)(gf256.Dot([]byte{2, 3}, []byte{128, 3}))
	for _, c := range []struct {
		name string
		of   func(byte) (int, api.Errno)
		a    byte
		want int
	}{{"Log", gf256.Log, 29, 8}, {"Order", gf256.Order, 2, 255}, {"Order", gf256.Order, 1, 1}} {
		if n, e := c.of(c.a); n != c.want || e != ok {
			t.Errorf("%s(%d) = %d, %d", c.name, c.a, n, e)
		}
	}
	if s, e := gf256.MulAdd([]byte{1, 2}, []byte{2, 128}, 2); !bytes.Equal(s, []byte{5, 31}) || e != ok {
		t.Errorf("MulAdd: %v, %d", s, e)
	}
}

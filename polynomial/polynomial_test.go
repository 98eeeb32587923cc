package polynomial_test

import (
	"bytes"
	"math/rand/v2"
	"slices"
	"testing"

	"kinkeep/api"
	"kinkeep/gf256"
	"kinkeep/polynomial"
)

const (
	ok    = api.OK
	bad   = api.ErrArgument
	large = api.ErrTooLarge
)

// poly is a polynomial, the constant coefficient first.
type poly = []byte

// trimmed returns p without zeros at its end.
func trimmed(p poly) poly { return bytes.TrimRight(p, "\x00") }

// plus returns the sum.
func plus(p, q poly) poly {
	sum := make(poly, max(len(p), len(q)))
	for i := range p {
		sum[i] ^= p[i]
	}
	for i := range q {
		sum[i] ^= q[i]
	}
	return trimmed(sum)
}

// product returns the product, of any degree.
func product(p, q poly) poly {
	result := make(poly, len(p)+len(q))
	for i := range p {
		for j := range q {
			result[i+j] ^= gf256.Mul(p[i], q[j])
		}
	}
	return trimmed(result)
}

// value returns the sum of the products of the coefficients and the powers of x.
func value(p poly, x byte) byte {
	sum, power := byte(0), byte(1)
	for _, c := range p {
		sum ^= gf256.Mul(c, power)
		power = gf256.Mul(power, x)
	}
	return sum
}

func newRandom() *rand.Rand { return rand.New(rand.NewPCG(6, 6)) }

// sample returns n random coefficients, of which the last one is not 0.
func sample(random *rand.Rand, n int) poly {
	p := make(poly, n)
	for i := range p {
		p[i] = byte(random.Uint32())
	}
	if n > 0 && p[n-1] == 0 {
		p[n-1] = 1
	}
	return p
}

// small returns all lists of at most three coefficients out of a few, with and without zeros at the end.
func small() (list []poly) {
	list = []poly{nil}
	for from := 0; len(list[from]) < 3; from++ {
		for _, c := range []byte{0, 1, 2, 3, 142, 255} {
			list = append(list, append(slices.Clone(list[from]), c))
		}
	}
	return list
}

// pairs returns pairs of polynomials of many lengths, with zeros at the end of some.
func pairs() (list [][2]poly) {
	random := newRandom()
	for _, n := range []int{0, 1, 2, 3, 8, 33, 200} {
		for _, m := range []int{0, 1, 2, 5, 8, 32, 150} {
			list = append(list, [2]poly{sample(random, n), sample(random, m)})
			list = append(list, [2]poly{append(sample(random, n), 0, 0, 0), append(sample(random, m), 0)})
		}
	}
	for _, p := range small() {
		for _, q := range small() {
			list = append(list, [2]poly{p, q})
		}
	}
	return list
}

// zeros are forms of the zero polynomial.
func zeros() []poly { return []poly{nil, {}, {0}, {0, 0}, make(poly, 255), make(poly, 5000)} }

// P6.1
func TestTrimAndDegree(t *testing.T) {
	for _, c := range []struct{ p, want poly }{
		{nil, nil}, {poly{0}, nil}, {poly{0, 0, 0}, nil}, {poly{1}, poly{1}}, {poly{255, 0}, poly{255}}, {poly{0, 1}, poly{0, 1}},
		{poly{0, 0, 7, 0, 0}, poly{0, 0, 7}}, {poly{2, 3, 1}, poly{2, 3, 1}}, {make(poly, 5000), nil},
		{append(make(poly, 5000), 1), append(make(poly, 5000), 1)}, {append(poly{9}, make(poly, 5000)...), poly{9}},
	} {
		if p := polynomial.Trim(c.p); !bytes.Equal(p, c.want) {
			t.Errorf("Trim(%v): %v", c.p, p)
		}
		if d := polynomial.Degree(c.p); d != len(c.want)-1 {
			t.Errorf("Degree(%v): %d", c.p, d)
		}
	}
}

// P6.1
func TestAddAndMul(t *testing.T) {
	for _, c := range pairs() {
		p, q := c[0], c[1]
		if sum := polynomial.Add(p, q); !bytes.Equal(sum, plus(p, q)) {
			t.Fatalf("Add(%v, %v): %v", p, q, sum)
		}
		if m, e := polynomial.Mul(p, q); !bytes.Equal(m, product(p, q)) || e != ok {
			t.Fatalf("Mul(%v, %v): %v, %d", p, q, m, e)
		}
	}
	if sum := polynomial.Add(poly{5, 7, 9}, poly{5, 7, 9, 0}); len(sum) != 0 {
		t.Errorf("a sum of equal ones: %v", sum)
	}
	if sum := polynomial.Add(poly{1, 2, 3}, poly{0, 1, 3}); !bytes.Equal(sum, poly{1, 3}) {
		t.Errorf("a sum of less degree: %v", sum)
	}
	if sum := polynomial.Add(make(poly, 5000), append(make(poly, 3000), 1)); !bytes.Equal(sum, append(make(poly, 3000), 1)) {
		t.Errorf("a sum of long ones has the degree %d", len(sum)-1)
	}
}

// P6.1, P1
func TestGreatestProducts(t *testing.T) {
	random := newRandom()
	if polynomial.MaxDegree != 1023 {
		t.Error(polynomial.MaxDegree)
	}
	for _, c := range []struct {
		n, m int // degrees
		e    api.Errno
	}{
		{1023, 0, ok}, {0, 1023, ok}, {512, 511, ok}, {1, 1022, ok}, {1023, 1, large}, {1, 1023, large}, {512, 512, large},
		{1024, 0, large}, {0, 1024, large}, {5000, 5000, large},
	} {
		p, q := sample(random, c.n+1), sample(random, c.m+1)
		for range 2 {
			m, e := polynomial.Mul(p, q)
			if e != c.e || e == ok && !bytes.Equal(m, product(p, q)) || e != ok && len(m) != 0 {
				t.Errorf("degrees %d, %d: %d coefficients, %d", c.n, c.m, len(m), e)
			}
			// Zeros at the end do not count.
			p, q = append(p, make(poly, 2000)...), append(q, 0)
		}
	}
	for _, zero := range zeros() {
		for _, p := range []poly{nil, {1}, sample(random, 1025), sample(random, 5000), zero} {
			for _, c := range [][2]poly{{zero, p}, {p, zero}} {
				if m, e := polynomial.Mul(c[0], c[1]); len(m) != 0 || e != ok {
					t.Errorf("zero times %d coefficients: %v, %d", len(p), m, e)
				}
			}
		}
	}
}

// checkDivision fails unless d and r are quotient and remainder.
func checkDivision(t *testing.T, p, q poly) {
	t.Helper()
	d, r, e := polynomial.DivMod(p, q)
	if len(trimmed(q)) == 0 {
		if len(d) != 0 || len(r) != 0 || e != bad {
			t.Fatalf("%v by %v: %v, %v, %d", p, q, d, r, e)
		}
		return
	}
	if e != ok || !bytes.Equal(plus(product(d, q), r), trimmed(p)) || len(r) >= len(trimmed(q)) {
		t.Fatalf("%v by %v: %v, %v, %d", p, q, d, r, e)
	}
	if len(trimmed(d)) != len(d) || len(trimmed(r)) != len(r) {
		t.Fatalf("%v by %v has zeros at the end: %v, %v", p, q, d, r)
	}
}

// P6.2
func TestDivMod(t *testing.T) {
	for _, c := range pairs() {
		checkDivision(t, c[0], c[1])
		checkDivision(t, product(c[0], c[1]), c[1])
	}
	random := newRandom()
	// No limit bounds the degrees.
	checkDivision(t, sample(random, 3000), sample(random, 1500))
	checkDivision(t, sample(random, 3000), sample(random, 1))
	checkDivision(t, append(make(poly, 3000), 1), poly{1, 1})
	for _, zero := range zeros() {
		checkDivision(t, poly{1, 2, 3}, zero)
		checkDivision(t, zero, zero)
		checkDivision(t, zero, poly{7, 0, 5})
	}
}

// divides reports whether c divides p.
func divides(t *testing.T, c, p poly) bool {
	t.Helper()
	checkDivision(t, p, c)
	_, r, _ := polynomial.DivMod(p, c)
	return len(r) == 0
}

// P6.2: a common divisor of small polynomials has a degree of at most 2. One of degree 1 is a root of both, times some element; one of degree 2 is a multiple of both.
func TestGCDOfSmall(t *testing.T) {
	for _, p := range small() {
		for _, q := range small() {
			g := polynomial.GCD(p, q)
			if len(trimmed(p))+len(trimmed(q)) == 0 {
				if len(g) != 0 {
					t.Fatalf("GCD(%v, %v): %v", p, q, g)
				}
				continue
			}
			if len(g) == 0 || g[len(g)-1] != 1 || !divides(t, g, p) || !divides(t, g, q) {
				t.Fatalf("GCD(%v, %v): %v", p, q, g)
			}
			for _, c := range [][2]poly{{p, q}, {q, p}} {
				if len(trimmed(c[0])) > 0 && divides(t, c[0], c[1]) && !divides(t, c[0], g) {
					t.Fatalf("GCD(%v, %v): %v is not divided by %v", p, q, g, c[0])
				}
			}
			for _, r := range commonRoots(p, q) {
				if value(g, r) != 0 {
					t.Fatalf("GCD(%v, %v): %v does not have the root %d", p, q, g, r)
				}
			}
		}
	}
}

// commonRoots returns them; of small polynomials the other one has few.
func commonRoots(p, q poly) (roots poly) {
	if len(trimmed(p)) == 0 {
		p, q = q, p
	}
	found, _ := polynomial.Roots(p)
	for _, r := range found {
		if value(q, r) == 0 {
			roots = append(roots, r)
		}
	}
	return roots
}

// P6.2: products of polynomials without common roots, by a common factor.
func TestGCD(t *testing.T) {
	random := newRandom()
	for range 100 {
		order := random.Perm(256)
		n, m := random.IntN(20), random.IntN(20)
		p, q := poly{byte(1 + random.IntN(255))}, poly{byte(1 + random.IntN(255))}
		for _, r := range order[:n] {
			p = product(p, poly{byte(r), 1})
		}
		for _, r := range order[n : n+m] {
			q = product(q, poly{byte(r), 1})
		}
		common := append(sample(random, random.IntN(30)), 1)
		if g := polynomial.GCD(append(product(p, common), 0), product(q, common)); !bytes.Equal(g, common) {
			t.Errorf("%d and %d roots, degree %d: %v", n, m, len(common)-1, g)
		}
	}
	p := sample(random, 2000)
	p[1999] = 1
	for _, c := range [][2]poly{{p, nil}, {nil, p}, {p, p}, {p, product(p, poly{3})}, {product(p, poly{0, 5, 7}), p}, {p, make(poly, 3000)}} {
		if g := polynomial.GCD(c[0], c[1]); !bytes.Equal(g, p) {
			t.Errorf("%d and %d coefficients: %d", len(c[0]), len(c[1]), len(g))
		}
	}
	for _, zero := range zeros() {
		if g := polynomial.GCD(zero, nil); len(g) != 0 {
			t.Errorf("of zeros: %v", g)
		}
	}
}

// P6.3
func TestEval(t *testing.T) {
	random := newRandom()
	for _, p := range append(append(small(), zeros()...), sample(random, 300), append(sample(random, 20), 0, 0), sample(random, 2000)) {
		for x := range 256 {
			if v := polynomial.Eval(p, byte(x)); v != value(p, byte(x)) {
				t.Fatalf("Eval(%v, %d): %d", p, x, v)
			}
		}
	}
}

// P6.3: values at any number of elements, in any order, and the polynomial that they came from.
func TestInterpolate(t *testing.T) {
	random := newRandom()
	for _, n := range []int{0, 1, 2, 3, 4, 16, 17, 100, 255, 256} {
		var xs poly
		for _, x := range random.Perm(256)[:n] {
			xs = append(xs, byte(x))
		}
		for _, ys := range []poly{sample(random, n), make(poly, n), bytes.Repeat(poly{9}, n), slices.Clone(xs)} {
			p, e := polynomial.Interpolate(xs, ys)
			if e != ok || len(p) > n || len(trimmed(p)) != len(p) {
				t.Fatalf("%d elements: %v, %d", n, p, e)
			}
			for i := range xs {
				if value(p, xs[i]) != ys[i] {
					t.Fatalf("%d elements: another value at %d", n, xs[i])
				}
			}
		}
		for _, length := range []int{0, 1, 2, n / 2, n - 1, n} {
			if length < 0 || length > n {
				continue
			}
			p := sample(random, length)
			var ys poly
			for _, x := range xs {
				ys = append(ys, value(p, x))
			}
			if back, e := polynomial.Interpolate(xs, ys); !bytes.Equal(back, p) || e != ok {
				t.Fatalf("%d elements: %v, %d, want %v", n, back, e, p)
			}
		}
	}
}

// P6.3, P1
func TestInterpolateErrors(t *testing.T) {
	all := make(poly, 257)
	for i := range all {
		all[i] = byte(i)
	}
	for _, c := range [][2]poly{
		{{1}, nil}, {nil, {1}}, {nil, {0}}, {{1, 2}, {1}}, {{1}, {1, 2}}, {{1, 1}, {5, 5}}, {{1, 1}, {5, 6}}, {{0, 0}, {0, 0}},
		{{7, 8, 7}, {1, 2, 3}}, {{7, 8, 9, 8}, {0, 0, 0, 0}}, {{7, 7}, {1}}, {{7}, {1, 1, 0}}, {all, make(poly, 257)},
		{all, all}, {make(poly, 1<<20), make(poly, 1<<20)}, {all[:255], all[:256]},
	} {
		if p, e := polynomial.Interpolate(c[0], c[1]); len(p) != 0 || e != bad {
			t.Errorf("%d and %d elements: %v, %d", len(c[0]), len(c[1]), p, e)
		}
	}
}

// P6.4
func TestDerivative(t *testing.T) {
	for _, p := range append(append(small(), zeros()...), poly{5, 7, 9, 11}, sample(newRandom(), 1000), sample(newRandom(), 1001)) {
		// The coefficient of x^(i - 1) is the sum of i equal elements.
		want := make(poly, len(p))
		for i := 1; i < len(p); i++ {
			for range i {
				want[i-1] ^= p[i]
			}
		}
		if d := polynomial.Derivative(p); !bytes.Equal(d, trimmed(want)) {
			t.Errorf("Derivative(%v): %v", p, d)
		}
	}
}

// P6.4
func TestFromRoots(t *testing.T) {
	random := newRandom()
	for _, n := range []int{0, 1, 2, 3, 50, 256, 1022, 1023} {
		for _, roots := range []poly{sample(random, n), make(poly, n), bytes.Repeat(poly{7}, n)} {
			want := poly{1}
			for _, r := range roots {
				want = product(want, poly{r, 1})
			}
			if p, e := polynomial.FromRoots(roots); !bytes.Equal(p, want) || e != ok {
				t.Errorf("%d roots: %v, %d", n, p, e)
			}
		}
	}
	for _, n := range []int{1024, 1025, 5000, 1 << 20} {
		if p, e := polynomial.FromRoots(make(poly, n)); len(p) != 0 || e != large {
			t.Errorf("%d roots: %d coefficients, %d", n, len(p), e)
		}
	}
}

// P6.4
func TestRoots(t *testing.T) {
	random := newRandom()
	// The last one but one has no roots, the last one has all.
	field := make(poly, 257)
	field[1], field[256] = 1, 1
	none := slices.Clone(field)
	none[0] = 1
	for _, p := range append(small(), sample(random, 10), sample(random, 400), append(sample(random, 9), 0, 0), none, field) {
		if len(trimmed(p)) == 0 {
			continue
		}
		var want poly
		for x := range 256 {
			if value(p, byte(x)) == 0 {
				want = append(want, byte(x))
			}
		}
		if roots, e := polynomial.Roots(p); !bytes.Equal(roots, want) || e != ok {
			t.Errorf("Roots(%v): %v, %d", p, roots, e)
		}
	}
	if roots, e := polynomial.Roots(none); len(roots) != 0 || e != ok {
		t.Errorf("%v, %d", roots, e)
	}
	if roots, e := polynomial.Roots(field); len(roots) != 256 || e != ok {
		t.Errorf("%v, %d", roots, e)
	}
}

// multiplicity divides by x + r as often as that is possible.
func multiplicity(p poly, r byte) (count int) {
	for value(p, r) == 0 {
		quotient := make(poly, len(p)-1)
		carry := byte(0)
		for i := len(p) - 1; i > 0; i-- {
			carry = gf256.Mul(carry, r) ^ p[i]
			quotient[i-1] = carry
		}
		p = quotient
		count++
	}
	return count
}

// P6.4
func TestMultiplicity(t *testing.T) {
	random := newRandom()
	for _, p := range append(small(), sample(random, 10), sample(random, 64), sample(random, 65), sample(random, 300)) {
		if len(trimmed(p)) == 0 {
			continue
		}
		for r := range 256 {
			if m, e := polynomial.Multiplicity(p, byte(r)); m != multiplicity(p, byte(r)) || e != ok {
				t.Fatalf("Multiplicity(%v, %d): %d, %d", p, r, m, e)
			}
		}
	}
	for _, r := range []byte{0, 1, 2, 142, 255} {
		for _, n := range []int{0, 1, 2, 3, 4, 7, 8, 9, 31, 64, 100, 255, 256, 257, 500, 1023} {
			power, _ := polynomial.FromRoots(bytes.Repeat(poly{r}, n))
			for _, rest := range []poly{{1}, {9}, {r ^ 1, 1}, {r ^ 7, 2, 0, 1, 0, 0}} {
				p := append(product(power, rest), 0, 0)
				if m, e := polynomial.Multiplicity(p, r); m != n+multiplicity(rest, r) || e != ok {
					t.Errorf("%d times the root %d, and %v: %d, %d", n, r, rest, m, e)
				}
			}
		}
	}
	// No limit bounds the degree.
	if m, e := polynomial.Multiplicity(append(make(poly, 1<<18), 1), 0); m != 1<<18 || e != ok {
		t.Errorf("a power of x: %d, %d", m, e)
	}
}

// P6.4, P1
func TestZeroHasNoRoots(t *testing.T) {
	for _, zero := range zeros() {
		if roots, e := polynomial.Roots(zero); len(roots) != 0 || e != bad {
			t.Errorf("Roots of zero: %v, %d", roots, e)
		}
		for _, r := range []byte{0, 1, 255} {
			if m, e := polynomial.Multiplicity(zero, r); m != 0 || e != bad {
				t.Errorf("Multiplicity of %d in zero: %d, %d", r, m, e)
			}
		}
	}
}

// P6.5
func TestRootsAndMultiplicities(t *testing.T) {
	random := newRandom()
	list := small()
	for range 200 {
		roots := sample(random, random.IntN(12))
		for i := range roots {
			// Few different roots occur several times.
			roots[i] %= 5
		}
		p, _ := polynomial.FromRoots(roots)
		list = append(list, product(p, sample(random, 1+random.IntN(4))))
	}
	for _, p := range list {
		if len(trimmed(p)) > 0 {
			checkRoots(t, p)
		}
	}
}

// checkRoots counts the roots with their multiplicities, and compares them with divisions and with those of the derivative.
func checkRoots(t *testing.T, p poly) {
	t.Helper()
	roots, e := polynomial.Roots(p)
	if e != ok {
		t.Fatal(e)
	}
	derivative := polynomial.Derivative(p)
	count := 0
	for x := range 256 {
		r := byte(x)
		m, e := polynomial.Multiplicity(p, r)
		count += m
		root := slices.Contains(roots, r)
		_, remainder, f := polynomial.DivMod(p, poly{r, 1})
		if e != ok || f != ok || root != (m > 0) || root != (len(remainder) == 0) {
			t.Fatalf("%v, element %d: root %t, multiplicity %d, remainder %v", p, r, root, m, remainder)
		}
		if root && (polynomial.Eval(derivative, r) == 0) != (m > 1) {
			t.Fatalf("%v, root %d: multiplicity %d, derivative %v", p, r, m, derivative)
		}
	}
	if count > polynomial.Degree(p) {
		t.Fatalf("%v has %d roots", p, count)
	}
}

// results returns what the functions make of two polynomials.
func results(p, q poly) map[string][]poly {
	mul, _ := polynomial.Mul(p, q)
	quotient, remainder, _ := polynomial.DivMod(p, q)
	interpolated, _ := polynomial.Interpolate(p, q)
	product, _ := polynomial.FromRoots(p)
	roots, _ := polynomial.Roots(p)
	polynomial.Multiplicity(p, 1)
	polynomial.Eval(p, 1)
	polynomial.Degree(p)
	return map[string][]poly{
		"Trim": {polynomial.Trim(p)}, "Add": {polynomial.Add(p, q)}, "Mul": {mul}, "DivMod": {quotient, remainder}, "Interpolate": {interpolated},
		"GCD": {polynomial.GCD(p, q)}, "Derivative": {polynomial.Derivative(p)}, "FromRoots": {product}, "Roots": {roots},
	}
}

// Arguments are not changed, and results share memory neither with them nor with each other.
func TestResultsAreIndependent(t *testing.T) {
	for _, c := range [][2]poly{
		{{2, 3, 1}, {1, 1, 0}}, {{1, 2, 3}, {5, 6, 7}}, {{1, 1, 0}, {2, 3, 1}}, {{0, 0, 0}, {0, 0, 9}}, {{0, 0, 9}, {0, 0, 0}}, {{3}, {1}}, {{0, 1}, {1, 0}},
	} {
		// Room behind the arguments shows whether something is appended there.
		p, q := append(slices.Clone(c[0]), 77, 77), append(slices.Clone(c[1]), 77, 77)
		n, m := len(c[0]), len(c[1])
		want := results(c[0], c[1])
		for name, list := range results(p[:n], q[:m]) {
			for i := range list {
				for j := range list[i] {
					list[i][j] ^= 255
				}
				_ = append(list[i], 99)
			}
			for i := range list {
				for j := range list[i] {
					if list[i][j] != want[name][i][j]^255 {
						t.Errorf("%s of %v: its results share memory", name, c)
					}
				}
			}
		}
		if !bytes.Equal(p, append(slices.Clone(c[0]), 77, 77)) || !bytes.Equal(q, append(slices.Clone(c[1]), 77, 77)) {
			t.Errorf("the arguments %v are now %v, %v", c, p, q)
		}
	}
}

func TestExamples(t *testing.T) {
	check := func(name string, got, want poly, e api.Errno) {
		t.Helper()
		if !bytes.Equal(got, want) || e != ok {
			t.Errorf("%s: %v, %d", name, got, e)
		}
	}
	p, e := polynomial.Mul(poly{1, 1}, poly{2, 1})
	check("Mul", p, poly{2, 3, 1}, e)
	d, r, e := polynomial.DivMod(poly{2, 3, 1}, poly{1, 1})
	check("quotient", d, poly{2, 1}, e)
	check("remainder", r, nil, e)
	d, r, e = polynomial.DivMod(poly{0, 0, 1}, poly{1, 1})
	check("quotient", d, poly{1, 1}, e)
	check("remainder", r, poly{1}, e)
	check("values", poly{polynomial.Eval(poly{2, 3, 1}, 1), polynomial.Eval(poly{2, 3, 1}, 0)}, poly{0, 2}, ok)
	p, e = polynomial.Interpolate(poly{0, 1}, poly{2, 0})
	check("Interpolate", p, poly{2, 2}, e)
	check("GCD", polynomial.GCD(poly{2, 3, 1}, poly{3, 2, 1}), poly{1, 1}, ok)
	check("Derivative", polynomial.Derivative(poly{5, 7, 9, 11}), poly{7, 0, 11}, ok)
	p, e = polynomial.Roots(poly{2, 3, 1})
	check("Roots", p, poly{1, 2}, e)
	if m, e := polynomial.Multiplicity(poly{1, 0, 1}, 1); m != 2 || e != ok {
		t.Errorf("Multiplicity: %d, %d", m, e)
	}
}

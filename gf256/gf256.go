// Package gf256 is layer 2: arithmetic in the field of 256 elements. See shared/doc/02-gf256.md.
package gf256

import "kinkeep/api"

const (
	elements  = 256
	units     = elements - 1 // the elements other than 0, which are the powers of the generator
	reduction = 0x1d         // what x^8 is modulo x^8 + x^4 + x^3 + x^2 + 1
	nibble    = 16
)

// Add returns the sum of two elements, which is also their difference.
func Add(a, b byte) byte { return a ^ b }

// Mul returns the product.
func Mul(a, b byte) byte {
	product := byte(0)
	for b != 0 {
		product ^= a & -(b & 1)
		a = double(a)
		b >>= 1
	}
	return product
}

// Div returns the quotient; ErrArgument if b is 0.
func Div(a, b byte) (byte, api.Errno) {
	inverse, err := Inv(b)
	if err != api.OK {
		return 0, err
	}
	return Mul(a, inverse), api.OK
}

// Inv returns the multiplicative inverse; ErrArgument for 0.
func Inv(a byte) (byte, api.Errno) {
	if a == 0 {
		return 0, api.ErrArgument
	}
	// The power 255 of a is 1, so that its power 254 is the inverse; 254 has seven ones in base 2, then a zero.
	power := a
	for range 6 {
		power = Mul(Mul(power, power), a)
	}
	return Mul(power, power), api.OK
}

// Pow returns the n-th power, also for negative n; ErrArgument for a negative power of 0.
func Pow(a byte, n int) (byte, api.Errno) {
	switch {
	case n == 0:
		return 1, api.OK
	case a == 0 && n < 0:
		return 0, api.ErrArgument
	case a == 0:
		return 0, api.OK
	}
	t := fill()
	return t.powers[t.logs[a]*residue(n)%units], api.OK
}

// Exp returns the n-th power of the generator 2, for every n.
func Exp(n int) byte { return fill().powers[residue(n)] }

// Log returns the exponent from 0 to 254 for which Exp returns a; ErrArgument for 0.
func Log(a byte) (int, api.Errno) {
	if a == 0 {
		return 0, api.ErrArgument
	}
	return fill().logs[a], api.OK
}

// Order returns the multiplicative order; ErrArgument for 0.
func Order(a byte) (int, api.Errno) {
	log, err := Log(a)
	if err != api.OK {
		return 0, err
	}
	return units / commonDivisor(units, log), api.OK
}

// Sqrt returns the only element whose square is a.
func Sqrt(a byte) byte {
	// The power 256 of a is a, so that its power 128 is the root: seven squarings.
	for range 7 {
		a = Mul(a, a)
	}
	return a
}

// Scale returns the products of all elements of src and c.
func Scale(src []byte, c byte) []byte {
	times := multiplier(c)
	products := make([]byte, len(src))
	for i := range len(src) {
		products[i] = times(src[i])
	}
	return products
}

// MulAdd returns the sums of the elements of dst and the products of those of src and c; ErrArgument if the lengths differ.
func MulAdd(dst, src []byte, c byte) ([]byte, api.Errno) {
	if len(dst) != len(src) {
		return nil, api.ErrArgument
	}
	sums := Scale(src, c)
	for i := range len(sums) {
		sums[i] = Add(sums[i], dst[i])
	}
	return sums, api.OK
}

// Dot returns the sum of the products of corresponding elements; ErrArgument if the lengths differ.
func Dot(a, b []byte) (byte, api.Errno) {
	if len(a) != len(b) {
		return 0, api.ErrArgument
	}
	sum := byte(0)
	for i := range len(a) {
		sum = Add(sum, Mul(a[i], b[i]))
	}
	return sum, api.OK
}

// double returns the product of 2 and a.
func double(a byte) byte { return a<<1 ^ reduction&-(a>>7) }

// tables are the powers of the generator by their exponents, and the logarithms by elements (0 has none).
type tables struct {
	powers [units]byte
	logs   [elements]int
}

// fill computes the tables anew at each call: the package level keeps no variables of this size.
func fill() (t tables) {
	power := byte(1)
	for n := range units {
		t.powers[n] = power
		t.logs[power] = n
		power = double(power)
	}
	return t
}

// residue returns n modulo 255, which is not negative.
func residue(n int) int { return (n%units + units) % units }

// commonDivisor returns the greatest one.
func commonDivisor(a, b int) int {
	for b != 0 {
		a, b = b, a%b
	}
	return a
}

// multiplier returns a function that multiplies by c. It looks up the products of the two halves of an element: for long slices that is faster than Mul, and two tables of 16 products are made faster than one of 256, for short ones.
func multiplier(c byte) func(byte) byte {
	var low, high [nibble]byte
	for half := range byte(nibble) {
		low[half] = Mul(c, half)
		high[half] = Mul(c, half*nibble)
	}
	return func(a byte) byte { return low[a%nibble] ^ high[a/nibble] }
}

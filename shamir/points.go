package shamir

import (
	"slices"

	"kinkeep/api"
	"kinkeep/gf256"
	"kinkeep/polynomial"
)

// points reports whether there are at most 64 xs, all of them elements other than 0, and no two equal.
func points(xs []int) bool {
	if len(xs) > maxShares {
		return false
	}
	var seen [elements]bool
	for _, x := range xs {
		if x < 1 || x >= elements || seen[x] {
			return false
		}
		seen[x] = true
	}
	return true
}

// valid reports whether shares are valid.
func valid(shares []api.Share) bool {
	if len(shares) > maxShares {
		return false
	}
	xs := make([]int, len(shares))
	for i, s := range shares {
		xs[i] = s.X
		if len(s.Data) > maxSecret || len(s.Data) != len(shares[0].Data) {
			return false
		}
	}
	return points(xs)
}

// validThreshold reports whether a threshold is valid.
func validThreshold(threshold int) bool { return threshold >= 1 && threshold <= maxThreshold }

// fit reports whether there are no more lists of coefficients than a threshold allows, each with one for every byte.
func fit(coefficients [][]byte, length int) bool {
	differs := func(list []byte) bool { return len(list) != length }
	return len(coefficients) < maxThreshold && !slices.ContainsFunc(coefficients, differs)
}

// polynomials returns a function that evaluates the polynomials of all bytes of a secret at an element.
func polynomials(secret []byte, coefficients ...[]byte) func(x int) []byte {
	return func(x int) []byte {
		sum := make([]byte, len(secret))
		for _, list := range slices.Backward(coefficients) {
			sum, _ = gf256.MulAdd(list, sum, byte(x))
		}
		sum, _ = gf256.MulAdd(secret, sum, byte(x))
		return sum
	}
}

// through returns a function that evaluates at an element the polynomials, of degrees less than the number of shares, that agree with these.
func through(shares []api.Share) func(x int) []byte {
	return func(x int) []byte {
		sum := make([]byte, len(shares[0].Data))
		for i, s := range shares {
			sum, _ = gf256.MulAdd(sum, s.Data, weight(shares, i, byte(x)))
		}
		return sum
	}
}

// weight returns the value at x of the polynomial of degree less than the number of shares that is 1 at the element of the share i and 0 at those of the others.
func weight(shares []api.Share, i int, x byte) byte {
	value, own := byte(1), byte(shares[i].X)
	for j, s := range shares {
		if j != i {
			other := byte(s.X)
			factor, _ := gf256.Div(gf256.Add(x, other), gf256.Add(own, other))
			value = gf256.Mul(value, factor)
		}
	}
	return value
}

// conflict returns a byte at which no polynomial of a degree less than the threshold agrees with all shares, and whether there is one.
func conflict(shares []api.Share, threshold int) (place int, found bool) {
	if len(shares) <= threshold {
		return 0, false
	}
	at := through(shares[:threshold])
	for _, s := range shares[threshold:] {
		for place, value := range at(s.X) {
			if value != s.Data[place] {
				return place, true
			}
		}
	}
	return 0, false
}

// interpolate returns the polynomial of a degree less than the number of shares that agrees with them at one byte.
func interpolate(shares []api.Share, place int) []byte {
	xs, ys := make([]byte, len(shares)), make([]byte, len(shares))
	for i, s := range shares {
		xs[i], ys[i] = byte(s.X), s.Data[place]
	}
	p, _ := polynomial.Interpolate(xs, ys)
	return p
}

// decode returns the polynomial p of a degree less than the threshold t that agrees at one byte with all of n shares but at most (n - t) / 2, and whether there is one.
//
// It follows Gao: let g be the product of all x + X, f the polynomial through all shares, and u the product of x + X for the shares that do not agree with p. Then u f is u p modulo g, since both have the same values at all shares. Its degree is less than (n + t) / 2, and Euclid's algorithm for g and f finds such a multiple of f, which u divides.
func decode(shares []api.Share, threshold, place int) ([]byte, bool) {
	xs := make([]byte, len(shares))
	for i, s := range shares {
		xs[i] = byte(s.X)
	}
	g, _ := polynomial.FromRoots(xs)
	f := interpolate(shares, place)
	// Modulo the first g, u times the first f remains f, and v times it remains g.
	v, u := []byte{}, []byte{1}
	for 2*polynomial.Degree(f) >= len(shares)+threshold {
		quotient, remainder, _ := polynomial.DivMod(g, f)
		product, _ := polynomial.Mul(quotient, u)
		g, f = f, remainder
		v, u = u, polynomial.Add(v, product)
	}
	p, rest, _ := polynomial.DivMod(f, u)
	return p, len(rest) == 0 && len(p) <= threshold
}

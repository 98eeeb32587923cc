package reedsolomon

import (
	"math/bits"

	"kinkeep/api"
	"kinkeep/gf256"
	"kinkeep/matrix"
)

// Wrong pieces are found by check sums of the given ones, which rest on polynomials (+ is the sum in the field).
//
// The piece x of blocks b is, for x from data on, the sum of all b[c] / (x + c). Multiplied with the product of all x + c, that is the value at x of a polynomial of degree less than data. For x below data the piece is b[x], and the value at x of the same polynomial is the piece times the product of the other x + c.
//
// Values at n points are those of a polynomial of degree less than d exactly if n - d sums are 0. The sum k, from 0 on, is that of all values, each multiplied with the power k of its point, and divided by the product of the differences to the other points.
//
// To leave out some pieces, multiply the values with those of the polynomial that is 0 exactly at them, their locator: what the pieces are does not count any more, and the degree grows by their number. The sums of such products are sums of the locator's coefficients times the check sums.

// set is a set of pieces: the bits with the numbers of their indices are 1. The number of a proper subset is less than that of the set.
type set uint32

// Locate returns the indices of the wrong pieces, ascending, if there are at most half as many as pieces beyond data; ErrCorrupt otherwise.
func Locate(data, total int, indices []int, pieces [][]byte) ([]int, api.Errno) {
	if err := accept(data, total, indices, pieces); err != api.OK {
		return nil, err
	}
	if len(pieces) == data {
		return nil, api.OK
	}
	sums, _ := matrix.Apply(checks(data, indices), pieces)
	most := (len(pieces) - data) / 2
	wrong := set(0)
	for place := range pieces[0] {
		column := columnOf(sums, place)
		if wrong.explains(column) {
			continue
		}
		// There is only one list of blocks so near to the pieces at this place alone, too: the pieces found here are among those sought.
		more, found := search(indices, column, most)
		wrong |= more
		if !found || wrong.size() > most {
			return nil, api.ErrCorrupt
		}
	}
	return wrong.members(), api.OK
}

// checks returns the factors that the given pieces, which are more than data, have in each of their check sums.
func checks(data int, indices []int) [][]byte {
	m := make([][]byte, len(indices)-data)
	for k := range m {
		m[k] = make([]byte, len(indices))
	}
	for i, index := range indices {
		factor, _ := gf256.Div(distance(index, below(data)), distance(index, indices))
		for k := range m {
			m[k][i] = factor
			factor = gf256.Mul(factor, byte(index))
		}
	}
	return m
}

// distance returns the product of the differences of an index and all others of the list.
func distance(index int, list []int) byte {
	product := byte(1)
	for _, other := range list {
		if other != index {
			product = gf256.Mul(product, byte(index^other))
		}
	}
	return product
}

// columnOf returns the bytes of the rows at one place.
func columnOf(rows [][]byte, place int) []byte {
	column := make([]byte, len(rows))
	for i, row := range rows {
		column[i] = row[place]
	}
	return column
}

// search returns the least set of at most most given pieces without which the others are consistent, at a place with these check sums, and whether there is one.
func search(indices []int, sums []byte, most int) (set, bool) {
	var given set
	for _, index := range indices {
		given |= 1 << index
	}
	for s := range given + 1 {
		if s&^given == 0 && s.size() <= most && s.explains(sums) {
			return s, true
		}
	}
	return 0, false
}

// explains reports whether the given pieces outside the set are consistent at a place with these check sums, which are at least as many as the members.
func (s set) explains(sums []byte) bool {
	locator := s.locator()
	for k := range len(sums) - s.size() {
		if sum, _ := gf256.Dot(locator, sums[k:k+len(locator)]); sum != 0 {
			return false
		}
	}
	return true
}

// locator returns the coefficients of the product of x + i for all members i, the constant one first.
func (s set) locator() []byte {
	product := make([]byte, s.size()+1)
	product[0] = 1
	for degree := 0; s != 0; s &= s - 1 {
		least := byte(bits.TrailingZeros32(uint32(s)))
		degree++
		for k := degree; k > 0; k-- {
			product[k] = gf256.Add(product[k-1], gf256.Mul(product[k], least))
		}
		product[0] = gf256.Mul(product[0], least)
	}
	return product
}

// size returns the number of members.
func (s set) size() int { return bits.OnesCount32(uint32(s)) }

// members returns the indices, ascending.
func (s set) members() (indices []int) {
	for ; s != 0; s &= s - 1 {
		indices = append(indices, bits.TrailingZeros32(uint32(s)))
	}
	return indices
}

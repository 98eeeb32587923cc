package matrix

import (
	"slices"

	"kinkeep/gf256"
)

// elimination brings rows into the reduced form.
type elimination struct {
	rows    [][]byte
	pivots  []int // their columns
	product byte  // of the pivots, before they became 1
}

// eliminate brings new rows into the reduced form of m: those of m, each followed by the row of right with the same index, if there is one.
func eliminate(m, right [][]byte) *elimination {
	e := &elimination{rows: beside(m, right), product: 1}
columns:
	for col := range width(m) {
		top := len(e.pivots)
		below := slices.IndexFunc(e.rows[top:], func(row []byte) bool { return row[col] != 0 })
		switch {
		case top == len(e.rows):
			break columns
		case below < 0:
			continue columns
		}
		e.exchange(top, top+below)
		e.normalize(top, col)
		e.subtract(top, col)
		e.pivots = append(e.pivots, col)
	}
	return e
}

// beside returns the rows of eliminate before they change.
func beside(m, right [][]byte) [][]byte {
	rows := make([][]byte, len(m))
	for i := range m {
		rows[i] = slices.Clone(m[i])
		if i < len(right) {
			rows[i] = append(rows[i], right[i]...)
		}
	}
	return rows
}

// exchange swaps two rows. The determinant keeps its sign: every element is its own negative.
func (e *elimination) exchange(a, b int) { e.rows[a], e.rows[b] = e.rows[b], e.rows[a] }

// normalize divides a row by its pivot.
func (e *elimination) normalize(top, col int) {
	pivot := e.rows[top][col]
	inverse, _ := gf256.Inv(pivot)
	e.rows[top] = gf256.Scale(e.rows[top], inverse)
	e.product = gf256.Mul(e.product, pivot)
}

// subtract takes multiples of a row with the pivot 1 from all others, so that these have 0 in its column.
func (e *elimination) subtract(top, col int) {
	for i := range e.rows {
		if factor := e.rows[i][col]; i != top && factor != 0 {
			e.rows[i], _ = gf256.MulAdd(e.rows[i], e.rows[top], factor)
		}
	}
}

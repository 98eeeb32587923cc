package matrix_test

import (
	"bytes"
	"math/bits"
	"slices"
	"testing"

	"kinkeep/api"
	"kinkeep/matrix"
)

// P4.7: all selections of rows for small codes.
func TestSelectionsHaveInverses(t *testing.T) {
	for length := 1; length <= 5; length++ {
		for count := range 6 {
			all := coding(t, count, length)
			for set := range 1 << (count + length) {
				if bits.OnesCount(uint(set)) != length {
					continue
				}
				var list []int
				for i := range all {
					if set>>i&1 == 1 {
						list = append(list, i)
					}
				}
				checkRegular(t, all, list)
			}
		}
	}
}

// P4.7: some selections for large ones, in any order.
func TestLargeSelectionsHaveInverses(t *testing.T) {
	random := newRandom()
	for _, s := range [][2]int{{8, 8}, {32, 32}, {56, 8}, {8, 56}} {
		all := coding(t, s[0], s[1])
		for range 20 {
			checkRegular(t, all, random.Perm(len(all))[:s[1]])
		}
	}
	wide, e := matrix.Cauchy(64, 64)
	if e != ok {
		t.Fatal(e)
	}
	if d, e := matrix.Determinant(wide); d == 0 || e != ok {
		t.Errorf("the determinant of the largest one: %d, %d", d, e)
	}
}

// coding returns the rows of an identity matrix and a Cauchy matrix.
func coding(t *testing.T, count, length int) rows {
	t.Helper()
	m, e := matrix.Cauchy(count, length)
	if e != ok {
		t.Fatal(e)
	}
	return slices.Concat(matrix.Identity(length), m)
}

func checkRegular(t *testing.T, all rows, list []int) {
	t.Helper()
	m, e := matrix.Rows(all, list)
	if e != ok {
		t.Fatal(e)
	}
	i, e := matrix.Inverse(m)
	if e != ok || !same(product(m, i, len(m)), matrix.Identity(len(m))) {
		t.Errorf("the rows %v have no inverse: %d", list, e)
	}
}

// P4.7
func TestProductsAssociate(t *testing.T) {
	random := newRandom()
	multiply := func(a, b rows) rows {
		m, e := matrix.Mul(a, b)
		if e != ok {
			t.Fatal(e)
		}
		return m
	}
	for _, s := range [][4]int{{1, 1, 1, 1}, {2, 3, 4, 5}, {8, 2, 8, 2}, {20, 64, 20, 64}} {
		a, b, c := sized(random, s[0], s[1]), sized(random, s[1], s[2]), sized(random, s[2], s[3])
		if !same(multiply(multiply(a, b), c), multiply(a, multiply(b, c))) {
			t.Errorf("sizes %v", s)
		}
	}
}

// P4.7
func TestDeterminantsOfProducts(t *testing.T) {
	random := newRandom()
	determinant := func(m rows) byte {
		d, e := matrix.Determinant(m)
		if _, f := matrix.Inverse(m); e != ok || (d == 0) != (f == none) || (d != 0) != (f == ok) {
			t.Errorf("%v has the determinant %d, %d, and Inverse returns %d", m, d, e, f)
		}
		return d
	}
	for _, n := range []int{0, 1, 2, 3, 4, 10} {
		for range 30 {
			a, b := sized(random, n, n), sized(random, n, n)
			for i := range a {
				for j := range a[i] {
					// Few different elements make determinants that are 0 likely.
					a[i][j] %= 2
				}
			}
			m, e := matrix.Mul(a, b)
			if e != ok || determinant(m) != times(determinant(a), determinant(b)) {
				t.Errorf("%v times %v: %d", a, b, e)
			}
		}
	}
}

// P1: what is no matrix is an error of every function, with zero values.
func TestNoMatrix(t *testing.T) {
	for name, m := range invalid() {
		results := map[string]func() (rows, api.Errno){
			"Transpose": func() (rows, api.Errno) { return matrix.Transpose(m) },
			"Mul":       func() (rows, api.Errno) { return matrix.Mul(m, rows{{1}}) },
			"Mul by it": func() (rows, api.Errno) { return matrix.Mul(rows{{1}}, m) },
			"Mul of it": func() (rows, api.Errno) { return matrix.Mul(m, m) },
			"Apply":     func() (rows, api.Errno) { return matrix.Apply(m, rows{{1}, {2}}) },
			"Apply all": func() (rows, api.Errno) { return matrix.Apply(m, make(rows, len(m[0]))) },
			"Rows":      func() (rows, api.Errno) { return matrix.Rows(m, nil) },
			"Rows of 0": func() (rows, api.Errno) { return matrix.Rows(m, []int{0}) },
			"Inverse":   func() (rows, api.Errno) { return matrix.Inverse(m) },
			"Kernel":    func() (rows, api.Errno) { return matrix.Kernel(m) },
		}
		for function, f := range results {
			if r, e := f(); r != nil || e != bad {
				t.Errorf("%s of %s: %v, %d", function, name, r, e)
			}
		}
		if form, pivots, e := matrix.Reduce(m); form != nil || pivots != nil || e != bad {
			t.Errorf("Reduce of %s: %v, %v, %d", name, form, pivots, e)
		}
		if x, e := matrix.Solve(m, make([]byte, len(m))); x != nil || e != bad {
			t.Errorf("Solve of %s: %v, %d", name, x, e)
		}
		if d, e := matrix.Determinant(m); d != 0 || e != bad {
			t.Errorf("Determinant of %s: %d, %d", name, d, e)
		}
		if r := matrix.Rank(m); r != -1 {
			t.Errorf("Rank of %s: %d", name, r)
		}
	}
}

// Arguments are not changed, and results share memory neither with them nor with each other.
func TestResultsAreIndependent(t *testing.T) {
	for _, m := range []rows{
		{{1, 0}, {0, 1}}, {{1, 2}, {2, 4}}, {{0, 0}, {0, 0}}, {{0, 5}, {7, 9}}, {{1, 2}, {0, 0}},
	} {
		// Room behind the rows shows whether something is appended there.
		roomy := clone(m)
		for i := range roomy {
			roomy[i] = append(roomy[i], 77, 77)[:2]
		}
		for name, f := range functions() {
			result := f(roomy)
			want := clone(result)
			for i := range result {
				for j := range result[i] {
					result[i][j] ^= 255
				}
				_ = append(result[i], 99)
			}
			for i := range result {
				for j := range result[i] {
					if result[i][j] != want[i][j]^255 {
						t.Errorf("%s of %v: row %d shares memory with another one", name, m, i)
					}
				}
			}
			for i := range m {
				if !bytes.Equal(roomy[i][:4], append(bytes.Clone(m[i]), 77, 77)) {
					t.Fatalf("%s of %v: the argument is now %v", name, m, roomy)
				}
			}
			if !same(f(roomy), want) {
				t.Errorf("%s of %v: another result the second time", name, m)
			}
		}
	}
}

// functions returns the functions that return rows.
func functions() map[string]func(m rows) rows {
	return map[string]func(m rows) rows{
		"Transpose": func(m rows) rows { r, _ := matrix.Transpose(m); return r },
		"Mul":       func(m rows) rows { r, _ := matrix.Mul(m, m); return r },
		"Identity":  func(m rows) rows { r, _ := matrix.Mul(matrix.Identity(2), m); return r },
		"Apply":     func(m rows) rows { r, _ := matrix.Apply(m, m); return r },
		"Rows":      func(m rows) rows { r, _ := matrix.Rows(m, []int{0, 1, 1, 0}); return r },
		"Reduce":    func(m rows) rows { r, _, _ := matrix.Reduce(m); return r },
		"Inverse":   func(m rows) rows { r, _ := matrix.Inverse(m); return r },
		"Solve":     func(m rows) rows { r, _ := matrix.Solve(m, m[0]); return rows{r} },
		"Kernel":    func(m rows) rows { r, _ := matrix.Kernel(m); return r },
	}
}

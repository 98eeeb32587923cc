package matrix_test

import (
	"bytes"
	"math/rand/v2"
	"slices"
	"testing"

	"kinkeep/api"
	"kinkeep/matrix"
)

// regular returns a matrix that has an inverse: a product of two triangular ones whose diagonals have no 0; and its determinant.
func regular(random *rand.Rand, n int) (rows, byte) {
	lower, upper := sized(random, n, n), sized(random, n, n)
	determinant := byte(1)
	for i := range n {
		lower[i][i], upper[i][i] = byte(1+random.IntN(255)), byte(1+random.IntN(255))
		determinant = times(determinant, times(lower[i][i], upper[i][i]))
		for j := range i {
			upper[i][j], lower[j][i] = 0, 0
		}
	}
	return product(lower, upper, n), determinant
}

// reduced returns a reduced row echelon form with these pivots, with random elements where they are allowed.
func reduced(random *rand.Rand, count, length int, pivots []int) rows {
	m := sized(random, count, length)
	for i := range m {
		for j := range length {
			if i >= len(pivots) || j < pivots[i] || slices.Contains(pivots, j) {
				m[i][j] = 0
			}
		}
		if i < len(pivots) {
			m[i][pivots[i]] = 1
		}
	}
	return m
}

// hidden is a matrix whose reduced form is known.
type hidden struct {
	m, form rows
	pivots  []int
	length  int
}

// examples returns matrices of many sizes and ranks.
func examples() (list []hidden) {
	random := newRandom()
	for _, s := range [][2]int{{0, 0}, {1, 0}, {64, 0}, {1, 1}, {1, 5}, {5, 1}, {2, 2}, {3, 3}, {3, 7}, {7, 3}, {8, 8}, {20, 30}, {64, 1}, {1, 64}, {64, 64}, {40, 64}, {64, 40}} {
		for _, rank := range []int{0, 1, 2, min(s[0], s[1]) - 1, min(s[0], s[1])} {
			if rank < 0 || rank > min(s[0], s[1]) {
				continue
			}
			pivots := random.Perm(s[1])[:rank]
			slices.Sort(pivots)
			form := reduced(random, s[0], s[1], pivots)
			mixer, _ := regular(random, s[0])
			list = append(list, hidden{product(mixer, form, s[1]), form, pivots, s[1]})
		}
	}
	return list
}

// column returns a matrix with one column.
func column(v []byte) rows {
	m := make(rows, len(v))
	for i := range v {
		m[i] = []byte{v[i]}
	}
	return m
}

// P4.4: there is exactly one reduced form, so that it is the one that was hidden by combinations of its rows.
func TestReduceAndRank(t *testing.T) {
	for _, x := range examples() {
		form, pivots, e := matrix.Reduce(x.m)
		if !same(form, x.form) || !slices.Equal(pivots, x.pivots) || e != ok {
			t.Errorf("%d rows, %d columns, pivots %v: pivots %v, %d", len(x.m), x.length, x.pivots, pivots, e)
		}
		if r := matrix.Rank(x.m); r != len(x.pivots) {
			t.Errorf("%d rows, %d columns, pivots %v: rank %d", len(x.m), x.length, x.pivots, r)
		}
		form, pivots, e = matrix.Reduce(x.form)
		if !same(form, x.form) || !slices.Equal(pivots, x.pivots) || e != ok {
			t.Errorf("the form with the pivots %v: %v, %d", x.pivots, pivots, e)
		}
	}
}

// P4.4
func TestReduceOfFew(t *testing.T) {
	for _, c := range []struct {
		m, form rows
		pivots  []int
	}{
		{rows{{1, 2}, {2, 4}}, rows{{1, 2}, {0, 0}}, []int{0}},
		{rows{{0, 0}, {0, 0}}, rows{{0, 0}, {0, 0}}, nil},
		{rows{{0, 0}, {0, 5}}, rows{{0, 1}, {0, 0}}, []int{1}},
		{rows{{0, 1}, {1, 0}}, rows{{1, 0}, {0, 1}}, []int{0, 1}},
		{rows{{0, 0, 2}, {0, 2, 2}}, rows{{0, 1, 0}, {0, 0, 1}}, []int{1, 2}},
		{rows{{7}, {9}, {0}}, rows{{1}, {0}, {0}}, []int{0}},
		{rows{{1, 1, 1}, {1, 1, 0}}, rows{{1, 1, 0}, {0, 0, 1}}, []int{0, 2}},
		{nil, nil, nil},
		{rows{{}, {}}, rows{{}, {}}, nil},
	} {
		form, pivots, e := matrix.Reduce(c.m)
		if !same(form, c.form) || !slices.Equal(pivots, c.pivots) || e != ok {
			t.Errorf("Reduce(%v): %v, %v, %d", c.m, form, pivots, e)
		}
		if r := matrix.Rank(c.m); r != len(c.pivots) {
			t.Errorf("Rank(%v): %d", c.m, r)
		}
	}
}

// leibniz returns the sum, over all orders of the columns, of the products of the elements at them.
func leibniz(m rows, row int, used []bool) byte {
	if row == len(m) {
		return 1
	}
	sum := byte(0)
	for col := range m {
		if !used[col] {
			used[col] = true
			sum ^= times(m[row][col], leibniz(m, row+1, used))
			used[col] = false
		}
	}
	return sum
}

// P4.5
func TestDeterminant(t *testing.T) {
	random := newRandom()
	check := func(m rows, want byte) {
		if d, e := matrix.Determinant(m); d != want || e != ok {
			t.Errorf("Determinant(%v): %d, %d, want %d", m, d, e, want)
		}
	}
	check(nil, 1)
	check(rows{{0}}, 0)
	check(rows{{9}}, 9)
	check(rows{{1, 2}, {2, 4}}, 0)
	check(rows{{0, 3}, {3, 0}}, 5)
	check(rows{{1, 2}, {3, 4}}, times(1, 4)^times(2, 3))
	for n := range 7 {
		for range 20 {
			m := sized(random, n, n)
			for i := range m {
				// Zeros make exchanges of rows, and ranks that are not full, likely.
				m[i][random.IntN(n)] = 0
			}
			check(m, leibniz(m, 0, make([]bool, n)))
		}
	}
	for _, n := range []int{8, 20, 64} {
		m, want := regular(random, n)
		check(m, want)
		check(slices.Concat(m[1:], m[:1]), want)
		m[n-1] = bytes.Clone(m[0])
		check(m, 0)
		check(matrix.Identity(n), 1)
	}
}

// P4.5
func TestInverse(t *testing.T) {
	random := newRandom()
	for _, n := range []int{0, 1, 2, 3, 5, 8, 16, 64} {
		m, _ := regular(random, n)
		if n > 1 {
			m[0], m[n-1] = m[n-1], m[0]
		}
		i, e := matrix.Inverse(m)
		if len(i) != n || e != ok {
			t.Fatalf("%d rows: %d rows, %d", n, len(i), e)
		}
		if !same(product(m, i, n), matrix.Identity(n)) || !same(product(i, m, n), matrix.Identity(n)) {
			t.Errorf("Inverse(%v): %v", m, i)
		}
	}
	for _, c := range []struct{ m, want rows }{
		{rows{{2}}, rows{{142}}}, {rows{{0, 1}, {1, 0}}, rows{{0, 1}, {1, 0}}}, {rows{{1, 5}, {0, 1}}, rows{{1, 5}, {0, 1}}},
	} {
		if i, e := matrix.Inverse(c.m); !same(i, c.want) || e != ok {
			t.Errorf("Inverse(%v): %v, %d", c.m, i, e)
		}
	}
}

// P4.5
func TestNoInverse(t *testing.T) {
	for _, m := range []rows{{{0}}, {{1, 2}, {2, 4}}, {{0, 0}, {0, 0}}, {{1, 0}, {1, 0}}, {{0, 1}, {0, 1}}, {{1, 2, 3}, {4, 5, 6}, {5, 7, 5}}, make64()} {
		if i, e := matrix.Inverse(m); i != nil || e != none {
			t.Errorf("Inverse(%v): %v, %d", m, i, e)
		}
	}
	for _, m := range []rows{{{1, 2}}, {{1}, {2}}, {{}}, {{}, {}}, {{1, 0, 0}, {0, 1, 0}}} {
		if i, e := matrix.Inverse(m); i != nil || e != bad {
			t.Errorf("Inverse(%v): %v, %d", m, i, e)
		}
		if d, e := matrix.Determinant(m); d != 0 || e != bad {
			t.Errorf("Determinant(%v): %d, %d", m, d, e)
		}
	}
}

// make64 returns an identity matrix whose last row is missing, and has zeros instead.
func make64() rows {
	m := matrix.Identity(64)
	m[63][63] = 0
	return m
}

// P4.6
func TestSolve(t *testing.T) {
	random := newRandom()
	for _, x := range examples() {
		// The solution whose free components are 0 is the only one of that kind.
		want := make([]byte, x.length)
		for _, pivot := range x.pivots {
			want[pivot] = byte(random.Uint32())
		}
		v := bytes.Join(product(x.m, column(want), 1), nil)
		if s, e := matrix.Solve(x.m, v); !bytes.Equal(s, want) || e != ok {
			t.Errorf("%d rows, pivots %v: %v, %d, want %v", len(x.m), x.pivots, s, e, want)
		}
		// Another solution gives the same v.
		other := bytes.Join(sized(random, x.length, 1), nil)
		v = bytes.Join(product(x.m, column(other), 1), nil)
		s, e := matrix.Solve(x.m, v)
		if len(s) != x.length || e != ok || !bytes.Equal(bytes.Join(product(x.m, column(s), 1), nil), v) {
			t.Errorf("%d rows, pivots %v: %v, %d", len(x.m), x.pivots, s, e)
			continue
		}
		for j := range s {
			if s[j] != 0 && !slices.Contains(x.pivots, j) {
				t.Errorf("%d rows, pivots %v: the component %d is %d", len(x.m), x.pivots, j, s[j])
			}
		}
	}
}

// P4.6: for one column, a solution is found exactly if there is one.
func TestSolveOfOneColumn(t *testing.T) {
	for _, m := range []rows{{{0}, {0}}, {{0}, {3}}, {{5}, {0}}, {{1}, {1}}, {{7}, {200}}} {
		reachable := map[[2]byte]byte{}
		for x := 255; x >= 0; x-- {
			reachable[[2]byte{times(m[0][0], byte(x)), times(m[1][0], byte(x))}] = byte(x)
		}
		for a := range 256 {
			for b := range 256 {
				v := []byte{byte(a), byte(b)}
				want, found := reachable[[2]byte(v)]
				s, e := matrix.Solve(m, v)
				if found && (!bytes.Equal(s, []byte{want}) || e != ok) || !found && (s != nil || e != none) {
					t.Fatalf("Solve(%v, %v): %v, %d", m, v, s, e)
				}
			}
		}
	}
}

// P4.6
func TestSolveOfFew(t *testing.T) {
	for _, c := range []struct {
		m    rows
		v, x []byte
		e    api.Errno
	}{
		{rows{{1, 2}, {0, 0}}, []byte{5, 0}, []byte{5, 0}, ok},
		{rows{{1, 2}, {0, 0}}, []byte{5, 1}, nil, none},
		{rows{{0, 1}, {1, 0}}, []byte{5, 6}, []byte{6, 5}, ok},
		{rows{{0, 0, 2}}, []byte{2}, []byte{0, 0, 1}, ok},
		{rows{{1}, {1}, {1}}, []byte{4, 4, 4}, []byte{4}, ok},
		{rows{{1}, {1}, {1}}, []byte{4, 4, 5}, nil, none},
		{nil, nil, nil, ok},
		{nil, []byte{1}, nil, bad},
		{nil, []byte{0}, nil, bad},
		{rows{{}, {}}, []byte{0, 0}, nil, ok},
		{rows{{}, {}}, []byte{0, 1}, nil, none},
		{rows{{1, 2}}, nil, nil, bad},
		{rows{{1, 2}}, []byte{1, 2}, nil, bad},
		{rows{{1, 2}, {1}}, []byte{1, 2}, nil, bad},
	} {
		if x, e := matrix.Solve(c.m, c.v); !bytes.Equal(x, c.x) || e != c.e || e != ok && x != nil {
			t.Errorf("Solve(%v, %v): %v, %d", c.m, c.v, x, e)
		}
	}
}

// P4.6
func TestKernel(t *testing.T) {
	for _, x := range examples() {
		basis, e := matrix.Kernel(x.m)
		if len(basis) != x.length-len(x.pivots) || e != ok {
			t.Errorf("%d rows, %d columns, pivots %v: %d vectors, %d", len(x.m), x.length, x.pivots, len(basis), e)
			continue
		}
		next := 0
		for col := range x.length {
			if slices.Contains(x.pivots, col) {
				continue
			}
			vector := basis[next]
			next++
			if len(vector) != x.length {
				t.Fatalf("a vector with %d of %d components", len(vector), x.length)
			}
			if bytes.ContainsFunc(bytes.Join(product(x.m, column(vector), 1), nil), func(r rune) bool { return r != 0 }) {
				t.Errorf("%d rows, pivots %v: %v is not in the kernel", len(x.m), x.pivots, vector)
			}
			for j, component := range vector {
				if free := !slices.Contains(x.pivots, j); free && (j == col) != (component == 1) || free && component > 1 {
					t.Errorf("the vector for %d has %d at %d", col, component, j)
				}
			}
		}
	}
}

// P4.6
func TestKernelOfFew(t *testing.T) {
	for _, c := range []struct{ m, want rows }{
		{rows{{1, 2}, {2, 4}}, rows{{2, 1}}},
		{rows{{0, 0}}, rows{{1, 0}, {0, 1}}},
		{rows{{1, 0}, {0, 1}}, nil},
		{rows{{0, 1, 5}}, rows{{1, 0, 0}, {0, 5, 1}}},
		{nil, nil},
		{rows{{}, {}}, nil},
	} {
		if basis, e := matrix.Kernel(c.m); !same(basis, c.want) || e != ok {
			t.Errorf("Kernel(%v): %v, %d", c.m, basis, e)
		}
	}
}

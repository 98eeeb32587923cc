package matrix_test

import (
	"bytes"
	"math"
	"math/rand/v2"
	"testing"

	"kinkeep/api"
	"kinkeep/matrix"
)

const (
	ok   = api.OK
	bad  = api.ErrArgument
	none = api.ErrNotFound
)

type rows = [][]byte

// times multiplies two elements, independently of the program.
func times(a, b byte) byte {
	p := 0
	for i := range 8 {
		if b>>i&1 == 1 {
			p ^= int(a) << i
		}
	}
	for i := 14; i >= 8; i-- {
		if p>>i&1 == 1 {
			p ^= 0x11d << (i - 8)
		}
	}
	return byte(p)
}

// inverse finds the element by trying all.
func inverse(a byte) byte {
	for b := range 256 {
		if times(a, byte(b)) == 1 {
			return byte(b)
		}
	}
	return 0
}

// product multiplies a matrix with as many rows as it has columns, of this length, element by element.
func product(a, b rows, length int) rows {
	m := make(rows, len(a))
	for i := range a {
		m[i] = make([]byte, length)
		for j := range length {
			for k := range b {
				m[i][j] ^= times(a[i][k], b[k][j])
			}
		}
	}
	return m
}

func same(a, b rows) bool {
	if len(a) != len(b) {
		return false
	}
	for i := range a {
		if !bytes.Equal(a[i], b[i]) {
			return false
		}
	}
	return true
}

func clone(m rows) rows {
	c := make(rows, len(m))
	for i := range m {
		c[i] = bytes.Clone(m[i])
	}
	return c
}

func newRandom() *rand.Rand { return rand.New(rand.NewPCG(4, 7)) }

// sized returns a matrix of this size with random elements.
func sized(random *rand.Rand, count, length int) rows {
	m := make(rows, count)
	for i := range m {
		m[i] = make([]byte, length)
		for j := range m[i] {
			m[i][j] = byte(random.Uint32())
		}
	}
	return m
}

// invalid are lists of rows that are no matrices.
func invalid() map[string]rows {
	return map[string]rows{
		"too many rows":        make(rows, 65),
		"too many wide rows":   sized(newRandom(), 65, 65),
		"too many columns":     {make([]byte, 65)},
		"very many columns":    {make([]byte, 1<<20)},
		"very many rows":       make(rows, 1<<20),
		"a longer row":         {{1}, {1, 2}},
		"a shorter row":        {{1, 2}, {1}},
		"a nil row":            {{1, 2}, {3, 4}, nil},
		"a nil row first":      {nil, {3, 4}},
		"long row at the end":  append(make(rows, 3), make([]byte, 65)),
		"different last of 64": append(sized(newRandom(), 63, 2), []byte{1}),
	}
}

// sizes are numbers of rows and columns that a matrix may have, or may not have.
func sizes() []int {
	return []int{math.MinInt, -65, -1, 0, 1, 2, 3, 8, 63, 64, 65, 128, 255, 256, 1 << 32, math.MaxInt}
}

func allowed(n int) bool { return n >= 0 && n <= 64 }

// P4.1
func TestValid(t *testing.T) {
	for name, m := range invalid() {
		if matrix.Valid(m) {
			t.Errorf("Valid: %s", name)
		}
	}
	for _, m := range []rows{nil, {}, {nil}, {{}}, {nil, {}}, {{0}}, {{1, 2, 3}}, {{1}, {2}, {3}}, make(rows, 64),
		{make([]byte, 64)}, sized(newRandom(), 64, 64), sized(newRandom(), 64, 1)} {
		if !matrix.Valid(m) {
			t.Errorf("not Valid: %v", m)
		}
	}
}

// P4.1
func TestIdentity(t *testing.T) {
	for _, n := range sizes() {
		m := matrix.Identity(n)
		if !allowed(n) {
			if m != nil {
				t.Errorf("Identity(%d): %v", n, m)
			}
			continue
		}
		if len(m) != n {
			t.Fatalf("Identity(%d) has %d rows", n, len(m))
		}
		for i := range m {
			want := make([]byte, n)
			want[i] = 1
			if !bytes.Equal(m[i], want) {
				t.Errorf("Identity(%d), row %d: %v", n, i, m[i])
			}
		}
	}
}

// P4.2
func TestCauchyAndVandermonde(t *testing.T) {
	if m, e := matrix.Cauchy(1, 2); !same(m, rows{{142, 244}}) || e != ok {
		t.Errorf("Cauchy(1, 2): %v, %d", m, e)
	}
	if m, e := matrix.Vandermonde(4, 4); !same(m, rows{{1, 0, 0, 0}, {1, 1, 1, 1}, {1, 2, 4, 8}, {1, 3, 5, 15}}) || e != ok {
		t.Errorf("Vandermonde(4, 4): %v, %d", m, e)
	}
	for _, count := range sizes() {
		for _, length := range sizes() {
			c, e := matrix.Cauchy(count, length)
			v, f := matrix.Vandermonde(count, length)
			if !allowed(count) || !allowed(length) {
				if c != nil || e != bad || v != nil || f != bad {
					t.Errorf("%d rows, %d columns: %d rows, %d and %d rows, %d", count, length, len(c), e, len(v), f)
				}
				continue
			}
			if e != ok || f != ok || !same(c, cauchy(count, length)) || !same(v, vandermonde(count, length)) {
				t.Errorf("%d rows, %d columns: %v, %d and %v, %d", count, length, c, e, v, f)
			}
		}
	}
}

func cauchy(count, length int) rows {
	m := make(rows, count)
	for j := range m {
		for i := range length {
			m[j] = append(m[j], inverse(byte((length+j)^i)))
		}
	}
	return m
}

func vandermonde(count, length int) rows {
	m := make(rows, count)
	for i := range m {
		power := byte(1)
		for range length {
			m[i] = append(m[i], power)
			power = times(power, byte(i))
		}
	}
	return m
}

// P4.1
func TestTranspose(t *testing.T) {
	for _, c := range []struct{ m, want rows }{
		{nil, nil}, {rows{{}}, nil}, {rows{{}, {}, {}}, nil}, {rows{{7}}, rows{{7}}},
		{rows{{1, 2, 3}}, rows{{1}, {2}, {3}}}, {rows{{1, 2, 3}, {4, 5, 6}}, rows{{1, 4}, {2, 5}, {3, 6}}},
	} {
		if m, e := matrix.Transpose(c.m); !same(m, c.want) || e != ok {
			t.Errorf("Transpose(%v): %v, %d", c.m, m, e)
		}
	}
	m := sized(newRandom(), 64, 50)
	turned, e := matrix.Transpose(m)
	if len(turned) != 50 || e != ok {
		t.Fatalf("%d rows, %d", len(turned), e)
	}
	for i := range m {
		for j := range m[i] {
			if turned[j][i] != m[i][j] {
				t.Fatalf("element %d, %d", i, j)
			}
		}
	}
	if back, e := matrix.Transpose(turned); !same(back, m) || e != ok {
		t.Errorf("transposed twice: %d", e)
	}
}

// P4.1
func TestRows(t *testing.T) {
	m := rows{{1, 2}, {3, 4}, {5, 6}}
	long := make([]int, 64)
	for _, c := range []struct {
		m    rows
		list []int
		want rows
		e    api.Errno
	}{
		{m, nil, nil, ok}, {m, []int{1}, rows{{3, 4}}, ok}, {m, []int{2, 0}, rows{{5, 6}, {1, 2}}, ok},
		{m, []int{0, 1, 2}, m, ok}, {m, []int{1, 1, 0, 1}, rows{{3, 4}, {3, 4}, {1, 2}, {3, 4}}, ok},
		{m, long, sizedRows(64, []byte{1, 2}), ok}, {m, append(long, 0), nil, bad},
		{m, []int{3}, nil, bad}, {m, []int{-1}, nil, bad}, {m, []int{0, 3}, nil, bad}, {m, []int{0, 1, -1}, nil, bad},
		{m, []int{math.MinInt}, nil, bad}, {m, []int{math.MaxInt}, nil, bad},
		{nil, nil, nil, ok}, {nil, []int{0}, nil, bad}, {rows{{}, {}}, []int{1, 0, 1}, rows{{}, {}, {}}, ok},
	} {
		if r, e := matrix.Rows(c.m, c.list); !same(r, c.want) || e != c.e || e != ok && r != nil {
			t.Errorf("Rows(%v, %v): %v, %d", c.m, c.list, r, e)
		}
	}
}

// sizedRows returns the same row several times.
func sizedRows(count int, row []byte) (m rows) {
	for range count {
		m = append(m, row)
	}
	return m
}

// P4.3
func TestMul(t *testing.T) {
	random := newRandom()
	for _, s := range [][3]int{{1, 1, 1}, {2, 3, 4}, {5, 1, 5}, {1, 5, 1}, {3, 64, 2}, {64, 2, 64}, {64, 64, 64}, {2, 0, 0}, {0, 0, 0}, {4, 3, 0}} {
		a, b := sized(random, s[0], s[1]), sized(random, s[1], s[2])
		if m, e := matrix.Mul(a, b); !same(m, product(a, b, s[2])) || e != ok {
			t.Errorf("sizes %v: %v, %d", s, m, e)
		}
	}
	for _, c := range [][2]rows{
		{rows{{1, 2}}, rows{{1, 2}}}, {rows{{1}}, rows{{1}, {2}}}, {nil, rows{{1, 2}}}, {rows{{1, 2}}, nil}, {rows{{}}, rows{{}}}, {nil, rows{{}}},
	} {
		if m, e := matrix.Mul(c[0], c[1]); m != nil || e != bad {
			t.Errorf("Mul(%v, %v): %v, %d", c[0], c[1], m, e)
		}
	}
}

// P4.3: blocks may be longer than rows of a matrix, or empty.
func TestApply(t *testing.T) {
	if b, e := matrix.Apply(rows{{1, 1}, {2, 0}}, rows{{3, 4}, {5, 6}}); !same(b, rows{{6, 2}, {6, 8}}) || e != ok {
		t.Errorf("the example: %v, %d", b, e)
	}
	random := newRandom()
	for _, s := range [][3]int{{1, 1, 1}, {4, 8, 65}, {16, 8, 1000}, {3, 2, 1 << 16}, {64, 64, 3}, {2, 3, 0}, {0, 0, 0}, {5, 0, 0}} {
		m, blocks := sized(random, s[0], s[1]), sized(random, s[1], s[2])
		if b, e := matrix.Apply(m, blocks); !same(b, product(m, blocks, s[2])) || e != ok {
			t.Errorf("sizes %v: %d", s, e)
		}
	}
	identity := matrix.Identity(3)
	blocks := sized(random, 3, 300)
	if b, e := matrix.Apply(identity, blocks); !same(b, blocks) || e != ok {
		t.Errorf("by the identity: %d", e)
	}
}

// P4.3
func TestApplyErrors(t *testing.T) {
	for _, c := range []struct {
		name      string
		m, blocks rows
	}{
		{"too few blocks", rows{{1, 2}}, rows{{1}}},
		{"too many blocks", rows{{1, 2}}, rows{{1}, {2}, {3}}},
		{"no blocks", rows{{1, 2}}, nil},
		{"blocks without rows", nil, rows{{1}}},
		{"blocks without columns", rows{{}}, rows{{1}}},
		{"a longer block", rows{{1, 2}}, rows{{1}, {1, 2}}},
		{"a shorter block", rows{{0, 0}}, rows{{1, 2}, {1}}},
		{"a nil block", rows{{0, 0}}, rows{{1}, nil}},
		{"no matrix", rows{{1, 2}, {1}}, rows{{1}, {2}}},
	} {
		if b, e := matrix.Apply(c.m, c.blocks); b != nil || e != bad {
			t.Errorf("%s: %v, %d", c.name, b, e)
		}
	}
}

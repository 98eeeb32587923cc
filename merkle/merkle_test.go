package merkle_test

import (
	"bytes"
	"math"
	"slices"
	"strings"
	"testing"

	"kinkeep/api"
	"kinkeep/merkle"
)

// P9.1, P9.2, P9.4, P9.5, P9.6: the examples of the chapter.
func TestExamples(t *testing.T) {
	a, b, c := merkle.Leaf([]byte("a")), merkle.Leaf([]byte("b")), merkle.Leaf([]byte("c"))
	ab := merkle.Node(a, b)
	list := []string{a, b, c}
	if merkle.Root(list) != merkle.Node(ab, c) {
		t.Error("Root")
	}
	if p, e := merkle.Path(list, 0); e != ok || !slices.Equal(p, []string{b, c}) {
		t.Errorf("Path of a: %x, %d", p, e)
	}
	if p, e := merkle.Path(list, 1); e != ok || !slices.Equal(p, []string{a, c}) {
		t.Errorf("Path of b: %x, %d", p, e)
	}
	if p, e := merkle.Path(list, 2); e != ok || !slices.Equal(p, []string{ab}) {
		t.Errorf("Path of c: %x, %d", p, e)
	}
	tree := treeOf(t, list)
	if p, e := tree.Consistency(2, 3); e != ok || !slices.Equal(p, []string{c}) {
		t.Errorf("Consistency of 2, 3: %x, %d", p, e)
	}
	if p, e := tree.Consistency(1, 3); e != ok || !slices.Equal(p, []string{b, c}) {
		t.Errorf("Consistency of 1, 3: %x, %d", p, e)
	}
	if !merkle.Consistent(2, 3, ab, merkle.Node(ab, c), []string{c}) {
		t.Error("Consistent")
	}
	x := []byte{1, 2, 3, 4, 5}
	block, path, e := merkle.Show(x, 2, 2)
	if e != ok || !bytes.Equal(block, []byte{5}) || !slices.Equal(path, []string{merkle.Node(merkle.Leaf(x[:2]), merkle.Leaf(x[2:4]))}) {
		t.Errorf("Show: %v, %x, %d", block, path, e)
	}
}

// P9.1, P9.2: the roots of the logs of RFC 6962 with the first leaves of a well-known list.
func TestKnownRoots(t *testing.T) {
	var leaves []string
	for i, want := range []string{
		"e3b0c44298fc1c149afbf4c8996fb92427ae41e4649b934ca495991b7852b855", "6e340b9cffb37a989ca544e6bb780a2c78901d3fb33738768511a30617afa01d",
		"fac54203e7cc696cf0dfcb42c92a1d9dbaf70ad9e621f4bd8d98662f00e3c125", "aeb6bcfe274b70a14fb067a5e5578264db0fa9b51af5e0ba159158f329e06e77",
		"d37ee418976dd95753c1c73862b9398fa2a2cf9b4ff0fdfe8b30cd95209614b7", "4e3bbb1f7b478dcfe71fb631631519a3bca12c9aefca1612bfce4c13a86264d4",
		"76e67dadbcdf1e10e1b74ddc608abd2f98dfb16fbce75277b5232a127f2087ef", "ddb89be403809e325750d3d263cd78929c2942b7942a34b77e122c9594a74c8c",
		"5dc9da79a70659a9ad559cb701ded9a2ab9d823aad2f4960cfe370eff4604328",
	} {
		if root := merkle.Root(leaves); root != fromHex(t, want) {
			t.Errorf("root of %d leaves: %x", i, root)
		}
		inputs := []string{"", "00", "10", "2021", "3031", "40414243", "5051525354555657", "606162636465666768696a6b6c6d6e6f"}
		if i < len(inputs) {
			leaves = append(leaves, merkle.Leaf([]byte(fromHex(t, inputs[i]))))
		}
	}
}

// P9.1: all lengths around the blocks of the sum, and any strings as sides of a node.
func TestLeafAndNode(t *testing.T) {
	if merkle.Leaf(nil) != sum("\x00") || merkle.Leaf([]byte{}) != sum("\x00") {
		t.Error("leaf of no bytes")
	}
	if merkle.Node("", "") != sum("\x01") || merkle.Node("ab", "c") != sum("\x01abc") || merkle.Node("", "\x00") != sum("\x01\x00") {
		t.Error("node of short strings")
	}
	for n := range 200 {
		x := content(n)
		kept := bytes.Clone(x)
		if merkle.Leaf(x) != leafOf(string(x)) {
			t.Errorf("leaf of %d bytes", n)
		}
		if !bytes.Equal(x, kept) {
			t.Fatal("Leaf has changed its argument")
		}
		for _, k := range []int{0, n / 2, n} {
			if left, right := string(x[:k]), string(x[k:]); merkle.Node(left, right) != nodeOf(left, right) {
				t.Errorf("node of %d and %d bytes", k, n-k)
			}
		}
	}
}

// P9.2, P1: lists of all small lengths and around powers of two, and of any strings.
func TestRootAndPath(t *testing.T) {
	if merkle.Root(nil) != sum("") || merkle.Root([]string{}) != sum("") {
		t.Error("root of no leaves")
	}
	lists := [][]string{{""}, {"a"}, {"a", ""}, {"", "", ""}, {"a", "a", "a", "a"}, {strings.Repeat("x", 100), "y", ""}}
	for n := range 70 {
		lists = append(lists, sample(n))
	}
	lists = append(lists, sample(127), sample(128), sample(129), sample(1000))
	for _, leaves := range lists {
		kept := slices.Clone(leaves)
		if merkle.Root(leaves) != rootOf(leaves) {
			t.Errorf("root of %d leaves", len(leaves))
		}
		for i := range leaves {
			if len(leaves) > 200 && i%97 > 1 {
				continue
			}
			path, e := merkle.Path(leaves, i)
			if e != ok || !slices.Equal(path, pathOf(leaves, i)) {
				t.Errorf("path of leaf %d of %d: %d", i, len(leaves), e)
			}
			clear(path)
		}
		for _, i := range []int{math.MinInt, -1, len(leaves), len(leaves) + 1, math.MaxInt} {
			if path, e := merkle.Path(leaves, i); e != bad || len(path) != 0 {
				t.Errorf("path of leaf %d of %d: %x, %d", i, len(leaves), path, e)
			}
		}
		if !slices.Equal(leaves, kept) {
			t.Fatal("an argument has changed")
		}
	}
}

// P9.3, P9.7: what is returned is accepted, and nothing that is changed.
func TestVerify(t *testing.T) {
	for n := 1; n <= 40; n++ {
		leaves := sample(n)
		root := rootOf(leaves)
		for i := range n {
			path, _ := merkle.Path(leaves, i)
			if !merkle.Verify(leaves[i], i, n, path, root) {
				t.Fatalf("leaf %d of %d is refused", i, n)
			}
			checkVerifyRefuses(t, leaves[i], i, n, path, root)
			for j := -1; j <= n+1; j++ {
				if j != i && merkle.Verify(leaves[i], j, n, path, root) {
					t.Errorf("leaf %d of %d is accepted as %d", i, n, j)
				}
			}
		}
	}
}

// checkVerifyRefuses fails if a changed leaf, path or root is accepted.
func checkVerifyRefuses(t *testing.T, leaf string, i, n int, path []string, root string) {
	t.Helper()
	other := leafOf("other")
	if merkle.Verify(other, i, n, path, root) || merkle.Verify(leaf, i, n, path, other) {
		t.Errorf("leaf %d of %d: another leaf or root is accepted", i, n)
	}
	if merkle.Verify(leaf, i, n, append(slices.Clone(path), other), root) || merkle.Verify(leaf, i, n, append([]string{other}, path...), root) {
		t.Errorf("leaf %d of %d: a longer path is accepted", i, n)
	}
	if merkle.Verify(leaf, i, n, append(slices.Clone(path), root), root) || merkle.Verify(leaf, i, n, append([]string{leaf}, path...), root) {
		t.Errorf("leaf %d of %d: a longer path with a known sum is accepted", i, n)
	}
	for k := range path {
		if merkle.Verify(leaf, i, n, append(slices.Clone(path[:k]), path[k+1:]...), root) {
			t.Errorf("leaf %d of %d: a path without element %d is accepted", i, n, k)
		}
		for _, s := range []string{other, "", path[k][:31], path[k] + "\x00", leaf, root} {
			changed := slices.Clone(path)
			changed[k] = s
			if s != path[k] && merkle.Verify(leaf, i, n, changed, root) {
				t.Errorf("leaf %d of %d: a path with another element %d is accepted", i, n, k)
			}
		}
	}
}

// P9.3: any paths, among them those for very great n, are decided as from below.
func TestVerifyAnyPath(t *testing.T) {
	random := newRandom()
	counts := []int{1, 2, 3, 4, 5, 6, 7, 8, 9, 31, 32, 33, 1 << 20, 1<<20 + 1, 1<<62 - 1, 1 << 62, 1<<62 + 1, math.MaxInt - 1, math.MaxInt}
	accepted := 0
	for range 400 {
		n := counts[random.IntN(len(counts))]
		i := random.IntN(n)
		if random.IntN(3) == 0 {
			i = n - 1 - random.IntN(min(n, 4))
		}
		leaf, path := leafOf("leaf"), sample(random.IntN(66))
		// The number of elements that are used, most of the time, and the root that follows.
		if random.IntN(4) > 0 {
			path = sample(steps(i, n))
		}
		root := follow(leaf, i, n, path)
		is := merkle.Verify(leaf, i, n, path, root)
		if is != verified(leaf, i, n, path, root) {
			t.Fatalf("leaf %d of %d with a path of %d: %t", i, n, len(path), is)
		}
		if is {
			accepted++
			checkVerifyRefuses(t, leaf, i, n, path, root)
		}
	}
	if accepted < 150 {
		t.Errorf("only %d paths were accepted", accepted)
	}
}

// steps returns the number of elements of a path.
func steps(i, n int) int {
	count := 0
	for n > 1 {
		count++
		if k := splitOf(n); i < k {
			n = k
		} else {
			i, n = i-k, n-k
		}
	}
	return count
}

// follow returns the root that follows from a path, as far as it goes.
func follow(leaf string, i, n int, path []string) string {
	if n == 1 || len(path) == 0 {
		return leaf
	}
	k := splitOf(n)
	if i < k {
		return nodeOf(follow(leaf, i, k, without(path)), last(path))
	}
	return nodeOf(last(path), follow(leaf, i-k, n-k, without(path)))
}

// P9.3, P1: indices outside, and strings that are no sums.
func TestVerifyInvalid(t *testing.T) {
	leaves := sample(3)
	path, root := pathOf(leaves, 0), rootOf(leaves)
	for _, i := range numbers() {
		for _, n := range numbers() {
			if is := merkle.Verify(leaves[0], i, n, path, root); is != verified(leaves[0], i, n, path, root) || is != (i == 0 && n == 3) {
				t.Errorf("leaf %d of %d: %t", i, n, is)
			}
			merkle.Verify("", i, n, nil, "")
			merkle.Verify(leaves[0], i, n, slices.Repeat([]string{leaves[0]}, 1000), root)
		}
	}
	if !merkle.Verify(leaves[0], 0, 1, nil, leaves[0]) || !merkle.Verify(leaves[0], 0, 1, []string{}, leaves[0]) {
		t.Error("a single leaf is refused")
	}
	for _, s := range []string{"", "x", leaves[0][1:], leaves[0] + "x", strings.Repeat("x", 64)} {
		if merkle.Verify(s, 0, 1, nil, s) {
			t.Errorf("a leaf of %d bytes is accepted", len(s))
		}
		if merkle.Verify(s, 0, 2, []string{leaves[1]}, nodeOf(s, leaves[1])) {
			t.Errorf("a leaf of %d bytes is accepted below a root", len(s))
		}
		if merkle.Verify(leaves[0], 0, 2, []string{s}, nodeOf(leaves[0], s)) {
			t.Errorf("a path with %d bytes is accepted", len(s))
		}
		if merkle.Verify(leaves[0], 0, 2, []string{leaves[1]}, s) {
			t.Errorf("a root of %d bytes is accepted", len(s))
		}
	}
	// The boundary between the sides of a node is no freedom.
	if merkle.Verify(leaves[0]+leaves[1][:1], 0, 2, []string{leaves[1][1:]}, nodeOf(leaves[0], leaves[1])) {
		t.Error("a moved boundary is accepted")
	}
	kept := slices.Clone(path)
	merkle.Verify(leaves[0], 0, 3, path, root)
	if !slices.Equal(path, kept) {
		t.Error("Verify has changed the path")
	}
}

// P9.6, P9.7
func TestBlocks(t *testing.T) {
	for n := range 50 {
		for _, size := range []int{1, 2, 3, 4, 7, 16, 48, 49, 50, 1000, math.MaxInt} {
			x := content(n)
			kept := bytes.Clone(x)
			leaves := blocksOf(x, size)
			if got, e := merkle.Blocks(x, size); e != ok || !slices.Equal(got, leaves) {
				t.Errorf("Blocks of %d bytes, size %d: %d", n, size, e)
			}
			if root, e := merkle.Of(x, size); e != ok || root != rootOf(leaves) {
				t.Errorf("Of %d bytes, size %d: %d", n, size, e)
			}
			for block := range leaves {
				checkShow(t, x, size, block, leaves)
			}
			for _, block := range []int{math.MinInt, -1, len(leaves), len(leaves) + 1, math.MaxInt} {
				if b, p, e := merkle.Show(x, size, block); e != bad || len(b) != 0 || len(p) != 0 {
					t.Errorf("Show of %d bytes, size %d, block %d: %v, %x, %d", n, size, block, b, p, e)
				}
			}
			if !bytes.Equal(x, kept) {
				t.Fatal("an argument has changed")
			}
		}
	}
}

// blocksOf returns the leaves of the blocks.
func blocksOf(x []byte, size int) (leaves []string) {
	for len(x) > 0 {
		n := min(size, len(x))
		leaves = append(leaves, leafOf(string(x[:n])))
		x = x[n:]
	}
	return leaves
}

// checkShow fails unless a block is shown, and seen with its own number only.
func checkShow(t *testing.T, x []byte, size, block int, leaves []string) {
	t.Helper()
	n, root := len(x), rootOf(leaves)
	b, path, e := merkle.Show(x, size, block)
	first := block * size
	want := x[first:min(n, first+min(size, n))]
	if e != ok || !bytes.Equal(b, want) || !slices.Equal(path, pathOf(leaves, block)) {
		t.Fatalf("Show of %d bytes, size %d, block %d: %v, %d", n, size, block, b, e)
	}
	for other := -1; other <= len(leaves); other++ {
		if is := merkle.See(root, n, size, other, b, path); is != (other == block) {
			t.Errorf("See of block %d of %d bytes, size %d, as block %d: %t", block, n, size, other, is)
		}
	}
	kept := bytes.Clone(x)
	b[0]++
	if merkle.See(root, n, size, block, b, path) {
		t.Errorf("See of a changed block %d of %d bytes, size %d", block, n, size)
	}
	if !bytes.Equal(x, kept) {
		t.Fatal("a block shares memory with the argument")
	}
	b[0]--
	if merkle.See(root, n, size, block, append(slices.Clip(b), 0), path) || merkle.See(root, n, size, block, b[1:], path) || merkle.See(leaves[0]+"x", n, size, block, b, path) || merkle.See(root, n, size, block, b, append(slices.Clip(path), root)) {
		t.Errorf("See of block %d of %d bytes, size %d, accepts too much", block, n, size)
	}
}

// P9.6: the length of a block follows from n and size alone, even if its leaf would be accepted.
func TestSeeLength(t *testing.T) {
	x := content(10)
	root, e := merkle.Of(x, 4)
	if e != ok {
		t.Fatal(e)
	}
	_, path, _ := merkle.Show(x, 4, 2)
	for n := range 20 {
		if is := merkle.See(root, n, 4, 2, x[8:], path); is != (n == 10) {
			t.Errorf("the block 2 of %d bytes: %t", n, is)
		}
	}
	_, path, _ = merkle.Show(x, 4, 1)
	for n := range 20 {
		if is := merkle.See(root, n, 4, 1, x[4:8], path); is != (n > 8 && n <= 16) {
			t.Errorf("the block 1 of %d bytes: %t", n, is)
		}
	}
	for size := range 20 {
		if is := merkle.See(root, 10, size, 1, x[4:8], path); is != (size == 4) {
			t.Errorf("the block 1 with size %d: %t", size, is)
		}
	}
	// A single block of any size that is at least the length.
	for _, size := range []int{9, 10, 11, math.MaxInt} {
		if is := merkle.See(leafOf(string(x)), 10, size, 0, x, nil); is != (size >= 10) {
			t.Errorf("the only block with size %d: %t", size, is)
		}
	}
}

// P9.6, P1
func TestBlocksErrors(t *testing.T) {
	full := make([]byte, api.MaxFile+1)
	for _, c := range []struct {
		x    []byte
		size int
		e    api.Errno
	}{
		{nil, 1, ok}, {full[1:], api.MaxFile, ok}, {full[1:], 4096, ok}, {full[1:], math.MaxInt, ok}, {full, 4096, large}, {full, 1, large}, {full, math.MaxInt, large},
		{nil, 0, bad}, {nil, -1, bad}, {nil, math.MinInt, bad}, {full, 0, bad}, {full, -1, bad}, {full[1:], 0, bad},
	} {
		leaves, e := merkle.Blocks(c.x, c.size)
		if e != c.e || e != ok && len(leaves) != 0 {
			t.Errorf("Blocks of %d bytes, size %d: %d leaves, %d", len(c.x), c.size, len(leaves), e)
		}
		root, e := merkle.Of(c.x, c.size)
		if e != c.e || e != ok && root != "" || e == ok && root != rootOf(leaves) {
			t.Errorf("Of %d bytes, size %d: %x, %d", len(c.x), c.size, root, e)
		}
		for _, block := range numbers() {
			want := c.e
			if e == ok && (block < 0 || block >= len(leaves)) {
				want = bad
			}
			if b, p, e := merkle.Show(c.x, c.size, block); e != want || e != ok && (len(b) != 0 || len(p) != 0) {
				t.Errorf("Show of %d bytes, size %d, block %d: %d bytes, %d", len(c.x), c.size, block, len(b), e)
			}
		}
	}
	if leaves, e := merkle.Blocks(full[:api.MaxFile], 1); e != ok || len(leaves) != api.MaxFile || leaves[api.MaxFile-1] != leafOf("\x00") {
		t.Errorf("the most blocks: %d, %d", len(leaves), e)
	}
}

// seen decides like See.
func seen(root string, n, size, block int, x []byte, path []string) bool {
	if n < 1 || size < 1 || block < 0 || block > (n-1)/size {
		return false
	}
	first := block * size
	return len(x) == min(size, n-first) && verified(leafOf(string(x)), block, (n-1)/size+1, path, root)
}

// P9.6, P1: any numbers.
func TestSeeInvalid(t *testing.T) {
	x := content(5)
	root, _ := merkle.Of(x, 2)
	_, path, _ := merkle.Show(x, 2, 2)
	for _, n := range numbers() {
		for _, size := range numbers() {
			for _, block := range numbers() {
				if is := merkle.See(root, n, size, block, x[4:], path); is != seen(root, n, size, block, x[4:], path) {
					t.Errorf("See of block %d of %d bytes, size %d: %t", block, n, size, is)
				}
				if merkle.See(sum(), n, size, block, nil, nil) || merkle.See("", n, size, block, nil, nil) || merkle.See(leafOf(""), n, size, block, nil, nil) {
					t.Errorf("See of an empty block %d of %d bytes, size %d", block, n, size)
				}
			}
		}
	}
}

package merkle_test

import (
	"math"
	"slices"
	"strings"
	"testing"

	"kinkeep/merkle"
)

// P9.4, P9.5, P9.7: all roots, paths and proofs of a growing tree.
func TestTree(t *testing.T) {
	const most = 40
	leaves := sample(most)
	tree := merkle.New()
	if tree.Len() != 0 {
		t.Error("a new tree is not empty")
	}
	for count := 0; ; count++ {
		// Far more often than needed while the tree is small, and afterwards at the end.
		if count <= 17 || count == most {
			checkTree(t, tree, leaves[:count])
		}
		if count == most {
			return
		}
		if i, e := tree.Add(leaves[count]); i != count || e != ok || tree.Len() != count+1 {
			t.Fatalf("Add of leaf %d: %d, %d, then %d leaves", count, i, e, tree.Len())
		}
	}
}

// checkTree fails unless a tree has these leaves.
func checkTree(t *testing.T, tree *merkle.Tree, leaves []string) {
	t.Helper()
	if tree.Len() != len(leaves) {
		t.Fatalf("%d leaves instead of %d", tree.Len(), len(leaves))
	}
	for n := 0; n <= len(leaves); n++ {
		root := rootOf(leaves[:n])
		if r, e := tree.Root(n); e != ok || r != root {
			t.Fatalf("root of %d leaves of %d: %d", n, len(leaves), e)
		}
		for i := range n {
			path, e := tree.Path(i, n)
			if e != ok || !slices.Equal(path, pathOf(leaves[:n], i)) || !merkle.Verify(leaves[i], i, n, path, root) {
				t.Fatalf("path of leaf %d of %d: %d", i, n, e)
			}
			clear(path)
		}
		for m := 0; m <= n; m++ {
			proof, e := tree.Consistency(m, n)
			if e != ok || !slices.Equal(proof, proofOf(leaves[:n], m, true)) || !merkle.Consistent(m, n, rootOf(leaves[:m]), root, proof) {
				t.Fatalf("proof of %d leaves of %d: %d", m, n, e)
			}
			clear(proof)
		}
	}
}

// P9.4: a tree of more leaves, of which some are equal.
func TestGreatTree(t *testing.T) {
	leaves := append(sample(1000), sample(300)...)
	tree := treeOf(t, leaves)
	random := newRandom()
	for range 200 {
		n := 1 + random.IntN(len(leaves))
		i, m := random.IntN(n), random.IntN(n+1)
		root, e := tree.Root(n)
		if e != ok || root != rootOf(leaves[:n]) {
			t.Fatalf("root of %d leaves: %d", n, e)
		}
		if path, e := tree.Path(i, n); e != ok || !slices.Equal(path, pathOf(leaves[:n], i)) {
			t.Fatalf("path of leaf %d of %d: %d", i, n, e)
		}
		if proof, e := tree.Consistency(m, n); e != ok || !slices.Equal(proof, proofOf(leaves[:n], m, true)) {
			t.Fatalf("proof of %d leaves of %d: %d", m, n, e)
		}
	}
}

// P9.4, P1: numbers outside.
func TestTreeErrors(t *testing.T) {
	for count := range 6 {
		leaves := sample(count)
		tree := treeOf(t, leaves)
		all := append(numbers(), 4, 6)
		for _, n := range all {
			within := n >= 0 && n <= count
			if r, e := tree.Root(n); (e == ok) != within || e != ok && (e != bad || r != "") {
				t.Errorf("root of %d leaves of %d: %x, %d", n, count, r, e)
			}
			for _, i := range all {
				if p, e := tree.Path(i, n); (e == ok) != (within && n > 0 && i >= 0 && i < n) || e != ok && (e != bad || len(p) != 0) {
					t.Errorf("path of leaf %d of %d: %x, %d", i, n, p, e)
				}
				if p, e := tree.Consistency(i, n); (e == ok) != (within && i >= 0 && i <= n) || e != ok && (e != bad || len(p) != 0) {
					t.Errorf("proof of %d leaves of %d: %x, %d", i, n, p, e)
				}
			}
		}
		for _, s := range []string{"", "x", strings.Repeat("x", 31), strings.Repeat("x", 33), strings.Repeat("x", 64)} {
			if i, e := tree.Add(s); i != 0 || e != bad {
				t.Errorf("Add of %d bytes: %d, %d", len(s), i, e)
			}
		}
		checkTree(t, tree, leaves)
		// A sum need not be that of anything.
		if i, e := tree.Add(strings.Repeat("x", 32)); i != count || e != ok {
			t.Errorf("Add of 32 bytes: %d, %d", i, e)
		}
	}
}

// P9.4: a tree has at most 2^20 leaves.
func TestFullTree(t *testing.T) {
	const most = 1 << 20
	a, b := leafOf("a"), leafOf("b")
	tree := merkle.New()
	// Subtrees of equal leaves have the same roots.
	root := a
	for i := range most {
		if index, e := tree.Add(a); index != i || e != ok {
			t.Fatalf("Add of leaf %d: %d, %d", i, index, e)
		}
		if count := i + 1; count&i == 0 {
			if r, e := tree.Root(count); e != ok || r != root {
				t.Fatalf("root of %d leaves: %d", count, e)
			}
			root = nodeOf(root, root)
		}
	}
	if i, e := tree.Add(b); i != 0 || e != large || tree.Len() != most {
		t.Errorf("Add of one leaf more: %d, %d", i, e)
	}
	if i, e := tree.Add(b[1:]); i != 0 || e != bad || tree.Len() != most {
		t.Errorf("Add of another string to a full tree: %d, %d", i, e)
	}
	if r, e := tree.Root(most + 1); e != bad || r != "" {
		t.Errorf("root of one leaf more: %x, %d", r, e)
	}
	r, e := tree.Root(most)
	if e != ok || nodeOf(r, r) != root {
		t.Errorf("root of all leaves: %d", e)
	}
	if path, e := tree.Path(most-1, most); e != ok || len(path) != 20 || path[0] != a || !merkle.Verify(a, most-1, most, path, r) {
		t.Errorf("path of the last leaf: %d", e)
	}
}

// P9.4: two trees are independent, and so are a tree and what it has returned.
func TestTreesAreIndependent(t *testing.T) {
	leaves := sample(7)
	tree, other := treeOf(t, leaves), merkle.New()
	if other.Len() != 0 {
		t.Fatal("a new tree is not empty")
	}
	if i, e := other.Add(leafOf("other")); i != 0 || e != ok {
		t.Fatal(i, e)
	}
	checkTree(t, tree, leaves)
	first, _ := tree.Path(2, 7)
	second, _ := tree.Path(2, 7)
	kept := slices.Clone(second)
	clear(first)
	if !slices.Equal(second, kept) {
		t.Error("two paths share memory")
	}
	third, _ := tree.Consistency(3, 7)
	fourth, _ := tree.Consistency(3, 7)
	kept = slices.Clone(fourth)
	clear(third)
	if !slices.Equal(fourth, kept) {
		t.Error("two proofs share memory")
	}
	checkTree(t, tree, leaves)
}

// P9.5, P9.7: proofs are accepted for their roots and numbers only.
func TestConsistent(t *testing.T) {
	const most = 20
	leaves := sample(most)
	tree := treeOf(t, leaves)
	for n := range most + 1 {
		for m := range n + 1 {
			proof, _ := tree.Consistency(m, n)
			old, new := rootOf(leaves[:m]), rootOf(leaves[:n])
			if !merkle.Consistent(m, n, old, new, proof) {
				t.Fatalf("%d leaves of %d are refused", m, n)
			}
			checkConsistentRefuses(t, m, n, old, new, proof)
			for j := range n + 1 {
				if is := merkle.Consistent(j, n, old, new, proof); is != consistent(j, n, old, new, proof) || is && j != m {
					t.Errorf("%d leaves of %d as %d: %t", m, n, j, is)
				}
			}
		}
	}
}

// checkConsistentRefuses fails if a changed proof or root is accepted, except the new root for m = 0.
func checkConsistentRefuses(t *testing.T, m, n int, old, new string, proof []string) {
	t.Helper()
	other := leafOf("other")
	if merkle.Consistent(m, n, other, new, proof) {
		t.Errorf("%d leaves of %d: another old root is accepted", m, n)
	}
	if merkle.Consistent(m, n, old, other, proof) != (m == 0 && n > 0) {
		t.Errorf("%d leaves of %d: another new root", m, n)
	}
	for _, s := range []string{other, old, new} {
		if merkle.Consistent(m, n, old, new, append(slices.Clone(proof), s)) || merkle.Consistent(m, n, old, new, append([]string{s}, proof...)) {
			t.Errorf("%d leaves of %d: a longer proof is accepted", m, n)
		}
	}
	for k := range proof {
		if merkle.Consistent(m, n, old, new, append(slices.Clone(proof[:k]), proof[k+1:]...)) {
			t.Errorf("%d leaves of %d: a proof without element %d is accepted", m, n, k)
		}
		for _, s := range []string{other, "", proof[k][:31], proof[k] + "\x00", old, new} {
			changed := slices.Clone(proof)
			changed[k] = s
			if s != proof[k] && merkle.Consistent(m, n, old, new, changed) {
				t.Errorf("%d leaves of %d: a proof with another element %d is accepted", m, n, k)
			}
		}
	}
}

// P9.5: any proofs, among them those for very great n, are decided as from below.
func TestConsistentAnyProof(t *testing.T) {
	random := newRandom()
	counts := []int{1, 2, 3, 4, 5, 6, 7, 8, 9, 31, 32, 33, 1 << 20, 1<<20 + 1, 1<<62 - 1, 1 << 62, 1<<62 + 1, math.MaxInt - 1, math.MaxInt}
	accepted := 0
	for range 400 {
		n := counts[random.IntN(len(counts))]
		m := 1 + random.IntN(n)
		switch random.IntN(4) {
		case 0:
			m = 1 << random.IntN(63)
			m = min(m, n)
		case 1:
			m = n - random.IntN(min(n, 4))
		}
		proof := sample(random.IntN(66))
		if random.IntN(4) > 0 {
			proof = sample(proofSteps(m, n, true))
		}
		old, new := leafOf("old"), leafOf("new")
		if first, second, fits := followBoth(m, n, true, old, proof); fits {
			old, new = first, second
		}
		is := merkle.Consistent(m, n, old, new, proof)
		if is != consistent(m, n, old, new, proof) {
			t.Fatalf("%d leaves of %d with a proof of %d: %t", m, n, len(proof), is)
		}
		if is {
			accepted++
			checkConsistentRefuses(t, m, n, old, new, proof)
		}
	}
	if accepted < 150 {
		t.Errorf("only %d proofs were accepted", accepted)
	}
}

// proofSteps returns the number of elements of a proof.
func proofSteps(m, n int, b bool) int {
	if m == n {
		if b {
			return 0
		}
		return 1
	}
	if k := splitOf(n); m > k {
		return 1 + proofSteps(m-k, n-k, false)
	} else {
		return 1 + proofSteps(m, k, b)
	}
}

// followBoth returns the roots that follow from a proof, and whether it has so many elements.
func followBoth(m, n int, b bool, old string, proof []string) (string, string, bool) {
	if m == n && b {
		return old, old, len(proof) == 0
	}
	if len(proof) == 0 {
		return "", "", false
	}
	end := last(proof)
	if m == n {
		return end, end, len(proof) == 1
	}
	k := splitOf(n)
	if m <= k {
		first, second, fits := followBoth(m, k, b, old, without(proof))
		return first, nodeOf(second, end), fits
	}
	first, second, fits := followBoth(m-k, n-k, false, old, without(proof))
	return nodeOf(end, first), nodeOf(end, second), fits
}

// P9.5, P1: numbers outside, no leaves, and strings that are no sums.
func TestConsistentInvalid(t *testing.T) {
	leaves := sample(3)
	proof, old, new, none := proofOf(leaves, 2, true), rootOf(leaves[:2]), rootOf(leaves), sum()
	for _, m := range numbers() {
		for _, n := range numbers() {
			if is := merkle.Consistent(m, n, old, new, proof); is != consistent(m, n, old, new, proof) || is && n > 3 {
				t.Errorf("%d leaves of %d: %t", m, n, is)
			}
			if is := merkle.Consistent(m, n, none, new, nil); is != (m == 0 && n > 0) {
				t.Errorf("no leaves as %d of %d: %t", m, n, is)
			}
			if is := merkle.Consistent(m, n, none, none, nil); is != (m >= 0 && (m == n || m == 0 && n > 0)) {
				t.Errorf("equal roots of %d and %d leaves: %t", m, n, is)
			}
			if is := merkle.Consistent(m, n, old, old, nil); is != (m == n && m > 0) {
				t.Errorf("equal roots of %d and %d leaves: %t", m, n, is)
			}
			if merkle.Consistent(m, n, "", "", nil) || merkle.Consistent(m, n, old, new, slices.Repeat([]string{old}, 1000)) {
				t.Errorf("%d leaves of %d: too much is accepted", m, n)
			}
		}
	}
	for _, s := range []string{"", "x", old[1:], old + "x", strings.Repeat("x", 64)} {
		if merkle.Consistent(2, 2, s, s, nil) || merkle.Consistent(0, 2, none, s, nil) || merkle.Consistent(0, 0, none, s, nil) || merkle.Consistent(0, 0, s, none, nil) || merkle.Consistent(0, 1, s, new, nil) {
			t.Errorf("a root of %d bytes is accepted", len(s))
		}
		if merkle.Consistent(2, 3, s, nodeOf(s, leaves[2]), proof) || merkle.Consistent(1, 2, old, nodeOf(old, s), []string{s}) {
			t.Errorf("a string of %d bytes is accepted", len(s))
		}
	}
	kept := slices.Clone(proof)
	merkle.Consistent(2, 3, old, new, proof)
	if !slices.Equal(proof, kept) {
		t.Error("Consistent has changed the proof")
	}
}

package shamir_test

import (
	"bytes"
	"fmt"
	"math"
	"slices"
	"testing"

	"kinkeep/api"
	"kinkeep/shamir"
)

// P10.1 to P10.4: the examples of the chapter.
func TestExamples(t *testing.T) {
	all, e := shamir.Split([]byte{7}, list{{2}}, []int{1, 2, 3})
	if e != ok || !same(all, shares{{X: 1, Data: []byte{5}}, {X: 2, Data: []byte{3}}, {X: 3, Data: []byte{1}}}) {
		t.Errorf("Split: %v, %d", all, e)
	}
	if secret, e := shamir.Combine(all[:2], 2); e != ok || !bytes.Equal(secret, []byte{7}) {
		t.Errorf("Combine: %v, %d", secret, e)
	}
	if s, e := shamir.Extend(all[:2], 2, 3); e != ok || s.X != 3 || !bytes.Equal(s.Data, []byte{1}) {
		t.Errorf("Extend: %v, %d", s, e)
	}
	spoilt := append(shares{{X: 1, Data: []byte{1}}}, all[1:]...)
	if is, e := shamir.Check(spoilt, 2); e != ok || is {
		t.Errorf("Check: %t, %d", is, e)
	}
	if wrong, e := shamir.Wrong(spoilt, 2); e != corrupt || len(wrong) != 0 {
		t.Errorf("Wrong: %v, %d", wrong, e)
	}
	if wrong, e := shamir.Wrong(append(spoilt, api.Share{X: 4, Data: []byte{15}}), 2); e != ok || !slices.Equal(wrong, []int{1}) {
		t.Errorf("Wrong: %v, %d", wrong, e)
	}
	if c, e := shamir.Fits([]byte{9}, all[:1], 2); e != ok || !sameLists(c, list{{12}}) {
		t.Errorf("Fits: %v, %d", c, e)
	}
	if n, e := shamir.Count(1, 3, false); e != ok || n != 65536 {
		t.Errorf("Count: %d, %d", n, e)
	}
	if n, e := shamir.Count(1, 2, true); e != ok || n != 1 {
		t.Errorf("Count: %d, %d", n, e)
	}
	if n, e := shamir.Count(0, 16, false); e != ok || n != api.MaxCount {
		t.Errorf("Count: %d, %d", n, e)
	}
}

// P10.1: all thresholds, with secrets of several lengths and elements in any order.
func TestSplit(t *testing.T) {
	random := newRandom()
	for threshold := 1; threshold <= 16; threshold++ {
		for _, length := range []int{0, 1, 3, 32} {
			for _, count := range []int{0, 1, threshold, 64} {
				secret, coefficients := sharing(random, length, threshold)
				xs := elements(random, count)
				keptSecret, keptLists, keptXs := bytes.Clone(secret), cloneLists(coefficients), slices.Clone(xs)
				all, e := shamir.Split(secret, coefficients, xs)
				if e != ok {
					t.Fatalf("threshold %d: %d", threshold, e)
				}
				checkShares(t, "Split", all, sharesOf(secret, coefficients, xs))
				if !bytes.Equal(secret, keptSecret) || !sameLists(coefficients, keptLists) || !slices.Equal(xs, keptXs) {
					t.Fatal("an argument has changed")
				}
			}
		}
	}
	secret, coefficients := sharing(random, 1024, 16)
	all, e := shamir.Split(secret, coefficients, upTo(64))
	if e != ok {
		t.Fatal(e)
	}
	checkShares(t, "Split", all, sharesOf(secret, coefficients, upTo(64)))
	// Leading coefficients of 0 do not lower the threshold.
	all, e = shamir.Split([]byte{1, 2}, list{{0, 0}, {0, 0}}, []int{255, 1})
	if e != ok || !same(all, shares{{X: 255, Data: []byte{1, 2}}, {X: 1, Data: []byte{1, 2}}}) {
		t.Errorf("Split of constants: %v, %d", all, e)
	}
}

// P10.1, P1
func TestSplitErrors(t *testing.T) {
	long := make([]byte, 1025)
	for i, c := range []struct {
		secret       []byte
		coefficients list
		xs           []int
		e            api.Errno
	}{
		{nil, nil, nil, ok}, {[]byte{}, list{}, []int{}, ok}, {nil, list{nil, {}}, []int{1}, ok}, {[]byte{1}, nil, []int{1, 255}, ok}, {long[1:], list{long[1:]}, []int{1}, ok},
		{[]byte{1}, slices.Repeat(list{{1}}, 15), upTo(64), ok}, {long, list{long}, []int{1}, large}, {long, nil, nil, large}, {long, slices.Repeat(list{long}, 15), upTo(64), large},
		{[]byte{1}, slices.Repeat(list{{1}}, 16), []int{1}, bad}, {nil, make(list, 16), nil, bad}, {nil, make(list, 100000), nil, bad},
		{[]byte{1}, list{{}}, []int{1}, bad}, {[]byte{1}, list{nil}, nil, bad}, {[]byte{1}, list{{1, 2}}, []int{1}, bad}, {nil, list{{1}}, []int{1}, bad}, {[]byte{1}, list{{1}, {1}, {1, 2}}, []int{1}, bad}, {[]byte{1, 2}, list{{1}, {1, 2}}, []int{1}, bad},
		{[]byte{1}, nil, upTo(65), bad}, {[]byte{1}, nil, upTo(100000), bad}, {[]byte{1}, nil, make([]int, 65), bad},
		{[]byte{1}, nil, []int{0}, bad}, {[]byte{1}, nil, []int{256}, bad}, {[]byte{1}, nil, []int{-1}, bad}, {[]byte{1}, nil, []int{1, 2, 257}, bad}, {[]byte{1}, nil, []int{math.MinInt}, bad}, {[]byte{1}, nil, []int{math.MaxInt}, bad}, {[]byte{1}, nil, []int{1<<32 + 1}, bad},
		{[]byte{1}, nil, []int{1, 1}, bad}, {[]byte{1}, nil, []int{5, 1, 2, 255, 5}, bad}, {nil, nil, []int{255, 255}, bad},
		// ErrArgument comes first.
		{long, list{{1}}, []int{1}, bad}, {long, list{long[1:]}, []int{1}, bad}, {long, nil, []int{0}, bad}, {long, nil, []int{1, 1}, bad}, {long, slices.Repeat(list{long}, 16), nil, bad}, {long, nil, upTo(65), bad},
	} {
		all, e := shamir.Split(c.secret, c.coefficients, c.xs)
		if e != c.e || e == ok && len(all) != len(c.xs) || e != ok && len(all) != 0 {
			t.Errorf("case %d: %v, %d", i, all, e)
		}
	}
}

// request is what four functions are called with: c is the error that Combine and Extend return, w that of Wrong.
type request struct {
	all       shares
	threshold int
	c, w      api.Errno
	agree     bool
}

// requests returns some, valid and invalid.
func requests() []request {
	long := make([]byte, 1025)
	one := func(xs ...int) (all shares) {
		for _, x := range xs {
			all = append(all, api.Share{X: x, Data: []byte{1}})
		}
		return all
	}
	return []request{
		{one(1), 1, ok, ok, true}, {one(255, 1), 2, ok, ok, true}, {one(255, 1), 1, ok, ok, true}, {one(upTo(64)...), 16, ok, ok, true}, {one(upTo(64)...), 1, ok, ok, true}, {shares{{X: 1, Data: nil}, {X: 2, Data: []byte{}}}, 2, ok, ok, true}, {shares{{X: 1, Data: nil}, {X: 2, Data: nil}, {X: 3, Data: nil}}, 1, ok, ok, true},
		{shares{{X: 1, Data: long[1:]}, {X: 2, Data: long[1:]}}, 2, ok, ok, true}, {shares{{X: 1, Data: []byte{1}}, {X: 2, Data: []byte{2}}}, 2, ok, ok, true},
		{shares{{X: 1, Data: []byte{1}}, {X: 2, Data: []byte{2}}}, 1, conflict, corrupt, false}, {shares{{X: 1, Data: []byte{1}}, {X: 2, Data: []byte{2}}, {X: 3, Data: []byte{2}}}, 2, conflict, corrupt, false},
		{nil, 1, short, short, true}, {shares{}, 16, short, short, true}, {one(1), 2, short, short, true}, {one(upTo(15)...), 16, short, short, true}, {shares{{X: 1, Data: nil}}, 2, short, short, true},
		// Other thresholds.
		{one(1), 0, bad, bad, false}, {one(1), -1, bad, bad, false}, {one(upTo(64)...), 17, bad, bad, false}, {one(1), 17, bad, bad, false}, {nil, 0, bad, bad, false}, {nil, math.MinInt, bad, bad, false}, {nil, math.MaxInt, bad, bad, false}, {one(1), 1 << 32, bad, bad, false}, {one(1), 1<<32 + 1, bad, bad, false},
		// Other elements.
		{one(0), 1, bad, bad, false}, {one(256), 1, bad, bad, false}, {one(-1), 1, bad, bad, false}, {one(1, 2, 257), 2, bad, bad, false}, {one(1, math.MaxInt), 1, bad, bad, false}, {one(math.MinInt), 1, bad, bad, false}, {one(1<<32 + 1), 1, bad, bad, false},
		{one(1, 1), 1, bad, bad, false}, {one(7, 2, 255, 7), 2, bad, bad, false}, {one(3, 3), 3, bad, bad, false}, {one(upTo(65)...), 2, bad, bad, false}, {one(upTo(255)...), 2, bad, bad, false}, {make(shares, 100000), 2, bad, bad, false},
		// Other data.
		{shares{{X: 1, Data: []byte{1}}, {X: 2, Data: []byte{1, 2}}}, 1, bad, bad, false}, {shares{{X: 1, Data: []byte{1, 2}}, {X: 2, Data: []byte{1}}}, 1, bad, bad, false}, {shares{{X: 1, Data: nil}, {X: 2, Data: []byte{1}}}, 1, bad, bad, false}, {shares{{X: 1, Data: []byte{1}}, {X: 2, Data: nil}}, 1, bad, bad, false},
		{shares{{X: 1, Data: []byte{1}}, {X: 2, Data: []byte{1}}, {X: 3, Data: []byte{}}}, 2, bad, bad, false}, {shares{{X: 1, Data: long}}, 1, bad, bad, false}, {shares{{X: 1, Data: long}, {X: 2, Data: long}}, 2, bad, bad, false}, {shares{{X: 1, Data: long[1:]}, {X: 2, Data: long}}, 2, bad, bad, false},
		// ErrArgument comes first.
		{one(0), 2, bad, bad, false}, {one(1, 1), 16, bad, bad, false}, {shares{{X: 1, Data: long}}, 2, bad, bad, false}, {shares{{X: 1, Data: []byte{1}}, {X: 2, Data: nil}}, 3, bad, bad, false},
		{shares{{X: 1, Data: []byte{1}}, {X: 2, Data: []byte{2}}, {X: 2, Data: []byte{3}}}, 1, bad, bad, false}, {shares{{X: 1, Data: []byte{1}}, {X: 2, Data: []byte{2}}, {X: 0, Data: []byte{3}}}, 1, bad, bad, false},
	}
}

// P10.2, P10.3, P1
func TestErrorsOfGivenShares(t *testing.T) {
	for i, r := range requests() {
		kept := clone(r.all)
		if secret, e := shamir.Combine(r.all, r.threshold); e != r.c || e == ok && len(secret) != len(r.all[0].Data) || e != ok && len(secret) != 0 {
			t.Errorf("Combine, request %d: %v, %d", i, secret, e)
		}
		want := ok
		if r.c == bad {
			want = bad
		}
		if is, e := shamir.Check(r.all, r.threshold); e != want || is != r.agree {
			t.Errorf("Check, request %d: %t, %d", i, is, e)
		}
		if wrong, e := shamir.Wrong(r.all, r.threshold); e != r.w || len(wrong) != 0 {
			t.Errorf("Wrong, request %d: %v, %d", i, wrong, e)
		}
		for _, x := range numbers() {
			want := r.c
			if x < 1 || x > 255 {
				want = bad
			}
			s, e := shamir.Extend(r.all, r.threshold, x)
			if e != want || e == ok && (s.X != x || len(s.Data) != len(r.all[0].Data)) || e != ok && (s.X != 0 || len(s.Data) != 0) {
				t.Errorf("Extend to %d, request %d: %v, %d", x, i, s, e)
			}
		}
		if !same(r.all, kept) {
			t.Fatal("an argument has changed")
		}
	}
}

// P10.2, P10.6: any threshold shares, and more, give the secret and all other shares.
func TestCombineAndExtend(t *testing.T) {
	random := newRandom()
	for threshold := 1; threshold <= 16; threshold++ {
		for _, count := range []int{threshold, threshold + 1, 2*threshold + 1, 64} {
			for _, length := range []int{0, 1, 5} {
				secret, coefficients := sharing(random, length, threshold)
				all := sharesOf(secret, coefficients, elements(random, count))
				checkSharing(t, all, threshold, secret, coefficients)
			}
		}
	}
	secret, coefficients := sharing(random, 1024, 16)
	checkSharing(t, sharesOf(secret, coefficients, elements(random, 64)), 16, secret, coefficients)
}

// checkSharing fails unless the shares are taken for those of a sharing.
func checkSharing(t *testing.T, all shares, threshold int, secret []byte, coefficients list) {
	t.Helper()
	kept := clone(all)
	got, e := shamir.Combine(all, threshold)
	if e != ok || !bytes.Equal(got, secret) {
		t.Fatalf("Combine of %d shares, threshold %d: %v, %d", len(all), threshold, got, e)
	}
	for i := range got {
		got[i]++
	}
	if is, e := shamir.Check(all, threshold); e != ok || !is {
		t.Fatalf("Check of %d shares, threshold %d: %t, %d", len(all), threshold, is, e)
	}
	if wrong, e := shamir.Wrong(all, threshold); e != ok || len(wrong) != 0 {
		t.Fatalf("Wrong of %d shares, threshold %d: %v, %d", len(all), threshold, wrong, e)
	}
	// The last one is given already.
	for _, x := range []int{1, 2, 128, 255, all[len(all)-1].X} {
		s, e := shamir.Extend(all, threshold, x)
		if e != ok {
			t.Fatalf("Extend to %d of %d shares, threshold %d: %d", x, len(all), threshold, e)
		}
		checkShares(t, "Extend", shares{s}, shares{shareOf(secret, coefficients, x)})
	}
	if !same(all, kept) {
		t.Fatal("an argument has changed")
	}
}

// P10.2: one wrong byte of any share is a conflict if there are more shares than the threshold.
func TestConflicts(t *testing.T) {
	random := newRandom()
	for threshold := 1; threshold <= 16; threshold++ {
		for _, count := range []int{threshold, threshold + 1, threshold + 2, threshold + 7} {
			secret, coefficients := sharing(random, 4, threshold)
			right := sharesOf(secret, coefficients, elements(random, count))
			for i := range right {
				all := clone(right)
				spoil(random, all[i])
				is, e := shamir.Check(all, threshold)
				if e != ok || is != (count == threshold) {
					t.Errorf("Check of %d shares, threshold %d: %t, %d", count, threshold, is, e)
				}
				want := conflict
				if is {
					want = ok
				}
				if got, e := shamir.Combine(all, threshold); e != want || e == ok && bytes.Equal(got, secret) || e != ok && len(got) != 0 {
					t.Errorf("Combine of %d shares, threshold %d: %v, %d", count, threshold, got, e)
				}
				if s, e := shamir.Extend(all, threshold, all[0].X); e != want || e == ok && !same(shares{s}, all[:1]) || e != ok && (s.X != 0 || len(s.Data) != 0) {
					t.Errorf("Extend of %d shares, threshold %d: %v, %d", count, threshold, s, e)
				}
			}
		}
	}
	// Shares of a sharing with a greater threshold do not agree with one of less.
	secret, coefficients := []byte{1, 2}, list{{0, 0}, {0, 1}}
	all := sharesOf(secret, coefficients, upTo(4))
	for threshold := 1; threshold <= 4; threshold++ {
		if is, e := shamir.Check(all, threshold); e != ok || is != (threshold >= 3) {
			t.Errorf("Check, threshold %d: %t, %d", threshold, is, e)
		}
	}
}

// P10.3: all numbers of wrong shares up to the half of those beyond the threshold, with bytes that are wrong together or each for itself.
func TestWrong(t *testing.T) {
	random := newRandom()
	for _, c := range [][3]int{{1, 1, 3}, {1, 3, 2}, {1, 4, 2}, {1, 64, 3}, {2, 4, 1}, {2, 5, 6}, {2, 6, 6}, {3, 9, 4}, {5, 12, 3}, {8, 20, 9}, {15, 33, 3}, {16, 16, 3}, {16, 17, 2}, {16, 18, 2}, {16, 63, 5}, {16, 64, 5}} {
		threshold, count, length := c[0], c[1], c[2]
		for number := range (count-threshold)/2 + 1 {
			for all := range 3 {
				secret, coefficients := sharing(random, length, threshold)
				xs := elements(random, count)
				given := sharesOf(secret, coefficients, xs)
				var want []int
				for _, i := range random.Perm(count)[:number] {
					spoil(random, given[i])
					for range all * length {
						spoil(random, given[i])
					}
					if !same(given[i:i+1], sharesOf(secret, coefficients, xs[i:i+1])) {
						want = append(want, xs[i])
					}
				}
				slices.Sort(want)
				kept := clone(given)
				wrong, e := shamir.Wrong(given, threshold)
				if e != ok || !slices.Equal(wrong, want) {
					t.Errorf("%d wrong ones of %d, threshold %d: %v instead of %v, %d", number, count, threshold, wrong, want, e)
				}
				if !same(given, kept) {
					t.Fatal("an argument has changed")
				}
			}
		}
	}
}

// P10.3: the greatest request, with as many wrong shares as possible, each of which is wrong at a byte of its own.
func TestWrongAtDifferentBytes(t *testing.T) {
	random := newRandom()
	secret, coefficients := sharing(random, 1024, 16)
	given := sharesOf(secret, coefficients, upTo(64))
	for i := range 24 {
		given[2*i].Data[1023-40*i] ^= byte(i + 1)
	}
	wrong, e := shamir.Wrong(given, 16)
	want := make([]int, 24)
	for i := range want {
		want[i] = 2*i + 1
	}
	if e != ok || !slices.Equal(wrong, want) {
		t.Errorf("%v, %d", wrong, e)
	}
	given[1].Data[500] ^= 1
	if wrong, e := shamir.Wrong(given, 16); e != corrupt || len(wrong) != 0 {
		t.Errorf("one more: %v, %d", wrong, e)
	}
}

// nearest searches all sharings of one byte with a threshold from 1 to 2, by the definition, and returns the elements that do not agree.
func nearest(all shares, threshold, most int) (wrong []int, found bool) {
	lines := 1
	if threshold == 2 {
		lines = 256
	}
	for secret := range 256 {
		for slope := range lines {
			var differ []int
			for _, s := range all {
				if valueAt(byte(secret), []byte{byte(slope)}, byte(s.X)) != s.Data[0] {
					differ = append(differ, s.X)
				}
			}
			if len(differ) <= most {
				slices.Sort(differ)
				return differ, true
			}
		}
	}
	return nil, false
}

// P10.3: any shares of few values are decided as by a search among all sharings.
func TestWrongOfAnyShares(t *testing.T) {
	random := newRandom()
	counts := map[api.Errno]int{}
	for range 300 {
		threshold := 1 + random.IntN(2)
		count := threshold + random.IntN(6)
		all := shares{}
		for _, x := range random.Perm(7)[:count] {
			all = append(all, api.Share{X: x + 1, Data: []byte{byte(random.IntN(3))}})
		}
		want, found := nearest(all, threshold, (count-threshold)/2)
		wrong, e := shamir.Wrong(all, threshold)
		if found && (e != ok || !slices.Equal(wrong, want)) || !found && (e != corrupt || len(wrong) != 0) {
			t.Errorf("%v, threshold %d: %v instead of %v, %d", all, threshold, wrong, want, e)
		}
		counts[e]++
	}
	if counts[ok] < 30 || counts[corrupt] < 30 {
		t.Errorf("too few of a kind: %v", counts)
	}
}

// P10.3: two bytes that each have few enough wrong shares may have too many together.
func TestWrongOfAllBytes(t *testing.T) {
	given := sharesOf([]byte{1, 2}, list{{3, 4}}, upTo(6))
	given[0].Data[0]++
	given[1].Data[1]++
	if wrong, e := shamir.Wrong(given, 2); e != ok || !slices.Equal(wrong, []int{1, 2}) {
		t.Errorf("two wrong ones: %v, %d", wrong, e)
	}
	given[2].Data[0]++
	if wrong, e := shamir.Wrong(given, 2); e != corrupt || len(wrong) != 0 {
		t.Errorf("three wrong ones: %v, %d", wrong, e)
	}
	given[2].Data[0]--
	given[2].Data[1]++
	if wrong, e := shamir.Wrong(given, 2); e != corrupt || len(wrong) != 0 {
		t.Errorf("three other wrong ones: %v, %d", wrong, e)
	}
	// Each byte alone.
	for b := range 2 {
		var part shares
		for _, s := range given {
			part = append(part, api.Share{X: s.X, Data: s.Data[b : b+1]})
		}
		if _, e := shamir.Wrong(part, 2); e != ok {
			t.Errorf("byte %d: %d", b, e)
		}
	}
}

// P10.4, P10.6
func TestFits(t *testing.T) {
	random := newRandom()
	for threshold := 1; threshold <= 16; threshold++ {
		for _, length := range []int{0, 1, 5, 40} {
			_, coefficients := sharing(random, length, threshold)
			secret, other := sample(random, length), sample(random, length)
			all := sharesOf(secret, coefficients, elements(random, threshold-1))
			kept, keptSecret := clone(all), bytes.Clone(other)
			if got, e := shamir.Fits(secret, all, threshold); e != ok || !sameLists(got, coefficients) {
				t.Errorf("threshold %d: %v instead of %v, %d", threshold, got, coefficients, e)
			}
			got, e := shamir.Fits(other, all, threshold)
			if e != ok || len(got) != threshold-1 {
				t.Fatalf("threshold %d, another secret: %v, %d", threshold, got, e)
			}
			xs := make([]int, len(all))
			for i, s := range all {
				xs[i] = s.X
			}
			if again, e := shamir.Split(other, got, xs); e != ok || !same(again, all) {
				t.Errorf("threshold %d, another secret: %v instead of %v, %d", threshold, again, all, e)
			}
			copied := cloneLists(got)
			for j := range got {
				for b := range got[j] {
					got[j][b]++
				}
				_ = append(got[j], 1)
				if !sameLists(got[j+1:], copied[j+1:]) {
					t.Fatal("lists share memory")
				}
			}
			if !same(all, kept) || !bytes.Equal(other, keptSecret) {
				t.Fatal("an argument has changed")
			}
		}
	}
	if got, e := shamir.Fits(make([]byte, 1024), shares{{X: 1, Data: make([]byte, 1024)}}, 2); e != ok || !sameLists(got, list{make([]byte, 1024)}) {
		t.Errorf("the longest secret: %d", e)
	}
}

// P10.4, P10.6: for two shares with the threshold 3, each secret has its own coefficients.
func TestFitsForEverySecret(t *testing.T) {
	all := shares{{X: 200, Data: []byte{17}}, {X: 3, Data: []byte{99}}}
	seen := map[[2]byte]bool{}
	for secret := range 256 {
		got, e := shamir.Fits([]byte{byte(secret)}, all, 3)
		if e != ok || len(got) != 2 || len(got[0]) != 1 || len(got[1]) != 1 {
			t.Fatalf("secret %d: %v, %d", secret, got, e)
		}
		for _, s := range all {
			if valueAt(byte(secret), []byte{got[0][0], got[1][0]}, byte(s.X)) != s.Data[0] {
				t.Errorf("secret %d: %v does not agree at %d", secret, got, s.X)
			}
		}
		seen[[2]byte{got[0][0], got[1][0]}] = true
	}
	if len(seen) != 256 {
		t.Errorf("%d choices instead of 256", len(seen))
	}
}

// P10.4, P1
func TestFitsErrors(t *testing.T) {
	long := make([]byte, 1025)
	one := []byte{1}
	for i, c := range []struct {
		secret    []byte
		all       shares
		threshold int
		e         api.Errno
	}{
		{one, nil, 1, ok}, {nil, nil, 1, ok}, {long[1:], shares{}, 1, ok}, {one, shares{{X: 1, Data: one}}, 2, ok}, {nil, shares{{X: 1, Data: nil}}, 2, ok}, {[]byte{}, shares{{X: 255, Data: nil}, {X: 1, Data: []byte{}}}, 3, ok},
		{one, shares{{X: 1, Data: one}}, 1, bad}, {one, nil, 2, bad}, {one, shares{{X: 1, Data: one}}, 3, bad}, {one, shares{{X: 1, Data: one}, {X: 2, Data: one}}, 2, bad}, {nil, nil, 16, bad},
		{one, nil, 0, bad}, {one, nil, -1, bad}, {one, nil, 17, bad}, {one, nil, math.MinInt, bad}, {one, nil, math.MaxInt, bad}, {one, nil, 1<<32 + 1, bad},
		{one, shares{{X: 1, Data: nil}}, 2, bad}, {one, shares{{X: 1, Data: []byte{1, 2}}}, 2, bad}, {nil, shares{{X: 1, Data: one}}, 2, bad}, {[]byte{1, 2}, shares{{X: 1, Data: one}}, 2, bad}, {one, shares{{X: 1, Data: one}, {X: 2, Data: nil}}, 3, bad}, {one, shares{{X: 1, Data: nil}, {X: 2, Data: one}}, 3, bad}, {one, shares{{X: 1, Data: nil}, {X: 2, Data: nil}}, 3, bad},
		{one, shares{{X: 0, Data: one}}, 2, bad}, {one, shares{{X: 256, Data: one}}, 2, bad}, {one, shares{{X: -1, Data: one}}, 2, bad}, {one, shares{{X: 5, Data: one}, {X: 5, Data: one}}, 3, bad}, {one, shares{{X: 1<<32 + 1, Data: one}}, 2, bad}, {one, shares{{X: math.MinInt, Data: one}}, 2, bad},
		{long, nil, 1, bad}, {long, shares{{X: 1, Data: long}}, 2, bad}, {long[1:], shares{{X: 1, Data: long}}, 2, bad}, {long, shares{{X: 1, Data: long[1:]}}, 2, bad}, {one, make(shares, 100000), 100001, bad},
	} {
		got, e := shamir.Fits(c.secret, c.all, c.threshold)
		if e != c.e || e == ok && len(got) != c.threshold-1 || e != ok && len(got) != 0 {
			t.Errorf("case %d: %v, %d", i, got, e)
		}
	}
}

// P10.4, P1
func TestCount(t *testing.T) {
	for _, n := range append(numbers(), upTo(64)...) {
		for _, threshold := range append(numbers(), upTo(16)...) {
			for _, known := range []bool{false, true} {
				want, wantError := 1, ok
				given := n
				if known {
					given++
				}
				if n < 0 || n > 64 || threshold < 1 || threshold > 16 {
					want, wantError = 0, bad
				} else if given < threshold {
					want = 1 << min(40, 8*(threshold-given))
				}
				if got, e := shamir.Count(n, threshold, known); got != want || e != wantError {
					t.Errorf("Count(%d, %d, %t): %d, %d", n, threshold, known, got, e)
				}
			}
		}
	}
}

// P10.4: counted among all polynomials of a degree less than 2.
func TestCountOfAll(t *testing.T) {
	for given := range 3 {
		for _, known := range []bool{false, true} {
			count := 0
			for c := range 256 {
				for f := range 256 {
					fits := !known || c == 77
					// Values of the polynomial 77 + 5x.
					for x := 1; x <= given; x++ {
						fits = fits && valueAt(byte(c), []byte{byte(f)}, byte(x)) == valueAt(77, []byte{5}, byte(x))
					}
					if fits {
						count++
					}
				}
			}
			if got, e := shamir.Count(given, 2, known); e != ok || got != count {
				t.Errorf("%d values, %t: %d instead of %d, %d", given, known, got, count, e)
			}
		}
	}
}

// P10.5, P10.6: refreshed shares are those of the sum of two sharings, with the same secret.
func TestRefresh(t *testing.T) {
	random := newRandom()
	for threshold := 1; threshold <= 16; threshold++ {
		for _, length := range []int{0, 1, 6} {
			secret, coefficients := sharing(random, length, threshold)
			_, others := sharing(random, length, threshold)
			all := sharesOf(secret, coefficients, elements(random, threshold+3))
			kept, keptLists := clone(all), cloneLists(others)
			fresh, e := shamir.Refresh(all, others)
			if e != ok {
				t.Fatalf("threshold %d: %d", threshold, e)
			}
			if got, e := shamir.Combine(fresh, threshold); e != ok || !bytes.Equal(got, secret) {
				t.Errorf("threshold %d: %v instead of %v, %d", threshold, got, secret, e)
			}
			sum := cloneLists(coefficients)
			for j := range sum {
				for b := range sum[j] {
					sum[j][b] ^= others[j][b]
				}
			}
			want := shares{}
			for _, s := range all {
				want = append(want, shareOf(secret, sum, s.X))
			}
			checkShares(t, fmt.Sprint("Refresh, threshold ", threshold), fresh, want)
			if !same(all, kept) || !sameLists(others, keptLists) {
				t.Fatal("an argument has changed")
			}
		}
	}
}

// P10.5, P1
func TestRefreshErrors(t *testing.T) {
	long, one := make([]byte, 1025), []byte{1}
	for i, c := range []struct {
		all          shares
		coefficients list
		e            api.Errno
	}{
		{nil, nil, ok}, {shares{}, list{{1}, nil, {1, 2}, long}, ok}, {nil, make(list, 15), ok}, {shares{{X: 1, Data: one}}, nil, ok}, {shares{{X: 1, Data: one}}, list{{0}}, ok}, {shares{{X: 1, Data: nil}, {X: 2, Data: nil}}, list{nil, {}}, ok}, {shares{{X: 1, Data: long[1:]}}, list{long[1:]}, ok}, {shares{{X: 255, Data: one}}, slices.Repeat(list{one}, 15), ok},
		{nil, make(list, 16), bad}, {shares{{X: 1, Data: one}}, slices.Repeat(list{one}, 16), bad}, {shares{{X: 1, Data: nil}}, make(list, 100000), bad},
		{shares{{X: 1, Data: one}}, list{nil}, bad}, {shares{{X: 1, Data: one}}, list{{1, 2}}, bad}, {shares{{X: 1, Data: one}}, list{one, one, {}}, bad}, {shares{{X: 1, Data: nil}}, list{one}, bad}, {shares{{X: 1, Data: nil}}, list{nil, one}, bad},
		{shares{{X: 0, Data: one}}, list{one}, bad}, {shares{{X: 256, Data: one}}, list{one}, bad}, {shares{{X: -1, Data: one}}, nil, bad}, {shares{{X: 1, Data: one}, {X: 1, Data: one}}, list{one}, bad}, {shares{{X: 1<<32 + 1, Data: one}}, nil, bad}, {shares{{X: math.MinInt, Data: one}}, nil, bad}, {shares{{X: math.MaxInt, Data: one}}, nil, bad},
		{shares{{X: 1, Data: one}, {X: 2, Data: nil}}, nil, bad}, {shares{{X: 1, Data: nil}, {X: 2, Data: one}}, nil, bad}, {shares{{X: 1, Data: long}}, nil, bad}, {shares{{X: 1, Data: long}}, list{long}, bad}, {make(shares, 65), nil, bad}, {sharesOf(one, nil, upTo(65)), nil, bad},
	} {
		fresh, e := shamir.Refresh(c.all, c.coefficients)
		if e != c.e || e == ok && len(fresh) != len(c.all) || e != ok && len(fresh) != 0 {
			t.Errorf("case %d: %v, %d", i, fresh, e)
		}
	}
	// Without coefficients the shares stay as they are, in memory of their own.
	all := shares{{X: 9, Data: []byte{1, 2}}, {X: 4, Data: []byte{3, 4}}}
	fresh, e := shamir.Refresh(all, nil)
	if e != ok {
		t.Fatal(e)
	}
	checkShares(t, "Refresh without coefficients", fresh, clone(all))
	if !same(all, shares{{X: 9, Data: []byte{1, 2}}, {X: 4, Data: []byte{3, 4}}}) {
		t.Error("a result shares memory with an argument")
	}
}

// P10.6: shares of two sharings add up to shares of the sum.
func TestSharesAddUp(t *testing.T) {
	random := newRandom()
	for threshold := 1; threshold <= 6; threshold++ {
		a, c := sharing(random, 5, threshold)
		b, d := sharing(random, 5, threshold)
		first, _ := shamir.Split(a, c, upTo(8))
		second, _ := shamir.Split(b, d, upTo(8))
		for i := range first {
			for k := range first[i].Data {
				first[i].Data[k] ^= second[i].Data[k]
			}
		}
		for k := range a {
			a[k] ^= b[k]
		}
		if got, e := shamir.Combine(first[8-threshold:], threshold); e != ok || !bytes.Equal(got, a) {
			t.Errorf("threshold %d: %v instead of %v, %d", threshold, got, a, e)
		}
		if is, e := shamir.Check(first, threshold); e != ok || !is {
			t.Errorf("threshold %d: %t, %d", threshold, is, e)
		}
	}
}

// P1: arguments at random, of which few are valid.
func TestAnyArguments(t *testing.T) {
	random := newRandom()
	any := numbers()
	for range 3000 {
		all := make(shares, random.IntN(8))
		for i := range all {
			all[i] = api.Share{X: random.IntN(8), Data: sample(random, 1+random.IntN(20)/19)}
			if random.IntN(20) == 0 {
				all[i].X = any[random.IntN(len(any))]
			}
		}
		lists := make(list, random.IntN(4))
		for i := range lists {
			lists[i] = sample(random, 1+random.IntN(20)/19)
		}
		n, x := any[random.IntN(len(any))], any[random.IntN(len(any))]
		if random.IntN(2) == 0 {
			n = 1 + random.IntN(4)
		}
		got, e := shamir.Combine(all, n)
		s, extendError := shamir.Extend(all, n, x)
		is, checkError := shamir.Check(all, n)
		wrong, wrongError := shamir.Wrong(all, n)
		if e != ok && len(got) != 0 || extendError != ok && (s.X != 0 || len(s.Data) != 0) || checkError != ok && is || wrongError != ok && len(wrong) != 0 {
			t.Fatalf("%v, %d: results with errors", all, n)
		}
		// Each of them says the same about the shares.
		if (e == bad) != (checkError == bad) || (e == short) != (wrongError == short) || (e == ok) != (checkError == ok && is && wrongError == ok && len(wrong) == 0) {
			t.Fatalf("%v, %d: %d, %d, %d", all, n, e, checkError, wrongError)
		}
		if fits, e := shamir.Fits(sample(random, 1), all, n); e != ok && len(fits) != 0 {
			t.Fatalf("Fits: %v, %d", fits, e)
		}
		if fresh, e := shamir.Refresh(all, lists); e != ok && len(fresh) != 0 {
			t.Fatalf("Refresh: %v, %d", fresh, e)
		}
		if split, e := shamir.Split(sample(random, 1), lists, []int{n, x}); e != ok && len(split) != 0 {
			t.Fatalf("Split: %v, %d", split, e)
		}
	}
}

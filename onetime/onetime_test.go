package onetime_test

import (
	"encoding/hex"
	"math"
	"slices"
	"strings"
	"testing"

	"kinkeep/onetime"
)

// P12.1, P12.2, P12.5: the examples of the chapter.
func TestExamples(t *testing.T) {
	for _, c := range []struct {
		p      params
		digest string
		digits []int
	}{
		{params{Bits: 4, Size: 1}, "\x3c", []int{3, 12, 0, 15}},
		{params{Bits: 1, Size: 1}, "\x80", []int{1, 0, 0, 0, 0, 0, 0, 0, 0, 1, 1, 1}},
		{params{Bits: 2, Size: 1}, "\x1b", []int{0, 1, 2, 3, 1, 2}},
		{params{Bits: 8, Size: 2}, "\x01\x00", []int{1, 0, 1, 253}},
	} {
		if digits, e := onetime.Digits(c.p, c.digest); e != ok || !slices.Equal(digits, c.digits) {
			t.Errorf("%v: Digits: %v, %d", c.p, digits, e)
		}
		if n := onetime.Chains(c.p); n != len(c.digits) {
			t.Errorf("%v: Chains: %d", c.p, n)
		}
	}
	if n := onetime.Chains(params{Bits: 8, Size: 32}); n != 34 {
		t.Errorf("Chains: %d", n)
	}
	p := params{Bits: 4, Size: 1}
	if is, e := onetime.Covers(p, "\x3c", "\x3c"); e != ok || !is {
		t.Errorf("Covers: %t, %d", is, e)
	}
	if is, e := onetime.Covers(p, "\x3c", "\x3d"); e != ok || is {
		t.Errorf("Covers: %t, %d", is, e)
	}
	for first := range 5 {
		x := counting(first, 32)
		if y, e := onetime.Chain(0, 5, 5, x); e != ok || y != x {
			t.Errorf("Chain: %x, %d", y, e)
		}
	}
}

// P12.1, P1
func TestValid(t *testing.T) {
	valid := map[params]bool{}
	for _, p := range allParams() {
		valid[p] = true
	}
	candidates := append(invalidParams(), allParams()...)
	for bits := -3; bits <= 20; bits++ {
		for size := -3; size <= 40; size++ {
			candidates = append(candidates, params{Bits: bits, Size: size})
		}
	}
	for _, p := range candidates {
		if is := onetime.Valid(p); is != valid[p] {
			t.Errorf("%v: Valid: %t", p, is)
		}
		want := 0
		if valid[p] {
			want = len(digitsOf(p, strings.Repeat("x", p.Size)))
		}
		if n := onetime.Chains(p); n != want {
			t.Errorf("%v: Chains: %d", p, n)
		}
	}
}

// P12.1: the numbers of chains, among them those where one digest byte more needs one more digit of the checksum.
func TestChains(t *testing.T) {
	for bits, want := range map[int][]int{
		1: {12, 21, 29, 38, 46, 54, 62, 71, 79, 87, 95, 103, 111, 119, 127, 136, 144, 152, 160, 168, 176, 184, 192, 200, 208, 216, 224, 232, 240, 248, 256, 265},
		2: {6, 11, 15, 19, 23, 28, 32, 36, 40, 44, 48, 52, 56, 60, 64, 68, 72, 76, 80, 84, 88, 93, 97, 101, 105, 109, 113, 117, 121, 125, 129, 133},
		4: {4, 6, 8, 10, 12, 14, 16, 18, 21, 23, 25, 27, 29, 31, 33, 35, 37, 39, 41, 43, 45, 47, 49, 51, 53, 55, 57, 59, 61, 63, 65, 67},
		8: {2, 4, 5, 6, 7, 8, 9, 10, 11, 12, 13, 14, 15, 16, 17, 18, 19, 20, 21, 22, 23, 24, 25, 26, 27, 28, 29, 30, 31, 32, 33, 34},
	} {
		for i, n := range want {
			if got := onetime.Chains(params{Bits: bits, Size: i + 1}); got != n {
				t.Errorf("Bits %d, Size %d: %d", bits, i+1, got)
			}
		}
	}
}

// P12.1
func TestDigits(t *testing.T) {
	random := newRandom()
	for _, p := range allParams() {
		for _, digest := range digests(random, p.Size) {
			digits, e := onetime.Digits(p, digest)
			if want := digitsOf(p, digest); e != ok || !slices.Equal(digits, want) {
				t.Fatalf("%v, %x: %v, %d; want %v", p, digest, digits, e, want)
			}
			clear(digits)
			if again, _ := onetime.Digits(p, digest); !slices.Equal(again, digitsOf(p, digest)) {
				t.Fatal("digits were not new")
			}
		}
	}
}

// P12.2 to P12.4: Python gives the same ones.
func TestKnownValues(t *testing.T) {
	seed := counting(0, 32)
	for chain, want := range map[int]string{
		0:   "e9d50b4d409dd6373c2d8491f9b966fd6d32624d1c0b66c472d3ce3febdd5d95",
		999: "12c23ac55a6a94cfe916cf39219d5e3cf050172b9412468e2102d60f54bde41f",
	} {
		if x, e := onetime.Secret(seed, chain); e != ok || hex.EncodeToString([]byte(x)) != want {
			t.Errorf("Secret %d: %x, %d", chain, x, e)
		}
	}
	for _, c := range []struct {
		chain, from, to int
		want            string
	}{
		{300, 0, 255, "d21dce4184b0d0275f704d029f040aac1007ae21b8f921936e9974c3efcf1355"},
		{0, 5, 6, "2001b1f2cd630805df46a9d5fda92acf35dc238175ca5d8899aa50304fb4c616"},
		{0, 127, 129, "c2d69ab4f77425ece41599d80d472f49ebaa34582b4731fd3814e17e338c1a7f"},
	} {
		if x, e := onetime.Chain(c.chain, c.from, c.to, seed); e != ok || hex.EncodeToString([]byte(x)) != c.want {
			t.Errorf("Chain %d from %d to %d: %x, %d", c.chain, c.from, c.to, x, e)
		}
	}
	digest := sum("kinkeep")
	for _, c := range []struct {
		p             params
		public, parts string // of the parts the sum
	}{
		{params{Bits: 1, Size: 1}, "b5be0c42a0ab96a9ac3c449383171d65435e7445c0ad91e41a2b9aaeedb194a8", "33237787bdee15b82d6f8039dec94ab60c913b969c81a91ee6ba633d5e8b1726"},
		{params{Bits: 1, Size: 32}, "f7eea2cbad44a88ba603e2ae2a807bd9e6f14a2b4541351e19ed879655024937", "541001850977e7d53661792a9d8f68c9ab5e3d67c87157430a75e7b8e12467c6"},
		{params{Bits: 2, Size: 2}, "5d0a6a337fdc1dfd8021d5958d3abe4b2530a728969cccafdf0c4a50001adf0a", "d6222936e33b837ee10f7030da5c5f66871226364c1fde2bbed281bf77f39ffb"},
		{params{Bits: 2, Size: 32}, "06e87975449eb908bde154406ac5539328cf69626731d5518baf5fac9d1a99f7", "7ecc1aafdac1ef400409787b150f82c1df723c47f28a42207ef8ed5e59872d0f"},
		{params{Bits: 4, Size: 1}, "6dad5786892a93fef036ae7b89cc56c56a5424d0a30abdc9a1eee63f2f4b609f", "2d9d4903b902098dc6afbadaf7faa7e52b0d97af61062b7fcb26a77436624f65"},
		{params{Bits: 4, Size: 32}, "417c923a42991690048dd19506d018e4a0443145d948409efee089b03e35ac24", "a34990a14a5f94d452e5496af9d3e8145c7258c81b50a72c527131f792dacd1f"},
		{params{Bits: 8, Size: 2}, "e20fb9b300c54ad09754dfbf11182ce7fe37dc0be40ff2deea5e4027a16bd972", "6a0e4ddd8227f71b3c76134491285d9c43842adf99c0fabd4ddf3cb0b5c2e6a8"},
		{params{Bits: 8, Size: 32}, "3a0bb30616d15cbfbdc270f86888f29bef4614188185add9457a458975072123", "dbdac4568f441a030bb7076ec77ce299fb5a61b6cd44e5755376150489c7a2c3"},
	} {
		short := digest[:c.p.Size]
		public, parts := publicKey(t, c.p, seed), signature(t, c.p, seed, short)
		if hex.EncodeToString([]byte(public)) != c.public {
			t.Errorf("%v: Public: %x", c.p, public)
		}
		if hex.EncodeToString([]byte(sum(parts...))) != c.parts {
			t.Errorf("%v: Sign: %x", c.p, parts)
		}
		if recovered, e := onetime.Recover(c.p, short, parts); e != ok || recovered != public || !onetime.Verify(c.p, public, short, parts) {
			t.Errorf("%v: Recover: %x, %d", c.p, recovered, e)
		}
	}
}

// P12.2, P1
func TestSecret(t *testing.T) {
	random := newRandom()
	seed := sample(random, 32)
	for chain := range 1000 {
		if x, e := onetime.Secret(seed, chain); e != ok || x != secretOf(seed, chain) {
			t.Fatalf("Secret %d: %x, %d", chain, x, e)
		}
	}
	for _, chain := range numbers() {
		x, e := onetime.Secret(seed, chain)
		if (e == ok) != (0 <= chain && chain <= 999) || e != ok && (e != bad || x != "") {
			t.Errorf("Secret %d: %x, %d", chain, x, e)
		}
		for _, other := range notSums() {
			if x, e := onetime.Secret(other, chain); e != bad || x != "" {
				t.Errorf("Secret %d of %q: %x, %d", chain, other, x, e)
			}
		}
	}
}

// P12.2, P1
func TestChain(t *testing.T) {
	random := newRandom()
	for _, chain := range []int{0, 1, 33, 127, 128, 264, 999} {
		for _, from := range []int{0, 1, 2, 126, 127, 128, 253, 254, 255} {
			for _, to := range []int{0, 1, 2, 3, 15, 127, 128, 129, 254, 255} {
				x := sample(random, 32)
				y, e := onetime.Chain(chain, from, to, x)
				if from > to {
					if e != bad || y != "" {
						t.Fatalf("chain %d from %d to %d: %x, %d", chain, from, to, y, e)
					}
					continue
				}
				if e != ok || y != valueOf(chain, from, to, x) {
					t.Fatalf("chain %d from %d to %d: %x, %d", chain, from, to, y, e)
				}
				// One can stop and go on.
				middle := from + random.IntN(to-from+1)
				z, _ := onetime.Chain(chain, from, middle, x)
				if z, e := onetime.Chain(chain, middle, to, z); e != ok || z != y {
					t.Fatalf("chain %d from %d over %d to %d: %x, %d", chain, from, middle, to, z, e)
				}
			}
		}
	}
	x := sample(random, 32)
	for _, chain := range numbers() {
		for _, from := range numbers() {
			for _, to := range numbers() {
				y, e := onetime.Chain(chain, from, to, x)
				if right := 0 <= chain && chain <= 999 && 0 <= from && from <= to && to <= 255; right != (e == ok) || e != ok && (e != bad || y != "") {
					t.Fatalf("chain %d from %d to %d: %x, %d", chain, from, to, y, e)
				}
			}
		}
	}
	for _, x := range notSums() {
		for _, to := range []int{0, 5} {
			if y, e := onetime.Chain(0, 0, to, x); e != bad || y != "" {
				t.Errorf("of %q: %x, %d", x, y, e)
			}
		}
	}
}

// P12.3, P12.4, P12.6
func TestSignAndRecover(t *testing.T) {
	random := newRandom()
	for _, p := range someParams() {
		seed := sample(random, 32)
		public := publicKey(t, p, seed)
		if public != publicOf(p, seed) {
			t.Fatalf("%v: Public: %x", p, public)
		}
		for _, digest := range digests(random, p.Size) {
			if p.Size == 1 && random.IntN(8) > 0 {
				continue
			}
			parts := signature(t, p, seed, digest)
			if !slices.Equal(parts, signatureOf(p, seed, digest)) {
				t.Fatalf("%v, %x: Sign: %x", p, digest, parts)
			}
			kept := slices.Clone(parts)
			recovered, e := onetime.Recover(p, digest, parts)
			if e != ok || recovered != public || !onetime.Verify(p, public, digest, parts) {
				t.Fatalf("%v, %x: Recover: %x, %d", p, digest, recovered, e)
			}
			if !slices.Equal(parts, kept) {
				t.Fatal("an argument has changed")
			}
		}
	}
	for _, p := range allParams() {
		seed, digest := sample(random, 32), sample(random, p.Size)
		if !onetime.Verify(p, publicKey(t, p, seed), digest, signature(t, p, seed, digest)) {
			t.Errorf("%v: a signature is not verified", p)
		}
	}
}

// P12.4: Recover of any parts, which may be no signature.
func TestRecoverOfAnyParts(t *testing.T) {
	random := newRandom()
	for _, p := range someParams() {
		for range 5 {
			digest := sample(random, p.Size)
			parts := make([]string, onetime.Chains(p))
			for i := range parts {
				parts[i] = sample(random, 32)
			}
			want := recoveredOf(p, digest, parts)
			if public, e := onetime.Recover(p, digest, parts); e != ok || public != want {
				t.Fatalf("%v: %x, %d", p, public, e)
			}
			if !onetime.Verify(p, want, digest, parts) || onetime.Verify(p, publicOf(params{Bits: 1, Size: 1}, digest), digest, parts) {
				t.Fatalf("%v: Verify", p)
			}
		}
	}
}

// P12.4: whatever is changed, a signature is not verified any more.
func TestVerifyOfChanges(t *testing.T) {
	random := newRandom()
	for _, p := range []params{{Bits: 1, Size: 2}, {Bits: 2, Size: 3}, {Bits: 4, Size: 2}, {Bits: 8, Size: 1}} {
		seed, digest := sample(random, 32), sample(random, p.Size)
		public, parts := publicKey(t, p, seed), signature(t, p, seed, digest)
		refused := func(p params, public, digest string, parts []string) {
			t.Helper()
			if onetime.Verify(p, public, digest, parts) {
				t.Errorf("%v: public key %x, digest %x", p, public, digest)
			}
		}
		for i := range parts {
			changed := slices.Clone(parts)
			at := random.IntN(32)
			changed[i] = changed[i][:at] + string([]byte{changed[i][at] ^ 1}) + changed[i][at+1:]
			refused(p, public, digest, changed)
			changed[i] = ""
			refused(p, public, digest, changed)
			changed[i] = parts[i] + "\x00"
			refused(p, public, digest, changed)
			changed[i] = parts[(i+1)%len(parts)]
			refused(p, public, digest, changed)
			refused(p, public, digest, slices.Delete(slices.Clone(parts), i, i+1))
		}
		refused(p, public, digest, append(slices.Clone(parts), parts[0]))
		refused(p, public, digest, nil)
		for bit := range 8 * p.Size {
			other := []byte(digest)
			other[bit/8] ^= 1 << (bit % 8)
			refused(p, public, string(other), parts)
		}
		refused(p, public, digest+"\x00", parts)
		refused(p, public, "", parts)
		for _, other := range []string{"", public[:31], public + "\x00", counting(0, 32), publicKey(t, p, counting(0, 32)), public[:31] + string([]byte{public[31] ^ 1})} {
			refused(p, other, digest, parts)
		}
		for _, other := range invalidParams() {
			refused(other, public, digest, parts)
			refused(other, "", digest, parts)
		}
	}
	// An error is no public key.
	for _, p := range []params{{}, {Bits: 8, Size: 1}, {Bits: 3, Size: 1}} {
		if onetime.Verify(p, "", "", nil) || onetime.Verify(p, "", "a", nil) || onetime.Verify(p, "", "a", []string{"", ""}) {
			t.Errorf("%v: the empty public key is verified", p)
		}
	}
}

// P12.3, P12.1, P1
func TestErrors(t *testing.T) {
	seed := counting(0, 32)
	for _, p := range invalidParams() {
		digest := strings.Repeat("d", min(max(p.Size, 0), 64))
		for _, parts := range [][]string{nil, {}, {seed}, slices.Repeat([]string{seed}, 34)} {
			if public, e := onetime.Recover(p, digest, parts); e != bad || public != "" {
				t.Errorf("%v: Recover: %x, %d", p, public, e)
			}
		}
		if digits, e := onetime.Digits(p, digest); e != bad || len(digits) > 0 {
			t.Errorf("%v: Digits: %v, %d", p, digits, e)
		}
		if public, e := onetime.Public(p, seed); e != bad || public != "" {
			t.Errorf("%v: Public: %x, %d", p, public, e)
		}
		if parts, e := onetime.Sign(p, seed, digest); e != bad || len(parts) > 0 {
			t.Errorf("%v: Sign: %x, %d", p, parts, e)
		}
		if is, e := onetime.Covers(p, digest, digest); e != bad || is {
			t.Errorf("%v: Covers: %t, %d", p, is, e)
		}
	}
	for _, p := range someParams() {
		digest := counting(1, p.Size)
		parts := signature(t, p, seed, digest)
		for _, other := range []string{"", digest[1:], digest + "\x00", digest + digest, counting(0, 33), counting(0, 100)} {
			if digits, e := onetime.Digits(p, other); e != bad || len(digits) > 0 {
				t.Errorf("%v: Digits of %q: %v, %d", p, other, digits, e)
			}
			if parts, e := onetime.Sign(p, seed, other); e != bad || len(parts) > 0 {
				t.Errorf("%v: Sign of %q: %x, %d", p, other, parts, e)
			}
			if public, e := onetime.Recover(p, other, parts); e != bad || public != "" {
				t.Errorf("%v: Recover of %q: %x, %d", p, other, public, e)
			}
			for _, pair := range [][2]string{{other, digest}, {digest, other}, {other, other}} {
				if is, e := onetime.Covers(p, pair[0], pair[1]); e != bad || is {
					t.Errorf("%v: Covers of %q: %t, %d", p, pair, is, e)
				}
			}
		}
		for _, other := range notSums() {
			if public, e := onetime.Public(p, other); e != bad || public != "" {
				t.Errorf("%v: Public of %q: %x, %d", p, other, public, e)
			}
			if parts, e := onetime.Sign(p, other, digest); e != bad || len(parts) > 0 {
				t.Errorf("%v: Sign of %q: %x, %d", p, other, parts, e)
			}
			for _, at := range []int{0, len(parts) / 2, len(parts) - 1} {
				wrong := slices.Clone(parts)
				wrong[at] = other
				if public, e := onetime.Recover(p, digest, wrong); e != bad || public != "" {
					t.Errorf("%v: Recover of a part %q: %x, %d", p, other, public, e)
				}
			}
		}
		for _, wrong := range [][]string{nil, {}, parts[1:], parts[:len(parts)-1], append(slices.Clone(parts), parts[0]), slices.Repeat(parts, 2), slices.Repeat([]string{seed}, 1000)} {
			if public, e := onetime.Recover(p, digest, wrong); e != bad || public != "" {
				t.Errorf("%v: Recover of %d parts: %x, %d", p, len(wrong), public, e)
			}
		}
	}
}

// P12.5, P12.6: among digests of one byte, and of more bytes that differ little, each covers itself alone.
func TestCovers(t *testing.T) {
	random := newRandom()
	for _, bits := range []int{1, 2, 4, 8} {
		p := params{Bits: bits, Size: 1}
		all := digests(random, 1)
		for _, a := range all {
			for _, b := range all {
				if is, e := onetime.Covers(p, a, b); e != ok || is != (a == b) {
					t.Fatalf("%v: %x, %x: %t, %d", p, a, b, is, e)
				}
			}
		}
		for _, size := range []int{2, 9, 32} {
			p.Size = size
			for _, a := range digests(random, size) {
				for bit := range 8 * size {
					near := []byte(a)
					near[bit/8] ^= 1 << (bit % 8)
					if is, e := onetime.Covers(p, a, string(near)); e != ok || is {
						t.Fatalf("%v: %x, %x: %t, %d", p, a, near, is, e)
					}
				}
				if is, e := onetime.Covers(p, a, a); e != ok || !is {
					t.Fatalf("%v: %x: %t, %d", p, a, is, e)
				}
			}
		}
	}
}

// P12.6: a signature of a digest, each part of which has gone on as far as it can towards another one, is still none of that.
func TestNoOtherSignature(t *testing.T) {
	seed := counting(3, 32)
	for _, bits := range []int{1, 2, 4, 8} {
		p := params{Bits: bits, Size: 1}
		public := publicKey(t, p, seed)
		for _, pair := range []string{"\x3c\x3d", "\x3d\x3c", "\x00\xff", "\xff\x00", "\x0f\xf0", "\x12\x13", "\x7f\x80"} {
			a, b := pair[:1], pair[1:]
			parts := signature(t, p, seed, a)
			if onetime.Verify(p, public, b, parts) {
				t.Errorf("%v: the signature of %x is one of %x", p, a, b)
			}
			from, to := digitsOf(p, a), digitsOf(p, b)
			behind := 0
			for i := range parts {
				if from[i] <= to[i] {
					parts[i], _ = onetime.Chain(i, from[i], to[i], parts[i])
				} else {
					behind++
				}
			}
			if behind == 0 || onetime.Verify(p, public, b, parts) {
				t.Errorf("%v: the signature of %x leads to one of %x", p, a, b)
			}
		}
	}
}

// P1: arguments at random, of which few are valid.
func TestAnyArguments(t *testing.T) {
	random := newRandom()
	any := numbers()
	number := func() int { return any[random.IntN(len(any))] }
	text := func() string { return sample(random, []int{0, 1, 2, 31, 32, 32, 32, 33}[random.IntN(8)]) }
	for range 3000 {
		p := params{Bits: number(), Size: number()}
		if random.IntN(2) == 0 {
			p = params{Bits: 1 << random.IntN(4), Size: 1 + random.IntN(2)}
		}
		valid := slices.Contains(allParams(), p)
		a, b, seed := text(), text(), text()
		digits, e := onetime.Digits(p, a)
		if fits := valid && len(a) == p.Size; fits != (e == ok) || e != ok && (e != bad || len(digits) > 0) {
			t.Fatalf("%v, %x: Digits: %v, %d", p, a, digits, e)
		}
		if public, e := onetime.Public(p, seed); (valid && len(seed) == 32) != (e == ok) || e != ok && (e != bad || public != "") {
			t.Fatalf("%v, %x: Public: %x, %d", p, seed, public, e)
		}
		signed, signError := onetime.Sign(p, seed, a)
		if (e == ok && len(seed) == 32) != (signError == ok) || signError != ok && (signError != bad || len(signed) > 0) {
			t.Fatalf("%v, %x, %x: Sign: %x, %d", p, seed, a, signed, signError)
		}
		parts := make([]string, len(digits)+random.IntN(2))
		for i := range parts {
			parts[i] = text()
		}
		fits := e == ok && len(parts) == len(digits) && !slices.ContainsFunc(parts, func(s string) bool { return len(s) != 32 })
		if public, e := onetime.Recover(p, a, parts); fits != (e == ok) || e != ok && (e != bad || public != "") || onetime.Verify(p, seed, a, parts) {
			t.Fatalf("%v, %x: Recover: %x, %d", p, a, public, e)
		}
		if is, coverError := onetime.Covers(p, a, b); (e == ok && len(b) == p.Size) != (coverError == ok) || is != (coverError == ok && a == b) {
			t.Fatalf("%v, %x, %x: Covers: %t, %d", p, a, b, is, coverError)
		}
		from := number()
		to := from
		if random.IntN(2) == 0 {
			to = number()
		}
		if x, e := onetime.Chain(number(), from, to, seed); e != ok && (e != bad || x != "") || e == ok && len(x) != 32 {
			t.Fatalf("from %d to %d: %x, %d", from, to, x, e)
		}
	}
	if n := onetime.Chains(params{Bits: math.MaxInt, Size: math.MaxInt}); n != 0 {
		t.Errorf("Chains: %d", n)
	}
}

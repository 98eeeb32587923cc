package signature_test

import (
	"encoding/hex"
	"slices"
	"testing"

	"kinkeep/api"
	"kinkeep/merkle"
	"kinkeep/onetime"
	"kinkeep/signature"
)

// equal reports whether two signatures are the same; nil and empty lists are equivalent.
func equal(a, b api.Signature) bool {
	return a.Index == b.Index && slices.Equal(a.Parts, b.Parts) && slices.Equal(a.Path, b.Path)
}

// zero reports whether a signature is the zero value.
func zero(x api.Signature) bool { return equal(x, api.Signature{}) }

// clone returns a signature with memory of its own.
func clone(x api.Signature) api.Signature {
	return api.Signature{Index: x.Index, Parts: slices.Clone(x.Parts), Path: slices.Clone(x.Path)}
}

// P13.1, P13.2: the examples of the chapter.
func TestExamples(t *testing.T) {
	seed := counting(0, 32)
	for _, digest := range []string{counting(0, 32), counting(200, 32), sum("any")} {
		one := api.Scheme{Bits: 4, Height: 0}
		s := newSigner(t, one, seed)
		public, e := onetime.Public(onetime.Params{Bits: 4, Size: 32}, seedOf(seed, 0))
		if e != ok || s.Public() != merkle.Leaf([]byte(public)) {
			t.Errorf("Public: %x, %d", s.Public(), e)
		}
		if n := signature.Size(one); n != 32*67 {
			t.Errorf("Size: %d", n)
		}
		if s.Next() != 0 || s.Left() != 1 {
			t.Errorf("at the beginning: %d, %d", s.Next(), s.Left())
		}
		sign(t, s, digest)
		if s.Left() != 0 {
			t.Errorf("Left: %d", s.Left())
		}
		if x, e := s.Sign(digest); e != spent || !zero(x) {
			t.Errorf("Sign without a key: %v, %d", x, e)
		}
	}
	s := newSigner(t, api.Scheme{Bits: 1, Height: 3}, seed)
	if e := s.Skip(5); e != ok || s.Left() != 3 {
		t.Errorf("Skip: %d, %d", e, s.Left())
	}
	if e := s.Skip(4); e != bad || s.Left() != 3 || s.Next() != 5 {
		t.Errorf("Skip back: %d, %d, %d", e, s.Left(), s.Next())
	}
}

// P13.1 to P13.3: Python gives the same ones.
func TestKnownValues(t *testing.T) {
	seed, digest := counting(0, 32), sum("kinkeep")
	for index, want := range map[int]string{
		0:   "a8501f971e40e27dc8359257ff4fc96069f489d2dc49264c548fc8a7d868567c",
		1:   "adb9ecf3a309dbf351a5846da9d137a08c4505ad5d41595eee4d34c4e4e5e806",
		127: "d0a51f805cee47009f55addeca5051484e73a81d8d34aec163ad3c775bcb4215",
		128: "6c392602d4748f4e3a54f0faa48e30497b66c83c6c58953646204d212d24ec9e",
		255: "ab74ad34ad5627c10de6d11fabf76c4e42e539401bb35cd5c271dfecd4e82c80",
	} {
		if x, e := signature.Seed(seed, index); e != ok || hex.EncodeToString([]byte(x)) != want {
			t.Errorf("Seed %d: %x, %d", index, x, e)
		}
	}
	for _, c := range []struct {
		bits, height, index, size int
		public, parts             string // of the parts and the path the sum
	}{
		{1, 0, 0, 8480, "22e647b33c0b5fcac11bd6595c447f0c7c1a4d883577608fd77bfb773baa3835", "3c140cef60a6c649c73274da41f44372871ce31aa3778e9045cd04dcf996ae2d"},
		{1, 3, 5, 8576, "57844a5a939bc881fc6300f5c3edd37c3612100dc8ba4715718e378d0ac4cf9c", "c606a721c0993611f1d4bad3f1b075e8f7d588bfd3dc6945347064c2779feb5f"},
		{2, 1, 1, 4288, "a4648edf6c4eb42a81c64bf268fb46d75073f7da59954468e70a039ac794a65c", "62153306e2da380c0c142d91d5c89a0e0574ce41af1a3b58585ded2787266e75"},
		{2, 8, 200, 4512, "20490313a8e9ac07ca2793e665040d0676138559d14f4a6879b9307908456dd8", "d56cfe4089c6d9a14990086ca2b531f37854095be5976ed970db1b7505384106"},
		{4, 0, 0, 2144, "95285b456dda51aa89f715e60c9324746122fbf23f946d0aedc594bd2e20c899", "f26a1f73cbd534c9819f84f67af9d4365eec8679cbca7a22ed0e65961303dda7"},
		{4, 2, 2, 2208, "15d0ebe487c4a93016ec2ac5cf24049bb50195dacefbe62ba6630e5d217406c1", "e3dae23133b210ac0895db87a34298292552e430a8805335917055abed0ebdf9"},
		{4, 4, 9, 2272, "6a489f553d70f947ec3463cb6afdb8af8b27b20490e0de8a26372b3b912454ca", "ad3c6ec8b950fdffa556067d5a8d5747c3f87f61fc4156e555a65a54275ad37e"},
		{4, 8, 255, 2400, "00102c39aecfa3fc8eef276483b6b2ce1ad9e1af4e3406b2cd6a594dd90871cc", "b98e51eea33405672f657038592d196b5bf23465dfceb497145eae80cb57fe3e"},
	} {
		scheme := api.Scheme{Bits: c.bits, Height: c.height}
		s := newSigner(t, scheme, seed)
		public := s.Public()
		if hex.EncodeToString([]byte(public)) != c.public {
			t.Errorf("%v: Public: %x", scheme, public)
		}
		if e := s.Skip(c.index); e != ok {
			t.Fatalf("%v: Skip: %d", scheme, e)
		}
		x := sign(t, s, digest)
		if all := slices.Concat(x.Parts, x.Path); x.Index != c.index || hex.EncodeToString([]byte(sum(all...))) != c.parts || 32*len(all) != c.size {
			t.Errorf("%v: Sign: %v", scheme, x)
		}
		if n := signature.Size(scheme); n != c.size {
			t.Errorf("%v: Size: %d", scheme, n)
		}
		if root, e := signature.Root(scheme, digest, x); e != ok || root != public || !signature.Verify(scheme, public, digest, x) {
			t.Errorf("%v: Root: %x, %d", scheme, root, e)
		}
	}
}

// P13.1, P1
func TestValidAndSize(t *testing.T) {
	valid := map[api.Scheme]bool{}
	for _, x := range allSchemes() {
		valid[x] = true
	}
	candidates := append(invalidSchemes(), allSchemes()...)
	for bits := -5; bits <= 20; bits++ {
		for height := -5; height <= 20; height++ {
			candidates = append(candidates, api.Scheme{Bits: bits, Height: height})
		}
	}
	for _, x := range candidates {
		if is := signature.Valid(x); is != valid[x] {
			t.Errorf("%v: Valid: %t", x, is)
		}
		want := 0
		if valid[x] {
			want = 32 * (chains()[x.Bits] + x.Height)
		}
		if n := signature.Size(x); n != want {
			t.Errorf("%v: Size: %d", x, n)
		}
	}
}

// P13.1, P1
func TestSeed(t *testing.T) {
	seed := sample(newRandom(), 32)
	for index := range 256 {
		if x, e := signature.Seed(seed, index); e != ok || x != seedOf(seed, index) {
			t.Fatalf("Seed %d: %x, %d", index, x, e)
		}
	}
	for _, index := range numbers() {
		x, e := signature.Seed(seed, index)
		if (e == ok) != (0 <= index && index <= 255) || e != ok && (e != bad || x != "") {
			t.Errorf("Seed %d: %x, %d", index, x, e)
		}
		for _, other := range notSums() {
			if x, e := signature.Seed(other, index); e != bad || x != "" {
				t.Errorf("Seed %d of %q: %x, %d", index, other, x, e)
			}
		}
	}
}

// P13.2 to P13.4: a signer signs with one key after the other until none is left.
func TestSigner(t *testing.T) {
	random := newRandom()
	for _, scheme := range append(someSchemes(), api.Scheme{Bits: 1, Height: 5}) {
		seed := sample(random, 32)
		s, leaves, count := newSigner(t, scheme, seed), leavesOf(t, scheme, seed), 1<<scheme.Height
		public := s.Public()
		if public != rootOf(leaves) {
			t.Fatalf("%v: Public: %x", scheme, public)
		}
		for index := range count {
			if s.Next() != index || s.Left() != count-index {
				t.Fatalf("%v: %d, %d", scheme, s.Next(), s.Left())
			}
			digest := sample(random, 32)
			x := sign(t, s, digest)
			if !equal(x, signatureOf(t, scheme, seed, leaves, index, digest)) {
				t.Fatalf("%v: Sign: %v", scheme, x)
			}
			if 32*(len(x.Parts)+len(x.Path)) != signature.Size(scheme) {
				t.Fatalf("%v: Size: %d", scheme, signature.Size(scheme))
			}
			if root, e := signature.Root(scheme, digest, x); e != ok || root != public || !signature.Verify(scheme, public, digest, x) {
				t.Fatalf("%v: key %d: Root: %x, %d", scheme, index, root, e)
			}
		}
		for range 2 {
			if x, e := s.Sign(seed); e != spent || !zero(x) {
				t.Fatalf("%v: Sign without a key: %v, %d", scheme, x, e)
			}
			if s.Next() != count || s.Left() != 0 || s.Public() != public {
				t.Fatalf("%v: without a key: %d, %d, %x", scheme, s.Next(), s.Left(), s.Public())
			}
		}
	}
}

// P13.2 to P13.4: the tree of most keys; indices from 128 on have an encoding of two bytes.
func TestMostKeys(t *testing.T) {
	scheme, seed := api.Scheme{Bits: 1, Height: 8}, counting(7, 32)
	s, leaves := newSigner(t, scheme, seed), leavesOf(t, scheme, seed)
	if s.Public() != rootOf(leaves) || s.Next() != 0 || s.Left() != 256 {
		t.Fatalf("Public: %x", s.Public())
	}
	seen := map[int]bool{}
	for range 256 {
		digest := sum("digest", string([]byte{byte(s.Next())}))
		x := sign(t, s, digest)
		if seen[x.Index] {
			t.Fatalf("index %d again", x.Index)
		}
		seen[x.Index] = true
		if !slices.Equal(x.Path, pathOf(leaves, x.Index)) || !signature.Verify(scheme, rootOf(leaves), digest, x) {
			t.Fatalf("index %d", x.Index)
		}
	}
	if x, e := s.Sign(seed); e != spent || !zero(x) || len(seen) != 256 || s.Next() != 256 || s.Left() != 0 {
		t.Errorf("without a key: %v, %d; %d, %d", x, e, s.Next(), s.Left())
	}
}

// P13.2, P1
func TestErrorsOfNew(t *testing.T) {
	seed := counting(0, 32)
	for _, x := range invalidSchemes() {
		if s, e := signature.New(x, seed); e != bad || s != nil {
			t.Errorf("%v: %d", x, e)
		}
		if s, e := signature.New(x, ""); e != bad || s != nil {
			t.Errorf("%v: %d", x, e)
		}
	}
	for _, x := range allSchemes() {
		for _, other := range notSums() {
			if s, e := signature.New(x, other); e != bad || s != nil {
				t.Errorf("%v, %q: %d", x, other, e)
			}
		}
	}
}

// P13.2, P1: an error of Sign uses no key, and that of the digest is named first.
func TestErrorsOfSign(t *testing.T) {
	scheme, digest := api.Scheme{Bits: 2, Height: 1}, counting(3, 32)
	s := newSigner(t, scheme, counting(0, 32))
	for used := range 3 {
		for _, other := range notSums() {
			if x, e := s.Sign(other); e != bad || !zero(x) || s.Next() != used || s.Left() != 2-used {
				t.Errorf("%q: %v, %d; %d, %d", other, x, e, s.Next(), s.Left())
			}
		}
		if used < 2 {
			sign(t, s, digest)
		} else if x, e := s.Sign(digest); e != spent || !zero(x) {
			t.Errorf("without a key: %v, %d", x, e)
		}
	}
}

// P13.2, P1
func TestSkip(t *testing.T) {
	for _, scheme := range []api.Scheme{{Bits: 1, Height: 0}, {Bits: 4, Height: 1}, {Bits: 2, Height: 3}} {
		count := 1 << scheme.Height
		for from := range count + 1 {
			s := newSigner(t, scheme, counting(0, 32))
			public := s.Public()
			if e := s.Skip(from); e != ok || s.Next() != from || s.Left() != count-from {
				t.Fatalf("%v: Skip(%d): %d", scheme, from, e)
			}
			for _, to := range append(numbers(), from-1, count+1) {
				if 0 <= to && from <= to && to <= count {
					continue
				}
				if e := s.Skip(to); e != bad || s.Next() != from || s.Left() != count-from {
					t.Errorf("%v: Skip(%d) from %d: %d", scheme, to, from, e)
				}
			}
			for to := from; to <= count; to++ {
				for range 2 {
					if e := s.Skip(to); e != ok || s.Next() != to || s.Left() != count-to || s.Public() != public {
						t.Errorf("%v: Skip(%d) from %d: %d", scheme, to, from, e)
					}
				}
			}
			if x, e := s.Sign(public); e != spent || !zero(x) {
				t.Errorf("%v: Sign of no key: %v, %d", scheme, x, e)
			}
		}
	}
}

// P13.4: however keys were used or skipped, signers with the same seed go on with the same signatures.
func TestSameSigners(t *testing.T) {
	random := newRandom()
	scheme := api.Scheme{Bits: 4, Height: 3}
	for range 5 {
		seed := sample(random, 32)
		a, b := newSigner(t, scheme, seed), newSigner(t, scheme, seed)
		for a.Left() > 0 {
			if random.IntN(2) == 0 {
				sign(t, a, sample(random, 32))
			} else if e := a.Skip(a.Next() + random.IntN(a.Left()+1)); e != ok {
				t.Fatal(e)
			}
			if e := b.Skip(a.Next()); e != ok || b.Next() != a.Next() || b.Left() != a.Left() || b.Public() != a.Public() {
				t.Fatalf("%d: %d, %d", e, a.Next(), b.Next())
			}
			if a.Left() == 0 {
				break
			}
			digest := sample(random, 32)
			if x, y := sign(t, a, digest), sign(t, b, digest); !equal(x, y) || !signature.Verify(scheme, a.Public(), digest, x) {
				t.Fatalf("%v, %v", x, y)
			}
		}
	}
	// Other seeds and other schemes have other keys.
	seen := map[string]bool{}
	for _, scheme := range someSchemes() {
		for first := range 2 {
			seen[newSigner(t, scheme, counting(first, 32)).Public()] = true
		}
	}
	if len(seen) != 2*len(someSchemes()) {
		t.Errorf("%d public keys", len(seen))
	}
}

// P13.3: Root of any parts and any path, which may be no signature.
func TestRootOfAnySignature(t *testing.T) {
	random := newRandom()
	for _, scheme := range append(someSchemes(), api.Scheme{Bits: 4, Height: 8}, api.Scheme{Bits: 1, Height: 7}) {
		count := 1 << scheme.Height
		for _, index := range []int{0, count / 2, random.IntN(count), count - 1} {
			digest := sample(random, 32)
			x := api.Signature{Index: index, Parts: samples(random, chains()[scheme.Bits]), Path: samples(random, scheme.Height)}
			kept := clone(x)
			public, e := onetime.Recover(paramsOf(scheme), digest, x.Parts)
			if e != ok {
				t.Fatal(e)
			}
			leaf := sum("\x00", public)
			want := climbed(leaf, index, count, x.Path)
			root, e := signature.Root(scheme, digest, x)
			if e != ok || root != want || !merkle.Verify(leaf, index, count, x.Path, root) {
				t.Fatalf("%v, index %d: %x, %d; want %x", scheme, index, root, e, want)
			}
			if !signature.Verify(scheme, root, digest, x) || signature.Verify(scheme, flipped(root, random.IntN(256)), digest, x) {
				t.Fatalf("%v, index %d: Verify", scheme, index)
			}
			if !equal(x, kept) {
				t.Fatal("an argument has changed")
			}
		}
	}
}

// refuse checks that a signature is not verified; wrong says that it does not even have a root.
func refuse(t *testing.T, wrong bool, scheme api.Scheme, public, digest string, x api.Signature) {
	t.Helper()
	for _, key := range []string{public, ""} {
		if signature.Verify(scheme, key, digest, x) {
			t.Errorf("%v: verified: key %x, digest %x, index %d", scheme, key, digest, x.Index)
		}
	}
	root, e := signature.Root(scheme, digest, x)
	if wrong && (e != bad || root != "") || !wrong && (e != ok || len(root) != 32) {
		t.Errorf("%v: Root: %x, %d; digest %x, index %d", scheme, root, e, digest, x.Index)
	}
}

// P13.3, P13.4, P1: whatever is changed in a part or the path, a signature is not verified any more.
func TestChangesOfElements(t *testing.T) {
	random := newRandom()
	for _, scheme := range []api.Scheme{{Bits: 4, Height: 0}, {Bits: 4, Height: 3}, {Bits: 2, Height: 2}} {
		s, digest := newSigner(t, scheme, sample(random, 32)), sample(random, 32)
		if e := s.Skip(s.Left() / 2); e != ok {
			t.Fatal(e)
		}
		public, x := s.Public(), sign(t, s, digest)
		changes := func(list func(*api.Signature) *[]string) {
			all := *list(&x)
			changed := func(wrong bool, other []string) {
				t.Helper()
				y := clone(x)
				*list(&y) = other
				refuse(t, wrong, scheme, public, digest, y)
			}
			for i, element := range all {
				for _, other := range []string{flipped(element, random.IntN(256)), all[(i+1)%len(all)], public} {
					if other != element {
						changed(false, slices.Replace(slices.Clone(all), i, i+1, other))
					}
				}
				for _, other := range append(notSums(), element[1:], element+"\x00") {
					changed(true, slices.Replace(slices.Clone(all), i, i+1, other))
				}
				changed(true, slices.Delete(slices.Clone(all), i, i+1))
			}
			changed(true, append(slices.Clone(all), public))
			changed(true, append(slices.Clone(all), ""))
			if len(all) > 0 {
				changed(true, nil)
				changed(true, slices.Repeat(all, 2))
			}
		}
		changes(func(x *api.Signature) *[]string { return &x.Parts })
		changes(func(x *api.Signature) *[]string { return &x.Path })
		if !signature.Verify(scheme, public, digest, x) {
			t.Errorf("%v: not verified", scheme)
		}
	}
}

// P13.3, P13.4, P1: a signature is one by its key, of its digest, for its public key and its scheme alone.
func TestChangesOfTheOthers(t *testing.T) {
	random := newRandom()
	for _, scheme := range []api.Scheme{{Bits: 4, Height: 0}, {Bits: 4, Height: 3}, {Bits: 1, Height: 2}} {
		s, digest, count := newSigner(t, scheme, sample(random, 32)), sample(random, 32), 1<<scheme.Height
		if e := s.Skip(count / 2); e != ok {
			t.Fatal(e)
		}
		public, x := s.Public(), sign(t, s, digest)
		for _, index := range append(numbers(), count, -count, x.Index+count, x.Index-count, x.Index+256, x.Index+1<<32) {
			if index == x.Index {
				continue
			}
			y := clone(x)
			y.Index = index
			refuse(t, index < 0 || index >= count, scheme, public, digest, y)
		}
		for bit := range 256 {
			refuse(t, false, scheme, public, flipped(digest, bit), x)
		}
		for _, other := range append(notSums(), digest[:31], digest+"\x00") {
			refuse(t, true, scheme, public, other, x)
		}
		for _, other := range []string{public[:31], public + "\x00", flipped(public, 0), flipped(public, 255), digest, newSigner(t, scheme, digest).Public()} {
			refuse(t, false, scheme, other, digest, x)
		}
		for _, other := range append(allSchemes(), invalidSchemes()...) {
			if other != scheme {
				refuse(t, true, other, public, digest, x)
			}
		}
		refuse(t, true, scheme, public, digest, api.Signature{})
		refuse(t, true, scheme, public, digest, api.Signature{Index: x.Index, Parts: x.Path, Path: x.Parts})
	}
	// An error is no public key.
	if signature.Verify(api.Scheme{}, "", "", api.Signature{}) {
		t.Error("the empty public key is verified")
	}
}

// P13.4: the signatures of a key for two digests do not mix to one that is verified.
func TestMixedSignatures(t *testing.T) {
	scheme, seed := api.Scheme{Bits: 4, Height: 1}, counting(9, 32)
	a, b := sum("a"), sum("b")
	s, other := newSigner(t, scheme, seed), newSigner(t, scheme, seed)
	x, y := sign(t, s, a), sign(t, other, b)
	z := sign(t, s, b)
	for _, mixed := range []api.Signature{
		{Index: x.Index, Parts: y.Parts, Path: x.Path},
		{Index: x.Index, Parts: z.Parts, Path: x.Path},
		{Index: x.Index, Parts: x.Parts, Path: z.Path},
		{Index: z.Index, Parts: x.Parts, Path: x.Path},
		{Index: z.Index, Parts: x.Parts, Path: z.Path},
		{Index: x.Index, Parts: append(slices.Clone(x.Parts[:33]), y.Parts[33:]...), Path: x.Path},
	} {
		refuse(t, false, scheme, s.Public(), a, mixed)
	}
}

// Arguments are not modified, nor what lies behind them; results share no memory.
func TestMemory(t *testing.T) {
	scheme, digest := api.Scheme{Bits: 4, Height: 3}, counting(1, 32)
	s, other := newSigner(t, scheme, counting(0, 32)), newSigner(t, scheme, counting(0, 32))
	public := s.Public()
	for range 3 {
		x, y := sign(t, s, digest), sign(t, other, digest)
		// There is room behind the parts and behind the path.
		room := slices.Repeat([]string{"room"}, 200)
		copy(room, x.Parts)
		copy(room[100:], x.Path)
		z := api.Signature{Index: x.Index, Parts: room[:len(x.Parts)], Path: room[100 : 100+len(x.Path)]}
		kept := slices.Clone(room)
		if !signature.Verify(scheme, public, digest, z) || !slices.Equal(room, kept) {
			t.Fatalf("%q", room)
		}
		clear(x.Parts)
		clear(x.Path)
		_ = append(x.Parts, "a")
		_ = append(x.Path, "b")
		if s.Public() != public || !signature.Verify(scheme, public, digest, y) {
			t.Fatal("a signature shared memory with its signer or with another signature")
		}
	}
	if x := sign(t, s, digest); !equal(x, sign(t, other, digest)) {
		t.Errorf("%v", x)
	}
}

// P1: a signer that New did not make has no key.
func TestNoKey(t *testing.T) {
	s := new(signature.Signer)
	if x, e := s.Sign(counting(0, 32)); e != spent || !zero(x) || s.Next() != 0 || s.Left() != 0 || s.Skip(0) != ok || s.Skip(1) != bad {
		t.Errorf("%v, %d", x, e)
	}
	s.Public()
}

// P1: arguments at random, of which few are valid.
func TestAnyArguments(t *testing.T) {
	random := newRandom()
	any := numbers()
	number := func() int { return any[random.IntN(len(any))] }
	text := func() string { return sample(random, []int{0, 1, 31, 32, 32, 32, 32, 32, 32, 33}[random.IntN(10)]) }
	for range 4000 {
		scheme := api.Scheme{Bits: number(), Height: number()}
		if random.IntN(4) > 0 {
			scheme = api.Scheme{Bits: 1 << random.IntN(4), Height: random.IntN(3)}
		}
		valid := slices.Contains(allSchemes(), scheme)
		seed, digest := text(), text()
		if s, e := signature.New(scheme, seed); scheme.Height < 2 && ((e == ok) != (valid && len(seed) == 32) || (s == nil) != (e != ok)) {
			t.Fatalf("%v, %x: New: %d", scheme, seed, e)
		}
		x := api.Signature{Index: number()}
		if random.IntN(4) > 0 {
			x.Index = random.IntN(2)
		}
		for range chains()[scheme.Bits] - random.IntN(8)/7 {
			x.Parts = append(x.Parts, sample(random, 32))
		}
		for range min(scheme.Height, 9) + random.IntN(8)/7 {
			x.Path = append(x.Path, sample(random, 32))
		}
		if len(x.Parts) > 0 {
			x.Parts[random.IntN(len(x.Parts))] = text()
		}
		if len(x.Path) > 0 {
			x.Path[random.IntN(len(x.Path))] = text()
		}
		wrong := func(s string) bool { return len(s) != 32 }
		fits := valid && len(digest) == 32 && 0 <= x.Index && x.Index < 1<<scheme.Height && len(x.Parts) == chains()[scheme.Bits] && len(x.Path) == scheme.Height && !slices.ContainsFunc(x.Parts, wrong) && !slices.ContainsFunc(x.Path, wrong)
		root, e := signature.Root(scheme, digest, x)
		if fits != (e == ok) || e != ok && (e != bad || root != "") || e == ok && len(root) != 32 {
			t.Fatalf("%v, %x, %v: Root: %x, %d", scheme, digest, x, root, e)
		}
		if signature.Verify(scheme, root, digest, x) != fits || signature.Verify(scheme, seed, digest, x) {
			t.Fatalf("%v, %x, %v: Verify", scheme, digest, x)
		}
	}
}

package seal_test

import (
	"bytes"
	"crypto/sha256"
	"encoding/hex"
	"math"
	"slices"
	"testing"

	"kinkeep/api"
	"kinkeep/seal"
)

// P11.1 to P11.3: the examples of the chapter and those of the overview.
func TestExamples(t *testing.T) {
	for _, c := range [][2]int{{0, 64}, {47, 64}, {48, 80}, {api.MaxChunk, 40960}, {100, 128}, {1000, 1024}} {
		if class, e := seal.Class(c[0]); class != c[1] || e != ok {
			t.Errorf("Class(%d): %d, %d", c[0], class, e)
		}
	}
	want := slices.Concat([]byte{2, 104, 105}, zeros(45), fill(7, 16))
	body, e := seal.Body([]byte("hi"), fill(7, 16))
	if e != ok || !bytes.Equal(body, want) {
		t.Errorf("Body: %v, %d", body, e)
	}
	if block, e := seal.SealWith(zeros(64), fill(7, 16), []byte("hi")); e != ok || !bytes.Equal(block, want) {
		t.Errorf("SealWith: %v, %d", block, e)
	}
}

// P11.1, P11.6
func TestClass(t *testing.T) {
	for n := range api.MaxChunk + 1 {
		need := sizeOf(n) + n + 16
		class, e := seal.Class(n)
		if e != ok || class != classOf(need) {
			t.Fatalf("Class(%d): %d, %d", n, class, e)
		}
		if class < need || class != 64 && 4*(class-need) > need {
			t.Fatalf("Class(%d): %d is not close to %d", n, class, need)
		}
	}
	for _, n := range numbers() {
		class, e := seal.Class(n)
		switch {
		case n < 0 && (class != 0 || e != bad), n > api.MaxChunk && (class != 0 || e != large), 0 <= n && n <= api.MaxChunk && e != ok:
			t.Errorf("Class(%d): %d, %d", n, class, e)
		}
	}
}

// P11.1
func TestClasses(t *testing.T) {
	var want []int
	for n := range api.MaxChunk + 1 {
		if class := mustClass(t, n); len(want) == 0 || class != want[len(want)-1] {
			want = append(want, class)
		}
	}
	classes := seal.Classes()
	if !slices.Equal(classes, want) || !slices.IsSorted(classes) {
		t.Fatalf("Classes: %v", classes)
	}
	if !slices.Equal(classes[:10], []int{64, 80, 96, 112, 128, 160, 192, 224, 256, 320}) || !slices.Equal(classes[35:], []int{28672, 32768, 40960}) {
		t.Errorf("Classes: %v", classes)
	}
	clear(classes)
	if !slices.Equal(seal.Classes(), want) {
		t.Error("a list of classes was not new")
	}
}

// P11.2, P11.6
func TestBodyAndContent(t *testing.T) {
	random := newRandom()
	for _, n := range lengths() {
		for range 3 {
			x, check := sample(random, n), sample(random, 16)
			keptX, keptCheck := bytes.Clone(x), bytes.Clone(check)
			body, e := seal.Body(x, check)
			if e != ok || !bytes.Equal(body, bodyOf(x, check)) {
				t.Fatalf("Body of %d bytes: %d", n, e)
			}
			kept := bytes.Clone(body)
			back, backCheck, e := seal.Content(body)
			if e != ok || !bytes.Equal(back, x) || !bytes.Equal(backCheck, check) {
				t.Fatalf("Content of %d bytes: %d", n, e)
			}
			clear(back)
			clear(backCheck)
			if !bytes.Equal(x, keptX) || !bytes.Equal(check, keptCheck) || !bytes.Equal(body, kept) {
				t.Fatal("memory is shared, or an argument has changed")
			}
			clear(body)
			if !bytes.Equal(x, keptX) || !bytes.Equal(check, keptCheck) {
				t.Fatal("the body shares memory")
			}
		}
	}
	// A content that ends with zeros, or looks like a body, is kept as it is.
	for _, x := range [][]byte{zeros(1), zeros(47), zeros(48), bodyOf([]byte("hi"), zeros(16)), append([]byte("x"), zeros(100)...)} {
		body, _ := seal.Body(x, zeros(16))
		if back, check, e := seal.Content(body); e != ok || !bytes.Equal(back, x) || !bytes.Equal(check, zeros(16)) {
			t.Errorf("%v: %v, %v, %d", x, back, check, e)
		}
	}
}

// P11.2, P11.3, P1
func TestErrorsOfChecksAndContents(t *testing.T) {
	most := content(api.MaxChunk)
	more := content(api.MaxChunk + 1)
	for i, c := range []struct {
		check, content []byte
		e              api.Errno
	}{
		{zeros(16), nil, ok}, {zeros(16), []byte{}, ok}, {zeros(16), most, ok}, {zeros(16), more, large}, {zeros(16), zeros(1 << 20), large},
		{nil, nil, bad}, {zeros(15), nil, bad}, {zeros(17), nil, bad}, {zeros(32), []byte("hi"), bad}, {zeros(1 << 16), []byte("hi"), bad}, {[]byte{}, most, bad},
		// ErrArgument for the check comes first.
		{nil, more, bad}, {zeros(15), more, bad}, {zeros(17), zeros(1 << 20), bad},
	} {
		if body, e := seal.Body(c.content, c.check); e != c.e || (len(body) > 0) != (e == ok) {
			t.Errorf("case %d: Body: %d bytes, %d", i, len(body), e)
		}
		for _, n := range []int{0, 1, 63, 64, 65, 80, 40959, 40960, 40961, 1 << 16} {
			want := c.e
			if want == ok && n != classOf(sizeOf(len(c.content))+len(c.content)+16) {
				want = bad
			}
			for name, f := range map[string]func(a, b, c []byte) ([]byte, api.Errno){"SealWith": seal.SealWith, "Explain": seal.Explain} {
				if got, e := f(zeros(n), c.check, c.content); e != want || (len(got) > 0) != (e == ok) {
					t.Errorf("case %d: %s: %d bytes, %d", i, name, len(got), e)
				}
			}
		}
	}
}

// P11.2, P1: bytes that are no body, for one reason each.
func TestNoBodies(t *testing.T) {
	short := bodyOf([]byte("hi"), fill(7, 16))
	long := bodyOf(content(200), fill(7, 16)) // of the class 224: 202 bytes, 6 zero bytes, the check
	set := func(b []byte, at int, value byte) []byte {
		b = bytes.Clone(b)
		b[at] = value
		return b
	}
	for i, b := range [][]byte{
		nil, {}, {0}, zeros(15), zeros(16), zeros(17), zeros(63), zeros(65), zeros(80), zeros(128), zeros(1 << 16), zeros(1 << 20),
		short[:63], short[1:], append(bytes.Clone(short), 0), append(bytes.Clone(short), zeros(16)...), slices.Insert(bytes.Clone(short), 48, zeros(16)...), slices.Delete(bytes.Clone(long), 202, 208),
		// Padding that is not zero.
		set(short, 3, 1), set(short, 47, 1), set(short, 25, 128), set(long, 202, 1), set(long, 207, 255),
		// Another length: of other padding, of another class, greater than the rest.
		set(short, 0, 1), set(short, 0, 0), set(short, 0, 48), set(short, 0, 64), set(short, 0, 127), set(long, 1, 2), set(long, 1, 127), set(bodyOf(content(47), zeros(16)), 0, 48), set(bodyOf(zeros(48), zeros(16)), 0, 47),
		// No shortest encoding, or none at all.
		append([]byte{130, 0}, short[2:]...), append([]byte{128, 0}, zeros(62)...), append([]byte{128, 128, 0}, zeros(61)...), fill(128, 64), fill(255, 64), append(fill(255, 9), append([]byte{2}, zeros(54)...)...),
		// A length of more than MaxChunk.
		append([]byte{129, 128, 2}, zeros(40957)...), append([]byte{255, 255, 3}, zeros(81917)...), append(append(fill(255, 9), 1), zeros(118)...), append([]byte{129, 128, 2}, zeros(61)...),
	} {
		if isBody(b) {
			t.Errorf("case %d is a body", i)
		}
		kept := bytes.Clone(b)
		if x, check, e := seal.Content(b); e != syntax || len(x) != 0 || len(check) != 0 {
			t.Errorf("case %d: Content: %v, %v, %d", i, x, check, e)
		}
		if x, check, e := seal.OpenWith(zeros(len(b)), b); e != syntax || len(x) != 0 || len(check) != 0 {
			t.Errorf("case %d: OpenWith: %v, %v, %d", i, x, check, e)
		}
		if !bytes.Equal(b, kept) {
			t.Errorf("case %d: an argument has changed", i)
		}
	}
}

// P11.2: whatever byte of a body is changed, Content decides by the definition.
func TestChangedBodies(t *testing.T) {
	for _, n := range []int{0, 2, 46, 47, 48, 127, 128, 200} {
		body := bodyOf(content(n), fill(7, 16))
		for at := range body {
			for _, change := range []byte{1, 2, 3, 128, 255} {
				changed := bytes.Clone(body)
				changed[at] ^= change
				x, check, e := seal.Content(changed)
				if isBody(changed) != (e == ok) || e != ok && e != syntax {
					t.Fatalf("%d bytes, byte %d: %d", n, at, e)
				}
				if e == ok && !bytes.Equal(bodyOf(x, check), changed) {
					t.Fatalf("%d bytes, byte %d: another body", n, at)
				}
			}
		}
	}
}

// P11.3, P11.6
func TestSealWith(t *testing.T) {
	random := newRandom()
	for _, n := range lengths() {
		x, check := sample(random, n), sample(random, 16)
		stream := sample(random, mustClass(t, n))
		keptX, keptCheck, keptStream := bytes.Clone(x), bytes.Clone(check), bytes.Clone(stream)
		block, e := seal.SealWith(stream, check, x)
		if e != ok || !bytes.Equal(block, xor(bodyOf(x, check), stream)) {
			t.Fatalf("SealWith of %d bytes: %d", n, e)
		}
		keptBlock := bytes.Clone(block)
		back, backCheck, e := seal.OpenWith(stream, block)
		if e != ok || !bytes.Equal(back, x) || !bytes.Equal(backCheck, check) {
			t.Fatalf("OpenWith of %d bytes: %d", n, e)
		}
		explained, e := seal.Explain(block, check, x)
		if e != ok || !bytes.Equal(explained, stream) {
			t.Fatalf("Explain of %d bytes: %d", n, e)
		}
		if !bytes.Equal(x, keptX) || !bytes.Equal(check, keptCheck) || !bytes.Equal(stream, keptStream) || !bytes.Equal(block, keptBlock) {
			t.Fatal("an argument has changed")
		}
		clear(back)
		clear(backCheck)
		clear(explained)
		if !bytes.Equal(x, keptX) || !bytes.Equal(check, keptCheck) || !bytes.Equal(stream, keptStream) || !bytes.Equal(block, keptBlock) {
			t.Fatal("a result shares memory")
		}
		clear(block)
		if !bytes.Equal(x, keptX) || !bytes.Equal(stream, keptStream) {
			t.Fatal("the block shares memory")
		}
	}
}

// P11.3, P1
func TestErrorsOfOpenWith(t *testing.T) {
	body := bodyOf([]byte("hi"), fill(7, 16))
	for i, c := range []struct {
		stream, sealed []byte
		e              api.Errno
	}{
		{zeros(64), body, ok}, {body, zeros(64), ok}, {body, body, ok}, {fill(9, 64), xor(body, fill(9, 64)), ok},
		{nil, body, bad}, {zeros(63), body, bad}, {zeros(65), body, bad}, {body, nil, bad}, {body, zeros(63), bad}, {zeros(64), zeros(65), bad}, {zeros(80), zeros(64), bad}, {nil, []byte{1}, bad},
		{nil, nil, syntax}, {zeros(63), body[:63], syntax}, {fill(1, 64), body, syntax}, {zeros(80), zeros(80), syntax},
	} {
		x, check, e := seal.OpenWith(c.stream, c.sealed)
		if e != c.e || (len(check) > 0) != (e == ok) || e != ok && len(x) > 0 {
			t.Errorf("case %d: %v, %v, %d", i, x, check, e)
		}
	}
}

// P11.6: for every block and every content of its class there is a stream, and no other one, that leads from one to the other.
func TestEveryContentHasAStream(t *testing.T) {
	random := newRandom()
	for _, class := range []int{64, 80, 128, 1024} {
		block := sample(random, class)
		streams := map[string]bool{}
		count := 0
		for n := range class {
			if mustClass(t, n) != class {
				continue
			}
			for range 4 {
				x, check := sample(random, n), sample(random, 16)
				stream, e := seal.Explain(block, check, x)
				if e != ok || !bytes.Equal(stream, xor(block, bodyOf(x, check))) {
					t.Fatalf("Explain of %d bytes: %d", n, e)
				}
				if again, e := seal.SealWith(stream, check, x); e != ok || !bytes.Equal(again, block) {
					t.Fatalf("SealWith of %d bytes: %d", n, e)
				}
				if back, backCheck, e := seal.OpenWith(stream, block); e != ok || !bytes.Equal(back, x) || !bytes.Equal(backCheck, check) {
					t.Fatalf("OpenWith of %d bytes: %d", n, e)
				}
				streams[string(stream)] = true
				count++
			}
		}
		if len(streams) != count {
			t.Errorf("class %d: %d streams for %d contents", class, len(streams), count)
		}
	}
}

// P11.4, P11.5: OpenSSL and Python give the same ones.
func TestKnownSeals(t *testing.T) {
	for _, c := range []struct {
		gen, n             int
		name, check, block string // of a long block the sum
	}{
		{0, 0, "e711546e3faad4c7c4aa756bc26cad6abea8241984a0f6b0839c70ca61c4ef88", "6656ed44406d8895497b1b8d854118fc",
			"5716607afb23109708995c5abf52b509ea80fedd92e1283d876796a8cf34580b09cdc2489a113778008b4db67c819de69b942a701bca6fe6f81b1637593d89b6"},
		{3, 2, "ef64b88338ad40d1b1d1cf410f895cfc904d4a0f61d7239442ffe8f0cddb3e2d", "bf0cf116f69608d80115bf25a063dff8",
			"f6600e8e485a027ad1446658e0393b69be8c6fc12b39917ae98af310e7857e20a63f3ac740d12cc76bac5df21b56bccb1b5825e00d55846821bc7ecf04b41f06"},
		{300, 1000, "64c596b733816be53a644aeb67c517e0964913779f912b331cf69d26858aa881", "e2a71424035bbd74274e00fddc2cd72a",
			"f2213b0ff6a4133e450f25d51525fcdc6c48d77612fd35a9bee9778fc4ea779d"},
		{math.MaxInt, api.MaxChunk, "d4059d7eba19ef3a1dcd4619d18b39d277d4f2752381800972a0e01b8c076daf", "91580b1eb8eccb95797124b81bb7f4e1",
			"f8e61cc3fddb418e88264b01e84b04fef8f3bbfbb0ecde83f7becbd18fcd4123"},
	} {
		x := content(c.n)
		if c.n == 2 {
			x = []byte("hi")
		}
		if check, e := seal.Check(keys(), x); e != ok || hex.EncodeToString(check) != c.check {
			t.Errorf("Check of %d bytes: %x, %d", c.n, check, e)
		}
		ref, block := sealed(t, keys(), c.gen, x)
		if hex.EncodeToString([]byte(ref.Name)) != c.name || ref.Gen != c.gen || ref.Size != c.n {
			t.Errorf("the ref of %d bytes: %x, %d, %d", c.n, ref.Name, ref.Gen, ref.Size)
		}
		got := hex.EncodeToString(block)
		if len(block) > 64 {
			sum := sha256.Sum256(block)
			got = hex.EncodeToString(sum[:])
		}
		if got != c.block {
			t.Errorf("the block of %d bytes: %s", c.n, got)
		}
		// The functions that the other tests compare with are right, too.
		if nameOf(keys(), c.gen, x) != ref.Name || !bytes.Equal(xor(streamOf(keys(), ref.Name, len(block)), bodyOf(x, checkOf(keys(), x))), block) {
			t.Errorf("%d bytes: the test is wrong", c.n)
		}
	}
}

// P11.4
func TestNamesChecksAndStreams(t *testing.T) {
	random := newRandom()
	for _, n := range lengths() {
		k := api.Keys{Name: string(sample(random, 32)), Stream: string(sample(random, 32)), Check: string(sample(random, 32)), Index: string(sample(random, 32)), Token: string(sample(random, 32))}
		x := sample(random, n)
		kept := bytes.Clone(x)
		for _, gen := range []int{0, 1, 2, 127, 128, 1 << 32, math.MaxInt} {
			if name, e := seal.Name(k, gen, x); e != ok || name != nameOf(k, gen, x) {
				t.Fatalf("Name of %d bytes in generation %d: %x, %d", n, gen, name, e)
			}
		}
		if check, e := seal.Check(k, x); e != ok || !bytes.Equal(check, checkOf(k, x)) {
			t.Fatalf("Check of %d bytes: %x, %d", n, check, e)
		}
		name := string(sample(random, 32))
		if stream, e := seal.Stream(k, name, n); e != ok || !bytes.Equal(stream, streamOf(k, name, n)) {
			t.Fatalf("Stream of %d bytes: %d", n, e)
		}
		// The rest of a name has no effect on its stream.
		if stream, e := seal.Stream(k, name[:12]+counting(0, 20), n); e != ok || !bytes.Equal(stream, streamOf(k, name, n)) {
			t.Fatalf("Stream of %d bytes of another name: %d", n, e)
		}
		if !bytes.Equal(x, kept) {
			t.Fatal("an argument has changed")
		}
	}
	if stream, e := seal.Stream(keys(), counting(0, 32), api.MaxBlock); e != ok || !bytes.Equal(stream, streamOf(keys(), counting(0, 32), api.MaxBlock)) {
		t.Errorf("the longest Stream: %d", e)
	}
	check, _ := seal.Check(keys(), nil)
	stream, _ := seal.Stream(keys(), counting(0, 32), 100)
	clear(check)
	clear(stream)
	if again, _ := seal.Check(keys(), nil); !bytes.Equal(again, checkOf(keys(), nil)) {
		t.Error("a check was not new")
	}
	if again, _ := seal.Stream(keys(), counting(0, 32), 100); !bytes.Equal(again, streamOf(keys(), counting(0, 32), 100)) {
		t.Error("a stream was not new")
	}
}

// P11.4, P11.5, P1
func TestErrorsOfNames(t *testing.T) {
	more := content(api.MaxChunk + 1)
	type request struct {
		k       api.Keys
		gen     int
		content []byte
		e       api.Errno
	}
	requests := []request{
		{keys(), 0, nil, ok}, {keys(), math.MaxInt, more[1:], ok}, {keys(), 0, more, large}, {keys(), 5, zeros(1 << 20), large},
		{keys(), -1, nil, bad}, {keys(), math.MinInt, nil, bad}, {keys(), -1, more, bad},
	}
	for _, k := range invalidKeys() {
		requests = append(requests, request{k, 0, nil, bad}, request{k, 0, more, bad}, request{k, -1, nil, bad})
	}
	for i, r := range requests {
		if name, e := seal.Name(r.k, r.gen, r.content); e != r.e || (name != "") != (e == ok) {
			t.Errorf("case %d: Name: %x, %d", i, name, e)
		}
		if ref, block, e := seal.Seal(r.k, r.gen, r.content); e != r.e || (len(block) > 0) != (e == ok) || e != ok && ref != (api.Ref{}) {
			t.Errorf("case %d: Seal: %v, %d bytes, %d", i, ref, len(block), e)
		}
		want := r.e
		if r.gen < 0 && r.k == keys() { // Check has no generation
			want = ok
			if len(r.content) > api.MaxChunk {
				want = large
			}
		}
		if check, e := seal.Check(r.k, r.content); e != want || (len(check) > 0) != (e == ok) {
			t.Errorf("case %d: Check: %x, %d", i, check, e)
		}
	}
}

// P11.4, P1
func TestErrorsOfStream(t *testing.T) {
	name := counting(0, 32)
	for _, n := range numbers() {
		want := ok
		switch {
		case n < 0:
			want = bad
		case n > api.MaxBlock:
			want = large
		}
		if stream, e := seal.Stream(keys(), name, n); e != want || e == ok && len(stream) != n || e != ok && len(stream) > 0 {
			t.Errorf("Stream of %d: %d bytes, %d", n, len(stream), e)
		}
		// ErrArgument comes first.
		for _, x := range badNames() {
			if stream, e := seal.Stream(keys(), x, n); e != bad || len(stream) > 0 {
				t.Errorf("Stream of %d of %q: %d bytes, %d", n, x, len(stream), e)
			}
		}
		for i, k := range invalidKeys() {
			if stream, e := seal.Stream(k, name, n); e != bad || len(stream) > 0 {
				t.Errorf("Stream of %d with keys %d: %d bytes, %d", n, i, len(stream), e)
			}
		}
	}
}

// P11.5, P11.6
func TestSealAndOpen(t *testing.T) {
	random := newRandom()
	for _, n := range lengths() {
		x, gen := sample(random, n), random.IntN(1000)
		kept := bytes.Clone(x)
		ref, block := sealed(t, keys(), gen, x)
		if ref != (api.Ref{Name: nameOf(keys(), gen, x), Gen: gen, Size: n}) {
			t.Fatalf("the ref of %d bytes: %v", n, ref)
		}
		if want := xor(bodyOf(x, checkOf(keys(), x)), streamOf(keys(), ref.Name, len(block))); !bytes.Equal(block, want) {
			t.Fatalf("the block of %d bytes is another one", n)
		}
		keptBlock := bytes.Clone(block)
		back, e := seal.Open(keys(), ref, block)
		if e != ok || !bytes.Equal(back, x) {
			t.Fatalf("Open of %d bytes: %d", n, e)
		}
		clear(back)
		if !bytes.Equal(x, kept) || !bytes.Equal(block, keptBlock) {
			t.Fatal("memory is shared, or an argument has changed")
		}
		clear(block)
		if !bytes.Equal(x, kept) {
			t.Fatal("the block shares memory")
		}
	}
}

// P11.5, P11.6: a block with one changed byte is refused.
func TestChangedBlocks(t *testing.T) {
	for _, n := range []int{0, 2, 47, 48, 128, 1000} {
		ref, block := sealed(t, keys(), 1, content(n))
		for at := range block {
			for _, change := range []byte{1, 128, 255} {
				changed := bytes.Clone(block)
				changed[at] ^= change
				if x, e := seal.Open(keys(), ref, changed); e != corrupt || len(x) > 0 {
					t.Fatalf("%d bytes, byte %d: %v, %d", n, at, x, e)
				}
			}
		}
	}
}

// P11.5, P1: blocks that do not fit, for one reason each.
func TestUnfitBlocks(t *testing.T) {
	k, x := keys(), []byte("content")
	ref, block := sealed(t, k, 2, x)
	stream := streamOf(k, ref.Name, 64)
	with := func(check, content []byte) []byte { return xor(bodyOf(content, check), stream) }
	of := func(name string, gen, size int) api.Ref { return api.Ref{Name: name, Gen: gen, Size: size} }
	padded := bodyOf(x, checkOf(k, x))
	padded[47] = 1
	other := counting(7, 32)
	otherKey := func(at int) api.Keys {
		k := keys()
		*[]*string{&k.Name, &k.Stream, &k.Check, &k.Index, &k.Token}[at] = other
		return k
	}
	for i, c := range []struct {
		k      api.Keys
		ref    api.Ref
		sealed []byte
		e      api.Errno
	}{
		{k, ref, block, ok}, {k, ref, with(checkOf(k, x), x), ok}, {otherKey(3), ref, block, ok}, {otherKey(4), ref, block, ok},
		// Not a body.
		{k, ref, zeros(64), corrupt}, {k, ref, stream[:64:64], corrupt}, {k, ref, xor(fill(255, 64), stream), corrupt}, {k, ref, xor(padded, stream), corrupt}, {otherKey(1), ref, block, corrupt},
		// Another length, of the same class.
		{k, of(ref.Name, 2, 6), block, corrupt}, {k, of(ref.Name, 2, 8), block, corrupt}, {k, of(ref.Name, 2, 0), block, corrupt}, {k, of(ref.Name, 2, 47), block, corrupt},
		// Another check.
		{k, ref, with(zeros(16), x), corrupt}, {k, ref, with(checkOf(k, nil), x), corrupt}, {otherKey(2), ref, block, corrupt}, {k, ref, with(append(checkOf(k, x)[:15], checkOf(k, x)[15]^1), x), corrupt},
		// Another name: of another content, generation or key.
		{k, ref, with(checkOf(k, []byte("CONTENT")), []byte("CONTENT")), corrupt}, {k, of(ref.Name, 3, 7), block, corrupt}, {k, of(ref.Name, 0, 7), block, corrupt}, {k, of(ref.Name, math.MaxInt, 7), block, corrupt}, {otherKey(0), ref, block, corrupt},
		{k, of(other, 2, 7), xor(bodyOf(x, checkOf(k, x)), streamOf(k, other, 64)), corrupt}, {k, of(ref.Name[:31]+"x", 2, 7), block, corrupt}, {k, of(ref.Name[:12]+other[:20], 2, 7), block, corrupt},
		// ErrArgument: the ref.
		{k, of("", 2, 7), block, bad}, {k, of(ref.Name[:31], 2, 7), block, bad}, {k, of(ref.Name[:12], 2, 7), block, bad}, {k, of(ref.Name+"x", 2, 7), block, bad},
		{k, of(ref.Name, -1, 7), block, bad}, {k, of(ref.Name, math.MinInt, 7), block, bad}, {k, of(ref.Name, 2, -1), block, bad}, {k, of(ref.Name, 2, math.MinInt), block, bad}, {k, of(ref.Name, 2, 32769), zeros(40960), bad}, {k, of(ref.Name, 2, math.MaxInt), block, bad}, {k, of(ref.Name, 2, 1<<32+7), block, bad},
		{k, of(ref.Name, 2, 48), block, bad}, {k, api.Ref{}, block, bad}, {k, api.Ref{}, nil, bad},
		// ErrArgument: the block.
		{k, ref, nil, bad}, {k, ref, block[:63], bad}, {k, ref, append(bytes.Clone(block), 0), bad}, {k, ref, zeros(80), bad}, {k, ref, zeros(1 << 20), bad}, {k, of(ref.Name, 2, 48), zeros(64), bad}, {k, of(ref.Name, 2, 32768), zeros(32768), bad}, {k, of(ref.Name, 2, 32768), zeros(40960), corrupt},
	} {
		kept := bytes.Clone(c.sealed)
		got, e := seal.Open(c.k, c.ref, c.sealed)
		if e != c.e || e == ok && !bytes.Equal(got, x) || e != ok && len(got) > 0 {
			t.Errorf("case %d: %q, %d", i, got, e)
		}
		if !bytes.Equal(c.sealed, kept) {
			t.Errorf("case %d: an argument has changed", i)
		}
	}
	for i, invalid := range invalidKeys() {
		for _, b := range [][]byte{block, zeros(64), nil} {
			if got, e := seal.Open(invalid, ref, b); e != bad || len(got) > 0 {
				t.Errorf("keys %d: %q, %d", i, got, e)
			}
		}
	}
}

// P11.6: contents of the same class have blocks of the same length, and equal contents of a generation the same block.
func TestEqualContents(t *testing.T) {
	ref, block := sealed(t, keys(), 4, content(100))
	again, sameBlock := sealed(t, keys(), 4, content(100))
	next, nextBlock := sealed(t, keys(), 5, content(100))
	if ref != again || !bytes.Equal(block, sameBlock) {
		t.Error("two blocks of the same content")
	}
	if ref.Name == next.Name || bytes.Equal(block, nextBlock) || len(block) != len(nextBlock) {
		t.Error("one block in two generations")
	}
	for n := range 110 {
		if _, other := sealed(t, keys(), 4, content(n)); (len(other) == len(block)) != (n >= 96) {
			t.Errorf("%d bytes: a block of %d", n, len(other))
		}
	}
}

// P1: arguments at random, of which few are valid.
func TestAnyArguments(t *testing.T) {
	random := newRandom()
	any := numbers()
	number := func() int { return any[random.IntN(len(any))] }
	strange := append(invalidKeys(), keys(), keys(), keys())
	block := func() []byte {
		b := sample(random, []int{0, 1, 15, 16, 17, 63, 64, 65, 80, 96}[random.IntN(10)])
		if random.IntN(2) == 0 {
			clear(b[min(len(b), 3):max(min(len(b), 3), len(b)-16)])
		}
		if len(b) > 0 && random.IntN(2) == 0 {
			b[0] &= 3
		}
		return b
	}
	for range 5000 {
		a, b, c, k := block(), block(), block(), strange[random.IntN(len(strange))]
		x, check, e := seal.Content(a)
		if isBody(a) != (e == ok) || e != ok && (e != syntax || len(x) > 0 || len(check) > 0) {
			t.Fatalf("Content of %v: %v, %v, %d", a, x, check, e)
		}
		x, check, e = seal.OpenWith(a, b)
		if (len(a) != len(b)) != (e == bad) || e != bad && isBody(xor(a, b)) != (e == ok) || e != ok && (len(x) > 0 || len(check) > 0) {
			t.Fatalf("OpenWith of %v, %v: %v, %v, %d", a, b, x, check, e)
		}
		if stream, e := seal.Explain(a, b, c); (e == ok) != (len(b) == 16 && len(a) == classOf(sizeOf(len(c))+len(c)+16)) || e != ok && (e != bad || len(stream) > 0) {
			t.Fatalf("Explain of %v, %v, %v: %v, %d", a, b, c, stream, e)
		}
		ref := api.Ref{Name: string(sample(random, 32+random.IntN(2))), Gen: number(), Size: number()}
		if x, e := seal.Open(k, ref, a); e != bad && e != corrupt || len(x) > 0 {
			t.Fatalf("Open of %v: %v, %d", a, x, e)
		}
		n := number()
		if stream, e := seal.Stream(k, ref.Name, n); e != ok && len(stream) > 0 || e == ok && (len(stream) != n || k != keys() || len(ref.Name) != 32) {
			t.Fatalf("Stream of %d: %d bytes, %d", n, len(stream), e)
		}
	}
}

package disk_test

import (
	"bytes"
	"fmt"
	"math"
	"slices"
	"testing"

	"kinkeep/disk"
)

const zeros = "\x00\x00\x00"

// P15.2, P15.4, P15.5: the first example of the chapter.
func TestFirstExample(t *testing.T) {
	for _, c := range []struct {
		keep []bool
		torn int
		want string
	}{{nil, 2, "ab\x00"}, {[]bool{true}, 2, "abc"}} {
		d := newDisk(t, 2, 3)
		written(t, d, []int{0}, "abc")
		expect(t, d, []string{"abc", zeros}, []string{zeros, zeros})
		d.Crash(c.keep, c.torn)
		expect(t, d, []string{c.want, zeros}, []string{c.want, zeros})
	}
}

// P15.4: the second example of the chapter.
func TestSecondExample(t *testing.T) {
	for _, c := range []struct {
		keep []bool
		want string
	}{{[]bool{false, true}, "def"}, {[]bool{true, false}, "dbc"}} {
		d := newDisk(t, 2, 3)
		written(t, d, []int{0, 0}, "abc", "def")
		d.Crash(c.keep, 1)
		expect(t, d, []string{c.want, zeros}, []string{c.want, zeros})
	}
}

// P15.3: the third example of the chapter.
func TestThirdExample(t *testing.T) {
	for _, operation := range []string{"write", "sync"} {
		d := newDisk(t, 2, 3)
		d.Fail(1)
		if e := d.Write(0, []byte("abc")); e != ok || d.Down() {
			t.Errorf("Write: %d, down %v", e, d.Down())
		}
		if e := d.Write(2, []byte("abc")); e != bad || d.Down() {
			t.Errorf("Write to no sector: %d, down %v", e, d.Down())
		}
		if e := operate(d, operation); e != down || !d.Down() {
			t.Errorf("%s: %d, down %v", operation, e, d.Down())
		}
	}
}

// P15.1, P1
func TestNew(t *testing.T) {
	for _, sectors := range numbers() {
		for _, size := range numbers() {
			valid := 1 <= sectors && sectors <= 65536 && 1 <= size && size <= 4096
			d, e := disk.New(sectors, size)
			if !valid {
				if e != bad || d != nil {
					t.Errorf("%d sectors of %d bytes: %d", sectors, size, e)
				}
				continue
			}
			if e != ok || d.Sectors() != sectors || d.Size() != size || d.Pending() != 0 || d.Down() {
				t.Fatalf("%d sectors of %d bytes: %d; %d of %d, %d pending, down %v", sectors, size, e, d.Sectors(), d.Size(), d.Pending(), d.Down())
			}
			for _, sector := range []int{0, sectors - 1} {
				if b, e := d.Read(sector); e != ok || !bytes.Equal(b, make([]byte, size)) {
					t.Errorf("Read of %d: %x, %d", sector, b, e)
				}
			}
		}
	}
	newRecord(300, 40).compare(t, newDisk(t, 300, 40))
	newRecord(1, 1).compare(t, newDisk(t, 1, 1))
}

// P15.1, P15.2, P15.5: the greatest disk has all of its sectors and bytes.
func TestGreatestDisk(t *testing.T) {
	random := newRandom()
	d := newDisk(t, 65536, 4096)
	want := map[int][]byte{}
	for _, sector := range []int{0, 1, 255, 256, 32768, 65535} {
		want[sector] = sample(random, 4096)
		if e := d.Write(sector, want[sector]); e != ok {
			t.Fatalf("Write to %d: %d", sector, e)
		}
	}
	if e := d.Sync(); e != ok {
		t.Fatalf("Sync: %d", e)
	}
	if e := d.Spoil(65535, 4095, 1); e != ok {
		t.Fatalf("Spoil: %d", e)
	}
	want[65535][4095] ^= 1
	for sector := range 65536 {
		data := want[sector]
		if data == nil {
			data = make([]byte, 4096)
		}
		if b, e := d.Read(sector); e != ok || !bytes.Equal(b, data) {
			t.Fatalf("Read of %d: %d", sector, e)
		}
	}
}

// P15.2, P1: invalid sectors and data have no effect.
func TestInvalid(t *testing.T) {
	random := newRandom()
	for _, sectors := range []int{1, 2, 4, 5} {
		for _, size := range []int{1, 2, 3, 5} {
			d, r := newDisk(t, sectors, size), newRecord(sectors, size)
			for round := range 3 {
				checkInvalid(t, d)
				r.compare(t, d)
				data := sample(random, size)
				if e := d.Write(round%sectors, data); e != r.write(round%sectors, data) {
					t.Fatalf("Write: %d", e)
				}
			}
		}
	}
}

// checkInvalid calls the methods of a disk with the power on, with all kinds of invalid arguments.
func checkInvalid(t *testing.T, d *disk.Disk) {
	t.Helper()
	for _, sector := range numbers() {
		valid := 0 <= sector && sector < d.Sectors()
		for n := range d.Size() + 3 {
			if valid && n == d.Size() {
				continue
			}
			if e := d.Write(sector, make([]byte, n)); e != bad {
				t.Errorf("Write of %d bytes to %d: %d", n, sector, e)
			}
		}
		if e := d.Write(sector, nil); e != bad {
			t.Errorf("Write of nothing to %d: %d", sector, e)
		}
		if b, e := d.Read(sector); !valid && (e != bad || len(b) > 0) {
			t.Errorf("Read of %d: %x, %d", sector, b, e)
		}
		for _, offset := range numbers() {
			if valid && 0 <= offset && offset < d.Size() {
				continue
			}
			if e := d.Spoil(sector, offset, 255); e != bad {
				t.Errorf("Spoil of %d, %d: %d", sector, offset, e)
			}
		}
	}
}

// P15.2 to P15.5: a disk is what the definitions say, whatever is done in whatever order.
func TestAnything(t *testing.T) {
	random := newRandom()
	for range 300 {
		sectors, size := 1+random.IntN(5), 1+random.IntN(6)
		d, r := newDisk(t, sectors, size), newRecord(sectors, size)
		for range 100 {
			switch sector := random.IntN(sectors); random.IntN(12) {
			case 0:
				if e, want := d.Sync(), r.sync(); e != want {
					t.Fatalf("Sync: %d; want %d", e, want)
				}
			case 1:
				after := random.IntN(8) - 2
				d.Fail(after)
				r.fail(after)
			case 2:
				keep, torn := flags(random, random.IntN(2*len(r.pending)+1)), random.IntN(size+4)-2
				d.Crash(keep, torn)
				r.crash(keep, torn)
			case 3:
				offset, x := random.IntN(size), byte(random.Uint32())
				if e := d.Spoil(sector, offset, x); e != ok {
					t.Fatalf("Spoil: %d", e)
				}
				r.durable[sector][offset] ^= x
			default:
				data := sample(random, size)
				if e, want := d.Write(sector, data), r.write(sector, data); e != want {
					t.Fatalf("Write: %d; want %d", e, want)
				}
			}
			r.compare(t, d)
		}
	}
}

// P15.2: the sectors have what was written last, also if there are many writes to many sectors.
func TestManyWrites(t *testing.T) {
	random := newRandom()
	d, r := newDisk(t, 50, 16), newRecord(50, 16)
	for i := range 3000 {
		sector, data := random.IntN(50), sample(random, 16)
		if d.Write(sector, data) != r.write(sector, data) {
			t.Fatal("Write")
		}
		if i%500 == 499 {
			r.compare(t, d)
		}
	}
	if d.Pending() != 3000 || d.Sync() != r.sync() || d.Pending() != 0 {
		t.Errorf("%d pending", d.Pending())
	}
	r.compare(t, d)
}

// P15.2, P15.4, P15.5: nothing that a disk was given or has returned is part of it, and nothing that it was given is changed.
func TestMemory(t *testing.T) {
	d := newDisk(t, 2, 3)
	data := []byte("abc")
	spoilResults := func() {
		for sector := range 2 {
			b, _ := d.Read(sector)
			copy(b, "###")
		}
		image := d.Image()
		copy(image[0], "###")
		image[1] = nil
	}
	for _, sector := range []int{0, 1, 0} {
		if e := d.Write(sector, data); e != ok || string(data) != "abc" {
			t.Fatalf("Write: %d, %q", e, data)
		}
	}
	copy(data, "???")
	spoilResults()
	expect(t, d, []string{"abc", "abc"}, []string{zeros, zeros})
	d.Sync()
	copy(data, "!!!")
	spoilResults()
	expect(t, d, []string{"abc", "abc"}, []string{"abc", "abc"})
	if e := d.Spoil(0, 0, 'a'^'A'); e != ok {
		t.Fatalf("Spoil: %d", e)
	}
	expect(t, d, []string{"Abc", "abc"}, []string{"Abc", "abc"})
	written(t, d, []int{0, 1}, "def", "ghi")
	keep := []bool{true}
	d.Crash(keep, 1)
	spoilResults()
	if !slices.Equal(keep, []bool{true}) {
		t.Error("an argument has changed")
	}
	expect(t, d, []string{"def", "gbc"}, []string{"def", "gbc"})
}

// P15.2: capacities of an argument are not written to.
func TestCapacity(t *testing.T) {
	d := newDisk(t, 2, 3)
	line := []byte("abcdef")
	if e := d.Write(0, line[:3]); e != ok {
		t.Fatalf("Write: %d", e)
	}
	b, _ := d.Read(0)
	_ = append(b, "###"...)
	written(t, d, []int{1}, "ghi")
	if string(line) != "abcdef" {
		t.Errorf("%q", line)
	}
	expect(t, d, []string{"abc", "ghi"}, []string{zeros, zeros})
}

// P15.2 to P15.5: two disks have nothing in common.
func TestTwoDisks(t *testing.T) {
	a, b := newDisk(t, 2, 3), newDisk(t, 2, 3)
	written(t, a, []int{0}, "abc")
	a.Sync()
	a.Fail(0)
	written(t, b, []int{0, 1}, "def", "ghi")
	if e := a.Sync(); e != down || b.Down() || b.Pending() != 2 {
		t.Errorf("%d, down %v, %d pending", e, b.Down(), b.Pending())
	}
	b.Crash([]bool{false, true}, 0)
	expectImage(t, a, []string{"abc", zeros})
	expect(t, b, []string{zeros, "ghi"}, []string{zeros, "ghi"})
}

// P1: a disk that New did not make has no stated meaning and does not panic.
func TestNoDisk(t *testing.T) {
	var d disk.Disk
	for range 2 {
		d.Fail(-1)
		d.Write(0, nil)
		d.Write(1, []byte("abc"))
		d.Read(0)
		d.Spoil(0, 0, 1)
		d.Crash([]bool{true}, 1)
		d.Sync()
		d.Fail(1)
	}
	if text := fmt.Sprint(d.Sectors(), d.Size(), d.Pending(), len(d.Image())); text != "0 0 0 0" {
		t.Error(text)
	}
}

// P15.3, P1: numbers of any size.
func TestFailNumbers(t *testing.T) {
	for _, after := range numbers() {
		d := newDisk(t, 1, 1)
		d.Fail(after)
		for done := range 6 {
			if want := after == done; (operate(d, "sync") == down) != want || d.Down() != want {
				t.Errorf("Fail(%d), operation %d: down %v", after, done, d.Down())
			}
			if d.Down() {
				break
			}
		}
		for _, torn := range []int{math.MinInt, math.MaxInt} {
			d.Crash(nil, torn)
		}
	}
}

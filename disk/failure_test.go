package disk_test

import (
	"bytes"
	"slices"
	"testing"

	"kinkeep/api"
	"kinkeep/disk"
)

// operate writes to the first sector, or syncs.
func operate(d *disk.Disk, operation string) api.Errno {
	if operation == "write" {
		return d.Write(0, bytes.Repeat([]byte("x"), d.Size()))
	}
	return d.Sync()
}

// P15.3: the power fails during the operation after so many further ones; what is not an operation does not count.
func TestFail(t *testing.T) {
	random := newRandom()
	for after := range 12 {
		for range 20 {
			d := newDisk(t, 2, 3)
			d.Fail(after)
			for done := range after + 1 {
				checkInvalid(t, d)
				d.Read(1)
				d.Image()
				d.Pending()
				d.Spoil(1, 1, 1)
				operation := []string{"write", "sync"}[random.IntN(2)]
				e := operate(d, operation)
				if fails := done == after; (e == down) != fails || d.Down() != fails || e != ok && e != down {
					t.Fatalf("Fail(%d), operation %d: %d, down %v", after, done, e, d.Down())
				}
			}
			checkDown(t, d)
		}
	}
}

// checkDown calls the methods of a disk with the power off.
func checkDown(t *testing.T, d *disk.Disk) {
	t.Helper()
	pending, image := d.Pending(), d.Image()
	for _, sector := range numbers() {
		for _, n := range []int{0, d.Size(), d.Size() + 1} {
			if e := d.Write(sector, make([]byte, n)); e != down {
				t.Errorf("Write of %d bytes to %d without power: %d", n, sector, e)
			}
		}
		if b, e := d.Read(sector); e != down || len(b) > 0 {
			t.Errorf("Read of %d without power: %x, %d", sector, b, e)
		}
	}
	if e := d.Sync(); e != down {
		t.Errorf("Sync without power: %d", e)
	}
	if e := d.Spoil(d.Sectors(), 0, 1); e != bad {
		t.Errorf("Spoil of no sector without power: %d", e)
	}
	if !d.Down() || d.Pending() != pending || !slices.EqualFunc(d.Image(), image, bytes.Equal) {
		t.Errorf("down %v, %d pending; want %d", d.Down(), d.Pending(), pending)
	}
}

// P15.2, P15.3, P15.4: a write during which the power fails is pending as the last one.
func TestFailingWrite(t *testing.T) {
	for _, c := range []struct {
		keep []bool
		want []string
	}{
		{nil, []string{"abx", zeros}},
		{[]bool{true}, []string{"abc", "gh\x00"}},
		{[]bool{false, true}, []string{"abx", "ghi"}},
		{[]bool{true, true}, []string{"abc", "ghi"}},
	} {
		d := newDisk(t, 2, 3)
		written(t, d, []int{0}, "xxx")
		d.Sync()
		written(t, d, []int{0}, "abc")
		d.Fail(0)
		if e := d.Write(1, []byte("ghi")); e != down || d.Pending() != 2 {
			t.Fatalf("Write: %d, %d pending", e, d.Pending())
		}
		expectImage(t, d, []string{"xxx", zeros})
		d.Crash(c.keep, 2)
		expect(t, d, c.want, c.want)
	}
}

// P15.2, P15.3: a sync during which the power fails makes nothing durable, and all writes stay pending.
func TestFailingSync(t *testing.T) {
	for _, c := range []struct {
		keep []bool
		want []string
	}{{nil, []string{"a\x00\x00", zeros}}, {[]bool{true, true}, []string{"abc", "def"}}, {[]bool{false, true}, []string{"a\x00\x00", "def"}}} {
		d := newDisk(t, 2, 3)
		d.Fail(2)
		written(t, d, []int{0, 1}, "abc", "def")
		if e := d.Sync(); e != down || !d.Down() || d.Pending() != 2 {
			t.Fatalf("Sync: %d, down %v, %d pending", e, d.Down(), d.Pending())
		}
		expectImage(t, d, []string{zeros, zeros})
		d.Crash(c.keep, 1)
		expect(t, d, c.want, c.want)
	}
}

// P15.3: a later call of Fail replaces an earlier one, and a negative number cancels it.
func TestFailAgain(t *testing.T) {
	for _, c := range []struct{ first, second, want int }{{0, 2, 2}, {2, 0, 0}, {3, 3, 3}, {0, -1, -1}, {1, -7, -1}, {-1, 1, 1}, {-5, -1, -1}} {
		for between := range 3 {
			d := newDisk(t, 1, 3)
			if c.first >= 0 {
				d.Fail(c.first + between)
			} else {
				d.Fail(c.first)
			}
			for range between {
				operate(d, "write")
			}
			d.Fail(c.second)
			failed := -1
			for done := range 6 {
				if e := operate(d, "write"); e != ok && failed < 0 {
					failed = done
				}
			}
			if failed != c.want || d.Down() != (c.want >= 0) {
				t.Errorf("Fail(%d), %d writes, Fail(%d): failed at %d, down %v", c.first, between, c.second, failed, d.Down())
			}
		}
	}
}

// P15.3, P15.4: while the power is off Fail has no effect, and after a crash no failure is set.
func TestNoFailureAfterCrash(t *testing.T) {
	for _, after := range []int{-1, 0, 1, 3} {
		for _, off := range []bool{false, true} {
			d := newDisk(t, 1, 3)
			if off {
				d.Fail(0)
				if e := d.Sync(); e != down {
					t.Fatalf("Sync: %d", e)
				}
			}
			d.Fail(after)
			if d.Down() != off {
				t.Fatalf("Fail(%d): down %v", after, d.Down())
			}
			d.Crash(nil, 0)
			for range 5 {
				for _, operation := range []string{"write", "sync"} {
					if e := operate(d, operation); e != ok || d.Down() {
						t.Fatalf("Fail(%d) before a crash, power off %v: %s: %d", after, off, operation, e)
					}
				}
			}
			d.Fail(0)
			if e := operate(d, "write"); e != down {
				t.Errorf("Fail after a crash: %d", e)
			}
		}
	}
}

// P15.4: all crashes of a few pending writes, with the power on and off.
func TestAllCrashes(t *testing.T) {
	random := newRandom()
	for range 12 {
		for writes := range 6 {
			var changes []change
			for range writes {
				changes = append(changes, change{random.IntN(2), sample(random, 3)})
			}
			old := [][]byte{sample(random, 3), sample(random, 3)}
			for length := range writes + 2 {
				for set := range 1 << length {
					keep := make([]bool, length)
					for i := range keep {
						keep[i] = set>>i&1 == 1
					}
					for torn := -2; torn <= 5; torn++ {
						crashOnce(t, old, changes, keep, torn, set%2 == 1)
					}
				}
			}
		}
	}
}

// crashOnce compares one crash with its record.
func crashOnce(t *testing.T, old [][]byte, changes []change, keep []bool, torn int, off bool) {
	t.Helper()
	d, r := newDisk(t, len(old), len(old[0])), newRecord(len(old), len(old[0]))
	for sector, data := range old {
		d.Write(sector, data)
		r.write(sector, data)
	}
	d.Sync()
	r.sync()
	if off {
		d.Fail(len(changes))
		r.fail(len(changes))
	}
	for _, c := range changes {
		if d.Write(c.sector, c.data) != r.write(c.sector, c.data) {
			t.Fatal("Write")
		}
	}
	if off && (d.Sync() != down || r.sync() != down) {
		t.Fatal("Sync")
	}
	r.compare(t, d)
	kept := slices.Clone(keep)
	d.Crash(keep, torn)
	r.crash(keep, torn)
	if !slices.Equal(keep, kept) {
		t.Fatal("an argument has changed")
	}
	if d.Pending() != 0 || d.Down() {
		t.Fatalf("%d pending, down %v", d.Pending(), d.Down())
	}
	r.compare(t, d)
}

// P15.5: Spoil changes durable bytes only, with the power on or off; a torn write leaves them as they are.
func TestSpoil(t *testing.T) {
	for _, off := range []bool{false, true} {
		d := newDisk(t, 2, 3)
		written(t, d, []int{0, 0}, "abc", "ABC")
		d.Sync()
		written(t, d, []int{0}, "def")
		if off {
			d.Fail(0)
			d.Sync()
		}
		for _, c := range []struct {
			sector, offset int
			x              byte
		}{{0, 1, 'B' ^ '?'}, {0, 2, 'C' ^ '!'}, {1, 2, 255}, {1, 2, 254}, {1, 0, 0}} {
			if e := d.Spoil(c.sector, c.offset, c.x); e != ok {
				t.Errorf("Spoil of %d, %d: %d", c.sector, c.offset, e)
			}
		}
		if d.Down() != off || d.Pending() != 1 {
			t.Errorf("down %v, %d pending", d.Down(), d.Pending())
		}
		expectImage(t, d, []string{"A?!", "\x00\x00\x01"})
		if !off {
			expect(t, d, []string{"def", "\x00\x00\x01"}, []string{"A?!", "\x00\x00\x01"})
		}
		d.Crash(nil, 1)
		expect(t, d, []string{"d?!", "\x00\x00\x01"}, []string{"d?!", "\x00\x00\x01"})
	}
}

// P15.5: Spoil is not an operation at which the power fails.
func TestSpoilIsNoOperation(t *testing.T) {
	d := newDisk(t, 1, 3)
	d.Fail(0)
	if e := d.Spoil(0, 0, 1); e != ok || d.Down() {
		t.Errorf("Spoil: %d, down %v", e, d.Down())
	}
	if e := d.Sync(); e != down {
		t.Errorf("Sync: %d", e)
	}
}

// P15.6: after a Sync no crash changes the contents of any sector.
func TestCrashAfterSync(t *testing.T) {
	random := newRandom()
	for range 200 {
		d := newDisk(t, 4, 5)
		for range random.IntN(9) {
			d.Write(random.IntN(4), sample(random, 5))
		}
		var before [][]byte
		for sector := range 4 {
			b, _ := d.Read(sector)
			before = append(before, b)
		}
		if e := d.Sync(); e != ok {
			t.Fatalf("Sync: %d", e)
		}
		d.Crash(flags(random, random.IntN(9)), random.IntN(7))
		if !slices.EqualFunc(d.Image(), before, bytes.Equal) {
			t.Fatalf("%x; want %x", d.Image(), before)
		}
		for sector := range 4 {
			if b, e := d.Read(sector); e != ok || !bytes.Equal(b, before[sector]) {
				t.Fatalf("Read of %d: %x, %d; want %x", sector, b, e, before[sector])
			}
		}
	}
}

// P15.6: after a crash each sector is as it was or as it was written, if there is one write to each, but at most one that is torn.
func TestCrashOfDifferentSectors(t *testing.T) {
	random := newRandom()
	for range 300 {
		d := newDisk(t, 6, 5)
		for sector := range 6 {
			d.Write(sector, sample(random, 5))
		}
		d.Sync()
		old, data := d.Image(), make([][]byte, 6)
		for _, sector := range random.Perm(6)[:random.IntN(7)] {
			data[sector] = sample(random, 5)
			d.Write(sector, data[sector])
		}
		d.Crash(flags(random, random.IntN(9)), random.IntN(9)-2)
		torn := 0
		for sector, now := range d.Image() {
			if bytes.Equal(now, old[sector]) || bytes.Equal(now, data[sector]) {
				continue
			}
			torn++
			n := 0
			for n < 5 && now[n] == data[sector][n] {
				n++
			}
			if !bytes.Equal(now[n:], old[sector][n:]) {
				t.Fatalf("sector %d: %x after %x and %x", sector, now, old[sector], data[sector])
			}
		}
		if torn > 1 {
			t.Fatalf("%d sectors are torn", torn)
		}
	}
}

// P15.6: between a failure and the crash every Write, Read and Sync returns ErrDown.
func TestDown(t *testing.T) {
	for _, operation := range []string{"write", "sync"} {
		d := newDisk(t, 3, 4)
		written(t, d, []int{1}, "abcd")
		d.Fail(0)
		if e := operate(d, operation); e != down {
			t.Errorf("%s: %d", operation, e)
		}
		for range 3 {
			checkDown(t, d)
			d.Fail(-1)
			checkDown(t, d)
			d.Fail(9)
		}
		d.Crash([]bool{true, true}, 0)
		if b, e := d.Read(1); e != ok || string(b) != "abcd" || d.Down() {
			t.Errorf("Read after the crash: %q, %d, down %v", b, e, d.Down())
		}
		if e := d.Sync(); e != ok {
			t.Errorf("Sync after the crash: %d", e)
		}
	}
}

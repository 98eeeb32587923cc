package disk_test

import (
	"bytes"
	"math"
	"math/rand/v2"
	"slices"
	"testing"

	"kinkeep/api"
	"kinkeep/disk"
)

const (
	ok   = api.OK
	bad  = api.ErrArgument
	down = api.ErrDown
)

// newRandom returns a source of numbers that are the same in each run.
func newRandom() *rand.Rand { return rand.New(rand.NewPCG(15, 15)) }

// sample returns n bytes at random.
func sample(random *rand.Rand, n int) []byte {
	b := make([]byte, n)
	for i := range b {
		b[i] = byte(random.Uint32())
	}
	return b
}

// flags returns n values at random.
func flags(random *rand.Rand, n int) []bool {
	list := make([]bool, n)
	for i := range list {
		list[i] = random.IntN(2) == 1
	}
	return list
}

// numbers are of any size.
func numbers() []int {
	return []int{math.MinInt, math.MinInt + 1, -1 << 32, -65536, -3, -2, -1, 0, 1, 2, 3, 4, 5, 4095, 4096, 4097, 65535, 65536, 65537, 1 << 32, 1<<32 + 1, math.MaxInt - 1, math.MaxInt}
}

// newDisk returns a disk of valid numbers.
func newDisk(t *testing.T, sectors, size int) *disk.Disk {
	t.Helper()
	d, e := disk.New(sectors, size)
	if e != ok || d == nil {
		t.Fatalf("New of %d sectors of %d bytes: %v, %d", sectors, size, d, e)
	}
	return d
}

// written writes texts to sectors: the first one to the first sector, and so on.
func written(t *testing.T, d *disk.Disk, sectors []int, texts ...string) {
	t.Helper()
	for i, text := range texts {
		if e := d.Write(sectors[i], []byte(text)); e != ok {
			t.Fatalf("Write of %q to %d: %d", text, sectors[i], e)
		}
	}
}

// expect compares what a disk with the power on has in its cache, and durably, with texts by sector.
func expect(t *testing.T, d *disk.Disk, cached, durable []string) {
	t.Helper()
	for sector, want := range cached {
		if b, e := d.Read(sector); e != ok || string(b) != want {
			t.Errorf("Read of %d: %q, %d; want %q", sector, b, e, want)
		}
	}
	expectImage(t, d, durable)
}

// expectImage compares the durable contents with texts by sector.
func expectImage(t *testing.T, d *disk.Disk, want []string) {
	t.Helper()
	var image []string
	for _, b := range d.Image() {
		image = append(image, string(b))
	}
	if !slices.Equal(image, want) {
		t.Errorf("Image: %q; want %q", image, want)
	}
}

// record is a disk as the chapter defines it.
type record struct {
	durable [][]byte
	pending []change
	further int // operations before a failure, negative if there is none
	off     bool
}

// change is a pending write.
type change struct {
	sector int
	data   []byte
}

// newRecord returns the record of a new disk.
func newRecord(sectors, size int) *record {
	r := &record{further: -1}
	for range sectors {
		r.durable = append(r.durable, make([]byte, size))
	}
	return r
}

// contents returns what the last pending write to a sector has written, or the durable bytes.
func (r *record) contents(sector int) []byte {
	last := r.durable[sector]
	for _, c := range r.pending {
		if c.sector == sector {
			last = c.data
		}
	}
	return last
}

// failing counts an operation, during which the power may fail.
func (r *record) failing() bool {
	r.off = r.further == 0
	r.further = max(r.further-1, -1)
	return r.off
}

// write is Write with valid arguments.
func (r *record) write(sector int, data []byte) api.Errno {
	if r.off {
		return down
	}
	r.pending = append(r.pending, change{sector, bytes.Clone(data)})
	if r.failing() {
		return down
	}
	return ok
}

// sync is Sync.
func (r *record) sync() api.Errno {
	if r.off || r.failing() {
		return down
	}
	for sector := range r.durable {
		r.durable[sector] = bytes.Clone(r.contents(sector))
	}
	r.pending = nil
	return ok
}

// fail is Fail.
func (r *record) fail(after int) {
	if !r.off {
		r.further = max(after, -1)
	}
}

// crash is Crash, one byte after the other: each is that of the last write that reaches it.
func (r *record) crash(keep []bool, torn int) {
	survives := func(i int) bool { return i < len(keep) && keep[i] }
	first := 0
	for first < len(r.pending) && survives(first) {
		first++
	}
	for sector := range r.durable {
		for offset := range r.durable[sector] {
			for i, c := range r.pending {
				if c.sector == sector && (survives(i) || i == first && offset < torn) {
					r.durable[sector][offset] = c.data[offset]
				}
			}
		}
	}
	r.pending, r.further, r.off = nil, -1, false
}

// compare compares a disk with its record.
func (r *record) compare(t *testing.T, d *disk.Disk) {
	t.Helper()
	if d.Pending() != len(r.pending) || d.Down() != r.off || d.Sectors() != len(r.durable) || d.Size() != len(r.durable[0]) {
		t.Fatalf("%d pending, down %v, %d sectors of %d bytes; want %d pending, down %v", d.Pending(), d.Down(), d.Sectors(), d.Size(), len(r.pending), r.off)
	}
	image := d.Image()
	if len(image) != len(r.durable) {
		t.Fatalf("Image of %d sectors", len(image))
	}
	for sector, durable := range r.durable {
		if !bytes.Equal(image[sector], durable) {
			t.Fatalf("Image of %d: %x; want %x", sector, image[sector], durable)
		}
		b, e := d.Read(sector)
		if r.off && (e != down || len(b) > 0) {
			t.Fatalf("Read of %d without power: %x, %d", sector, b, e)
		}
		if want := r.contents(sector); !r.off && (e != ok || !bytes.Equal(b, want)) {
			t.Fatalf("Read of %d: %x, %d; want %x", sector, b, e, want)
		}
	}
}

package chunker

import (
	"iter"

	"kinkeep/api"
	"kinkeep/rollinghash"
)

// finder finds the cuts of a sequence. It is no embedded part of Chunker, because the methods of the rolling hash would become methods of that.
type finder struct {
	rollinghash.Roll
	cutting  api.Cutting
	distance int // from the last marked position, at most Min, which it also is if there is none
}

// newFinder returns a finder at the beginning of a sequence.
func newFinder(c api.Cutting) finder {
	return finder{Roll: *rollinghash.New(c.Seed, c.Window), cutting: c, distance: c.Min}
}

// cuts adds a byte and reports whether the position behind it is a primary cut.
func (f *finder) cuts(b byte) bool {
	f.Push(b)
	f.distance = min(f.distance+1, f.cutting.Min)
	if f.Len() < f.cutting.Window || rollinghash.Zeros(f.Sum()) < f.cutting.Bits {
		return false
	}
	// A marked position that is no primary cut keeps the next ones from being one, too.
	primary := f.distance == f.cutting.Min
	f.distance = 0
	return primary
}

// ends adds data and returns an iterator over the positions in it at which chunks are complete, if the last chunk before the data ended held bytes before it.
func (f *finder) ends(held int, data []byte) iter.Seq[int] {
	return func(yield func(int) bool) {
		begin := -held
		for i, b := range data {
			end := i + 1
			if !f.cuts(b) && end-begin < f.cutting.Max {
				continue
			}
			if !yield(end) {
				return
			}
			begin = end
		}
	}
}

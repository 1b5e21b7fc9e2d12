package archive

import (
	"iter"

	"stripes/catalog"
	"stripes/record"
)

// pageSize tells how many bytes of the catalog a page has: it begins with the number of the next one.
func (a *Archive) pageSize() int { return a.volume.StripeSize() - record.NumberSize }

// pagesOf tells how many pages a catalog of so many bytes takes. One without objects has a page too, so that each change writes a stripe ahead of the root, and is refused if too many drives are lost.
func (a *Archive) pagesOf(length int) int { return max(1, catalog.Pieces(length, a.pageSize())) }

// roomFor tells whether there is room for so many stripes more, with a catalog of so many pages.
// The pages are counted twice: whatever is deleted later, there is room then for the pages that take the place of these.
func (a *Archive) roomFor(stripes, pages int) bool {
	used := 0
	for range a.objects.Stripes() {
		used++
	}
	return used+stripes+2*pages <= a.volume.Blocks()-firstStripe
}

// take chooses so many stripes in which nothing stands. It answers false, if there are not so many.
func (a *Archive) take(count int) ([]int, bool) {
	l := make([]int, 0, count)
	for block := range a.free() {
		if len(l) == count {
			break
		}
		l = append(l, block)
	}
	return l, len(l) == count
}

// free goes through the stripes in which nothing stands, from the least number on.
func (a *Archive) free() iter.Seq[int] {
	return func(yield func(int) bool) {
		taken, _ := a.taken()
		for block := firstStripe; block < len(taken); block++ {
			if !taken[block] && !yield(block) {
				return
			}
		}
	}
}

// taken tells of each block whether something stands there. It answers false, if a stripe is none that there is, or is used twice.
func (a *Archive) taken() ([]bool, bool) {
	taken, right := make([]bool, a.volume.Blocks()), true
	for block := range a.stripes() {
		if block < firstStripe || block >= len(taken) || taken[block] {
			right = false
			continue
		}
		taken[block] = true
	}
	return taken, right
}

// stripes goes through all stripes that are used: those of the catalog, and those of the objects.
func (a *Archive) stripes() iter.Seq[int] {
	return func(yield func(int) bool) {
		for _, block := range a.pages {
			if !yield(block) {
				return
			}
		}
		a.objects.Stripes()(yield)
	}
}

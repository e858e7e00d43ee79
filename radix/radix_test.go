package radix_test

import (
	"math"
	"testing"

	"palanquin/api"
	"palanquin/radix"
)

// slots is how many slots a table's frame has, pages how many entries a table of mappings'
// frame has, words how many words a page has; and how many addresses there are of these.
const (
	slots    = 16
	pages    = 32
	words    = 32
	slotEnd  = slots * slots
	pageEnd  = pages * pages * words
	pagesAll = pages * pages
)

// far are numbers behind every range: at the ends of what an int holds, and such as come
// back into a range if they are cut to fewer bits, or wrap round when multiplied.
func far() []int {
	out := []int{
		math.MinInt, math.MinInt + 1, math.MinInt + 35, math.MinInt + slotEnd, math.MinInt + pageEnd,
		math.MaxInt, math.MaxInt - 1, math.MaxInt - 35, math.MaxInt - slotEnd, math.MaxInt - pageEnd,
		math.MinInt32, math.MinInt32 - 1, math.MinInt32 + 1, math.MaxInt32, math.MaxInt32 + 1, math.MaxUint32, math.MaxUint32 + 1,
	}
	for bit := 15; bit < 63; bit++ {
		for _, more := range []int{0, 1, 3, 35} {
			out = append(out, 1<<bit+more, -1<<bit+more, -1<<bit-more)
		}
	}
	return out
}

// behind are numbers that are not 0 to end - 1: near to that range, and far.
func behind(end int) []int {
	out := far()
	for n := 1; n <= 2*end; n++ {
		out = append(out, -n, end-1+n)
	}
	return append(out, end*end-1, end*end, end*end+1, -end*end, 16*end, 32*end, 1024*end)
}

// inside are some numbers of 0 to end - 1, the ends among them.
func inside(end int) []int { return []int{0, 1, 2, end/2 - 1, end / 2, end - 2, end - 1} }

func slot(t *testing.T, a int, high int, low int) {
	t.Helper()
	if h, l, e := radix.Slot(a); h != high || l != low || e != api.OK {
		t.Fatalf("Slot(%d): %d, %d, %d, not %d, %d", a, h, l, e, high, low)
	}
	if got, e := radix.SlotOf(high, low); got != a || e != api.OK {
		t.Fatalf("SlotOf(%d, %d): %d, %d, not %d", high, low, got, e, a)
	}
}

func page(t *testing.T, a int, high int, low int, at int) {
	t.Helper()
	if h, l, w, e := radix.Page(a); h != high || l != low || w != at || e != api.OK {
		t.Fatalf("Page(%d): %d, %d, %d, %d, not %d, %d, %d", a, h, l, w, e, high, low, at)
	}
	if got, e := radix.PageOf(high, low, at); got != a || e != api.OK {
		t.Fatalf("PageOf(%d, %d, %d): %d, %d, not %d", high, low, at, got, e, a)
	}
}

func number(t *testing.T, a int, want int) {
	t.Helper()
	if got, e := radix.Number(a); got != want || e != api.OK {
		t.Fatalf("Number(%d): %d, %d, not %d", a, got, e, want)
	}
}

func noSlot(t *testing.T, a int) {
	t.Helper()
	if h, l, e := radix.Slot(a); h != 0 || l != 0 || e != api.ErrArg {
		t.Fatalf("Slot(%d): %d, %d, %d", a, h, l, e)
	}
}

func noSlotOf(t *testing.T, high int, low int) {
	t.Helper()
	if a, e := radix.SlotOf(high, low); a != 0 || e != api.ErrArg {
		t.Fatalf("SlotOf(%d, %d): %d, %d", high, low, a, e)
	}
}

func noPage(t *testing.T, a int) {
	t.Helper()
	if h, l, w, e := radix.Page(a); h != 0 || l != 0 || w != 0 || e != api.ErrArg {
		t.Fatalf("Page(%d): %d, %d, %d, %d", a, h, l, w, e)
	}
	if n, e := radix.Number(a); n != 0 || e != api.ErrArg {
		t.Fatalf("Number(%d): %d, %d", a, n, e)
	}
}

func noPageOf(t *testing.T, high int, low int, at int) {
	t.Helper()
	if a, e := radix.PageOf(high, low, at); a != 0 || e != api.ErrArg {
		t.Fatalf("PageOf(%d, %d, %d): %d, %d", high, low, at, a, e)
	}
}

// The numbers of this file are the limits of package api.
func TestLimits(t *testing.T) {
	if slots != api.MaxSlots || pages != api.MaxPages || words != api.PageWords {
		t.Errorf("%d, %d, %d", api.MaxSlots, api.MaxPages, api.PageWords)
	}
}

// P12.1: the chapter's example, and some that are written out.

func TestExamples(t *testing.T) {
	slot(t, 35, 2, 3)
	slot(t, 0, 0, 0)
	slot(t, 1, 0, 1)
	slot(t, 15, 0, 15)
	slot(t, 16, 1, 0)
	slot(t, 50, 3, 2)
	slot(t, 240, 15, 0)
	slot(t, 254, 15, 14)
	slot(t, 255, 15, 15)
	page(t, 0, 0, 0, 0)
	page(t, 1, 0, 0, 1)
	page(t, 31, 0, 0, 31)
	page(t, 32, 0, 1, 0)
	page(t, 70, 0, 2, 6)
	page(t, 1023, 0, 31, 31)
	page(t, 1024, 1, 0, 0)
	page(t, 3205, 3, 4, 5)
	page(t, 5251, 5, 4, 3)
	page(t, 31744, 31, 0, 0)
	page(t, 32767, 31, 31, 31)
	number(t, 0, 0)
	number(t, 31, 0)
	number(t, 32, 1)
	number(t, 63, 1)
	number(t, 64, 2)
	number(t, 70, 2)
	number(t, 1023, 31)
	number(t, 1024, 32)
	number(t, 3205, 100)
	number(t, 32735, 1022)
	number(t, 32736, 1023)
	number(t, 32767, 1023)
}

// Every slot's address and its parts, told by counting alone.
func TestEverySlot(t *testing.T) {
	a := 0
	for high := range slots {
		for low := range slots {
			slot(t, a, high, low)
			a++
		}
	}
	if a != slotEnd {
		t.Errorf("%d addresses", a)
	}
	noSlot(t, a)
}

// Every word's address, its parts and its page, told by counting alone.
func TestEveryPage(t *testing.T) {
	a, n := 0, 0
	for high := range pages {
		for low := range pages {
			for at := range words {
				page(t, a, high, low, at)
				number(t, a, n)
				a++
			}
			n++
		}
	}
	if a != pageEnd || n != pagesAll {
		t.Errorf("%d addresses, %d pages", a, n)
	}
	noPage(t, a)
}

// Addresses behind the ends of their ranges. What is no slot's address may be a word's.
func TestAddressesBehind(t *testing.T) {
	for _, a := range behind(slotEnd) {
		noSlot(t, a)
	}
	for _, a := range behind(pageEnd) {
		noSlot(t, a)
		noPage(t, a)
	}
	noSlot(t, -1)
	noSlot(t, 256)
	noSlot(t, 35+256)
	noSlot(t, 35-256)
	noSlot(t, -35)
	noPage(t, -1)
	noPage(t, 32768)
	noPage(t, 70+32768)
	noPage(t, 70-32768)
	noPage(t, -70)
	page(t, 256, 0, 8, 0)
	number(t, 256, 8)
}

// Each part behind its own range alone, whatever the other one is: also where the sum of
// what both count would be an address.
func TestSlotPartsBehind(t *testing.T) {
	for _, wrong := range behind(slots) {
		for right := range slots {
			noSlotOf(t, wrong, right)
			noSlotOf(t, right, wrong)
		}
	}
	noSlotOf(t, 1, -1)
	noSlotOf(t, 1, -16)
	noSlotOf(t, 0, 16)
	noSlotOf(t, 0, 35)
	noSlotOf(t, -1, 16)
	noSlotOf(t, 16, 0)
	noSlotOf(t, 16, -256)
	noSlotOf(t, 1<<60, 3)
	noSlotOf(t, 1<<60+2, 3)
	noSlotOf(t, -1<<60+2, 3)
}

// Likewise of the three parts of a word's address.
func TestPagePartsBehind(t *testing.T) {
	for _, wrong := range behind(pages) {
		for _, a := range inside(pages) {
			for _, b := range inside(pages) {
				noPageOf(t, wrong, a, b)
				noPageOf(t, a, wrong, b)
				noPageOf(t, a, b, wrong)
			}
		}
	}
	noPageOf(t, 0, 0, 32)
	noPageOf(t, 0, 32, 0)
	noPageOf(t, 32, 0, 0)
	noPageOf(t, 0, 1, -1)
	noPageOf(t, 1, -1, 0)
	noPageOf(t, 1, 0, -1)
	noPageOf(t, 1, -1, 32)
	noPageOf(t, 0, 0, 3205)
	noPageOf(t, 0, 100, 5)
	noPageOf(t, -1, 32, 0)
	noPageOf(t, 1<<54+3, 4, 5)
	noPageOf(t, 3, 1<<59+4, 5)
	noPageOf(t, 32, 0, -32768)
}

// A part that is right for the one range and not for the other.
func TestRangesDiffer(t *testing.T) {
	for n := slots; n < pages; n++ {
		noSlotOf(t, n, 0)
		noSlotOf(t, 0, n)
		page(t, n*pages*words, n, 0, 0)
		page(t, n*words, 0, n, 0)
		page(t, n, 0, 0, n)
	}
}

// Several parts behind their ranges at once.
func TestAllPartsBehind(t *testing.T) {
	some := append(far(), -1, -15, -16, -31, -32, 32, 33, 255, 256, 1023, 1024, 32767, 32768)
	for _, a := range some {
		for _, b := range some {
			noSlotOf(t, a, b)
			noPageOf(t, a, b, 1)
			noPageOf(t, a, 1, b)
			noPageOf(t, 1, a, b)
			noPageOf(t, a, b, a)
		}
	}
}

// Every combination near the ranges: an address where all parts are in theirs, and ErrArg
// elsewhere.
func TestPartsAround(t *testing.T) {
	in := func(v int, end int) bool { return v >= 0 && v < end }
	for high := -3; high < slots+3; high++ {
		for low := -3; low < slots+3; low++ {
			if in(high, slots) && in(low, slots) {
				slot(t, slots*high+low, high, low)
			} else {
				noSlotOf(t, high, low)
			}
		}
	}
	for high := -2; high < pages+2; high++ {
		for low := -2; low < pages+2; low++ {
			for at := -2; at < words+2; at++ {
				if in(high, pages) && in(low, pages) && in(at, words) {
					page(t, words*(pages*high+low)+at, high, low, at)
				} else {
					noPageOf(t, high, low, at)
				}
			}
		}
	}
}

// P12.2

// No two addresses have the same parts, and every combination of parts is some address's.
func TestSlotsDiffer(t *testing.T) {
	var seen [slots][slots]int
	for a := range slotEnd {
		high, low, e := radix.Slot(a)
		if e != api.OK || high < 0 || high >= slots || low < 0 || low >= slots {
			t.Fatalf("Slot(%d): %d, %d, %d", a, high, low, e)
		}
		seen[high][low]++
		if back, e := radix.SlotOf(high, low); back != a || e != api.OK {
			t.Fatalf("SlotOf(Slot(%d)): %d, %d", a, back, e)
		}
	}
	for high := range seen {
		for low, count := range seen[high] {
			if count != 1 {
				t.Errorf("%d, %d: of %d addresses", high, low, count)
			}
		}
	}
}

func TestPagesDiffer(t *testing.T) {
	var seen [pages][pages][words]int
	for a := range pageEnd {
		high, low, at, e := radix.Page(a)
		if e != api.OK || high < 0 || high >= pages || low < 0 || low >= pages || at < 0 || at >= words {
			t.Fatalf("Page(%d): %d, %d, %d, %d", a, high, low, at, e)
		}
		seen[high][low][at]++
		if back, e := radix.PageOf(high, low, at); back != a || e != api.OK {
			t.Fatalf("PageOf(Page(%d)): %d, %d", a, back, e)
		}
	}
	for high := range seen {
		for low := range seen[high] {
			for at, count := range seen[high][low] {
				if count != 1 {
					t.Errorf("%d, %d, %d: of %d addresses", high, low, at, count)
				}
			}
		}
	}
}

// No two combinations of parts have the same address, and every address is of some.
func TestWaysDiffer(t *testing.T) {
	var bySlot [slotEnd]int
	for high := range slots {
		for low := range slots {
			a, e := radix.SlotOf(high, low)
			if e != api.OK || a < 0 || a >= slotEnd {
				t.Fatalf("SlotOf(%d, %d): %d, %d", high, low, a, e)
			}
			bySlot[a]++
			if h, l, e := radix.Slot(a); h != high || l != low || e != api.OK {
				t.Fatalf("Slot(SlotOf(%d, %d)): %d, %d, %d", high, low, h, l, e)
			}
		}
	}
	for a, count := range bySlot {
		if count != 1 {
			t.Errorf("slot %d: put together in %d ways", a, count)
		}
	}
	var byPage [pageEnd]int
	for high := range pages {
		for low := range pages {
			for at := range words {
				a, e := radix.PageOf(high, low, at)
				if e != api.OK || a < 0 || a >= pageEnd {
					t.Fatalf("PageOf(%d, %d, %d): %d, %d", high, low, at, a, e)
				}
				byPage[a]++
				if h, l, w, e := radix.Page(a); h != high || l != low || w != at || e != api.OK {
					t.Fatalf("Page(PageOf(%d, %d, %d)): %d, %d, %d, %d", high, low, at, h, l, w, e)
				}
			}
		}
	}
	for a, count := range byPage {
		if count != 1 {
			t.Errorf("word %d: put together in %d ways", a, count)
		}
	}
}

// Number is the page that Page's parts tell, for all words of it, and for no others.
func TestNumberIsThePage(t *testing.T) {
	var count [pagesAll]int
	for a := range pageEnd {
		high, low, at, _ := radix.Page(a)
		n, e := radix.Number(a)
		if n != pages*high+low || e != api.OK {
			t.Fatalf("Number(%d): %d, %d, not %d", a, n, e, pages*high+low)
		}
		if a != words*n+at {
			t.Fatalf("%d: the word %d of page %d", a, at, n)
		}
		first, _ := radix.PageOf(high, low, 0)
		last, _ := radix.PageOf(high, low, words-1)
		number(t, first, n)
		number(t, last, n)
		count[n]++
	}
	for n, c := range count {
		if c != words {
			t.Errorf("page %d: %d words", n, c)
		}
	}
}

// P5: refusals and other calls between leave what is answered as it was.
func TestAnswersStay(t *testing.T) {
	for range 3 {
		for _, a := range far() {
			noSlot(t, a)
			noPage(t, a)
			noSlotOf(t, a, 3)
			noPageOf(t, 3, 4, a)
			slot(t, 35, 2, 3)
			page(t, 3205, 3, 4, 5)
			number(t, 3205, 100)
		}
	}
}

package field_test

import (
	"math"
	"slices"
	"testing"

	"palanquin/api"
	"palanquin/field"
)

const all = math.MaxUint64

// words are patterns in which a bit that is moved, lost or added shows.
func words() []uint64 {
	w := []uint64{0, 1, all, all - 1, 1 << 63, 1<<63 - 1, 0xAAAAAAAAAAAAAAAA, 0x5555555555555555, 0x0123456789ABCDEF, 0xFEDCBA9876543210}
	x := uint64(0x9E3779B97F4A7C15)
	for range 6 {
		x = x*6364136223846793005 + 1442695040888963407
		w = append(w, x)
	}
	return w
}

func bit(w uint64, i int) uint64 { return w >> i & 1 }

// slowMask sets bit by bit, so that it shares nothing with what it is held against.
func slowMask(n int) uint64 {
	w := uint64(0)
	for i := 0; i < n && i < 64; i++ {
		w |= 1 << i
	}
	return w
}

func slowGet(w uint64, at int, n int) uint64 {
	v := uint64(0)
	for i := range n {
		v |= bit(w, at+i) << i
	}
	return v
}

func slowPut(w uint64, at int, n int, v uint64) uint64 {
	out := uint64(0)
	for i := range 64 {
		b := bit(w, i)
		if i >= at && i < at+n {
			b = bit(v, i-at)
		}
		out |= b << i
	}
	return out
}

// wrongPlaces are those that no word has: at and n beyond their ends, alone and together.
func wrongPlaces() [][2]int {
	return [][2]int{
		{-1, 1}, {-1, 64}, {-1, 65}, {-1, 0}, {-64, 64}, {math.MinInt, 1}, {math.MinInt, math.MinInt}, {math.MinInt, math.MaxInt},
		{0, 0}, {5, 0}, {63, 0}, {64, 0}, {0, -1}, {64, -1}, {0, math.MinInt}, {64, math.MinInt},
		{0, 65}, {1, 64}, {60, 5}, {63, 2}, {64, 1}, {65, 1}, {64, 64}, {0, math.MaxInt},
		{math.MaxInt, 1}, {math.MaxInt, 64}, {math.MaxInt, math.MaxInt}, {math.MaxInt, 0}, {1, math.MaxInt}, {math.MaxInt - 63, 64},
	}
}

// P1.1

func TestMask(t *testing.T) {
	for n := -70; n <= 140; n++ {
		if w := field.Mask(n); w != slowMask(n) {
			t.Errorf("Mask(%d): %x", n, w)
		}
	}
	for _, x := range []struct {
		n int
		w uint64
	}{{math.MinInt, 0}, {-1, 0}, {0, 0}, {1, 1}, {5, 31}, {32, 1<<32 - 1}, {63, 1<<63 - 1}, {64, all}, {65, all}, {math.MaxInt, all}} {
		if w := field.Mask(x.n); w != x.w {
			t.Errorf("Mask(%d): %x, not %x", x.n, w, x.w)
		}
	}
}

func TestGet(t *testing.T) {
	for at := range 64 {
		for n := 1; at+n <= 64; n++ {
			for _, w := range words() {
				if v, e := field.Get(w, at, n); v != slowGet(w, at, n) || e != api.OK {
					t.Fatalf("Get(%x, %d, %d): %x, %d", w, at, n, v, e)
				}
			}
		}
	}
	for _, x := range []struct {
		w     uint64
		at, n int
		v     uint64
	}{{0xABCD, 4, 8, 0xBC}, {all, 0, 64, all}, {1 << 63, 63, 1, 1}, {1 << 63, 62, 1, 0}, {all, 0, 63, 1<<63 - 1}, {all, 1, 63, 1<<63 - 1}} {
		if v, e := field.Get(x.w, x.at, x.n); v != x.v || e != api.OK {
			t.Errorf("Get(%x, %d, %d): %x, %d", x.w, x.at, x.n, v, e)
		}
	}
}

func TestGetRefuses(t *testing.T) {
	for _, p := range wrongPlaces() {
		for _, w := range words() {
			if v, e := field.Get(w, p[0], p[1]); v != 0 || e != api.ErrArg {
				t.Errorf("Get(%x, %d, %d): %x, %d", w, p[0], p[1], v, e)
			}
		}
	}
}

func TestFits(t *testing.T) {
	for n := -3; n <= 70; n++ {
		for _, v := range words() {
			if got := field.Fits(v, n); got != (v|slowMask(n) == slowMask(n)) {
				t.Errorf("Fits(%x, %d): %t", v, n, got)
			}
		}
	}
	for n := 1; n < 64; n++ {
		if !field.Fits(1<<n-1, n) || field.Fits(1<<n, n) {
			t.Errorf("Fits at the end of %d bits", n)
		}
	}
	for _, n := range []int{math.MinInt, -1, 0} {
		if !field.Fits(0, n) || field.Fits(1, n) || field.Fits(1<<63, n) {
			t.Errorf("Fits in %d bits", n)
		}
	}
	for _, n := range []int{64, 65, math.MaxInt} {
		if !field.Fits(all, n) {
			t.Errorf("Fits in %d bits", n)
		}
	}
}

func TestPut(t *testing.T) {
	for at := range 64 {
		for n := 1; at+n <= 64; n++ {
			for i, w := range words() {
				v := words()[len(words())-1-i] & slowMask(n)
				if got, e := field.Put(w, at, n, v); got != slowPut(w, at, n, v) || e != api.OK {
					t.Fatalf("Put(%x, %d, %d, %x): %x, %d", w, at, n, v, got, e)
				}
			}
		}
	}
	for _, x := range []struct {
		w     uint64
		at, n int
		v     uint64
		out   uint64
	}{{0xABCD, 4, 8, 0x12, 0xA12D}, {7, 0, 64, all, all}, {all, 0, 64, 0, 0}, {0, 63, 1, 1, 1 << 63}, {all, 63, 1, 0, 1<<63 - 1}, {all, 0, 1, 0, all - 1}, {0, 1, 63, 1<<63 - 1, all - 1}} {
		if got, e := field.Put(x.w, x.at, x.n, x.v); got != x.out || e != api.OK {
			t.Errorf("Put(%x, %d, %d, %x): %x, %d", x.w, x.at, x.n, x.v, got, e)
		}
	}
}

func TestPutRefuses(t *testing.T) {
	for _, p := range wrongPlaces() {
		for _, v := range []uint64{0, 1, all} {
			if w, e := field.Put(0xABCD, p[0], p[1], v); w != 0 || e != api.ErrArg {
				t.Errorf("Put(abcd, %d, %d, %x): %x, %d", p[0], p[1], v, w, e)
			}
		}
	}
	for n := 1; n < 64; n++ {
		for _, at := range []int{0, 64 - n} {
			for _, v := range []uint64{1 << n, 1 << 63, all} {
				if w, e := field.Put(0xABCD, at, n, v); w != 0 || e != api.ErrArg {
					t.Errorf("Put(abcd, %d, %d, %x): %x, %d", at, n, v, w, e)
				}
			}
		}
	}
}

// P1.2

func TestSign(t *testing.T) {
	for n := 1; n <= 64; n++ {
		for _, v := range words() {
			// the highest bit counts negative, each of the others as it does in v
			want := int64(slowGet(v, 0, n-1)) - int64(bit(v, n-1))<<(n-1)
			if got := field.Sign(v, n); got != want {
				t.Errorf("Sign(%x, %d): %d, not %d", v, n, got, want)
			}
		}
	}
	for _, x := range []struct {
		v   uint64
		n   int
		out int64
	}{{0xF, 4, -1}, {7, 4, 7}, {8, 4, -8}, {0xF8, 4, -8}, {0xF7, 4, 7}, {0, 1, 0}, {1, 1, -1}, {2, 1, 0}, {1 << 62, 63, -1 << 62}, {1 << 63, 63, 0}, {1 << 63, 64, math.MinInt64}, {1<<63 - 1, 64, math.MaxInt64}, {all, 64, -1}} {
		if got := field.Sign(x.v, x.n); got != x.out {
			t.Errorf("Sign(%x, %d): %d, not %d", x.v, x.n, got, x.out)
		}
	}
	for _, n := range []int{math.MinInt, -64, -1, 0, 65, 128, math.MaxInt} {
		for _, v := range words() {
			if got := field.Sign(v, n); got != 0 {
				t.Errorf("Sign(%x, %d): %d", v, n, got)
			}
		}
	}
}

func TestJoinParts(t *testing.T) {
	for _, x := range []struct {
		high, low uint32
		w         uint64
	}{{0, 0, 0}, {1, 2, 1<<32 + 2}, {0, math.MaxUint32, math.MaxUint32}, {math.MaxUint32, 0, math.MaxUint32 << 32}, {math.MaxUint32, math.MaxUint32, all}, {0x01234567, 0x89ABCDEF, 0x0123456789ABCDEF}} {
		if w := field.Join(x.high, x.low); w != x.w {
			t.Errorf("Join(%x, %x): %x", x.high, x.low, w)
		}
		if high, low := field.Parts(x.w); high != x.high || low != x.low {
			t.Errorf("Parts(%x): %x, %x", x.w, high, low)
		}
	}
	for _, w := range words() {
		high, low := field.Parts(w)
		if field.Join(high, low) != w {
			t.Errorf("Join of Parts(%x): %x, %x", w, high, low)
		}
	}
}

// P1.3

func ones(count int) []int { return slices.Repeat([]int{1}, count) }

func TestPackUnpack(t *testing.T) {
	for i, x := range []struct {
		n []int
		v []uint64
		w uint64
	}{
		{nil, nil, 0}, {[]int{}, nil, 0}, {nil, []uint64{}, 0}, {[]int{}, []uint64{}, 0},
		{[]int{4, 8}, []uint64{3, 255}, 0xFF3},
		{[]int{8, 4}, []uint64{255, 3}, 0x3FF},
		{[]int{4, 8}, []uint64{0, 0}, 0},
		{[]int{1}, []uint64{1}, 1},
		{[]int{63}, []uint64{1<<63 - 1}, 1<<63 - 1},
		{[]int{64}, []uint64{all}, all}, {[]int{64}, []uint64{0}, 0},
		{[]int{63, 1}, []uint64{0, 1}, 1 << 63}, {[]int{63, 1}, []uint64{1, 0}, 1},
		{[]int{1, 63}, []uint64{0, 1<<63 - 1}, all - 1}, {[]int{1, 63}, []uint64{1, 0}, 1},
		{[]int{32, 32}, []uint64{2, 1}, 1<<32 + 2},
		{[]int{4, 4, 8, 16, 32}, []uint64{0xF, 0xE, 0xCD, 0x89AB, 0x01234567}, 0x0123456789ABCDEF},
		{ones(64), slices.Repeat([]uint64{0, 1}, 32), 0xAAAAAAAAAAAAAAAA},
	} {
		if w, e := field.Pack(x.n, x.v); w != x.w || e != api.OK {
			t.Errorf("Pack %d: %x, %d", i, w, e)
		}
		if v, e := field.Unpack(x.n, x.w); !slices.Equal(v, x.v) || e != api.OK {
			t.Errorf("Unpack %d: %x, %d", i, v, e)
		}
	}
}

// wrongWidths are those of which no word is made.
func wrongWidths() [][]int {
	return [][]int{
		{0}, {-1}, {65}, {math.MinInt}, {math.MaxInt},
		{4, 0}, {0, 4}, {64, 0}, {4, -1}, {-1, 4}, {8, -4, 8}, {4, 65}, {65, -1}, {1, 65},
		{64, 1}, {1, 64}, {63, 2}, {63, 1, 1}, {32, 32, 1}, {64, 64}, ones(65), ones(1000),
		{math.MaxInt, 1}, {1, math.MaxInt}, {math.MaxInt, math.MaxInt, 2}, {4, math.MaxInt, math.MinInt, 1}, {math.MinInt, math.MinInt},
	}
}

func TestPackRefuses(t *testing.T) {
	for _, n := range wrongWidths() {
		if w, e := field.Pack(n, make([]uint64, len(n))); w != 0 || e != api.ErrArg {
			t.Errorf("Pack(%v) of zeros: %x, %d", n, w, e)
		}
	}
	for i, x := range []struct {
		n []int
		v []uint64
	}{
		{[]int{4}, nil}, {nil, []uint64{0}}, {[]int{}, []uint64{0}}, {[]int{4}, []uint64{}},
		{[]int{4, 8}, []uint64{3}}, {[]int{4}, []uint64{3, 255}}, {[]int{4, 8}, []uint64{3, 255, 0}},
		{[]int{3}, []uint64{8}}, {[]int{1}, []uint64{2}}, {[]int{63}, []uint64{1 << 63}}, {[]int{3, 3}, []uint64{7, 8}}, {[]int{3, 3}, []uint64{8, 7}}, {[]int{60, 4}, []uint64{1, 16}}, {[]int{3, 3}, []uint64{1, all}},
	} {
		if w, e := field.Pack(x.n, x.v); w != 0 || e != api.ErrArg {
			t.Errorf("Pack %d: %x, %d", i, w, e)
		}
	}
}

func TestUnpackRefuses(t *testing.T) {
	for _, n := range wrongWidths() {
		for _, w := range []uint64{0, 1, all} {
			if v, e := field.Unpack(n, w); len(v) != 0 || e != api.ErrArg {
				t.Errorf("Unpack(%v, %x): %x, %d", n, w, v, e)
			}
		}
	}
	for i, x := range []struct {
		n []int
		w uint64
	}{{nil, 1}, {[]int{}, 1 << 63}, {[]int{4}, 16}, {[]int{4}, 1 << 63}, {[]int{4, 8}, 0x1FF3}, {[]int{63}, 1 << 63}, {[]int{32, 31}, all}, {ones(63), all}} {
		if v, e := field.Unpack(x.n, x.w); len(v) != 0 || e != api.ErrArg {
			t.Errorf("Unpack %d: %x, %d", i, v, e)
		}
	}
}

// P1.4

func TestPutIsGotAndNothingElseChanges(t *testing.T) {
	for at := range 64 {
		for n := 1; at+n <= 64; n++ {
			for i, w := range words() {
				v := words()[(i+3)%len(words())] & slowMask(n)
				put, _ := field.Put(w, at, n, v)
				if got, e := field.Get(put, at, n); got != v || e != api.OK {
					t.Fatalf("Get of Put(%x, %d, %d, %x): %x, %d", w, at, n, v, got, e)
				}
				if (put^w)&^(slowMask(n)<<at) != 0 {
					t.Fatalf("Put(%x, %d, %d, %x) changed other bits: %x", w, at, n, v, put)
				}
				old, _ := field.Get(w, at, n)
				if back, e := field.Put(put, at, n, old); back != w || e != api.OK {
					t.Fatalf("Put of what was got from %x at %d, %d: %x, %d", w, at, n, back, e)
				}
			}
		}
	}
}

func TestUnpackUndoesPack(t *testing.T) {
	for _, n := range [][]int{{}, {1}, {64}, {63, 1}, {1, 63}, {4, 8}, {5, 5, 6, 6, 16, 26}, {7, 11, 13, 17}, {21, 21, 21}, ones(64), ones(10)} {
		for i := range words() {
			v := make([]uint64, len(n))
			for j := range n {
				v[j] = words()[(i+j)%len(words())] & slowMask(n[j])
			}
			w, e := field.Pack(n, v)
			if e != api.OK {
				t.Fatalf("Pack(%v, %x): %d", n, v, e)
			}
			if got, e := field.Unpack(n, w); !slices.Equal(got, v) || e != api.OK {
				t.Fatalf("Unpack of Pack(%v, %x): %x, %d", n, v, got, e)
			}
			if again, e := field.Pack(n, v); again != w || e != api.OK {
				t.Fatalf("Pack(%v, %x) again: %x, %d", n, v, again, e)
			}
		}
	}
}

// P4: lists are neither changed nor kept nor shared.

func TestListsAreLeftAlone(t *testing.T) {
	n, v := []int{4, 8}, []uint64{3, 255}
	field.Pack(n, v)
	first, _ := field.Unpack(n, 0xFF3)
	if !slices.Equal(n, []int{4, 8}) || !slices.Equal(v, []uint64{3, 255}) {
		t.Errorf("arguments were changed: %v, %v", n, v)
	}
	n[0], n[1] = 8, 4
	field.Unpack(n, 0x123)
	if !slices.Equal(first, []uint64{3, 255}) {
		t.Errorf("an answer was changed behind it: %v", first)
	}
	first[0] = 9
	if second, _ := field.Unpack([]int{4, 8}, 0xFF3); !slices.Equal(second, []uint64{3, 255}) {
		t.Errorf("an answer was kept: %v", second)
	}
}

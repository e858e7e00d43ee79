package regs_test

import (
	"math"
	"slices"
	"testing"

	"palanquin/api"
	"palanquin/regs"
)

// list is the n-th of many lists that differ in each of their words.
func list(n int) []uint64 {
	l := make([]uint64, api.MaxRegs)
	for i := range l {
		l[i] = uint64(n*100 + i + 1)
	}
	return l
}

// outside are the numbers that are no register.
func outside() []int {
	return []int{-1, -2, -api.MaxRegs, api.MaxRegs, api.MaxRegs + 1, 2 * api.MaxRegs, 1 << 32, -1 << 32, math.MaxInt, math.MinInt}
}

// edges are words at their ends.
func edges() []uint64 {
	return []uint64{0, 1, 1 << 31, 1<<32 - 1, 1 << 32, 1 << 63, math.MaxUint64 - 1, math.MaxUint64}
}

// must does what is not to be refused.
func must(t *testing.T, e api.Errno) {
	t.Helper()
	if e != api.OK {
		t.Fatalf("refused: %d", e)
	}
}

// loaded is a file with the n-th list.
func loaded(t *testing.T, n int) *regs.File {
	t.Helper()
	f := regs.New()
	must(t, f.Load(list(n)))
	hold(t, f, list(n), "loaded")
	return f
}

// hold looks at all that a file tells, of each register and of those that are not there.
func hold(t *testing.T, f *regs.File, want []uint64, what string) {
	t.Helper()
	if got := f.All(); len(want) != api.MaxRegs || !slices.Equal(got, want) {
		t.Fatalf("%s: All: %v; want %v", what, got, want)
	}
	for i := range want {
		if w, e := f.Get(i); w != want[i] || e != api.OK {
			t.Fatalf("%s: Get(%d): %d, %d; want %d", what, i, w, e, want[i])
		}
	}
	for _, i := range outside() {
		if w, e := f.Get(i); w != 0 || e != api.ErrArg {
			t.Fatalf("%s: Get(%d): %d, %d", what, i, w, e)
		}
	}
}

// P5.1: New.

func TestNew(t *testing.T) {
	f := regs.New()
	if f == nil {
		t.Fatal("New: nil")
	}
	hold(t, f, make([]uint64, api.MaxRegs), "New")
}

func TestFilesShareNothing(t *testing.T) {
	one, other := loaded(t, 1), regs.New()
	hold(t, other, make([]uint64, api.MaxRegs), "the other, behind the one's calls")
	must(t, other.Set(0, 7))
	must(t, other.Load(list(2)))
	hold(t, one, list(1), "the one, behind the other's calls")
}

// P5.1: Get, Set.

func TestExample(t *testing.T) {
	f := regs.New()
	must(t, f.Set(7, 1))
	if w, e := f.Get(7); w != 1 || e != api.OK {
		t.Errorf("Get(7): %d, %d", w, e)
	}
}

// TestSet sets each register to each word; no other register changes.
func TestSet(t *testing.T) {
	for i := range api.MaxRegs {
		f, want := loaded(t, 3), list(3)
		for _, w := range edges() {
			must(t, f.Set(i, w))
			want[i] = w
			hold(t, f, want, "Set")
		}
	}
}

func TestRegistersThatAreNotThereAreRefused(t *testing.T) {
	f := loaded(t, 4)
	for _, i := range outside() {
		for _, w := range edges() {
			if e := f.Set(i, w); e != api.ErrArg {
				t.Errorf("Set(%d, %d): %d", i, w, e)
			}
		}
		hold(t, f, list(4), "Set refused")
	}
}

// P5.1: All.

func TestAllIsNewMemory(t *testing.T) {
	f := loaded(t, 5)
	all, again := f.All(), f.All()
	for i := range all {
		all[i] = 99
	}
	_ = append(all[:0], 98, 97)
	if !slices.Equal(again, list(5)) {
		t.Errorf("two lists share their words: %v", again)
	}
	hold(t, f, list(5), "behind a change of the list")
	must(t, f.Set(0, 96))
	must(t, f.Load(list(6)))
	must(t, regs.Swap(f, regs.New()))
	if !slices.Equal(again, list(5)) {
		t.Errorf("a list changed behind Set, Load and Swap: %v", again)
	}
}

// P5.1: Load.

func TestLoad(t *testing.T) {
	f := regs.New()
	for n := range 4 {
		must(t, f.Load(list(n)))
		hold(t, f, list(n), "Load")
	}
	must(t, f.Load(edges()))
	hold(t, f, edges(), "Load of words at their ends")
	must(t, f.Load(make([]uint64, api.MaxRegs)))
	hold(t, f, make([]uint64, api.MaxRegs), "Load of zeros")
}

func TestLoadRefusesOtherLengths(t *testing.T) {
	long := slices.Concat(list(1), list(2), list(3))
	f := loaded(t, 7)
	for length := range len(long) + 1 {
		if length == api.MaxRegs {
			continue
		}
		if e := f.Load(long[:length]); e != api.ErrArg {
			t.Errorf("Load of %d words: %d", length, e)
		}
		hold(t, f, list(7), "Load refused")
	}
	if e := f.Load(nil); e != api.ErrArg {
		t.Errorf("Load of nil: %d", e)
	}
	hold(t, f, list(7), "Load of nil")
}

// TestLoadTakesThePieceAlone hands in a piece of a longer list.
func TestLoadTakesThePieceAlone(t *testing.T) {
	long := slices.Concat(list(1), list(2), list(3))
	kept := slices.Clone(long)
	f := regs.New()
	must(t, f.Load(long[api.MaxRegs:2*api.MaxRegs]))
	hold(t, f, list(2), "Load of a piece")
	must(t, f.Set(api.MaxRegs-1, 5))
	if !slices.Equal(long, kept) {
		t.Errorf("the list changed: %v", long)
	}
}

func TestLoadKeepsNoList(t *testing.T) {
	f, g, l := regs.New(), regs.New(), list(8)
	must(t, f.Load(l))
	must(t, g.Load(l))
	for i := range l {
		l[i] = 0
	}
	hold(t, f, list(8), "behind a change of what was loaded")
	l = list(9)
	must(t, f.Load(l))
	must(t, f.Set(0, 5))
	must(t, regs.Swap(f, g))
	must(t, f.Set(1, 6))
	if !slices.Equal(l, list(9)) {
		t.Errorf("the list that was loaded changed: %v", l)
	}
}

func TestLoadOfAllChangesNothing(t *testing.T) {
	f := loaded(t, 10)
	must(t, f.Load(f.All()))
	hold(t, f, list(10), "Load of All")
}

// P5.1: Swap.

func TestSwap(t *testing.T) {
	f, g, third := loaded(t, 11), loaded(t, 12), loaded(t, 13)
	must(t, regs.Swap(f, g))
	hold(t, f, list(12), "Swap, the one")
	hold(t, g, list(11), "Swap, the other")
	hold(t, third, list(13), "Swap, a third")
	must(t, regs.Swap(third, f))
	hold(t, third, list(12), "Swap with the third, the third")
	hold(t, f, list(13), "Swap with the third, the one")
	hold(t, g, list(11), "Swap with the third, the other")
}

func TestSwapWithANewOne(t *testing.T) {
	f, g := loaded(t, 14), regs.New()
	must(t, regs.Swap(f, g))
	hold(t, f, make([]uint64, api.MaxRegs), "Swap with a new one")
	hold(t, g, list(14), "Swap of a new one")
}

func TestSwappedFilesShareNothing(t *testing.T) {
	f, g := loaded(t, 15), loaded(t, 16)
	must(t, regs.Swap(f, g))
	wantF, wantG := list(16), list(15)
	for i := range api.MaxRegs {
		must(t, f.Set(i, uint64(i)))
		wantF[i] = uint64(i)
		hold(t, f, wantF, "Set behind Swap")
		hold(t, g, wantG, "the other, behind Set")
	}
	must(t, g.Load(list(17)))
	hold(t, f, wantF, "the one, behind Load")
}

func TestSwapWithItself(t *testing.T) {
	f := loaded(t, 18)
	must(t, regs.Swap(f, f))
	hold(t, f, list(18), "Swap with itself")
}

// P5.2.

// unmade are files that are none: nil, and such as no call made.
func unmade() []*regs.File {
	var f regs.File
	return []*regs.File{nil, new(regs.File), {}, &f}
}

// TestUnmade makes every call on files that are none, with right arguments and wrong
// ones, twice: a refused call makes no file of them.
func TestUnmade(t *testing.T) {
	for _, f := range unmade() {
		for range 2 {
			for _, i := range append(outside(), 0, 1, api.MaxRegs-1) {
				if w, e := f.Get(i); w != 0 || e != api.ErrZero {
					t.Errorf("Get(%d): %d, %d", i, w, e)
				}
				if e := f.Set(i, 5); e != api.ErrZero {
					t.Errorf("Set(%d): %d", i, e)
				}
			}
			for _, l := range [][]uint64{nil, {}, {1}, list(1), append(list(1), 2)} {
				if e := f.Load(l); e != api.ErrZero {
					t.Errorf("Load(%v): %d", l, e)
				}
			}
			if l := f.All(); len(l) != 0 {
				t.Errorf("All: %v", l)
			}
		}
	}
}

func TestSwapRefusesEither(t *testing.T) {
	f := loaded(t, 19)
	for _, none := range unmade() {
		for range 2 {
			if e := regs.Swap(f, none); e != api.ErrZero {
				t.Errorf("Swap, the second is none: %d", e)
			}
			hold(t, f, list(19), "Swap refused, the second is none")
			if e := regs.Swap(none, f); e != api.ErrZero {
				t.Errorf("Swap, the first is none: %d", e)
			}
			hold(t, f, list(19), "Swap refused, the first is none")
		}
		for _, other := range append(unmade(), none) {
			if e := regs.Swap(none, other); e != api.ErrZero {
				t.Errorf("Swap, both are none: %d", e)
			}
		}
		if l := none.All(); len(l) != 0 {
			t.Errorf("All behind Swap: %v", l)
		}
	}
}

// P5.3.

func TestSwappedTwice(t *testing.T) {
	for n := range 4 {
		f, g := loaded(t, n), loaded(t, n*n+1)
		must(t, regs.Swap(f, g))
		must(t, regs.Swap(f, g))
		hold(t, f, list(n), "swapped twice, the one")
		hold(t, g, list(n*n+1), "swapped twice, the other")
		must(t, regs.Swap(f, g))
		must(t, regs.Swap(g, f))
		hold(t, f, list(n), "swapped there and back, the one")
		hold(t, g, list(n*n+1), "swapped there and back, the other")
	}
}

// TestManyCalls mixes all calls on some files, wrong ones among them, and looks at all
// files behind each.
func TestManyCalls(t *testing.T) {
	x := uint64(0x9E3779B97F4A7C15)
	pick := func(n int) int {
		x = x*6364136223846793005 + 1442695040888963407
		return int(x>>33) % n
	}
	const count = 3
	var files [count]*regs.File
	var want [count][]uint64
	for k := range files {
		files[k], want[k] = regs.New(), make([]uint64, api.MaxRegs)
	}
	for range 3000 {
		k, other := pick(count), pick(count)
		e, ok := api.OK, true
		switch pick(4) {
		case 0:
			l := append(list(pick(50)), 1)[:api.MaxRegs-1+pick(3)]
			e, ok = files[k].Load(l), len(l) == api.MaxRegs
			if ok {
				want[k] = slices.Clone(l)
			}
		case 1:
			e = regs.Swap(files[k], files[other])
			want[k], want[other] = want[other], want[k]
		default:
			i, w := pick(api.MaxRegs+2)-1, x
			e, ok = files[k].Set(i, w), i >= 0 && i < api.MaxRegs
			if ok {
				want[k][i] = w
			}
		}
		if ok != (e == api.OK) || !ok && e != api.ErrArg {
			t.Fatalf("files %d and %d: %d", k, other, e)
		}
		for k := range files {
			hold(t, files[k], want[k], "many calls")
		}
	}
}

package mem_test

import (
	"math"
	"slices"
	"testing"

	"palanquin/api"
	"palanquin/mem"
)

const (
	frameWords = 36
	all        = math.MaxUint64
)

// model is what a memory is held against: its words by frame.
type model [][]uint64

func emptyModel(frames int) model {
	want := make(model, frames)
	for f := range want {
		want[f] = make([]uint64, frameWords)
	}
	return want
}

func made(t *testing.T, frames int) *mem.Mem {
	t.Helper()
	m, e := mem.New(frames)
	if m == nil || e != api.OK {
		t.Fatalf("New(%d): %v, %d", frames, m, e)
	}
	return m
}

// mark is a word that no other place has.
func mark(f int, at int) uint64 { return uint64(f+1)<<40 | uint64(at+1) | 1<<63 }

// marked is a memory whose words all differ, and how it is.
func marked(t *testing.T, frames int) (*mem.Mem, model) {
	t.Helper()
	m, want := made(t, frames), emptyModel(frames)
	for f := range want {
		for at := range want[f] {
			want[f][at] = mark(f, at)
			if e := m.Store(f, at, want[f][at]); e != api.OK {
				t.Fatalf("Store(%d, %d): %d", f, at, e)
			}
		}
	}
	return m, want
}

// hold looks at every frame and every word, by all the calls that tell of them.
func hold(t *testing.T, m *mem.Mem, want model, what string) {
	t.Helper()
	if m.Len() != len(want) {
		t.Fatalf("%s: Len is %d, want %d", what, m.Len(), len(want))
	}
	for f := range want {
		words, e := m.Words(f)
		if e != api.OK || !slices.Equal(words, want[f]) {
			t.Fatalf("%s: Words(%d): %v, %d, want %v", what, f, words, e, want[f])
		}
		for at := range want[f] {
			if w, e := m.Load(f, at); w != want[f][at] || e != api.OK {
				t.Fatalf("%s: Load(%d, %d): %d, %d, want %d", what, f, at, w, e, want[f][at])
			}
		}
	}
}

// outside are the numbers that are no place among that many.
func outside(count int) []int {
	return []int{-1, -2, -count, count, count + 1, 2 * count, 1 << 32, -1 << 32, math.MaxInt, math.MaxInt - 1, math.MinInt, math.MinInt + 1}
}

// ends are the first, the last, and some places between.
func ends(count int) []int { return []int{0, count / 2, count - 1} }

func TestFrameIsHeadAndPage(t *testing.T) {
	if frameWords != api.HeadWords+api.PageWords {
		t.Fatal("the tests' frames are not the api's")
	}
}

// P2.1: New.

func TestNewHasThatManyFramesOfZeros(t *testing.T) {
	for frames := 1; frames <= api.MaxFrames; frames++ {
		hold(t, made(t, frames), emptyModel(frames), "New")
	}
}

func TestNewRefusesOtherCounts(t *testing.T) {
	for _, frames := range append(outside(api.MaxFrames+1), 0) {
		if m, e := mem.New(frames); m != nil || e != api.ErrArg {
			t.Errorf("New(%d): %v, %d", frames, m, e)
		}
	}
}

func TestMemoriesShareNothing(t *testing.T) {
	m, want := marked(t, 3)
	other := made(t, 3)
	hold(t, other, emptyModel(3), "the other, behind stores")
	if e := other.Clear(1); e != api.OK {
		t.Fatalf("Clear: %d", e)
	}
	if e := other.Store(2, 5, 9); e != api.OK {
		t.Fatalf("Store: %d", e)
	}
	hold(t, m, want, "the one, behind the other's changes")
}

// P2.1: Load and Store.

func TestExample(t *testing.T) {
	m := made(t, 3)
	if e := m.Store(1, 2, 7); e != api.OK {
		t.Fatalf("Store: %d", e)
	}
	if w, e := m.Load(1, 2); w != 7 || e != api.OK {
		t.Errorf("Load: %d, %d", w, e)
	}
}

// wrongPairs are a place among frames and one among count, of which at least one is wrong.
func wrongPairs(frames int, count int) [][2]int {
	var pairs [][2]int
	for _, f := range outside(frames) {
		for _, g := range append(ends(count), outside(count)...) {
			pairs = append(pairs, [2]int{f, g})
		}
	}
	for _, f := range ends(frames) {
		for _, g := range outside(count) {
			pairs = append(pairs, [2]int{f, g})
		}
	}
	return pairs
}

func sizes() []int { return []int{1, 2, 5, api.MaxFrames} }

// refuseWords makes a call at every place that is wrong, and looks that nothing changes.
func refuseWords(t *testing.T, call func(m *mem.Mem, f int, at int) api.Errno) {
	t.Helper()
	for _, frames := range sizes() {
		m, want := marked(t, frames)
		for _, p := range wrongPairs(frames, frameWords) {
			if e := call(m, p[0], p[1]); e != api.ErrArg {
				t.Errorf("of %d frames, frame %d, word %d: %d", frames, p[0], p[1], e)
			}
		}
		hold(t, m, want, "behind refusals")
	}
}

// refuseFrames makes a call at every frame that is not there, and looks that nothing changes.
func refuseFrames(t *testing.T, call func(m *mem.Mem, f int) api.Errno) {
	t.Helper()
	for _, frames := range sizes() {
		m, want := marked(t, frames)
		for _, f := range outside(frames) {
			if e := call(m, f); e != api.ErrArg {
				t.Errorf("of %d frames, frame %d: %d", frames, f, e)
			}
		}
		hold(t, m, want, "behind refusals")
	}
}

func TestLoadRefusesPlacesThatAreNotThere(t *testing.T) {
	refuseWords(t, func(m *mem.Mem, f int, at int) api.Errno {
		w, e := m.Load(f, at)
		if w != 0 {
			t.Errorf("Load(%d, %d): %d beside %d", f, at, w, e)
		}
		return e
	})
}

func TestStoreRefusesPlacesThatAreNotThere(t *testing.T) {
	refuseWords(t, func(m *mem.Mem, f int, at int) api.Errno { return m.Store(f, at, all) })
}

// P2.1: Clear.

func TestClear(t *testing.T) {
	for _, frames := range sizes() {
		for f := range frames {
			m, want := marked(t, frames)
			if e := m.Clear(f); e != api.OK {
				t.Fatalf("Clear(%d): %d", f, e)
			}
			want[f] = make([]uint64, frameWords)
			hold(t, m, want, "Clear")
		}
	}
}

func TestClearRefusesFramesThatAreNotThere(t *testing.T) {
	refuseFrames(t, (*mem.Mem).Clear)
}

// P2.1: Copy.

func TestCopy(t *testing.T) {
	const frames = 5
	for from := range frames {
		for to := range frames {
			m, want := marked(t, frames)
			if e := m.Copy(from, to); e != api.OK {
				t.Fatalf("Copy(%d, %d): %d", from, to, e)
			}
			want[to] = slices.Clone(want[from])
			hold(t, m, want, "Copy")
		}
	}
}

func TestCopyBetweenTheEnds(t *testing.T) {
	m, want := marked(t, api.MaxFrames)
	if e := m.Copy(0, api.MaxFrames-1); e != api.OK {
		t.Fatalf("Copy: %d", e)
	}
	want[api.MaxFrames-1] = slices.Clone(want[0])
	hold(t, m, want, "Copy")
}

func TestCopiedFramesStayApart(t *testing.T) {
	m, want := marked(t, 3)
	if e := m.Copy(0, 2); e != api.OK {
		t.Fatalf("Copy: %d", e)
	}
	want[2] = slices.Clone(want[0])
	for at := range frameWords {
		want[0][at], want[2][frameWords-1-at] = uint64(at), uint64(at)+100
		if m.Store(0, at, want[0][at]) != api.OK || m.Store(2, frameWords-1-at, want[2][frameWords-1-at]) != api.OK {
			t.Fatal("Store")
		}
	}
	hold(t, m, want, "stores behind Copy")
	if e := m.Clear(0); e != api.OK {
		t.Fatalf("Clear: %d", e)
	}
	want[0] = make([]uint64, frameWords)
	hold(t, m, want, "Clear behind Copy")
}

func TestCopyRefusesFramesThatAreNotThere(t *testing.T) {
	for _, frames := range sizes() {
		m, want := marked(t, frames)
		for _, p := range wrongPairs(frames, frames) {
			if e := m.Copy(p[0], p[1]); e != api.ErrArg {
				t.Errorf("of %d frames, Copy(%d, %d): %d", frames, p[0], p[1], e)
			}
		}
		hold(t, m, want, "behind refusals")
	}
}

// P2.1: Words.

func TestWordsAreNewMemory(t *testing.T) {
	m, want := marked(t, 2)
	words, _ := m.Words(1)
	again, _ := m.Words(1)
	kept := slices.Clone(words)
	for at := range words {
		words[at] = 0
	}
	if !slices.Equal(again, kept) {
		t.Error("two lists share their words")
	}
	hold(t, m, want, "behind a change of the list")
	if m.Clear(1) != api.OK || m.Store(1, 3, 5) != api.OK || m.Copy(0, 1) != api.OK {
		t.Fatal("Clear, Store, Copy")
	}
	if !slices.Equal(again, kept) {
		t.Error("a list changed behind the memory's changes")
	}
	_ = append(again[:0], 1, 2, 3)
	want[1] = slices.Clone(want[0])
	hold(t, m, want, "behind a list that is used again")
}

func TestWordsRefusesFramesThatAreNotThere(t *testing.T) {
	refuseFrames(t, func(m *mem.Mem, f int) api.Errno {
		words, e := m.Words(f)
		if len(words) != 0 {
			t.Errorf("Words(%d): %v beside %d", f, words, e)
		}
		return e
	})
}

// P2.1: Same.

func TestSameLooksAtEveryWord(t *testing.T) {
	for at := range frameWords {
		for b := range 64 {
			m := made(t, 2)
			if m.Store(0, at, 1<<b) != api.OK {
				t.Fatal("Store")
			}
			if m.Same(0, 1) || m.Same(1, 0) {
				t.Errorf("same, though word %d differs by bit %d", at, b)
			}
			if m.Store(1, at, 1<<b) != api.OK {
				t.Fatal("Store")
			}
			if !m.Same(0, 1) || !m.Same(1, 0) {
				t.Errorf("not the same, though word %d is", at)
			}
		}
	}
}

func TestSameIsOfTwoFrames(t *testing.T) {
	m, want := marked(t, api.MaxFrames)
	for f := range want {
		for g := range want {
			if m.Same(f, g) != (f == g) {
				t.Errorf("Same(%d, %d): %v", f, g, f != g)
			}
		}
	}
	if m.Copy(0, 63) != api.OK || !m.Same(0, 63) || !m.Same(63, 0) || m.Same(63, 62) {
		t.Error("Same behind Copy")
	}
	if m.Clear(1) != api.OK || m.Clear(62) != api.OK || !m.Same(1, 62) || m.Same(1, 2) {
		t.Error("Same behind Clear")
	}
}

func TestSameChangesNothing(t *testing.T) {
	m, want := marked(t, 3)
	m.Same(0, 1)
	m.Same(2, 2)
	hold(t, m, want, "Same")
}

func TestSameOfFramesThatAreNotThere(t *testing.T) {
	for _, frames := range sizes() {
		m := made(t, frames)
		for _, p := range wrongPairs(frames, frames) {
			if m.Same(p[0], p[1]) {
				t.Errorf("of %d frames, Same(%d, %d)", frames, p[0], p[1])
			}
		}
		for _, f := range outside(frames) {
			if m.Same(f, f) {
				t.Errorf("of %d frames, Same(%d, %d)", frames, f, f)
			}
		}
	}
}

// P2.2.

// lookUnmade makes every call on a memory that is none: right places and wrong ones.
func lookUnmade(t *testing.T, m *mem.Mem) {
	t.Helper()
	places := append(ends(frameWords), outside(api.MaxFrames)...)
	for _, f := range places {
		for _, g := range places {
			if w, e := m.Load(f, g); w != 0 || e != api.ErrZero {
				t.Errorf("Load(%d, %d): %d, %d", f, g, w, e)
			}
			if e := m.Store(f, g, all); e != api.ErrZero {
				t.Errorf("Store(%d, %d): %d", f, g, e)
			}
			if e := m.Copy(f, g); e != api.ErrZero {
				t.Errorf("Copy(%d, %d): %d", f, g, e)
			}
			if m.Same(f, g) {
				t.Errorf("Same(%d, %d)", f, g)
			}
		}
		if e := m.Clear(f); e != api.ErrZero {
			t.Errorf("Clear(%d): %d", f, e)
		}
		if words, e := m.Words(f); len(words) != 0 || e != api.ErrZero {
			t.Errorf("Words(%d): %v, %d", f, words, e)
		}
	}
	if n := m.Len(); n != 0 {
		t.Errorf("Len: %d", n)
	}
}

func TestNilMemory(t *testing.T) { lookUnmade(t, nil) }

func TestMemoryThatNoCallMade(t *testing.T) {
	lookUnmade(t, new(mem.Mem))
	var m mem.Mem
	lookUnmade(t, &m)
	lookUnmade(t, &m)
}

// P2.3.

func TestStoreIsLoadedAndNothingElseChanges(t *testing.T) {
	for _, frames := range []int{1, 3} {
		m, want := marked(t, frames)
		for f := range frames {
			for at := range frameWords {
				for _, w := range []uint64{all, 0, 1, 1 << 63, mark(f, at) + 7} {
					want[f][at] = w
					if e := m.Store(f, at, w); e != api.OK {
						t.Fatalf("Store(%d, %d, %d): %d", f, at, w, e)
					}
					hold(t, m, want, "Store")
				}
			}
		}
	}
}

func TestStoreAtTheEndsOfTheGreatestMemory(t *testing.T) {
	m, want := marked(t, api.MaxFrames)
	for _, f := range ends(api.MaxFrames) {
		for _, at := range ends(frameWords) {
			want[f][at] = all - uint64(f*frameWords+at)
			if e := m.Store(f, at, want[f][at]); e != api.OK {
				t.Fatalf("Store(%d, %d): %d", f, at, e)
			}
			hold(t, m, want, "Store")
		}
	}
}

// TestManyCalls mixes all that changes a memory, and holds it against the model after each.
func TestManyCalls(t *testing.T) {
	const frames = 6
	m, want := made(t, frames), emptyModel(frames)
	x := uint64(0x9E3779B97F4A7C15)
	pick := func(n int) int {
		x = x*6364136223846793005 + 1442695040888963407
		return int(x>>33) % n
	}
	for range 3000 {
		f, g, at := pick(frames+2)-1, pick(frames+2)-1, pick(frameWords+2)-1
		there := f >= 0 && f < frames
		e, ok := api.OK, there
		switch pick(4) {
		case 0:
			e = m.Clear(f)
			if ok {
				want[f] = make([]uint64, frameWords)
			}
		case 1:
			e = m.Copy(f, g)
			if ok = there && g >= 0 && g < frames; ok {
				want[g] = slices.Clone(want[f])
			}
		default:
			w := x
			e = m.Store(f, at, w)
			if ok = there && at >= 0 && at < frameWords; ok {
				want[f][at] = w
			}
		}
		if ok != (e == api.OK) || !ok && e != api.ErrArg {
			t.Fatalf("frames %d and %d, word %d: %d", f, g, at, e)
		}
		hold(t, m, want, "many calls")
		h, k := pick(frames), pick(frames)
		if m.Same(h, k) != slices.Equal(want[h], want[k]) {
			t.Fatalf("Same(%d, %d): %v", h, k, m.Same(h, k))
		}
	}
}

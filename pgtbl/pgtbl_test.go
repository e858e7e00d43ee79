package pgtbl_test

import (
	"math"
	"slices"
	"testing"

	"palanquin/api"
	"palanquin/mem"
	"palanquin/pgtbl"
)

// last is the greatest time.
const last = 1 << 30

type frame [36]uint64

// world is a model of a memory: what the calls answer and change is held against it.
type world []frame

// The first words of heads: of a table of mappings' root, and of its leaf.
const (
	rootHead = 2
	leafHead = 18
)

func within(v int, least int, most int) bool { return least <= v && v <= most }

// on is the word of a mapping, by multiplying.
func on(f int, r int) uint64 { return uint64(1 + 2*f + 128*r) }

// off is the word of what was a mapping till then.
func off(time int) uint64 { return uint64(time) * 512 }

// pteOf is the mapping that a word is of, by dividing, if it is one's.
func pteOf(w uint64) (api.Pte, bool) {
	f, r, time := int(w/2%64), int(w/128%4), int(w/512)
	switch {
	case w >= 1<<40:
		return api.Pte{}, false
	case w%2 == 1 && r > 0 && time == 0:
		return api.Pte{On: true, F: f, R: r}, true
	case w%2 == 0 && f == 0 && r == 0 && time <= last:
		return api.Pte{Time: time}, true
	}
	return api.Pte{}, false
}

// level tells of which level a frame is as a table of mappings'; -1 if it is none.
func (all world) level(f int) int {
	if f < 0 || f >= len(all) {
		return -1
	}
	switch [4]uint64(all[f][:4]) {
	case [4]uint64{rootHead}:
		return 0
	case [4]uint64{leafHead}:
		return 1
	}
	return -1
}

func (all world) make(f int, level int) api.Errno {
	if level != 0 && level != 1 {
		return api.ErrArg
	}
	if len(all) == 0 {
		return api.ErrZero
	}
	if f < 0 || f >= len(all) {
		return api.ErrArg
	}
	all[f] = frame{rootHead + 16*uint64(level)}
	return api.OK
}

// leaf is that of a page, or why there is none.
func (all world) leaf(root int, page int) (int, api.Errno) {
	if page < 0 || page > 1023 {
		return 0, api.ErrArg
	}
	if all.level(root) != 0 {
		return 0, api.ErrType
	}
	p, ok := pteOf(all[root][4+page/32])
	if !ok || !p.On {
		return 0, api.ErrFault
	}
	if all.level(p.F) != 1 {
		return 0, api.ErrType
	}
	return p.F, api.OK
}

func (all world) raw(root int, page int) (api.Pte, api.Errno) {
	f, e := all.leaf(root, page)
	if e != api.OK {
		return api.Pte{}, e
	}
	p, ok := pteOf(all[f][4+page%32])
	if !ok {
		return api.Pte{}, api.ErrForm
	}
	return p, api.OK
}

func (all world) walk(root int, page int) (api.Pte, api.Errno) {
	p, e := all.raw(root, page)
	if e == api.OK && !p.On {
		return api.Pte{}, api.ErrFault
	}
	return p, e
}

// free tells whether something may come to where p is.
func free(p api.Pte, floor int) api.Errno {
	switch {
	case p.On:
		return api.ErrUsed
	case p.Time != 0 && p.Time >= floor:
		return api.ErrBusy
	}
	return api.OK
}

func (all world) mapTo(root int, page int, f int, r int, floor int) api.Errno {
	if !within(f, 0, 63) || !within(r, 1, 3) {
		return api.ErrArg
	}
	p, e := all.raw(root, page)
	if e != api.OK {
		return e
	}
	if e := free(p, floor); e != api.OK {
		return e
	}
	leaf, _ := all.leaf(root, page)
	all[leaf][4+page%32] = on(f, r)
	return api.OK
}

func (all world) unmap(root int, page int, now int) (api.Pte, api.Errno) {
	if !within(now, 1, last) {
		return api.Pte{}, api.ErrArg
	}
	p, e := all.walk(root, page)
	if e != api.OK {
		return api.Pte{}, e
	}
	leaf, _ := all.leaf(root, page)
	all[leaf][4+page%32] = off(now)
	return p, api.OK
}

func (all world) cons(root int, high int, leaf int, floor int) api.Errno {
	if !within(high, 0, 31) {
		return api.ErrArg
	}
	if all.level(root) != 0 || all.level(leaf) != 1 {
		return api.ErrType
	}
	p, ok := pteOf(all[root][4+high])
	if !ok {
		return api.ErrForm
	}
	if e := free(p, floor); e != api.OK {
		return e
	}
	all[root][4+high] = on(leaf, 3)
	return api.OK
}

func (all world) decons(root int, high int, now int) (int, api.Errno) {
	if !within(high, 0, 31) || !within(now, 1, last) {
		return 0, api.ErrArg
	}
	if all.level(root) != 0 {
		return 0, api.ErrType
	}
	p, ok := pteOf(all[root][4+high])
	if !ok {
		return 0, api.ErrForm
	}
	if !p.On {
		return 0, api.ErrNone
	}
	all[root][4+high] = off(now)
	return p.F, api.OK
}

func (all world) used(f int) (int, api.Errno) {
	if all.level(f) < 0 {
		return 0, api.ErrType
	}
	count := 0
	for _, w := range all[f][4:] {
		p, ok := pteOf(w)
		if !ok {
			return 0, api.ErrForm
		}
		if p.On {
			count++
		}
	}
	return count, api.OK
}

// real is a memory with the words of the model.
func (all world) real(t *testing.T) *mem.Mem {
	t.Helper()
	m, e := mem.New(len(all))
	if e != api.OK {
		t.Fatalf("New(%d): %d", len(all), e)
	}
	all.write(t, m)
	return m
}

// write makes the words of m those of the model.
func (all world) write(t *testing.T, m *mem.Mem) {
	for f := range all {
		for at, w := range all[f] {
			if e := m.Store(f, at, w); e != api.OK {
				t.Fatalf("Store(%d, %d): %d", f, at, e)
			}
		}
	}
}

// same fails if the words of m are others than the model's.
func (all world) same(t *testing.T, m *mem.Mem, what ...any) {
	for f := range all {
		got, e := m.Words(f)
		if e != api.OK || !slices.Equal(got, all[f][:]) {
			t.Helper()
			t.Fatalf("%v: frame %d is %v, %d, not %v", what, f, got, e, all[f])
		}
	}
}

// blank is a world of frames of which no two words are the same, and none is a head's or a
// mapping's.
func blank(frames int) world {
	all := make(world, frames)
	for f := range all {
		for at := range all[f] {
			all[f][at] = 1<<40 + uint64(1000*f+at)
		}
	}
	return all
}

// begin makes frame f an empty one that begins with that word.
func (all world) begin(f int, first uint64) { all[f] = frame{first} }

// lay makes w the word of entry i of frame f.
func (all world) lay(f int, i int, w uint64) { all[f][4+i] = w }

// plain is a world with the root 0, the leaf 1 that its entry 2 maps, the leaf 2 that
// nothing maps, the root 3, and a frame of something else.
func plain() world {
	all := blank(5)
	all.begin(0, rootHead)
	all.begin(1, leafHead)
	all.begin(2, leafHead)
	all.begin(3, rootHead)
	all.lay(0, 2, on(1, 3))
	return all
}

// Each of these calls both, and fails where the answers differ.

func both[V comparable](t *testing.T, name string, got V, e api.Errno, want V, wantE api.Errno, args ...int) {
	var none V
	if e != wantE || got != want || e != api.OK && got != none {
		t.Helper()
		t.Fatalf("%s%v: %v, %d, not %v, %d", name, args, got, e, want, wantE)
	}
}

func makeTable(t *testing.T, m *mem.Mem, all world, f int, level int) api.Errno {
	e, want := pgtbl.Make(m, f, level), all.make(f, level)
	both(t, "Make", 0, e, 0, want, f, level)
	return e
}

func raw(t *testing.T, m *mem.Mem, all world, root int, page int) api.Errno {
	p, e := pgtbl.Raw(m, root, page)
	want, wantE := all.raw(root, page)
	both(t, "Raw", p, e, want, wantE, root, page)
	return e
}

func walk(t *testing.T, m *mem.Mem, all world, root int, page int) api.Errno {
	p, e := pgtbl.Walk(m, root, page)
	want, wantE := all.walk(root, page)
	both(t, "Walk", p, e, want, wantE, root, page)
	return e
}

func mapTo(t *testing.T, m *mem.Mem, all world, root int, page int, f int, r int, floor int) api.Errno {
	e, want := pgtbl.Map(m, root, page, f, r, floor), all.mapTo(root, page, f, r, floor)
	both(t, "Map", 0, e, 0, want, root, page, f, r, floor)
	return e
}

func unmap(t *testing.T, m *mem.Mem, all world, root int, page int, now int) api.Errno {
	p, e := pgtbl.Unmap(m, root, page, now)
	want, wantE := all.unmap(root, page, now)
	both(t, "Unmap", p, e, want, wantE, root, page, now)
	return e
}

func cons(t *testing.T, m *mem.Mem, all world, root int, high int, leaf int, floor int) api.Errno {
	e, want := pgtbl.Cons(m, root, high, leaf, floor), all.cons(root, high, leaf, floor)
	both(t, "Cons", 0, e, 0, want, root, high, leaf, floor)
	return e
}

func decons(t *testing.T, m *mem.Mem, all world, root int, high int, now int) api.Errno {
	f, e := pgtbl.Decons(m, root, high, now)
	want, wantE := all.decons(root, high, now)
	both(t, "Decons", f, e, want, wantE, root, high, now)
	return e
}

func used(t *testing.T, m *mem.Mem, all world, f int) api.Errno {
	n, e := pgtbl.Used(m, f)
	want, wantE := all.used(f)
	both(t, "Used", n, e, want, wantE, f)
	return e
}

// outside are numbers that lie behind every range. Some of them, cut to fewer bits, doubled,
// or taken 32 times, come back into one.
func outside() []int {
	out := []int{
		math.MinInt, math.MinInt + 1, math.MinInt + 67, math.MaxInt - 1, math.MaxInt,
		-1<<32 + 67, -65536, -1024, -1023, -1022, -957, -512, -64, -63, -62, -33, -32, -31, -30, -4, -3, -2, -1,
		last + 1, last + 67, 1<<31 + 67, 1<<32 + 1, 1<<32 + 2, 1<<32 + 67,
	}
	for bit := 31; bit < 63; bit++ {
		out = append(out, 1<<bit, 1<<bit+67, -1<<bit, -1<<bit+67)
	}
	return out
}

func wrongPages() []int {
	return append(outside(), 1024, 1025, 1026, 1091, 2048, 2115, 32768, 32835, last)
}
func wrongEntries() []int { return append(outside(), 32, 33, 34, 64, 66, 1024, 1026, last) }
func wrongTimes() []int   { return append(outside(), 0) }
func wrongFrames() []int  { return append(outside(), 5, 6, 64, 65, 128, last) }
func wrongRights() []int {
	return append(outside(), 0, 4, 5, 6, 7, 8, 9, 16, 17, 31, 128, 131, 256, last)
}
func wrongTargets() []int {
	return append(outside(), 64, 65, 66, 127, 128, 129, 256, 257, 1024, last-1, last)
}

// wrongHeads are the first four words of frames that are neither a root nor a leaf.
func wrongHeads() [][4]uint64 {
	return [][4]uint64{
		{},                 // none
		{1},                // a table of capabilities
		{17},               // its leaf
		{33, 7},            // a frozen one
		{49, 7},            // its leaf
		{3},                // a component
		{4},                // a thread
		{5},                // a budget
		{6},                // an endpoint
		{7},                // no kind
		{2 | 8},            // likewise
		{16},               // a nothing of level 1
		{3 | 16},           // a component of level 1
		{2 | 32},           // frozen, which it can't be
		{18 | 32, 7},       // likewise a leaf
		{2 | 64},           // a bit too many
		{18 | 1<<32},       // likewise, which is cut away from half a word
		{2 | 1<<63},        // the last bit
		{2, 7},             // a time, but not frozen
		{18, 7},            // likewise a leaf
		{2, 1 << 32},       // a time that is cut to 0
		{2, 0, 1},          // a word behind
		{18, 0, 0, 1},      // the last one
		{2, 0, 0, 1 << 63}, // its last bit
		{math.MaxUint64, math.MaxUint64, math.MaxUint64, math.MaxUint64},
	}
}

// wrongWords are those that are no mapping's. Some begin as one's of frame 1.
func wrongWords() []uint64 {
	return []uint64{
		1,                     // On, without a right
		1 + 2,                 // On, of frame 1, without a right
		1 + 126,               // On, of the last frame, without a right
		2,                     // a frame, but not On
		126,                   // the last one
		128,                   // a right, but not On
		384,                   // all rights
		2 + 384,               // frame 1 with all rights
		on(1, 3) + off(1),     // On, with a time
		on(1, 3) + off(last),  // On, with the last time
		on(1, 3) + 1<<40,      // On, with a bit too many
		on(1, 3) + 1<<63,      // the last one
		off(5) + 2,            // a time and a frame
		off(5) + 128,          // a time and a right
		off(last + 1),         // behind the last time
		off(1<<31 - 1),        // the greatest number in its bits
		1 << 40,               // a bit too many
		1<<40 + off(5),        // beside a time
		1 << 63,               // the last one
		1<<40 - 1,             // all bits of a mapping's word
		math.MaxUint64,        // all bits
		math.MaxUint64 &^ 511, // a time below 0
	}
}

// rightWords are those of mappings, of which some are On.
func rightWords() []uint64 {
	return []uint64{0, off(1), off(5), off(last - 1), off(last), on(0, 1), on(0, 3), on(1, 1), on(1, 2), on(1, 3), on(2, 3), on(31, 2), on(63, 1), on(63, 3)}
}

// floorsAround are those that what was there till a time is held against.
func floorsAround(time int) []int {
	return []int{math.MinInt, math.MinInt + 1, -last, -1, 0, 1, 2, time - 1, time, time + 1, last - 1, last, last + 1, math.MaxInt - 1, math.MaxInt}
}

func TestExample(t *testing.T) {
	m, _ := mem.New(1)
	if e := pgtbl.Make(m, 0, 0); e != api.OK {
		t.Fatalf("Make: %d", e)
	}
	for page := range 1024 {
		if p, e := pgtbl.Walk(m, 0, page); p != (api.Pte{}) || e != 9 {
			t.Errorf("Walk(%d): %v, %d", page, p, e)
		}
	}
}

// The chapter gives the errors by their numbers, and where the words lie.
func TestNumbers(t *testing.T) {
	m, _ := mem.New(3)
	for _, c := range []struct {
		name string
		got  api.Errno
		want api.Errno
	}{
		{"Make of nil", pgtbl.Make(nil, 0, 0), 13},
		{"Make of level 2", pgtbl.Make(m, 0, 2), 1},
		{"Make of frame 3", pgtbl.Make(m, 3, 0), 1},
		{"Make of a root", pgtbl.Make(m, 0, 0), 0},
		{"Make of a leaf", pgtbl.Make(m, 1, 1), 0},
		{"Map with rights 4", pgtbl.Map(m, 0, 67, 5, 4, 0), 1},
		{"Map without a leaf", pgtbl.Map(m, 0, 67, 5, 2, 0), 9},
		{"Map in a leaf", pgtbl.Map(m, 1, 67, 5, 2, 0), 4},
		{"Cons at 32", pgtbl.Cons(m, 0, 32, 1, 0), 1},
		{"Cons of no leaf", pgtbl.Cons(m, 0, 2, 2, 0), 4},
		{"Cons", pgtbl.Cons(m, 0, 2, 1, 0), 0},
		{"Cons again", pgtbl.Cons(m, 0, 2, 1, 0), 10},
		{"Map", pgtbl.Map(m, 0, 67, 5, 2, 0), 0},
		{"Map again", pgtbl.Map(m, 0, 67, 5, 2, 0), 10},
	} {
		if c.got != c.want {
			t.Errorf("%s: %d, not %d", c.name, c.got, c.want)
		}
	}
	for _, c := range [][3]uint64{{0, 0, 2}, {1, 0, 18}, {0, 6, 1 + 2*1 + 128*3}, {1, 7, 1 + 2*5 + 128*2}} {
		if w, e := m.Load(int(c[0]), int(c[1])); w != c[2] || e != api.OK {
			t.Errorf("word %d of frame %d is %d, %d, not %d", c[1], c[0], w, e, c[2])
		}
	}
	if p, e := pgtbl.Unmap(m, 0, 67, 9); p != (api.Pte{On: true, F: 5, R: 2}) || e != 0 {
		t.Errorf("Unmap: %v, %d", p, e)
	}
	if w, _ := m.Load(1, 7); w != 9*512 {
		t.Errorf("behind Unmap: %d", w)
	}
	if e := pgtbl.Map(m, 0, 67, 5, 2, 9); e != 6 {
		t.Errorf("Map ahead: %d", e)
	}
	if f, e := pgtbl.Decons(m, 0, 2, 10); f != 1 || e != 0 {
		t.Errorf("Decons: %d, %d", f, e)
	}
	if w, _ := m.Load(0, 6); w != 10*512 {
		t.Errorf("behind Decons: %d", w)
	}
	if _, e := pgtbl.Decons(m, 0, 2, 11); e != 3 {
		t.Errorf("Decons again: %d", e)
	}
	if e := m.Store(1, 4, 1); e != api.OK {
		t.Fatal(e)
	}
	if n, e := pgtbl.Used(m, 1); n != 0 || e != 12 {
		t.Errorf("Used: %d, %d", n, e)
	}
}

// Make clears the frame, whatever it had, and leaves all others.
func TestMake(t *testing.T) {
	for _, frames := range []int{1, 2, 5, 64} {
		for _, level := range append(outside(), 0, 1, 2, 3, 16, 17) {
			all := blank(frames)
			m := all.real(t)
			for _, f := range append(outside(), 0, 1, frames-1, frames, frames+1, 64) {
				makeTable(t, m, all, f, level)
				all.same(t, m, "Make", f, level)
			}
		}
	}
}

// What was made is empty, also where the frame was a full one of the same table.
func TestMadeAnew(t *testing.T) {
	for _, level := range []int{0, 1} {
		all := plain()
		for f := range 2 {
			for i := range 32 {
				all.lay(f, i, on(1, 3))
			}
		}
		m := all.real(t)
		for f := range 2 {
			if e := makeTable(t, m, all, f, level); e != api.OK {
				t.Fatalf("Make(%d, %d): %d", f, level, e)
			}
			if n, e := pgtbl.Used(m, f); n != 0 || e != api.OK {
				t.Fatalf("Used(%d): %d, %d", f, n, e)
			}
		}
		all.same(t, m, "Make", level)
	}
}

// An object that is nil, or that no call made, has no frame that is a table's: only what is
// told ahead of a frame's kind is told, and Make tells of the memory.
func TestNoMemory(t *testing.T) {
	for _, m := range []*mem.Mem{nil, {}} {
		for _, f := range []int{0, 1, -1, 64, math.MaxInt, math.MinInt} {
			for _, level := range []int{0, 1, 2, -1} {
				makeTable(t, m, nil, f, level)
			}
			for _, page := range []int{0, 31, 32, 67, 1023, 1024, -1} {
				raw(t, m, nil, f, page)
				walk(t, m, nil, f, page)
				for _, n := range []int{0, 1, 64} {
					mapTo(t, m, nil, f, page, n, 1, 9)
					mapTo(t, m, nil, f, page, n, 0, 9)
					unmap(t, m, nil, f, page, n)
					cons(t, m, nil, f, page, n, 9)
					decons(t, m, nil, f, page, n)
				}
			}
			used(t, m, nil, f)
		}
		_, walked := pgtbl.Walk(m, 0, 0)
		_, counted := pgtbl.Used(m, 0)
		if walked != api.ErrType || counted != api.ErrType {
			t.Errorf("Walk, Used: %d, %d", walked, counted)
		}
	}
}

// Every page is one entry of one leaf: what is mapped there is walked to, and nowhere else.
func TestEveryPage(t *testing.T) {
	all := blank(33)
	all.begin(32, rootHead)
	for f := range 32 {
		all.begin(f, leafHead)
	}
	m := all.real(t)
	for high := range 32 {
		if e := cons(t, m, all, 32, high, 31-high, 0); e != api.OK {
			t.Fatalf("Cons(%d): %d", high, e)
		}
		all.same(t, m, "Cons", high)
	}
	of := func(page int) api.Pte { return api.Pte{On: true, F: page % 61, R: 1 + page%3} }
	for page := range 1024 {
		p := of(page)
		if e := mapTo(t, m, all, 32, page, p.F, p.R, 0); e != api.OK {
			t.Fatalf("Map(%d): %d", page, e)
		}
		all.same(t, m, "Map", page)
		if got, e := pgtbl.Walk(m, 32, page); got != p || e != api.OK {
			t.Fatalf("Walk(%d): %v, %d", page, got, e)
		}
		if page < 1023 && walk(t, m, all, 32, page+1) != api.ErrFault {
			t.Fatalf("Walk(%d) found something", page+1)
		}
	}
	for page := range 1024 {
		if got, e := pgtbl.Walk(m, 32, page); got != of(page) || e != api.OK {
			t.Fatalf("Walk(%d): %v, %d", page, got, e)
		}
		if got, e := pgtbl.Raw(m, 32, page); got != of(page) || e != api.OK {
			t.Fatalf("Raw(%d): %v, %d", page, got, e)
		}
	}
	for page := range 1024 {
		if e := unmap(t, m, all, 32, page, page+1); e != api.OK {
			t.Fatalf("Unmap(%d): %d", page, e)
		}
		all.same(t, m, "Unmap", page)
		if e := walk(t, m, all, 32, page); e != api.ErrFault {
			t.Fatalf("Walk(%d): %d", page, e)
		}
		if p, e := pgtbl.Raw(m, 32, page); p != (api.Pte{Time: page + 1}) || e != api.OK {
			t.Fatalf("Raw(%d): %v, %d", page, p, e)
		}
	}
}

// Every frame is mapped with every right, also one that the memory has not.
func TestEveryMapping(t *testing.T) {
	for f := range 64 {
		for r := 1; r <= 3; r++ {
			for _, page := range []int{64, 67, 95} {
				all := plain()
				m := all.real(t)
				if e := pgtbl.Map(m, 0, page, f, r, 0); e != api.OK {
					t.Fatalf("Map(%d, %d, %d): %d", page, f, r, e)
				}
				all.lay(1, page-64, on(f, r))
				all.same(t, m, "Map", page, f, r)
				want := api.Pte{On: true, F: f, R: r}
				if p, e := pgtbl.Walk(m, 0, page); p != want || e != api.OK {
					t.Fatalf("Walk(%d): %v, %d, not %v", page, p, e, want)
				}
				for _, floor := range floorsAround(0) {
					if e := mapTo(t, m, all, 0, page, f, r, floor); e != api.ErrUsed {
						t.Fatalf("Map(%d) again: %d", page, e)
					}
				}
				if p, e := pgtbl.Unmap(m, 0, page, 5); p != want || e != api.OK {
					t.Fatalf("Unmap(%d): %v, %d, not %v", page, p, e, want)
				}
				all.lay(1, page-64, off(5))
				all.same(t, m, "Unmap", page, f, r)
			}
		}
	}
}

// Frames and rights that no mapping has are told ahead of all else.
func TestWrongMappings(t *testing.T) {
	all := plain()
	all.lay(1, 4, 1)
	all.lay(1, 5, on(7, 3))
	all.lay(1, 6, off(20))
	m := all.real(t)
	refused := func(f int, r int) {
		for _, root := range []int{0, 1, 3, 4, -1, 5} {
			for _, page := range []int{0, 67, 68, 69, 70, 1023, 1024, -1} {
				for _, x := range []*mem.Mem{m, nil, {}} {
					if e := pgtbl.Map(x, root, page, f, r, 9); e != api.ErrArg {
						t.Fatalf("Map(%d, %d, %d, %d): %d", root, page, f, r, e)
					}
				}
			}
		}
	}
	for _, f := range wrongTargets() {
		for r := range 5 {
			refused(f, r)
		}
		refused(f, -1)
	}
	for _, r := range wrongRights() {
		for _, f := range []int{0, 1, 63} {
			refused(f, r)
		}
	}
	all.same(t, m, "wrong mappings")
}

// Pages behind the last one, entries of the root behind it, and times that can't be, are
// told ahead of the root.
func TestWrongNumbers(t *testing.T) {
	all := plain()
	for i := range 32 {
		all.lay(0, i, on(1, 3))
		all.lay(1, i, on(i, 3))
	}
	m := all.real(t)
	refused := func(name string, e api.Errno, args ...int) {
		if e != api.ErrArg {
			t.Fatalf("%s%v: %d", name, args, e)
		}
	}
	for _, root := range append(wrongFrames(), 0, 1, 4) {
		for _, page := range wrongPages() {
			refused("Raw", raw(t, m, all, root, page), root, page)
			refused("Walk", walk(t, m, all, root, page), root, page)
			refused("Map", mapTo(t, m, all, root, page, 7, 1, 9), root, page)
			refused("Unmap", unmap(t, m, all, root, page, 9), root, page)
		}
		for _, high := range wrongEntries() {
			refused("Cons", cons(t, m, all, root, high, 2, 9), root, high)
			refused("Cons", cons(t, m, all, root, high, 4, 9), root, high)
			refused("Decons", decons(t, m, all, root, high, 9), root, high)
			refused("Decons", decons(t, m, all, root, high, 0), root, high)
		}
		for _, now := range wrongTimes() {
			refused("Unmap", unmap(t, m, all, root, 67, now), root, now)
			refused("Unmap", unmap(t, m, all, root, 1024, now), root, now)
			refused("Decons", decons(t, m, all, root, 2, now), root, now)
		}
	}
	all.same(t, m, "wrong numbers")
}

// A root that is none is told ahead of what its entry maps, whatever its head says.
func TestNoRoot(t *testing.T) {
	for _, h := range append(wrongHeads(), [4]uint64{leafHead}) {
		for _, has := range append(wrongWords(), rightWords()...) {
			all := plain()
			copy(all[0][:], h[:])
			all.lay(0, 2, has)
			noRoot(t, all.real(t), all, 0)
		}
	}
	all := plain()
	m := all.real(t)
	for _, f := range append(wrongFrames(), 1, 2, 4) {
		noRoot(t, m, all, f)
	}
}

func noRoot(t *testing.T, m *mem.Mem, all world, root int) {
	refused := func(name string, e api.Errno) {
		if e != api.ErrType {
			t.Fatalf("%s of %d: %d", name, root, e)
		}
	}
	for _, page := range []int{0, 67, 1023} {
		refused("Raw", raw(t, m, all, root, page))
		refused("Walk", walk(t, m, all, root, page))
		refused("Map", mapTo(t, m, all, root, page, 7, 1, 9))
		refused("Unmap", unmap(t, m, all, root, page, 9))
		refused("Cons", cons(t, m, all, root, page/32, 2, 9))
		refused("Decons", decons(t, m, all, root, page/32, 9))
	}
	all.same(t, m, "no root", root)
}

// A root's entry that is not On, or that can't be read, leads nowhere. Cons and Decons
// alone tell the one from the other.
func TestNothingInRoot(t *testing.T) {
	for _, w := range append(wrongWords(), 0, off(1), off(5), off(last)) {
		for _, high := range []int{0, 2, 31} {
			all := plain()
			all.lay(0, high, w)
			m := all.real(t)
			for page := 32 * high; page < 32*high+32; page++ {
				for name, e := range map[string]api.Errno{
					"Raw":   raw(t, m, all, 0, page),
					"Walk":  walk(t, m, all, 0, page),
					"Map":   mapTo(t, m, all, 0, page, 7, 1, math.MaxInt),
					"Unmap": unmap(t, m, all, 0, page, 9),
				} {
					if e != api.ErrFault {
						t.Fatalf("%s of %d with %d: %d", name, page, w, e)
					}
				}
			}
			gone, come := api.ErrNone, api.OK
			if _, ok := pteOf(w); !ok {
				gone, come = api.ErrForm, api.ErrForm
			}
			if e := decons(t, m, all, 0, high, 9); e != gone {
				t.Fatalf("Decons(%d) with %d: %d", high, w, e)
			}
			all.same(t, m, "Decons", high, w)
			if e := cons(t, m, all, 0, high, 2, math.MaxInt); e != come {
				t.Fatalf("Cons(%d) with %d: %d", high, w, e)
			}
			all.same(t, m, "Cons", high, w)
		}
	}
}

// A frame that the root's entry maps, and that is no leaf. Decons does not look at it.
func TestNoLeaf(t *testing.T) {
	for _, h := range append(wrongHeads(), [4]uint64{rootHead}) {
		for _, has := range append(wrongWords(), rightWords()...) {
			all := plain()
			copy(all[1][:], h[:])
			all.lay(1, 3, has)
			noLeaf(t, all, 1, 67)
		}
	}
	// Frames that there are not, another root, the root itself, and a frame without a head.
	for _, f := range []int{5, 6, 63, 3, 0, 4} {
		for _, page := range []int{64, 66, 67, 95} {
			noLeaf(t, plain(), f, page)
		}
	}
}

func noLeaf(t *testing.T, all world, leaf int, page int) {
	for r := 1; r <= 3; r++ {
		all.lay(0, 2, on(leaf, r))
		m := all.real(t)
		for name, e := range map[string]api.Errno{
			"Raw":   raw(t, m, all, 0, page),
			"Walk":  walk(t, m, all, 0, page),
			"Map":   mapTo(t, m, all, 0, page, 7, 1, 9),
			"Unmap": unmap(t, m, all, 0, page, 9),
			"Cons":  cons(t, m, all, 0, 3, leaf, 9),
			"Cons2": cons(t, m, all, 0, 2, leaf, 9),
		} {
			if e != api.ErrType {
				t.Fatalf("%s of %d in %d: %d", name, page, leaf, e)
			}
		}
		all.same(t, m, "no leaf", leaf)
		if f, e := pgtbl.Decons(m, 0, 2, 9); f != leaf || e != api.OK {
			t.Fatalf("Decons of %d: %d, %d", leaf, f, e)
		}
		gone := slices.Clone(all)
		gone.lay(0, 2, off(9))
		gone.same(t, m, "Decons", leaf)
	}
}

// A leaf is walked to whatever the rights are with which the root's entry maps it: those of
// the page are its own entry's.
func TestRootsRights(t *testing.T) {
	for rootR := 1; rootR <= 3; rootR++ {
		for r := 1; r <= 3; r++ {
			all := plain()
			all.lay(0, 2, on(1, rootR))
			m := all.real(t)
			if e := mapTo(t, m, all, 0, 67, 9, r, 0); e != api.OK {
				t.Fatalf("Map: %d", e)
			}
			if p, e := pgtbl.Walk(m, 0, 67); p != (api.Pte{On: true, F: 9, R: r}) || e != api.OK {
				t.Fatalf("Walk: %v, %d", p, e)
			}
			if p, e := pgtbl.Unmap(m, 0, 67, 1); p != (api.Pte{On: true, F: 9, R: r}) || e != api.OK {
				t.Fatalf("Unmap: %v, %d", p, e)
			}
		}
	}
}

// The entry of the leaf: On, quiet for floor or not, or a word that is no mapping's.
func TestEntries(t *testing.T) {
	for _, c := range []struct {
		has  uint64
		raw  api.Errno
		walk api.Errno
		free api.Errno // for the floor 5
	}{
		{0, api.OK, api.ErrFault, api.OK},
		{off(1), api.OK, api.ErrFault, api.OK},
		{off(4), api.OK, api.ErrFault, api.OK},
		{off(5), api.OK, api.ErrFault, api.ErrBusy},
		{off(6), api.OK, api.ErrFault, api.ErrBusy},
		{off(last), api.OK, api.ErrFault, api.ErrBusy},
		{on(0, 1), api.OK, api.OK, api.ErrUsed},
		{on(1, 3), api.OK, api.OK, api.ErrUsed},
		{on(63, 2), api.OK, api.OK, api.ErrUsed},
		{1, api.ErrForm, api.ErrForm, api.ErrForm},
		{2, api.ErrForm, api.ErrForm, api.ErrForm},
		{128, api.ErrForm, api.ErrForm, api.ErrForm},
		{on(1, 3) + off(1), api.ErrForm, api.ErrForm, api.ErrForm},
		{off(last + 1), api.ErrForm, api.ErrForm, api.ErrForm},
		{1 << 40, api.ErrForm, api.ErrForm, api.ErrForm},
	} {
		for _, i := range []int{0, 1, 3, 30, 31} {
			all := plain()
			all.lay(1, i, c.has)
			m := all.real(t)
			if e := raw(t, m, all, 0, 64+i); e != c.raw {
				t.Errorf("Raw(%d) of %d: %d, not %d", i, c.has, e, c.raw)
			}
			if e := walk(t, m, all, 0, 64+i); e != c.walk {
				t.Errorf("Walk(%d) of %d: %d, not %d", i, c.has, e, c.walk)
			}
			all.same(t, m, "looks", i, c.has)
			if e := mapTo(t, m, slices.Clone(all), 0, 64+i, 7, 1, 5); e != c.free {
				t.Errorf("Map(%d) of %d: %d, not %d", i, c.has, e, c.free)
			}
			m = all.real(t)
			if e := unmap(t, m, all, 0, 64+i, 9); e != c.walk {
				t.Errorf("Unmap(%d) of %d: %d, not %d", i, c.has, e, c.walk)
			}
			all.same(t, m, "Unmap", i, c.has)
		}
		// A root's entry likewise, but that it is another error where nothing is.
		all := plain()
		all.lay(0, 7, c.has)
		m := all.real(t)
		if e := cons(t, m, all, 0, 7, 2, 5); e != c.free {
			t.Errorf("Cons at %d: %d, not %d", c.has, e, c.free)
		}
		all.same(t, m, "Cons", c.has)
		all.lay(0, 7, c.has)
		m = all.real(t)
		gone := c.walk
		if gone == api.ErrFault {
			gone = api.ErrNone
		}
		if e := decons(t, m, all, 0, 7, 9); e != gone {
			t.Errorf("Decons at %d: %d, not %d", c.has, e, gone)
		}
		all.same(t, m, "Decons", c.has)
	}
}

// Words of which one or two bits are not a mapping's, in the leaf and in the root.
func TestBits(t *testing.T) {
	all := plain()
	m := all.real(t)
	for _, w := range []uint64{0, off(5), off(last), on(2, 3), on(63, 1)} {
		for one := range 64 {
			for two := range one + 1 {
				has := w ^ 1<<one
				if two < one {
					has ^= 1 << two
				}
				all.lay(1, 3, has)
				all.lay(0, 3, has)
				if m.Store(1, 7, has) != api.OK || m.Store(0, 7, has) != api.OK {
					t.Fatal("Store")
				}
				raw(t, m, all, 0, 67)
				raw(t, m, all, 0, 96)
				walk(t, m, all, 0, 67)
				used(t, m, all, 0)
				used(t, m, all, 1)
				mapTo(t, m, all, 0, 67, 9, 2, 6)
				mapTo(t, m, all, 0, 96, 9, 2, 6)
				cons(t, m, all, 0, 3, 1, 6)
				all.same(t, m, "bits", one, two)
				unmap(t, m, all, 0, 67, 8)
				decons(t, m, all, 0, 3, 8)
				all.same(t, m, "bits gone", one, two)
			}
		}
	}
}

// Floors around the time till which there was one, in the leaf and in the root: what was
// never there is quiet for every floor.
func TestFloors(t *testing.T) {
	for _, time := range []int{0, 1, 2, 5, last - 1, last} {
		for _, floor := range floorsAround(time) {
			want := api.OK
			if time > 0 && time >= floor {
				want = api.ErrBusy
			}
			all := plain()
			all.lay(1, 3, off(time))
			all.lay(0, 9, off(time))
			m := all.real(t)
			if e := mapTo(t, m, all, 0, 67, 7, 2, floor); e != want {
				t.Fatalf("Map behind %d for %d: %d", time, floor, e)
			}
			all.same(t, m, "Map", time, floor)
			if e := cons(t, m, all, 0, 9, 2, floor); e != want {
				t.Fatalf("Cons behind %d for %d: %d", time, floor, e)
			}
			all.same(t, m, "Cons", time, floor)
		}
	}
}

// Times at which something is taken away, in the leaf and in the root.
func TestTimes(t *testing.T) {
	for _, now := range append(wrongTimes(), 1, 2, 3, 511, 512, 513, last-1, last) {
		all := plain()
		all.lay(1, 3, on(7, 2))
		m := all.real(t)
		want := api.OK
		if now < 1 || now > last {
			want = api.ErrArg
		}
		if e := unmap(t, m, all, 0, 67, now); e != want {
			t.Fatalf("Unmap at %d: %d", now, e)
		}
		all.same(t, m, "Unmap", now)
		if want == api.OK {
			if p, e := pgtbl.Raw(m, 0, 67); p != (api.Pte{Time: now}) || e != api.OK {
				t.Fatalf("Raw behind %d: %v, %d", now, p, e)
			}
		}
		if e := decons(t, m, all, 0, 2, now); e != want {
			t.Fatalf("Decons at %d: %d", now, e)
		}
		all.same(t, m, "Decons", now)
	}
}

// Cons of every entry and of every leaf.
func TestCons(t *testing.T) {
	for high := range 32 {
		for leaf := range 64 {
			root := (leaf + 9) % 64
			all := blank(64)
			all.begin(root, rootHead)
			all.begin(leaf, leafHead)
			m := all.real(t)
			if e := pgtbl.Cons(m, root, high, leaf, 0); e != api.OK {
				t.Fatalf("Cons(%d, %d, %d): %d", root, high, leaf, e)
			}
			all.lay(root, high, on(leaf, 3))
			if high%8 == 7 {
				all.same(t, m, "Cons", root, high, leaf)
			}
			if e := cons(t, m, all, root, high, leaf, math.MaxInt); e != api.ErrUsed {
				t.Fatalf("Cons(%d, %d, %d) again: %d", root, high, leaf, e)
			}
			for _, low := range []int{0, 31} {
				if p, e := pgtbl.Raw(m, root, 32*high+low); p != (api.Pte{}) || e != api.OK {
					t.Fatalf("Raw(%d): %v, %d", 32*high+low, p, e)
				}
			}
			if f, e := pgtbl.Decons(m, root, high, 10); f != leaf || e != api.OK {
				t.Fatalf("Decons(%d, %d): %d, %d", root, high, f, e)
			}
			all.lay(root, high, off(10))
			all.same(t, m, "Decons", root, high, leaf)
			if e := decons(t, m, all, root, high, 11); e != api.ErrNone {
				t.Fatalf("Decons(%d, %d) again: %d", root, high, e)
			}
			if e := raw(t, m, all, root, 32*high); e != api.ErrFault {
				t.Fatalf("Raw(%d): %d", 32*high, e)
			}
		}
	}
}

// No root maps a root as its leaf, not even itself, nor does a leaf a leaf.
func TestConsOfOthers(t *testing.T) {
	all := plain()
	m := all.real(t)
	for _, root := range append(wrongFrames(), 0, 1, 2, 3, 4) {
		for _, leaf := range append(wrongFrames(), 0, 1, 2, 3, 4) {
			if (root == 0 || root == 3) && (leaf == 1 || leaf == 2) {
				continue
			}
			if e := cons(t, m, all, root, 5, leaf, 0); e != api.ErrType {
				t.Errorf("Cons(%d, %d): %d", root, leaf, e)
			}
		}
	}
	all.same(t, m, "Cons")
}

// row is a state of a root and a leaf that its entry 2 may map, and a name.
type row struct {
	name string
	root uint64 // the first word of its head
	has  uint64 // the word of its entry
	leaf uint64 // the first word of its head
	low  uint64 // the word of its entry 3
	want api.Errno
}

// lay makes the frames 0 and 1 of a world so.
func (r row) lay() world {
	all := blank(3)
	all.begin(0, r.root)
	all.lay(0, 2, r.has)
	all.begin(1, r.leaf)
	all.lay(1, 3, r.low)
	return all
}

// to is the word of a root's entry that maps the leaf of a row.
var to = on(1, 3)

// The errors of Raw in their order.
func TestRawOrder(t *testing.T) {
	for _, c := range []struct {
		row
		page int
	}{
		{row{"a page behind, no root", leafHead, to, leafHead, 0, api.ErrArg}, 1024},
		{row{"a page below, no head", 64, 0, 0, 1, api.ErrArg}, -1},
		{row{"a page behind, a bad root's entry", rootHead, 1, leafHead, 0, api.ErrArg}, 1024},
		{row{"no root, an empty entry", leafHead, 0, leafHead, 0, api.ErrType}, 67},
		{row{"no root, a bad entry", leafHead, 1, leafHead, 0, api.ErrType}, 67},
		{row{"no root, a bad leaf's entry", 3, to, leafHead, 1, api.ErrType}, 67},
		{row{"no root, no leaf", 1, to, rootHead, 1, api.ErrType}, 67},
		{row{"an empty entry, no leaf", rootHead, 0, rootHead, 1, api.ErrFault}, 67},
		{row{"a bad entry, no leaf", rootHead, 1, rootHead, 1, api.ErrFault}, 67},
		{row{"a bad entry of the leaf's frame", rootHead, to + off(1), leafHead, on(7, 1), api.ErrFault}, 67},
		{row{"an entry that was, no leaf", rootHead, off(5), 0, 1, api.ErrFault}, 67},
		{row{"no leaf, a bad leaf's entry", rootHead, to, rootHead, 1, api.ErrType}, 67},
		{row{"no leaf's head, a mapping", rootHead, to, leafHead | 32, on(7, 1), api.ErrType}, 67},
		{row{"no leaf, but one of capabilities", rootHead, to, 17, 0, api.ErrType}, 67},
		{row{"a bad leaf's entry", rootHead, to, leafHead, 1, api.ErrForm}, 67},
		{row{"nothing", rootHead, to, leafHead, 0, api.OK}, 67},
		{row{"what was", rootHead, to, leafHead, off(last), api.OK}, 67},
		{row{"a mapping", rootHead, to, leafHead, on(7, 1), api.OK}, 67},
	} {
		all := c.lay()
		m := all.real(t)
		if e := raw(t, m, all, 0, c.page); e != c.want {
			t.Errorf("%s: %d, not %d", c.name, e, c.want)
		}
		// Walk and Map, Unmap too, tell what Raw tells, whatever else is so.
		if c.want != api.OK {
			for name, e := range map[string]api.Errno{
				"Walk":  walk(t, m, all, 0, c.page),
				"Map":   mapTo(t, m, all, 0, c.page, 7, 1, 0),
				"Unmap": unmap(t, m, all, 0, c.page, 9),
			} {
				if e != c.want {
					t.Errorf("%s: %s: %d, not %d", name, c.name, e, c.want)
				}
			}
		}
		all.same(t, m, c.name)
	}
}

// The errors of Map in their order.
func TestMapOrder(t *testing.T) {
	for _, c := range []struct {
		row
		page int
		f    int
		r    int
	}{
		{row{"no frame, no root", leafHead, 0, rootHead, 1, api.ErrArg}, 67, 64, 1},
		{row{"no frame below, an empty entry", rootHead, 0, leafHead, 0, api.ErrArg}, 67, -1, 1},
		{row{"no right, no leaf", rootHead, to, rootHead, 0, api.ErrArg}, 67, 7, 0},
		{row{"a right too many, a bad leaf's entry", rootHead, to, leafHead, 1, api.ErrArg}, 67, 7, 4},
		{row{"no right, one that is On", rootHead, to, leafHead, on(7, 1), api.ErrArg}, 67, 7, 0},
		{row{"no frame, one that is not quiet", rootHead, to, leafHead, off(20), api.ErrArg}, 67, 64, 1},
		{row{"no root, one that is On", leafHead, to, leafHead, on(7, 1), api.ErrType}, 67, 7, 1},
		{row{"an empty entry, one that is On", rootHead, 0, leafHead, on(7, 1), api.ErrFault}, 67, 7, 1},
		{row{"no leaf, one that is not quiet", rootHead, to, rootHead, off(20), api.ErrType}, 67, 7, 1},
		{row{"a bad leaf's entry", rootHead, to, leafHead, on(7, 1) + off(20), api.ErrForm}, 67, 7, 1},
		{row{"one that is On", rootHead, to, leafHead, on(7, 1), api.ErrUsed}, 67, 7, 1},
		{row{"one that is not quiet", rootHead, to, leafHead, off(10), api.ErrBusy}, 67, 7, 1},
		{row{"one that is quiet", rootHead, to, leafHead, off(9), api.OK}, 67, 63, 3},
		{row{"none", rootHead, to, leafHead, 0, api.OK}, 67, 0, 1},
	} {
		all := c.lay()
		m := all.real(t)
		if e := mapTo(t, m, all, 0, c.page, c.f, c.r, 10); e != c.want {
			t.Errorf("%s: %d, not %d", c.name, e, c.want)
		}
		all.same(t, m, c.name)
	}
}

// The errors of Unmap in their order.
func TestUnmapOrder(t *testing.T) {
	for _, c := range []struct {
		row
		page int
		now  int
	}{
		{row{"no time, a page behind", rootHead, to, leafHead, 0, api.ErrArg}, 1024, 0},
		{row{"no time, no root", leafHead, to, leafHead, 0, api.ErrArg}, 67, 0},
		{row{"a time behind, an empty entry", rootHead, 0, leafHead, 0, api.ErrArg}, 67, last + 1},
		{row{"a time below 0, no leaf", rootHead, to, rootHead, 0, api.ErrArg}, 67, -1},
		{row{"no time, a bad leaf's entry", rootHead, to, leafHead, 1, api.ErrArg}, 67, 0},
		{row{"no time, none", rootHead, to, leafHead, 0, api.ErrArg}, 67, 0},
		{row{"no time, one that is On", rootHead, to, leafHead, on(7, 1), api.ErrArg}, 67, 0},
		{row{"no root, one that is On", 17, to, leafHead, on(7, 1), api.ErrType}, 67, 1},
		{row{"an empty entry, one that is On", rootHead, 0, leafHead, on(7, 1), api.ErrFault}, 67, 1},
		{row{"no leaf, one that is On", rootHead, to, 17, on(7, 1), api.ErrType}, 67, 1},
		{row{"a bad leaf's entry", rootHead, to, leafHead, 1, api.ErrForm}, 67, 1},
		{row{"none", rootHead, to, leafHead, 0, api.ErrFault}, 67, 1},
		{row{"one that was", rootHead, to, leafHead, off(5), api.ErrFault}, 67, 9},
		{row{"one that is On", rootHead, to, leafHead, on(7, 1), api.OK}, 67, 1},
		{row{"one that is On, at last", rootHead, to, leafHead, on(7, 1), api.OK}, 67, last},
	} {
		all := c.lay()
		m := all.real(t)
		if e := unmap(t, m, all, 0, c.page, c.now); e != c.want {
			t.Errorf("%s: %d, not %d", c.name, e, c.want)
		}
		all.same(t, m, c.name)
	}
}

// The errors of Cons in their order.
func TestConsOrder(t *testing.T) {
	for _, c := range []struct {
		row
		high int
	}{
		{row{"an entry behind, no root", leafHead, 0, leafHead, 0, api.ErrArg}, 32},
		{row{"an entry below, no leaf", rootHead, 0, rootHead, 0, api.ErrArg}, -1},
		{row{"no root, a bad entry", leafHead, 1, leafHead, 0, api.ErrType}, 2},
		{row{"no root, one that is On", 1, to, leafHead, 0, api.ErrType}, 2},
		{row{"no root, one that is not quiet", 0, off(10), leafHead, 0, api.ErrType}, 2},
		{row{"no leaf, a bad entry", rootHead, 1, rootHead, 0, api.ErrType}, 2},
		{row{"no leaf, one that is On", rootHead, to, 17, 0, api.ErrType}, 2},
		{row{"no leaf, one that is not quiet", rootHead, off(10), 64, 0, api.ErrType}, 2},
		{row{"a bad entry", rootHead, to + off(20), leafHead, 0, api.ErrForm}, 2},
		{row{"one that is On", rootHead, to, leafHead, 0, api.ErrUsed}, 2},
		{row{"one that is On, of another frame", rootHead, on(63, 1), leafHead, 0, api.ErrUsed}, 2},
		{row{"one that is not quiet", rootHead, off(10), leafHead, 0, api.ErrBusy}, 2},
		{row{"one that is quiet", rootHead, off(9), leafHead, 0, api.OK}, 2},
		{row{"none", rootHead, 0, leafHead, 0, api.OK}, 2},
		{row{"none, a leaf with bad words", rootHead, 0, leafHead, 1, api.OK}, 2},
	} {
		all := c.lay()
		m := all.real(t)
		if e := cons(t, m, all, 0, c.high, 1, 10); e != c.want {
			t.Errorf("%s: %d, not %d", c.name, e, c.want)
		}
		all.same(t, m, c.name)
	}
}

// The errors of Decons in their order.
func TestDeconsOrder(t *testing.T) {
	for _, c := range []struct {
		row
		high int
		now  int
	}{
		{row{"an entry behind, no root", leafHead, to, leafHead, 0, api.ErrArg}, 32, 9},
		{row{"an entry below, no root", 0, to, leafHead, 0, api.ErrArg}, -1, 9},
		{row{"no time, no root", leafHead, to, leafHead, 0, api.ErrArg}, 2, 0},
		{row{"a time behind, no root", 3, to, leafHead, 0, api.ErrArg}, 2, last + 1},
		{row{"no time, a bad entry", rootHead, 1, leafHead, 0, api.ErrArg}, 2, 0},
		{row{"no time, none", rootHead, 0, leafHead, 0, api.ErrArg}, 2, 0},
		{row{"no time, one that is On", rootHead, to, leafHead, 0, api.ErrArg}, 2, 0},
		{row{"no root, a bad entry", leafHead, 1, leafHead, 0, api.ErrType}, 2, 9},
		{row{"no root, none", leafHead, 0, leafHead, 0, api.ErrType}, 2, 9},
		{row{"no root, one that is On", 17, to, leafHead, 0, api.ErrType}, 2, 9},
		{row{"a bad entry", rootHead, to + off(1), leafHead, 0, api.ErrForm}, 2, 9},
		{row{"none", rootHead, 0, leafHead, 0, api.ErrNone}, 2, 9},
		{row{"one that was", rootHead, off(9), leafHead, 0, api.ErrNone}, 2, 9},
		{row{"one that is On", rootHead, to, leafHead, 0, api.OK}, 2, 1},
		{row{"one that is On, at last", rootHead, to, leafHead, on(7, 1), api.OK}, 2, last},
		{row{"one that is On, of no leaf", rootHead, to, rootHead, 0, api.OK}, 2, 9},
		{row{"one that is On, of no frame", rootHead, on(63, 1), leafHead, 0, api.OK}, 2, 9},
	} {
		all := c.lay()
		m := all.real(t)
		if e := decons(t, m, all, 0, c.high, c.now); e != c.want {
			t.Errorf("%s: %d, not %d", c.name, e, c.want)
		}
		all.same(t, m, c.name)
	}
}

// Used counts what is On, of a root as of a leaf, wherever it lies.
func TestUsed(t *testing.T) {
	for _, h := range []uint64{rootHead, leafHead} {
		all := plain()
		all.begin(1, h)
		m := all.real(t)
		count := func(want int, wantE api.Errno) {
			if n, e := pgtbl.Used(m, 1); n != want || e != wantE {
				t.Fatalf("Used: %d, %d, not %d, %d", n, e, want, wantE)
			}
			all.same(t, m, "Used")
		}
		set := func(i int, w uint64) {
			all.lay(1, i, w)
			if e := m.Store(1, 4+i, w); e != api.OK {
				t.Fatal(e)
			}
		}
		count(0, api.OK)
		for i := range 32 { // from the first to the last
			set(i, on(i, 1+i%3))
			count(i+1, api.OK)
		}
		for i := range 32 { // what was does not count
			set(i, off(i))
			count(31-i, api.OK)
		}
		for i := range 32 { // one alone
			set(i, on(2*i, 1+i%3))
			count(1, api.OK)
			set(i, 0)
		}
		for i := range 32 { // one bad word, with all others On, and with none
			for _, w := range wrongWords() {
				set(i, w)
				count(0, api.ErrForm)
			}
			set(i, on(1, 1))
			count(1+i, api.OK)
		}
		for i := range 32 {
			for _, w := range wrongWords() {
				set(i, w)
				count(0, api.ErrForm)
			}
			set(i, on(1, 1))
			count(32, api.OK)
		}
	}
}

// Frames that are no table's have nothing to be counted, whatever their words are.
func TestUsedOfNone(t *testing.T) {
	for _, h := range wrongHeads() {
		for _, w := range append(wrongWords(), rightWords()...) {
			all := plain()
			copy(all[1][:], h[:])
			all.lay(1, 0, w)
			m := all.real(t)
			if e := used(t, m, all, 1); e != api.ErrType {
				t.Fatalf("Used of %v: %d", h, e)
			}
			all.same(t, m, "Used", h)
		}
	}
	all := plain()
	m := all.real(t)
	for _, f := range append(wrongFrames(), 4) {
		if e := used(t, m, all, f); e != api.ErrType {
			t.Fatalf("Used(%d): %d", f, e)
		}
	}
	all.same(t, m, "Used")
}

// A leaf that is mapped by two roots, and by one of them twice, is one leaf.
func TestLeafTwice(t *testing.T) {
	all := plain()
	m := all.real(t)
	for _, at := range [][2]int{{0, 9}, {3, 0}, {3, 31}} {
		if e := cons(t, m, all, at[0], at[1], 1, 0); e != api.OK {
			t.Fatalf("Cons(%v): %d", at, e)
		}
	}
	ways := [][2]int{{0, 64}, {0, 288}, {3, 0}, {3, 992}}
	now := 1
	for i := range 32 {
		for _, by := range ways {
			for _, there := range ways {
				p := api.Pte{On: true, F: 2 * i, R: 1 + now%3}
				if e := mapTo(t, m, all, by[0], by[1]+i, p.F, p.R, now); e != api.OK {
					t.Fatalf("Map(%v): %d", by, e)
				}
				if got, e := pgtbl.Walk(m, there[0], there[1]+i); got != p || e != api.OK {
					t.Fatalf("Walk(%v): %v, %d", there, got, e)
				}
				if e := mapTo(t, m, all, there[0], there[1]+i, p.F, p.R, now); e != api.ErrUsed {
					t.Fatalf("Map(%v): %d", there, e)
				}
				if got, e := pgtbl.Unmap(m, there[0], there[1]+i, now); got != p || e != api.OK {
					t.Fatalf("Unmap(%v): %v, %d", there, got, e)
				}
				all.lay(1, i, off(now))
				if e := walk(t, m, all, by[0], by[1]+i); e != api.ErrFault {
					t.Fatalf("Walk(%v): %d", by, e)
				}
				if e := mapTo(t, m, all, by[0], by[1]+i, p.F, p.R, now); e != api.ErrBusy {
					t.Fatalf("Map(%v) ahead: %d", by, e)
				}
				all.same(t, m, by, there)
				now++
			}
		}
	}
	// It may be taken out of one after the other, and stays in the rest.
	if e := mapTo(t, m, all, 0, 67, 7, 1, now); e != api.OK {
		t.Fatalf("Map: %d", e)
	}
	for i, by := range ways {
		for j, there := range ways {
			want := api.OK
			if j < i {
				want = api.ErrFault
			}
			if e := walk(t, m, all, there[0], there[1]+3); e != want {
				t.Fatalf("Walk(%v): %d", there, e)
			}
		}
		if e := decons(t, m, all, by[0], by[1]/32, now); e != api.OK {
			t.Fatalf("Decons(%v): %d", by, e)
		}
		all.same(t, m, "Decons", by)
	}
}

// A leaf may map frames of tables, its own among them: they are no part of the table.
func TestTablesAsPages(t *testing.T) {
	all := plain()
	m := all.real(t)
	for i, f := range []int{0, 1, 2, 3, 4, 5, 63} {
		if e := mapTo(t, m, all, 0, 64+i, f, 3, 0); e != api.OK {
			t.Fatalf("Map(%d): %d", f, e)
		}
		if p, e := pgtbl.Walk(m, 0, 64+i); p != (api.Pte{On: true, F: f, R: 3}) || e != api.OK {
			t.Fatalf("Walk(%d): %v, %d", 64+i, p, e)
		}
	}
	all.same(t, m, "Map")
	for _, page := range []int{0, 2, 64, 67} {
		if e := walk(t, m, all, 1, page); e != api.ErrType {
			t.Errorf("Walk of the leaf: %d", e)
		}
	}
}

// What is On in a leaf stays so when the leaf is taken out and mapped again.
func TestLeafComesBack(t *testing.T) {
	all := plain()
	all.lay(1, 3, on(7, 1))
	m := all.real(t)
	for now := 1; now < 9; now++ {
		if e := decons(t, m, all, 0, 2, now); e != api.OK {
			t.Fatalf("Decons: %d", e)
		}
		if e := walk(t, m, all, 0, 67); e != api.ErrFault {
			t.Fatalf("Walk: %d", e)
		}
		if e := cons(t, m, all, 0, 2, 1, now); e != api.ErrBusy {
			t.Fatalf("Cons ahead: %d", e)
		}
		if e := cons(t, m, all, 0, 2, 1, now+1); e != api.OK {
			t.Fatalf("Cons: %d", e)
		}
		if p, e := pgtbl.Walk(m, 0, 67); p != (api.Pte{On: true, F: 7, R: 1}) || e != api.OK {
			t.Fatalf("Walk: %v, %d", p, e)
		}
		all.same(t, m, now)
	}
}

// What was unmapped comes back only behind floor; till then nothing does.
func TestNothingAheadOfFloor(t *testing.T) {
	all := plain()
	m := all.real(t)
	for now := 1; now < 40; now++ {
		if e := mapTo(t, m, all, 0, 67, now, 1, now); e != api.OK {
			t.Fatalf("Map at %d: %d", now, e)
		}
		if e := walk(t, m, all, 0, 67); e != api.OK {
			t.Fatalf("Walk at %d: %d", now, e)
		}
		if e := unmap(t, m, all, 0, 67, now); e != api.OK {
			t.Fatalf("Unmap at %d: %d", now, e)
		}
		for floor := -1; floor <= now; floor++ {
			for r := 1; r <= 3; r++ {
				if e := mapTo(t, m, all, 0, 67, now, r, floor); e != api.ErrBusy {
					t.Fatalf("Map behind %d for %d: %d", now, floor, e)
				}
			}
			if e := walk(t, m, all, 0, 67); e != api.ErrFault {
				t.Fatalf("Walk behind %d: %d", now, e)
			}
		}
		all.same(t, m, now)
	}
	// A leaf's place in its root is taken likewise.
	if e := decons(t, m, all, 0, 2, 60); e != api.OK {
		t.Fatalf("Decons: %d", e)
	}
	for floor := range 61 {
		if e := cons(t, m, all, 0, 2, 2, floor); e != api.ErrBusy {
			t.Fatalf("Cons for %d: %d", floor, e)
		}
	}
	if e := cons(t, m, all, 0, 2, 2, 61); e != api.OK {
		t.Fatalf("Cons: %d", e)
	}
	all.same(t, m, "Cons")
}

// Every state of root, entry, leaf and entry there, by each argument: all calls against the
// model.
func TestAllStates(t *testing.T) {
	heads := []uint64{0, rootHead, leafHead, 1, 17, 3, 7, 34, 50, 66}
	rootHas := []uint64{0, off(5), off(last), on(1, 3), on(1, 1), on(0, 3), on(2, 3), on(63, 3), 1, 2, on(1, 3) + off(1), 1 << 40}
	leafHas := []uint64{0, off(1), off(5), off(last), on(0, 1), on(1, 3), on(63, 2), 1, 128, off(last + 1), 1 << 63}
	all := blank(3)
	m := all.real(t)
	for _, rootIs := range heads {
		for _, has := range rootHas {
			for _, leafIs := range heads {
				for _, low := range leafHas {
					start := row{root: rootIs, has: has, leaf: leafIs, low: low}.lay()
					allCalls(t, m, all, start)
				}
			}
		}
	}
}

// allCalls makes each call begin at the same state.
func allCalls(t *testing.T, m *mem.Mem, all world, start world) {
	copy(all, start)
	start.write(t, m)
	changed := func() {
		if !slices.Equal(all, start) {
			all.same(t, m, start)
			copy(all, start)
			start.write(t, m)
		}
	}
	floors := []int{math.MinInt, 0, 5, 6, last, last + 1, math.MaxInt}
	times := []int{math.MinInt, 0, 1, last, last + 1}
	for _, page := range []int{67, 68, 1024} {
		raw(t, m, all, 0, page)
		walk(t, m, all, 0, page)
		for _, floor := range floors {
			mapTo(t, m, all, 0, page, 63, 1, floor)
			changed()
		}
		mapTo(t, m, all, 0, page, 64, 1, 9)
		mapTo(t, m, all, 0, page, 0, 4, 9)
		for _, now := range times {
			unmap(t, m, all, 0, page, now)
			changed()
		}
	}
	for _, high := range []int{2, 3, 32} {
		for _, floor := range floors {
			cons(t, m, all, 0, high, 1, floor)
			changed()
		}
		for _, now := range times {
			decons(t, m, all, 0, high, now)
			changed()
		}
	}
	for f := range 3 {
		used(t, m, all, f)
	}
	all.same(t, m, start)
}

// chance is a row of numbers that looks like chance, and is the same each time.
type chance uint64

func (c *chance) below(n int) int {
	*c = *c*6364136223846793005 + 1442695040888963407
	return int(uint64(*c) >> 33 % uint64(n))
}

// Many calls in a row, on a few frames: answers and words are the model's.
func TestManyCalls(t *testing.T) {
	for seed := range 60 {
		many(t, chance(seed))
	}
}

func many(t *testing.T, c chance) {
	all := blank(6)
	m := all.real(t)
	for f := range 5 {
		makeTable(t, m, all, f, min(f/2, 1))
	}
	for now := 1; now < 1500; now++ {
		root, leaf := c.below(7), c.below(7)
		if c.below(4) > 0 {
			root, leaf = c.below(2), 2+c.below(3)
		}
		high := c.below(3)
		page := 32*high + c.below(4)
		floor := now - c.below(12)
		switch c.below(20) {
		case 0, 1, 2, 3, 4:
			mapTo(t, m, all, root, page, c.below(66)-1, c.below(5), floor)
		case 5, 6:
			walk(t, m, all, root, page)
		case 7:
			raw(t, m, all, root, page)
		case 8, 9, 10, 11:
			unmap(t, m, all, root, page, now)
		case 12, 13, 14:
			cons(t, m, all, root, high, leaf, floor)
		case 15:
			decons(t, m, all, root, high, now)
		case 16, 17:
			used(t, m, all, root)
			used(t, m, all, leaf)
		case 18:
			if c.below(8) == 0 {
				f := c.below(6)
				makeTable(t, m, all, f, min(f/2, 1))
			}
		case 19:
			// A word turns bad now and then, and is made good again.
			f, i := c.below(5), c.below(3)
			w := []uint64{1, 2, off(last + 1), off(now), 0, 0}[c.below(6)]
			all.lay(f, i, w)
			if e := m.Store(f, 4+i, w); e != api.OK {
				t.Fatal(e)
			}
		}
		all.same(t, m, now)
	}
}

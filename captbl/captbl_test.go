package captbl_test

import (
	"math"
	"slices"
	"testing"

	"palanquin/api"
	"palanquin/captbl"
	"palanquin/mem"
)

// last is the greatest time.
const last = 1 << 30

type frame [36]uint64

type words [2]uint64

// world is a model of a memory: what the calls answer and change is held against it.
type world []frame

// The words of a head: a table's root and leaf, then those frozen at 7, then others.
var (
	rootHead   = words{1}
	leafHead   = words{17}
	frozenRoot = words{33, 7}
	frozenLeaf = words{49, 7}
)

func within(v int, least int, most int) bool { return least <= v && v <= most }

// right tells whether a capability can be: the words of the chapter of cap, kind by kind.
func right(c api.Cap) bool {
	if !within(c.R, 0, 31) || !within(c.T, 0, 63) || !within(c.L, 0, 63) || !within(c.E, 0, 65535) || !within(c.A, 0, last) {
		return false
	}
	switch c.K {
	case 0:
		return c == api.Cap{}
	case 1:
		return c == api.Cap{K: 1, A: c.A}
	case 2:
		return c.L == 0 && c.E == 0 && c.A >= 1 && c.T+c.A <= 64
	case 3, 4, 6, 8, 9, 10:
		return c == api.Cap{K: c.K, R: c.R, T: c.T}
	case 5:
		return c.A == 0
	case 7:
		return true
	case 11:
		return c == api.Cap{K: 11, R: c.R}
	}
	return false
}

// wordsOf are those of a capability that is right, by multiplying.
func wordsOf(c api.Cap) words {
	return words{uint64(c.K + c.R*16 + c.T*512 + c.L*32768 + c.E*2097152), uint64(c.A)}
}

// capOf is the capability that words are of, by dividing, if they are one's.
func capOf(w words) (api.Cap, bool) {
	if w[0] >= 1<<37 || w[1] > last {
		return api.Cap{}, false
	}
	c := api.Cap{
		K: int(w[0] % 16),
		R: int(w[0] / 16 % 32),
		T: int(w[0] / 512 % 64),
		L: int(w[0] / 32768 % 64),
		E: int(w[0] / 2097152 % 65536),
		A: int(w[1]),
	}
	if !right(c) {
		return api.Cap{}, false
	}
	return c, true
}

// table tells of which level a frame is as a table's, whether it is frozen, and when;
// level -1 if it is none.
func (all world) table(f int) (level int, frozen bool, time int) {
	if f < 0 || f >= len(all) {
		return -1, false, 0
	}
	w := all[f]
	if w[2] != 0 || w[3] != 0 {
		return -1, false, 0
	}
	switch {
	case w[0] == 1 && w[1] == 0:
		return 0, false, 0
	case w[0] == 17 && w[1] == 0:
		return 1, false, 0
	case w[0] == 33 && w[1] <= last:
		return 0, true, int(w[1])
	case w[0] == 49 && w[1] <= last:
		return 1, true, int(w[1])
	}
	return -1, false, 0
}

func (all world) at(f int, i int) (api.Cap, bool) {
	return capOf(words{all[f][4+2*i], all[f][5+2*i]})
}

func (all world) lay(f int, i int, w words) { all[f][4+2*i], all[f][5+2*i] = w[0], w[1] }

// leaf is that of address a, or why there is none.
func (all world) leaf(root int, a int) (int, api.Errno) {
	if a < 0 || a > 255 {
		return 0, api.ErrArg
	}
	if level, _, _ := all.table(root); level != 0 {
		return 0, api.ErrType
	}
	c, ok := all.at(root, a/16)
	if !ok || c.K != api.CTbl {
		return 0, api.ErrNone
	}
	if level, _, _ := all.table(c.T); level != 1 {
		return 0, api.ErrType
	}
	return c.T, api.OK
}

// free tells whether something may come to a slot.
func (all world) free(f int, i int, floor int) api.Errno {
	c, ok := all.at(f, i)
	switch {
	case !ok:
		return api.ErrForm
	case c.K > 1:
		return api.ErrUsed
	case c.K == 1 && c.A >= floor:
		return api.ErrBusy
	}
	return api.OK
}

func (all world) room(root int, a int, floor int) api.Errno {
	f, e := all.leaf(root, a)
	if e != api.OK {
		return e
	}
	if _, frozen, _ := all.table(f); frozen {
		return api.ErrBusy
	}
	return all.free(f, a%16, floor)
}

func (all world) put(root int, a int, c api.Cap, floor int) api.Errno {
	if !right(c) || c.K < 2 {
		return api.ErrArg
	}
	if e := all.room(root, a, floor); e != api.OK {
		return e
	}
	f, _ := all.leaf(root, a)
	all.lay(f, a%16, wordsOf(c))
	return api.OK
}

func (all world) look(root int, a int) (api.Cap, api.Errno) {
	f, e := all.leaf(root, a)
	if e != api.OK {
		return api.Cap{}, e
	}
	c, ok := all.at(f, a%16)
	if !ok {
		return api.Cap{}, api.ErrForm
	}
	if c.K < 2 {
		return api.Cap{}, api.ErrNone
	}
	return c, api.OK
}

func (all world) drop(root int, a int, now int) (api.Cap, api.Errno) {
	if !within(now, 1, last) {
		return api.Cap{}, api.ErrArg
	}
	c, e := all.look(root, a)
	if e != api.OK {
		return api.Cap{}, e
	}
	f, _ := all.leaf(root, a)
	if _, frozen, _ := all.table(f); frozen {
		return api.Cap{}, api.ErrBusy
	}
	all.lay(f, a%16, words{1, uint64(now)})
	return c, api.OK
}

func (all world) cons(root int, high int, leaf int, floor int) api.Errno {
	if !within(high, 0, 15) {
		return api.ErrArg
	}
	rootIs, rootFrozen, _ := all.table(root)
	leafIs, leafFrozen, _ := all.table(leaf)
	if rootIs != 0 || leafIs != 1 {
		return api.ErrType
	}
	if rootFrozen || leafFrozen {
		return api.ErrBusy
	}
	if e := all.free(root, high, floor); e != api.OK {
		return e
	}
	all.lay(root, high, words{uint64(3 + 31*16 + 512*leaf)})
	return api.OK
}

func (all world) decons(root int, high int, now int, floor int) (int, api.Errno) {
	if !within(high, 0, 15) || !within(now, 1, last) {
		return 0, api.ErrArg
	}
	if level, _, _ := all.table(root); level != 0 {
		return 0, api.ErrType
	}
	c, ok := all.at(root, high)
	if !ok {
		return 0, api.ErrForm
	}
	if c.K != api.CTbl {
		return 0, api.ErrNone
	}
	if level, frozen, time := all.table(c.T); level < 0 || !frozen || time >= floor {
		return 0, api.ErrBusy
	}
	all.lay(root, high, words{1, uint64(now)})
	return c.T, api.OK
}

func (all world) freeze(f int, now int) api.Errno {
	if !within(now, 1, last) {
		return api.ErrArg
	}
	level, frozen, _ := all.table(f)
	if level < 0 {
		return api.ErrType
	}
	if frozen {
		return api.ErrUsed
	}
	all[f][0] += 32
	all[f][1] = uint64(now)
	return api.OK
}

func (all world) make(f int, level int) api.Errno {
	if level != 0 && level != 1 {
		return api.ErrArg
	}
	if len(all) == 0 {
		return api.ErrZero
	}
	if f < 0 || f >= len(all) {
		return api.ErrArg
	}
	all[f] = frame{1 + 16*uint64(level)}
	return api.OK
}

// real is a memory with the words of the model.
func (all world) real(t *testing.T) *mem.Mem {
	t.Helper()
	m, e := mem.New(len(all))
	if e != api.OK {
		t.Fatalf("New(%d): %d", len(all), e)
	}
	all.write(t, m)
	return m
}

// write makes the words of m those of the model.
func (all world) write(t *testing.T, m *mem.Mem) {
	t.Helper()
	for f := range all {
		for at, w := range all[f] {
			if e := m.Store(f, at, w); e != api.OK {
				t.Fatalf("Store(%d, %d): %d", f, at, e)
			}
		}
	}
}

// same fails if the words of m are others than the model's.
func (all world) same(t *testing.T, m *mem.Mem, what ...any) {
	t.Helper()
	for f := range all {
		got, e := m.Words(f)
		if e != api.OK || !slices.Equal(got, all[f][:]) {
			t.Fatalf("%v: frame %d is %v, %d, not %v", what, f, got, e, all[f])
		}
	}
}

// blank is a world of frames of which no two words are the same, and none is a head's or a
// capability's.
func blank(frames int) world {
	all := make(world, frames)
	for f := range all {
		for at := range all[f] {
			all[f][at] = 1<<40 + uint64(1000*f+at)
		}
	}
	return all
}

// begin makes frame f an empty one that begins with that head.
func (all world) begin(f int, h words) { all[f] = frame{h[0], h[1]} }

// plain is a world with the root 0, the leaf 1 in its slot 2, the leaf 2 that hangs
// nowhere, the root 3 and a frame of something else.
func plain() world {
	all := blank(5)
	all.begin(0, rootHead)
	all.begin(1, leafHead)
	all.begin(2, leafHead)
	all.begin(3, rootHead)
	all.lay(0, 2, words{3 + 31*16 + 1*512})
	return all
}

// Each of these calls both, and fails where the answers differ.

func both[V comparable](t *testing.T, name string, got V, e api.Errno, want V, wantE api.Errno, args ...any) {
	t.Helper()
	var none V
	if e != wantE || got != want {
		t.Fatalf("%s%v: %v, %d, not %v, %d", name, args, got, e, want, wantE)
	}
	if e != api.OK && got != none {
		t.Fatalf("%s%v: %v beside %d", name, args, got, e)
	}
}

func room(t *testing.T, m *mem.Mem, all world, root int, a int, floor int) api.Errno {
	t.Helper()
	e, want := captbl.Room(m, root, a, floor), all.room(root, a, floor)
	both(t, "Room", 0, e, 0, want, root, a, floor)
	return e
}

func put(t *testing.T, m *mem.Mem, all world, root int, a int, c api.Cap, floor int) api.Errno {
	t.Helper()
	e, want := captbl.Put(m, root, a, c, floor), all.put(root, a, c, floor)
	both(t, "Put", 0, e, 0, want, root, a, c, floor)
	return e
}

func look(t *testing.T, m *mem.Mem, all world, root int, a int) api.Errno {
	t.Helper()
	c, e := captbl.Look(m, root, a)
	want, wantE := all.look(root, a)
	both(t, "Look", c, e, want, wantE, root, a)
	return e
}

func drop(t *testing.T, m *mem.Mem, all world, root int, a int, now int) api.Errno {
	t.Helper()
	c, e := captbl.Drop(m, root, a, now)
	want, wantE := all.drop(root, a, now)
	both(t, "Drop", c, e, want, wantE, root, a, now)
	return e
}

func cons(t *testing.T, m *mem.Mem, all world, root int, high int, leaf int, floor int) api.Errno {
	t.Helper()
	e, want := captbl.Cons(m, root, high, leaf, floor), all.cons(root, high, leaf, floor)
	both(t, "Cons", 0, e, 0, want, root, high, leaf, floor)
	return e
}

func decons(t *testing.T, m *mem.Mem, all world, root int, high int, now int, floor int) api.Errno {
	t.Helper()
	f, e := captbl.Decons(m, root, high, now, floor)
	want, wantE := all.decons(root, high, now, floor)
	both(t, "Decons", f, e, want, wantE, root, high, now, floor)
	return e
}

func freeze(t *testing.T, m *mem.Mem, all world, f int, now int) api.Errno {
	t.Helper()
	e, want := captbl.Freeze(m, f, now), all.freeze(f, now)
	both(t, "Freeze", 0, e, 0, want, f, now)
	return e
}

// Numbers that lie behind every range; some of them, doubled or cut to half their bits, lie
// in one.
func outside() []int {
	return []int{math.MinInt, math.MinInt + 1, math.MinInt / 2, -1 << 32, -1<<32 + 1, -65536, -256, -64, -17, -16, -15, -2, -1, last + 1, 1 << 31, 1 << 32, 1<<32 + 1, 1<<32 + 35, 1 << 62, 1<<62 + 2, math.MaxInt - 1, math.MaxInt}
}

func wrongAddresses() []int { return append(outside(), 256, 257, 291, 512, 4096) }
func wrongSlots() []int     { return append(outside(), 16, 17, 18, 32, 35, 256) }
func wrongTimes() []int     { return append(slices.DeleteFunc(outside(), inTime), 0) }
func wrongFrames() []int    { return append(outside(), 5, 6, 64, 65) }
func inTime(v int) bool     { return v >= 1 && v <= last }

// wrongHeads are the first four words of frames that are neither a root nor a leaf.
func wrongHeads() [][4]uint64 {
	return [][4]uint64{
		{},              // none
		{2},             // a table of mappings
		{2 | 16},        // its leaf
		{3},             // a component
		{4},             // a thread
		{5},             // a budget
		{6},             // an endpoint
		{7},             // no kind
		{1 | 64},        // a bit too many
		{1 | 1<<63},     // the last bit
		{1, 7},          // a time, but not frozen
		{17, 7},         // likewise a leaf
		{1, 0, 1},       // a word behind
		{17, 0, 0, 1},   // the last one
		{33, last + 1},  // frozen behind the last time
		{49, last + 1},  // likewise a leaf
		{33, 1 << 63},   // frozen ahead of 0
		{49, 1<<32 | 7}, // a time that is cut to 7
		{34, 7},         // a frozen table of mappings
		{32},            // a frozen nothing
		{16},            // a nothing of level 1
		{math.MaxUint64, math.MaxUint64, math.MaxUint64, math.MaxUint64},
	}
}

// wrongWords are those that are no capability's. Some begin as one's of a table.
func wrongWords() []words {
	return []words{
		{12},                // no kind
		{15},                // the last of 4 bits
		{1 << 37},           // a bit beyond
		{3 | 1<<63},         // a table with the last one
		{16},                // none with a right
		{0, 1},              // none with an amount
		{1 | 16, 5},         // one that was, with a right
		{1, last + 1},       // one that was, behind the last time
		{1, 1 << 63},        // one that was, ahead of 0
		{1, 1<<32 | 1},      // a time that is cut to 1
		{2},                 // memory of no frames
		{3 | 1<<9, 1},       // a table with an amount
		{3 | 1<<9 | 1<<15},  // a table with an id
		{3 | 1<<9 | 1<<21},  // a table with an epoch
		{5, 1},              // a component with an amount
		{11 | 1<<9},         // lines with a frame
		{math.MaxUint64, 0}, // all bits
		{math.MaxUint64, math.MaxUint64},
	}
}

// caps are some capabilities of each kind above one that was.
func caps() []api.Cap {
	return []api.Cap{
		{K: api.CMem, R: 5, T: 4, A: 10},
		{K: api.CMem, T: 63, A: 1},
		{K: api.CMem, R: 31, A: 64},
		{K: api.CTbl, R: 31, T: 1},
		{K: api.CTbl, T: 0},
		{K: api.CTbl, R: 1, T: 63},
		{K: api.CPgt, R: 3, T: 7},
		{K: api.CComp, R: 3, T: 7, L: 63, E: 65535},
		{K: api.CThd, R: 16, T: 9},
		{K: api.CInv, R: 31, T: 63, L: 63, E: 65535, A: last},
		{K: api.CInv},
		{K: api.CTcap, R: 2, T: 1},
		{K: api.CRcv, R: 1, T: 2},
		{K: api.CSnd, R: 8, T: 3},
		{K: api.CHw},
		{K: api.CHw, R: 31},
	}
}

// notCaps are capabilities that are not right, or not above one that was.
func notCaps() []api.Cap {
	return []api.Cap{
		{},
		{K: api.CQuiet},
		{K: api.CQuiet, A: 5},
		{K: api.CQuiet, A: last},
		{R: 1},
		{K: -1},
		{K: 12},
		{K: 16 + 3, T: 1},
		{K: 1<<32 + 3, T: 1},
		{K: math.MaxInt},
		{K: math.MinInt},
		{K: api.CQuiet, R: 1, A: 5},
		{K: api.CMem, T: 1},
		{K: api.CMem, T: 63, A: 2},
		{K: api.CMem, T: 1, A: math.MaxInt},
		{K: api.CTbl, R: 32},
		{K: api.CTbl, R: -1},
		{K: api.CTbl, T: 64},
		{K: api.CTbl, T: -1},
		{K: api.CTbl, L: 1},
		{K: api.CTbl, E: 1},
		{K: api.CTbl, A: 1},
		{K: api.CComp, L: 64},
		{K: api.CComp, E: 65536},
		{K: api.CComp, A: 1},
		{K: api.CInv, A: last + 1},
		{K: api.CInv, A: -1},
		{K: api.CHw, T: 1},
	}
}

var some = api.Cap{K: api.CHw, R: 3}

func TestExample(t *testing.T) {
	m, _ := mem.New(1)
	if e := captbl.Make(m, 0, 0); e != api.OK {
		t.Fatalf("Make: %d", e)
	}
	for a := range 256 {
		if c, e := captbl.Look(m, 0, a); c != (api.Cap{}) || e != 3 {
			t.Errorf("Look(%d): %v, %d", a, c, e)
		}
	}
}

// The chapter gives the errors by their numbers.
func TestErrorsNumbers(t *testing.T) {
	m := plain().real(t)
	for name, got := range map[string][2]api.Errno{
		"Make":        {captbl.Make(m, 0, 2), 1},
		"Make of nil": {captbl.Make(nil, 0, 0), 13},
		"Room: arg":   {captbl.Room(m, 0, 256, 0), 1},
		"Room: none":  {captbl.Room(m, 0, 0, 0), 3},
		"Room: type":  {captbl.Room(m, 4, 0, 0), 4},
		"Put":         {captbl.Put(m, 0, 35, some, 0), 0},
		"Put again":   {captbl.Put(m, 0, 35, some, 0), 10},
		"Freeze":      {captbl.Freeze(m, 1, 7), 0},
		"Freeze 2":    {captbl.Freeze(m, 1, 7), 10},
		"Cons":        {captbl.Cons(m, 0, 3, 1, 0), 6},
	} {
		if got[0] != got[1] {
			t.Errorf("%s: %d, not %d", name, got[0], got[1])
		}
	}
	if e := m.Store(1, 4, 12); e != api.OK {
		t.Fatal(e)
	}
	if _, e := captbl.Look(m, 0, 32); e != 12 {
		t.Errorf("Look: %d", e)
	}
}

// Make clears the frame, whatever it had, and leaves all others.
func TestMake(t *testing.T) {
	for _, frames := range []int{1, 2, 5, 64} {
		for _, level := range append(outside(), 0, 1, 2, 3, 16, 17) {
			all := blank(frames)
			m := all.real(t)
			for _, f := range append(outside(), 0, 1, frames-1, frames, frames+1, 64) {
				got, want := captbl.Make(m, f, level), all.make(f, level)
				if got != want {
					t.Fatalf("Make(%d, %d) of %d: %d, not %d", f, level, frames, got, want)
				}
				all.same(t, m, "Make", f, level)
			}
		}
	}
}

// What was made is empty: every slot is free of a root as of a leaf, also where it was
// frozen and full.
func TestMadeAnew(t *testing.T) {
	for _, level := range []int{0, 1} {
		all := plain()
		for f := range 2 {
			all[f][0] |= 32
			all[f][1] = 9
			for i := range 16 {
				all.lay(f, i, wordsOf(api.Cap{K: api.CTbl, T: 1}))
			}
		}
		m := all.real(t)
		for f := range 2 {
			if got, want := captbl.Make(m, f, level), all.make(f, level); got != want {
				t.Fatalf("Make(%d, %d): %d", f, level, got)
			}
		}
		all.same(t, m, "Make", level)
	}
}

// An object that is nil, or that no call made, has no frame that is a table's: only what is
// told ahead of a frame's type is told, and Make tells of the memory.
func TestNoMemory(t *testing.T) {
	for _, m := range []*mem.Mem{nil, {}} {
		for _, f := range []int{0, 1, -1, 64, math.MaxInt, math.MinInt} {
			for _, level := range []int{0, 1, 2, -1} {
				if got, want := captbl.Make(m, f, level), (world{}).make(f, level); got != want {
					t.Errorf("Make(%d, %d): %d, not %d", f, level, got, want)
				}
			}
			for _, a := range []int{0, 35, 255, 256, -1} {
				room(t, m, nil, f, a, 9)
				put(t, m, nil, f, a, some, 9)
				put(t, m, nil, f, a, api.Cap{}, 9)
				look(t, m, nil, f, a)
				drop(t, m, nil, f, a, 1)
				drop(t, m, nil, f, a, 0)
				cons(t, m, nil, f, a, f, 9)
				decons(t, m, nil, f, a, 1, 9)
				decons(t, m, nil, f, a, 0, 9)
			}
			freeze(t, m, nil, f, 1)
			freeze(t, m, nil, f, 0)
		}
	}
	if e := captbl.Freeze(nil, 0, 1); e != api.ErrType {
		t.Errorf("Freeze: %d", e)
	}
	if e := captbl.Room(nil, 0, 0, 0); e != api.ErrType {
		t.Errorf("Room: %d", e)
	}
}

// Every address is one slot of one leaf: what is put there is there, and nowhere else.
func TestEveryAddress(t *testing.T) {
	all := blank(17)
	all.begin(16, rootHead)
	for f := range 16 {
		all.begin(f, leafHead)
	}
	m := all.real(t)
	for high := range 16 {
		if e := cons(t, m, all, 16, high, 15-high, 0); e != api.OK {
			t.Fatalf("Cons(%d): %d", high, e)
		}
		all.same(t, m, "Cons", high)
	}
	for a := range 256 {
		c := api.Cap{K: api.CInv, R: a % 32, T: a % 64, A: a}
		if e := put(t, m, all, 16, a, c, 0); e != api.OK {
			t.Fatalf("Put(%d): %d", a, e)
		}
		all.same(t, m, "Put", a)
		for b := range 256 {
			c, e := captbl.Look(m, 16, b)
			switch {
			case b <= a && (c != api.Cap{K: api.CInv, R: b % 32, T: b % 64, A: b} || e != api.OK):
				t.Fatalf("behind Put(%d): Look(%d): %v, %d", a, b, c, e)
			case b > a && (c != api.Cap{} || e != api.ErrNone):
				t.Fatalf("behind Put(%d): Look(%d): %v, %d", a, b, c, e)
			}
		}
	}
	for a := range 256 {
		if e := drop(t, m, all, 16, a, a+1); e != api.OK {
			t.Fatalf("Drop(%d): %d", a, e)
		}
		all.same(t, m, "Drop", a)
		if e := look(t, m, all, 16, a); e != api.ErrNone {
			t.Fatalf("Look(%d): %d", a, e)
		}
	}
}

// All capabilities that can be are put, looked up as they are, and dropped as they are.
func TestEveryCap(t *testing.T) {
	for _, c := range caps() {
		for _, a := range []int{32, 35, 47} {
			all := plain()
			m := all.real(t)
			if e := put(t, m, all, 0, a, c, 0); e != api.OK {
				t.Fatalf("Put(%d, %v): %d", a, c, e)
			}
			all.same(t, m, "Put", a, c)
			if got, e := captbl.Look(m, 0, a); got != c || e != api.OK {
				t.Fatalf("Look(%d): %v, %d, not %v", a, got, e, c)
			}
			all.same(t, m, "Look", a, c)
			if e := captbl.Room(m, 0, a, math.MaxInt); e != api.ErrUsed {
				t.Fatalf("Room(%d): %d", a, e)
			}
			if got, e := captbl.Drop(m, 0, a, 5); got != c || e != api.OK {
				t.Fatalf("Drop(%d): %v, %d, not %v", a, got, e, c)
			}
			all.lay(1, a-32, words{1, 5})
			all.same(t, m, "Drop", a, c)
		}
	}
}

// What can't be a capability, or is none, or was one, is told ahead of all else.
func TestPutOfNone(t *testing.T) {
	all := plain()
	all[1][4] = 12
	m := all.real(t)
	for _, c := range notCaps() {
		for _, root := range []int{0, 1, 3, 4, -1, 5} {
			for _, a := range []int{0, 32, 33, 35, 255, 256, -1} {
				for _, x := range []*mem.Mem{m, nil, {}} {
					if e := captbl.Put(x, root, a, c, 9); e != api.ErrArg {
						t.Fatalf("Put(%d, %d, %v): %d", root, a, c, e)
					}
				}
			}
		}
	}
	all.same(t, m, "Put of none")
}

// Addresses behind the last one, and times that can't be, are told ahead of the root.
func TestWrongNumbers(t *testing.T) {
	all := plain()
	all.lay(1, 3, wordsOf(some))
	m := all.real(t)
	for _, root := range append(wrongFrames(), 0, 1, 4) {
		for _, a := range wrongAddresses() {
			if e := room(t, m, all, root, a, 9); e != api.ErrArg {
				t.Fatalf("Room(%d, %d): %d", root, a, e)
			}
			if e := look(t, m, all, root, a); e != api.ErrArg {
				t.Fatalf("Look(%d, %d): %d", root, a, e)
			}
			if e := put(t, m, all, root, a, some, 9); e != api.ErrArg {
				t.Fatalf("Put(%d, %d): %d", root, a, e)
			}
			if e := drop(t, m, all, root, a, 9); e != api.ErrArg {
				t.Fatalf("Drop(%d, %d): %d", root, a, e)
			}
		}
		for _, high := range wrongSlots() {
			if e := cons(t, m, all, root, high, 2, 9); e != api.ErrArg {
				t.Fatalf("Cons(%d, %d): %d", root, high, e)
			}
			if e := decons(t, m, all, root, high, 9, 10); e != api.ErrArg {
				t.Fatalf("Decons(%d, %d): %d", root, high, e)
			}
		}
		for _, now := range wrongTimes() {
			if e := drop(t, m, all, root, 35, now); e != api.ErrArg {
				t.Fatalf("Drop(%d) at %d: %d", root, now, e)
			}
			if e := decons(t, m, all, root, 2, now, 10); e != api.ErrArg {
				t.Fatalf("Decons(%d) at %d: %d", root, now, e)
			}
			if e := freeze(t, m, all, root, now); e != api.ErrArg {
				t.Fatalf("Freeze(%d) at %d: %d", root, now, e)
			}
		}
	}
	all.same(t, m, "wrong numbers")
}

// A root that is none is told ahead of what its slot has, whatever its head says.
func TestNoRoot(t *testing.T) {
	for _, h := range append(wrongHeads(), [4]uint64{17}, [4]uint64{49, 7}) {
		for _, slotHas := range []words{{}, {3 + 31*16 + 1*512}, {12}, {1, 5}, {11}} {
			all := plain()
			copy(all[0][:], h[:])
			all.lay(0, 2, slotHas)
			m := all.real(t)
			noRoot(t, m, all, 0)
		}
	}
	all := plain()
	m := all.real(t)
	for _, f := range wrongFrames() {
		noRoot(t, m, all, f)
	}
}

func noRoot(t *testing.T, m *mem.Mem, all world, root int) {
	t.Helper()
	for _, a := range []int{0, 35, 255} {
		for name, e := range map[string]api.Errno{
			"Room":   room(t, m, all, root, a, 9),
			"Put":    put(t, m, all, root, a, some, 9),
			"Look":   look(t, m, all, root, a),
			"Drop":   drop(t, m, all, root, a, 9),
			"Cons":   cons(t, m, all, root, a/16, 2, 9),
			"Decons": decons(t, m, all, root, a/16, 9, 10),
		} {
			if e != api.ErrType {
				t.Fatalf("%s of %d: %d", name, root, e)
			}
		}
	}
	all.same(t, m, "no root", root)
}

// A root's slot that has no table, or that can't be read, has no leaf. Decons alone tells
// the one from the other.
func TestNoLeafInSlot(t *testing.T) {
	slots := append(wrongWords(), words{}, words{1}, words{1, 5}, words{1, last})
	for _, c := range caps() {
		if c.K != api.CTbl {
			slots = append(slots, wordsOf(c))
		}
	}
	for _, w := range slots {
		for _, high := range []int{0, 2, 15} {
			for _, h := range []words{rootHead, frozenRoot} {
				all := plain()
				all[0][0], all[0][1] = h[0], h[1]
				all.lay(0, high, w)
				m := all.real(t)
				for a := 16 * high; a < 16*high+16; a++ {
					for name, e := range map[string]api.Errno{
						"Room": room(t, m, all, 0, a, 9),
						"Put":  put(t, m, all, 0, a, some, 9),
						"Look": look(t, m, all, 0, a),
						"Drop": drop(t, m, all, 0, a, 9),
					} {
						if e != api.ErrNone {
							t.Fatalf("%s of %d with %v: %d", name, a, w, e)
						}
					}
				}
				want := api.ErrNone
				if _, ok := capOf(w); !ok {
					want = api.ErrForm
				}
				if e := decons(t, m, all, 0, high, 9, 10); e != want {
					t.Fatalf("Decons(%d) with %v: %d", high, w, e)
				}
				all.same(t, m, "no leaf", high, w)
			}
		}
	}
}

// A frame in the root's slot that is no leaf. Of Decons it need not be one, but a table's
// that is frozen.
func TestNoLeaf(t *testing.T) {
	for _, h := range append(wrongHeads(), [4]uint64{1}, [4]uint64{33, 7}) {
		all := plain()
		copy(all[1][:], h[:])
		all[1][4] = 12
		all.lay(1, 3, wordsOf(some))
		noLeaf(t, all, 1)
	}
	// Frames that there are not, and the root itself.
	for _, f := range []int{5, 6, 63, 0, 4} {
		noLeaf(t, plain(), f)
	}
}

func noLeaf(t *testing.T, all world, leaf int) {
	t.Helper()
	all.lay(0, 2, words{uint64(3 + 16 + 512*leaf)})
	m := all.real(t)
	for _, a := range []int{32, 35, 36, 47} {
		for name, e := range map[string]api.Errno{
			"Room": room(t, m, all, 0, a, 9),
			"Put":  put(t, m, all, 0, a, some, 9),
			"Look": look(t, m, all, 0, a),
			"Drop": drop(t, m, all, 0, a, 9),
			"Cons": cons(t, m, all, 0, 3, leaf, 9),
		} {
			if e != api.ErrType {
				t.Fatalf("%s of %d: %d", name, a, e)
			}
		}
	}
	all.same(t, m, "no leaf", leaf)
	want := api.ErrBusy
	if level, frozen, _ := all.table(leaf); level == 0 && frozen {
		want = api.OK
	}
	if e := decons(t, m, all, 0, 2, 9, 10); e != want {
		t.Fatalf("Decons of %d: %d", leaf, e)
	}
	all.same(t, m, "Decons", leaf)
}

// The slot of the leaf: free, quiet or not for floor, taken, or words that are no
// capability's.
func TestSlots(t *testing.T) {
	for _, c := range []struct {
		has   words
		floor int
		room  api.Errno
		look  api.Errno
	}{
		{words{}, math.MinInt, api.OK, api.ErrNone},
		{words{}, 0, api.OK, api.ErrNone},
		{words{}, math.MaxInt, api.OK, api.ErrNone},
		{words{1, 0}, 0, api.ErrBusy, api.ErrNone},
		{words{1, 0}, 1, api.OK, api.ErrNone},
		{words{1, 0}, -1, api.ErrBusy, api.ErrNone},
		{words{1, 0}, math.MinInt, api.ErrBusy, api.ErrNone},
		{words{1, 5}, 4, api.ErrBusy, api.ErrNone},
		{words{1, 5}, 5, api.ErrBusy, api.ErrNone},
		{words{1, 5}, 6, api.OK, api.ErrNone},
		{words{1, 5}, math.MinInt, api.ErrBusy, api.ErrNone},
		{words{1, 5}, math.MaxInt, api.OK, api.ErrNone},
		{words{1, last}, last - 1, api.ErrBusy, api.ErrNone},
		{words{1, last}, last, api.ErrBusy, api.ErrNone},
		{words{1, last}, last + 1, api.OK, api.ErrNone},
		{words{11}, math.MinInt, api.ErrUsed, api.OK},
		{words{11}, math.MaxInt, api.ErrUsed, api.OK},
		{words{2, 1}, 9, api.ErrUsed, api.OK},
		{words{12}, 9, api.ErrForm, api.ErrForm},
		{words{1, last + 1}, math.MaxInt, api.ErrForm, api.ErrForm},
		{words{0, 1}, math.MaxInt, api.ErrForm, api.ErrForm},
	} {
		for _, a := range []int{32, 35, 47} {
			all := plain()
			all.lay(1, a-32, c.has)
			m := all.real(t)
			if e := room(t, m, all, 0, a, c.floor); e != c.room {
				t.Errorf("Room with %v for %d: %d", c.has, c.floor, e)
			}
			if e := look(t, m, all, 0, a); e != c.look {
				t.Errorf("Look with %v: %d", c.has, e)
			}
			all.same(t, m, "Look", c.has)
			if e := put(t, m, all, 0, a, some, c.floor); e != c.room {
				t.Errorf("Put with %v for %d: %d", c.has, c.floor, e)
			}
			all.same(t, m, "Put", c.has)
		}
		// A root's slot is taken as a leaf's is.
		for _, high := range []int{0, 3, 15} {
			all := plain()
			all.lay(0, high, c.has)
			m := all.real(t)
			if e := cons(t, m, all, 0, high, 2, c.floor); e != c.room {
				t.Errorf("Cons with %v for %d: %d", c.has, c.floor, e)
			}
			all.same(t, m, "Cons", c.has)
		}
	}
}

// Other slots of a leaf that are no capability's do not matter.
func TestOtherSlots(t *testing.T) {
	all := plain()
	for i := range 16 {
		if i != 3 {
			all.lay(1, i, words{math.MaxUint64, math.MaxUint64})
		}
		if i != 2 && i != 4 {
			all.lay(0, i, words{math.MaxUint64, math.MaxUint64})
		}
	}
	m := all.real(t)
	for name, e := range map[string]api.Errno{
		"Room":    room(t, m, all, 0, 35, 0),
		"Put":     put(t, m, all, 0, 35, some, 0),
		"Look":    look(t, m, all, 0, 35),
		"Drop":    drop(t, m, all, 0, 35, 4),
		"Put 2":   put(t, m, all, 0, 35, some, 5),
		"Cons":    cons(t, m, all, 0, 4, 2, 0),
		"Freeze":  freeze(t, m, all, 1, 6),
		"Decons":  decons(t, m, all, 0, 2, 8, 7),
		"Look 2":  look(t, m, all, 0, 64) - api.ErrNone,
		"Look 3":  look(t, m, all, 0, 35) - api.ErrNone,
		"Freeze2": freeze(t, m, all, 0, 9),
	} {
		if e != api.OK {
			t.Errorf("%s: %d", name, e)
		}
	}
	all.same(t, m, "other slots")
}

// Drop leaves when it was, at the ends too, and answers what was there.
func TestDropTimes(t *testing.T) {
	for _, now := range []int{1, 2, 7, last - 1, last} {
		all := plain()
		all.lay(1, 3, wordsOf(some))
		m := all.real(t)
		if e := drop(t, m, all, 0, 35, now); e != api.OK {
			t.Fatalf("Drop at %d: %d", now, e)
		}
		if all[1][10] != 1 || all[1][11] != uint64(now) {
			t.Fatalf("%v", all[1])
		}
		all.same(t, m, "Drop", now)
		if e := drop(t, m, all, 0, 35, now); e != api.ErrNone {
			t.Fatalf("Drop again: %d", e)
		}
		for _, floor := range []int{math.MinInt, 0, 1, now - 1, now, now + 1, math.MaxInt} {
			want := api.OK
			if floor <= now {
				want = api.ErrBusy
			}
			if e := room(t, m, all, 0, 35, floor); e != want {
				t.Fatalf("Room behind %d for %d: %d", now, floor, e)
			}
		}
		all.same(t, m, "behind", now)
	}
}

// A frozen leaf does not change: its capabilities are looked up, but neither put nor
// dropped. What is told ahead of that is still told.
func TestFrozenLeaf(t *testing.T) {
	all := plain()
	all.lay(1, 3, wordsOf(some))
	all.lay(1, 4, words{1, 5})
	all.lay(1, 5, words{12})
	all[1][0], all[1][1] = frozenLeaf[0], frozenLeaf[1]
	m := all.real(t)
	for a, want := range map[int][3]api.Errno{
		// Put, Look, Drop
		32: {api.ErrBusy, api.ErrNone, api.ErrNone},
		35: {api.ErrBusy, api.OK, api.ErrBusy},
		36: {api.ErrBusy, api.ErrNone, api.ErrNone},
		37: {api.ErrBusy, api.ErrForm, api.ErrForm},
		48: {api.ErrNone, api.ErrNone, api.ErrNone},
	} {
		for _, floor := range []int{math.MinInt, 0, 7, 8, math.MaxInt} {
			if e := room(t, m, all, 0, a, floor); e != want[0] {
				t.Errorf("Room(%d): %d", a, e)
			}
			if e := put(t, m, all, 0, a, some, floor); e != want[0] {
				t.Errorf("Put(%d): %d", a, e)
			}
		}
		if e := look(t, m, all, 0, a); e != want[1] {
			t.Errorf("Look(%d): %d", a, e)
		}
		for _, now := range []int{1, 8, last} {
			if e := drop(t, m, all, 0, a, now); e != want[2] {
				t.Errorf("Drop(%d): %d", a, e)
			}
		}
		if e := captbl.Put(m, 0, a, api.Cap{}, 9); e != api.ErrArg {
			t.Errorf("Put(%d) of none: %d", a, e)
		}
	}
	if e := freeze(t, m, all, 1, 9); e != api.ErrUsed {
		t.Errorf("Freeze: %d", e)
	}
	all.same(t, m, "frozen")
}

// A frozen root takes no leaf, but leaves are still walked to, and taken out.
func TestFrozenRoot(t *testing.T) {
	all := plain()
	all[0][0], all[0][1] = frozenRoot[0], frozenRoot[1]
	m := all.real(t)
	if e := put(t, m, all, 0, 35, some, 0); e != api.OK {
		t.Errorf("Put: %d", e)
	}
	if e := look(t, m, all, 0, 35); e != api.OK {
		t.Errorf("Look: %d", e)
	}
	if e := drop(t, m, all, 0, 35, 9); e != api.OK {
		t.Errorf("Drop: %d", e)
	}
	all.same(t, m, "frozen root")
	for _, high := range []int{2, 3} {
		if e := cons(t, m, all, 0, high, 2, 9); e != api.ErrBusy {
			t.Errorf("Cons: %d", e)
		}
	}
	if e := freeze(t, m, all, 1, 9); e != api.OK {
		t.Errorf("Freeze: %d", e)
	}
	if e := decons(t, m, all, 0, 2, 10, 10); e != api.OK {
		t.Errorf("Decons: %d", e)
	}
	all.same(t, m, "Decons")
}

// Cons lays the table of the leaf, with all rights, into the slot that is meant.
func TestCons(t *testing.T) {
	for _, leaf := range []int{0, 1, 31, 63} {
		for high := range 16 {
			all := blank(64)
			all.begin(7, rootHead)
			all.begin(leaf, leafHead)
			m := all.real(t)
			if e := captbl.Cons(m, 7, high, leaf, math.MinInt); e != api.OK {
				t.Fatalf("Cons(%d, %d): %d", high, leaf, e)
			}
			all[7][4+2*high] = uint64(499 + 512*leaf)
			all.same(t, m, "Cons", high, leaf)
			if e := cons(t, m, all, 7, high, leaf, math.MaxInt); e != api.ErrUsed {
				t.Fatalf("Cons again: %d", e)
			}
			all.same(t, m, "Cons again", high, leaf)
		}
	}
}

// The errors of Cons in their order: what comes later is there, too.
func TestConsOrder(t *testing.T) {
	taken, busy, bad, free := words{11}, words{1, 20}, words{12}, words{}
	for _, c := range []struct {
		name string
		high int
		root words
		leaf words
		has  words
		want api.Errno
	}{
		{"a slot behind, no root", 16, leafHead, rootHead, bad, api.ErrArg},
		{"a slot below, frozen", -1, frozenRoot, frozenLeaf, taken, api.ErrArg},
		{"no root, a frozen leaf", 5, leafHead, frozenLeaf, bad, api.ErrType},
		{"a frozen leaf as root", 5, frozenLeaf, leafHead, taken, api.ErrType},
		{"a frozen root, no leaf", 5, frozenRoot, rootHead, bad, api.ErrType},
		{"a frozen root as leaf", 5, rootHead, frozenRoot, taken, api.ErrType},
		{"no leaf, a taken slot", 5, rootHead, words{}, taken, api.ErrType},
		{"no root, a taken slot", 5, words{2}, leafHead, taken, api.ErrType},
		{"a frozen root, a bad slot", 5, frozenRoot, leafHead, bad, api.ErrBusy},
		{"a frozen leaf, a bad slot", 5, rootHead, frozenLeaf, bad, api.ErrBusy},
		{"both frozen, a taken slot", 5, frozenRoot, frozenLeaf, taken, api.ErrBusy},
		{"a frozen leaf, a taken slot", 5, rootHead, frozenLeaf, taken, api.ErrBusy},
		{"a frozen root, a taken slot", 5, frozenRoot, leafHead, taken, api.ErrBusy},
		{"a bad slot", 5, rootHead, leafHead, bad, api.ErrForm},
		{"a taken slot", 5, rootHead, leafHead, taken, api.ErrUsed},
		{"a slot that is not quiet", 5, rootHead, leafHead, busy, api.ErrBusy},
		{"a free slot", 5, rootHead, leafHead, free, api.OK},
		{"a frozen root, a free slot", 5, frozenRoot, leafHead, free, api.ErrBusy},
		{"a frozen leaf, a free slot", 5, rootHead, frozenLeaf, free, api.ErrBusy},
	} {
		all := blank(3)
		all.begin(0, c.root)
		all.begin(1, c.leaf)
		all.lay(0, 5, c.has)
		m := all.real(t)
		if e := cons(t, m, all, 0, c.high, 1, 20); e != c.want {
			t.Errorf("%s: %d, not %d", c.name, e, c.want)
		}
		all.same(t, m, c.name)
	}
}

// A root hangs in no root, not even in itself, nor a leaf in a leaf.
func TestConsOfItself(t *testing.T) {
	all := plain()
	m := all.real(t)
	for root := range 5 {
		for leaf := range 5 {
			want := api.ErrType
			if (root == 0 || root == 3) && (leaf == 1 || leaf == 2) {
				continue
			}
			if e := cons(t, m, all, root, 5, leaf, 0); e != want {
				t.Errorf("Cons(%d, %d): %d", root, leaf, e)
			}
		}
		for _, leaf := range wrongFrames() {
			if e := cons(t, m, all, root, 5, leaf, 0); e != api.ErrType {
				t.Errorf("Cons(%d, %d): %d", root, leaf, e)
			}
		}
	}
	all.same(t, m, "Cons")
}

// Decons wants a leaf that was frozen ahead of floor.
func TestDeconsTimes(t *testing.T) {
	for _, time := range []int{0, 1, 2, 7, last - 1, last} {
		for _, floor := range []int{math.MinInt, -1, 0, 1, 2, 3, time - 1, time, time + 1, last, last + 1, math.MaxInt} {
			for _, now := range []int{1, time, last} {
				all := plain()
				all[1][0], all[1][1] = 49, uint64(time)
				m := all.real(t)
				want := api.OK
				switch {
				case now < 1:
					want = api.ErrArg
				case time >= floor:
					want = api.ErrBusy
				}
				if e := decons(t, m, all, 0, 2, now, floor); e != want {
					t.Fatalf("Decons at %d of one frozen at %d for %d: %d", now, time, floor, e)
				}
				all.same(t, m, "Decons", now, time, floor)
			}
		}
	}
	// One that is not frozen, for any floor.
	for _, floor := range []int{math.MinInt, 0, 1, math.MaxInt} {
		all := plain()
		m := all.real(t)
		if e := decons(t, m, all, 0, 2, 9, floor); e != api.ErrBusy {
			t.Fatalf("Decons for %d: %d", floor, e)
		}
		all.same(t, m, "Decons", floor)
	}
}

// Decons of every slot answers the leaf, whatever the rights by which it hangs there, and
// leaves when it was.
func TestDecons(t *testing.T) {
	for high := range 16 {
		for _, leaf := range []int{0, 1, 31, 63} {
			for _, r := range []int{0, 1, 31} {
				all := blank(64)
				all.begin(7, rootHead)
				all.begin(leaf, frozenLeaf)
				for i := range 16 {
					all.lay(7, i, words{uint64(3 + 31*16 + 512*i)})
				}
				all.lay(7, high, words{uint64(3 + r*16 + 512*leaf)})
				m := all.real(t)
				f, e := captbl.Decons(m, 7, high, 10, 8)
				if f != leaf || e != api.OK {
					t.Fatalf("Decons(%d): %d, %d", high, f, e)
				}
				all.lay(7, high, words{1, 10})
				all.same(t, m, "Decons", high)
				if e := decons(t, m, all, 7, high, 11, 12); e != api.ErrNone {
					t.Fatalf("Decons again: %d", e)
				}
				if e := look(t, m, all, 7, 16*high); e != api.ErrNone {
					t.Fatalf("Look: %d", e)
				}
			}
		}
	}
}

// The errors of Decons in their order.
func TestDeconsOrder(t *testing.T) {
	leafAt1 := words{3 + 31*16 + 1*512}
	for _, c := range []struct {
		name  string
		high  int
		now   int
		floor int
		root  words
		leaf  words
		has   words
		want  api.Errno
	}{
		{"a slot behind, no root", 16, 9, 8, leafHead, frozenLeaf, leafAt1, api.ErrArg},
		{"a slot below, no root", -1, 9, 8, words{}, frozenLeaf, leafAt1, api.ErrArg},
		{"a time of 0, no root", 5, 0, 8, leafHead, frozenLeaf, leafAt1, api.ErrArg},
		{"a time behind, no root", 5, last + 1, 8, words{3}, frozenLeaf, leafAt1, api.ErrArg},
		{"a time of 0, a bad slot", 5, 0, 8, rootHead, frozenLeaf, words{12}, api.ErrArg},
		{"a time of 0, no leaf", 5, 0, 8, rootHead, frozenLeaf, words{}, api.ErrArg},
		{"no root, a bad slot", 5, 9, 8, leafHead, frozenLeaf, words{12}, api.ErrType},
		{"no root, no leaf", 5, 9, 8, leafHead, frozenLeaf, words{}, api.ErrType},
		{"no root, a leaf that is not frozen", 5, 9, 8, words{2}, leafHead, leafAt1, api.ErrType},
		{"a bad slot", 5, 9, 8, rootHead, leafHead, words{12}, api.ErrForm},
		{"an empty slot", 5, 9, 8, rootHead, leafHead, words{}, api.ErrNone},
		{"one that was", 5, 9, 0, rootHead, leafHead, words{1, 9}, api.ErrNone},
		{"lines", 5, 9, 8, rootHead, leafHead, words{11}, api.ErrNone},
		{"a table of mappings", 5, 9, 8, rootHead, frozenLeaf, words{4 + 1*512}, api.ErrNone},
		{"not frozen", 5, 9, 8, rootHead, leafHead, leafAt1, api.ErrBusy},
		{"frozen at floor", 5, 9, 7, rootHead, frozenLeaf, leafAt1, api.ErrBusy},
		{"frozen behind floor", 5, 9, 6, rootHead, frozenLeaf, leafAt1, api.ErrBusy},
		{"no table", 5, 9, 8, rootHead, words{3}, leafAt1, api.ErrBusy},
		{"no head", 5, 9, 8, rootHead, words{49, last + 1}, leafAt1, api.ErrBusy},
		{"a table of mappings' leaf", 5, 9, 8, rootHead, words{18}, leafAt1, api.ErrBusy},
		{"no frame", 5, 9, 8, rootHead, frozenLeaf, words{3 + 63*512}, api.ErrBusy},
		{"a root that is not frozen", 5, 9, 8, rootHead, rootHead, leafAt1, api.ErrBusy},
		{"a frozen root in it", 5, 9, 8, rootHead, frozenRoot, leafAt1, api.OK},
		{"frozen ahead of floor", 5, 9, 8, rootHead, frozenLeaf, leafAt1, api.OK},
		{"out of a frozen root", 5, 1, 8, frozenRoot, frozenLeaf, leafAt1, api.OK},
	} {
		all := blank(3)
		all.begin(0, c.root)
		all.begin(1, c.leaf)
		all.lay(0, 5, c.has)
		m := all.real(t)
		if e := decons(t, m, all, 0, c.high, c.now, c.floor); e != c.want {
			t.Errorf("%s: %d, not %d", c.name, e, c.want)
		}
		all.same(t, m, c.name)
	}
}

// Freeze changes the head's first two words alone, of a root as of a leaf.
func TestFreeze(t *testing.T) {
	for _, now := range []int{1, 2, 9, last - 1, last} {
		for _, f := range []int{0, 1} {
			all := plain()
			all.lay(1, 3, wordsOf(some))
			all.lay(1, 4, words{12, 12})
			m := all.real(t)
			if e := captbl.Freeze(m, f, now); e != api.OK {
				t.Fatalf("Freeze(%d, %d): %d", f, now, e)
			}
			all[f][0], all[f][1] = 33+16*uint64(f), uint64(now)
			all.same(t, m, "Freeze", f, now)
			for _, again := range []int{1, now, last} {
				if e := freeze(t, m, all, f, again); e != api.ErrUsed {
					t.Fatalf("Freeze again: %d", e)
				}
			}
			if e := freeze(t, m, all, f, 0); e != api.ErrArg {
				t.Fatalf("Freeze again at 0: %d", e)
			}
			all.same(t, m, "Freeze again", f, now)
		}
	}
	for _, h := range wrongHeads() {
		all := plain()
		copy(all[1][:], h[:])
		m := all.real(t)
		if e := freeze(t, m, all, 1, 9); e != api.ErrType {
			t.Fatalf("Freeze of %v: %d", h, e)
		}
		all.same(t, m, "Freeze", h)
	}
	all := plain()
	m := all.real(t)
	for _, f := range wrongFrames() {
		if e := freeze(t, m, all, f, 9); e != api.ErrType {
			t.Fatalf("Freeze(%d): %d", f, e)
		}
	}
	all.same(t, m, "Freeze")
}

// A leaf that hangs in two roots, and in one of them twice, is one leaf.
func TestLeafTwice(t *testing.T) {
	all := plain()
	m := all.real(t)
	for _, at := range [][2]int{{0, 9}, {3, 0}, {3, 15}} {
		if e := cons(t, m, all, at[0], at[1], 1, 0); e != api.OK {
			t.Fatalf("Cons(%v): %d", at, e)
		}
	}
	ways := [][2]int{{0, 32}, {0, 144}, {3, 0}, {3, 240}}
	now := 1
	for i := range 16 {
		for _, by := range ways {
			for _, to := range ways {
				c := api.Cap{K: api.CInv, R: i, A: now}
				if e := put(t, m, all, by[0], by[1]+i, c, now); e != api.OK {
					t.Fatalf("Put(%v): %d", by, e)
				}
				if got, e := captbl.Look(m, to[0], to[1]+i); got != c || e != api.OK {
					t.Fatalf("Look(%v): %v, %d", to, got, e)
				}
				if e := put(t, m, all, to[0], to[1]+i, c, now); e != api.ErrUsed {
					t.Fatalf("Put(%v): %d", to, e)
				}
				if got, e := captbl.Drop(m, to[0], to[1]+i, now); got != c || e != api.OK {
					t.Fatalf("Drop(%v): %v, %d", to, got, e)
				}
				all.lay(1, i, words{1, uint64(now)})
				if e := look(t, m, all, by[0], by[1]+i); e != api.ErrNone {
					t.Fatalf("Look(%v): %d", by, e)
				}
				if e := put(t, m, all, by[0], by[1]+i, c, now); e != api.ErrBusy {
					t.Fatalf("Put(%v) ahead: %d", by, e)
				}
				all.same(t, m, by, to)
				now++
			}
		}
	}
	// Frozen, it is so in each, and may be taken out of one after the other.
	if e := freeze(t, m, all, 1, now); e != api.OK {
		t.Fatalf("Freeze: %d", e)
	}
	for i, by := range ways {
		for j, to := range ways {
			want := api.ErrBusy
			if j < i {
				want = api.ErrNone
			}
			if e := put(t, m, all, to[0], to[1], some, now+1); e != want {
				t.Fatalf("Put(%v): %d", to, e)
			}
		}
		if e := decons(t, m, all, by[0], by[1]/16, now+1, now+1); e != api.OK {
			t.Fatalf("Decons(%v): %d", by, e)
		}
		all.same(t, m, "Decons", by)
	}
}

// A leaf's own slots may have tables; they are no part of the table.
func TestTableInLeaf(t *testing.T) {
	all := plain()
	m := all.real(t)
	for a, f := range map[int]int{32: 0, 33: 1, 34: 2, 35: 3, 36: 4, 37: 63} {
		c := api.Cap{K: api.CTbl, R: api.RAll, T: f}
		if e := put(t, m, all, 0, a, c, 0); e != api.OK {
			t.Fatalf("Put(%d): %d", a, e)
		}
		if got, e := captbl.Look(m, 0, a); got != c || e != api.OK {
			t.Fatalf("Look(%d): %v, %d", a, got, e)
		}
	}
	all.same(t, m, "Put")
	if e := look(t, m, all, 1, 35); e != api.ErrType {
		t.Errorf("Look of the leaf: %d", e)
	}
}

// The errors of the other calls in their order, by each state of root, slot, leaf and
// slot there, and by each argument: all of them against the model.
func TestAllStates(t *testing.T) {
	heads := []words{{}, rootHead, leafHead, frozenRoot, frozenLeaf, {2}, {18}, {3}, {7}, {1, 7}, {49, last + 1}, {49}, {49, last}}
	rootHas := []words{{}, {1, 5}, {3 + 16 + 1*512}, {3 + 31*16 + 0*512}, {3 + 2*512}, {3 + 63*512}, {4 + 1*512}, {11}, {12}, {3 + 1*512, 1}}
	leafHas := []words{{}, {1, 0}, {1, 5}, {1, last}, {11 + 16}, {3 + 1*512}, {7, last}, {12}, {1, last + 1}, {0, 1}}
	floors := []int{math.MinInt, 0, 5, 6, 7, 8, last, last + 1, math.MaxInt}
	times := []int{math.MinInt, 0, 1, 7, last, last + 1}
	all := blank(3)
	m := all.real(t)
	for _, rh := range heads {
		for _, rs := range rootHas {
			for _, lh := range heads {
				for _, ls := range leafHas {
					start := blank(3)
					start.begin(0, rh)
					start.lay(0, 2, rs)
					start.begin(1, lh)
					start.lay(1, 3, ls)
					// reset lets each call begin at the same state.
					reset := func() {
						copy(all, start)
						start.write(t, m)
					}
					reset()
					changed := func() {
						if !slices.Equal(all, start) {
							all.same(t, m, rh, rs, lh, ls)
							reset()
						}
					}
					for _, a := range []int{35, 36, 256} {
						for _, floor := range floors {
							room(t, m, all, 0, a, floor)
							put(t, m, all, 0, a, some, floor)
							changed()
						}
						put(t, m, all, 0, a, api.Cap{K: 1, A: 5}, 9)
						look(t, m, all, 0, a)
						for _, now := range times {
							drop(t, m, all, 0, a, now)
							changed()
						}
					}
					for _, high := range []int{2, 3, 16} {
						for _, floor := range floors {
							cons(t, m, all, 0, high, 1, floor)
							changed()
							decons(t, m, all, 0, high, 9, floor)
							changed()
						}
						for _, now := range times {
							decons(t, m, all, 0, high, now, 8)
							changed()
						}
					}
					for _, now := range times {
						freeze(t, m, all, 0, now)
						freeze(t, m, all, 1, now)
						changed()
					}
					all.same(t, m, rh, rs, lh, ls)
				}
			}
		}
	}
}

// chance is a row of numbers that looks like chance, and is the same each time.
type chance uint64

func (c *chance) below(n int) int {
	*c = *c*6364136223846793005 + 1442695040888963407
	return int(uint64(*c) >> 33 % uint64(n))
}

// Many calls in a row, on a few frames: answers and words are the model's, and so is what
// the chapter says follows from it.
func TestManyCalls(t *testing.T) {
	for seed := range 60 {
		many(t, chance(seed))
	}
}

func many(t *testing.T, c chance) {
	t.Helper()
	all := blank(6)
	m := all.real(t)
	for f := range 5 {
		level := min(f/2, 1)
		if got, want := captbl.Make(m, f, level), all.make(f, level); got != want {
			t.Fatalf("Make: %d", got)
		}
	}
	for now := 1; now < 1500; now++ {
		root, leaf := c.below(7), c.below(7)
		if c.below(4) > 0 {
			root, leaf = c.below(2), 2+c.below(3)
		}
		high := c.below(3)
		a := 16*high + c.below(4)
		floor := now - c.below(12)
		switch c.below(20) {
		case 0, 1, 2, 3, 4:
			put(t, m, all, root, a, api.Cap{K: api.CInv, R: c.below(32), A: now}, floor)
		case 5, 6, 7:
			look(t, m, all, root, a)
		case 8, 9, 10, 11:
			drop(t, m, all, root, a, now)
		case 12, 13, 14:
			cons(t, m, all, root, high, leaf, floor)
		case 15, 16:
			decons(t, m, all, root, high, now, floor)
		case 17:
			freeze(t, m, all, leaf, now)
		case 18:
			room(t, m, all, root, a, floor)
		case 19:
			// Frozen frames are made anew now and then, so that the row goes on.
			f := c.below(6)
			if got, want := captbl.Make(m, f, min(f/2, 1)), all.make(f, min(f/2, 1)); got != want {
				t.Fatalf("Make: %d", got)
			}
		}
		all.same(t, m, now)
	}
}

// What was dropped comes back only behind floor; till then nothing does.
func TestNothingAheadOfFloor(t *testing.T) {
	all := plain()
	m := all.real(t)
	for now := 1; now < 40; now++ {
		if e := put(t, m, all, 0, 35, some, now); e != api.OK {
			t.Fatalf("Put at %d: %d", now, e)
		}
		if e := drop(t, m, all, 0, 35, now); e != api.OK {
			t.Fatalf("Drop at %d: %d", now, e)
		}
		for floor := -1; floor <= now; floor++ {
			for _, c := range caps() {
				if e := put(t, m, all, 0, 35, c, floor); e != api.ErrBusy {
					t.Fatalf("Put behind %d for %d: %d", now, floor, e)
				}
			}
			if e := look(t, m, all, 0, 35); e != api.ErrNone {
				t.Fatalf("Look behind %d: %d", now, e)
			}
		}
		all.same(t, m, now)
	}
	// A leaf's place in its root is taken likewise.
	if e := freeze(t, m, all, 1, 50); e != api.OK {
		t.Fatalf("Freeze: %d", e)
	}
	if e := decons(t, m, all, 0, 2, 60, 51); e != api.OK {
		t.Fatalf("Decons: %d", e)
	}
	for floor := range 61 {
		if e := cons(t, m, all, 0, 2, 2, floor); e != api.ErrBusy {
			t.Fatalf("Cons for %d: %d", floor, e)
		}
	}
	if e := cons(t, m, all, 0, 2, 2, 61); e != api.OK {
		t.Fatalf("Cons: %d", e)
	}
	all.same(t, m, "Cons")
}

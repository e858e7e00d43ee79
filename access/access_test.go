package access_test

import (
	"math"
	"slices"
	"testing"

	"palanquin/access"
	"palanquin/api"
	"palanquin/mem"
	"palanquin/pgtbl"
	"palanquin/tlb"
)

// last is the greatest time.
const last = 1 << 30

type frame [36]uint64

// held is a mapping by its key.
type held struct {
	key api.Key
	pte api.Pte
}

// model is a model of a memory, and of what a core remembers, the oldest first: what the
// calls answer and change is held against it.
type model struct {
	words []frame
	room  int
	all   []held
}

// The first words of heads: of a table of mappings' root, and of its leaf.
const (
	rootHead = 2
	leafHead = 18
)

// on is the word of a mapping, by multiplying.
func on(f int, r int) uint64 { return uint64(1 + 2*f + 128*r) }

// off is the word of what was a mapping till then.
func off(time int) uint64 { return uint64(time) * 512 }

// to is a mapping.
func to(f int, r int) api.Pte { return api.Pte{On: true, F: f, R: r} }

// pteOf is the mapping that a word is of, by dividing, if it is one's.
func pteOf(w uint64) (api.Pte, bool) {
	f, r, time := int(w/2%64), int(w/128%4), int(w/512)
	switch {
	case w >= 1<<40:
		return api.Pte{}, false
	case w%2 == 1 && r > 0 && time == 0:
		return to(f, r), true
	case w%2 == 0 && f == 0 && r == 0 && time <= last:
		return api.Pte{Time: time}, true
	}
	return api.Pte{}, false
}

// level tells of which level a frame is as a table of mappings'; -1 if it is none.
func (d *model) level(f int) int {
	if f < 0 || f >= len(d.words) {
		return -1
	}
	switch [4]uint64(d.words[f][:4]) {
	case [4]uint64{rootHead}:
		return 0
	case [4]uint64{leafHead}:
		return 1
	}
	return -1
}

func (d *model) walk(root int, page int) (api.Pte, api.Errno) {
	if d.level(root) != 0 {
		return api.Pte{}, api.ErrType
	}
	leaf, ok := pteOf(d.words[root][4+page/32])
	if !ok || !leaf.On {
		return api.Pte{}, api.ErrFault
	}
	if d.level(leaf.F) != 1 {
		return api.Pte{}, api.ErrType
	}
	p, ok := pteOf(d.words[leaf.F][4+page%32])
	if !ok {
		return api.Pte{}, api.ErrForm
	}
	if !p.On {
		return api.Pte{}, api.ErrFault
	}
	return p, api.OK
}

// put remembers p by k.
func (d *model) put(k api.Key, p api.Pte) {
	for i := range d.all {
		if d.all[i].key == k {
			d.all[i].pte = p
			return
		}
	}
	d.all = append(d.all, held{k, p})
	if len(d.all) > d.room {
		d.all = d.all[1:]
	}
}

func (d *model) mapping(k api.Key) (api.Pte, api.Errno) {
	for _, one := range d.all {
		if one.key == k {
			return one.pte, api.OK
		}
	}
	p, e := d.walk(k.Space, k.Page)
	if e == api.OK {
		d.put(k, p)
	}
	return p, e
}

// allows tells whether p maps, with all the rights in r, bit by bit.
func allows(p api.Pte, r int) bool {
	if !p.On || p.F < 0 || p.F > 63 || p.R < 1 || p.R > 3 || p.Time != 0 {
		return false
	}
	switch r {
	case 0:
		return true
	case 1:
		return p.R == 1 || p.R == 3
	case 2:
		return p.R == 2 || p.R == 3
	case 3:
		return p.R == 3
	}
	return false
}

func (d *model) find(space int, a int, r int) (int, int, api.Errno) {
	if a < 0 || a > 32767 {
		return 0, 0, api.ErrArg
	}
	p, e := d.mapping(api.Key{Space: space, Page: a / 32})
	if e != api.OK {
		return 0, 0, e
	}
	if !allows(p, r) {
		return 0, 0, api.ErrPerm
	}
	return p.F, 4 + a%32, api.OK
}

// word is the one that is meant.
func (d *model) word(space int, a int, r int) (*uint64, api.Errno) {
	f, at, e := d.find(space, a, r)
	if e != api.OK {
		return nil, e
	}
	if f >= len(d.words) {
		return nil, api.ErrArg
	}
	return &d.words[f][at], api.OK
}

func (d *model) load(space int, a int) (uint64, api.Errno) {
	place, e := d.word(space, a, 1)
	if e != api.OK {
		return 0, e
	}
	return *place, api.OK
}

func (d *model) store(space int, a int, w uint64) api.Errno {
	place, e := d.word(space, a, 2)
	if e != api.OK {
		return e
	}
	*place = w
	return api.OK
}

// blank is a model of frames of which no two words are the same, and none is a head's or a
// mapping's.
func blank(frames int, room int) *model {
	d := &model{words: make([]frame, frames), room: room}
	for f := range d.words {
		for at := range d.words[f] {
			d.words[f][at] = 1<<40 + uint64(1000*f+at)
		}
	}
	return d
}

// begin makes frame f an empty one that begins with that word.
func (d *model) begin(f int, first uint64) { d.words[f] = frame{first} }

// lay makes w the word of entry i of frame f.
func (d *model) lay(f int, i int, w uint64) { d.words[f][4+i] = w }

// plain has the root 0, the leaf 1 that its entry 2 maps, the root 2 without a leaf, and the
// frames 3 to 5 of something else. The leaf's entries map, from the first on: nothing, frame
// 3 with each of the rights 1 to 3, nothing any more, frame 4 with all, frame 5 to be read,
// frame 6, which is not there, with all.
func plain(room int) *model {
	d := blank(6, room)
	d.begin(0, rootHead)
	d.begin(1, leafHead)
	d.begin(2, rootHead)
	d.lay(0, 2, on(1, 3))
	for i, w := range []uint64{0, on(3, 1), on(3, 2), on(3, 3), off(5), on(4, 3), on(5, 1), on(6, 3)} {
		d.lay(1, i, w)
	}
	return d
}

// address is that of a word of a page of the leaf of plain.
func address(entry int, at int) int { return 2*32*32 + entry*32 + at }

// machine is what the model is of.
type machine struct {
	m *mem.Mem
	u *tlb.Tlb
}

// real has the words of the model, and remembers what it does.
func (d *model) real(t *testing.T) machine {
	t.Helper()
	m, e := mem.New(len(d.words))
	if e != api.OK {
		t.Fatalf("New(%d): %d", len(d.words), e)
	}
	d.write(t, m)
	u, e := tlb.New(d.room)
	if e != api.OK {
		t.Fatalf("New(%d): %d", d.room, e)
	}
	for _, one := range d.all {
		u.Put(one.key, one.pte)
	}
	return machine{m, u}
}

// write makes the words of m those of the model.
func (d *model) write(t *testing.T, m *mem.Mem) {
	for f := range d.words {
		for at, w := range d.words[f] {
			if e := m.Store(f, at, w); e != api.OK {
				t.Fatalf("Store(%d, %d): %d", f, at, e)
			}
		}
	}
}

// same fails if the words, or what is remembered, are others than the model's.
func (d *model) same(t *testing.T, x machine, what ...any) {
	for f := range d.words {
		got, e := x.m.Words(f)
		if e != api.OK || !slices.Equal(got, d.words[f][:]) {
			t.Helper()
			t.Fatalf("%v: frame %d is %v, %d, not %v", what, f, got, e, d.words[f])
		}
	}
	d.remembered(t, x, what...)
}

// remembered fails if what is remembered is other than the model's.
func (d *model) remembered(t *testing.T, x machine, what ...any) {
	keys := x.u.Keys()
	if len(keys) != len(d.all) || x.u.Len() != len(d.all) {
		t.Helper()
		t.Fatalf("%v: %v are remembered, not %v", what, keys, d.all)
	}
	for i, one := range d.all {
		p, there := x.u.Get(one.key)
		if keys[i] != one.key || !there || p != one.pte {
			t.Helper()
			t.Fatalf("%v: %v is remembered as %v, %v, not %v", what, keys[i], p, there, one)
		}
	}
}

// flush lets both forget all.
func (d *model) flush(t *testing.T, x machine) {
	if n := x.u.Flush(); n != len(d.all) {
		t.Helper()
		t.Fatalf("Flush: %d, not %d", n, len(d.all))
	}
	d.all = nil
}

// set makes w the word of entry i of frame f in both, beside all calls.
func (d *model) set(t *testing.T, x machine, f int, i int, w uint64) {
	d.lay(f, i, w)
	if e := x.m.Store(f, 4+i, w); e != api.OK {
		t.Helper()
		t.Fatalf("Store(%d, %d): %d", f, 4+i, e)
	}
}

// Each of these calls both, and fails where the answers differ, or where there are others
// beside an error.

func find(t *testing.T, x machine, d *model, space int, a int, r int) api.Errno {
	f, at, e := access.Find(x.m, x.u, space, a, r)
	wantF, wantAt, want := d.find(space, a, r)
	if f != wantF || at != wantAt || e != want || e != api.OK && (f != 0 || at != 0) {
		t.Helper()
		t.Fatalf("Find(%d, %d, %d): %d, %d, %d, not %d, %d, %d", space, a, r, f, at, e, wantF, wantAt, want)
	}
	return e
}

func load(t *testing.T, x machine, d *model, space int, a int) api.Errno {
	w, e := access.Load(x.m, x.u, space, a)
	wantW, want := d.load(space, a)
	if w != wantW || e != want || e != api.OK && w != 0 {
		t.Helper()
		t.Fatalf("Load(%d, %d): %d, %d, not %d, %d", space, a, w, e, wantW, want)
	}
	return e
}

func store(t *testing.T, x machine, d *model, space int, a int, w uint64) api.Errno {
	e, want := access.Store(x.m, x.u, space, a, w), d.store(space, a, w)
	if e != want {
		t.Helper()
		t.Fatalf("Store(%d, %d, %d): %d, not %d", space, a, w, e, want)
	}
	return e
}

// outside are numbers that lie behind every range. Some of them, cut to fewer bits, come back
// into one.
func outside() []int {
	in := address(3, 9)
	out := []int{
		math.MinInt, math.MinInt + 1, math.MinInt + in, math.MaxInt - 1, math.MaxInt,
		-1<<32 + in, -65536, -32769, -32768, -32767, -32768 + in, -1024, -64, -33, -32, -31, -4, -3, -2, -1,
		last, last + 1, last + in,
	}
	for bit := 31; bit < 63; bit++ {
		out = append(out, 1<<bit, 1<<bit+in, -1<<bit, -1<<bit+in)
	}
	return out
}

func wrongAddresses() []int {
	return append(outside(), 32768, 32769, 32800, 32768+address(3, 9), 65535, 65536, 1<<20+address(3, 9))
}

func wrongFrames() []int { return append(outside(), 6, 7, 64, 65, 128, 256, 32768) }

func wrongRights() []int {
	return append(outside(), 4, 5, 6, 7, 8, 9, 16, 31, 128, 131, 256, 257, 1<<20, 1<<20+3)
}

// wrongHeads are the first four words of frames that are neither a root nor a leaf.
func wrongHeads() [][4]uint64 {
	return [][4]uint64{
		{}, {1}, {17}, {33, 7}, {49, 7}, {3}, {4}, {5}, {6}, {7}, {10}, {16}, {19}, {34}, {50, 7}, {66},
		{18 | 1<<32}, {2 | 1<<63}, {2, 7}, {18, 7}, {2, 1 << 32}, {2, 0, 1}, {18, 0, 0, 1}, {2, 0, 0, 1 << 63},
		{math.MaxUint64, math.MaxUint64, math.MaxUint64, math.MaxUint64},
	}
}

// wrongWords are those that are no mapping's. Some begin as one's of frame 1.
func wrongWords() []uint64 {
	return []uint64{
		1, 3, 127, 2, 126, 128, 384, 386, on(1, 3) + off(1), on(1, 3) + off(last), on(1, 3) + 1<<40, on(1, 3) + 1<<63,
		off(5) + 2, off(5) + 128, off(last + 1), off(1<<31 - 1), 1 << 40, 1<<40 + off(5), 1 << 63, 1<<40 - 1,
		math.MaxUint64, math.MaxUint64 &^ 511,
	}
}

// wrongMappings can't be, or map nothing: only what is put beside all calls is remembered so.
func wrongMappings() []api.Pte {
	return []api.Pte{
		{},
		{Time: 5},
		{Time: last},
		{F: 3, R: 3},
		{F: 3, R: 3, Time: 5},
		{On: true},
		{On: true, F: 3},
		{On: true, F: 3, R: 4},
		{On: true, F: 3, R: 7},
		{On: true, F: 3, R: 31},
		{On: true, F: 3, R: -1},
		{On: true, F: 3, R: math.MaxInt},
		{On: true, F: 3, R: math.MinInt},
		{On: true, F: 3, R: 3, Time: 1},
		{On: true, F: 3, R: 3, Time: -1},
		{On: true, F: -1, R: 3},
		{On: true, F: 64, R: 3},
		{On: true, F: math.MaxInt, R: 3},
		{On: true, F: math.MinInt, R: 3},
	}
}

func TestExample(t *testing.T) {
	m, _ := mem.New(2)
	u, _ := tlb.New(2)
	pgtbl.Make(m, 0, 0)
	for leaf := range 2 { // without a leaf, and with an empty one
		for _, a := range []int{0, 1, 31, 32, 2048, 32767} {
			if f, at, e := access.Find(m, u, 0, a, 1); f != 0 || at != 0 || e != 9 {
				t.Errorf("Find(%d): %d, %d, %d", a, f, at, e)
			}
			if w, e := access.Load(m, u, 0, a); w != 0 || e != 9 {
				t.Errorf("Load(%d): %d, %d", a, w, e)
			}
			if e := access.Store(m, u, 0, a, 7); e != 9 {
				t.Errorf("Store(%d): %d", a, e)
			}
		}
		if leaf == 0 {
			pgtbl.Make(m, 1, 1)
			for high := range 32 {
				pgtbl.Cons(m, 0, high, 1, 0)
			}
		}
	}
	if u.Len() != 0 {
		t.Errorf("%d are remembered", u.Len())
	}
}

// The chapter gives the errors by their numbers, and where the words lie.
func TestNumbers(t *testing.T) {
	x := plain(8).real(t)
	type answer struct {
		f  int
		at int
		e  api.Errno
	}
	of := func(f int, at int, e api.Errno) answer { return answer{f, at, e} }
	for _, c := range []struct {
		name string
		got  answer
		want answer
	}{
		{"the first word", of(access.Find(x.m, x.u, 0, 2048+3*32, 3)), answer{3, 4, 0}},
		{"the last word", of(access.Find(x.m, x.u, 0, 2048+3*32+31, 3)), answer{3, 35, 0}},
		{"another page", of(access.Find(x.m, x.u, 0, 2048+5*32+9, 2)), answer{4, 13, 0}},
		{"a frame that is not there", of(access.Find(x.m, x.u, 0, 2048+7*32+9, 2)), answer{6, 13, 0}},
		{"without a right for it", of(access.Find(x.m, x.u, 0, 2048+6*32, 2)), answer{0, 0, 5}},
		{"an address behind", of(access.Find(x.m, x.u, 0, 32768, 1)), answer{0, 0, 1}},
		{"an address below", of(access.Find(x.m, x.u, 0, -1, 1)), answer{0, 0, 1}},
		{"a leaf as a space", of(access.Find(x.m, x.u, 1, 2048+3*32, 1)), answer{0, 0, 4}},
		{"no leaf there", of(access.Find(x.m, x.u, 0, 0, 1)), answer{0, 0, 9}},
		{"no page there", of(access.Find(x.m, x.u, 0, 2048, 1)), answer{0, 0, 9}},
		{"no memory", of(access.Find(nil, x.u, 0, 2048, 1)), answer{0, 0, 13}},
		{"nothing to remember in", of(access.Find(x.m, nil, 0, 2048, 1)), answer{0, 0, 13}},
	} {
		if c.got != c.want {
			t.Errorf("%s: %v, not %v", c.name, c.got, c.want)
		}
	}
	if e := access.Store(x.m, x.u, 0, 2048+5*32+9, 77); e != 0 {
		t.Errorf("Store: %d", e)
	}
	if w, e := x.m.Load(4, 13); w != 77 || e != 0 {
		t.Errorf("behind Store: %d, %d", w, e)
	}
	if w, e := access.Load(x.m, x.u, 0, 2048+5*32+9); w != 77 || e != 0 {
		t.Errorf("Load: %d, %d", w, e)
	}
	if w, e := access.Load(x.m, x.u, 0, 2048+7*32); w != 0 || e != 1 {
		t.Errorf("Load where no frame is: %d, %d", w, e)
	}
	if e := access.Store(x.m, x.u, 0, 2048+7*32, 7); e != 1 {
		t.Errorf("Store where no frame is: %d", e)
	}
	x.m.Store(1, 4, 1)
	if w, e := access.Load(x.m, x.u, 0, 2048); w != 0 || e != 12 {
		t.Errorf("Load by a bad word: %d, %d", w, e)
	}
}

// Of a memory or a tlb that is nil, or that no call made, ErrZero is told ahead of all else,
// also if the mapping is remembered.
func TestNothingMade(t *testing.T) {
	d := plain(8)
	for page := range 8 {
		d.put(api.Key{Page: 64 + page}, to(3, 3))
	}
	x := d.real(t)
	memories := []*mem.Mem{x.m, nil, {}}
	tlbs := []*tlb.Tlb{x.u, nil, {}}
	for i, m := range memories {
		for j, u := range tlbs {
			if i == 0 && j == 0 {
				continue
			}
			for _, space := range []int{0, 1, 3, -1, 6, math.MinInt, math.MaxInt} {
				for _, a := range []int{0, address(1, 0), address(3, 9), 32767, 32768, -1, math.MinInt, math.MaxInt} {
					for _, r := range []int{0, 1, 2, 3, 4, -1} {
						if f, at, e := access.Find(m, u, space, a, r); f != 0 || at != 0 || e != api.ErrZero {
							t.Fatalf("%d, %d: Find(%d, %d, %d): %d, %d, %d", i, j, space, a, r, f, at, e)
						}
					}
					if w, e := access.Load(m, u, space, a); w != 0 || e != api.ErrZero {
						t.Fatalf("%d, %d: Load(%d, %d): %d, %d", i, j, space, a, w, e)
					}
					if e := access.Store(m, u, space, a, 7); e != api.ErrZero {
						t.Fatalf("%d, %d: Store(%d, %d): %d", i, j, space, a, e)
					}
				}
			}
			d.same(t, x, i, j)
		}
	}
	if memories[2].Len() != 0 || tlbs[2].Made() {
		t.Error("one was made")
	}
}

// full is a model with a root in frame 32, 32 leaves ahead of it, and every page mapped to one
// of the frames behind it, with all rights.
func full(room int) *model {
	d := blank(64, room)
	d.begin(32, rootHead)
	for leaf := range 32 {
		d.begin(leaf, leafHead)
		d.lay(32, 31-leaf, on(leaf, 3))
	}
	for page := range 1024 {
		d.lay(31-page/32, page%32, on(33+page%31, 3))
	}
	return d
}

// Every address is one word of the frame that its page maps.
func TestEveryAddress(t *testing.T) {
	for _, room := range []int{0, 1, 8} {
		d := full(room)
		x := d.real(t)
		for a := range 32768 {
			page := a / 32
			f, at, e := access.Find(x.m, x.u, 32, a, 1+a%3)
			if f != 33+page%31 || at != 4+a%32 || e != api.OK {
				t.Fatalf("Find(%d): %d, %d, %d", a, f, at, e)
			}
			d.find(32, a, 1+a%3)
			d.remembered(t, x, a)
		}
		d.same(t, x, "Find")
	}
}

// What is stored is loaded, at every address, and no other word changes.
func TestStoredIsLoaded(t *testing.T) {
	d := full(8)
	x := d.real(t)
	for a := range 32768 {
		w := uint64(a) * 0x9e3779b97f4a7c15
		if e := access.Store(x.m, x.u, 32, a, w); e != api.OK {
			t.Fatalf("Store(%d): %d", a, e)
		}
		if got, e := access.Load(x.m, x.u, 32, a); got != w || e != api.OK {
			t.Fatalf("Load(%d): %d, %d, not %d", a, got, e, w)
		}
		d.store(32, a, w)
		if a%16 == 0 || a%32 == 31 {
			d.same(t, x, a)
		}
	}
}

// Every word is stored as it is, the heads' and mappings' among them.
func TestWords(t *testing.T) {
	d := plain(2)
	x := d.real(t)
	for _, w := range append(wrongWords(), 0, 1, 2, 18, on(3, 3), off(5), 1<<63-1, 1<<63, math.MaxUint64-1, math.MaxUint64) {
		for _, at := range []int{0, 1, 16, 30, 31} {
			if e := store(t, x, d, 0, address(5, at), w); e != api.OK {
				t.Fatalf("Store(%d): %d", w, e)
			}
			if got, e := access.Load(x.m, x.u, 0, address(5, at)); got != w || e != api.OK {
				t.Fatalf("Load of %d: %d, %d", w, got, e)
			}
			d.same(t, x, w, at)
		}
	}
}

// An address that can't be is refused, also if something is remembered of what it would be
// cut to, or of the page that it would have.
func TestWrongAddresses(t *testing.T) {
	for _, a := range wrongAddresses() {
		d := plain(8)
		for _, k := range []api.Key{{Page: a / 32}, {Page: a >> 5}, {Page: a}, {Page: 67}, {Page: 0}, {Page: 1023}, {Page: -1}} {
			d.put(k, to(3, 3))
		}
		x := d.real(t)
		for _, space := range append(outside(), 0, 1, 2, 3, 6) {
			for _, r := range []int{0, 1, 2, 3, 4, -1} {
				if e := find(t, x, d, space, a, r); e != api.ErrArg {
					t.Fatalf("Find(%d, %d, %d): %d", space, a, r, e)
				}
			}
			if e := load(t, x, d, space, a); e != api.ErrArg {
				t.Fatalf("Load(%d, %d): %d", space, a, e)
			}
			if e := store(t, x, d, space, a, 7); e != api.ErrArg {
				t.Fatalf("Store(%d, %d): %d", space, a, e)
			}
		}
		d.same(t, x, a)
	}
}

// every makes all three calls at an address, with all rights, and fails if one of them
// answers another error than want.
func every(t *testing.T, x machine, d *model, space int, a int, want api.Errno) {
	t.Helper()
	for r := range 4 {
		if e := find(t, x, d, space, a, r); e != want {
			t.Fatalf("Find(%d, %d, %d): %d, not %d", space, a, r, e, want)
		}
	}
	if e := load(t, x, d, space, a); e != want {
		t.Fatalf("Load(%d, %d): %d, not %d", space, a, e, want)
	}
	if e := store(t, x, d, space, a, 7); e != want {
		t.Fatalf("Store(%d, %d): %d, not %d", space, a, e, want)
	}
	d.same(t, x, space, a)
}

// A space that is no root, and nothing is remembered of: ErrType, and nothing is then.
func TestWrongSpaces(t *testing.T) {
	addresses := []int{0, 31, address(0, 0), address(3, 9), address(4, 0), 32767}
	for _, room := range []int{0, 1, 8} {
		d := plain(room)
		d.put(api.Key{Page: 67}, to(3, 3))
		x := d.real(t)
		for _, space := range append(wrongFrames(), 1, 3, 4, 5) {
			for _, a := range addresses {
				every(t, x, d, space, a, api.ErrType)
			}
		}
		for _, h := range append(wrongHeads(), [4]uint64{leafHead}) {
			d := plain(room)
			copy(d.words[0][:], h[:])
			x := d.real(t)
			for _, a := range addresses {
				every(t, x, d, 0, a, api.ErrType)
			}
		}
	}
}

// A space that is no root, or no frame, is one as long as something is remembered of it.
func TestRememberedSpaces(t *testing.T) {
	for _, space := range append(wrongFrames(), 1, 2, 3, 4, 5) {
		d := plain(2)
		d.put(api.Key{Space: space, Page: 67}, to(3, 3))
		x := d.real(t)
		every(t, x, d, space, address(3, 9), api.OK)
		if f, at, e := access.Find(x.m, x.u, space, address(3, 9), 3); f != 3 || at != 13 || e != api.OK {
			t.Fatalf("Find(%d): %d, %d, %d", space, f, at, e)
		}
		want := api.ErrType
		if space == 2 {
			want = api.ErrFault
		}
		every(t, x, d, space, address(2, 31), want)
		every(t, x, d, space, address(4, 0), want)
	}
}

// A leaf that is none, an entry that maps nothing, words that can't be read: Walk's error, and
// nothing is remembered.
func TestFaults(t *testing.T) {
	for _, room := range []int{0, 1, 8} {
		begin := func() *model {
			d := plain(room)
			d.put(api.Key{Page: 65}, to(4, 3))
			return d
		}
		a := address(3, 9)
		for _, w := range append(wrongWords(), 0, off(1), off(5), off(last)) {
			d := begin()
			d.lay(0, 2, w)
			every(t, d.real(t), d, 0, a, api.ErrFault)
			d = begin()
			d.lay(1, 3, w)
			want := api.ErrForm
			if _, ok := pteOf(w); ok {
				want = api.ErrFault
			}
			every(t, d.real(t), d, 0, a, want)
		}
		for _, h := range append(wrongHeads(), [4]uint64{rootHead}) {
			d := begin()
			copy(d.words[1][:], h[:])
			every(t, d.real(t), d, 0, a, api.ErrType)
		}
		for _, leaf := range []int{0, 2, 3, 5, 6, 63} {
			d := begin()
			d.lay(0, 2, on(leaf, 3))
			every(t, d.real(t), d, 0, a, api.ErrType)
		}
	}
}

// The root's entry counts whatever rights it has: the page's own are asked alone.
func TestRightsOfTheRoot(t *testing.T) {
	for rootR := 1; rootR <= 3; rootR++ {
		d := plain(1)
		d.lay(0, 2, on(1, rootR))
		x := d.real(t)
		every(t, x, d, 0, address(3, 9), api.OK)
	}
}

// Rights that the mapping has are allowed, all others not; it is remembered in either case.
func TestRights(t *testing.T) {
	rights := append(wrongRights(), 0, 1, 2, 3)
	for _, room := range []int{0, 1, 8} {
		for has := 1; has <= 3; has++ {
			for _, r := range rights {
				d := plain(room)
				x := d.real(t)
				want := api.ErrPerm
				if r >= 0 && r <= 3 && r&has == r {
					want = api.OK
				}
				for range 2 { // walked to, and remembered
					if e := find(t, x, d, 0, address(has, 9), r); e != want {
						t.Fatalf("Find of %d with %d: %d, not %d", has, r, e, want)
					}
					d.same(t, x, has, r)
				}
				if x.u.Len() != min(room, 1) {
					t.Fatalf("%d are remembered", x.u.Len())
				}
			}
		}
	}
}

// Reading needs the right to read, writing that to write, and neither the other's.
func TestReadingAndWriting(t *testing.T) {
	for _, room := range []int{0, 1, 8} {
		for has := 1; has <= 3; has++ {
			loads, stores := api.OK, api.OK
			if has == 2 {
				loads = api.ErrPerm
			}
			if has == 1 {
				stores = api.ErrPerm
			}
			for _, first := range []bool{true, false} {
				d := plain(room)
				x := d.real(t)
				for i := range 4 {
					if first == (i%2 == 0) {
						if e := load(t, x, d, 0, address(has, 9)); e != loads {
							t.Fatalf("Load of %d: %d", has, e)
						}
					} else if e := store(t, x, d, 0, address(has, 9), 7); e != stores {
						t.Fatalf("Store of %d: %d", has, e)
					}
					d.same(t, x, has, i)
				}
			}
		}
	}
}

// An access that is refused for its rights remembers what was walked to: the next one goes by
// that, also when the table gives more by then.
func TestRefusedIsRemembered(t *testing.T) {
	for _, by := range []string{"Find", "Load", "Store"} {
		d := plain(2)
		x := d.real(t)
		entry, refused := 1, func() api.Errno { return store(t, x, d, 0, address(1, 9), 7) }
		switch by {
		case "Find":
			refused = func() api.Errno { return find(t, x, d, 0, address(1, 9), 3) }
		case "Load":
			entry, refused = 2, func() api.Errno { return load(t, x, d, 0, address(2, 9)) }
		}
		if e := refused(); e != api.ErrPerm {
			t.Fatalf("%s: %d", by, e)
		}
		if p, there := x.u.Get(api.Key{Page: 64 + entry}); p != to(3, entry) || !there || x.u.Len() != 1 {
			t.Fatalf("%s: %v, %v is remembered", by, p, there)
		}
		d.same(t, x, by)
		d.set(t, x, 1, entry, on(3, 3))
		if e := refused(); e != api.ErrPerm {
			t.Fatalf("%s again: %d", by, e)
		}
		d.flush(t, x)
		if e := refused(); e != api.OK {
			t.Fatalf("%s behind a flush: %d", by, e)
		}
		d.same(t, x, by)
	}
}

// With no room nothing is remembered: every access goes by the table.
func TestNoRoom(t *testing.T) {
	d := plain(0)
	x := d.real(t)
	for _, w := range []uint64{on(3, 3), on(4, 1), on(4, 2), 0, off(9), 1, on(6, 3), on(5, 3)} {
		d.set(t, x, 1, 3, w)
		for r := range 4 {
			find(t, x, d, 0, address(3, 9), r)
		}
		load(t, x, d, 0, address(3, 9))
		store(t, x, d, 0, address(3, 9), w+3)
		load(t, x, d, 0, address(3, 9))
		d.same(t, x, w)
		if x.u.Len() != 0 {
			t.Fatalf("%d are remembered", x.u.Len())
		}
	}
}

// With room for one the last page that was walked to is remembered; all words of it are by
// the same mapping.
func TestRoomForOne(t *testing.T) {
	d := plain(1)
	x := d.real(t)
	for i, entry := range []int{3, 5, 3, 3, 5, 1, 3} {
		if e := load(t, x, d, 0, address(entry, i)); e != api.OK {
			t.Fatalf("Load of %d: %d", entry, e)
		}
		if keys := x.u.Keys(); !slices.Equal(keys, []api.Key{{Page: 64 + entry}}) {
			t.Fatalf("%v are remembered", keys)
		}
		d.same(t, x, entry)
	}
	// What faults, or is no address, pushes nothing out.
	for _, a := range []int{address(0, 0), address(4, 0), 0, -1, 32768} {
		load(t, x, d, 0, a)
		store(t, x, d, 0, a, 7)
		find(t, x, d, 0, a, 1)
		if keys := x.u.Keys(); !slices.Equal(keys, []api.Key{{Page: 67}}) {
			t.Fatalf("behind %d: %v are remembered", a, keys)
		}
	}
	// The table changes: the other words of the page are by what is remembered, too.
	d.set(t, x, 1, 3, on(4, 1))
	for at := range 32 {
		if f, word, e := access.Find(x.m, x.u, 0, address(3, at), 3); f != 3 || word != 4+at || e != api.OK {
			t.Fatalf("Find of %d: %d, %d, %d", at, f, word, e)
		}
	}
	load(t, x, d, 0, address(5, 0))
	if e := store(t, x, d, 0, address(3, 0), 7); e != api.ErrPerm {
		t.Fatalf("Store by the table: %d", e)
	}
	d.same(t, x, "pushed out")
}

// In a full one the oldest is forgotten; being used makes none younger.
func TestFull(t *testing.T) {
	for room := 1; room <= 8; room++ {
		d := full(room)
		x := d.real(t)
		for page := range room {
			load(t, x, d, 32, 32*page)
		}
		for range 3 {
			load(t, x, d, 32, 5) // the oldest, again
			store(t, x, d, 32, 6, 7)
			find(t, x, d, 32, 7, 3)
		}
		if x.u.Len() != room {
			t.Fatalf("%d of %d", x.u.Len(), room)
		}
		for page := room; page < 3*room; page++ {
			load(t, x, d, 32, 32*page)
			d.remembered(t, x, page)
			keys := x.u.Keys()
			if keys[0] != (api.Key{Space: 32, Page: page - room + 1}) || keys[room-1] != (api.Key{Space: 32, Page: page}) {
				t.Fatalf("room %d: %v", room, keys)
			}
		}
		d.same(t, x, room)
	}
}

// What is remembered is used still when the table has changed, in whatever way, and is not any
// more behind a flush.
func TestRememberedStill(t *testing.T) {
	clears := func(f int) func(*testing.T, machine, *model) {
		return func(t *testing.T, x machine, d *model) {
			d.words[f] = frame{}
			if e := x.m.Clear(f); e != api.OK {
				t.Fatalf("Clear(%d): %d", f, e)
			}
		}
	}
	for _, c := range []struct {
		name   string
		change func(*testing.T, machine, *model)
		want   api.Errno // of Store, behind a flush
	}{
		{"nothing", func(*testing.T, machine, *model) {}, api.OK},
		{"Unmap", func(t *testing.T, x machine, d *model) {
			if _, e := pgtbl.Unmap(x.m, 0, 67, 9); e != api.OK {
				t.Fatalf("Unmap: %d", e)
			}
			d.lay(1, 3, off(9))
		}, api.ErrFault},
		{"Decons", func(t *testing.T, x machine, d *model) {
			if _, e := pgtbl.Decons(x.m, 0, 2, 9); e != api.OK {
				t.Fatalf("Decons: %d", e)
			}
			d.lay(0, 2, off(9))
		}, api.ErrFault},
		{"a leaf that is a root", func(t *testing.T, x machine, d *model) {
			if e := pgtbl.Make(x.m, 1, 0); e != api.OK {
				t.Fatalf("Make: %d", e)
			}
			d.begin(1, rootHead)
		}, api.ErrType},
		{"an empty root", func(t *testing.T, x machine, d *model) {
			if e := pgtbl.Make(x.m, 0, 0); e != api.OK {
				t.Fatalf("Make: %d", e)
			}
			d.begin(0, rootHead)
		}, api.ErrFault},
		{"no root", clears(0), api.ErrType},
		{"no leaf", clears(1), api.ErrType},
		{"a bad word", func(t *testing.T, x machine, d *model) { d.set(t, x, 1, 3, 1) }, api.ErrForm},
		{"fewer rights", func(t *testing.T, x machine, d *model) { d.set(t, x, 1, 3, on(3, 1)) }, api.ErrPerm},
		{"another frame", func(t *testing.T, x machine, d *model) { d.set(t, x, 1, 3, on(4, 3)) }, api.OK},
		{"a frame that is not there", func(t *testing.T, x machine, d *model) { d.set(t, x, 1, 3, on(63, 3)) }, api.ErrArg},
	} {
		d := plain(3)
		x := d.real(t)
		find(t, x, d, 0, address(3, 0), 0)
		c.change(t, x, d)
		for at := range 32 {
			if e := store(t, x, d, 0, address(3, at), uint64(at)); e != api.OK {
				t.Fatalf("%s: Store: %d", c.name, e)
			}
			if w, e := x.m.Load(3, 4+at); w != uint64(at) || e != api.OK {
				t.Fatalf("%s: frame 3: %d, %d", c.name, w, e)
			}
			if e := load(t, x, d, 0, address(3, at)); e != api.OK {
				t.Fatalf("%s: Load: %d", c.name, e)
			}
		}
		d.same(t, x, c.name)
		d.flush(t, x)
		if e := store(t, x, d, 0, address(3, 9), 77); e != c.want {
			t.Fatalf("%s: Store behind a flush: %d, not %d", c.name, e, c.want)
		}
		load(t, x, d, 0, address(3, 9))
		for r := range 4 {
			find(t, x, d, 0, address(3, 9), r)
		}
		d.same(t, x, c.name)
	}
}

// What is remembered is used even if it can't be, or maps nothing: then it allows nothing, and
// the table is not asked.
func TestRememberedWrong(t *testing.T) {
	for _, p := range wrongMappings() {
		d := plain(2)
		d.put(api.Key{Page: 67}, p)
		x := d.real(t)
		every(t, x, d, 0, address(3, 9), api.ErrPerm)
		for _, r := range wrongRights() {
			if e := find(t, x, d, 0, address(3, 9), r); e != api.ErrPerm {
				t.Fatalf("Find of %v with %d: %d", p, r, e)
			}
		}
		d.same(t, x, p)
		d.flush(t, x)
		every(t, x, d, 0, address(3, 9), api.OK)
	}
}

// A mapping's frame need not be there for it to be found; who goes there is refused, and the
// mapping is remembered.
func TestNoSuchFrame(t *testing.T) {
	for f := 6; f < 64; f++ {
		for r := 1; r <= 3; r++ {
			d := plain(1)
			d.lay(1, 3, on(f, r))
			x := d.real(t)
			if got, at, e := access.Find(x.m, x.u, 0, address(3, 9), r); got != f || at != 13 || e != api.OK {
				t.Fatalf("Find of %d: %d, %d, %d", f, got, at, e)
			}
			x.u.Flush()
			loads, stores := api.ErrArg, api.ErrArg
			if r == 2 {
				loads = api.ErrPerm
			}
			if r == 1 {
				stores = api.ErrPerm
			}
			for range 2 {
				if e := load(t, x, d, 0, address(3, 9)); e != loads {
					t.Fatalf("Load of %d: %d", f, e)
				}
				if e := store(t, x, d, 0, address(3, 9), 7); e != stores {
					t.Fatalf("Store of %d: %d", f, e)
				}
				d.same(t, x, f, r)
			}
			if p, there := x.u.Get(api.Key{Page: 67}); p != to(f, r) || !there {
				t.Fatalf("%v, %v is remembered", p, there)
			}
		}
	}
}

// Each error of an access, alone and beside those behind it.
func TestOrder(t *testing.T) {
	root, leaf := uint64(rootHead), uint64(leafHead)
	for _, c := range []struct {
		name   string
		root   uint64
		has    uint64 // of the root's entry 2
		leaf   uint64
		low    uint64 // of the leaf's entry 3
		a      int
		r      int
		finds  api.Errno
		stores api.Errno
	}{
		{"an address behind, no root", 0, 0, 0, 0, 32768, 4, api.ErrArg, api.ErrArg},
		{"an address below, an empty entry", root, 0, 0, 0, -1, 4, api.ErrArg, api.ErrArg},
		{"an address behind, no leaf", root, on(1, 3), root, 0, math.MaxInt, 4, api.ErrArg, api.ErrArg},
		{"an address below, a bad word", root, on(1, 3), leaf, 1, math.MinInt, 4, api.ErrArg, api.ErrArg},
		{"no root, an empty entry, no right", leaf, 0, root, 0, address(3, 9), 4, api.ErrType, api.ErrType},
		{"no root, a bad entry", 1, 1, leaf, on(3, 1), address(3, 9), 4, api.ErrType, api.ErrType},
		{"an empty entry, no leaf", root, 0, root, 1, address(3, 9), 4, api.ErrFault, api.ErrFault},
		{"a bad entry, a bad word", root, 1, leaf, 1, address(3, 9), 4, api.ErrFault, api.ErrFault},
		{"no leaf, a bad word", root, on(1, 3), root, 1, address(3, 9), 4, api.ErrType, api.ErrType},
		{"no leaf, no page", root, on(1, 3), 17, 0, address(3, 9), 4, api.ErrType, api.ErrType},
		{"no leaf, a page without the right", root, on(1, 3), 3, on(63, 1), address(3, 9), 4, api.ErrType, api.ErrType},
		{"a bad word, no right", root, on(1, 3), leaf, on(3, 1) + off(1), address(3, 9), 4, api.ErrForm, api.ErrForm},
		{"no page, no right", root, on(1, 3), leaf, off(5), address(3, 9), 4, api.ErrFault, api.ErrFault},
		{"without the right, no frame", root, on(1, 3), leaf, on(63, 1), address(3, 9), 2, api.ErrPerm, api.ErrPerm},
		{"without the right", root, on(1, 3), leaf, on(3, 1), address(3, 9), 3, api.ErrPerm, api.ErrPerm},
		{"with the right to write", root, on(1, 3), leaf, on(3, 2), address(3, 9), 1, api.ErrPerm, api.OK},
		{"no frame", root, on(1, 3), leaf, on(63, 2), address(3, 9), 2, api.OK, api.ErrArg},
		{"a frame", root, on(1, 3), leaf, on(5, 3), address(3, 9), 3, api.OK, api.OK},
	} {
		for _, room := range []int{0, 1, 8} {
			for _, storesFirst := range []bool{false, true} {
				d := plain(room)
				d.begin(0, c.root)
				d.begin(1, c.leaf)
				d.lay(0, 2, c.has)
				d.lay(1, 3, c.low)
				x := d.real(t)
				stores := func() {
					if e := store(t, x, d, 0, c.a, 7); e != c.stores {
						t.Errorf("%s: Store: %d, not %d", c.name, e, c.stores)
					}
					d.same(t, x, c.name)
				}
				if storesFirst {
					stores()
				}
				if e := find(t, x, d, 0, c.a, c.r); e != c.finds {
					t.Errorf("%s: Find: %d, not %d", c.name, e, c.finds)
				}
				d.same(t, x, c.name)
				stores()
			}
		}
	}
}

// The same page of two spaces is two, by what is remembered as by the table.
func TestTwoSpaces(t *testing.T) {
	for room := range 4 {
		d := plain(room)
		d.begin(5, leafHead)
		d.lay(2, 2, on(5, 3))
		d.lay(5, 3, on(4, 3))
		x := d.real(t)
		for i := range 6 {
			for _, space := range []int{0, 2} {
				w := uint64(10*i + space)
				if e := store(t, x, d, space, address(3, i), w); e != api.OK {
					t.Fatalf("Store of %d: %d", space, e)
				}
				if got, e := x.m.Load(3+space/2, 4+i); got != w || e != api.OK {
					t.Fatalf("%d: %d, %d", space, got, e)
				}
				load(t, x, d, 2-space, address(3, i))
				d.same(t, x, i, space)
			}
		}
	}
}

// Two cores remember each for itself, and share the memory.
func TestTwoCores(t *testing.T) {
	d := plain(2)
	x := d.real(t)
	other := *d
	y := machine{x.m, other.real(t).u}
	find(t, x, d, 0, address(3, 0), 1)
	if y.u.Len() != 0 {
		t.Fatalf("the other remembers %v", y.u.Keys())
	}
	d.set(t, x, 1, 3, on(4, 3)) // the models share the words, as the cores do
	for i := range 4 {
		if e := store(t, x, d, 0, address(3, i), 70); e != api.OK {
			t.Fatalf("Store: %d", e)
		}
		if e := store(t, y, &other, 0, address(3, i), 80); e != api.OK {
			t.Fatalf("Store of the other: %d", e)
		}
		one, _ := x.m.Load(3, 4+i)
		two, _ := x.m.Load(4, 4+i)
		if one != 70 || two != 80 {
			t.Fatalf("%d, %d", one, two)
		}
		d.same(t, x, i)
		other.same(t, y, i)
	}
	d.flush(t, x)
	if e := load(t, x, d, 0, address(3, 0)); e != api.OK || y.u.Len() != 1 {
		t.Fatalf("behind a flush: %d, %v", e, y.u.Keys())
	}
	d.same(t, x, "flush")
	other.same(t, y, "flush")
}

// Pages may map the table's own frames: what is stored there changes the table, and what is
// remembered stays.
func TestTablesAsPages(t *testing.T) {
	d := plain(2)
	d.lay(1, 0, on(1, 3)) // the leaf itself
	d.lay(1, 1, on(0, 3)) // the root
	x := d.real(t)
	if e := load(t, x, d, 0, address(3, 0)); e != api.OK {
		t.Fatalf("Load: %d", e)
	}
	if e := store(t, x, d, 0, address(0, 3), on(4, 3)); e != api.OK { // entry 3 of the leaf
		t.Fatalf("Store: %d", e)
	}
	if f, _, e := access.Find(x.m, x.u, 0, address(3, 0), 1); f != 3 || e != api.OK {
		t.Fatalf("Find by what is remembered: %d, %d", f, e)
	}
	d.flush(t, x)
	if f, _, e := access.Find(x.m, x.u, 0, address(3, 0), 1); f != 4 || e != api.OK {
		t.Fatalf("Find by the table: %d, %d", f, e)
	}
	d.find(0, address(3, 0), 1)
	d.same(t, x, "the leaf")
	if e := store(t, x, d, 0, address(1, 2), 0); e != api.OK { // entry 2 of the root
		t.Fatalf("Store: %d", e)
	}
	if e := load(t, x, d, 0, address(1, 2)); e != api.OK {
		t.Fatalf("Load by what is remembered: %d", e)
	}
	if e := load(t, x, d, 0, address(5, 0)); e != api.ErrFault {
		t.Fatalf("Load by the table: %d", e)
	}
	d.same(t, x, "the root")
}

// Every state of root, entry, leaf, entry there, and what is remembered, by each argument: all
// calls against the model.
func TestAllStates(t *testing.T) {
	heads := []uint64{0, rootHead, leafHead, 1, 7, 34}
	rootHas := []uint64{0, off(5), on(1, 3), on(1, 1), on(0, 3), on(63, 3), 1, on(1, 3) + off(1)}
	leafHas := []uint64{0, off(last), on(2, 1), on(2, 2), on(2, 3), on(1, 3), on(3, 3), on(63, 2), 1, 1 << 63}
	known := [][]held{
		nil,
		{{api.Key{Page: 67}, to(2, 3)}},
		{{api.Key{Page: 67}, to(63, 1)}, {api.Key{Page: 1}, to(2, 2)}},
		{{api.Key{Page: 68}, to(2, 3)}, {api.Key{Space: 1, Page: 67}, to(2, 3)}},
		{{api.Key{Page: 67}, api.Pte{Time: 4}}},
	}
	for _, rootIs := range heads {
		for _, has := range rootHas {
			for _, leafIs := range heads {
				for _, low := range leafHas {
					start := blank(3, 2)
					start.begin(0, rootIs)
					start.lay(0, 2, has)
					start.begin(1, leafIs)
					start.lay(1, 3, low)
					x := start.real(t)
					for _, all := range known {
						allCalls(t, x, start, all)
					}
				}
			}
		}
	}
}

// allCalls makes each call begin at the same state.
func allCalls(t *testing.T, x machine, start *model, known []held) {
	begin := func() *model {
		d := &model{words: slices.Clone(start.words), room: start.room, all: slices.Clone(known)}
		x.u.Flush()
		for _, one := range known {
			x.u.Put(one.key, one.pte)
		}
		return d
	}
	for _, a := range []int{address(3, 0), address(4, 31), -1} {
		for _, r := range []int{0, 1, 3} {
			d := begin()
			find(t, x, d, 0, a, r)
			d.remembered(t, x, a, r)
		}
		d := begin()
		load(t, x, d, 0, a)
		d.remembered(t, x, a)
		d = begin()
		e := store(t, x, d, 0, a, 7)
		d.same(t, x, a)
		if e == api.OK {
			start.write(t, x.m)
		}
	}
}

// chance is a row of numbers that looks like chance, and is the same each time.
type chance uint64

func (c *chance) below(n int) int {
	*c = *c*6364136223846793005 + 1442695040888963407
	return int(uint64(*c) >> 33 % uint64(n))
}

// Many calls in a row, with tables that change: answers, words and what is remembered are the
// model's.
func TestManyCalls(t *testing.T) {
	for seed := range 45 {
		many(t, chance(seed), seed%9)
	}
}

func many(t *testing.T, c chance, room int) {
	d := blank(7, room)
	for f := range 2 {
		d.begin(f, rootHead)
		d.begin(2+f, leafHead)
		d.lay(f, 0, on(2, 3))
		d.lay(f, 1, on(3, 3))
	}
	x := d.real(t)
	for now := 1; now < 1500; now++ {
		space := c.below(2)
		if c.below(16) == 0 {
			space = c.below(9) - 1
		}
		page := 32*c.below(2) + c.below(4)
		a := 32*page + c.below(32)
		if c.below(32) == 0 {
			a = []int{-1, 32767, 32768, 2048, math.MinInt}[c.below(5)]
		}
		switch c.below(14) {
		case 0, 1, 2, 3:
			load(t, x, d, space, a)
		case 4, 5, 6, 7:
			store(t, x, d, space, a, uint64(now))
		case 8, 9:
			find(t, x, d, space, a, c.below(6)-1)
		case 10, 11:
			// Frames behind the tables' alone, so that stores do not break these.
			w := []uint64{on(4+c.below(4), 1+c.below(3)), on(4+c.below(3), 3), off(now), 0, 1}[c.below(5)]
			d.set(t, x, 2+c.below(2), page%32, w)
		case 12:
			w := []uint64{on(2, 3), on(3, 1), on(3, 3), off(now), on(5, 3), 2}[c.below(6)]
			d.set(t, x, c.below(2), page/32, w)
		case 13:
			if c.below(4) == 0 {
				d.flush(t, x)
			}
		}
		d.same(t, x, now)
	}
}

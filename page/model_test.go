package page_test

import (
	"math"
	"testing"

	"palanquin/api"
	"palanquin/machine"
	"palanquin/page"
)

// The document's limits, as numbers of their own.
const (
	maxFrames = 64
	headWords = 4
	words     = 36
	entries   = 32
	pages     = entries * entries
	ids       = 64
	maxRefs   = 1000
	maxTime   = 1 << 30
	registers = 8
	lineCount = 8
	room      = 3
)

// The kinds of heads, what frames are, and rights, as numbers of their own.
const (
	oNone, oTbl, oPgt, oComp, oThd, oTcap, oRcv = 0, 1, 2, 3, 4, 5, 6

	untyped, users, kernels = 0, 1, 2

	toRead, toWrite, both = 1, 2, 3
)

// What is added to a head's first word.
const (
	leafBit   = 1 << 4
	frozenBit = 1 << 5
)

// nowhere is where a line leads that leads nowhere; gone is the epoch of an id that does not
// live.
const (
	nowhere = -1
	gone    = -1
)

type frame [words]uint64

// core is what a machine tells of a core.
type core struct {
	cycles, entered, flushed, cur int
	regs                          [registers]uint64
	keys                          [room]api.Key
	ptes                          [room]api.Pte
}

// model is a machine as the chapters' words have it, as a value: what it tells is held
// against it whole.
type model struct {
	now, cores, frames int
	floors             [2]int
	words              [maxFrames]frame
	is, was            [maxFrames]int
	count, freed       [maxFrames]int
	lives              [ids]int
	living             int
	leads              [lineCount]int
	core               [2]core
}

// look answers all that a machine tells. Ids live in one of their first epochs here.
func look(m *machine.Machine) model {
	d := model{now: m.Now(), cores: m.Cores(), frames: m.Mem().Len(), living: m.Live().Count()}
	d.floors[0], d.floors[1] = m.Floors()
	for f := range maxFrames {
		all, _ := m.Mem().Words(f)
		copy(d.words[f][:], all)
		d.is[f], d.was[f] = m.Typ().Type(f), m.Typ().Was(f)
		d.count[f], d.freed[f] = m.Typ().Count(f), m.Typ().Freed(f)
	}
	for number := range d.core {
		d.core[number] = lookCore(m, number)
	}
	for id := range ids {
		d.lives[id] = gone
		for epoch := range 4 {
			if m.Live().Valid(id, epoch) {
				d.lives[id] = epoch
			}
		}
	}
	for line := range lineCount {
		d.leads[line] = nowhere
		if f, e := m.Lines().Of(line); e == api.OK {
			d.leads[line] = f
		}
	}
	return d
}

func lookCore(m *machine.Machine, number int) core {
	c := m.Clock()
	out := core{cycles: c.Cycles(number), entered: c.Entered(number), flushed: c.Flushed(number), cur: m.Cur(number)}
	copy(out.regs[:], m.Regs(number).All())
	for i, k := range m.Tlb(number).Keys() {
		out.keys[i] = k
		out.ptes[i], _ = m.Tlb(number).Get(k)
	}
	return out
}

// What words say, as the chapters below have it.

func within(n int, least int, most int) bool { return n >= least && n <= most }

// on is the word of a mapping; off is that of one that was till then.
func on(f int, r int) uint64 { return uint64(1 + 2*f + 128*r) }

func off(time int) uint64 { return uint64(time) * 512 }

// pteOf is the mapping that a word is of, if it is one's.
func pteOf(w uint64) (api.Pte, bool) {
	f, r, time := int(w/2%64), int(w/128%4), int(w/512)
	switch {
	case w >= 1<<40:
		return api.Pte{}, false
	case w%2 == 1 && r > 0 && time == 0:
		return api.Pte{On: true, F: f, R: r}, true
	case w%2 == 0 && f == 0 && r == 0 && time <= maxTime:
		return api.Pte{Time: time}, true
	}
	return api.Pte{}, false
}

func (d *model) has(f int) bool { return within(f, 0, d.frames-1) }

// isPgt tells whether frame f is a table's of mappings, of that level.
func (d *model) isPgt(f int, level int) bool {
	return d.has(f) && [headWords]uint64(d.words[f][:headWords]) == [headWords]uint64{oPgt + uint64(level)*leafBit}
}

// entry answers what is in the entry of frame f.
func (d *model) entry(f int, at int) (api.Pte, bool) { return pteOf(d.words[f][headWords+at]) }

func (d *model) lay(f int, at int, w uint64) { d.words[f][headWords+at] = w }

// leaf answers the leaf of page n.
func (d *model) leaf(root int, n int) (int, api.Errno) {
	if !within(n, 0, pages-1) {
		return 0, api.ErrArg
	}
	if !d.isPgt(root, 0) {
		return 0, api.ErrType
	}
	p, right := d.entry(root, n/entries)
	if !right || !p.On {
		return 0, api.ErrFault
	}
	if !d.isPgt(p.F, 1) {
		return 0, api.ErrType
	}
	return p.F, api.OK
}

// walk answers what page n maps, and its leaf.
func (d *model) walk(root int, n int) (api.Pte, int, api.Errno) {
	leaf, e := d.leaf(root, n)
	if e != api.OK {
		return api.Pte{}, 0, e
	}
	p, right := d.entry(leaf, n%entries)
	if !right {
		return api.Pte{}, 0, api.ErrForm
	}
	if !p.On {
		return api.Pte{}, 0, api.ErrFault
	}
	return p, leaf, api.OK
}

// free tells whether something may come to the entry of frame f: each core has flushed since
// it was taken away.
func (d *model) free(f int, at int) api.Errno {
	p, right := d.entry(f, at)
	switch {
	case !right:
		return api.ErrForm
	case p.On:
		return api.ErrUsed
	case p.Time > 0 && p.Time >= d.floors[1]:
		return api.ErrBusy
	}
	return api.OK
}

// The calls, as the chapter's words have them.

func (d *model) mapped(root int, n int, f int, r int) api.Errno {
	switch {
	case !d.has(f) || d.is[f] != users:
		return api.ErrType
	case d.count[f] == maxRefs:
		return api.ErrFull
	case !within(r, toRead, both):
		return api.ErrArg
	}
	leaf, e := d.leaf(root, n)
	if e != api.OK {
		return e
	}
	if e := d.free(leaf, n%entries); e != api.OK {
		return e
	}
	d.lay(leaf, n%entries, on(f, r))
	d.count[f]++
	return api.OK
}

func (d *model) unmap(root int, n int) (int, api.Errno) {
	if d.now < 1 {
		return 0, api.ErrArg
	}
	p, leaf, e := d.walk(root, n)
	if e != api.OK {
		return 0, e
	}
	d.lay(leaf, n%entries, off(d.now))
	d.unref(p.F)
	return p.F, api.OK
}

func (d *model) copy(root int, n int, to int, k int, r int) api.Errno {
	p, _, e := d.walk(root, n)
	if e != api.OK {
		return e
	}
	if p.R&r == 0 {
		return api.ErrPerm
	}
	return d.mapped(to, k, p.F, p.R&r)
}

// unref lets f be needed once less; nothing happens if none needs it, or there is no such
// frame.
func (d *model) unref(f int) {
	if !d.has(f) || d.count[f] == 0 {
		return
	}
	d.count[f]--
	if d.count[f] == 0 {
		d.freed[f] = max(d.freed[f], d.now)
	}
}

func (d *model) cons(root int, high int, leaf int) api.Errno {
	switch {
	case root == leaf:
		return api.ErrUsed
	case d.has(leaf) && d.count[leaf] == maxRefs:
		return api.ErrFull
	case !within(high, 0, entries-1):
		return api.ErrArg
	case !d.isPgt(root, 0), !d.isPgt(leaf, 1):
		return api.ErrType
	}
	if e := d.free(root, high); e != api.OK {
		return e
	}
	if d.is[leaf] == untyped { // such a frame is never needed
		return api.ErrType
	}
	d.lay(root, high, on(leaf, both))
	d.count[leaf]++
	return api.OK
}

func (d *model) decons(root int, high int) (int, api.Errno) {
	if !within(high, 0, entries-1) || d.now < 1 {
		return 0, api.ErrArg
	}
	if !d.isPgt(root, 0) {
		return 0, api.ErrType
	}
	p, right := d.entry(root, high)
	if !right {
		return 0, api.ErrForm
	}
	if !p.On {
		return 0, api.ErrNone
	}
	d.lay(root, high, off(d.now))
	d.unref(p.F)
	return p.F, api.OK
}

// needs answers how often each frame is needed by the mappings that there are, in tables of
// frames of the kernel's.
func (d *model) needs() [maxFrames]int {
	var out [maxFrames]int
	for f := range maxFrames {
		if !d.isPgt(f, 0) && !d.isPgt(f, 1) || d.is[f] != kernels {
			continue
		}
		for at := range entries {
			if p, right := d.entry(f, at); right && p.On {
				out[p.F]++
			}
		}
	}
	return out
}

// world is a machine and its model, with which all is done together: behind each call their
// answers and all that they tell are held against each other.
type world struct {
	t *testing.T
	m *machine.Machine
	d model
}

// blank is a world of so many frames, all untyped, with nothing in them.
func blank(t *testing.T, frames int) *world {
	t.Helper()
	m, e := machine.New(api.Config{Frames: frames, Cores: 2, Room: room})
	must(t, e)
	return &world{t: t, m: m, d: look(m)}
}

func must(t *testing.T, e api.Errno) {
	if e != api.OK {
		t.Helper()
		t.Fatalf("refused: %d", e)
	}
}

// What is done ahead of a call, by the layers below.

// retyped makes frame f one of those, whatever it is.
func (w *world) retyped(f int, is int) {
	w.t.Helper()
	if w.d.is[f] != untyped {
		w.needed(f, 0)
		must(w.t, w.m.Typ().Untype(f, 0, false))
		w.d.was[f], w.d.is[f] = w.d.is[f], untyped
		w.d.freed[f] = max(w.d.freed[f], 0)
	}
	if is != untyped {
		must(w.t, w.m.Typ().Retype(f, is, true))
		w.d.is[f] = is
	}
}

// needed lets frame f be needed so often.
func (w *world) needed(f int, count int) {
	w.t.Helper()
	for w.d.count[f] < count {
		must(w.t, w.m.Typ().Ref(f))
		w.d.count[f]++
	}
	for w.d.count[f] > count {
		must(w.t, w.m.Typ().Unref(f, 0))
		w.d.count[f]--
		if w.d.count[f] == 0 {
			w.d.freed[f] = max(w.d.freed[f], 0)
		}
	}
}

// store makes one the word at of frame f.
func (w *world) store(f int, at int, one uint64) {
	w.t.Helper()
	must(w.t, w.m.Mem().Store(f, at, one))
	w.d.words[f][at] = one
}

// begin makes frame f one that begins with those words; the others of its head are 0.
func (w *world) begin(f int, all ...uint64) {
	w.t.Helper()
	var to [headWords]uint64
	copy(to[:], all)
	for at, one := range to {
		w.store(f, at, one)
	}
}

// say lays a word into the entry of frame f, and counts nothing.
func (w *world) say(f int, at int, one uint64) {
	w.t.Helper()
	w.store(f, headWords+at, one)
}

// step lets the core take a step.
func (w *world) step(number int) {
	w.t.Helper()
	must(w.t, w.m.Clock().Step(number))
	w.d.now++
	w.d.core[number].cycles++
}

// enter lets the core enter now.
func (w *world) enter(number int) {
	w.t.Helper()
	must(w.t, w.m.Clock().Enter(number))
	w.d.core[number].entered = w.d.now
	w.d.floors[0] = min(w.d.core[0].entered, w.d.core[1].entered)
}

// flush lets the core's time of flushing be now; what it remembers it remembers on.
func (w *world) flush(number int) {
	w.t.Helper()
	must(w.t, w.m.Clock().Flush(number))
	w.d.core[number].flushed = w.d.now
	w.d.floors[1] = min(w.d.core[0].flushed, w.d.core[1].flushed)
}

// pass lets all cores take a step and flush, so that what was is quiet.
func (w *world) pass() {
	w.t.Helper()
	w.step(0)
	w.step(1)
	w.flush(0)
	w.flush(1)
}

// The calls, done with both.

// held fails if the call was not answered as the model does, or the machine is not as the
// model is.
func (w *world) held(name string, got any, want any, numbers ...int) {
	if got != want {
		w.t.Helper()
		w.t.Fatalf("%s%v: %v; want %v", name, numbers, got, want)
	}
	if d := look(w.m); d != w.d {
		w.t.Helper()
		w.t.Fatalf("%s%v: %v, but the machine is not as it should be: %s", name, numbers, got, differs(&d, &w.d))
	}
}

// differs says where two do.
func differs(a *model, b *model) string {
	for f := range maxFrames {
		switch {
		case a.words[f] != b.words[f]:
			return "words of a frame"
		case a.is[f] != b.is[f], a.was[f] != b.was[f]:
			return "what a frame is, or was"
		case a.count[f] != b.count[f]:
			return "a count"
		case a.freed[f] != b.freed[f]:
			return "when a frame was freed"
		}
	}
	switch {
	case a.lives != b.lives, a.living != b.living:
		return "who lives"
	case a.core != b.core:
		return "cores"
	}
	return "lines, or times"
}

func (w *world) maps(root int, n int, f int, r int) api.Errno {
	w.t.Helper()
	want := w.d.mapped(root, n, f, r)
	w.held("Map", page.Map(w.m, root, n, f, r), want, root, n, f, r)
	return want
}

func (w *world) copy(root int, n int, to int, k int, r int) api.Errno {
	w.t.Helper()
	want := w.d.copy(root, n, to, k, r)
	w.held("Copy", page.Copy(w.m, root, n, to, k, r), want, root, n, to, k, r)
	return want
}

// freed is what Unmap and Decons answer.
type freed struct {
	f int
	e api.Errno
}

func (w *world) unmap(root int, n int) (int, api.Errno) {
	w.t.Helper()
	var got, want freed
	want.f, want.e = w.d.unmap(root, n)
	got.f, got.e = page.Unmap(w.m, root, n)
	w.held("Unmap", got, want, root, n)
	return want.f, want.e
}

func (w *world) cons(root int, high int, leaf int) api.Errno {
	w.t.Helper()
	want := w.d.cons(root, high, leaf)
	w.held("Cons", page.Cons(w.m, root, high, leaf), want, root, high, leaf)
	return want
}

func (w *world) decons(root int, high int) (int, api.Errno) {
	w.t.Helper()
	var got, want freed
	want.f, want.e = w.d.decons(root, high)
	got.f, got.e = page.Decons(w.m, root, high)
	w.held("Decons", got, want, root, high)
	return want.f, want.e
}

// is fails if the answer is another one.
func (w *world) is(e api.Errno, want api.Errno) {
	if e != want {
		w.t.Helper()
		w.t.Fatalf("answered %d; want %d", e, want)
	}
}

// lets fails if Unmap answered something else.
func (w *world) lets(root int, n int, want int, wantE api.Errno) {
	w.t.Helper()
	if f, e := w.unmap(root, n); f != want || e != wantE {
		w.t.Fatalf("Unmap(%d, %d): %d, %d; want %d, %d", root, n, f, e, want, wantE)
	}
}

// frees fails if Decons answered something else.
func (w *world) frees(root int, high int, want int, wantE api.Errno) {
	w.t.Helper()
	if f, e := w.decons(root, high); f != want || e != wantE {
		w.t.Fatalf("Decons(%d, %d): %d, %d; want %d, %d", root, high, f, e, want, wantE)
	}
}

// Numbers and words that tests go over.

// far are numbers behind all ranges; the low bits of some are those of one in a range.
func far() []int {
	out := []int{-1, -2, -3, -4, -5, -16, -31, -32, -33, -63, -64, -65, -1024, -65536, math.MinInt, math.MinInt + 1, math.MinInt + 5, math.MaxInt, math.MaxInt - 1, math.MaxInt - 3, 1025, 4096, 65536}
	for _, bit := range []int{31, 32, 33, 48, 57, 58, 59, 62} {
		for _, low := range []int{0, 1, 2, 5, 7} {
			out = append(out, 1<<bit+low, -1<<bit+low)
		}
	}
	return out
}

// noFrames are numbers of frames that a machine of so many has not.
func noFrames(frames int) []int {
	return append(far(), frames, frames+1, maxFrames, maxFrames+1, maxFrames+frames)
}

func noPages() []int { return append(far(), pages, pages+1, pages+67, 2*pages, pages*words) }

func noEntries() []int { return append(far(), entries, entries+1, entries+2, 2*entries, 68) }

func noRights() []int { return append(far(), 0, 4, 5, 6, 7, 8, 9, 16, 31, 32, 33, 256, 257) }

// heads are words with which frames begin, of each kind and level.
func heads() [][]uint64 {
	return [][]uint64{
		{oNone}, {oTbl}, {oTbl + leafBit}, {oTbl + frozenBit}, {oTbl + frozenBit, 9}, {oTbl + leafBit + frozenBit, maxTime},
		{oPgt}, {oPgt + leafBit}, {oComp}, {oThd}, {oTcap}, {oRcv},
	}
}

// noHeads are words with which frames begin that are no head.
func noHeads() [][]uint64 {
	out := [][]uint64{
		{7}, {15}, {64}, {64 + oPgt}, {64 + oPgt + leafBit}, {1 << 63}, {1<<32 + oPgt}, {1<<63 + oPgt + leafBit}, {math.MaxUint64},
		{oPgt + frozenBit}, {oPgt + frozenBit, 1}, {oPgt + leafBit + frozenBit}, {oPgt + leafBit + frozenBit, 3},
		{oTbl + frozenBit, maxTime + 1}, {oTbl + leafBit, 1}, {leafBit}, {frozenBit}, {oComp + leafBit},
	}
	for _, k := range []uint64{oNone, oTbl, oPgt, oPgt + leafBit, oTcap} {
		out = append(out, []uint64{k, 1}, []uint64{k, 1 << 63}, []uint64{k, 0, 1}, []uint64{k, 0, 0, 1}, []uint64{k, 0, 1 << 40}, []uint64{k, 0, 0, 1 << 63})
	}
	return out
}

// allHeads are those of both.
func allHeads() [][]uint64 { return append(heads(), noHeads()...) }

// noWords are words of entries that are no mapping's.
func noWords() []uint64 {
	return []uint64{
		1, 3, 1 + 2*9, on(9, 1) + 512, on(9, 3) + 1<<39, 2, 2 * 63, 128, 256, 2 + 512, 128 + 512, off(maxTime) + 512, off(maxTime) + 1, off(1) + 1,
		off(1 << 31), 1 << 40, 1<<40 + on(9, 3), 1<<63 + on(9, 3), 1 << 63, 1<<63 + off(3), math.MaxUint64,
	}
}

// row is a row of numbers that hang on the last one.
type row uint64

func (x *row) pick(n int) int {
	*x = *x*6364136223846793005 + 1442695040888963407
	return int(*x>>33) % n
}

func pickOf[V any](x *row, all []V) V { return all[x.pick(len(all))] }

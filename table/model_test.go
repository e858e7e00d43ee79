package table_test

import (
	"math"
	"testing"

	"palanquin/api"
	"palanquin/machine"
	"palanquin/table"
)

// The document's limits, as numbers of their own.
const (
	maxFrames = 64
	headWords = 4
	words     = 36
	slots     = 16
	addresses = slots * slots
	ids       = 64
	epochs    = 1 << 16
	maxRefs   = 1000
	maxTime   = 1 << 30
	registers = 8
	lineCount = 8
	room      = 3
	allRights = 31
	toCopy    = 8
)

// The kinds of heads and of capabilities, and what frames are, as numbers of their own.
const (
	oNone, oTbl, oPgt, oComp, oThd, oTcap, oRcv = 0, 1, 2, 3, 4, 5, 6

	kNone, kQuiet, kMem, kTbl, kPgt, kComp, kThd, kInv, kTcap, kRcv, kSnd, kHw = 0, 1, 2, 3, 4, 5, 6, 7, 8, 9, 10, 11

	untyped, users, kernels = 0, 1, 2
)

// What is added to a head's first word.
const (
	leafBit   = 1 << 4
	frozenBit = 1 << 5
)

// never is when something was freed that never was; nowhere is where a line leads that leads
// nowhere; gone is the epoch of an id that does not live.
const (
	never   = -1
	nowhere = -1
	gone    = -1
)

type frame [words]uint64

// core is what a machine tells of a core.
type core struct {
	cycles, entered, flushed, cur int
	regs                          [registers]uint64
	keys                          [room]api.Key
	ptes                          [room]api.Pte
}

// model is a machine as the chapters' words have it, as a value: what it tells is held
// against it whole.
type model struct {
	now, cores, frames int
	floors             [2]int
	words              [maxFrames]frame
	is, was            [maxFrames]int
	count, freed       [maxFrames]int
	lives              [ids]int
	living             int
	leads              [lineCount]int
	core               [2]core
}

// look answers all that a machine tells. Ids live in one of their first epochs here.
func look(m *machine.Machine) model {
	d := model{now: m.Now(), cores: m.Cores(), frames: m.Mem().Len(), living: m.Live().Count()}
	d.floors[0], d.floors[1] = m.Floors()
	for f := range maxFrames {
		all, _ := m.Mem().Words(f)
		copy(d.words[f][:], all)
		d.is[f], d.was[f] = m.Typ().Type(f), m.Typ().Was(f)
		d.count[f], d.freed[f] = m.Typ().Count(f), m.Typ().Freed(f)
	}
	for number := range d.core {
		d.core[number] = lookCore(m, number)
	}
	for id := range ids {
		d.lives[id] = gone
		for epoch := range 4 {
			if m.Live().Valid(id, epoch) {
				d.lives[id] = epoch
			}
		}
	}
	for line := range lineCount {
		d.leads[line] = nowhere
		if f, e := m.Lines().Of(line); e == api.OK {
			d.leads[line] = f
		}
	}
	return d
}

func lookCore(m *machine.Machine, number int) core {
	c := m.Clock()
	out := core{cycles: c.Cycles(number), entered: c.Entered(number), flushed: c.Flushed(number), cur: m.Cur(number)}
	copy(out.regs[:], m.Regs(number).All())
	for i, k := range m.Tlb(number).Keys() {
		out.keys[i] = k
		out.ptes[i], _ = m.Tlb(number).Get(k)
	}
	return out
}

// What words say, as the chapters below have it.

func within(n int, least int, most int) bool { return n >= least && n <= most }

// isRight tells whether c can be.
func isRight(c api.Cap) bool {
	if !within(c.K, kNone, kHw) || !within(c.R, 0, allRights) || !within(c.T, 0, maxFrames-1) {
		return false
	}
	if !within(c.L, 0, ids-1) || !within(c.E, 0, epochs-1) || !within(c.A, 0, maxTime) {
		return false
	}
	switch c.K {
	case kNone:
		return c == api.Cap{}
	case kQuiet:
		return c == api.Cap{K: kQuiet, A: c.A}
	case kMem:
		return c.L == 0 && c.E == 0 && c.A >= 1 && c.T+c.A <= maxFrames
	case kComp:
		return c.A == 0
	case kInv:
		return true
	case kHw:
		return c == api.Cap{K: kHw, R: c.R}
	}
	return c.L == 0 && c.E == 0 && c.A == 0
}

// wordsOf are the words of a capability that can be.
func wordsOf(c api.Cap) (uint64, uint64) {
	return uint64(c.K) + uint64(c.R)<<4 + uint64(c.T)<<9 + uint64(c.L)<<15 + uint64(c.E)<<21, uint64(c.A)
}

func capOf(first uint64, second uint64) (api.Cap, bool) {
	if first >= 1<<37 || second > maxTime {
		return api.Cap{}, false
	}
	c := api.Cap{
		K: int(first % 16), R: int(first >> 4 % 32), T: int(first >> 9 % 64), L: int(first >> 15 % 64),
		E: int(first >> 21), A: int(second),
	}
	if !isRight(c) {
		return api.Cap{}, false
	}
	return c, true
}

// holds tells whether c needs its frame.
func holds(c api.Cap) bool { return within(c.K, kTbl, kSnd) }

func (d *model) has(f int) bool { return within(f, 0, d.frames-1) }

// tbl tells whether frame f is a table's, of which level, and since when it is frozen; 0 if
// it is not.
func (d *model) tbl(f int) (level int, frozen bool, time int, is bool) {
	if !d.has(f) {
		return 0, false, 0, false
	}
	w := d.words[f]
	switch {
	case w[0] != oTbl && w[0] != oTbl+leafBit && w[0] != oTbl+frozenBit && w[0] != oTbl+leafBit+frozenBit:
		return 0, false, 0, false
	case w[1] > maxTime, w[1] != 0 && w[0] < frozenBit, w[2] != 0, w[3] != 0:
		return 0, false, 0, false
	}
	return int(w[0] / leafBit % 2), w[0] >= frozenBit, int(w[1]), true
}

func (d *model) isTbl(f int, want int) bool {
	level, _, _, is := d.tbl(f)
	return is && level == want
}

func (d *model) isFrozen(f int) bool {
	_, frozen, _, _ := d.tbl(f)
	return frozen
}

// slot answers what is in the slot of frame f.
func (d *model) slot(f int, at int) (api.Cap, bool) {
	return capOf(d.words[f][headWords+2*at], d.words[f][headWords+2*at+1])
}

func (d *model) lay(f int, at int, c api.Cap) {
	d.words[f][headWords+2*at], d.words[f][headWords+2*at+1] = wordsOf(c)
}

// leaf answers the leaf to which address a leads.
func (d *model) leaf(root int, a int) (int, api.Errno) {
	if !within(a, 0, addresses-1) {
		return 0, api.ErrArg
	}
	if !d.isTbl(root, 0) {
		return 0, api.ErrType
	}
	c, right := d.slot(root, a/slots)
	if !right || c.K != kTbl {
		return 0, api.ErrNone
	}
	if !d.isTbl(c.T, 1) {
		return 0, api.ErrType
	}
	return c.T, api.OK
}

// empty tells whether something may come to the slot of frame f.
func (d *model) empty(f int, at int) api.Errno {
	c, right := d.slot(f, at)
	switch {
	case !right:
		return api.ErrForm
	case c.K > kQuiet:
		return api.ErrUsed
	case c.K == kQuiet && c.A >= d.floors[0]:
		return api.ErrBusy
	}
	return api.OK
}

// seen answers what is looked up, and its leaf.
func (d *model) seen(root int, a int) (api.Cap, int, api.Errno) {
	leaf, e := d.leaf(root, a)
	if e != api.OK {
		return api.Cap{}, 0, e
	}
	c, right := d.slot(leaf, a%slots)
	switch {
	case !right:
		return api.Cap{}, 0, api.ErrForm
	case c.K <= kQuiet:
		return api.Cap{}, 0, api.ErrNone
	}
	return c, leaf, api.OK
}

// The calls, as the chapter's words have them.

func (d *model) grant(root int, a int, c api.Cap) api.Errno {
	if !isRight(c) || c.K <= kQuiet {
		return api.ErrArg
	}
	leaf, e := d.leaf(root, a)
	if e != api.OK {
		return e
	}
	if d.isFrozen(leaf) {
		return api.ErrBusy
	}
	if e := d.empty(leaf, a%slots); e != api.OK {
		return e
	}
	if holds(c) {
		if !d.has(c.T) || d.is[c.T] != kernels {
			return api.ErrType
		}
		if d.count[c.T] == maxRefs {
			return api.ErrFull
		}
		d.count[c.T]++
	}
	d.lay(leaf, a%slots, c)
	return api.OK
}

func (d *model) copy(root int, a int, to int, b int, r int) api.Errno {
	c, _, e := d.seen(root, a)
	if e != api.OK {
		return e
	}
	if c.R/toCopy%2 == 0 {
		return api.ErrPerm
	}
	c.R &= r
	return d.grant(to, b, c)
}

func (d *model) drop(root int, a int) (api.Cap, api.Errno) {
	if d.now < 1 {
		return api.Cap{}, api.ErrArg
	}
	c, leaf, e := d.seen(root, a)
	if e != api.OK {
		return api.Cap{}, e
	}
	if d.isFrozen(leaf) {
		return api.Cap{}, api.ErrBusy
	}
	d.lay(leaf, a%slots, api.Cap{K: kQuiet, A: d.now})
	if holds(c) && d.has(c.T) && d.is[c.T] == kernels {
		d.unref(c.T)
	}
	return c, api.OK
}

// unref lets f be needed once less; nothing happens if none needs it.
func (d *model) unref(f int) {
	if d.count[f] == 0 {
		return
	}
	d.count[f]--
	if d.count[f] == 0 {
		d.freed[f] = max(d.freed[f], d.now)
	}
}

func (d *model) cons(root int, high int, leaf int) api.Errno {
	switch {
	case root == leaf:
		return api.ErrUsed
	case d.has(leaf) && d.count[leaf] == maxRefs:
		return api.ErrFull
	case !within(high, 0, slots-1):
		return api.ErrArg
	case !d.isTbl(root, 0), !d.isTbl(leaf, 1):
		return api.ErrType
	case d.isFrozen(root), d.isFrozen(leaf):
		return api.ErrBusy
	}
	if e := d.empty(root, high); e != api.OK {
		return e
	}
	if d.is[leaf] == untyped { // such a frame is never needed
		return api.ErrType
	}
	d.count[leaf]++
	d.lay(root, high, api.Cap{K: kTbl, R: allRights, T: leaf})
	return api.OK
}

func (d *model) decons(root int, high int) (int, api.Errno) {
	if !within(high, 0, slots-1) || d.now < 1 {
		return 0, api.ErrArg
	}
	if !d.isTbl(root, 0) {
		return 0, api.ErrType
	}
	c, right := d.slot(root, high)
	if !right {
		return 0, api.ErrForm
	}
	if c.K != kTbl {
		return 0, api.ErrNone
	}
	_, frozen, time, _ := d.tbl(c.T)
	if !frozen || time >= d.floors[0] {
		return 0, api.ErrBusy
	}
	d.lay(root, high, api.Cap{K: kQuiet, A: d.now})
	d.unref(c.T)
	return c.T, api.OK
}

func (d *model) freeze(f int) api.Errno {
	_, frozen, _, is := d.tbl(f)
	switch {
	case d.now < 1:
		return api.ErrArg
	case !is:
		return api.ErrType
	case frozen:
		return api.ErrUsed
	}
	d.words[f][0] += frozenBit
	d.words[f][1] = uint64(d.now)
	return api.OK
}

// needs answers how often each frame is needed by the capabilities that there are.
func (d *model) needs() [maxFrames]int {
	var out [maxFrames]int
	for f := range maxFrames {
		if _, _, _, is := d.tbl(f); !is || d.is[f] != kernels {
			continue
		}
		for at := range slots {
			if c, right := d.slot(f, at); right && holds(c) {
				out[c.T]++
			}
		}
	}
	return out
}

// world is a machine and its model, with which all is done together: behind each call their
// answers and all that they tell are held against each other.
type world struct {
	t *testing.T
	m *machine.Machine
	d model
}

// blank is a world of so many frames, all untyped, with nothing in them.
func blank(t *testing.T, frames int) *world {
	t.Helper()
	m, e := machine.New(api.Config{Frames: frames, Cores: 2, Room: room})
	must(t, e)
	return &world{t: t, m: m, d: look(m)}
}

func must(t *testing.T, e api.Errno) {
	if e != api.OK {
		t.Helper()
		t.Fatalf("refused: %d", e)
	}
}

// What is done ahead of a call, by the layers below.

// retyped makes frame f one of those, whatever it is.
func (w *world) retyped(f int, is int) {
	w.t.Helper()
	if w.d.is[f] != untyped {
		w.needed(f, 0)
		must(w.t, w.m.Typ().Untype(f, 0, false))
		w.d.was[f], w.d.is[f] = w.d.is[f], untyped
		w.d.freed[f] = max(w.d.freed[f], 0)
	}
	if is != untyped {
		must(w.t, w.m.Typ().Retype(f, is, true))
		w.d.is[f] = is
	}
}

// needed lets frame f be needed so often.
func (w *world) needed(f int, count int) {
	w.t.Helper()
	for w.d.count[f] < count {
		must(w.t, w.m.Typ().Ref(f))
		w.d.count[f]++
	}
	for w.d.count[f] > count {
		must(w.t, w.m.Typ().Unref(f, 0))
		w.d.count[f]--
		if w.d.count[f] == 0 {
			w.d.freed[f] = max(w.d.freed[f], 0)
		}
	}
}

// store makes one the word at of frame f.
func (w *world) store(f int, at int, one uint64) {
	w.t.Helper()
	must(w.t, w.m.Mem().Store(f, at, one))
	w.d.words[f][at] = one
}

// begin makes frame f one that begins with those words; the others of its head are 0.
func (w *world) begin(f int, all ...uint64) {
	w.t.Helper()
	var to [headWords]uint64
	copy(to[:], all)
	for at, one := range to {
		w.store(f, at, one)
	}
}

// put lays c into the slot of frame f, and counts nothing.
func (w *world) put(f int, at int, c api.Cap) {
	w.t.Helper()
	first, second := wordsOf(c)
	w.say(f, at, first, second)
}

// say lays two words into the slot of frame f.
func (w *world) say(f int, at int, first uint64, second uint64) {
	w.t.Helper()
	w.store(f, headWords+2*at, first)
	w.store(f, headWords+2*at+1, second)
}

// step lets the core take a step.
func (w *world) step(number int) {
	w.t.Helper()
	must(w.t, w.m.Clock().Step(number))
	w.d.now++
	w.d.core[number].cycles++
}

// enter lets the core enter now.
func (w *world) enter(number int) {
	w.t.Helper()
	must(w.t, w.m.Clock().Enter(number))
	w.d.core[number].entered = w.d.now
	w.d.floors[0] = min(w.d.core[0].entered, w.d.core[1].entered)
}

// flush lets the core flush now.
func (w *world) flush(number int) {
	w.t.Helper()
	must(w.t, w.m.Clock().Flush(number))
	w.d.core[number].flushed = w.d.now
	w.d.floors[1] = min(w.d.core[0].flushed, w.d.core[1].flushed)
}

// pass lets all cores take a step and enter, so that what was is quiet.
func (w *world) pass() {
	w.t.Helper()
	w.step(0)
	w.step(1)
	w.enter(0)
	w.enter(1)
}

// The calls, done with both.

// held fails if the call was not answered as the model does, or the machine is not as the
// model is.
func (w *world) held(name string, got any, want any, numbers ...any) {
	if got != want {
		w.t.Helper()
		w.t.Fatalf("%s%v: %v; want %v", name, numbers, got, want)
	}
	if d := look(w.m); d != w.d {
		w.t.Helper()
		w.t.Fatalf("%s%v: %v, but the machine is not as it should be: %s", name, numbers, got, differs(&d, &w.d))
	}
}

// differs says where two do.
func differs(a *model, b *model) string {
	for f := range maxFrames {
		switch {
		case a.words[f] != b.words[f]:
			return "words of a frame"
		case a.is[f] != b.is[f], a.was[f] != b.was[f]:
			return "what a frame is, or was"
		case a.count[f] != b.count[f]:
			return "a count"
		case a.freed[f] != b.freed[f]:
			return "when a frame was freed"
		}
	}
	switch {
	case a.lives != b.lives, a.living != b.living:
		return "who lives"
	case a.core != b.core:
		return "cores"
	}
	return "lines, or times"
}

func (w *world) grant(root int, a int, c api.Cap) api.Errno {
	w.t.Helper()
	want := w.d.grant(root, a, c)
	w.held("Grant", table.Grant(w.m, root, a, c), want, root, a, c)
	return want
}

func (w *world) copy(root int, a int, to int, b int, r int) api.Errno {
	w.t.Helper()
	want := w.d.copy(root, a, to, b, r)
	w.held("Copy", table.Copy(w.m, root, a, to, b, r), want, root, a, to, b, r)
	return want
}

// dropped is what Drop answers; freed is what Decons does.
type (
	dropped struct {
		c api.Cap
		e api.Errno
	}
	freed struct {
		f int
		e api.Errno
	}
)

func (w *world) drop(root int, a int) (api.Cap, api.Errno) {
	w.t.Helper()
	var got, want dropped
	want.c, want.e = w.d.drop(root, a)
	got.c, got.e = table.Drop(w.m, root, a)
	w.held("Drop", got, want, root, a)
	return want.c, want.e
}

func (w *world) cons(root int, high int, leaf int) api.Errno {
	w.t.Helper()
	want := w.d.cons(root, high, leaf)
	w.held("Cons", table.Cons(w.m, root, high, leaf), want, root, high, leaf)
	return want
}

func (w *world) decons(root int, high int) (int, api.Errno) {
	w.t.Helper()
	var got, want freed
	want.f, want.e = w.d.decons(root, high)
	got.f, got.e = table.Decons(w.m, root, high)
	w.held("Decons", got, want, root, high)
	return want.f, want.e
}

func (w *world) freeze(f int) api.Errno {
	w.t.Helper()
	want := w.d.freeze(f)
	w.held("Freeze", table.Freeze(w.m, f), want, f)
	return want
}

// is fails if the answer is another one.
func (w *world) is(e api.Errno, want api.Errno) {
	if e != want {
		w.t.Helper()
		w.t.Fatalf("answered %d; want %d", e, want)
	}
}

// lets fails if Drop answered something else.
func (w *world) lets(root int, a int, want api.Cap, wantE api.Errno) {
	w.t.Helper()
	if c, e := w.drop(root, a); c != want || e != wantE {
		w.t.Fatalf("Drop(%d, %d): %v, %d; want %v, %d", root, a, c, e, want, wantE)
	}
}

// frees fails if Decons answered something else.
func (w *world) frees(root int, high int, want int, wantE api.Errno) {
	w.t.Helper()
	if f, e := w.decons(root, high); f != want || e != wantE {
		w.t.Fatalf("Decons(%d, %d): %d, %d; want %d, %d", root, high, f, e, want, wantE)
	}
}

// Numbers, words and capabilities that tests go over.

// far are numbers behind all ranges; the low bits of some are those of one in a range.
func far() []int {
	out := []int{-1, -2, -3, -5, -16, -63, -64, -65, -256, -65536, math.MinInt, math.MinInt + 1, math.MinInt + 5, math.MaxInt, math.MaxInt - 1, 257, 4096, 65536}
	for _, bit := range []int{31, 32, 33, 48, 62} {
		for _, low := range []int{0, 1, 2, 5, 7} {
			out = append(out, 1<<bit+low, -1<<bit+low)
		}
	}
	return out
}

// noFrames are numbers of frames that a machine of so many has not.
func noFrames(frames int) []int {
	return append(far(), frames, frames+1, maxFrames, maxFrames+1, maxFrames+frames)
}

func noAddresses() []int { return append(far(), addresses, addresses+1, addresses+35, 2*addresses) }

func noSlots() []int { return append(far(), slots, slots+1, slots+2, 2*slots, 35) }

// heads are words with which frames begin, of each kind and level, frozen or not.
func heads() [][]uint64 {
	return [][]uint64{
		{oNone}, {oTbl}, {oTbl + leafBit}, {oTbl + frozenBit}, {oTbl + frozenBit, 1}, {oTbl + frozenBit, 9}, {oTbl + leafBit + frozenBit},
		{oTbl + leafBit + frozenBit, 1}, {oTbl + leafBit + frozenBit, maxTime}, {oPgt}, {oPgt + leafBit}, {oComp}, {oThd}, {oTcap}, {oRcv},
	}
}

// noHeads are words with which frames begin that are no head.
func noHeads() [][]uint64 {
	out := [][]uint64{
		{7}, {15}, {64}, {64 + oTbl}, {64 + oTbl + leafBit}, {1 << 63}, {1<<32 + oTbl}, {1<<63 + oTbl + leafBit}, {math.MaxUint64},
		{oTbl + frozenBit, maxTime + 1}, {oTbl + leafBit + frozenBit, 1 << 63}, {oTbl + leafBit, 1}, {oTbl, maxTime},
		{oPgt + frozenBit}, {oPgt + leafBit + frozenBit, 3}, {leafBit}, {frozenBit}, {frozenBit, 4},
	}
	for _, k := range []uint64{oNone, oTbl, oTbl + leafBit, oPgt, oTcap} {
		out = append(out, []uint64{k, 1 << 63}, []uint64{k, 0, 1}, []uint64{k, 0, 0, 1}, []uint64{k, 0, 1 << 40}, []uint64{k, 0, 0, 1 << 63})
	}
	return out
}

// allHeads are those of both.
func allHeads() [][]uint64 { return append(heads(), noHeads()...) }

// noCaps are words of slots that are no capability's.
func noCaps() [][2]uint64 {
	return [][2]uint64{
		{kNone, 1}, {kNone + 1<<4, 0}, {kQuiet, maxTime + 1}, {kQuiet + 1<<9, 3}, {kMem, 0}, {kMem + 63<<9, 2}, {kTbl, 1}, {kTbl + 1<<15, 0},
		{kComp, 1}, {kInv, maxTime + 1}, {kTcap + 1<<21, 0}, {kHw + 1<<9, 0}, {12, 0}, {15, 0}, {1 << 37, 0}, {1<<63 + kTbl, 0},
		{kTbl, 1 << 63}, {kTbl, 1 << 32}, {math.MaxUint64, math.MaxUint64},
	}
}

// row is a row of numbers that hang on the last one.
type row uint64

func (x *row) pick(n int) int {
	*x = *x*6364136223846793005 + 1442695040888963407
	return int(*x>>33) % n
}

func pickOf[V any](x *row, all []V) V { return all[x.pick(len(all))] }

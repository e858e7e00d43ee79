package build_test

import (
	"math"
	"slices"
	"testing"

	"palanquin/api"
	"palanquin/build"
	"palanquin/machine"
)

// The document's limits, and the chapters', as numbers of their own.
const (
	maxFrames = 64
	headWords = 4
	words     = 36
	slots     = 16
	entries   = 32
	ids       = 64
	epochs    = 1 << 16
	maxRefs   = 1000
	maxTime   = 1 << 30
	maxCount  = 255
	maxBudget = 1 << 20
	maxDepth  = 6
	maxCores  = 4
	registers = 8
	lineCount = 8
	room      = 3
	allRights = 31
)

// The kinds of heads and of capabilities, what frames are, and the states of threads, as
// numbers of their own.
const (
	oNone, oTbl, oPgt, oComp, oThd, oTcap, oRcv = 0, 1, 2, 3, 4, 5, 6

	kNone, kQuiet, kMem, kTbl, kPgt, kComp, kThd, kInv, kTcap, kRcv, kSnd, kHw = 0, 1, 2, 3, 4, 5, 6, 7, 8, 9, 10, 11

	untyped, users, kernels, pages = 0, 1, 2, 3

	ready, runs, waits, dead = 0, 1, 2, 3
)

// What is added to a head's first word.
const (
	leafBit   = 1 << 4
	frozenBit = 1 << 5
)

// never is when something was freed that never was; nowhere is where a line leads that leads
// nowhere; gone is the epoch of an id that does not live.
const (
	never   = -1
	nowhere = -1
	gone    = -1
)

type frame [words]uint64

// core is what a machine tells of a core.
type core struct {
	cycles, entered, flushed, cur int
	regs                          [registers]uint64
	keys                          [room]api.Key
	ptes                          [room]api.Pte
}

// picture is all that a machine tells, as a value: two of them are held against each other
// whole.
type picture struct {
	now, cores, frames int
	floors             [2]int
	words              [maxFrames]frame
	is, was            [maxFrames]int
	count, freed       [maxFrames]int
	lives              [ids]int
	living             int
	leads              [lineCount]int
	core               [2]core
}

// model is a machine as the chapters' words have it: what it tells, and what it keeps and
// tells nobody.
type model struct {
	picture
	epoch  [ids]int
	killed [ids]int
}

// look takes the picture of a machine. In which epoch an id lives must be guessed; the model
// knows where to look.
func look(m *machine.Machine, d *model) picture {
	p := picture{now: m.Now(), cores: m.Cores(), frames: m.Mem().Len(), living: m.Live().Count()}
	p.floors[0], p.floors[1] = m.Floors()
	for f := range maxFrames {
		all, _ := m.Mem().Words(f)
		copy(p.words[f][:], all)
		p.is[f], p.was[f] = m.Typ().Type(f), m.Typ().Was(f)
		p.count[f], p.freed[f] = m.Typ().Count(f), m.Typ().Freed(f)
	}
	for number := range p.core {
		p.core[number] = lookCore(m, number)
	}
	for id := range ids {
		p.lives[id] = gone
		for _, epoch := range []int{d.epoch[id] - 1, d.epoch[id], d.epoch[id] + 1, 0, 1} {
			if m.Live().Valid(id, epoch) {
				p.lives[id] = epoch
			}
		}
	}
	for line := range lineCount {
		p.leads[line] = nowhere
		if f, e := m.Lines().Of(line); e == api.OK {
			p.leads[line] = f
		}
	}
	return p
}

func lookCore(m *machine.Machine, number int) core {
	c := m.Clock()
	out := core{cycles: c.Cycles(number), entered: c.Entered(number), flushed: c.Flushed(number), cur: m.Cur(number)}
	copy(out.regs[:], m.Regs(number).All())
	for i, k := range m.Tlb(number).Keys() {
		out.keys[i] = k
		out.ptes[i], _ = m.Tlb(number).Get(k)
	}
	return out
}

// What words say, as the chapters below have it.

func within(n int, least int, most int) bool { return n >= least && n <= most }

func (d *model) has(f int) bool { return within(f, 0, d.frames-1) }

// top is what a frame begins with.
type top struct {
	k, level int
	frozen   bool
}

func (d *model) top(f int) (top, bool) {
	if !d.has(f) {
		return top{}, false
	}
	w := d.words[f]
	if w[0] >= 64 || w[2] != 0 || w[3] != 0 || w[1] > maxTime {
		return top{}, false
	}
	h := top{k: int(w[0] % 16), level: int(w[0] / 16 % 2), frozen: w[0]/32 == 1}
	switch {
	case h.k > oRcv, h.level == 1 && h.k != oTbl && h.k != oPgt, h.frozen && h.k != oTbl, w[1] != 0 && !h.frozen:
		return top{}, false
	}
	return h, true
}

// begins tells whether frame f begins with a head of that kind and level.
func (d *model) begins(f int, k int, level int) bool {
	h, right := d.top(f)
	return right && h.k == k && h.level == level
}

// below tells of the words of frame f behind its head whether each is at most its most, and
// answers them as numbers.
func (d *model) below(f int, most ...uint64) ([8]int, bool) {
	var out [8]int
	for i, top := range most {
		w := d.words[f][headWords+i]
		if w > top {
			return [8]int{}, false
		}
		out[i] = int(w)
	}
	return out, true
}

// component answers the component that frame f is, with its id's epoch.
func (d *model) component(f int) (api.Comp, api.Errno) {
	if !d.begins(f, oComp, 0) {
		return api.Comp{}, api.ErrType
	}
	w, right := d.below(f, maxFrames-1, maxFrames-1, ids-1, epochs-1, maxFrames, maxTime)
	if !right || w[4] == 0 && w[5] != 0 {
		return api.Comp{}, api.ErrForm
	}
	c := api.Comp{Tbl: w[0], Pgt: w[1], L: w[2], E: w[3], Fault: w[4], At: w[5]}
	if d.lives[c.L] != c.E {
		return c, api.ErrLive
	}
	return c, api.OK
}

func (d *model) thread(f int) (api.Thd, bool) {
	w, right := d.below(f, dead, maxCores-1, maxFrames-1, maxFrames, maxDepth)
	return api.Thd{State: w[0], Core: w[1], Tcap: w[2], Rcv: w[3], Depth: w[4]}, right
}

func (d *model) endpoint(f int) (api.Rcv, bool) {
	w, right := d.below(f, maxFrames-1, maxFrames, maxCount, 1, maxCount, 0, 0, 0)
	return api.Rcv{Thd: w[0], Parent: w[1], Count: w[2], Waits: w[3] == 1, Lost: w[4]}, right
}

// slotHas tells whether there is a capability in the slot of frame f, or what is none.
func (d *model) slotHas(f int, at int) bool {
	first, second := d.words[f][headWords+2*at], d.words[f][headWords+2*at+1]
	switch first {
	case kNone:
		return second != 0
	case kQuiet:
		return second > maxTime
	}
	return true
}

// entryHas tells whether there is a mapping in the entry of frame f, or what is none: all but
// the time must be 0 then.
func (d *model) entryHas(f int, at int) bool {
	w := d.words[f][headWords+at]
	return w%512 != 0 || w/512 > maxTime
}

// The calls, as the chapter's words have them.

func (d *model) fresh(f int) api.Errno {
	if !d.has(f) || d.is[f] != kernels {
		return api.ErrType
	}
	if d.count[f] != 0 || !d.begins(f, oNone, 0) {
		return api.ErrUsed
	}
	return api.OK
}

func (d *model) room(f int) bool { return d.has(f) && d.is[f] == kernels && d.count[f] < maxRefs }

func (d *model) ref(f int) { d.count[f]++ }

// unref lets f be needed once less; nothing happens if none needs it.
func (d *model) unref(f int) {
	if !d.has(f) || d.count[f] == 0 {
		return
	}
	d.count[f]--
	if d.count[f] == 0 {
		d.freed[f] = max(d.freed[f], d.now)
	}
}

// become makes frame f one of those words, with nothing behind them.
func (d *model) become(f int, w ...int) {
	d.words[f] = frame{}
	for at, one := range w {
		d.words[f][at] = uint64(one)
	}
}

func (d *model) table(f int, k int, level int) api.Errno {
	if e := d.fresh(f); e != api.OK {
		return e
	}
	if level != 0 && level != 1 {
		return api.ErrArg
	}
	d.become(f, k+leafBit*level)
	return api.OK
}

// take answers the least id that may be taken.
func (d *model) take() (int, int, bool) {
	for id := range ids {
		if d.lives[id] != gone || d.epoch[id] >= epochs-1 {
			continue
		}
		if d.epoch[id] == 0 || d.killed[id] < d.floors[0] {
			d.lives[id] = d.epoch[id]
			d.living++
			return id, d.epoch[id], true
		}
	}
	return 0, 0, false
}

func (d *model) die(id int) {
	d.lives[id] = gone
	d.living--
	d.epoch[id]++
	d.killed[id] = d.now
}

func (d *model) comp(f int, tbl int, pgt int) (api.Cap, api.Errno) {
	if e := d.fresh(f); e != api.OK {
		return api.Cap{}, e
	}
	if !d.begins(tbl, oTbl, 0) || !d.begins(pgt, oPgt, 0) {
		return api.Cap{}, api.ErrType
	}
	if !d.room(tbl) || !d.room(pgt) {
		return api.Cap{}, api.ErrFull
	}
	id, epoch, there := d.take()
	if !there {
		return api.Cap{}, api.ErrFull
	}
	d.become(f, oComp, 0, 0, 0, tbl, pgt, id, epoch)
	d.ref(tbl)
	d.ref(pgt)
	return api.Cap{K: kComp, R: allRights, T: f, L: id, E: epoch}, api.OK
}

func (d *model) thd(f int, c int, tcap int, rcv int) api.Errno {
	if e := d.fresh(f); e != api.OK {
		return e
	}
	in, e := d.component(c)
	if e != api.OK {
		return e
	}
	if !d.begins(tcap, oTcap, 0) || rcv != 0 && !d.begins(rcv-1, oRcv, 0) {
		return api.ErrType
	}
	if !d.room(tcap) || rcv != 0 && !d.room(rcv-1) {
		return api.ErrFull
	}
	d.become(f, oThd, 0, 0, 0, ready, 0, tcap, rcv, 1)
	d.words[f][17] = uint64(c + 1<<6*in.Tbl + 1<<12*in.Pgt + 1<<18*in.L + 1<<24*in.E)
	d.ref(tcap)
	if rcv != 0 {
		d.ref(rcv - 1)
	}
	return api.OK
}

func (d *model) tcap(f int) api.Errno {
	if e := d.fresh(f); e != api.OK {
		return e
	}
	d.become(f, oTcap)
	return api.OK
}

func (d *model) rcv(f int, t int, parent int) api.Errno {
	if e := d.fresh(f); e != api.OK {
		return e
	}
	if !d.begins(t, oThd, 0) || parent != 0 && !d.begins(parent-1, oRcv, 0) {
		return api.ErrType
	}
	if !d.room(t) || parent != 0 && !d.room(parent-1) {
		return api.ErrFull
	}
	d.become(f, oRcv, 0, 0, 0, t, parent)
	d.ref(t)
	if parent != 0 {
		d.ref(parent - 1)
	}
	return api.OK
}

func (d *model) kill(f int) api.Errno {
	c, e := d.component(f)
	if e != api.OK {
		return e
	}
	d.die(c.L)
	d.unref(c.Tbl)
	d.unref(c.Pgt)
	return api.OK
}

func (d *model) untype(f int) api.Errno {
	if !d.has(f) {
		return api.ErrArg
	}
	if d.is[f] == untyped {
		return api.ErrType
	}
	if d.count[f] != 0 {
		return api.ErrUsed
	}
	was := d.is[f]
	if d.is[f] == kernels {
		h, right := d.top(f)
		if !right || d.stays(f, h.k) {
			return api.ErrUsed
		}
		d.release(f, h.k)
		if h.k == oPgt {
			was = pages
		}
	}
	d.was[f] = was
	d.is[f] = untyped
	d.freed[f] = max(d.freed[f], d.now)
	return api.OK
}

// stays tells whether what is in frame f keeps it from being untyped.
func (d *model) stays(f int, k int) bool {
	switch k {
	case oTbl:
		return slices.ContainsFunc(upTo(slots), func(at int) bool { return d.slotHas(f, at) })
	case oPgt:
		return slices.ContainsFunc(upTo(entries), func(at int) bool { return d.entryHas(f, at) })
	case oComp:
		_, e := d.component(f)
		return e != api.ErrLive
	case oThd:
		t, right := d.thread(f)
		return !right || t.State != dead
	case oRcv:
		r, right := d.endpoint(f)
		return !right || r.Waits || slices.Contains(d.leads[:], f)
	}
	return false
}

// release lets what is in frame f need nothing any more.
func (d *model) release(f int, k int) {
	switch k {
	case oThd:
		t, _ := d.thread(f)
		d.unref(t.Tcap)
		if t.Rcv != 0 {
			d.unref(t.Rcv - 1)
		}
	case oRcv:
		r, _ := d.endpoint(f)
		d.unref(r.Thd)
		if r.Parent != 0 {
			d.unref(r.Parent - 1)
		}
	}
}

// world is a machine and its model, with which all is done together: behind each call their
// answers and all that they tell are held against each other.
type world struct {
	t *testing.T
	m *machine.Machine
	d model
}

// blank is a world of so many frames, all untyped, with nothing in them.
func blank(t *testing.T, frames int) *world {
	t.Helper()
	m, e := machine.New(api.Config{Frames: frames, Cores: 2, Room: room})
	must(t, e)
	w := &world{t: t, m: m}
	w.d.picture = look(m, &w.d)
	for f := range maxFrames {
		if w.d.is[f] != untyped || w.d.was[f] != 0 || w.d.count[f] != 0 || w.d.freed[f] != never {
			t.Fatalf("frame %d is something at the beginning", f)
		}
	}
	return w
}

func must(t *testing.T, e api.Errno) {
	if e != api.OK {
		t.Helper()
		t.Fatalf("refused: %d", e)
	}
}

// What is done ahead of a call, by the layers below.

// typed makes frame f, which is untyped, one of those.
func (w *world) typed(f int, is int) {
	w.t.Helper()
	must(w.t, w.m.Typ().Retype(f, is, true))
	w.d.is[f] = is
}

// retyped makes frame f one of those, whatever it is.
func (w *world) retyped(f int, is int) {
	w.t.Helper()
	if w.d.is[f] != untyped {
		w.needed(f, 0)
		must(w.t, w.m.Typ().Untype(f, 0, false))
		w.d.was[f], w.d.is[f] = w.d.is[f], untyped
		w.d.freed[f] = max(w.d.freed[f], 0)
	}
	if is != untyped {
		w.typed(f, is)
	}
}

// needed lets frame f be needed so often.
func (w *world) needed(f int, count int) {
	w.t.Helper()
	for w.d.count[f] < count {
		must(w.t, w.m.Typ().Ref(f))
		w.d.count[f]++
	}
	for w.d.count[f] > count {
		must(w.t, w.m.Typ().Unref(f, 0))
		w.d.count[f]--
		if w.d.count[f] == 0 {
			w.d.freed[f] = max(w.d.freed[f], 0)
		}
	}
}

// lay makes frame f one that begins with those words; the others are 0.
func (w *world) lay(f int, all ...uint64) {
	w.t.Helper()
	var to frame
	copy(to[:], all)
	for at, one := range to {
		if w.d.words[f][at] != one {
			w.store(f, at, one)
		}
	}
}

// store makes one the word at of frame f.
func (w *world) store(f int, at int, one uint64) {
	w.t.Helper()
	must(w.t, w.m.Mem().Store(f, at, one))
	w.d.words[f][at] = one
}

// scribble lets frame f have something in all words behind its head.
func (w *world) scribble(f int) {
	w.t.Helper()
	for at := headWords; at < words; at++ {
		w.store(f, at, 1<<40+uint64(1000*f+at))
	}
}

// tick lets the core take a step, and enter, or flush.
func (w *world) tick(number int, enter bool, flush bool) {
	w.t.Helper()
	must(w.t, w.m.Clock().Step(number))
	w.d.now++
	w.d.core[number].cycles++
	if enter {
		must(w.t, w.m.Clock().Enter(number))
		w.d.core[number].entered = w.d.now
	}
	if flush {
		must(w.t, w.m.Clock().Flush(number))
		w.d.core[number].flushed = w.d.now
	}
	w.d.floors[0] = min(w.d.core[0].entered, w.d.core[1].entered)
	w.d.floors[1] = min(w.d.core[0].flushed, w.d.core[1].flushed)
}

// born takes an id.
func (w *world) born() (int, int) {
	w.t.Helper()
	id, epoch, e := w.m.Live().Take(w.d.floors[0])
	wantId, wantEpoch, there := w.d.take()
	if id != wantId || epoch != wantEpoch || (e == api.OK) != there {
		w.t.Fatalf("Take: %d, %d, %d; want %d, %d, %v", id, epoch, e, wantId, wantEpoch, there)
	}
	return id, epoch
}

// killed kills an id that lives.
func (w *world) killed(id int) {
	w.t.Helper()
	must(w.t, w.m.Live().Kill(id, w.d.lives[id], w.d.now))
	w.d.die(id)
}

// lead lets a line that leads nowhere lead to frame f.
func (w *world) lead(line int, f int) {
	w.t.Helper()
	must(w.t, w.m.Lines().Attach(line, f))
	w.d.leads[line] = f
}

func (w *world) unlead(line int) {
	w.t.Helper()
	_, e := w.m.Lines().Detach(line)
	must(w.t, e)
	w.d.leads[line] = nowhere
}

// stir lets the machine have something in every part that no call of the layer is for.
func (w *world) stir() {
	w.t.Helper()
	for number := range 2 {
		w.tick(number, true, number == 0)
		w.tick(number, false, true)
		must(w.t, w.m.SetCur(number, 7+number))
		must(w.t, w.m.Regs(number).Set(number, 9))
		must(w.t, w.m.Tlb(number).Put(api.Key{Space: number, Page: 3}, api.Pte{On: true, F: 4, R: 1}))
		c := &w.d.core[number]
		c.cur, c.regs[number], c.keys[0] = 7+number, 9, api.Key{Space: number, Page: 3}
		c.ptes[0] = api.Pte{On: true, F: 4, R: 1}
	}
}

// The calls, done with both.

// held fails if the call was not answered as the model does, or the machine is not as the
// model is.
func (w *world) held(name string, got any, want any, numbers ...int) {
	if got != want {
		w.t.Helper()
		w.t.Fatalf("%s%v: %v; want %v", name, numbers, got, want)
	}
	if p := look(w.m, &w.d); p != w.d.picture {
		w.t.Helper()
		w.t.Fatalf("%s%v: %v, but the machine is not as it should be: %s", name, numbers, got, differs(&p, &w.d.picture))
	}
}

// differs says where two pictures do.
func differs(a *picture, b *picture) string {
	for f := range maxFrames {
		switch {
		case a.words[f] != b.words[f]:
			return "words of a frame"
		case a.is[f] != b.is[f], a.was[f] != b.was[f]:
			return "what a frame is, or was"
		case a.count[f] != b.count[f]:
			return "a count"
		case a.freed[f] != b.freed[f]:
			return "when a frame was freed"
		}
	}
	switch {
	case a.lives != b.lives, a.living != b.living:
		return "who lives"
	case a.core != b.core:
		return "cores"
	}
	return "lines, or times"
}

func (w *world) tbl(f int, level int) api.Errno {
	w.t.Helper()
	want := w.d.table(f, oTbl, level)
	w.held("Tbl", build.Tbl(w.m, f, level), want, f, level)
	return want
}

func (w *world) pgt(f int, level int) api.Errno {
	w.t.Helper()
	want := w.d.table(f, oPgt, level)
	w.held("Pgt", build.Pgt(w.m, f, level), want, f, level)
	return want
}

// said is what Comp answers.
type said struct {
	c api.Cap
	e api.Errno
}

func (w *world) comp(f int, tbl int, pgt int) (api.Cap, api.Errno) {
	w.t.Helper()
	var got, want said
	want.c, want.e = w.d.comp(f, tbl, pgt)
	got.c, got.e = build.Comp(w.m, f, tbl, pgt)
	w.held("Comp", got, want, f, tbl, pgt)
	if got.e != api.OK && got.c != (api.Cap{}) {
		w.t.Fatalf("Comp: %v beside %d", got.c, got.e)
	}
	return want.c, want.e
}

func (w *world) thd(f int, c int, tcap int, rcv int) api.Errno {
	w.t.Helper()
	want := w.d.thd(f, c, tcap, rcv)
	w.held("Thd", build.Thd(w.m, f, c, tcap, rcv), want, f, c, tcap, rcv)
	return want
}

func (w *world) tcap(f int) api.Errno {
	w.t.Helper()
	want := w.d.tcap(f)
	w.held("Tcap", build.Tcap(w.m, f), want, f)
	return want
}

func (w *world) rcv(f int, t int, parent int) api.Errno {
	w.t.Helper()
	want := w.d.rcv(f, t, parent)
	w.held("Rcv", build.Rcv(w.m, f, t, parent), want, f, t, parent)
	return want
}

func (w *world) kill(f int) api.Errno {
	w.t.Helper()
	want := w.d.kill(f)
	w.held("Kill", build.Kill(w.m, f), want, f)
	return want
}

func (w *world) untype(f int) api.Errno {
	w.t.Helper()
	want := w.d.untype(f)
	w.held("Untype", build.Untype(w.m, f), want, f)
	return want
}

// is fails if the answer is another one.
func (w *world) is(e api.Errno, want api.Errno) {
	if e != want {
		w.t.Helper()
		w.t.Fatalf("answered %d; want %d", e, want)
	}
}

// Numbers and words that tests go over.

func upTo(n int) []int {
	var out []int
	for i := range n {
		out = append(out, i)
	}
	return out
}

// far are numbers behind all ranges; the low bits of some are those of one in a range.
func far() []int {
	out := []int{-1, -2, -3, -5, -16, -63, -64, -65, -256, -65536, math.MinInt, math.MinInt + 1, math.MinInt + 5, math.MaxInt, math.MaxInt - 1, 128, 256, 257, 65536}
	for _, bit := range []int{31, 32, 33, 48, 62} {
		for _, low := range []int{0, 1, 2, 5, 7} {
			out = append(out, 1<<bit+low, -1<<bit+low)
		}
	}
	return out
}

// noFrames are numbers of frames that a machine of so many has not.
func noFrames(frames int) []int {
	return append(far(), frames, frames+1, maxFrames, maxFrames+1, maxFrames+frames)
}

// heads are words with which frames begin, of each kind and level, frozen or not.
func heads() [][]uint64 {
	return [][]uint64{
		{oNone}, {oTbl}, {oTbl + leafBit}, {oTbl + frozenBit}, {oTbl + frozenBit, 9}, {oTbl + leafBit + frozenBit},
		{oTbl + leafBit + frozenBit, maxTime}, {oPgt}, {oPgt + leafBit}, {oComp}, {oThd}, {oTcap}, {oRcv},
	}
}

// noHeads are words with which frames begin that are no head.
func noHeads() [][]uint64 {
	out := [][]uint64{
		{7}, {15}, {64}, {64 + oTbl}, {64 + oThd}, {1 << 63}, {1<<32 + oTbl}, {math.MaxUint64}, {oTbl + frozenBit, maxTime + 1},
		{oTbl + frozenBit, 1 << 63}, {oPgt + frozenBit}, {oPgt + frozenBit, 3}, {leafBit}, {frozenBit}, {frozenBit, 4},
	}
	for k := range uint64(oRcv + 1) {
		out = append(out, []uint64{k, 1}, []uint64{k, 1 << 63}, []uint64{k, 0, 1}, []uint64{k, 0, 0, 1}, []uint64{k, 0, 1 << 40}, []uint64{k, 0, 0, 1 << 63})
		if k > oPgt {
			out = append(out, []uint64{k + leafBit}, []uint64{k + frozenBit}, []uint64{k + frozenBit, 3})
		}
	}
	return out
}

// allHeads are those of both.
func allHeads() [][]uint64 { return append(heads(), noHeads()...) }

// row is a row of numbers that hang on the last one.
type row uint64

func (x *row) pick(n int) int {
	*x = *x*6364136223846793005 + 1442695040888963407
	return int(*x>>33) % n
}

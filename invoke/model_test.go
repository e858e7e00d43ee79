package invoke_test

import (
	"math"
	"testing"

	"palanquin/api"
	"palanquin/invoke"
	"palanquin/machine"
)

// The document's limits, as numbers of their own.
const (
	maxFrames = 64
	maxCores  = 4
	headWords = 4
	words     = 36
	maxDepth  = 6
	ids       = 64
	maxEpoch  = 65536
	maxRefs   = 1000
	maxTime   = 1 << 30
	maxRight  = 31
	registers = 8
	lineCount = 8
	room      = 3
)

// The kinds of heads and of capabilities, what frames are, and what threads are at most, as
// numbers of their own.
const (
	oNone, oTbl, oPgt, oComp, oThd, oTcap, oRcv = 0, 1, 2, 3, 4, 5, 6

	cInv, cHw = 7, 11

	untyped, users, kernels = 0, 1, 2

	dead = 3
)

// What is added to a head's first word.
const (
	leafBit   = 1 << 4
	frozenBit = 1 << 5
)

// Where things lie in frames: the parts of a component, those of a thread, and its records.
const (
	atTbl, atPgt, atL, atE, atFault, atAt = 4, 5, 6, 7, 8, 9

	atState, atCore, atTcap, atRcv, atDepth = 4, 5, 6, 7, 8

	atRegs, atRecords, behind = 9, 17, 29
)

// nowhere is where a line leads that leads nowhere; gone is the epoch of an id that does not
// live.
const (
	nowhere = -1
	gone    = -1
)

// epochs is in how many of their first epochs ids are looked for.
const epochs = 10

type frame [words]uint64

// core is what a machine tells of a core.
type core struct {
	cycles, entered, flushed, cur int
	regs                          [registers]uint64
	keys                          [room]api.Key
	ptes                          [room]api.Pte
}

// model is a machine as the chapters' words have it, as a value: what it tells is held
// against it whole.
type model struct {
	now, cores, frames int
	floors             [2]int
	words              [maxFrames]frame
	is, was            [maxFrames]int
	count, freed       [maxFrames]int
	lives              [ids]int
	living             int
	leads              [lineCount]int
	core               [2]core
}

// look answers all that a machine tells.
func look(m *machine.Machine) model {
	d := model{now: m.Now(), cores: m.Cores(), frames: m.Mem().Len(), living: m.Live().Count()}
	d.floors[0], d.floors[1] = m.Floors()
	for f := range maxFrames {
		all, _ := m.Mem().Words(f)
		copy(d.words[f][:], all)
		d.is[f], d.was[f] = m.Typ().Type(f), m.Typ().Was(f)
		d.count[f], d.freed[f] = m.Typ().Count(f), m.Typ().Freed(f)
	}
	for number := range d.core {
		d.core[number] = lookCore(m, number)
	}
	for id := range ids {
		d.lives[id] = gone
		for epoch := range epochs {
			if m.Live().Valid(id, epoch) {
				d.lives[id] = epoch
			}
		}
	}
	for line := range lineCount {
		d.leads[line] = nowhere
		if f, e := m.Lines().Of(line); e == api.OK {
			d.leads[line] = f
		}
	}
	return d
}

func lookCore(m *machine.Machine, number int) core {
	c := m.Clock()
	out := core{cycles: c.Cycles(number), entered: c.Entered(number), flushed: c.Flushed(number), cur: m.Cur(number)}
	copy(out.regs[:], m.Regs(number).All())
	for i, k := range m.Tlb(number).Keys() {
		out.keys[i] = k
		out.ptes[i], _ = m.Tlb(number).Get(k)
	}
	return out
}

// What words say, as the chapters below have it.

func within(n int, least int, most int) bool { return n >= least && n <= most }

func (d *model) has(f int) bool { return within(f, 0, d.frames-1) }

// isKind tells whether frame f begins as one of that kind, of no level.
func (d *model) isKind(f int, k uint64) bool {
	return d.has(f) && [headWords]uint64(d.words[f][:headWords]) == [headWords]uint64{k}
}

// upTo tells whether the words of frame f from at on are at most those.
func (d *model) upTo(f int, at int, most ...uint64) bool {
	for i, n := range most {
		if d.words[f][at+i] > n {
			return false
		}
	}
	return true
}

// word answers a word of frame f as a number.
func (d *model) word(f int, at int) int { return int(d.words[f][at]) }

// comp answers the component in frame f, whether it lives or not.
func (d *model) comp(f int) (api.Comp, api.Errno) {
	if !d.isKind(f, oComp) {
		return api.Comp{}, api.ErrType
	}
	if !d.upTo(f, atTbl, 63, 63, 63, 65535, 64, maxTime) || d.words[f][atFault] == 0 && d.words[f][atAt] != 0 {
		return api.Comp{}, api.ErrForm
	}
	return api.Comp{
		Tbl: d.word(f, atTbl), Pgt: d.word(f, atPgt), L: d.word(f, atL), E: d.word(f, atE),
		Fault: d.word(f, atFault), At: d.word(f, atAt),
	}, api.OK
}

// alive tells whether an id lives, in that epoch.
func (d *model) alive(id int, epoch int) bool {
	return within(id, 0, ids-1) && epoch >= 0 && d.lives[id] == epoch
}

// livingComp answers the component in frame f, if it lives.
func (d *model) livingComp(f int) (api.Comp, api.Errno) {
	c, e := d.comp(f)
	if e == api.OK && !d.alive(c.L, c.E) {
		return api.Comp{}, api.ErrLive
	}
	return c, e
}

// depth answers how many records the thread in frame f has.
func (d *model) depth(f int) (int, api.Errno) {
	if !d.isKind(f, oThd) {
		return 0, api.ErrType
	}
	if !d.upTo(f, atState, dead, maxCores-1, maxFrames-1, maxFrames, maxDepth) {
		return 0, api.ErrForm
	}
	return d.word(f, atDepth), api.OK
}

// packed is the first word of a record.
func packed(r api.Frame) uint64 {
	return uint64(r.Comp + 64*(r.Tbl+64*(r.Pgt+64*(r.L+64*r.E))))
}

// record answers the record i of the thread in frame f.
func (d *model) record(f int, i int) (api.Frame, api.Errno) {
	first, second := d.words[f][atRecords+2*i], d.words[f][atRecords+2*i+1]
	if first >= 1<<40 || second > maxTime {
		return api.Frame{}, api.ErrForm
	}
	cut := func(by int) int { return int(first>>by) & 63 }
	return api.Frame{Comp: cut(0), Tbl: cut(6), Pgt: cut(12), L: cut(18), E: int(first >> 24), Ip: int(second)}, api.OK
}

// The calls, as the chapter's words have them; what can be refused is refused ahead of all that
// is changed.

func (d *model) here(f int) (api.Frame, api.Errno) {
	depth, e := d.depth(f)
	if e != api.OK {
		return api.Frame{}, e
	}
	if depth == 0 {
		return api.Frame{}, api.ErrDepth
	}
	return d.record(f, depth-1)
}

func (d *model) enter(f int, c int, at int) api.Errno {
	in, e := d.livingComp(c)
	if e != api.OK {
		return e
	}
	if !within(at, 0, maxTime) {
		return api.ErrArg
	}
	depth, e := d.depth(f)
	if e != api.OK {
		return e
	}
	if depth == maxDepth {
		return api.ErrDepth
	}
	w := &d.words[f]
	w[atRecords+2*depth] = packed(api.Frame{Comp: c, Tbl: in.Tbl, Pgt: in.Pgt, L: in.L, E: in.E})
	w[atRecords+2*depth+1] = uint64(at)
	w[atDepth]++
	return api.OK
}

// rightInv tells whether a CInv can be so.
func rightInv(c api.Cap) bool {
	return c.K == cInv && within(c.R, 0, maxRight) && within(c.T, 0, maxFrames-1) && within(c.L, 0, ids-1) &&
		within(c.E, 0, maxEpoch-1) && within(c.A, 0, maxTime)
}

func (d *model) call(f int, c api.Cap, ip int) api.Errno {
	if !within(ip, 0, maxTime) {
		return api.ErrArg
	}
	if !rightInv(c) {
		return api.ErrType
	}
	if _, e := d.here(f); e != api.OK {
		return e
	}
	if in, e := d.livingComp(c.T); e != api.OK || in.L != c.L || in.E != c.E {
		return api.ErrLive
	}
	depth := d.word(f, atDepth)
	if depth == maxDepth {
		return api.ErrDepth
	}
	d.words[f][atRecords+2*depth-1] = uint64(ip)
	return d.enter(f, c.T, c.A)
}

func (d *model) ret(f int) (int, api.Errno) {
	depth, e := d.depth(f)
	if e != api.OK {
		return 0, e
	}
	var all [maxDepth]api.Frame
	for i := range depth {
		if all[i], e = d.record(f, i); e != api.OK {
			return 0, e
		}
	}
	if depth < 2 {
		return 0, api.ErrDepth
	}
	back := all[depth-2]
	if !d.alive(back.L, back.E) {
		return 0, api.ErrLive
	}
	d.words[f][atDepth]--
	return back.Ip, api.OK
}

func (d *model) fault(f int) api.Errno {
	r, e := d.here(f)
	if e != api.OK {
		return e
	}
	in, e := d.livingComp(r.Comp)
	switch {
	case e != api.OK, in.L != r.L, in.E != r.E:
		return api.ErrLive
	case in.Fault == 0:
		return api.ErrNone
	}
	return d.enter(f, in.Fault-1, in.At)
}

// world is a machine and its model, with which all is done together: behind each call their
// answers and all that they tell are held against each other.
type world struct {
	t *testing.T
	m *machine.Machine
	d model
}

// blank is a world of so many frames, all untyped, with nothing in them.
func blank(t *testing.T, frames int) *world {
	t.Helper()
	m, e := machine.New(api.Config{Frames: frames, Cores: 2, Room: room})
	must(t, e)
	return &world{t: t, m: m, d: look(m)}
}

func must(t *testing.T, e api.Errno) {
	if e != api.OK {
		t.Helper()
		t.Fatalf("refused: %d", e)
	}
}

// What is done ahead of a call, by the layers below.

// retyped makes frame f one of those, whatever it is, and leaves its words.
func (w *world) retyped(f int, is int) {
	w.t.Helper()
	if w.d.is[f] != untyped {
		w.needed(f, 0)
		must(w.t, w.m.Typ().Untype(f, 0, false))
		w.d.was[f], w.d.is[f] = w.d.is[f], untyped
		w.d.freed[f] = max(w.d.freed[f], 0)
	}
	if is != untyped {
		must(w.t, w.m.Typ().Retype(f, is, true))
		w.d.is[f] = is
	}
}

// needed lets frame f be needed so often.
func (w *world) needed(f int, count int) {
	w.t.Helper()
	for w.d.count[f] < count {
		must(w.t, w.m.Typ().Ref(f))
		w.d.count[f]++
	}
	for w.d.count[f] > count {
		must(w.t, w.m.Typ().Unref(f, 0))
		w.d.count[f]--
		if w.d.count[f] == 0 {
			w.d.freed[f] = max(w.d.freed[f], 0)
		}
	}
}

// store makes one the word at of frame f.
func (w *world) store(f int, at int, one uint64) {
	w.t.Helper()
	must(w.t, w.m.Mem().Store(f, at, one))
	w.d.words[f][at] = one
}

// begin makes frame f one that begins with those words; the others of its head are 0.
func (w *world) begin(f int, all ...uint64) {
	w.t.Helper()
	var to [headWords]uint64
	copy(to[:], all)
	for at, one := range to {
		w.store(f, at, one)
	}
}

// say lays numbers into frame f, from at on.
func (w *world) say(f int, at int, all ...int) {
	w.t.Helper()
	for i, one := range all {
		w.store(f, at+i, uint64(one))
	}
}

// component makes frame f that component.
func (w *world) component(f int, c api.Comp) {
	w.t.Helper()
	w.begin(f, oComp)
	w.say(f, atTbl, c.Tbl, c.Pgt, c.L, c.E, c.Fault, c.At)
}

// lay makes r the record i of the thread in frame f.
func (w *world) lay(f int, i int, r api.Frame) {
	w.t.Helper()
	w.store(f, atRecords+2*i, packed(r))
	w.store(f, atRecords+2*i+1, uint64(r.Ip))
}

// deepen lets the thread in frame f have so many records, whatever lies there.
func (w *world) deepen(f int, depth int) {
	w.t.Helper()
	w.say(f, atDepth, depth)
}

// kill lets an id live no more.
func (w *world) kill(id int) {
	w.t.Helper()
	must(w.t, w.m.Live().Kill(id, w.d.lives[id], 0))
	w.d.lives[id] = gone
	w.d.living--
}

// take lets the least id live that does not, and answers it, with its epoch.
func (w *world) take() (int, int) {
	w.t.Helper()
	id, epoch, e := w.m.Live().Take(1)
	must(w.t, e)
	w.d.lives[id] = epoch
	w.d.living++
	return id, epoch
}

// The calls, done with both.

// held fails if the call was not answered as the model does, or the machine is not as the
// model is.
func (w *world) held(name string, got any, want any, asked ...any) {
	if got != want {
		w.t.Helper()
		w.t.Fatalf("%s%v: %v; want %v", name, asked, got, want)
	}
	if d := look(w.m); d != w.d {
		w.t.Helper()
		w.t.Fatalf("%s%v: %v, but the machine is not as it should be: %s", name, asked, got, differs(&d, &w.d))
	}
}

// differs says where two do.
func differs(a *model, b *model) string {
	for f := range maxFrames {
		switch {
		case a.words[f] != b.words[f]:
			return "words of a frame"
		case a.is[f] != b.is[f], a.was[f] != b.was[f]:
			return "what a frame is, or was"
		case a.count[f] != b.count[f]:
			return "a count"
		case a.freed[f] != b.freed[f]:
			return "when a frame was freed"
		}
	}
	switch {
	case a.lives != b.lives, a.living != b.living:
		return "who lives"
	case a.core != b.core:
		return "cores"
	}
	return "lines, or times"
}

func (w *world) call(f int, c api.Cap, ip int) api.Errno {
	w.t.Helper()
	want := w.d.call(f, c, ip)
	w.held("Call", invoke.Call(w.m, f, c, ip), want, f, c, ip)
	return want
}

// back is what Ret answers.
type back struct {
	ip int
	e  api.Errno
}

func (w *world) ret(f int) (int, api.Errno) {
	w.t.Helper()
	var got, want back
	want.ip, want.e = w.d.ret(f)
	got.ip, got.e = invoke.Ret(w.m, f)
	w.held("Ret", got, want, f)
	return want.ip, want.e
}

func (w *world) fault(f int) api.Errno {
	w.t.Helper()
	want := w.d.fault(f)
	w.held("Fault", invoke.Fault(w.m, f), want, f)
	return want
}

// found is what Here answers.
type found struct {
	r api.Frame
	e api.Errno
}

func (w *world) here(f int) (api.Frame, api.Errno) {
	w.t.Helper()
	var got, want found
	want.r, want.e = w.d.here(f)
	got.r, got.e = invoke.Here(w.m, f)
	w.held("Here", got, want, f)
	return want.r, want.e
}

func (w *world) enter(f int, c int, at int) api.Errno {
	w.t.Helper()
	want := w.d.enter(f, c, at)
	w.held("Enter", invoke.Enter(w.m, f, c, at), want, f, c, at)
	return want
}

// is fails if the answer is another one.
func (w *world) is(e api.Errno, want api.Errno) {
	if e != want {
		w.t.Helper()
		w.t.Fatalf("answered %d; want %d", e, want)
	}
}

// returns fails if Ret answered something else.
func (w *world) returns(f int, want int, wantE api.Errno) {
	w.t.Helper()
	if ip, e := w.ret(f); ip != want || e != wantE {
		w.t.Fatalf("Ret(%d): %d, %d; want %d, %d", f, ip, e, want, wantE)
	}
}

// tells fails if Here answered something else.
func (w *world) tells(f int, want api.Frame, wantE api.Errno) {
	w.t.Helper()
	if r, e := w.here(f); r != want || e != wantE {
		w.t.Fatalf("Here(%d): %v, %d; want %v, %d", f, r, e, want, wantE)
	}
}

// Numbers and words that tests go over.

// far are numbers behind all ranges; the low bits of some are those of one in a range.
func far() []int {
	out := []int{-1, -2, -3, -4, -5, -16, -31, -32, -33, -63, -64, -65, -1024, -65536, math.MinInt, math.MinInt + 1, math.MinInt + 5, math.MaxInt, math.MaxInt - 1, math.MaxInt - 3}
	for _, bit := range []int{31, 32, 33, 48, 57, 58, 59, 62} {
		for _, low := range []int{0, 1, 2, 5, 6, 7, 9} {
			out = append(out, 1<<bit+low, -1<<bit+low)
		}
	}
	return out
}

// noFrames are numbers of frames that a machine of so many has not.
func noFrames(frames int) []int {
	return append(far(), frames, frames+1, maxFrames, maxFrames+1, maxFrames+frames, maxTime, maxTime+9)
}

// places are where a component can be entered, and where a call can go on; noPlaces are
// where not.
func places() []int {
	return []int{0, 1, 2, 63, 64, 65535, 65536, 1 << 29, maxTime - 1, maxTime}
}

func noPlaces() []int { return append(far(), maxTime+1, maxTime+2, maxTime+64, 2*maxTime-1, 2*maxTime) }

// heads are words with which frames begin, of each kind and level.
func heads() [][]uint64 {
	return [][]uint64{
		{oNone}, {oTbl}, {oTbl + leafBit}, {oTbl + frozenBit}, {oTbl + frozenBit, 9}, {oTbl + leafBit + frozenBit, maxTime},
		{oPgt}, {oPgt + leafBit}, {oComp}, {oThd}, {oTcap}, {oRcv},
	}
}

// noHeads are words with which frames begin that are no head.
func noHeads() [][]uint64 {
	out := [][]uint64{
		{7}, {15}, {64}, {64 + oComp}, {64 + oThd}, {1 << 63}, {1<<32 + oComp}, {1<<63 + oThd}, {math.MaxUint64},
		{oComp + frozenBit}, {oComp + frozenBit, 1}, {oThd + frozenBit}, {oThd + leafBit + frozenBit, 3},
		{oTbl + frozenBit, maxTime + 1}, {oTbl + leafBit, 1}, {leafBit}, {frozenBit}, {oComp + leafBit}, {oThd + leafBit},
	}
	for _, k := range []uint64{oNone, oTbl, oComp, oThd, oTcap} {
		out = append(out, []uint64{k, 1}, []uint64{k, 1 << 63}, []uint64{k, 0, 1}, []uint64{k, 0, 0, 1}, []uint64{k, 0, 1 << 40}, []uint64{k, 0, 0, 1 << 63})
	}
	return out
}

// allHeads are those of both.
func allHeads() [][]uint64 { return append(heads(), noHeads()...) }

// wrong is a word of a frame for which what lies there is not right.
type wrong struct {
	at  int
	one uint64
}

// tooGreat are words greater than most, at that place.
func tooGreat(at int, most uint64) []wrong {
	return []wrong{{at, most + 1}, {at, most + 2}, {at, 1<<32 + 1}, {at, 1<<32 + most}, {at, 1 << 62}, {at, 1 << 63}, {at, 1<<63 + 1}, {at, math.MaxUint64}}
}

// noComps are those of components.
func noComps() []wrong {
	var out []wrong
	for i, most := range []uint64{63, 63, 63, 65535, 64, maxTime} {
		out = append(out, tooGreat(atTbl+i, most)...)
	}
	return append(out, wrong{atFault, 0}) // of one that has an At
}

// noThds are those of threads.
func noThds() []wrong {
	var out []wrong
	for i, most := range []uint64{dead, maxCores - 1, maxFrames - 1, maxFrames, maxDepth} {
		out = append(out, tooGreat(atState+i, most)...)
	}
	return out
}

// noRecords are those of the record i of threads.
func noRecords(i int) []wrong {
	first := []wrong{{atRecords + 2*i, 1 << 40}, {atRecords + 2*i, 1<<40 + 5}, {atRecords + 2*i, 1 << 63}, {atRecords + 2*i, 1<<62 + 5}, {atRecords + 2*i, math.MaxUint64}}
	return append(first, tooGreat(atRecords+2*i+1, maxTime)...)
}

// row is a row of numbers that hang on the last one.
type row uint64

func (x *row) pick(n int) int {
	*x = *x*6364136223846793005 + 1442695040888963407
	return int(*x>>33) % n
}

func pickOf[V any](x *row, all []V) V { return all[x.pick(len(all))] }

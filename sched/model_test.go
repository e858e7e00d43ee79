package sched_test

import (
	"math"
	"testing"

	"palanquin/api"
	"palanquin/machine"
	"palanquin/sched"
)

// The document's limits, as numbers of their own.
const (
	maxFrames = 64
	maxCores  = 4
	headWords = 4
	words     = 36
	maxDepth  = 6
	maxRing   = 8
	maxCount  = 255
	maxBudget = 1 << 20
	ids       = 64
	maxTime   = 1 << 30
	maxRefs   = 1000
	registers = 8
	lineCount = 8
	room      = 3
)

// The kinds of heads, what frames are, the states of threads, and the kinds of events, as
// numbers of their own.
const (
	oNone, oTbl, oPgt, oComp, oThd, oTcap, oRcv = 0, 1, 2, 3, 4, 5, 6

	untyped, users, kernels = 0, 1, 2

	ready, runs, waits, dead = 0, 1, 2, 3

	vBlock, vReady, vSpent, vFault, vDead, vLine = 1, 2, 3, 4, 5, 6
)

// What is added to a head's first word.
const (
	leafBit   = 1 << 4
	frozenBit = 1 << 5
)

// Where things lie in frames: the parts of a component, those of a thread with its registers
// and records, those of a budget, and those of an endpoint with its ring.
const (
	atTbl, atPgt, atL, atE, atFault, atAt = 4, 5, 6, 7, 8, 9

	atState, atCore, atTcap, atRcv, atDepth = 4, 5, 6, 7, 8

	atRegs, atRecords = 9, 17

	atInf, atLeft, atPrio = 4, 5, 6

	atThd, atParent, atCount, atWaits, atLost = 4, 5, 6, 7, 8

	atNothing, atBegin, atMany, atEvents = 9, 12, 13, 14
)

// nowhere is where a line leads that leads nowhere; gone is the epoch of an id that does not
// live; nobody is the thread of a core on which none runs.
const (
	nowhere = -1
	gone    = -1
	nobody  = -1
)

// epochs is in how many of their first epochs ids are looked for.
const epochs = 10

type frame [words]uint64

// core is what a machine tells of a core.
type core struct {
	cycles, entered, flushed, cur int
	regs                          [registers]uint64
	keys                          [room]api.Key
	ptes                          [room]api.Pte
}

// model is a machine as the chapters' words have it, as a value: what it tells is held
// against it whole.
type model struct {
	now, cores, frames int
	floors             [2]int
	words              [maxFrames]frame
	is, was            [maxFrames]int
	count, freed       [maxFrames]int
	lives              [ids]int
	living             int
	leads              [lineCount]int
	core               [maxCores]core
}

// look answers all that a machine tells.
func look(m *machine.Machine) model {
	d := model{now: m.Now(), cores: m.Cores(), frames: m.Mem().Len(), living: m.Live().Count()}
	d.floors[0], d.floors[1] = m.Floors()
	for f := range maxFrames {
		all, _ := m.Mem().Words(f)
		copy(d.words[f][:], all)
		d.is[f], d.was[f] = m.Typ().Type(f), m.Typ().Was(f)
		d.count[f], d.freed[f] = m.Typ().Count(f), m.Typ().Freed(f)
	}
	for number := range d.core {
		d.core[number] = lookCore(m, number)
	}
	for id := range ids {
		d.lives[id] = gone
		for epoch := range epochs {
			if m.Live().Valid(id, epoch) {
				d.lives[id] = epoch
			}
		}
	}
	for line := range lineCount {
		d.leads[line] = nowhere
		if f, e := m.Lines().Of(line); e == api.OK {
			d.leads[line] = f
		}
	}
	return d
}

func lookCore(m *machine.Machine, number int) core {
	c := m.Clock()
	out := core{cycles: c.Cycles(number), entered: c.Entered(number), flushed: c.Flushed(number), cur: m.Cur(number)}
	copy(out.regs[:], m.Regs(number).All())
	for i, k := range m.Tlb(number).Keys() {
		out.keys[i] = k
		out.ptes[i], _ = m.Tlb(number).Get(k)
	}
	return out
}

// What words say, as the chapters below have it.

func within(n int, least int, most int) bool { return n >= least && n <= most }

func (d *model) has(f int) bool { return within(f, 0, d.frames-1) }

func (d *model) hasCore(number int) bool { return within(number, 0, d.cores-1) }

// isKind tells whether frame f begins as one of that kind, of no level.
func (d *model) isKind(f int, k uint64) bool {
	return d.has(f) && [headWords]uint64(d.words[f][:headWords]) == [headWords]uint64{k}
}

// object answers why frame f is nothing of that kind, whose words are at most those, or OK.
func (d *model) object(f int, k uint64, most ...uint64) api.Errno {
	if !d.isKind(f, k) {
		return api.ErrType
	}
	for i, n := range most {
		if d.words[f][headWords+i] > n {
			return api.ErrForm
		}
	}
	return api.OK
}

// word answers a word of frame f as a number.
func (d *model) word(f int, at int) int { return int(d.words[f][at]) }

// alive tells whether an id lives, in that epoch.
func (d *model) alive(id int, epoch int) bool {
	return within(id, 0, ids-1) && epoch >= 0 && d.lives[id] == epoch
}

// thread answers why frame f is no thread, or OK.
func (d *model) thread(f int) api.Errno {
	return d.object(f, oThd, dead, maxCores-1, maxFrames-1, maxFrames, maxDepth)
}

// budget answers why frame f is no budget, or OK.
func (d *model) budget(f int) api.Errno {
	e := d.object(f, oTcap, 1, maxBudget, maxCount)
	if e == api.OK && d.words[f][atInf] == 1 && d.words[f][atLeft] != 0 {
		return api.ErrForm
	}
	return e
}

// endpoint answers why frame f is no endpoint, or OK. Its ring does not count.
func (d *model) endpoint(f int) api.Errno {
	return d.object(f, oRcv, maxFrames-1, maxFrames, maxCount, 1, maxCount, 0, 0, 0)
}

// packed is the first word of a record.
func packed(r api.Frame) uint64 {
	return uint64(r.Comp + 64*(r.Tbl+64*(r.Pgt+64*(r.L+64*r.E))))
}

// eventWord is the word of an event.
func eventWord(k int, f int) uint64 { return uint64(k + 16*f) }

// The calls, as the chapter's words have them.

func (d *model) can(f int) api.Errno {
	if e := d.thread(f); e != api.OK {
		return e
	}
	if d.words[f][atState] != ready {
		return api.ErrUsed
	}
	depth := d.word(f, atDepth)
	if depth == 0 {
		return api.ErrDepth
	}
	first, second := d.words[f][atRecords+2*depth-2], d.words[f][atRecords+2*depth-1]
	if first >= 1<<40 || second > maxTime {
		return api.ErrForm
	}
	if !d.alive(int(first>>18)&63, int(first>>24)) {
		return api.ErrLive
	}
	b := d.word(f, atTcap)
	if d.budget(b) != api.OK || d.words[b][atInf] == 0 && d.words[b][atLeft] == 0 {
		return api.ErrTime
	}
	return api.OK
}

func (d *model) run(number int, f int) api.Errno {
	if !d.hasCore(number) {
		return api.ErrArg
	}
	on := &d.core[number]
	if within(f, 0, maxFrames-1) && on.cur == f {
		return api.OK
	}
	if e := d.can(f); e != api.OK {
		return e
	}
	if on.cur != nobody {
		d.save(number, on.cur, ready)
	}
	w := &d.words[f]
	copy(on.regs[:], w[atRegs:])
	w[atState], w[atCore], on.cur = runs, uint64(number), f
	return api.OK
}

// save lays the registers of the core into thread f, as far as that is one, whose state is
// that then, as far as it is a right one.
func (d *model) save(number int, f int, state uint64) {
	if d.isKind(f, oThd) {
		copy(d.words[f][atRegs:], d.core[number].regs[:])
	}
	if d.thread(f) == api.OK {
		d.words[f][atState] = state
	}
}

func (d *model) tell(and1 int, e api.Event) api.Errno {
	if and1 == 0 {
		return api.OK
	}
	if !within(e.K, vBlock, vLine) || !within(e.T, 0, maxFrames-1) {
		return api.ErrArg
	}
	f := and1 - 1
	if no := d.endpoint(f); no != api.OK {
		return no
	}
	w := &d.words[f]
	switch begin, many := w[atBegin], w[atMany]; {
	case begin >= maxRing || many > maxRing:
		return api.ErrForm
	case many < maxRing:
		w[atEvents+(begin+many)%maxRing] = eventWord(e.K, e.T)
		w[atMany]++
	case w[atLost] < maxCount:
		w[atLost]++
	}
	return api.OK
}

func (d *model) leave(number int, state int, k int) api.Errno {
	if !d.hasCore(number) || state != ready && state != waits && state != dead {
		return api.ErrArg
	}
	f := d.core[number].cur
	if f == nobody {
		return api.ErrNone
	}
	if e := d.thread(f); e != api.OK {
		return e
	}
	d.save(number, f, uint64(state))
	d.core[number].cur = nobody
	and1 := d.word(f, atRcv)
	d.tell(and1, api.Event{K: k, T: f})
	if and1 == 0 || d.endpoint(and1-1) != api.OK {
		return api.OK
	}
	point := &d.words[and1-1]
	next := int(point[atThd])
	if d.thread(next) == api.OK && d.words[next][atState] == waits && point[atWaits] == 1 {
		d.words[next][atState], point[atWaits] = ready, 0
	}
	d.run(number, next)
	return api.OK
}

func (d *model) tick(number int, n int) (bool, api.Errno) {
	if !d.hasCore(number) || !within(n, 0, maxBudget) {
		return false, api.ErrArg
	}
	f := d.core[number].cur
	if f == nobody {
		return false, api.OK
	}
	if e := d.thread(f); e != api.OK {
		return false, e
	}
	b := d.word(f, atTcap)
	if e := d.budget(b); e != api.OK {
		return false, e
	}
	if d.words[b][atInf] == 1 {
		return false, api.OK
	}
	left := max(d.word(b, atLeft)-n, 0)
	d.words[b][atLeft] = uint64(left)
	if left > 0 {
		return false, api.OK
	}
	return true, d.leave(number, ready, vSpent)
}

// world is a machine and its model, with which all is done together: behind each call their
// answers and all that they tell are held against each other.
type world struct {
	t *testing.T
	m *machine.Machine
	d model
}

// blank is a world of so many frames, all untyped, with nothing in them, and so many cores.
func blank(t *testing.T, frames int, cores int) *world {
	t.Helper()
	m, e := machine.New(api.Config{Frames: frames, Cores: cores, Room: room})
	must(t, e)
	return &world{t: t, m: m, d: look(m)}
}

func must(t *testing.T, e api.Errno) {
	if e != api.OK {
		t.Helper()
		t.Fatalf("refused: %d", e)
	}
}

// What is done ahead of a call, by the layers below.

// retyped makes frame f one of those, whatever it is, and leaves its words.
func (w *world) retyped(f int, is int) {
	w.t.Helper()
	if w.d.is[f] != untyped {
		w.needed(f, 0)
		must(w.t, w.m.Typ().Untype(f, 0, false))
		w.d.was[f], w.d.is[f] = w.d.is[f], untyped
		w.d.freed[f] = max(w.d.freed[f], 0)
	}
	if is != untyped {
		must(w.t, w.m.Typ().Retype(f, is, true))
		w.d.is[f] = is
	}
}

// needed lets frame f be needed so often.
func (w *world) needed(f int, count int) {
	w.t.Helper()
	for w.d.count[f] < count {
		must(w.t, w.m.Typ().Ref(f))
		w.d.count[f]++
	}
	for w.d.count[f] > count {
		must(w.t, w.m.Typ().Unref(f, 0))
		w.d.count[f]--
		if w.d.count[f] == 0 {
			w.d.freed[f] = max(w.d.freed[f], 0)
		}
	}
}

// store makes one the word at of frame f.
func (w *world) store(f int, at int, one uint64) {
	w.t.Helper()
	must(w.t, w.m.Mem().Store(f, at, one))
	w.d.words[f][at] = one
}

// begin makes frame f one that begins with those words; the others of its head are 0.
func (w *world) begin(f int, all ...uint64) {
	w.t.Helper()
	var to [headWords]uint64
	copy(to[:], all)
	for at, one := range to {
		w.store(f, at, one)
	}
}

// say lays numbers into frame f, from at on.
func (w *world) say(f int, at int, all ...int) {
	w.t.Helper()
	for i, one := range all {
		w.store(f, at+i, uint64(one))
	}
}

// lay makes r the record i of the thread in frame f.
func (w *world) lay(f int, i int, r api.Frame) {
	w.t.Helper()
	w.store(f, atRecords+2*i, packed(r))
	w.store(f, atRecords+2*i+1, uint64(r.Ip))
}

// state makes that the state of the thread in frame f.
func (w *world) state(f int, to int) {
	w.t.Helper()
	w.say(f, atState, to)
}

// kill lets an id live no more.
func (w *world) kill(id int) {
	w.t.Helper()
	must(w.t, w.m.Live().Kill(id, w.d.lives[id], 0))
	w.d.lives[id] = gone
	w.d.living--
}

// take lets the least id live that does not, and answers it, with its epoch.
func (w *world) take() (int, int) {
	w.t.Helper()
	id, epoch, e := w.m.Live().Take(1)
	must(w.t, e)
	w.d.lives[id] = epoch
	w.d.living++
	return id, epoch
}

// set makes f the thread of a core, whatever it is.
func (w *world) set(number int, f int) {
	w.t.Helper()
	must(w.t, w.m.SetCur(number, f))
	w.d.core[number].cur = f
}

// reg makes one the register i of a core.
func (w *world) reg(number int, i int, one uint64) {
	w.t.Helper()
	must(w.t, w.m.Regs(number).Set(i, one))
	w.d.core[number].regs[i] = one
}

// The calls, done with both.

// held fails if the call was not answered as the model does, or the machine is not as the
// model is.
func (w *world) held(name string, got any, want any, asked ...any) {
	if got != want {
		w.t.Helper()
		w.t.Fatalf("%s%v: %v; want %v", name, asked, got, want)
	}
	if d := look(w.m); d != w.d {
		w.t.Helper()
		w.t.Fatalf("%s%v: %v, but the machine is not as it should be: %s", name, asked, got, differs(&d, &w.d))
	}
}

// differs says where two do.
func differs(a *model, b *model) string {
	for f := range maxFrames {
		switch {
		case a.words[f] != b.words[f]:
			return "words of a frame"
		case a.is[f] != b.is[f], a.was[f] != b.was[f]:
			return "what a frame is, or was"
		case a.count[f] != b.count[f]:
			return "a count"
		case a.freed[f] != b.freed[f]:
			return "when a frame was freed"
		}
	}
	switch {
	case a.lives != b.lives, a.living != b.living:
		return "who lives"
	case a.core != b.core:
		return "cores"
	}
	return "lines, or times"
}

func (w *world) can(f int) api.Errno {
	w.t.Helper()
	want := w.d.can(f)
	w.held("Can", sched.Can(w.m, f), want, f)
	return want
}

func (w *world) run(number int, f int) api.Errno {
	w.t.Helper()
	want := w.d.run(number, f)
	w.held("Run", sched.Run(w.m, number, f), want, number, f)
	return want
}

func (w *world) tell(and1 int, e api.Event) api.Errno {
	w.t.Helper()
	want := w.d.tell(and1, e)
	w.held("Tell", sched.Tell(w.m, and1, e), want, and1, e)
	return want
}

func (w *world) leave(number int, state int, k int) api.Errno {
	w.t.Helper()
	want := w.d.leave(number, state, k)
	w.held("Leave", sched.Leave(w.m, number, state, k), want, number, state, k)
	return want
}

// ticked is what Tick answers.
type ticked struct {
	spent bool
	e     api.Errno
}

func (w *world) tick(number int, n int) (bool, api.Errno) {
	w.t.Helper()
	var got, want ticked
	want.spent, want.e = w.d.tick(number, n)
	got.spent, got.e = sched.Tick(w.m, number, n)
	w.held("Tick", got, want, number, n)
	return want.spent, want.e
}

// is fails if the answer is another one.
func (w *world) is(e api.Errno, want api.Errno) {
	if e != want {
		w.t.Helper()
		w.t.Fatalf("answered %d; want %d", e, want)
	}
}

// ticks fails if Tick answered something else.
func (w *world) ticks(number int, n int, want bool, wantE api.Errno) {
	w.t.Helper()
	if spent, e := w.tick(number, n); spent != want || e != wantE {
		w.t.Fatalf("Tick(%d, %d): %v, %d; want %v, %d", number, n, spent, e, want, wantE)
	}
}

// runs fails if another thread runs on the core, or one that is in another state or on another
// core. No thread runs with a state of its own.
func (w *world) runs(number int, want int) {
	w.t.Helper()
	f := w.m.Cur(number)
	if f != want {
		w.t.Fatalf("core %d: %d runs; want %d", number, f, want)
	}
	if f != nobody && (w.d.words[f][atState] != runs || w.d.word(f, atCore) != number) {
		w.t.Fatalf("core %d: %d runs, in the state %d, on core %d", number, f, w.d.words[f][atState], w.d.words[f][atCore])
	}
}

// stands fails if a thread is in another state.
func (w *world) stands(f int, want uint64) {
	w.t.Helper()
	if got := w.d.words[f][atState]; got != want {
		w.t.Fatalf("thread %d: state %d; want %d", f, got, want)
	}
}

// left fails if another number is left of a budget.
func (w *world) left(f int, want int) {
	w.t.Helper()
	if got := w.d.word(f, atLeft); got != want {
		w.t.Fatalf("budget %d: %d left; want %d", f, got, want)
	}
}

// told fails if the ring of an endpoint has other events, or if another number was lost.
func (w *world) told(f int, lost int, want ...uint64) {
	w.t.Helper()
	p := &w.d.words[f]
	if int(p[atMany]) != len(want) || int(p[atLost]) != lost {
		w.t.Fatalf("endpoint %d: %d events, %d lost; want %d, %d", f, p[atMany], p[atLost], len(want), lost)
	}
	for i, one := range want {
		if got := p[atEvents+(int(p[atBegin])+i)%maxRing]; got != one {
			w.t.Fatalf("endpoint %d: event %d is %d; want %d", f, i, got, one)
		}
	}
}

// Numbers and words that tests go over.

// far are numbers behind all ranges; the low bits of some are those of one in a range.
func far() []int {
	out := []int{-1, -2, -3, -4, -5, -16, -31, -32, -33, -63, -64, -65, -1024, -65536, math.MinInt, math.MinInt + 1, math.MinInt + 5, math.MaxInt, math.MaxInt - 1, math.MaxInt - 3}
	for _, bit := range []int{31, 32, 33, 48, 57, 58, 59, 62} {
		for _, low := range []int{0, 1, 2, 5, 6, 7, 9, 12, 17} {
			out = append(out, 1<<bit+low, -1<<bit+low)
		}
	}
	return out
}

// noFrames are numbers of frames that a machine of so many has not.
func noFrames(frames int) []int {
	return append(far(), frames, frames+1, maxFrames, maxFrames+1, maxFrames+frames, maxTime, maxTime+9)
}

// noCores are numbers of cores that a machine of so many has not.
func noCores(cores int) []int {
	return append(far(), cores, cores+1, maxCores, maxCores+1, maxCores+cores, 63, 64, 256)
}

// noStates are states in which no thread can leave a core.
func noStates() []int { return append(far(), runs, dead+1, dead+2, 7, 8, 16, 256, 1<<16) }

// noTicks are numbers that no tick can have.
func noTicks() []int {
	return append(far(), maxBudget+1, maxBudget+2, 2*maxBudget-1, 2*maxBudget, maxTime)
}

// heads are words with which frames begin, of each kind and level.
func heads() [][]uint64 {
	return [][]uint64{
		{oNone}, {oTbl}, {oTbl + leafBit}, {oTbl + frozenBit}, {oTbl + frozenBit, 9}, {oTbl + leafBit + frozenBit, maxTime},
		{oPgt}, {oPgt + leafBit}, {oComp}, {oThd}, {oTcap}, {oRcv},
	}
}

// noHeads are words with which frames begin that are no head.
func noHeads() [][]uint64 {
	out := [][]uint64{
		{7}, {15}, {64}, {64 + oRcv}, {64 + oThd}, {1 << 63}, {1<<32 + oTcap}, {1<<63 + oThd}, {math.MaxUint64},
		{oTcap + frozenBit}, {oRcv + frozenBit, 1}, {oThd + frozenBit}, {oThd + leafBit + frozenBit, 3},
		{oTbl + frozenBit, maxTime + 1}, {oTbl + leafBit, 1}, {leafBit}, {frozenBit}, {oTcap + leafBit}, {oThd + leafBit}, {oRcv + leafBit},
	}
	for _, k := range []uint64{oNone, oTbl, oThd, oTcap, oRcv} {
		out = append(out, []uint64{k, 1}, []uint64{k, 1 << 63}, []uint64{k, 0, 1}, []uint64{k, 0, 0, 1}, []uint64{k, 0, 1 << 40}, []uint64{k, 0, 0, 1 << 63})
	}
	return out
}

// allHeads are those of both.
func allHeads() [][]uint64 { return append(heads(), noHeads()...) }

// wrong is a word of a frame for which what lies there is not right.
type wrong struct {
	at  int
	one uint64
}

// tooGreat are words greater than most, at that place.
func tooGreat(at int, most uint64) []wrong {
	return []wrong{{at, most + 1}, {at, most + 2}, {at, 1<<32 + 1}, {at, 1<<32 + most}, {at, 1 << 62}, {at, 1 << 63}, {at, 1<<63 + 1}, {at, math.MaxUint64}}
}

// inTurn are the words too great of a row of words behind a head, each of which is at most
// one of these.
func inTurn(most ...uint64) []wrong {
	var out []wrong
	for i, n := range most {
		out = append(out, tooGreat(headWords+i, n)...)
	}
	return out
}

// noThds are those of threads.
func noThds() []wrong { return inTurn(dead, maxCores-1, maxFrames-1, maxFrames, maxDepth) }

// noTcaps are those of budgets that are not Inf.
func noTcaps() []wrong { return inTurn(1, maxBudget, maxCount) }

// noRcvs are those of endpoints, whose rings are right.
func noRcvs() []wrong { return inTurn(maxFrames-1, maxFrames, maxCount, 1, maxCount, 0, 0, 0) }

// noRings are those of rings.
func noRings() []wrong { return append(tooGreat(atBegin, maxRing-1), tooGreat(atMany, maxRing)...) }

// noRecords are those of the record i of threads.
func noRecords(i int) []wrong {
	first := []wrong{{atRecords + 2*i, 1 << 40}, {atRecords + 2*i, 1<<40 + 5}, {atRecords + 2*i, 1 << 63}, {atRecords + 2*i, 1<<62 + 5}, {atRecords + 2*i, math.MaxUint64}}
	return append(first, tooGreat(atRecords+2*i+1, maxTime)...)
}

// row is a row of numbers that hang on the last one.
type row uint64

func (x *row) pick(n int) int {
	*x = *x*6364136223846793005 + 1442695040888963407
	return int(*x>>33) % n
}

func pickOf[V any](x *row, all []V) V { return all[x.pick(len(all))] }

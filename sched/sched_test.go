package sched_test

import (
	"math"
	"slices"
	"testing"

	"palanquin/api"
	"palanquin/build"
	"palanquin/machine"
	"palanquin/rcv"
	"palanquin/sched"
	"palanquin/tcap"
	"palanquin/thd"
)

// The frames of a plain world: tables, two components that live and one that does not, threads
// of each state, budgets, endpoints, a user's frame, an untyped one, and a kernel's with
// nothing.
const (
	table = 0
	pages = 1
	home  = 2
	shop  = 3
	tomb  = 4  // lives no more
	run   = 5  // runs on core 0
	work  = 6  // runs on core 1
	calm  = 7  // may run
	boss  = 8  // waits for the events of run
	late  = 9  // waits for something else
	stiff = 10 // is dead
	idle  = 11 // may run, and takes its own events
	gold  = 12 // a budget without an end
	purse = 13
	coin  = 14
	dust  = 15 // nothing is left of it
	point = 16 // of boss
	gate  = 17 // of calm
	own   = 18 // of idle
	user  = 19
	none  = 20
	free  = 21
	size  = 23
)

// The cores of a plain world: two on which a thread runs, and one on which none does.
const (
	first  = 0
	second = 1
	empty  = 2
	cores  = 3
)

// How much is left of the budgets of the plain world.
const (
	inPurse = 100
	inCoin  = 2
)

// junk is what lies in words that nobody reads.
const junk = 1<<45 + 3

// plain is a world in which two threads run, with something in all other parts of the machine.
func plain(t *testing.T) *world {
	t.Helper()
	w := blank(t, size, cores)
	for f, k := range []uint64{
		oTbl, oPgt, oComp, oComp, oComp, oThd, oThd, oThd, oThd, oThd, oThd, oThd,
		oTcap, oTcap, oTcap, oTcap, oRcv, oRcv, oRcv,
	} {
		w.retyped(f, kernels)
		w.begin(f, k)
	}
	w.retyped(user, users)
	w.retyped(free, kernels)
	w.born()
	w.say(home, atTbl, table, pages, 0, 0)
	w.say(shop, atTbl, table, pages, 1, 1)
	w.say(tomb, atTbl, table, pages, 2, 0)
	w.thread(run, runs, first, purse, point+1, 2)
	w.thread(work, runs, second, coin, 0, 1)
	w.thread(calm, ready, second, purse, gate+1, 3)
	w.thread(boss, waits, empty, gold, 0, 1)
	w.thread(late, waits, first, gold, gate+1, maxDepth)
	w.thread(stiff, dead, second, gold, point+1, 1)
	w.thread(idle, ready, maxCores-1, gold, own+1, 5)
	w.say(gold, atInf, 1, 0, 7)
	w.say(purse, atInf, 0, inPurse, 3)
	w.say(coin, atInf, 0, inCoin, maxCount)
	w.say(dust, atInf, 0, 0, 3)
	w.endpoint(point, boss, gate+1, 1, 2)
	w.endpoint(gate, calm, 0, 0, 0)
	w.endpoint(own, idle, 0, 1, 1)
	w.stir()
	w.held("plain", api.OK, api.OK)
	return w
}

// born lets the ids of the components live: 0 in its first epoch, 1 in the next one; 2 lives
// no more.
func (w *world) born() {
	w.t.Helper()
	w.take()
	w.take()
	w.kill(1)
	w.take()
	id, _ := w.take()
	w.kill(id)
}

// thread makes frame f a thread in which a word lies wherever one can, with records of home
// and shop in turn, as deep as can be.
func (w *world) thread(f int, parts ...int) {
	w.t.Helper()
	for at := headWords; at < words; at++ {
		w.store(f, at, junk+uint64(100*f+at))
	}
	w.say(f, atState, parts...)
	for i := range maxDepth {
		w.lay(f, i, record(home+i%2, 10*f+i))
	}
}

// endpoint makes frame f an endpoint in which a word lies wherever one can, with so many
// events.
func (w *world) endpoint(f int, thread int, parent int, waits int, many int) {
	w.t.Helper()
	w.say(f, atThd, thread, parent, 9, waits, 0, 0, 0, 0, 6, many)
	for at := atEvents; at < words; at++ {
		w.store(f, at, junk+uint64(100*f+at))
	}
	for i := range many {
		w.store(f, atEvents+(6+i)%maxRing, eventWord(vReady, i))
	}
}

// record is one of a component of the plain world, at ip.
func record(c int, ip int) api.Frame {
	return api.Frame{Comp: c, Tbl: table, Pgt: pages, L: c - home, E: []int{0, 1, 0}[c-home], Ip: ip}
}

// stir lets the machine have something in every other part.
func (w *world) stir() {
	w.t.Helper()
	for number := range cores {
		for range 4 {
			must(w.t, w.m.Clock().Step(number))
		}
		for i := range registers {
			must(w.t, w.m.Regs(number).Set(i, junk+uint64(1000*number+i)))
		}
		must(w.t, w.m.Tlb(number).Put(api.Key{Space: number, Page: 3}, api.Pte{On: true, F: user, R: 1}))
		must(w.t, w.m.Lines().Attach(2+number, point))
		must(w.t, w.m.Clock().Enter(number))
	}
	must(w.t, w.m.Clock().Flush(0))
	must(w.t, w.m.Clock().Flush(1))
	must(w.t, w.m.SetCur(first, run))
	must(w.t, w.m.SetCur(second, work))
	for _, f := range []int{table, pages, gold, purse, point} {
		must(w.t, w.m.Typ().Ref(f))
	}
	w.d = look(w.m)
}

func TestLimits(t *testing.T) {
	if api.MaxFrames != maxFrames || api.HeadWords != headWords || api.HeadWords+api.PageWords != words || api.MaxCores != maxCores {
		t.Error("frames, cores")
	}
	if api.MaxLive != ids || api.MaxTime != maxTime || api.MaxDepth != maxDepth || api.MaxRegs != registers || api.MaxLines != lineCount || api.MaxRefs != maxRefs {
		t.Error("numbers")
	}
	if api.MaxRing != maxRing || api.MaxCount != maxCount || api.MaxBudget != maxBudget {
		t.Error("events, budgets")
	}
	for _, list := range [][]int{
		{api.ONone, api.OTbl, api.OPgt, api.OComp, api.OThd, api.OTcap, api.ORcv},
		{api.FUntyped, api.FUser, api.FKernel},
		{api.TReady, api.TRuns, api.TWaits, api.TDead},
		{0, api.VBlock, api.VReady, api.VSpent, api.VFault, api.VDead, api.VLine},
	} {
		for i, n := range list {
			if n != i {
				t.Errorf("kinds: %v", list)
			}
		}
	}
	errors := []api.Errno{api.OK, api.ErrArg, api.ErrNone, api.ErrType, api.ErrLive, api.ErrDepth, api.ErrUsed, api.ErrTime, api.ErrForm, api.ErrZero}
	if !slices.Equal(errors, []api.Errno{0, 1, 3, 4, 7, 8, 10, 11, 12, 13}) {
		t.Error("errors")
	}
}

// TestExample is the chapter's.
func TestExample(t *testing.T) {
	w := plain(t)
	w.ticks(second, 2, true, api.OK)
	w.left(coin, 0)
	w.stands(work, ready)
	w.runs(second, nobody)
}

// TestByHand goes through all calls; all numbers are written out.
func TestByHand(t *testing.T) {
	m, e := machine.New(api.Config{Frames: 12, Cores: 2, Room: 1})
	must(t, e)
	for f := range 12 {
		must(t, m.Retype(f, api.FKernel))
	}
	must(t, build.Tbl(m, 0, 0))
	must(t, build.Pgt(m, 1, 0))
	_, e = build.Comp(m, 2, 0, 1)
	must(t, e)
	must(t, build.Tcap(m, 3))
	must(t, build.Tcap(m, 4))
	must(t, build.Thd(m, 5, 2, 3, 0)) // the scheduler
	must(t, build.Rcv(m, 6, 5, 0))    // its endpoint
	must(t, build.Thd(m, 7, 2, 4, 7)) // whom it schedules
	must(t, tcap.Put(m.Mem(), 3, api.Tcap{Inf: true}))
	is := func(name string, e api.Errno, want api.Errno) {
		t.Helper()
		if e != want {
			t.Errorf("%s: %d; want %d", name, e, want)
		}
	}
	run := func(zero int, one int, states ...uint64) {
		t.Helper()
		five, _ := m.Mem().Words(5)
		seven, _ := m.Mem().Words(7)
		if m.Cur(0) != zero || m.Cur(1) != one || !slices.Equal([]uint64{five[4], five[5], seven[4], seven[5]}, states) {
			t.Errorf("%d and %d run, %v, %v; want %d, %d, %v", m.Cur(0), m.Cur(1), five[4:6], seven[4:6], zero, one, states)
		}
	}
	is("Can", sched.Can(m, 7), 11)
	is("Run", sched.Run(m, 0, 7), 11)
	must(t, tcap.Give(m.Mem(), 3, 4, 10, 1))
	is("Can", sched.Can(m, 7), 0)
	run(-1, -1, 0, 0, 0, 0)
	is("Run", sched.Run(m, 1, 5), 0)
	must(t, m.Regs(1).Set(2, 55))
	is("Can", sched.Can(m, 5), 10)
	is("Run", sched.Run(m, 0, 5), 10)
	run(-1, 5, 1, 1, 0, 0)
	is("Run", sched.Run(m, 1, 7), 0)
	run(-1, 7, 0, 1, 1, 1)
	if w, _ := m.Regs(1).Get(2); w != 0 {
		t.Errorf("register: %d", w)
	}
	must(t, m.Regs(1).Set(2, 77))
	is("Run", sched.Run(m, 0, 5), 0)
	run(5, 7, 1, 0, 1, 1)
	if w, _ := m.Regs(0).Get(2); w != 55 {
		t.Errorf("register: %d", w)
	}
	must(t, rcv.Wait(m.Mem(), 6, true))
	is("Leave", sched.Leave(m, 0, 2, 1), 0)
	run(-1, 7, 2, 0, 1, 1)
	spent, e := sched.Tick(m, 1, 9)
	if spent || e != 0 {
		t.Errorf("Tick: %v, %d", spent, e)
	}
	spent, e = sched.Tick(m, 1, 9)
	if !spent || e != 0 {
		t.Errorf("Tick: %v, %d", spent, e)
	}
	run(-1, 5, 1, 1, 0, 1) // who waited comes next
	all, _ := m.Mem().Words(6)
	if want := []uint64{5, 0, 0, 0, 0, 0, 0, 0, 0, 1, 3 + 7*16, 0}; !slices.Equal(all[4:16], want) {
		t.Errorf("endpoint: %v; want %v", all[4:16], want)
	}
	if w, _ := m.Regs(1).Get(2); w != 55 {
		t.Errorf("register: %d", w)
	}
	if all, _ := m.Mem().Words(7); all[11] != 77 {
		t.Errorf("saved: %d", all[11])
	}
	is("Tell", sched.Tell(m, 7, api.Event{K: 6, T: 63}), 0)
	if w, _ := m.Mem().Load(6, 15); w != 6+63*16 {
		t.Errorf("event: %d", w)
	}
	is("Tell", sched.Tell(m, 7, api.Event{K: 7}), 1)
	is("Tell", sched.Tell(m, 8, api.Event{K: 1}), 4)
	is("Tell", sched.Tell(m, 0, api.Event{}), 0)
	is("Leave", sched.Leave(m, 0, 3, 5), 3)
	is("Leave", sched.Leave(m, 1, 3, 5), 0)
	run(-1, -1, 3, 1, 0, 1)
	is("Can", sched.Can(m, 5), 10)
	must(t, build.Kill(m, 2))
	is("Can", sched.Can(m, 7), 7)
}

// Each error of each call, alone and with others.

// asked is what a call is asked with.
type asked struct {
	core, f, state, k, n, and1 int
	e                          api.Event
}

// flaw is something for which a call is refused, or does nothing. Those of one part can't be
// together.
type flaw struct {
	part string
	want api.Errno
	make func(w *world, x *asked)
}

// sound is what the calls are asked with when there is nothing to refuse.
func sound() asked {
	return asked{core: first, f: calm, state: waits, k: vBlock, n: 7, and1: point + 1, e: api.Event{K: vFault, T: late}}
}

// flaws fails if what is asked is not let through without a flaw, or not answered for each
// flaw alone, and for each two and three of them, as for the one that is named first.
func flaws(t *testing.T, all []flaw, ask func(w *world, x asked) api.Errno) {
	t.Helper()
	w := plain(t)
	w.is(ask(w, sound()), api.OK)
	for i := range all {
		for j := i; j < len(all); j++ {
			for k := j; k < len(all); k++ {
				if i < j && all[i].part == all[j].part || j < k && all[j].part == all[k].part || i < k && all[i].part == all[k].part {
					continue
				}
				w, x := plain(t), sound()
				for _, n := range slices.Compact([]int{k, j, i}) {
					all[n].make(w, &x)
				}
				before := w.d
				e := ask(w, x)
				if e != all[i].want {
					t.Fatalf("%d, %d, %d (%s, %s, %s): %d; want %d", i, j, k, all[i].part, all[j].part, all[k].part, e, all[i].want)
				}
				if e != api.OK && w.d != before {
					t.Fatalf("%d, %d, %d (%s, %s, %s): %d, and something changed", i, j, k, all[i].part, all[j].part, all[k].part, e)
				}
			}
		}
	}
}

// arg changes what is asked.
func arg(do func(x *asked)) func(w *world, x *asked) {
	return func(w *world, x *asked) { do(x) }
}

// lies lets a word of a frame be another one.
func lies(f int, at int, one uint64) func(w *world, x *asked) {
	return func(w *world, x *asked) { w.store(f, at, one) }
}

// on lets f be the thread of core 0.
func on(f int) func(w *world, x *asked) {
	return func(w *world, x *asked) { w.set(first, f) }
}

// noThread are the flaws of what is no thread, or none that is right.
func noThread(f int) []flaw {
	return []flaw{
		{"thread", api.ErrType, lies(f, 0, oComp)},
		{"thread", api.ErrType, lies(f, 0, oThd+leafBit)},
		{"thread", api.ErrType, lies(f, 3, 1)},
		{"parts", api.ErrForm, lies(f, atCore, maxCores)},
		{"parts", api.ErrForm, lies(f, atRcv, maxFrames+1)},
		{"state", api.ErrForm, lies(f, atState, dead+1)},
		{"depth", api.ErrForm, lies(f, atDepth, maxDepth+1)},
		{"budget", api.ErrForm, lies(f, atTcap, maxFrames)},
	}
}

// mayNot are the flaws of a thread that is right, but may not run.
func mayNot(f int) []flaw {
	last := func(at int, one uint64) func(w *world, x *asked) {
		return func(w *world, x *asked) {
			if depth := w.d.word(f, atDepth); within(depth, 1, maxDepth) {
				w.store(f, atRecords+2*depth-2+at, one)
			}
		}
	}
	return []flaw{
		{"state", api.ErrUsed, lies(f, atState, runs)},
		{"state", api.ErrUsed, lies(f, atState, waits)},
		{"state", api.ErrUsed, lies(f, atState, dead)},
		{"depth", api.ErrDepth, lies(f, atDepth, 0)},
		{"record", api.ErrForm, last(0, 1<<40)},
		{"record", api.ErrForm, last(1, maxTime+1)},
		{"record", api.ErrLive, last(0, packed(record(tomb, 0)))},
		{"life", api.ErrLive, func(w *world, x *asked) { w.kill(0) }},
		{"life", api.ErrLive, func(w *world, x *asked) { w.kill(0); w.take() }},
		{"budget", api.ErrTime, lies(f, atTcap, dust)},
		{"budget", api.ErrTime, lies(f, atTcap, size)},
		{"budget", api.ErrTime, lies(f, atTcap, calm)},
		{"left", api.ErrTime, lies(purse, atLeft, 0)},
		{"left", api.ErrTime, lies(purse, atLeft, maxBudget+1)},
		{"left", api.ErrTime, lies(purse, atInf, 1)},
		{"left", api.ErrTime, lies(purse, 0, oNone)},
	}
}

// noCoreFlaws are those of a core that is none.
func noCoreFlaws() []flaw {
	return []flaw{
		{"core", api.ErrArg, arg(func(x *asked) { x.core = -1 })},
		{"core", api.ErrArg, arg(func(x *asked) { x.core = cores })},
		{"core", api.ErrArg, arg(func(x *asked) { x.core = maxCores })},
	}
}

func TestCanErrors(t *testing.T) {
	flaws(t, append(noThread(calm), mayNot(calm)...), func(w *world, x asked) api.Errno { return w.can(x.f) })
}

func TestRunErrors(t *testing.T) {
	all := append(noCoreFlaws(),
		flaw{"f", api.ErrType, arg(func(x *asked) { x.f = -1 })},
		flaw{"f", api.ErrType, arg(func(x *asked) { x.f = size })},
		flaw{"f", api.ErrType, arg(func(x *asked) { x.f = purse })},
		flaw{"f", api.ErrUsed, arg(func(x *asked) { x.f = work })},
		flaw{"f", api.OK, arg(func(x *asked) { x.f = run })},
	)
	all = append(append(all, noThread(calm)...), mayNot(calm)...)
	flaws(t, all, func(w *world, x asked) api.Errno { return w.run(x.core, x.f) })
}

func TestTellErrors(t *testing.T) {
	all := []flaw{
		{"and1", api.OK, arg(func(x *asked) { x.and1 = 0 })},
		{"event", api.ErrArg, arg(func(x *asked) { x.e.K = vBlock - 1 })},
		{"event", api.ErrArg, arg(func(x *asked) { x.e.K = vLine + 1 })},
		{"its thread", api.ErrArg, arg(func(x *asked) { x.e.T = -1 })},
		{"its thread", api.ErrArg, arg(func(x *asked) { x.e.T = maxFrames })},
		{"and1", api.ErrType, arg(func(x *asked) { x.and1 = -1 })},
		{"and1", api.ErrType, arg(func(x *asked) { x.and1 = size + 1 })},
		{"and1", api.ErrType, arg(func(x *asked) { x.and1 = calm + 1 })},
		{"head", api.ErrType, lies(point, 0, oThd)},
		{"head", api.ErrType, lies(point, 1, 1)},
		{"parts", api.ErrForm, lies(point, atParent, maxFrames+1)},
		{"parts", api.ErrForm, lies(point, atWaits, 2)},
		{"parts", api.ErrForm, lies(point, atNothing+2, 1)},
		{"begins", api.ErrForm, lies(point, atBegin, maxRing)},
		{"many", api.ErrForm, lies(point, atMany, maxRing+1)},
		{"many", api.OK, lies(point, atMany, maxRing)},
	}
	flaws(t, all, func(w *world, x asked) api.Errno { return w.tell(x.and1, x.e) })
}

func TestLeaveErrors(t *testing.T) {
	all := append(noCoreFlaws(),
		flaw{"to", api.ErrArg, arg(func(x *asked) { x.state = runs })},
		flaw{"to", api.ErrArg, arg(func(x *asked) { x.state = -1 })},
		flaw{"to", api.ErrArg, arg(func(x *asked) { x.state = dead + 1 })},
		flaw{"on", api.ErrNone, on(nobody)},
		flaw{"on", api.ErrNone, arg(func(x *asked) { x.core = empty })},
		flaw{"on", api.ErrType, on(size)},
		flaw{"on", api.ErrType, on(home)},
	)
	all = append(all, noThread(run)...)
	all = append(all,
		flaw{"kind", api.OK, arg(func(x *asked) { x.k = 0 })},
		flaw{"endpoint", api.OK, lies(point, 0, oThd)},
		flaw{"ring", api.OK, lies(point, atBegin, maxRing)},
		flaw{"heir", api.OK, lies(boss, 0, oComp)},
		flaw{"life", api.OK, func(w *world, x *asked) { w.kill(0) }},
	)
	// A core that is none is so, whatever runs elsewhere.
	for i := range all {
		if all[i].part == "on" {
			make := all[i].make
			all[i].make = func(w *world, x *asked) {
				if within(x.core, 0, cores-1) {
					make(w, x)
				}
			}
		}
	}
	flaws(t, all, func(w *world, x asked) api.Errno { return w.leave(x.core, x.state, x.k) })
}

func TestTickErrors(t *testing.T) {
	all := append(noCoreFlaws(),
		flaw{"n", api.ErrArg, arg(func(x *asked) { x.n = -1 })},
		flaw{"n", api.ErrArg, arg(func(x *asked) { x.n = maxBudget + 1 })},
		flaw{"on", api.OK, on(nobody)},
		flaw{"on", api.ErrType, on(size)},
		flaw{"on", api.ErrType, on(purse)},
	)
	all = append(all, noThread(run)...)
	all = append(all,
		flaw{"budget", api.ErrType, lies(run, atTcap, size)},
		flaw{"budget", api.ErrType, lies(run, atTcap, run)},
		flaw{"its head", api.ErrType, lies(purse, 0, oTcap+leafBit)},
		flaw{"its head", api.ErrType, lies(purse, 0, oNone)},
		flaw{"its parts", api.ErrForm, lies(purse, atLeft, maxBudget+1)},
		flaw{"its parts", api.ErrForm, lies(purse, atPrio, maxCount+1)},
		flaw{"its parts", api.ErrForm, lies(purse, atInf, 1)},
	)
	flaws(t, all, func(w *world, x asked) api.Errno {
		_, e := w.tick(x.core, x.n)
		return e
	})
}

// P31.1: Can.

// TestCanStates asks for threads of each state, whatever else holds of them.
func TestCanStates(t *testing.T) {
	want := []api.Errno{api.OK, api.ErrUsed, api.ErrUsed, api.ErrUsed, api.ErrForm, api.ErrForm}
	for f := run; f <= idle; f++ {
		for state, e := range want {
			w := plain(t)
			w.state(f, state)
			w.is(w.can(f), e)
		}
	}
	w := plain(t)
	for f, e := range map[int]api.Errno{run: api.ErrUsed, work: api.ErrUsed, calm: api.OK, boss: api.ErrUsed, late: api.ErrUsed, stiff: api.ErrUsed, idle: api.OK} {
		w.is(w.can(f), e)
	}
	// That a core has it says nothing, but what it says itself.
	for f := run; f <= idle; f++ {
		w.set(empty, f)
		w.can(f)
	}
	w.set(empty, calm)
	w.is(w.can(calm), api.OK)
}

// TestCanFrames asks for frames that are no threads.
func TestCanFrames(t *testing.T) {
	w := plain(t)
	for _, f := range append(noFrames(size), table, pages, home, shop, tomb, gold, purse, point, own, user, none, free) {
		w.is(w.can(f), api.ErrType)
	}
	for _, begin := range allHeads() {
		w := plain(t)
		w.begin(calm, begin...)
		want := api.ErrType
		if len(begin) == 1 && begin[0] == oThd {
			want = api.OK
		}
		w.is(w.can(calm), want)
	}
	for _, bad := range noThds() {
		w := plain(t)
		w.store(calm, bad.at, bad.one)
		w.is(w.can(calm), api.ErrForm)
	}
}

// TestCanParts has threads with other parts that say nothing.
func TestCanParts(t *testing.T) {
	w := plain(t)
	for number := range maxCores {
		w.say(calm, atCore, number)
		w.is(w.can(calm), api.OK)
	}
	for and1 := range maxFrames + 1 {
		w.say(calm, atRcv, and1)
		w.is(w.can(calm), api.OK)
	}
	for _, is := range []int{untyped, users, kernels} {
		for _, f := range []int{calm, purse, home, shop, gate} {
			w := plain(t)
			w.retyped(f, is)
			w.is(w.can(calm), api.OK)
		}
	}
}

// TestCanDepths has threads of each depth: only the last record counts.
func TestCanDepths(t *testing.T) {
	for depth := range maxDepth + 2 {
		for i := range maxDepth {
			for _, bad := range append(noRecords(i), wrong{atRecords + 2*i, packed(record(tomb, 0))}) {
				w := plain(t)
				w.say(calm, atDepth, depth)
				w.store(calm, bad.at, bad.one)
				want := api.OK
				switch {
				case depth == 0:
					want = api.ErrDepth
				case depth > maxDepth:
					want = api.ErrForm
				case i == depth-1 && bad.one == packed(record(tomb, 0)):
					want = api.ErrLive
				case i == depth-1:
					want = api.ErrForm
				}
				w.is(w.can(calm), want)
			}
		}
	}
}

// TestCanLife has records of each id in some epochs, of which one lives.
func TestCanLife(t *testing.T) {
	for id := range ids {
		for _, epoch := range []int{0, 1, 2, 3, 64, 65, 256, 257, 32768, 65535} {
			w := plain(t)
			w.lay(calm, 2, api.Frame{Comp: 63 - id, Tbl: id, Pgt: 5, L: id, E: epoch, Ip: 7})
			want := api.ErrLive
			if id == 0 && epoch == 0 || id == 1 && epoch == 1 {
				want = api.OK
			}
			w.is(w.can(calm), want)
		}
	}
	// One that was made anew in the same frame is another one.
	w := plain(t)
	w.kill(0)
	w.is(w.can(calm), api.ErrLive)
	_, epoch := w.take()
	w.say(home, atE, epoch)
	w.is(w.can(calm), api.ErrLive)
	r := record(home, 5)
	r.E = epoch
	w.lay(calm, 2, r)
	w.is(w.can(calm), api.OK)
	w.kill(1) // of a record below
	w.is(w.can(calm), api.OK)
}

// budgets are words of a budget, and whether a thread with it may run.
type budget struct {
	inf, left, prio int
	can             bool
	right           bool
}

func budgets() []budget {
	return []budget{
		{0, 0, 0, false, true}, {0, 0, 3, false, true}, {0, 0, maxCount, false, true}, {0, 0, maxCount + 1, false, false},
		{0, 1, 0, true, true}, {0, 1, maxCount, true, true}, {0, 1, maxCount + 1, false, false}, {0, 2, 5, true, true},
		{0, 255, 1, true, true}, {0, 256, 1, true, true}, {0, 65536, 1, true, true}, {0, maxBudget - 1, 1, true, true},
		{0, maxBudget, 1, true, true}, {0, maxBudget + 1, 1, false, false}, {0, 1 << 32, 1, false, false}, {0, -1, 1, false, false},
		{1, 0, 0, true, true}, {1, 0, maxCount, true, true}, {1, 0, maxCount + 1, false, false}, {1, 1, 0, false, false},
		{1, maxBudget, 0, false, false}, {2, 0, 0, false, false}, {2, 5, 0, false, false}, {-1, 0, 0, false, false}, {1 << 32, 1, 0, false, false},
		{0, 7, -1, false, false}, {1, 0, 1 << 40, false, false},
	}
}

// TestCanBudgets has budgets of each sort.
func TestCanBudgets(t *testing.T) {
	for _, b := range budgets() {
		w := plain(t)
		w.say(purse, atInf, b.inf, b.left, b.prio)
		want := api.ErrTime
		if b.can {
			want = api.OK
		}
		w.is(w.can(calm), want)
		if got := tcap.Can(w.m.Mem(), purse); got != b.can {
			t.Errorf("tcap.Can: %v", got)
		}
		w.is(w.run(empty, calm), want)
	}
	for f := range maxFrames {
		w := plain(t)
		w.say(calm, atTcap, f)
		want := api.ErrTime
		if f == gold || f == purse || f == coin {
			want = api.OK
		}
		w.is(w.can(calm), want)
	}
	for _, begin := range allHeads() {
		w := plain(t)
		w.begin(purse, begin...)
		want := api.ErrTime
		if len(begin) == 1 && begin[0] == oTcap {
			want = api.OK
		}
		w.is(w.can(calm), want)
	}
}

// P31.1: Run.

// TestRunCores runs a thread on each core of machines of each size, and on none.
func TestRunCores(t *testing.T) {
	for many := 1; many <= maxCores; many++ {
		small := func() *world {
			w := blank(t, size, many)
			w.begin(calm, oThd)
			w.thread(calm, ready, maxCores-1, gold, 0, 1)
			w.begin(gold, oTcap)
			w.say(gold, atInf, 1)
			w.take()
			return w
		}
		for number := range many {
			w := small()
			for i := range registers {
				w.reg(number, i, junk+uint64(i*i))
			}
			w.is(w.run(number, calm), api.OK)
			w.runs(number, calm)
			for other := range many {
				want := api.ErrUsed
				if other == number {
					want = api.OK
				}
				w.is(w.run(other, calm), want)
			}
		}
		for _, number := range noCores(many) {
			w := small()
			for _, f := range []int{calm, gold, -1, size} {
				w.is(w.run(number, f), api.ErrArg)
			}
			w.is(w.run(0, calm), api.OK)
			w.is(w.run(number, calm), api.ErrArg)
		}
	}
}

// TestRunOver lets one thread run behind the other, with their registers.
func TestRunOver(t *testing.T) {
	for number, was := range []int{run, work, nobody} {
		for _, f := range []int{calm, idle} {
			w := plain(t)
			for i := range registers {
				w.reg(number, i, uint64(i+1)<<60)
			}
			has := w.d.words[f]
			w.is(w.run(number, f), api.OK)
			w.runs(number, f)
			if got := w.m.Regs(number).All(); !slices.Equal(got, has[atRegs:atRegs+registers]) {
				t.Fatalf("registers: %v", got)
			}
			if was == nobody {
				continue
			}
			w.stands(was, ready)
			for i := range registers {
				if got := w.d.words[was][atRegs+i]; got != uint64(i+1)<<60 {
					t.Fatalf("register %d: %d", i, got)
				}
			}
			if got := w.d.word(was, atCore); got != number {
				t.Fatalf("core: %d", got)
			}
			w.is(w.run(empty, was), api.OK)
			w.runs(empty, was)
			w.runs(number, f)
			if got, _ := w.m.Regs(empty).Get(7); got != 8<<60 {
				t.Fatalf("register 7: %d", got)
			}
		}
	}
}

// TestRunThere runs who runs there already: whatever holds of it, nothing changes.
func TestRunThere(t *testing.T) {
	for number, f := range []int{run, work} {
		w := plain(t)
		before := w.d
		w.is(w.run(number, f), api.OK)
		w.is(w.run(1-number, f), api.ErrUsed)
		w.is(w.run(empty, f), api.ErrUsed)
		if w.d != before {
			t.Fatal("something changed")
		}
	}
	for _, one := range append(noThread(calm), mayNot(calm)...) {
		w, x := plain(t), sound()
		w.set(first, calm)
		one.make(w, &x)
		w.is(w.can(calm), one.want)
		before := w.d
		w.is(w.run(first, calm), api.OK)
		if w.d != before {
			t.Fatal("something changed")
		}
		w.is(w.run(second, calm), one.want)
	}
	for _, f := range []int{table, purse, point, user, none, free, size, maxFrames - 1} {
		w := plain(t)
		w.set(first, f)
		w.is(w.run(first, f), api.OK)
		w.is(w.run(second, f), api.ErrType)
	}
}

// TestRunNobody has numbers that are no frame's, where none runs: -1 runs nowhere.
func TestRunNobody(t *testing.T) {
	w := plain(t)
	for _, f := range append(noFrames(size), table, home, purse, point, user, none, free) {
		for number := range cores {
			w.is(w.run(number, f), api.ErrType)
		}
	}
	w.set(first, nobody)
	w.is(w.run(first, -1), api.ErrType)
	w.is(w.run(first, calm), api.OK)
	w.runs(first, calm)
}

// TestRunWas has cores whose thread is something else, or none that is right.
func TestRunWas(t *testing.T) {
	for was := range maxFrames {
		if was == calm { // it runs there already
			continue
		}
		w := plain(t)
		w.set(first, was)
		w.is(w.run(first, calm), api.OK)
		w.runs(first, calm)
	}
	for _, begin := range allHeads() {
		w := plain(t)
		w.begin(run, begin...)
		w.is(w.run(first, calm), api.OK)
		w.runs(first, calm)
	}
	for _, bad := range noThds() {
		w := plain(t)
		w.store(run, bad.at, bad.one)
		w.is(w.run(first, calm), api.OK)
		w.runs(first, calm)
		if w.d.words[run][bad.at] != bad.one || w.d.word(run, atRegs+7) != junk+7 {
			t.Fatal("who ran")
		}
	}
	for state := range dead + 1 {
		w := plain(t)
		w.state(run, state)
		w.is(w.run(first, calm), api.OK)
		w.stands(run, ready)
	}
}

// TestRunTells lets one thread run behind the other: no endpoint is told, and none waits less.
func TestRunTells(t *testing.T) {
	w := plain(t)
	w.is(w.run(first, calm), api.OK)
	w.is(w.run(first, run), api.OK)
	w.told(point, 0, eventWord(vReady, 0), eventWord(vReady, 1))
	w.told(gate, 0)
	w.stands(boss, waits)
	w.stands(calm, ready)
}

// P31.2: Tell.

// TestTellEvents tells events of each sort.
func TestTellEvents(t *testing.T) {
	for k := vBlock; k <= vLine; k++ {
		for f := range maxFrames {
			w := plain(t)
			w.is(w.tell(gate+1, api.Event{K: k, T: f}), api.OK)
			w.told(gate, 0, uint64(k+16*f))
		}
	}
	w := plain(t)
	for _, f := range noFrames(maxFrames) {
		w.is(w.tell(gate+1, api.Event{K: vBlock, T: f}), api.ErrArg)
		w.is(w.tell(0, api.Event{K: vBlock, T: f}), api.OK)
	}
	for _, k := range append(far(), 0, 7, 8, 16, 17, 33) {
		w.is(w.tell(gate+1, api.Event{K: k, T: 5}), api.ErrArg)
		w.is(w.tell(size+1, api.Event{K: k, T: 5}), api.ErrArg)
		w.is(w.tell(0, api.Event{K: k, T: 5}), api.OK)
	}
	w.told(gate, 0)
}

// TestTellWhom tells frames of each sort.
func TestTellWhom(t *testing.T) {
	e := api.Event{K: vDead, T: 9}
	for _, f := range noFrames(size) {
		if f != -1 {
			plain(t).is(plain(t).tell(f+1, e), api.ErrType)
		}
	}
	for f := range size {
		w := plain(t)
		want := api.ErrType
		if f == point || f == gate || f == own {
			want = api.OK
		}
		w.is(w.tell(f+1, e), want)
	}
	for _, begin := range allHeads() {
		w := plain(t)
		w.begin(point, begin...)
		want := api.ErrType
		if len(begin) == 1 && begin[0] == oRcv {
			want = api.OK
		}
		w.is(w.tell(point+1, e), want)
	}
	for _, bad := range append(noRcvs(), noRings()...) {
		w := plain(t)
		w.store(point, bad.at, bad.one)
		w.is(w.tell(point+1, e), api.ErrForm)
	}
	w := plain(t)
	w.is(w.tell(point+1, e), api.OK)
	w.told(point, 0, eventWord(vReady, 0), eventWord(vReady, 1), eventWord(vDead, 9))
	w.stands(boss, waits) // nobody comes for that
	w.runs(first, run)
}

// TestTellFull tells more than there is room for.
func TestTellFull(t *testing.T) {
	for begin := range maxRing {
		w := plain(t)
		w.say(gate, atBegin, begin)
		var all []uint64
		for n := range maxRing {
			w.is(w.tell(gate+1, api.Event{K: vLine, T: n}), api.OK)
			all = append(all, eventWord(vLine, n))
			w.told(gate, 0, all...)
		}
		for lost := 1; lost <= 3; lost++ {
			w.is(w.tell(gate+1, api.Event{K: vDead, T: 1}), api.OK)
			w.told(gate, lost, all...)
		}
		w.say(gate, atLost, maxCount-1)
		for range 3 {
			w.is(w.tell(gate+1, api.Event{K: vDead, T: 1}), api.OK)
			w.told(gate, maxCount, all...)
		}
	}
}

// P31.2: Leave.

// TestLeaveCores leaves each core, and none.
func TestLeaveCores(t *testing.T) {
	for _, state := range []int{ready, waits, dead} {
		for many := 1; many <= maxCores; many++ {
			for number := range many {
				w := blank(t, size, many)
				w.begin(calm, oThd)
				w.thread(calm, runs, number, gold, 0, 0)
				w.set(number, calm)
				for i := range registers {
					w.reg(number, i, uint64(number)<<50+uint64(i))
				}
				for other := range many {
					if other != number {
						w.is(w.leave(other, state, vDead), api.ErrNone)
					}
				}
				for _, other := range noCores(many) {
					w.is(w.leave(other, state, vDead), api.ErrArg)
				}
				w.is(w.leave(number, state, vDead), api.OK)
				w.runs(number, nobody)
				w.stands(calm, uint64(state))
				for i := range registers {
					if w.d.words[calm][atRegs+i] != uint64(number)<<50+uint64(i) {
						t.Fatalf("register %d was not saved", i)
					}
				}
				w.is(w.leave(number, state, vDead), api.ErrNone)
			}
		}
	}
}

// TestLeaveStates leaves in each state, and in none that can be.
func TestLeaveStates(t *testing.T) {
	for number, f := range []int{run, work} {
		for _, state := range noStates() {
			w := plain(t)
			w.is(w.leave(number, state, vDead), api.ErrArg)
			w.is(w.leave(empty, state, vDead), api.ErrArg)
			w.runs(number, f)
		}
		for _, state := range []int{ready, waits, dead} {
			for has := range dead + 1 { // whatever it says that it is
				w := plain(t)
				w.state(f, has)
				w.is(w.leave(number, state, vDead), api.OK)
				w.stands(f, uint64(state))
			}
		}
	}
}

// TestLeaveWho has cores whose thread is no thread, or none that is right: it stays there.
func TestLeaveWho(t *testing.T) {
	for f := range maxFrames {
		w := plain(t)
		w.set(first, f)
		want := api.ErrType
		if within(f, run, idle) {
			want = api.OK
		}
		w.is(w.leave(first, dead, vDead), want)
	}
	for _, begin := range allHeads() {
		w := plain(t)
		w.begin(run, begin...)
		want := api.ErrType
		if len(begin) == 1 && begin[0] == oThd {
			want = api.OK
		}
		w.is(w.leave(first, dead, vDead), want)
	}
	for _, bad := range noThds() {
		w := plain(t)
		w.store(run, bad.at, bad.one)
		w.is(w.leave(first, dead, vDead), api.ErrForm)
	}
}

// TestLeaveKinds leaves with events of each kind, and of none: whatever is told, who takes
// them comes next.
func TestLeaveKinds(t *testing.T) {
	for _, k := range append(far(), 0, 1, 2, 3, 4, 5, 6, 7, 8, 16, 17, 63, 64) {
		w := plain(t)
		w.is(w.leave(first, dead, k), api.OK)
		all := []uint64{eventWord(vReady, 0), eventWord(vReady, 1)}
		if within(k, vBlock, vLine) {
			all = append(all, eventWord(k, run))
		}
		w.told(point, 0, all...)
		w.runs(first, boss)
		w.stands(run, dead)
	}
}

// TestLeaveWithout leaves without an endpoint, or with one that is not right: nobody comes, and
// nobody is told.
func TestLeaveWithout(t *testing.T) {
	for _, state := range []int{ready, waits, dead} {
		for and1 := range maxFrames + 1 {
			w := plain(t)
			w.say(run, atRcv, and1)
			w.say(own, atThd, calm)
			w.is(w.leave(first, state, vFault), api.OK)
			w.stands(run, uint64(state))
			switch and1 {
			case point + 1:
				w.runs(first, boss)
			case gate + 1, own + 1:
				w.runs(first, calm)
			default:
				w.runs(first, nobody)
				w.stands(boss, waits)
			}
		}
		for _, begin := range allHeads() {
			w := plain(t)
			w.begin(point, begin...)
			w.is(w.leave(first, state, vFault), api.OK)
			if len(begin) == 1 && begin[0] == oRcv {
				w.runs(first, boss)
				continue
			}
			w.runs(first, nobody)
			w.stands(boss, waits)
		}
		for _, bad := range noRcvs() {
			w := plain(t)
			w.store(point, bad.at, bad.one)
			w.is(w.leave(first, state, vFault), api.OK)
			w.runs(first, nobody)
			w.stands(boss, waits)
		}
		for _, bad := range noRings() { // who can't be told comes all the same
			w := plain(t)
			w.store(point, bad.at, bad.one)
			w.is(w.leave(first, state, vFault), api.OK)
			w.runs(first, boss)
			w.stands(run, uint64(state))
		}
	}
}

// TestLeaveFirst has threads that may run in the first frames of all: they do not come for an
// endpoint that is none, or not right.
func TestLeaveFirst(t *testing.T) {
	for f := range 2 {
		for _, lie := range []wrong{{atRcv, 0}, {atRcv, size + 1}, {atRcv, table + 1}, {atRcv, user + 1}, {atRcv, work + 1}} {
			w := plain(t)
			w.begin(f, oThd)
			w.thread(f, ready, 0, gold, 0, 1)
			w.store(run, lie.at, lie.one)
			w.is(w.leave(first, waits, vBlock), api.OK)
			w.runs(first, nobody)
			w.stands(f, ready)
			w = plain(t)
			w.begin(f, oThd)
			w.thread(f, ready, 0, gold, 0, 1)
			w.say(point, atCount, maxCount+1)
			w.ticks(first, inPurse, true, api.OK)
			w.runs(first, nobody)
			w.stands(f, ready)
			w.is(w.run(first, f), api.OK)
		}
	}
}

// TestLeaveFull leaves when there is no room for events: they are counted, and who takes them
// comes next.
func TestLeaveFull(t *testing.T) {
	for _, lost := range []int{0, 1, maxCount - 1, maxCount} {
		w := plain(t)
		w.say(point, atMany, maxRing)
		w.say(point, atLost, lost)
		w.is(w.leave(first, waits, vBlock), api.OK)
		w.runs(first, boss)
		if got := w.d.word(point, atLost); got != min(lost+1, maxCount) {
			t.Fatalf("lost: %d", got)
		}
	}
}

// TestLeaveHeir has endpoints that wait, or do not, of threads of each state.
func TestLeaveHeir(t *testing.T) {
	for _, state := range []int{ready, waits, dead} {
		for has := range dead + 1 {
			for waiting := range 2 {
				for _, heir := range []int{boss, calm, idle, late} {
					w := plain(t)
					w.state(heir, has)
					w.say(point, atThd, heir)
					w.say(point, atWaits, waiting)
					w.is(w.leave(first, state, vBlock), api.OK)
					w.stands(run, uint64(state))
					w.told(point, 0, eventWord(vReady, 0), eventWord(vReady, 1), eventWord(vBlock, run))
					comes := has == ready || has == waits && waiting == 1
					if comes {
						w.runs(first, heir)
					} else {
						w.runs(first, nobody)
						w.stands(heir, uint64(has))
					}
					// It waits no more, if it has waited.
					if got := w.d.word(point, atWaits); has == waits && got != 0 || has != waits && got != waiting {
						t.Fatalf("state %d, waits %d: %d", has, waiting, got)
					}
				}
			}
		}
	}
}

// TestLeaveMayNot has who comes next be one that may not run: it waits no more, but does not
// run.
func TestLeaveMayNot(t *testing.T) {
	for _, one := range mayNot(boss) {
		if one.part == "state" || one.part == "left" {
			continue
		}
		w, x := plain(t), sound()
		one.make(w, &x)
		w.is(w.leave(first, waits, vBlock), api.OK)
		w.runs(first, nobody)
		w.stands(boss, ready)
		if w.d.word(point, atWaits) != 0 {
			t.Fatal("it waits")
		}
	}
	for f := range maxFrames {
		if within(f, run, idle) {
			continue
		}
		w := plain(t)
		w.say(point, atThd, f)
		w.is(w.leave(first, waits, vBlock), api.OK)
		w.runs(first, nobody)
		if w.d.word(point, atWaits) != 1 {
			t.Fatal("it waits no more")
		}
	}
	for _, bad := range noThds() {
		w := plain(t)
		w.store(boss, bad.at, bad.one)
		w.is(w.leave(first, waits, vBlock), api.OK)
		w.runs(first, nobody)
		if w.d.word(point, atWaits) != 1 {
			t.Fatal("it waits no more")
		}
	}
	// One that runs elsewhere stays there, and one that says that it waits comes.
	w := plain(t)
	w.say(point, atThd, work)
	w.is(w.leave(first, ready, vReady), api.OK)
	w.runs(first, nobody)
	w.runs(second, work)
	w.is(w.run(first, run), api.OK)
	w.runs(first, run)
}

// TestLeaveSelf has threads that take their own events: they come again, if they may.
func TestLeaveSelf(t *testing.T) {
	for waiting := range 2 {
		for _, state := range []int{ready, waits, dead} {
			w := plain(t)
			w.is(w.run(empty, idle), api.OK)
			for i := range registers {
				w.reg(empty, i, uint64(i*i*i))
			}
			w.say(own, atWaits, waiting)
			w.is(w.leave(empty, state, vBlock), api.OK)
			w.told(own, 0, eventWord(vReady, 0), eventWord(vBlock, idle))
			if state == ready || state == waits && waiting == 1 {
				w.runs(empty, idle)
				continue
			}
			w.runs(empty, nobody)
			w.stands(idle, uint64(state))
		}
	}
}

// TestLeaveOthers leaves each core: what runs on the others stays.
func TestLeaveOthers(t *testing.T) {
	w := plain(t)
	w.is(w.run(empty, calm), api.OK)
	w.is(w.leave(second, waits, vBlock), api.OK)
	w.runs(first, run)
	w.runs(second, nobody)
	w.runs(empty, calm)
	w.is(w.leave(empty, dead, vDead), api.OK) // it takes its own events, and is dead
	w.runs(empty, nobody)
	w.told(gate, 0, eventWord(vDead, calm))
	w.is(w.leave(first, ready, vReady), api.OK)
	w.runs(first, boss)
	w.runs(second, nobody)
	w.runs(empty, nobody)
}

// P31.3.

// TestTickNumbers ticks with budgets of each sort.
func TestTickNumbers(t *testing.T) {
	numbers := []int{0, 1, 2, 3, 99, 100, 101, 255, 256, 65535, 65536, maxBudget - 1, maxBudget}
	for _, n := range numbers {
		for _, left := range numbers {
			w := plain(t)
			w.say(purse, atLeft, left)
			spent := n >= left
			w.ticks(first, n, spent, api.OK)
			w.left(purse, max(left-n, 0))
			if spent {
				w.told(point, 0, eventWord(vReady, 0), eventWord(vReady, 1), eventWord(vSpent, run))
				w.stands(run, ready)
				w.runs(first, boss)
				w.is(w.can(run), api.ErrTime)
				continue
			}
			w.told(point, 0, eventWord(vReady, 0), eventWord(vReady, 1))
			w.runs(first, run)
		}
		w := plain(t)
		w.say(purse, atInf, 1, 0)
		w.ticks(first, n, false, api.OK)
		w.left(purse, 0)
		w.runs(first, run)
	}
	for _, n := range noTicks() {
		w := plain(t)
		for number := range cores {
			w.ticks(number, n, false, api.ErrArg)
		}
		for _, number := range []int{-1, cores, maxCores} {
			w.ticks(number, n, false, api.ErrArg)
		}
	}
}

// TestTickBudgets ticks with budgets that are right, and that are not.
func TestTickBudgets(t *testing.T) {
	for _, b := range budgets() {
		for _, n := range []int{0, 1, 5} {
			w := plain(t)
			w.say(purse, atInf, b.inf, b.left, b.prio)
			if !b.right {
				w.ticks(first, n, false, api.ErrForm)
				continue
			}
			w.ticks(first, n, b.inf == 0 && n >= b.left, api.OK)
			if got := w.d.word(purse, atPrio); got != b.prio {
				t.Fatalf("prio: %d", got)
			}
		}
	}
	for f := range maxFrames {
		w := plain(t)
		w.say(run, atTcap, f)
		want := api.ErrType
		if within(f, gold, dust) {
			want = api.OK
		}
		w.ticks(first, 1, f == dust, want)
	}
	for _, bad := range noTcaps() {
		w := plain(t)
		w.store(purse, bad.at, bad.one)
		w.ticks(first, 1, false, api.ErrForm)
	}
	for _, begin := range allHeads() {
		w := plain(t)
		w.begin(purse, begin...)
		want := api.ErrType
		if len(begin) == 1 && begin[0] == oTcap {
			want = api.OK
		}
		w.ticks(first, 1, false, want)
	}
}

// TestTickWho has cores whose thread is none, no thread, or none that is right.
func TestTickWho(t *testing.T) {
	w := plain(t)
	for _, n := range []int{0, 1, maxBudget} {
		w.ticks(empty, n, false, api.OK)
	}
	for _, number := range noCores(cores) {
		w.ticks(number, 1, false, api.ErrArg)
	}
	for f := range maxFrames {
		w := plain(t)
		w.set(empty, f)
		want := api.ErrType
		if within(f, run, idle) {
			want = api.OK
		}
		w.ticks(empty, 1, false, want)
	}
	for _, bad := range noThds() {
		w := plain(t)
		w.store(run, bad.at, bad.one)
		w.ticks(first, maxBudget, false, api.ErrForm)
		w.left(purse, inPurse)
	}
	for _, begin := range allHeads() {
		w := plain(t)
		w.begin(run, begin...)
		want := api.ErrType
		if len(begin) == 1 && begin[0] == oThd {
			want = api.OK
		}
		w.ticks(first, maxBudget, want == api.OK, want)
	}
}

// TestTickDown ticks one by one, up to the end, and behind it.
func TestTickDown(t *testing.T) {
	w := plain(t)
	for left := inPurse - 1; left > 0; left-- {
		w.ticks(first, 1, false, api.OK)
		w.left(purse, left)
		w.ticks(first, 0, false, api.OK)
	}
	w.ticks(first, 1, true, api.OK)
	w.runs(first, boss)
	for range 3 {
		w.ticks(first, maxBudget, false, api.OK) // without an end
		w.runs(first, boss)
	}
	w.is(w.run(first, run), api.ErrTime)
	w.is(w.run(empty, calm), api.ErrTime) // it has the same budget
	must(t, tcap.Give(w.m.Mem(), gold, purse, 1, 5))
	w.d = look(w.m)
	w.is(w.run(first, run), api.OK)
	w.is(w.run(empty, calm), api.OK)
	w.ticks(first, 1, true, api.OK)
	w.ticks(empty, 0, true, api.OK) // nothing is left of it, either
	w.told(gate, 0, eventWord(vSpent, calm))
	w.runs(empty, nobody)
}

// TestTickHeir has threads whose endpoint is none, not right, or of one that may not run: they
// leave all the same.
func TestTickHeir(t *testing.T) {
	for and1 := range maxFrames + 1 {
		w := plain(t)
		w.say(run, atRcv, and1)
		w.ticks(first, inPurse, true, api.OK)
		w.stands(run, ready)
		switch and1 {
		case point + 1:
			w.runs(first, boss)
		case gate + 1: // its thread has the same budget
			w.runs(first, nobody)
		case own + 1:
			w.runs(first, idle)
		default:
			w.runs(first, nobody)
		}
	}
	w := plain(t)
	w.say(own, atThd, run)
	w.say(run, atRcv, own+1)
	w.ticks(first, inPurse, true, api.OK) // it takes its own events, but has nothing left
	w.runs(first, nobody)
	w.told(own, 0, eventWord(vReady, 0), eventWord(vSpent, run))
}

// P26.3.

// TestUnmade has a nil machine, and one that no call made, with arguments of all sorts.
func TestUnmade(t *testing.T) {
	numbers := []int{0, 1, -1, 3, 5, 63, 64, maxBudget, maxBudget + 1, math.MinInt, math.MaxInt}
	for _, m := range []*machine.Machine{nil, new(machine.Machine)} {
		for _, f := range numbers {
			if e := sched.Can(m, f); e != api.ErrZero {
				t.Errorf("Can: %d", e)
			}
			for _, n := range numbers {
				if e := sched.Run(m, f, n); e != api.ErrZero {
					t.Errorf("Run: %d", e)
				}
				if spent, e := sched.Tick(m, f, n); spent || e != api.ErrZero {
					t.Errorf("Tick: %v, %d", spent, e)
				}
				for _, k := range numbers {
					if e := sched.Leave(m, f, n, k); e != api.ErrZero {
						t.Errorf("Leave: %d", e)
					}
					if e := sched.Tell(m, f, api.Event{K: n, T: k}); e != api.ErrZero {
						t.Errorf("Tell: %d", e)
					}
				}
			}
		}
		if m.Cores() != 0 {
			t.Error("it was made")
		}
	}
}

// P31.4.

// The frames of a town: a table of each kind, a component and one to be killed, budgets,
// threads each with a budget of its own, and endpoints of the first two threads. The first
// budget is without an end, and no thread's.
const (
	townTbl  = 0
	townPgt  = 1
	townComp = 2
	townBank = 4
	townTcap = 5
	townThd  = 10
	townRcv  = 15
	people   = 5
	townSize = 17
)

// person is a thread as the history has it.
type person struct {
	state int
	left  int
	regs  [registers]uint64
	and1  int // its endpoint, of those of the town
	comp  int
}

// post is an endpoint as the history has it.
type post struct {
	of     int
	waits  bool
	events []api.Event
	lost   int
}

// town is a world that calls of the kernel alone made, with a history of its own.
type town struct {
	*world
	all   [people]person
	posts [2]post
	on    [cores]int // who runs there, of the town's people
	regs  [cores][registers]uint64
	lives [2]bool
}

func newTown(t *testing.T) *town {
	t.Helper()
	w := &town{world: blank(t, townSize, cores), lives: [2]bool{true, true}}
	m := w.m
	for f := range townSize {
		must(t, m.Retype(f, api.FKernel))
	}
	must(t, build.Tbl(m, townTbl, 0))
	must(t, build.Pgt(m, townPgt, 0))
	for i := range 2 {
		_, e := build.Comp(m, townComp+i, townTbl, townPgt)
		must(t, e)
	}
	must(t, build.Tcap(m, townBank))
	must(t, tcap.Put(m.Mem(), townBank, api.Tcap{Inf: true}))
	for i := range w.all {
		// The first endpoint is the first thread's, of whom all but these two learn there, and
		// the second thread learns of the first one's at the other one.
		w.all[i] = person{state: ready, and1: []int{0, 1, 1, 2, 2}[i], comp: i % 2}
		must(t, build.Tcap(m, townTcap+i))
		and1 := w.all[i].and1
		if and1 != 0 {
			and1 += townRcv
		}
		must(t, build.Thd(m, townThd+i, townComp+i%2, townTcap+i, and1))
		if i < len(w.posts) {
			w.posts[i] = post{of: i}
			must(t, build.Rcv(m, townRcv+i, townThd+i, 0))
		}
	}
	for number := range w.on {
		w.on[number] = nobody
	}
	w.d = look(m)
	return w
}

// may is whether the person may run, as the history has it.
func (w *town) may(i int) api.Errno {
	switch p := w.all[i]; {
	case p.state != ready:
		return api.ErrUsed
	case !w.lives[p.comp]:
		return api.ErrLive
	case p.left == 0:
		return api.ErrTime
	}
	return api.OK
}

// goes lets the person run on the core, in the history.
func (w *town) goes(number int, i int) api.Errno {
	if w.on[number] == i {
		return api.OK
	}
	if e := w.may(i); e != api.OK {
		return e
	}
	if was := w.on[number]; was != nobody {
		w.all[was].regs, w.all[was].state = w.regs[number], ready
	}
	w.regs[number], w.on[number], w.all[i].state = w.all[i].regs, i, runs
	return api.OK
}

// gone lets who runs on the core leave, in the history.
func (w *town) gone(number int, state int, k int) {
	i := w.on[number]
	p := &w.all[i]
	p.regs, p.state, w.on[number] = w.regs[number], state, nobody
	if p.and1 == 0 {
		return
	}
	to := &w.posts[p.and1-1]
	if len(to.events) < maxRing {
		to.events = append(to.events, api.Event{K: k, T: townThd + i})
	} else {
		to.lost = min(to.lost+1, maxCount)
	}
	if to.waits && w.all[to.of].state == waits {
		to.waits, w.all[to.of].state = false, ready
	}
	w.goes(number, to.of)
}

// some does something with core number, with both, and answers what it was.
func (w *town) some(x *row, number int) (string, api.Errno) {
	w.t.Helper()
	switch i := x.pick(people); x.pick(8) {
	case 0, 1, 2:
		e := w.run(number, townThd+i)
		w.is(e, w.goes(number, i))
		return "run", e
	case 3:
		if w.on[number] == nobody {
			w.is(w.leave(number, ready, vReady), api.ErrNone)
			return "leave", api.ErrNone
		}
		state := pickOf(x, []int{ready, ready, waits, waits, dead})
		w.waitsFor(x, w.on[number], state)
		w.is(w.leave(number, state, vBlock), api.OK)
		w.gone(number, state, vBlock)
		return "leave", api.OK
	case 4, 5:
		n := x.pick(12)
		if w.on[number] == nobody {
			w.ticks(number, n, false, api.OK)
			return "idle", api.OK
		}
		p := &w.all[w.on[number]]
		p.left = max(p.left-n, 0)
		if p.left > 0 {
			w.ticks(number, n, false, api.OK)
			return "tick", api.OK
		}
		w.ticks(number, n, true, api.OK)
		w.gone(number, ready, vSpent)
		return "spent", api.OK
	case 6:
		at := x.pick(registers)
		w.regs[number][at] = uint64(x.pick(1000))
		w.reg(number, at, w.regs[number][at])
	default:
		w.give(x, i)
	}
	return "", api.OK
}

// waitsFor lets a person's endpoint wait, if it leaves to wait, now and then.
func (w *town) waitsFor(x *row, i int, state int) {
	w.t.Helper()
	if i < len(w.posts) && state == waits && x.pick(4) > 0 {
		must(w.t, rcv.Wait(w.m.Mem(), townRcv+i, true))
		w.d.words[townRcv+i][atWaits] = 1
		w.posts[i].waits = true
	}
}

// give gives a person something to run on, or lets it be ready again.
func (w *town) give(x *row, i int) {
	w.t.Helper()
	p := &w.all[i]
	if n := x.pick(40) + 1; x.pick(2) == 0 {
		must(w.t, tcap.Give(w.m.Mem(), townBank, townTcap+i, n, 0))
		p.left += n
	} else if p.state == waits || p.state == dead {
		must(w.t, thd.State(w.m.Mem(), townThd+i, ready))
		p.state = ready
	}
	w.d = look(w.m)
}

// remembered fails if the town is not as its history is, if a thread runs on two cores, or
// one runs that has nothing left.
func (w *town) remembered() {
	w.t.Helper()
	var runsOn [people]int
	for number, i := range w.on {
		if i == nobody {
			w.runs(number, nobody)
			continue
		}
		w.runs(number, townThd+i)
		runsOn[i]++
		if w.all[i].left == 0 {
			w.t.Fatalf("core %d: %d runs, and has nothing left", number, i)
		}
		if got := w.d.core[number].regs; got != w.regs[number] {
			w.t.Fatalf("core %d: %v; want %v", number, got, w.regs[number])
		}
	}
	for i, p := range w.all {
		if runsOn[i] > 1 || (runsOn[i] == 1) != (p.state == runs) {
			w.t.Fatalf("%d runs on %d cores, in the state %d", i, runsOn[i], p.state)
		}
		w.stands(townThd+i, uint64(p.state))
		w.left(townTcap+i, p.left)
		if p.state != runs && [registers]uint64(w.d.words[townThd+i][atRegs:atRecords]) != p.regs {
			w.t.Fatalf("registers of %d", i)
		}
		if e := w.can(townThd + i); e != w.may(i) {
			w.t.Fatalf("Can(%d): %d; want %d", i, e, w.may(i))
		}
	}
	for n, p := range w.posts {
		var all []uint64
		for _, e := range p.events {
			all = append(all, eventWord(e.K, e.T))
		}
		w.told(townRcv+n, p.lost, all...)
		if (w.d.word(townRcv+n, atWaits) == 1) != p.waits {
			w.t.Fatalf("endpoint %d waits: %v", n, !p.waits)
		}
	}
}

// TestHistory lets threads run, leave and be charged in any order.
func TestHistory(t *testing.T) {
	done := map[string]*[14]int{}
	for begin := range 40 {
		x, w := row(begin), newTown(t)
		for step := range 300 {
			if step == 200 && begin%2 == 0 {
				must(t, build.Kill(w.m, townComp+1))
				w.lives[1] = false
				w.d = look(w.m)
			}
			name, e := w.some(&x, x.pick(cores))
			if done[name] == nil {
				done[name] = new([14]int)
			}
			done[name][e]++
			w.remembered()
		}
	}
	for name, all := range map[string][]api.Errno{
		"run":   {api.OK, api.ErrUsed, api.ErrLive, api.ErrTime},
		"leave": {api.OK, api.ErrNone},
		"tick":  {api.OK},
		"spent": {api.OK},
		"idle":  {api.OK},
	} {
		for _, e := range all {
			if done[name] == nil || done[name][e] < 20 {
				t.Errorf("%s: %v", name, done[name])
			}
		}
	}
}

// TestShared has threads that have one budget together: behind a tick none of them runs there
// when nothing is left, whoever was charged for that.
func TestShared(t *testing.T) {
	spent := 0
	for begin := range 40 {
		x, w := row(500+begin), plain(t)
		for _, f := range []int{run, work, calm, boss} {
			w.say(f, atTcap, purse)
		}
		for range 60 {
			number := x.pick(cores)
			switch x.pick(6) {
			case 0, 1:
				w.run(number, pickOf(&x, []int{run, work, calm, boss, idle}))
				continue
			case 2:
				must(t, tcap.Give(w.m.Mem(), gold, purse, 1+x.pick(9), 0))
				w.d = look(w.m)
				continue
			}
			gone, e := w.tick(number, x.pick(60))
			w.is(e, api.OK)
			if gone {
				spent++
			}
			if f := w.m.Cur(number); f != nobody && !tcap.Can(w.m.Mem(), w.d.word(f, atTcap)) {
				t.Fatalf("core %d: %d runs, and has nothing left", number, f)
			}
		}
	}
	if spent < 200 {
		t.Errorf("%d were spent", spent)
	}
}

// TestManyCalls makes many calls in worlds with words of all sorts.
func TestManyCalls(t *testing.T) {
	var all [14]int
	for begin := range 60 {
		x, w := row(1000+begin), plain(t)
		for range 300 {
			if x.pick(3) == 0 {
				w.scrawl(&x)
			}
			all[w.any(&x)]++
		}
	}
	for _, e := range []api.Errno{api.OK, api.ErrArg, api.ErrNone, api.ErrType, api.ErrLive, api.ErrDepth, api.ErrUsed, api.ErrTime, api.ErrForm} {
		if all[e] < 40 {
			t.Errorf("%d was answered %d times", e, all[e])
		}
	}
}

// scrawl changes something, so that things are right again now and then.
func (w *world) scrawl(x *row) {
	w.t.Helper()
	f := x.pick(size)
	thread := run + x.pick(idle-run+1)
	purses := gold + x.pick(dust-gold+1)
	point := point + x.pick(own-point+1)
	switch x.pick(14) {
	case 0:
		w.begin(f, pickOf(x, allHeads())...)
	case 1, 2:
		w.begin(thread, oThd)
		w.thread(thread, pickOf(x, []int{ready, ready, runs, waits, dead}), x.pick(maxCores), gold+x.pick(4), pickOf(x, []int{0, point + 1, point + 1, f + 1}), x.pick(maxDepth+1))
	case 3:
		bad := pickOf(x, append(noThds(), noRecords(x.pick(maxDepth))...))
		w.store(thread, bad.at, bad.one)
	case 4:
		bad := pickOf(x, noTcaps())
		w.store(purses, bad.at, bad.one)
	case 5:
		bad := pickOf(x, append(noRcvs(), noRings()...))
		w.store(point, bad.at, bad.one)
	case 6, 7:
		w.begin(purses, oTcap)
		if x.pick(3) == 0 {
			w.say(purses, atInf, 1, 0, 3)
		} else {
			w.say(purses, atInf, 0, x.pick(30), 3)
		}
	case 8, 9:
		w.begin(point, oRcv)
		w.endpoint(point, pickOf(x, []int{thread, thread, thread, f, 60}), x.pick(maxFrames+1), x.pick(2), x.pick(maxRing+1))
	case 10:
		w.retyped(f, x.pick(3))
	case 11:
		if id := x.pick(3); w.d.lives[id] != gone && w.d.lives[id] < epochs-2 && x.pick(6) == 0 {
			w.kill(id)
		} else if w.d.living < 3 {
			w.take()
		}
	case 12:
		w.lay(thread, x.pick(maxDepth), api.Frame{Comp: home, L: x.pick(3), E: max(w.d.lives[x.pick(3)], 0)})
	case 13:
		if x.pick(4) == 0 {
			w.set(x.pick(cores), pickOf(x, []int{nobody, thread, thread, f, 63}))
		}
	}
}

// any makes a call of any sort, with arguments of any sort.
func (w *world) any(x *row) api.Errno {
	w.t.Helper()
	number := x.pick(cores)
	if x.pick(12) == 0 {
		number = pickOf(x, noCores(cores))
	}
	f := pickOf(x, []int{run + x.pick(7), run + x.pick(7), run + x.pick(7), x.pick(size+2) - 1})
	k := pickOf(x, []int{1 + x.pick(6), 1 + x.pick(6), x.pick(9) - 1})
	switch x.pick(8) {
	case 0:
		return w.can(f)
	case 1, 2, 3:
		return w.run(number, f)
	case 4:
		return w.tell(pickOf(x, []int{0, point + 1, gate + 1, own + 1, x.pick(size+2) - 1}), api.Event{K: k, T: x.pick(maxFrames)})
	case 5:
		return w.leave(number, pickOf(x, []int{ready, ready, waits, dead, pickOf(x, noStates())}), k)
	}
	_, e := w.tick(number, pickOf(x, []int{x.pick(10), x.pick(10), maxBudget, pickOf(x, noTicks())}))
	return e
}

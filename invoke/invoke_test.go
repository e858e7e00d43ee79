package invoke_test

import (
	"math"
	"slices"
	"testing"

	"palanquin/api"
	"palanquin/build"
	"palanquin/comp"
	"palanquin/invoke"
	"palanquin/machine"
	"palanquin/stack"
)

// The frames of a plain world: tables, three components that live and one that does not,
// threads with records of all depths, objects, a user's frame, an untyped one, and a kernel's
// with nothing.
const (
	table = 0
	desk  = 1 // another one
	leaf  = 2
	pages = 3
	chart = 4 // another one
	home  = 5
	shop  = 6
	yard  = 7 // takes the faults of the two others
	tomb  = 8 // lives no more
	run   = 9 // a thread in shop, called by home
	idle  = 10
	deep  = 11
	purse = 12
	point = 13
	user  = 14
	none  = 15
	free  = 16
	size  = 18
)

// Where things go on in the plain world.
const (
	begun  = 11 // run in home
	inShop = 22
	inYard = 44 // where yard takes shop's faults
)

// junk is what lies in words that nobody reads.
const junk = 1<<45 + 3

// plain is a world with two threads that have called, and one that has no record, with
// something in all other parts of the machine.
func plain(t *testing.T) *world {
	t.Helper()
	w := blank(t, size)
	for f, k := range []uint64{oTbl, oTbl, oTbl + leafBit, oPgt, oPgt, oComp, oComp, oComp, oComp, oThd, oThd, oThd, oTcap, oRcv} {
		w.retyped(f, kernels)
		w.begin(f, k)
	}
	w.retyped(user, users)
	w.retyped(free, kernels)
	w.born()
	w.component(home, api.Comp{Tbl: table, Pgt: pages, L: 0, E: 0, Fault: yard + 1, At: 33})
	w.component(shop, api.Comp{Tbl: desk, Pgt: chart, L: 1, E: 1, Fault: yard + 1, At: inYard})
	w.component(yard, api.Comp{Tbl: table, Pgt: chart, L: 2, E: 2})
	w.component(tomb, api.Comp{Tbl: desk, Pgt: pages, L: 3, E: 0, Fault: home + 1, At: 7})
	for n, f := range []int{run, idle, deep} {
		w.thread(f, 2*n)
	}
	w.deepen(run, 2)
	w.deepen(idle, 0)
	w.deepen(deep, maxDepth)
	w.stir()
	w.held("plain", api.OK, api.OK)
	return w
}

// born lets the ids of the components live: 0 in its first epoch, 1 in the next one, 2 in the
// one behind that; 3 lives no more.
func (w *world) born() {
	w.t.Helper()
	for range 3 {
		w.take()
	}
	for _, id := range []int{1, 2, 2} {
		w.kill(id)
		w.take()
	}
	id, _ := w.take()
	w.kill(id)
}

// thread makes frame f a thread in which a word lies wherever one can, and calls from home to
// shop and back, as deep as can be.
func (w *world) thread(f int, first int) {
	w.t.Helper()
	for at := headWords; at < words; at++ {
		w.store(f, at, junk+uint64(at))
	}
	w.say(f, atState, first%3, first%2, purse, point+1)
	for i := range maxDepth {
		w.lay(f, i, record(i%2*(shop-home)+home, begun*(i+1)))
	}
}

// record is one of a component of the plain world, at ip.
func record(c int, ip int) api.Frame {
	switch c {
	case home:
		return api.Frame{Comp: home, Tbl: table, Pgt: pages, L: 0, E: 0, Ip: ip}
	case shop:
		return api.Frame{Comp: shop, Tbl: desk, Pgt: chart, L: 1, E: 1, Ip: ip}
	case yard:
		return api.Frame{Comp: yard, Tbl: table, Pgt: chart, L: 2, E: 2, Ip: ip}
	}
	return api.Frame{Comp: tomb, Tbl: desk, Pgt: pages, L: 3, E: 0, Ip: ip}
}

// inv is a capability to call a component of the plain world by, at at.
func inv(c int, at int) api.Cap {
	r := record(c, at)
	return api.Cap{K: cInv, R: 9, T: c, L: r.L, E: r.E, A: at}
}

// stir lets the machine have something in every part that no call of the layer is for.
func (w *world) stir() {
	w.t.Helper()
	for number := range 2 {
		for range 4 {
			must(w.t, w.m.Clock().Step(number))
		}
		must(w.t, w.m.SetCur(number, run+number))
		must(w.t, w.m.Regs(number).Set(number, 9))
		must(w.t, w.m.Tlb(number).Put(api.Key{Space: number, Page: 3}, api.Pte{On: true, F: 4, R: 1}))
		must(w.t, w.m.Lines().Attach(2+number, point))
		must(w.t, w.m.Clock().Enter(number))
	}
	must(w.t, w.m.Clock().Flush(0))
	must(w.t, w.m.Clock().Flush(1))
	for _, f := range []int{table, pages, home, purse} {
		must(w.t, w.m.Typ().Ref(f))
	}
	w.d = look(w.m)
}

func TestLimits(t *testing.T) {
	if api.MaxFrames != maxFrames || api.HeadWords != headWords || api.HeadWords+api.PageWords != words || api.MaxCores != maxCores {
		t.Error("frames, cores")
	}
	if api.MaxLive != ids || api.MaxEpoch != maxEpoch || api.MaxTime != maxTime || api.MaxDepth != maxDepth || api.MaxRegs != registers || api.MaxLines != lineCount || api.MaxRefs != maxRefs {
		t.Error("numbers")
	}
	if api.RAll != maxRight || api.CInv != cInv || api.CHw != cHw || api.TDead != dead {
		t.Error("rights, capabilities, states")
	}
	for _, list := range [][]int{
		{api.ONone, api.OTbl, api.OPgt, api.OComp, api.OThd, api.OTcap, api.ORcv},
		{api.FUntyped, api.FUser, api.FKernel},
	} {
		for i, n := range list {
			if n != i {
				t.Errorf("kinds: %v", list)
			}
		}
	}
	errors := []api.Errno{api.OK, api.ErrArg, api.ErrNone, api.ErrType, api.ErrLive, api.ErrDepth, api.ErrForm, api.ErrZero}
	if !slices.Equal(errors, []api.Errno{0, 1, 3, 4, 7, 8, 12, 13}) {
		t.Error("errors")
	}
}

// TestExample is the chapter's.
func TestExample(t *testing.T) {
	w := plain(t)
	for i := range maxDepth {
		w.lay(run, 0, record(home, i))
		w.deepen(run, 1)
		w.returns(run, 0, api.ErrDepth)
	}
}

// TestByHand goes through all calls; all numbers are written out.
func TestByHand(t *testing.T) {
	m, e := machine.New(api.Config{Frames: 64, Cores: 1, Room: 1})
	must(t, e)
	for f := range 64 {
		must(t, m.Retype(f, api.FKernel))
	}
	must(t, build.Tbl(m, 1, 0))
	must(t, build.Tbl(m, 2, 0))
	must(t, build.Pgt(m, 3, 0))
	_, e = build.Comp(m, 63, 1, 3)
	must(t, e)
	c, e := build.Comp(m, 9, 2, 3)
	must(t, e)
	must(t, build.Tcap(m, 4))
	must(t, build.Thd(m, 5, 63, 4, 0))
	has := func(depth uint64, want ...uint64) {
		t.Helper()
		all, _ := m.Mem().Words(5)
		if all[8] != depth || !slices.Equal(all[17:17+len(want)], want) {
			t.Errorf("depth %d, %v; want %d, %v", all[8], all[17:], depth, want)
		}
	}
	here := func(want api.Frame) {
		t.Helper()
		if r, e := invoke.Here(m, 5); r != want || e != api.OK {
			t.Errorf("Here: %v, %d; want %v", r, e, want)
		}
	}
	back := func(want int, wantE api.Errno) {
		t.Helper()
		if ip, e := invoke.Ret(m, 5); ip != want || e != wantE {
			t.Errorf("Ret: %d, %d; want %d, %d", ip, e, want, wantE)
		}
	}
	const inHome, inNine = 63 + 1*64 + 3*4096, 9 + 2*64 + 3*4096 + 1<<18
	has(1, inHome, 0)
	here(api.Frame{Comp: 63, Tbl: 1, Pgt: 3})
	must(t, invoke.Call(m, 5, api.Cap{K: 7, T: 9, L: 1, A: 700}, 1<<30))
	has(2, inHome, 1<<30, inNine, 700, 0, 0)
	here(api.Frame{Comp: 9, Tbl: 2, Pgt: 3, L: 1, Ip: 700})
	must(t, invoke.Enter(m, 5, 63, 5))
	has(3, inHome, 1<<30, inNine, 700, inHome, 5, 0, 0)
	back(700, api.OK)
	has(2, inHome, 1<<30, inNine, 700)
	if e := invoke.Fault(m, 5); e != 3 {
		t.Errorf("Fault: %d", e)
	}
	must(t, comp.Hand(m.Mem(), 9, 63, 8))
	must(t, invoke.Fault(m, 5))
	has(3, inHome, 1<<30, inNine, 700, inHome, 8, 0, 0)
	back(700, api.OK)
	back(1<<30, api.OK)
	has(1, inHome, 1<<30)
	back(0, 8)
	must(t, build.Kill(m, 9))
	c.K, c.A = 7, 1
	if e := invoke.Call(m, 5, c, 0); e != 7 {
		t.Errorf("Call: %d", e)
	}
	has(1, inHome, 1<<30)
}

// Each error of each call, alone and with others.

// asked is what a call is asked with.
type asked struct {
	f, c, at, ip int
	by           api.Cap
}

// flaw is something for which a call is refused. Those of one part can't be together.
type flaw struct {
	part string
	want api.Errno
	make func(w *world, x *asked)
}

// sound is what the calls are asked with when there is nothing to refuse.
func sound() asked { return asked{f: run, c: yard, at: 77, ip: 55, by: inv(yard, 99)} }

// flaws fails if what is asked is not let through without a flaw, or not refused for each
// flaw alone, and for each two and three of them as for the one that is named first.
func flaws(t *testing.T, all []flaw, ask func(w *world, x asked) api.Errno) {
	t.Helper()
	w := plain(t)
	w.is(ask(w, sound()), api.OK)
	for i := range all {
		for j := i; j < len(all); j++ {
			for k := j; k < len(all); k++ {
				if i < j && all[i].part == all[j].part || j < k && all[j].part == all[k].part || i < k && all[i].part == all[k].part {
					continue
				}
				w, x := plain(t), sound()
				for _, n := range slices.Compact([]int{k, j, i}) {
					all[n].make(w, &x)
				}
				if e := ask(w, x); e != all[i].want {
					t.Fatalf("%d, %d, %d (%s, %s, %s): %d; want %d", i, j, k, all[i].part, all[j].part, all[k].part, e, all[i].want)
				}
			}
		}
	}
}

// arg changes what is asked.
func arg(do func(x *asked)) func(w *world, x *asked) {
	return func(w *world, x *asked) { do(x) }
}

// lies lets a word of a frame be another one.
func lies(f int, at int, one uint64) func(w *world, x *asked) {
	return func(w *world, x *asked) { w.store(f, at, one) }
}

// ends kills an id.
func ends(id int) func(w *world, x *asked) {
	return func(w *world, x *asked) { w.kill(id) }
}

// last lets a word of the last record of run be another one.
func last(at int, one uint64) func(w *world, x *asked) {
	return func(w *world, x *asked) {
		w.store(run, atRecords+2*w.d.word(run, atDepth)-2+at, one)
	}
}

// noThread are the flaws of what is no thread, or none that is right.
func noThread() []flaw {
	return []flaw{
		{"thread", api.ErrType, lies(run, 0, oComp)},
		{"thread", api.ErrType, lies(run, 0, oThd+leafBit)},
		{"thread", api.ErrType, lies(run, 3, 1)},
		{"thread", api.ErrType, arg(func(x *asked) { x.f = -1 })},
		{"thread", api.ErrType, arg(func(x *asked) { x.f = size })},
		{"thread", api.ErrType, arg(func(x *asked) { x.f = home })},
		{"parts", api.ErrForm, lies(run, atState, dead+1)},
		{"parts", api.ErrForm, lies(run, atCore, maxCores)},
		{"parts", api.ErrForm, lies(run, atTcap, maxFrames)},
		{"parts", api.ErrForm, lies(run, atRcv, maxFrames+1)},
	}
}

// nowhereYet are those of a thread that is nowhere, or can't be where it is.
func nowhereYet() []flaw {
	return append(noThread(),
		flaw{"depth", api.ErrForm, lies(run, atDepth, maxDepth+1)},
		flaw{"depth", api.ErrDepth, lies(run, atDepth, 0)},
		flaw{"record", api.ErrForm, last(0, 1<<40)},
		flaw{"record", api.ErrForm, last(1, maxTime+1)},
	)
}

// full is a thread that has no room for a record.
func full() flaw { return flaw{"depth", api.ErrDepth, lies(run, atDepth, maxDepth)} }

func TestHereErrors(t *testing.T) {
	flaws(t, nowhereYet(), func(w *world, x asked) api.Errno { _, e := w.here(x.f); return e })
}

func TestEnterErrors(t *testing.T) {
	all := []flaw{
		{"component", api.ErrType, lies(yard, 0, oThd)},
		{"component", api.ErrType, lies(yard, 0, oComp+leafBit)},
		{"component", api.ErrType, arg(func(x *asked) { x.c = -1 })},
		{"component", api.ErrType, arg(func(x *asked) { x.c = size })},
		{"component", api.ErrType, arg(func(x *asked) { x.c = idle })},
		{"its parts", api.ErrForm, lies(yard, atTbl, maxFrames)},
		{"its parts", api.ErrForm, lies(yard, atAt, 1)},
		{"its life", api.ErrLive, ends(2)},
		{"its life", api.ErrLive, lies(yard, atL, 3)},
		{"its life", api.ErrLive, lies(yard, atE, 1)},
		{"place", api.ErrArg, arg(func(x *asked) { x.at = -1 })},
		{"place", api.ErrArg, arg(func(x *asked) { x.at = maxTime + 1 })},
	}
	flaws(t, append(append(all, noThread()...), full()), func(w *world, x asked) api.Errno { return w.enter(x.f, x.c, x.at) })
}

func TestCallErrors(t *testing.T) {
	by := func(do func(c *api.Cap)) func(w *world, x *asked) {
		return func(w *world, x *asked) { do(&x.by) }
	}
	all := []flaw{
		{"ip", api.ErrArg, arg(func(x *asked) { x.ip = -1 })},
		{"ip", api.ErrArg, arg(func(x *asked) { x.ip = maxTime + 1 })},
		{"cap", api.ErrType, by(func(c *api.Cap) { c.K = api.CComp })},
		{"cap", api.ErrType, by(func(c *api.Cap) { c.R = -1 })},
		{"cap", api.ErrType, by(func(c *api.Cap) { c.T = -1 })},
		{"cap", api.ErrType, by(func(c *api.Cap) { c.L = ids })},
		{"cap", api.ErrType, by(func(c *api.Cap) { c.E = maxEpoch })},
		{"cap", api.ErrType, by(func(c *api.Cap) { c.A = maxTime + 1 })},
	}
	all = append(all, nowhereYet()...)
	all = append(all,
		flaw{"component", api.ErrLive, lies(yard, 0, oNone)},
		flaw{"component", api.ErrLive, lies(yard, atPgt, maxFrames)},
		flaw{"component", api.ErrLive, by(func(c *api.Cap) { c.T = size })},
		flaw{"component", api.ErrLive, by(func(c *api.Cap) { c.T = run })},
		flaw{"life", api.ErrLive, ends(2)},
		flaw{"life", api.ErrLive, by(func(c *api.Cap) { c.L = 1 })},
		flaw{"life", api.ErrLive, by(func(c *api.Cap) { c.E = 1 })},
		flaw{"life", api.ErrLive, func(w *world, x *asked) { w.kill(2); w.take(); w.say(yard, atE, 3) }},
		flaw{"life", api.ErrLive, func(w *world, x *asked) { w.say(yard, atL, 1, 1) }},
		full(),
	)
	flaws(t, all, func(w *world, x asked) api.Errno { return w.call(x.f, x.by, x.ip) })
}

func TestRetErrors(t *testing.T) {
	all := append(noThread(),
		flaw{"parts", api.ErrForm, lies(run, atDepth, maxDepth+1)},
		flaw{"records", api.ErrForm, lies(run, atRecords, 1<<40)},
		flaw{"records", api.ErrForm, lies(run, atRecords+1, maxTime+1)},
		flaw{"records", api.ErrForm, last(0, 1<<62)},
		flaw{"records", api.ErrForm, last(1, math.MaxUint64)},
		flaw{"depth", api.ErrDepth, lies(run, atDepth, 1)},
		flaw{"life", api.ErrLive, ends(0)},
		flaw{"life", api.ErrLive, func(w *world, x *asked) { w.kill(0); w.take() }},
		flaw{"life", api.ErrLive, func(w *world, x *asked) { w.lay(run, 0, record(tomb, 9)) }},
	)
	flaws(t, all, func(w *world, x asked) api.Errno { _, e := w.ret(x.f); return e })
}

func TestFaultErrors(t *testing.T) {
	all := append(nowhereYet(),
		flaw{"component", api.ErrLive, lies(shop, 0, oTbl)},
		flaw{"component", api.ErrLive, lies(shop, atTbl, maxFrames)},
		flaw{"component", api.ErrLive, func(w *world, x *asked) { w.lay(run, w.d.word(run, atDepth)-1, record(tomb, 9)) }},
		flaw{"life", api.ErrLive, ends(1)},
		flaw{"life", api.ErrLive, func(w *world, x *asked) { w.kill(1); w.take(); w.say(shop, atE, 2) }},
		flaw{"life", api.ErrLive, func(w *world, x *asked) { w.say(shop, atL, 2, 2) }},
		flaw{"handed", api.ErrNone, func(w *world, x *asked) { w.say(shop, atFault, 0, 0) }},
		flaw{"taker", api.ErrType, lies(yard, 0, oThd)},
		flaw{"taker", api.ErrType, lies(shop, atFault, size+1)},
		flaw{"taker", api.ErrType, lies(shop, atFault, run+1)},
		flaw{"its parts", api.ErrForm, lies(yard, atTbl, maxFrames)},
		flaw{"its life", api.ErrLive, ends(2)},
		full(),
	)
	flaws(t, all, func(w *world, x asked) api.Errno { return w.fault(x.f) })
}

// Threads of each depth, and frames of each sort.

// TestDepths makes each call with threads of each depth, whatever lies in their records
// beyond that.
func TestDepths(t *testing.T) {
	for _, f := range []int{run, idle, deep} {
		for depth := range maxDepth + 2 {
			fresh := func() *world {
				t.Helper()
				w := plain(t)
				for i := depth; i < maxDepth; i++ {
					w.store(f, atRecords+2*i, math.MaxUint64)
					w.store(f, atRecords+2*i+1, math.MaxUint64)
				}
				w.deepen(f, depth)
				return w
			}
			at := [2]int{shop, home}[depth%2]
			top, none := record(at, begun*depth), api.OK
			back, deeper, least := begun*(depth-1), api.OK, api.OK
			switch {
			case depth == 0:
				top, none, back, deeper, least = api.Frame{}, api.ErrDepth, 0, api.ErrDepth, api.ErrDepth
			case depth == 1:
				back, least = 0, api.ErrDepth
			case depth == maxDepth:
				deeper = api.ErrDepth
			case depth > maxDepth:
				top, none, back, deeper, least = api.Frame{}, api.ErrForm, 0, api.ErrForm, api.ErrForm
			}
			fresh().tells(f, top, none)
			fresh().returns(f, back, least)
			fresh().is(fresh().call(f, inv(yard, 6), 5), deeper)
			fresh().is(fresh().fault(f), deeper)
			if depth == 0 {
				deeper = api.OK // who is nowhere can enter
			}
			fresh().is(fresh().enter(f, yard, 5), deeper)
		}
	}
}

// TestToTheEnd calls, faults and enters as deep as can be, and goes back all the way.
func TestToTheEnd(t *testing.T) {
	for _, way := range []func(w *world) api.Errno{
		func(w *world) api.Errno { return w.call(idle, inv(home, 3), 8) },
		func(w *world) api.Errno { return w.fault(idle) },
		func(w *world) api.Errno { return w.enter(idle, home, 5) },
	} {
		w := plain(t)
		w.say(home, atFault, home+1, 4)
		w.is(w.enter(idle, home, 1), api.OK)
		for range maxDepth - 1 {
			w.is(way(w), api.OK)
		}
		for range 2 {
			w.is(way(w), api.ErrDepth)
		}
		for range maxDepth - 1 {
			_, e := w.ret(idle)
			w.is(e, api.OK)
		}
		for range 2 {
			w.returns(idle, 0, api.ErrDepth)
		}
	}
}

// each makes each call with thread f, in worlds made anew, and answers what was answered.
func each(begin func() *world, f int) []api.Errno {
	_, here := begin().here(f)
	_, ret := begin().ret(f)
	return []api.Errno{here, ret, begin().enter(f, yard, 9), begin().call(f, inv(yard, 9), 4), begin().fault(f)}
}

// same fails if not all are that.
func same(t *testing.T, all []api.Errno, want api.Errno) {
	t.Helper()
	for _, e := range all {
		if e != want {
			t.Fatalf("answered %v; want %d", all, want)
		}
	}
}

// TestHeads has threads that begin with words of all sorts.
func TestHeads(t *testing.T) {
	for _, begin := range allHeads() {
		want := api.ErrType
		if len(begin) == 1 && begin[0] == oThd {
			want = api.OK
		}
		same(t, each(func() *world {
			w := plain(t)
			w.begin(run, begin...)
			return w
		}, run), want)
	}
}

// TestNoThreads has frames that are none, or are of something else.
func TestNoThreads(t *testing.T) {
	w := plain(t)
	for _, f := range append(noFrames(size), table, desk, leaf, pages, chart, home, shop, yard, tomb, purse, point, user, none, free) {
		same(t, each(func() *world { return w }, f), api.ErrType)
	}
}

// TestTypes has threads and components in frames of each type: what they begin with counts
// alone.
func TestTypes(t *testing.T) {
	for _, is := range []int{untyped, users, kernels} {
		for _, f := range []int{run, home, shop, yard, table, pages} {
			same(t, each(func() *world {
				w := plain(t)
				w.retyped(f, is)
				return w
			}, run), api.OK)
		}
	}
}

// TestThreadWords has threads of which one word is too great.
func TestThreadWords(t *testing.T) {
	for _, bad := range noThds() {
		same(t, each(func() *world {
			w := plain(t)
			w.store(run, bad.at, bad.one)
			return w
		}, run), api.ErrForm)
	}
	// What the parts are counts for nothing else.
	for at, most := range map[int]uint64{atState: dead, atCore: maxCores - 1, atTcap: maxFrames - 1, atRcv: maxFrames} {
		for one := range most + 1 {
			same(t, each(func() *world {
				w := plain(t)
				w.store(run, at, one)
				return w
			}, run), api.OK)
		}
	}
}

// TestRecordWords has records of which one word is too great: Ret looks at all, Enter at none,
// the others at the last one.
func TestRecordWords(t *testing.T) {
	for i := range 4 {
		for _, bad := range noRecords(i) {
			got := each(func() *world {
				w := plain(t)
				w.deepen(run, 3)
				w.store(run, bad.at, bad.one)
				return w
			}, run)
			want := []api.Errno{api.OK, api.ErrForm, api.OK, api.OK, api.OK}
			switch i {
			case 2:
				want = []api.Errno{api.ErrForm, api.ErrForm, api.OK, api.ErrForm, api.ErrForm}
			case 3: // it has no such record yet
				want[1] = api.OK
			}
			if !slices.Equal(got, want) {
				t.Fatalf("record %d, %v: %v; want %v", i, bad, got, want)
			}
		}
	}
}

// P30.1: Here.

// TestHere has records with all sorts of numbers: what lives, or is there at all, does not
// count.
func TestHere(t *testing.T) {
	w := plain(t)
	for n := range 64 {
		for _, r := range []api.Frame{
			{Comp: n}, {Tbl: n}, {Pgt: n}, {L: n}, {E: n * 1040}, {E: 65535 - n}, {Ip: n}, {Ip: maxTime - n},
			{Comp: n, Tbl: 63 - n, Pgt: n ^ 5, L: n ^ 42, E: n*1000 + 7, Ip: 1 << (n % 31)},
		} {
			for i := range maxDepth {
				w.deepen(run, i+1)
				w.lay(run, i, r)
				w.tells(run, r, api.OK)
			}
		}
	}
	for _, f := range []int{run, deep} {
		w.kill(f - run) // home, or yard
		r, e := w.here(f)
		w.is(e, api.OK)
		w.tells(f, r, api.OK)
	}
}

// TestTwoThreads has threads that are each where they are.
func TestTwoThreads(t *testing.T) {
	w := plain(t)
	w.is(w.enter(idle, yard, 3), api.OK)
	w.tells(idle, record(yard, 3), api.OK)
	w.tells(run, record(shop, inShop), api.OK)
	w.is(w.call(run, inv(yard, 4), 5), api.OK)
	w.tells(idle, record(yard, 3), api.OK)
	w.tells(run, record(yard, 4), api.OK)
	w.is(w.call(idle, inv(yard, 6), 7), api.OK)
	w.returns(run, 5, api.OK)
	w.tells(idle, record(yard, 6), api.OK)
	w.returns(idle, 7, api.OK)
	w.tells(deep, record(shop, 6*begun), api.OK)
}

// P30.1: Enter.

// TestEnterPlaces enters at all sorts of places.
func TestEnterPlaces(t *testing.T) {
	for _, c := range []int{home, shop, yard} {
		for _, at := range places() {
			w := plain(t)
			w.is(w.enter(run, c, at), api.OK)
			w.tells(run, record(c, at), api.OK)
			w.returns(run, inShop, api.OK)
		}
	}
	w := plain(t)
	for _, at := range noPlaces() {
		w.is(w.enter(run, yard, at), api.ErrArg)
		w.is(w.enter(deep, yard, at), api.ErrArg)
		w.is(w.enter(yard, yard, at), api.ErrArg)
		w.is(w.enter(run, tomb, at), api.ErrLive)
		w.is(w.enter(run, run, at), api.ErrType)
	}
}

// TestEnterWhat enters what is no component, or one that lives, lives no more, or has another
// id or epoch by now.
func TestEnterWhat(t *testing.T) {
	w := plain(t)
	for _, c := range append(noFrames(size), table, desk, leaf, pages, chart, run, idle, deep, purse, point, user, none, free) {
		w.is(w.enter(run, c, 5), api.ErrType)
	}
	w.is(w.enter(run, tomb, 5), api.ErrLive)
	for _, begin := range allHeads() {
		w := plain(t)
		w.begin(yard, begin...)
		want := api.ErrType
		if len(begin) == 1 && begin[0] == oComp {
			want = api.OK
		}
		w.is(w.enter(run, yard, 5), want)
	}
	for _, bad := range noComps() {
		w := plain(t)
		w.say(yard, atFault, 1, 1)
		w.store(yard, bad.at, bad.one)
		w.is(w.enter(run, yard, 5), api.ErrForm)
	}
}

// TestEnterLives has components of each id in some epochs, of which one lives.
func TestEnterLives(t *testing.T) {
	for id := range ids {
		for epoch := range 6 {
			w := plain(t)
			w.say(yard, atL, id, epoch)
			want := api.ErrLive
			if id < 3 && epoch == id {
				want = api.OK
			}
			w.is(w.enter(run, yard, 5), want)
		}
	}
	w := plain(t)
	w.kill(2)
	w.is(w.enter(run, yard, 5), api.ErrLive)
	w.take()
	w.is(w.enter(run, yard, 5), api.ErrLive)
	w.say(yard, atE, 3)
	w.is(w.enter(run, yard, 5), api.OK)
	w.say(tomb, atE, 1)
	w.is(w.enter(run, tomb, 5), api.ErrLive)
	w.take()
	w.is(w.enter(run, tomb, 5), api.OK)
}

// TestEnterRecord enters components with all sorts of numbers: the record has them.
func TestEnterRecord(t *testing.T) {
	w := plain(t)
	for w.d.living < ids {
		w.take()
	}
	for n := range 64 {
		for _, c := range []api.Comp{
			{Tbl: n}, {Pgt: n}, {L: n, E: w.d.lives[n]}, {Fault: n + 1, At: 9},
			{Tbl: 63 - n, Pgt: n ^ 9, L: n, E: w.d.lives[n], Fault: 64 - n, At: maxTime - n},
		} {
			f := []int{home, shop, yard, tomb}[n%4]
			w.component(f, c)
			w.is(w.enter(run, f, n), api.OK)
			w.tells(run, api.Frame{Comp: f, Tbl: c.Tbl, Pgt: c.Pgt, L: c.L, E: c.E, Ip: n}, api.OK)
			w.deepen(run, n%maxDepth)
		}
	}
}

// TestFarFrames has a machine of as many frames as there can be, with the thread, or the
// component, in each of them.
func TestFarFrames(t *testing.T) {
	for c := range maxFrames {
		f := (c*5 + 1) % maxFrames
		if f == c {
			continue
		}
		w := blank(t, maxFrames)
		w.take()
		w.component(c, api.Comp{Tbl: f, Pgt: c, Fault: c + 1, At: 6})
		w.begin(f, oThd)
		w.is(w.enter(f, c, 5), api.OK)
		w.is(w.call(f, api.Cap{K: cInv, T: c, A: 8}, 7), api.OK)
		w.is(w.fault(f), api.OK)
		w.tells(f, api.Frame{Comp: c, Tbl: f, Pgt: c, Ip: 6}, api.OK)
		w.returns(f, 8, api.OK)
		w.returns(f, 7, api.OK)
		w.is(w.enter(c, f, 5), api.ErrType)
		w.is(w.enter(c, c, 5), api.ErrType)
		w.is(w.enter(f, f, 5), api.ErrType)
	}
}

// TestFarEpoch has an id that lived in as many epochs as it can.
func TestFarEpoch(t *testing.T) {
	const latest = maxEpoch - 2
	m, e := machine.New(api.Config{Frames: 8, Cores: 1})
	must(t, e)
	for epoch := range latest {
		_, _, e := m.Live().Take(1)
		must(t, e)
		must(t, m.Live().Kill(0, epoch, 0))
	}
	_, _, e = m.Live().Take(1)
	must(t, e)
	for f := range 6 {
		must(t, m.Retype(f, api.FKernel))
	}
	c := api.Comp{Tbl: 1, Pgt: 2, E: latest, Fault: 6, At: 4}
	must(t, comp.Make(m.Mem(), 5, c))
	must(t, build.Tcap(m, 3))
	must(t, build.Thd(m, 4, 5, 3, 0))
	by := api.Cap{K: cInv, T: 5, E: latest, A: 3}
	must(t, invoke.Call(m, 4, by, 9))
	must(t, invoke.Fault(m, 4))
	want := api.Frame{Comp: 5, Tbl: 1, Pgt: 2, E: latest, Ip: 4}
	if r, e := invoke.Here(m, 4); r != want || e != api.OK {
		t.Errorf("Here: %v, %d", r, e)
	}
	for _, epoch := range []int{0, 1, latest - 1, latest + 1, latest - 256, latest - 1<<15} {
		by.E = epoch
		if e := invoke.Call(m, 4, by, 9); e != api.ErrLive {
			t.Errorf("in epoch %d: %d", epoch, e)
		}
	}
	must(t, build.Kill(m, 5))
	c.E++
	must(t, comp.Put(m.Mem(), 5, c))
	by.E = latest + 1
	if e := invoke.Call(m, 4, by, 9); e != api.ErrLive {
		t.Errorf("Call: %d", e)
	}
	if ip, e := invoke.Ret(m, 4); ip != 0 || e != api.ErrLive {
		t.Errorf("Ret: %d, %d", ip, e)
	}
}

// P30.1: Call.

// TestCallPlaces goes on at all sorts of places, and is called at such.
func TestCallPlaces(t *testing.T) {
	for _, ip := range places() {
		for _, at := range places() {
			w := plain(t)
			w.is(w.call(run, inv(yard, at), ip), api.OK)
			w.tells(run, record(yard, at), api.OK)
			w.returns(run, ip, api.OK)
			w.tells(run, record(shop, ip), api.OK)
		}
	}
	w := plain(t)
	for _, n := range noPlaces() {
		w.is(w.call(run, inv(yard, 5), n), api.ErrArg)
		w.is(w.call(run, inv(yard, n), n), api.ErrArg)
		w.is(w.call(run, inv(yard, n), 5), api.ErrType)
		w.is(w.call(size, inv(yard, n), 5), api.ErrType)
		w.is(w.call(deep, inv(tomb, 5), n), api.ErrArg)
	}
}

// TestCallKinds calls by capabilities of all kinds, right and not.
func TestCallKinds(t *testing.T) {
	for _, k := range append(far(), 0, 1, 2, 3, 4, 5, 6, cInv, 8, 9, 10, cHw, 12, 13, 15, 16, cInv+16, cInv+256) {
		for _, c := range []api.Cap{
			inv(yard, 9), inv(home, 0), inv(shop, 1), inv(tomb, 1), {}, {T: home}, {T: run}, {R: maxRight, T: home}, {T: home, A: 1}, {A: 1},
		} {
			w := plain(t)
			c.K = k
			want := api.ErrType
			switch {
			case k == cInv && (c.T == tomb || c.T == run || c.T == 0):
				want = api.ErrLive
			case k == cInv:
				want = api.OK
			}
			w.is(w.call(run, c, 4), want)
			w.is(w.call(run, c, -1), api.ErrArg)
		}
	}
}

// TestCallRights calls with all sorts of rights: which of them there are does not count.
func TestCallRights(t *testing.T) {
	for r := range maxRight + 1 {
		w, c := plain(t), inv(yard, 8)
		c.R = r
		w.is(w.call(run, c, 4), api.OK)
	}
	w, c := plain(t), inv(yard, 8)
	for _, r := range append(far(), maxRight+1, maxRight+2, 64, 1<<5+8) {
		c.R = r
		w.is(w.call(run, c, 4), api.ErrType)
	}
}

// TestCallParts calls by capabilities of which a part is another one, or can't be.
func TestCallParts(t *testing.T) {
	for n := range 64 {
		w, c := plain(t), inv(yard, 8)
		c.T = n
		want := api.ErrLive
		if n == yard {
			want = api.OK
		}
		w.is(w.call(run, c, 4), want)
		w, c = plain(t), inv(yard, 8)
		c.L = n
		want = api.ErrLive
		if n == 2 {
			want = api.OK
		}
		w.is(w.call(run, c, 4), want)
	}
	w := plain(t)
	for _, epoch := range []int{0, 1, 3, 4, 2 + 64, 2 + 256, 2 + 1<<15, maxEpoch - 1} {
		c := inv(yard, 8)
		c.E = epoch
		w.is(w.call(run, c, 4), api.ErrLive)
	}
	for _, n := range append(far(), maxEpoch, maxEpoch+2, 1<<32+2) {
		for _, part := range []func(c *api.Cap) *int{
			func(c *api.Cap) *int { return &c.T },
			func(c *api.Cap) *int { return &c.L },
			func(c *api.Cap) *int { return &c.E },
		} {
			c := inv(yard, 8)
			*part(&c) = n
			w.is(w.call(run, c, 4), api.ErrType)
			w.is(w.call(idle, c, 4), api.ErrType)
		}
	}
	for _, n := range []int{64, 65, 64 + yard, 66} {
		w.is(w.call(run, api.Cap{K: cInv, T: n, L: 2, E: 2}, 4), api.ErrType)
		w.is(w.call(run, api.Cap{K: cInv, T: yard, L: n, E: 2}, 4), api.ErrType)
	}
}

// TestCallWhat calls what is no component, or one whose words can't be.
func TestCallWhat(t *testing.T) {
	for _, begin := range allHeads() {
		w := plain(t)
		w.begin(yard, begin...)
		want := api.ErrLive
		if len(begin) == 1 && begin[0] == oComp {
			want = api.OK
		}
		w.is(w.call(run, inv(yard, 5), 6), want)
	}
	for _, bad := range noComps() {
		w := plain(t)
		w.say(yard, atFault, 1, 1)
		w.is(w.call(run, inv(yard, 5), 6), api.OK)
		w.store(yard, bad.at, bad.one)
		w.is(w.call(run, inv(yard, 5), 6), api.ErrLive)
	}
}

// TestCallAnew calls a component that is killed, and one that is made anew in its frame: in
// another epoch, or with another id.
func TestCallAnew(t *testing.T) {
	for depth := 1; depth <= maxDepth; depth++ {
		w := plain(t)
		w.deepen(deep, depth)
		old := inv(yard, 6)
		w.kill(2)
		w.is(w.call(deep, old, 4), api.ErrLive)
		_, epoch := w.take()
		w.is(w.call(deep, old, 4), api.ErrLive)
		w.say(yard, atE, epoch)
		w.is(w.call(deep, old, 4), api.ErrLive)
		next := old
		next.E = epoch
		want := api.OK
		if depth == maxDepth {
			want = api.ErrDepth
		}
		w.is(w.call(deep, next, 4), want)
		w.deepen(deep, depth)
		id, epoch := w.take()
		w.component(yard, api.Comp{Tbl: desk, Pgt: pages, L: id, E: epoch})
		w.is(w.call(deep, old, 4), api.ErrLive)
		w.is(w.call(deep, next, 4), api.ErrLive)
		next.L, next.E = id, epoch
		w.is(w.call(deep, next, 4), want)
	}
}

// TestCallFrom calls from where nobody lives, or no component is: from where does not count.
func TestCallFrom(t *testing.T) {
	for _, spoil := range []func(w *world){
		func(w *world) { w.kill(1) },
		func(w *world) { w.begin(shop, oNone) },
		func(w *world) { w.say(shop, atL, 2, 2) },
		func(w *world) { w.lay(run, 1, record(tomb, 3)) },
		func(w *world) { w.lay(run, 1, api.Frame{Comp: 63, Tbl: 63, Pgt: 63, L: 63, E: 65535}) },
	} {
		w := plain(t)
		spoil(w)
		w.is(w.call(run, inv(yard, 6), 4), api.OK)
		r, e := w.here(run)
		w.is(e, api.OK)
		if r != record(yard, 6) {
			t.Errorf("Here: %v", r)
		}
	}
}

// TestCallTables calls a component with other tables than those with which it was called
// before: each record has those of its time.
func TestCallTables(t *testing.T) {
	w := plain(t)
	w.is(w.call(run, inv(yard, 6), 4), api.OK)
	w.say(yard, atTbl, 40, 41)
	w.is(w.call(run, inv(yard, 7), 5), api.OK)
	w.tells(run, api.Frame{Comp: yard, Tbl: 40, Pgt: 41, L: 2, E: 2, Ip: 7}, api.OK)
	w.returns(run, 5, api.OK)
	w.tells(run, record(yard, 5), api.OK)
}

// P30.2: Ret.

// TestRetInto goes back, at each depth, into a component that lives, lives no more, or is
// made anew; what there is else in its frame by now does not count.
func TestRetInto(t *testing.T) {
	for depth := 2; depth <= maxDepth; depth++ {
		into := home
		if depth%2 == 1 {
			into = shop
		}
		id, ip := into-home, begun*(depth-1)
		fresh := func() *world {
			t.Helper()
			w := plain(t)
			w.deepen(deep, depth)
			return w
		}
		fresh().returns(deep, ip, api.OK)
		w := fresh()
		w.kill(1 - id) // from where it comes does not count
		w.returns(deep, ip, api.OK)
		w = fresh()
		w.kill(id)
		w.returns(deep, 0, api.ErrLive)
		_, epoch := w.take()
		w.returns(deep, 0, api.ErrLive)
		w.say(into, atE, epoch)
		w.returns(deep, 0, api.ErrLive)
		next := record(into, ip)
		next.E = epoch
		w.lay(deep, depth-2, next)
		w.returns(deep, ip, api.OK)
		for _, spoil := range []func(w *world){
			func(w *world) { w.begin(into, oNone) },
			func(w *world) { w.begin(into, oThd, 1) },
			func(w *world) { w.say(into, atL, 2, 2) },
			func(w *world) { w.say(into, atTbl, 99) },
			func(w *world) { w.say(into, atL, 3, 7) },
		} {
			w := fresh()
			spoil(w)
			w.returns(deep, ip, api.OK)
		}
	}
}

// TestRetEpochs goes back to each id in some epochs, of which one lives.
func TestRetEpochs(t *testing.T) {
	for id := range ids {
		for _, epoch := range []int{0, 1, 2, 3, id, 256, 257, 65535} {
			w := plain(t)
			w.lay(run, 0, api.Frame{Comp: id, Tbl: 63, Pgt: 2, L: id, E: epoch, Ip: 7})
			if id < 3 && epoch == id {
				w.returns(run, 7, api.OK)
				continue
			}
			w.returns(run, 0, api.ErrLive)
		}
	}
}

// TestRetPlaces goes back to where all sorts of calls were made.
func TestRetPlaces(t *testing.T) {
	for _, ip := range places() {
		w := plain(t)
		w.lay(run, 0, record(home, ip))
		w.returns(run, ip, api.OK)
		w.tells(run, record(home, ip), api.OK)
		w.returns(run, 0, api.ErrDepth)
	}
}

// TestRetDead goes back over a component that is dead, which stops it there.
func TestRetDead(t *testing.T) {
	w := plain(t)
	w.is(w.call(run, inv(yard, 1), 2), api.OK)
	w.is(w.call(run, inv(home, 3), 4), api.OK)
	w.kill(1)
	w.returns(run, 4, api.OK)
	for range 3 {
		w.returns(run, 0, api.ErrLive)
	}
	w.is(w.call(run, inv(home, 5), 6), api.OK)
	w.returns(run, 6, api.OK)
	w.returns(run, 0, api.ErrLive)
}

// P30.2: Fault.

// TestFault has components that hand their faults to each component, to be taken at all sorts
// of places.
func TestFault(t *testing.T) {
	for _, to := range []int{home, shop, yard} {
		for _, at := range places() {
			w := plain(t)
			w.say(shop, atFault, to+1, at)
			w.is(w.fault(run), api.OK)
			w.tells(run, record(to, at), api.OK)
			w.returns(run, inShop, api.OK)
			w.tells(run, record(shop, inShop), api.OK)
		}
	}
	for _, to := range append([]int{maxFrames - 1, size}, table, desk, leaf, pages, chart, run, idle, deep, purse, point, user, none, free) {
		w := plain(t)
		w.say(shop, atFault, to+1, 3)
		w.is(w.fault(run), api.ErrType)
		w.deepen(run, maxDepth)
		w.is(w.fault(run), api.ErrType)
	}
}

// TestFaultTaker has who takes the faults alive, dead, made anew, or no component.
func TestFaultTaker(t *testing.T) {
	for depth := 1; depth <= maxDepth; depth++ {
		fresh := func() *world {
			t.Helper()
			w := plain(t)
			w.deepen(deep, depth)
			return w
		}
		ends := api.OK
		if depth == maxDepth {
			ends = api.ErrDepth
		}
		fresh().is(fresh().fault(deep), ends)
		w := fresh()
		w.kill(2)
		w.is(w.fault(deep), api.ErrLive)
		_, epoch := w.take()
		w.is(w.fault(deep), api.ErrLive)
		w.say(yard, atE, epoch) // whoever is there now takes them
		w.is(w.fault(deep), ends)
		w = fresh()
		w.begin(yard, oTcap)
		w.is(w.fault(deep), api.ErrType)
		w = fresh()
		w.say(yard, atPgt, maxFrames)
		w.is(w.fault(deep), api.ErrForm)
		for _, c := range []int{home, shop} {
			w = fresh()
			w.say(c, atFault, 0, 0)
			want := ends
			if depth%2 == 1 && c == home || depth%2 == 0 && c == shop {
				want = api.ErrNone
			}
			w.is(w.fault(deep), want)
		}
	}
}

// TestFaultFrom faults in a component that is dead, made anew, or none.
func TestFaultFrom(t *testing.T) {
	w := plain(t)
	w.kill(1)
	w.is(w.fault(run), api.ErrLive)
	_, epoch := w.take()
	w.is(w.fault(run), api.ErrLive)
	w.say(shop, atE, epoch)
	w.is(w.fault(run), api.ErrLive)
	w.say(shop, atL, 2, 2)
	w.is(w.fault(run), api.ErrLive)
	w.say(shop, atL, 2, epoch)
	w.is(w.fault(run), api.ErrLive)
	for _, begin := range allHeads() {
		w := plain(t)
		w.begin(shop, begin...)
		want := api.ErrLive
		if len(begin) == 1 && begin[0] == oComp {
			want = api.OK
		}
		w.is(w.fault(run), want)
	}
	for _, bad := range noComps() {
		w := plain(t)
		w.store(shop, bad.at, bad.one)
		w.is(w.fault(run), api.ErrLive)
	}
	for c := range maxFrames {
		w := plain(t)
		r := record(shop, 5)
		r.Comp = c
		w.lay(run, 1, r)
		want := api.ErrLive
		if c == shop {
			want = api.OK
		}
		w.is(w.fault(run), want)
		// The tables of the record are not asked.
		w.deepen(run, 2)
		w.lay(run, 1, api.Frame{Comp: home, Tbl: c, Pgt: 63 - c, Ip: c})
		w.is(w.fault(run), api.OK)
	}
	for id := range ids {
		w := plain(t)
		r := record(shop, 5)
		r.L = id
		w.lay(run, 1, r)
		want := api.ErrLive
		if id == 1 {
			want = api.OK
		}
		w.is(w.fault(run), want)
	}
	for _, epoch := range []int{0, 2, 65, 257, 65535} {
		w := plain(t)
		r := record(shop, 5)
		r.E = epoch
		w.lay(run, 1, r)
		w.is(w.fault(run), api.ErrLive)
	}
}

// TestFaultOfFault faults in who takes faults, up to one that has nobody for that.
func TestFaultOfFault(t *testing.T) {
	w := plain(t)
	w.is(w.fault(run), api.OK)
	w.is(w.fault(run), api.ErrNone)
	w.say(yard, atFault, home+1, 5)
	w.is(w.fault(run), api.OK)
	w.tells(run, record(home, 5), api.OK)
	w.is(w.fault(run), api.OK)
	w.tells(run, record(yard, 33), api.OK)
	w.is(w.fault(run), api.OK)
	w.is(w.fault(run), api.ErrDepth)
	for _, ip := range []int{33, 5, inYard, inShop, begun} {
		w.returns(run, ip, api.OK)
	}
	w.returns(run, 0, api.ErrDepth)
}

// P26.3.

// TestUnmade has a nil machine, and one that no call made, with arguments of all sorts.
func TestUnmade(t *testing.T) {
	numbers := []int{0, 1, -1, 5, 63, 64, maxTime, maxTime + 1, math.MinInt, math.MaxInt}
	for _, m := range []*machine.Machine{nil, new(machine.Machine)} {
		for _, f := range numbers {
			if r, e := invoke.Here(m, f); r != (api.Frame{}) || e != api.ErrZero {
				t.Errorf("Here: %v, %d", r, e)
			}
			if ip, e := invoke.Ret(m, f); ip != 0 || e != api.ErrZero {
				t.Errorf("Ret: %d, %d", ip, e)
			}
			if e := invoke.Fault(m, f); e != api.ErrZero {
				t.Errorf("Fault: %d", e)
			}
			for _, n := range numbers {
				for _, c := range []api.Cap{{}, {K: cInv}, {K: cInv, T: f, L: n}, {K: n}, {K: cInv, A: -1}} {
					if e := invoke.Call(m, f, c, n); e != api.ErrZero {
						t.Errorf("Call: %d", e)
					}
				}
				for _, c := range numbers {
					if e := invoke.Enter(m, f, c, n); e != api.ErrZero {
						t.Errorf("Enter: %d", e)
					}
				}
			}
		}
		if m.Cores() != 0 {
			t.Error("it was made")
		}
	}
}

// P30.3.

// TestUndone calls, and goes back, at each depth: the records are what they were, but for the
// Ip of the call. What is called and done in between, and goes back, changes nothing of that.
func TestUndone(t *testing.T) {
	for depth := 1; depth < maxDepth; depth++ {
		for c := home; c <= yard; c++ {
			w := plain(t)
			w.deepen(deep, depth)
			before, _ := stack.All(w.m.Mem(), deep)
			for n, way := range []func() api.Errno{
				func() api.Errno { return w.call(deep, inv(c, 6), 100+c) },
				func() api.Errno { return w.fault(deep) },
				func() api.Errno { return w.enter(deep, c, 7) },
			} {
				w.is(way(), api.OK)
				if n == 0 {
					before[depth-1].Ip = 100 + c
				}
				for range maxDepth - depth - 1 {
					w.is(w.call(deep, inv(yard, 8), 9), api.OK)
				}
				for range maxDepth - depth - 1 {
					w.returns(deep, 9, api.OK)
				}
				w.returns(deep, before[depth-1].Ip, api.OK)
				after, e := stack.All(w.m.Mem(), deep)
				if !slices.Equal(before, after) || e != api.OK {
					t.Errorf("depth %d: %v; want %v", depth, after, before)
				}
			}
		}
	}
}

// open is a component that lives in a world of the kernel's calls, or does not, with what it
// is called by.
type open struct {
	f        int
	by       api.Cap
	lives    bool
	tbl, pgt int
	taker    int // and 1
	at       int
}

// town is a world that calls of the kernel alone made, with a history of its own: what each
// thread's records must be.
type town struct {
	*world
	all     [4]open
	history [2][]api.Frame
}

// The frames of a town: two tables of each kind, a budget, two threads, components.
const (
	townTbl   = 0
	townPgt   = 2
	townPurse = 4
	townThd   = 5
	townComp  = 7
	townSize  = 11
)

func newTown(t *testing.T) *town {
	t.Helper()
	w := &town{world: blank(t, townSize)}
	for f := range townSize {
		must(t, w.m.Retype(f, api.FKernel))
	}
	for i := range 2 {
		must(t, build.Tbl(w.m, townTbl+i, 0))
		must(t, build.Pgt(w.m, townPgt+i, 0))
	}
	must(t, build.Tcap(w.m, townPurse))
	for i := range w.all {
		w.all[i].f = townComp + i
		w.make(i)
	}
	for i := range w.history {
		must(t, build.Thd(w.m, townThd+i, townComp+i, townPurse, 0))
		w.history[i] = []api.Frame{w.all[i].record(0)}
	}
	w.d = look(w.m)
	return w
}

// make makes the component i, which has nobody for its faults.
func (w *town) make(i int) {
	w.t.Helper()
	o := &w.all[i]
	o.tbl, o.pgt = townTbl+i%2, townPgt+i/2
	c, e := build.Comp(w.m, o.f, o.tbl, o.pgt)
	must(w.t, e)
	o.by = api.Cap{K: cInv, R: 1, T: o.f, L: c.L, E: c.E}
	o.lives, o.taker, o.at = true, 0, 0
}

// record is one of the component as it is now, at ip.
func (o open) record(ip int) api.Frame {
	return api.Frame{Comp: o.f, Tbl: o.tbl, Pgt: o.pgt, L: o.by.L, E: o.by.E, Ip: ip}
}

// of tells whether the record is of the component as it is now, which lives.
func (o open) of(r api.Frame) bool {
	return o.lives && r.Comp == o.f && r.L == o.by.L && r.E == o.by.E
}

// renew kills the component i, or, if it lives no more, makes it anew once that is quiet.
func (w *town) renew(i int) {
	w.t.Helper()
	o := &w.all[i]
	switch {
	case !o.lives:
		w.pass()
		must(w.t, build.Untype(w.m, o.f))
		w.pass()
		must(w.t, w.m.Retype(o.f, api.FKernel))
		w.make(i)
	case o.by.E < epochs-3:
		must(w.t, build.Kill(w.m, o.f))
		o.lives = false
	}
	w.d = look(w.m)
}

// pass lets all cores take a step, enter and flush, so that what was is quiet.
func (w *town) pass() {
	w.t.Helper()
	for number := range 2 {
		must(w.t, w.m.Clock().Step(number))
	}
	for number := range 2 {
		must(w.t, w.m.Clock().Enter(number))
		must(w.t, w.m.Clock().Flush(number))
	}
}

// some makes one call of thread number n, changes the history as it must be then, and answers
// what was done.
func (w *town) some(x *row, n int) (string, api.Errno) {
	w.t.Helper()
	f, have := townThd+n, w.history[n]
	top := &have[len(have)-1]
	to := w.all[x.pick(len(w.all))]
	at, ip := x.pick(1000), x.pick(1000)
	switch x.pick(8) {
	case 0, 1, 2:
		by := to.by
		by.A = at
		e := w.call(f, by, ip)
		w.is(e, firstOf(!to.lives, api.ErrLive, len(have) == maxDepth, api.ErrDepth))
		if e == api.OK {
			top.Ip = ip
			w.history[n] = append(have, to.record(at))
		}
		return "call", e
	case 3:
		e := w.enter(f, to.f, at)
		w.is(e, firstOf(!to.lives, api.ErrLive, len(have) == maxDepth, api.ErrDepth))
		if e == api.OK {
			w.history[n] = append(have, to.record(at))
		}
		return "enter", e
	case 4:
		return "fault", w.faulted(n)
	}
	return "ret", w.returned(n)
}

// firstOf answers the error of the first that holds, or OK.
func firstOf(first bool, e api.Errno, second bool, other api.Errno) api.Errno {
	switch {
	case first:
		return e
	case second:
		return other
	}
	return api.OK
}

// faulted lets thread number n fault.
func (w *town) faulted(n int) api.Errno {
	w.t.Helper()
	have := w.history[n]
	top := have[len(have)-1]
	e := w.fault(townThd + n)
	in := w.all[top.Comp-townComp]
	if !in.of(top) {
		w.is(e, api.ErrLive)
		return e
	}
	if in.taker == 0 {
		w.is(e, api.ErrNone)
		return e
	}
	taker := w.all[in.taker-1-townComp]
	w.is(e, firstOf(!taker.lives, api.ErrLive, len(have) == maxDepth, api.ErrDepth))
	if e == api.OK {
		w.history[n] = append(have, taker.record(in.at))
	}
	return e
}

// returned lets thread number n go back.
func (w *town) returned(n int) api.Errno {
	w.t.Helper()
	have := w.history[n]
	if len(have) < 2 {
		w.returns(townThd+n, 0, api.ErrDepth)
		return api.ErrDepth
	}
	below := have[len(have)-2]
	if !w.all[below.Comp-townComp].of(below) {
		w.returns(townThd+n, 0, api.ErrLive)
		return api.ErrLive
	}
	w.returns(townThd+n, below.Ip, api.OK)
	w.history[n] = have[:len(have)-1]
	return api.OK
}

// remembered fails if the threads' records are not those of the history.
func (w *town) remembered() {
	w.t.Helper()
	for n, want := range w.history {
		got, e := stack.All(w.m.Mem(), townThd+n)
		if !slices.Equal(got, want) || e != api.OK {
			w.t.Fatalf("thread %d: %v, %d; want %v", n, got, e, want)
		}
		w.tells(townThd+n, want[len(want)-1], api.OK)
	}
}

// TestHistory makes many calls, returns and faults in any order, with components that are
// killed and made anew.
func TestHistory(t *testing.T) {
	done := map[string]*[14]int{}
	for begin := range 30 {
		x, w := row(begin), newTown(t)
		for range 400 {
			switch x.pick(16) {
			case 0:
				if x.pick(3) == 0 {
					w.renew(x.pick(len(w.all)))
				}
			case 1:
				i, to, at := x.pick(len(w.all)), townComp+x.pick(len(w.all)), x.pick(1000)
				must(t, comp.Hand(w.m.Mem(), townComp+i, to, at))
				w.all[i].taker, w.all[i].at = to+1, at
				w.d = look(w.m)
			default:
				name, e := w.some(&x, x.pick(2))
				if done[name] == nil {
					done[name] = new([14]int)
				}
				done[name][e]++
			}
			w.remembered()
		}
	}
	for name, all := range map[string][]api.Errno{
		"call":  {api.OK, api.ErrLive, api.ErrDepth},
		"enter": {api.OK, api.ErrLive, api.ErrDepth},
		"fault": {api.OK, api.ErrLive, api.ErrDepth, api.ErrNone},
		"ret":   {api.OK, api.ErrLive, api.ErrDepth},
	} {
		for _, e := range all {
			if done[name] == nil || done[name][e] < 20 {
				t.Errorf("%s: %v", name, done[name])
			}
		}
	}
}

// TestManyCalls makes many calls in worlds with words of all sorts.
func TestManyCalls(t *testing.T) {
	var all [14]int
	for begin := range 60 {
		x, w := row(1000+begin), plain(t)
		for range 300 {
			if x.pick(3) == 0 {
				w.scrawl(&x)
			}
			all[w.any(&x)]++
		}
	}
	for _, e := range []api.Errno{api.OK, api.ErrArg, api.ErrNone, api.ErrType, api.ErrLive, api.ErrDepth, api.ErrForm} {
		if all[e] < 100 {
			t.Errorf("%d was answered %d times", e, all[e])
		}
	}
}

// scrawl changes something, so that things are right again now and then.
func (w *world) scrawl(x *row) {
	w.t.Helper()
	f := x.pick(size)
	c := []int{home, shop, yard, tomb}[x.pick(4)]
	thread := []int{run, idle, deep}[x.pick(3)]
	switch x.pick(12) {
	case 0:
		w.begin(f, pickOf(x, allHeads())...)
	case 1:
		w.begin(c, oComp)
	case 2, 3:
		w.begin(thread, oThd)
	case 4:
		bad := pickOf(x, pickOf(x, [][]wrong{noComps(), noThds(), noRecords(x.pick(maxDepth))}))
		w.store(f, bad.at, bad.one)
	case 5:
		w.thread(thread, x.pick(6))
		w.deepen(thread, x.pick(maxDepth+1))
	case 6, 7:
		r := record(c, 0)
		w.component(c, api.Comp{Tbl: r.Tbl, Pgt: r.Pgt, L: r.L, E: max(w.d.lives[r.L], 0)})
		if x.pick(3) > 0 {
			w.say(c, atFault, pickOf(x, []int{home, shop, yard, tomb, f})+1, x.pick(100))
		}
	case 8:
		w.retyped(f, x.pick(3))
	case 9:
		if id := x.pick(4); w.d.lives[id] != gone && w.d.lives[id] < epochs-2 && x.pick(2) == 0 {
			w.kill(id)
		}
	case 10:
		if w.d.living < 4 {
			w.take()
		}
	case 11:
		w.lay(thread, x.pick(maxDepth), record(c, x.pick(100)))
	}
}

// any makes a call of any sort, with arguments of any sort.
func (w *world) any(x *row) api.Errno {
	w.t.Helper()
	f := pickOf(x, []int{run, idle, deep, run, idle, deep, x.pick(size+2) - 1})
	c := pickOf(x, []int{home, shop, yard, tomb, x.pick(size+2) - 1})
	at := pickOf(x, []int{x.pick(100), pickOf(x, places()), pickOf(x, places()), pickOf(x, noPlaces())})
	switch x.pick(7) {
	case 0, 1:
		by := inv(c, x.pick(100))
		if w.d.lives[by.L] != gone {
			by.E = w.d.lives[by.L]
		}
		if x.pick(8) == 0 {
			*pickOf(x, []*int{&by.K, &by.R, &by.T, &by.L, &by.E, &by.A}) = at
		}
		return w.call(f, by, at)
	case 2:
		return w.enter(f, c, at)
	case 3:
		return w.fault(f)
	case 4:
		_, e := w.here(f)
		return e
	}
	_, e := w.ret(f)
	return e
}

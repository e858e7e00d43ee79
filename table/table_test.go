package table_test

import (
	"math"
	"slices"
	"testing"

	"palanquin/api"
	"palanquin/build"
	"palanquin/cap"
	"palanquin/captbl"
	"palanquin/find"
	"palanquin/machine"
	"palanquin/table"
)

// The frames of a plain world: two tables, a leaf that hangs nowhere, objects, a user's
// frame, an untyped one, and from free on kernel's frames with nothing.
const (
	root  = 0
	leaf  = 1 // in slot 2 of root
	to    = 2 // another root
	twig  = 3 // in slot 5 of to
	loose = 4
	proot = 5
	pleaf = 6
	one   = 7 // a component
	purse = 8
	run   = 9 // a thread
	point = 10
	user  = 11
	none  = 12
	free  = 13
	size  = 16
)

// Addresses of the plain world: of root, and of to.
const (
	high  = 2
	first = high * slots
	have  = first + 3 // where root has a budget
	other = 5
	there = other*slots + 7 // where to has nothing
)

// budget is what root has at have.
func budget() api.Cap { return api.Cap{K: kTcap, R: allRights, T: purse} }

// plain is a world with two tables, at the time 8, at which both cores have entered, and
// flushed at others, with something in all other parts of the machine.
func plain(t *testing.T) *world {
	t.Helper()
	w := blank(t, size)
	for f, begin := range [][]uint64{
		{oTbl}, {oTbl + leafBit}, {oTbl}, {oTbl + leafBit}, {oTbl + leafBit}, {oPgt}, {oPgt + leafBit}, {oComp}, {oTcap}, {oThd}, {oRcv},
	} {
		w.retyped(f, kernels)
		w.begin(f, begin...)
	}
	w.retyped(user, users)
	for f := free; f < size; f++ {
		w.retyped(f, kernels)
	}
	w.put(root, high, api.Cap{K: kTbl, R: allRights, T: leaf})
	w.put(to, other, api.Cap{K: kTbl, R: allRights, T: twig})
	w.put(leaf, have%slots, budget())
	for _, f := range []int{leaf, twig, purse} {
		w.needed(f, 1)
	}
	w.stir()
	w.held("plain", api.OK, api.OK)
	return w
}

// stir lets the machine have something in every part that no call of the layer is for.
func (w *world) stir() {
	w.t.Helper()
	for number := range 2 {
		for range 4 {
			w.step(number)
		}
		must(w.t, w.m.SetCur(number, 7+number))
		must(w.t, w.m.Regs(number).Set(number, 9))
		must(w.t, w.m.Tlb(number).Put(api.Key{Space: number, Page: 3}, api.Pte{On: true, F: 4, R: 1}))
		must(w.t, w.m.Lines().Attach(2+number, user))
		w.flush(number)
	}
	w.enter(0)
	w.enter(1)
	_, _, e := w.m.Live().Take(0)
	must(w.t, e)
	w.d = look(w.m)
}

// cleared lets a slot have nothing.
func (w *world) cleared(f int, at int) { w.say(f, at, 0, 0) }

// caps are capabilities of each kind, with numbers at their ends.
func caps() []api.Cap {
	out := []api.Cap{
		{K: kMem, R: 5, T: 4, A: 10}, {K: kMem, R: allRights, A: maxFrames}, {K: kMem, T: 63, A: 1}, {K: kMem, R: 8, T: 62, A: 2},
		{K: kComp, R: 1, T: free, L: ids - 1, E: epochs - 1}, {K: kComp, R: allRights, T: one}, {K: kInv, R: 3, T: one, L: 7, E: 9, A: 12},
		{K: kInv, R: allRights, T: free, L: ids - 1, E: epochs - 1, A: maxTime}, {K: kInv, T: one}, {K: kHw}, {K: kHw, R: allRights},
	}
	for _, k := range []int{kTbl, kPgt, kThd, kTcap, kRcv, kSnd} {
		out = append(out, api.Cap{K: k, T: free}, api.Cap{K: k, R: allRights, T: size - 1}, api.Cap{K: k, R: 1 << (k % 5), T: 0})
	}
	return out
}

// wrongCaps are such as can't be, and such as are none or were one.
func wrongCaps() []api.Cap {
	out := []api.Cap{
		{}, {K: kQuiet}, {K: kQuiet, A: 3}, {K: kQuiet, A: maxTime}, {K: kNone, A: 1}, {K: kQuiet, R: 1}, {K: kQuiet, A: maxTime + 1},
		{K: kMem, R: 1, T: 3}, {K: kMem, T: 63, A: 2}, {K: kMem, A: maxFrames + 1}, {K: kMem, T: 1, A: maxFrames}, {K: kMem, A: -1}, {K: kMem, A: 1, L: 1}, {K: kMem, A: 1, E: 1}, {K: kMem, T: 1, A: math.MaxInt},
		{K: kComp, T: one, A: 1}, {K: kHw, T: 1}, {K: kHw, L: 1}, {K: kHw, E: 1}, {K: kHw, A: 1},
	}
	for _, k := range []int{kTbl, kPgt, kThd, kTcap, kRcv, kSnd} {
		out = append(out, api.Cap{K: k, T: free, L: 1}, api.Cap{K: k, T: free, E: 1}, api.Cap{K: k, T: free, A: 1})
	}
	for _, n := range append(far(), 12, 13, 16) {
		if !within(n, kNone, kHw) {
			out = append(out, api.Cap{K: n, R: 1, T: free})
		}
	}
	for k := kMem; k <= kHw; k++ {
		c := api.Cap{K: k, R: 1, T: free}
		if k == kMem {
			c.A = 1
		}
		if k == kHw {
			c.T = 0
		}
		for _, n := range []int{-1, 32, 64, epochs, maxTime + 1, math.MinInt, math.MaxInt, 1 << 32} {
			bad := []api.Cap{c, c, c, c, c}
			bad[0].R, bad[1].T, bad[2].L, bad[3].E, bad[4].A = n, n, n, n, n
			for _, x := range bad {
				if !isRight(x) {
					out = append(out, x)
				}
			}
		}
	}
	return out
}

func TestLimits(t *testing.T) {
	if api.MaxFrames != maxFrames || api.HeadWords != headWords || api.HeadWords+api.PageWords != words || api.MaxSlots != slots {
		t.Error("frames")
	}
	if api.MaxLive != ids || api.MaxEpoch != epochs || api.MaxTime != maxTime || api.RAll != allRights || api.MaxRefs != maxRefs || api.RCopy != toCopy {
		t.Error("numbers")
	}
	if api.MaxRegs != registers || api.MaxLines != lineCount {
		t.Error("registers, lines")
	}
	for _, list := range [][]int{
		{api.ONone, api.OTbl, api.OPgt, api.OComp, api.OThd, api.OTcap, api.ORcv},
		{api.CNone, api.CQuiet, api.CMem, api.CTbl, api.CPgt, api.CComp, api.CThd, api.CInv, api.CTcap, api.CRcv, api.CSnd, api.CHw},
		{api.FUntyped, api.FUser, api.FKernel},
	} {
		for i, n := range list {
			if n != i {
				t.Errorf("kinds: %v", list)
			}
		}
	}
	errors := []api.Errno{api.OK, api.ErrArg, api.ErrFull, api.ErrNone, api.ErrType, api.ErrPerm, api.ErrBusy, api.ErrUsed, api.ErrForm, api.ErrZero}
	if !slices.Equal(errors, []api.Errno{0, 1, 2, 3, 4, 5, 6, 10, 12, 13}) {
		t.Error("errors")
	}
}

// TestExample is the chapter's.
func TestExample(t *testing.T) {
	w := plain(t)
	w.is(w.grant(to, there, api.Cap{K: kTcap, R: allRights - toCopy, T: purse}), api.OK)
	if e := table.Copy(w.m, to, there, root, have+1, allRights); e != api.ErrPerm {
		t.Errorf("Copy without RCopy: %d", e)
	}
}

// TestByHand goes through all calls; all numbers are written out.
func TestByHand(t *testing.T) {
	m, e := machine.New(api.Config{Frames: 64, Cores: 1})
	must(t, e)
	for _, f := range []int{0, 20, 63} {
		must(t, m.Retype(f, api.FKernel))
	}
	must(t, build.Tbl(m, 63, 0))
	must(t, build.Tbl(m, 0, 1))
	must(t, build.Tcap(m, 20))
	counts := func(a int, b int, c int) {
		t.Helper()
		if m.Typ().Count(0) != a || m.Typ().Count(20) != b || m.Typ().Count(63) != c {
			t.Errorf("counts: %d, %d, %d", m.Typ().Count(0), m.Typ().Count(20), m.Typ().Count(63))
		}
	}
	has := func(f int, at int, want ...uint64) {
		t.Helper()
		all, _ := m.Mem().Words(f)
		if !slices.Equal(all[at:at+len(want)], want) {
			t.Errorf("frame %d: %v; want %v from %d on", f, all, want, at)
		}
	}
	now := func() {
		must(t, m.Clock().Step(0))
		must(t, m.Clock().Enter(0))
	}
	must(t, table.Cons(m, 63, 15, 0))
	has(63, 32, 0, 0, 3+31*16, 0)
	counts(1, 0, 0)
	must(t, table.Grant(m, 63, 241, api.Cap{K: 8, R: 27, T: 20}))
	has(0, 4, 0, 0, 8+27*16+20*512, 0, 0, 0)
	counts(1, 1, 0)
	must(t, table.Copy(m, 63, 241, 63, 255, 6))
	has(0, 32, 0, 0, 8+2*16+20*512, 0)
	counts(1, 2, 0)
	must(t, table.Grant(m, 63, 240, api.Cap{K: 3, R: 31, T: 63}))
	counts(1, 2, 1)
	now()
	if c, e := table.Drop(m, 63, 241); c != (api.Cap{K: 8, R: 27, T: 20}) || e != api.OK {
		t.Errorf("Drop: %v, %d", c, e)
	}
	has(0, 4, 3+31*16+63*512, 0, 1, 1, 0, 0)
	counts(1, 1, 1)
	now()
	if c, e := table.Drop(m, 63, 255); c != (api.Cap{K: 8, R: 2, T: 20}) || e != api.OK {
		t.Errorf("Drop: %v, %d", c, e)
	}
	counts(1, 0, 1)
	if m.Typ().Freed(20) != 2 || m.Typ().Freed(0) != -1 {
		t.Errorf("freed at %d, %d", m.Typ().Freed(20), m.Typ().Freed(0))
	}
	must(t, table.Freeze(m, 0))
	has(0, 0, 1+16+32, 2, 0, 0)
	now()
	if f, e := table.Decons(m, 63, 15); f != 0 || e != api.OK || m.Typ().Freed(0) != 3 {
		t.Errorf("Decons: %d, %d, freed at %d", f, e, m.Typ().Freed(0))
	}
	has(63, 32, 0, 0, 1, 3)
	counts(0, 0, 1)
}

// Each error of each call, alone and with others.

// asked is what a call is asked with.
type asked struct {
	root, a, to, b, r, high, leaf, out int
	c                                  api.Cap
}

// flaw is something for which a call is refused. Those of one part can't be together.
type flaw struct {
	part string
	want api.Errno
	make func(w *world, x *asked)
}

// sound is what the calls are asked with when there is nothing to refuse.
func sound() asked {
	return asked{root: root, a: have, to: to, b: there, r: allRights, high: 9, leaf: loose, out: high, c: api.Cap{K: kPgt, R: 3, T: proot}}
}

// flaws fails if what is asked is not let through without a flaw, or not refused for each
// flaw alone, and for each two and three of them as for the one that is named first.
func flaws(t *testing.T, all []flaw, begin func(w *world), ask func(w *world, x asked) api.Errno) {
	t.Helper()
	w := plain(t)
	begin(w)
	w.is(ask(w, sound()), api.OK)
	for i := range all {
		for j := i; j < len(all); j++ {
			for k := j; k < len(all); k++ {
				if i < j && all[i].part == all[j].part || j < k && all[j].part == all[k].part || i < k && all[i].part == all[k].part {
					continue
				}
				w, x := plain(t), sound()
				begin(w)
				for _, n := range slices.Compact([]int{k, j, i}) {
					all[n].make(w, &x)
				}
				if e := ask(w, x); e != all[i].want {
					t.Fatalf("%d, %d, %d (%s, %s, %s): %d; want %d", i, j, k, all[i].part, all[j].part, all[k].part, e, all[i].want)
				}
			}
		}
	}
}

// asItIs leaves a plain world.
func asItIs(*world) {}

// bits lets some bits of a word be others.
func bits(f int, at int, which uint64) func(w *world, x *asked) {
	return func(w *world, x *asked) { w.store(f, at, w.d.words[f][at]^which) }
}

// arg changes what is asked.
func arg(do func(x *asked)) func(w *world, x *asked) {
	return func(w *world, x *asked) { do(x) }
}

// into are the flaws of a place in the table of f with that leaf, to which something is to
// come.
func into(f int, leaf int, slot int, a func(x *asked, n int), r func(x *asked, n int)) []flaw {
	return append(along(f, leaf, slot, a, r, "to "),
		flaw{"to frozen", api.ErrBusy, bits(leaf, 0, frozenBit)},
		flaw{"to slot", api.ErrForm, func(w *world, x *asked) { w.say(leaf, there%slots, kTbl, 1) }},
		flaw{"to slot", api.ErrUsed, func(w *world, x *asked) { w.put(leaf, there%slots, api.Cap{K: kHw}) }},
		flaw{"to slot", api.ErrBusy, func(w *world, x *asked) { w.put(leaf, there%slots, api.Cap{K: kQuiet, A: 8}) }},
	)
}

// along are those of the way to it.
func along(f int, leaf int, slot int, a func(x *asked, n int), r func(x *asked, n int), name string) []flaw {
	return []flaw{
		{name + "address", api.ErrArg, arg(func(x *asked) { a(x, -1) })},
		{name + "address", api.ErrArg, arg(func(x *asked) { a(x, addresses) })},
		{name + "root", api.ErrType, bits(f, 0, leafBit)},
		{name + "root", api.ErrType, bits(f, 0, oTbl^oPgt)},
		{name + "root", api.ErrType, bits(f, 3, 1)},
		{name + "root", api.ErrType, arg(func(x *asked) { r(x, user) })},
		{name + "root", api.ErrType, arg(func(x *asked) { r(x, size) })},
		{name + "way", api.ErrNone, func(w *world, x *asked) { w.cleared(f, slot) }},
		{name + "way", api.ErrNone, func(w *world, x *asked) { w.put(f, slot, api.Cap{K: kQuiet, A: 1}) }},
		{name + "way", api.ErrNone, func(w *world, x *asked) { w.put(f, slot, api.Cap{K: kPgt, R: 3, T: leaf}) }},
		{name + "way", api.ErrNone, func(w *world, x *asked) { w.say(f, slot, kTbl+1<<62, 0) }},
		{name + "leaf", api.ErrType, bits(leaf, 0, leafBit)},
		{name + "leaf", api.ErrType, bits(leaf, 0, oTbl)},
		{name + "leaf", api.ErrType, bits(leaf, 2, 1)},
		{name + "leaf", api.ErrType, func(w *world, x *asked) { w.put(f, slot, api.Cap{K: kTbl, T: size}) }},
	}
}

// linked are the flaws of the frame that what comes needs.
func linked(f int) []flaw {
	return []flaw{
		{"frame", api.ErrType, func(w *world, x *asked) { w.retyped(f, users) }},
		{"frame", api.ErrType, func(w *world, x *asked) { w.retyped(f, untyped) }},
		{"frame", api.ErrFull, func(w *world, x *asked) { w.needed(f, maxRefs) }},
	}
}

func TestGrantErrors(t *testing.T) {
	all := []flaw{
		{"capability", api.ErrArg, arg(func(x *asked) { x.c = api.Cap{} })},
		{"capability", api.ErrArg, arg(func(x *asked) { x.c = api.Cap{K: kQuiet, A: 1} })},
		{"capability", api.ErrArg, arg(func(x *asked) { x.c.A = 1 })},
		{"capability", api.ErrArg, arg(func(x *asked) { x.c.T = maxFrames })},
		{"capability", api.ErrArg, arg(func(x *asked) { x.c.R = allRights + 1 })},
	}
	all = append(all, into(to, twig, other, func(x *asked, n int) { x.b = n }, func(x *asked, n int) { x.to = n })...)
	all = append(all, linked(proot)...)
	all = append(all, flaw{"frame", api.ErrType, arg(func(x *asked) { x.c.T = size })})
	flaws(t, all, asItIs, func(w *world, x asked) api.Errno { return w.grant(x.to, x.b, x.c) })
}

func TestCopyErrors(t *testing.T) {
	all := along(root, leaf, high, func(x *asked, n int) { x.a = n }, func(x *asked, n int) { x.root = n }, "from ")
	all = append(all,
		flaw{"from slot", api.ErrForm, func(w *world, x *asked) { w.say(leaf, have%slots, kTbl, 1) }},
		flaw{"from slot", api.ErrNone, func(w *world, x *asked) { w.cleared(leaf, have%slots) }},
		flaw{"from slot", api.ErrNone, func(w *world, x *asked) { w.put(leaf, have%slots, api.Cap{K: kQuiet, A: 1}) }},
		flaw{"from slot", api.ErrPerm, func(w *world, x *asked) {
			w.put(leaf, have%slots, api.Cap{K: kTcap, R: allRights - toCopy, T: purse})
		}},
		flaw{"from slot", api.ErrPerm, func(w *world, x *asked) { w.put(leaf, have%slots, api.Cap{K: kTcap, T: purse}) }},
	)
	all = append(all, into(to, twig, other, func(x *asked, n int) { x.b = n }, func(x *asked, n int) { x.to = n })...)
	all = append(all, linked(purse)...)
	flaws(t, all, asItIs, func(w *world, x asked) api.Errno { return w.copy(x.root, x.a, x.to, x.b, x.r) })
}

func TestDropErrors(t *testing.T) {
	all := along(root, leaf, high, func(x *asked, n int) { x.a = n }, func(x *asked, n int) { x.root = n }, "")
	all = append(all,
		flaw{"slot", api.ErrForm, func(w *world, x *asked) { w.say(leaf, have%slots, kTbl, 1) }},
		flaw{"slot", api.ErrNone, func(w *world, x *asked) { w.cleared(leaf, have%slots) }},
		flaw{"slot", api.ErrNone, func(w *world, x *asked) { w.put(leaf, have%slots, api.Cap{K: kQuiet, A: 1}) }},
		flaw{"slot", api.ErrNone, func(w *world, x *asked) { w.put(leaf, have%slots, api.Cap{K: kQuiet, A: 8}) }},
		flaw{"frozen", api.ErrBusy, bits(leaf, 0, frozenBit)},
	)
	flaws(t, all, asItIs, func(w *world, x asked) api.Errno { _, e := w.drop(x.root, x.a); return e })
}

func TestConsErrors(t *testing.T) {
	flaws(t, []flaw{
		{"itself", api.ErrUsed, arg(func(x *asked) { x.leaf = x.root })},
		{"full", api.ErrFull, func(w *world, x *asked) { w.needed(loose, maxRefs) }},
		{"high", api.ErrArg, arg(func(x *asked) { x.high = -1 })},
		{"high", api.ErrArg, arg(func(x *asked) { x.high = slots })},
		{"root", api.ErrType, bits(root, 0, leafBit)},
		{"root", api.ErrType, bits(root, 0, oTbl)},
		{"leaf", api.ErrType, bits(loose, 0, leafBit)},
		{"leaf", api.ErrType, bits(loose, 2, 5)},
		{"root frozen", api.ErrBusy, bits(root, 0, frozenBit)},
		{"leaf frozen", api.ErrBusy, bits(loose, 0, frozenBit)},
		{"slot", api.ErrForm, func(w *world, x *asked) { w.say(root, 9, kNone, 1) }},
		{"slot", api.ErrUsed, func(w *world, x *asked) { w.put(root, 9, api.Cap{K: kTbl, R: 1, T: twig}) }},
		{"slot", api.ErrUsed, func(w *world, x *asked) { w.put(root, 9, api.Cap{K: kMem, R: 1, A: 3}) }},
		{"slot", api.ErrBusy, func(w *world, x *asked) { w.put(root, 9, api.Cap{K: kQuiet, A: 8}) }},
		// An untyped frame may begin as a leaf still, but can't be needed.
		{"full", api.ErrType, func(w *world, x *asked) { w.retyped(loose, untyped) }},
	}, asItIs, func(w *world, x asked) api.Errno { return w.cons(x.root, x.high, x.leaf) })
}

// TestDeconsErrors takes out a leaf that was frozen ahead of when all cores entered last.
func TestDeconsErrors(t *testing.T) {
	flaws(t, []flaw{
		{"high", api.ErrArg, arg(func(x *asked) { x.out = -1 })},
		{"high", api.ErrArg, arg(func(x *asked) { x.out = slots })},
		{"root", api.ErrType, bits(root, 0, leafBit)},
		{"root", api.ErrType, bits(root, 0, oTbl^oPgt)},
		{"root", api.ErrType, arg(func(x *asked) { x.root = size })},
		{"slot", api.ErrForm, func(w *world, x *asked) { w.say(root, high, kNone, 1) }},
		{"slot", api.ErrNone, func(w *world, x *asked) { w.cleared(root, high) }},
		{"slot", api.ErrNone, func(w *world, x *asked) { w.put(root, high, api.Cap{K: kQuiet, A: 1}) }},
		{"slot", api.ErrNone, func(w *world, x *asked) { w.put(root, high, api.Cap{K: kSnd, T: leaf}) }},
		{"slot", api.ErrBusy, func(w *world, x *asked) { w.put(root, high, api.Cap{K: kTbl, T: size}) }},
		{"leaf", api.ErrBusy, func(w *world, x *asked) { w.begin(leaf, oTbl+leafBit) }},
		{"leaf", api.ErrBusy, func(w *world, x *asked) { w.begin(leaf, oPgt+leafBit) }},
		{"leaf", api.ErrBusy, func(w *world, x *asked) { w.begin(leaf, oTbl+leafBit+frozenBit, 8) }},
		{"leaf", api.ErrBusy, func(w *world, x *asked) { w.begin(leaf, oTbl+leafBit+frozenBit, 7, 1) }},
	}, func(w *world) { w.begin(leaf, oTbl+leafBit+frozenBit, 7) }, func(w *world, x asked) api.Errno { _, e := w.decons(x.root, x.out); return e })
}

func TestFreezeErrors(t *testing.T) {
	flaws(t, []flaw{
		{"frame", api.ErrType, bits(root, 0, oTbl^oPgt)},
		{"frame", api.ErrType, bits(root, 0, 1<<63)},
		{"frame", api.ErrType, arg(func(x *asked) { x.root = size })},
		{"frame", api.ErrType, arg(func(x *asked) { x.root = user })},
		{"frozen", api.ErrUsed, bits(root, 0, frozenBit)},
	}, asItIs, func(w *world, x asked) api.Errno { return w.freeze(x.root) })
}

// TestAtTheBeginning has the time 0, at which nothing is taken away, or frozen, whatever else
// is wrong, and no core has entered.
func TestAtTheBeginning(t *testing.T) {
	w := blank(t, size)
	for f, begin := range [][]uint64{{oTbl}, {oTbl + leafBit}, {oTbl + leafBit}, {oTcap}} {
		w.retyped(f, kernels)
		w.begin(f, begin...)
	}
	w.is(w.cons(0, 4, 1), api.OK)
	w.is(w.grant(0, 65, api.Cap{K: kTcap, R: toCopy, T: 3}), api.OK)
	w.is(w.copy(0, 65, 0, 66, allRights), api.OK)
	for _, a := range []int{65, 66, 67, 5, -1, addresses} {
		for _, f := range []int{0, 1, 7, -1} {
			w.lets(f, a, api.Cap{}, api.ErrArg)
		}
	}
	for _, at := range []int{4, 3, -1, slots} {
		for _, f := range []int{0, 1, 7, -1} {
			w.frees(f, at, 0, api.ErrArg)
		}
	}
	for _, f := range []int{0, 1, 3, 7, -1, size} {
		w.is(w.freeze(f), api.ErrArg)
	}
	w.put(1, 3, api.Cap{K: kQuiet})
	w.put(0, 9, api.Cap{K: kQuiet})
	for number := range 2 {
		w.is(w.grant(0, 67, api.Cap{K: kHw}), api.ErrBusy)
		w.is(w.copy(0, 65, 0, 67, 1), api.ErrBusy)
		w.is(w.cons(0, 9, 2), api.ErrBusy)
		w.enter(number)
	}
	w.is(w.grant(0, 67, api.Cap{K: kHw}), api.ErrBusy)
	w.begin(2, oTbl+leafBit+frozenBit)
	w.put(0, 5, api.Cap{K: kTbl, T: 2})
	w.frees(0, 5, 0, api.ErrArg)
	w.is(w.freeze(2), api.ErrArg)
	w.pass()
	w.lets(0, 65, api.Cap{K: kTcap, R: toCopy, T: 3}, api.OK)
	w.is(w.freeze(2), api.ErrUsed)
	w.is(w.freeze(1), api.OK)
	w.frees(0, 5, 2, api.OK)
	w.frees(0, 4, 0, api.ErrBusy)
	w.pass()
	w.frees(0, 4, 1, api.OK)
}

// P28.1: Grant.

// TestGrantKinds brings capabilities of each kind to a free place, and again to one that is
// taken by each kind.
func TestGrantKinds(t *testing.T) {
	for _, c := range caps() {
		w := plain(t)
		before := w.d.count
		w.is(w.grant(to, there, c), api.OK)
		if got, e := captbl.Look(w.m.Mem(), to, there); got != c || e != api.OK {
			t.Errorf("%v: there is %v, %d", c, got, e)
		}
		for f := range size {
			want := before[f]
			if holds(c) && f == c.T {
				want++
			}
			if w.m.Typ().Count(f) != want {
				t.Errorf("%v: frame %d is needed %d times; want %d", c, f, w.m.Typ().Count(f), want)
			}
		}
		for _, again := range caps() {
			w.is(w.grant(to, there, again), api.ErrUsed)
		}
		w.is(w.grant(to, there+1, c), api.OK)
		w.is(w.grant(root, have+1, c), api.OK)
	}
}

// TestGrantWrong brings what can't be, or is nothing, to places of all sorts.
func TestGrantWrong(t *testing.T) {
	w := plain(t)
	w.begin(loose, oTbl+leafBit+frozenBit, 3)
	w.put(to, 6, api.Cap{K: kTbl, T: loose})
	for _, c := range wrongCaps() {
		for _, f := range []int{to, root, leaf, user, size, -1} {
			w.is(w.grant(f, there, c), api.ErrArg)
		}
		for _, a := range []int{there + 1, have, 96, 0, -1, addresses} {
			w.is(w.grant(to, a, c), api.ErrArg)
		}
	}
}

// wide is a world of as many frames as may be: a root in frame 0 with a leaf in each slot,
// in the frames from 1 on, another one in frame 17 with leaves from 18 on, and a budget in
// frame 34.
func wide(t *testing.T) *world {
	t.Helper()
	w := blank(t, maxFrames)
	for f := range maxFrames {
		w.retyped(f, kernels)
	}
	w.stir()
	for _, up := range []int{0, 17} {
		w.begin(up, oTbl)
		for i := range slots {
			w.begin(up+1+i, oTbl+leafBit)
			w.is(w.cons(up, i, up+1+i), api.OK)
		}
	}
	w.begin(34, oTcap)
	return w
}

// TestEveryAddress brings something to each address, drops it, and brings it again.
func TestEveryAddress(t *testing.T) {
	w := wide(t)
	for a := range addresses {
		c := api.Cap{K: kTcap, R: a % 32, T: 34 + a%30}
		w.is(w.grant(17, a, c), api.OK)
		for b := range addresses {
			_, e := captbl.Look(w.m.Mem(), 17, b)
			if (e == api.OK) != (b <= a) {
				t.Fatalf("behind Grant to %d there is something at %d, or nothing: %d", a, b, e)
			}
		}
	}
	for a := range addresses {
		w.is(w.grant(17, a, budget()), api.ErrUsed)
		w.is(w.grant(0, a, api.Cap{K: kInv, A: a}), api.OK)
	}
	for a := range addresses {
		w.lets(17, a, api.Cap{K: kTcap, R: a % 32, T: 34 + a%30}, api.OK)
		w.lets(17, a, api.Cap{}, api.ErrNone)
		w.lets(0, a, api.Cap{K: kInv, A: a}, api.OK)
		w.is(w.grant(17, a, budget()), api.ErrBusy)
	}
	w.pass()
	for a := range addresses {
		w.is(w.grant(17, a, api.Cap{K: kThd, T: a % 64}), api.OK)
	}
}

// TestNoAddress has places outside the table.
func TestNoAddress(t *testing.T) {
	w := plain(t)
	for _, a := range noAddresses() {
		w.is(w.grant(to, a, budget()), api.ErrArg)
		w.is(w.grant(size, a, budget()), api.ErrArg)
		w.is(w.copy(root, a, to, there, 1), api.ErrArg)
		w.is(w.copy(root, have, to, a, 1), api.ErrArg)
		w.is(w.copy(user, a, user, a, 1), api.ErrArg)
		w.lets(root, a, api.Cap{}, api.ErrArg)
		w.lets(-1, a, api.Cap{}, api.ErrArg)
	}
}

// TestNoWay has addresses of the plain world below slots of a root that have no leaf.
func TestNoWay(t *testing.T) {
	w := plain(t)
	for a := range addresses {
		if a/slots == high {
			continue
		}
		w.is(w.grant(root, a, budget()), api.ErrNone)
		w.is(w.copy(root, a, to, there, 1), api.ErrNone)
		w.is(w.copy(root, have, root, a, 1), api.ErrNone)
		w.lets(root, a, api.Cap{}, api.ErrNone)
	}
}

// TestPlaces has all sorts of words at the place to which something is to come, or which is
// copied, or dropped.
func TestPlaces(t *testing.T) {
	quiet := func(a int) func(w *world) {
		return func(w *world) { w.put(twig, there%slots, api.Cap{K: kQuiet, A: a}) }
	}
	tried := func(begin func(w *world), come api.Errno, gone api.Errno) {
		t.Helper()
		w := plain(t)
		begin(w)
		w.is(w.copy(to, there, root, have+1, allRights), gone)
		w = plain(t)
		begin(w)
		_, e := w.drop(to, there)
		w.is(e, gone)
		w = plain(t)
		begin(w)
		w.is(w.copy(root, have, to, there, allRights), come)
		w = plain(t)
		begin(w)
		w.is(w.grant(to, there, budget()), come)
	}
	for _, a := range []int{0, 1, 6, 7} {
		tried(quiet(a), api.OK, api.ErrNone)
	}
	for _, a := range []int{8, 9, 10, 255, maxTime} {
		tried(quiet(a), api.ErrBusy, api.ErrNone)
	}
	tried(asItIs, api.OK, api.ErrNone)
	for _, c := range caps() {
		if c.R/toCopy%2 == 1 {
			tried(func(w *world) { w.put(twig, there%slots, c) }, api.ErrUsed, api.OK)
		}
	}
	for _, no := range noCaps() {
		tried(func(w *world) { w.say(twig, there%slots, no[0], no[1]) }, api.ErrForm, api.ErrForm)
	}
}

// TestRoots has roots that begin with words of all sorts.
func TestRoots(t *testing.T) {
	for _, begin := range allHeads() {
		w := plain(t)
		w.begin(to, begin...)
		come, none := api.ErrType, api.ErrType
		if w.d.isTbl(to, 0) {
			come, none = api.OK, api.ErrNone
		}
		w.is(w.copy(to, there, root, have+1, 1), none)
		_, e := w.drop(to, there)
		w.is(e, none)
		w.is(w.copy(root, have, to, there, 1), come)
		w.is(w.grant(to, there+1, budget()), come)
		w.pass()
		_, e = w.drop(to, there+1)
		w.is(e, come)
	}
	w := plain(t)
	for _, f := range append(noFrames(size), leaf, twig, proot, pleaf, one, purse, run, point, user, none, free) {
		w.is(w.copy(f, have, to, there, 1), api.ErrType)
		w.is(w.copy(root, have, f, there, 1), api.ErrType)
		w.is(w.grant(f, there, budget()), api.ErrType)
		w.lets(f, have, api.Cap{}, api.ErrType)
	}
}

// TestLeaves has leaves that begin with words of all sorts.
func TestLeaves(t *testing.T) {
	for _, begin := range allHeads() {
		w := plain(t)
		w.put(twig, 0, api.Cap{K: kTcap, R: allRights, T: purse})
		w.needed(purse, 2)
		w.begin(twig, begin...)
		come, gone := api.ErrType, api.ErrType
		if w.d.isTbl(twig, 1) {
			come, gone = api.OK, api.OK
			if w.d.isFrozen(twig) {
				come = api.ErrBusy
			}
		}
		w.is(w.copy(to, other*slots, root, have+1, 1), gone)
		w.is(w.copy(root, have, to, there, 1), come)
		w.is(w.grant(to, there+1, budget()), come)
		_, e := w.drop(to, other*slots)
		w.is(e, come)
	}
}

// TestWays has slots of a root with what leads to a leaf, or looks like it.
func TestWays(t *testing.T) {
	for _, c := range append(caps(), api.Cap{K: kQuiet, A: 1}, api.Cap{}, api.Cap{K: kTbl, T: twig}, api.Cap{K: kTbl, R: 9, T: twig}, api.Cap{K: kTbl, T: maxFrames - 1}, api.Cap{K: kTbl, T: size}, api.Cap{K: kPgt, R: allRights, T: twig}) {
		w := plain(t)
		w.put(to, other, c)
		want := api.ErrNone
		if c.K == kTbl {
			want = api.ErrType
			if c.T == twig {
				want = api.OK
			}
		}
		w.is(w.grant(to, there, budget()), want)
		w.is(w.copy(root, have, to, there+1, 1), want)
		_, e := w.drop(to, there)
		w.is(e, want)
	}
	for _, no := range noCaps() {
		w := plain(t)
		w.say(to, other, no[0], no[1])
		w.is(w.grant(to, there, budget()), api.ErrNone)
		w.is(w.copy(root, have, to, there, 1), api.ErrNone)
		w.lets(to, there, api.Cap{}, api.ErrNone)
	}
}

// TestFrames brings, and copies, capabilities to frames of each type, needed so often.
func TestFrames(t *testing.T) {
	for _, k := range []int{kTbl, kPgt, kComp, kThd, kInv, kTcap, kRcv, kSnd, kMem, kHw} {
		for _, is := range []int{untyped, users, kernels} {
			for _, count := range []int{0, 1, 2, maxRefs - 1, maxRefs} {
				if is == untyped && count > 0 {
					continue
				}
				c := api.Cap{K: k, R: allRights, T: free}
				switch k {
				case kMem:
					c.A = 1
				case kHw:
					c.T = 0
				}
				want := api.OK
				switch {
				case !holds(c):
				case is != kernels:
					want = api.ErrType
				case count == maxRefs:
					want = api.ErrFull
				}
				w := plain(t)
				w.retyped(free, is)
				w.needed(free, count)
				w.is(w.grant(to, there, c), want)
				w.needed(free, count)
				w.put(leaf, 9, c)
				w.is(w.copy(root, first+9, to, there+1, 3), want)
			}
		}
	}
	w := plain(t)
	for f := size; f < maxFrames; f++ {
		w.is(w.grant(to, there, api.Cap{K: kTcap, T: f}), api.ErrType)
		w.put(leaf, 9, api.Cap{K: kComp, R: toCopy, T: f})
		w.is(w.copy(root, first+9, to, there, 1), api.ErrType)
	}
	w.is(w.grant(to, there, api.Cap{K: kMem, T: size, A: 3}), api.OK)
}

// TestTypes has tables in frames of each type, needed or not: what counts is what is there.
func TestTypes(t *testing.T) {
	for _, is := range []int{untyped, users, kernels} {
		for _, count := range []int{0, 5, maxRefs} {
			if is == untyped && count > 0 {
				continue
			}
			for _, f := range []int{to, twig} {
				w := plain(t)
				w.retyped(f, is)
				w.needed(f, count)
				w.is(w.grant(to, there, budget()), api.OK)
				w.is(w.copy(to, there, to, there+1, allRights), api.OK)
				w.lets(to, there, budget(), api.OK)
				w.is(w.freeze(f), api.OK)
				w.pass()
				want := api.OK
				if f == twig {
					want = api.ErrBusy
				}
				_, e := w.drop(to, there+1)
				w.is(e, want)
			}
		}
	}
}

// TestFullAtLast brings capabilities up to as often as a frame may be needed, and again when
// one is dropped.
func TestFullAtLast(t *testing.T) {
	w := plain(t)
	w.needed(purse, maxRefs-2)
	w.is(w.grant(to, there, budget()), api.OK)
	w.is(w.copy(to, there, to, there+1, 3), api.OK)
	w.is(w.grant(to, there+2, budget()), api.ErrFull)
	w.is(w.copy(to, there, to, there+2, 3), api.ErrFull)
	w.is(w.copy(to, there, to, there, 3), api.ErrUsed)
	w.lets(to, there+1, api.Cap{K: kTcap, R: 3, T: purse}, api.OK)
	w.is(w.grant(to, there+2, budget()), api.OK)
	w.is(w.grant(to, there+3, budget()), api.ErrFull)
}

// P28.1: Copy.

// TestCopyRights copies what has all sorts of rights, with all sorts of rights.
func TestCopyRights(t *testing.T) {
	w := plain(t)
	for rights := range allRights + 1 {
		c := api.Cap{K: kRcv, R: rights, T: point}
		w.put(leaf, 9, c)
		for _, r := range append(far(), append(upTo(33), 64, 63)...) {
			w.cleared(twig, there%slots)
			w.needed(point, 0)
			if rights/toCopy%2 == 0 {
				w.is(w.copy(root, first+9, to, there, r), api.ErrPerm)
				continue
			}
			w.is(w.copy(root, first+9, to, there, r), api.OK)
			got, e := captbl.Look(w.m.Mem(), to, there)
			if got != (api.Cap{K: kRcv, R: rights & r, T: point}) || e != api.OK {
				t.Fatalf("%v with %d: %v, %d", c, r, got, e)
			}
			if !cap.Under(got, c) {
				t.Fatalf("%v is not under %v", got, c)
			}
		}
	}
}

func upTo(n int) []int {
	var out []int
	for i := range n {
		out = append(out, i)
	}
	return out
}

// TestCopyKinds copies capabilities of each kind, with and without RCopy.
func TestCopyKinds(t *testing.T) {
	for _, c := range caps() {
		for _, r := range []int{0, 1, 23, toCopy, allRights, -1, math.MinInt} {
			w := plain(t)
			w.put(leaf, 9, c)
			want := api.ErrPerm
			if c.R/toCopy%2 == 1 {
				want = api.OK
			}
			w.is(w.copy(root, first+9, to, there, r), want)
			w.is(w.copy(root, first+9, root, first+9, r), cmpOr(want, api.ErrUsed))
			if want != api.OK {
				w.is(w.copy(root, first+9, size, -1, r), want)
				continue
			}
			got, e := find.Cap(w.m, to, there, c.K, 0)
			if e == api.ErrLive && (c.K == kComp || c.K == kInv) {
				got, e = captbl.Look(w.m.Mem(), to, there)
			}
			if !cap.Under(got, c) || e != api.OK {
				t.Errorf("%v with %d: %v, %d", c, r, got, e)
			}
			// It may be copied on, if that right was left.
			want = api.ErrPerm
			if r&toCopy != 0 {
				want = api.OK
			}
			w.is(w.copy(to, there, root, first+10, allRights), want)
		}
	}
}

// cmpOr is the first that is an error.
func cmpOr(all ...api.Errno) api.Errno {
	for _, e := range all {
		if e != api.OK {
			return e
		}
	}
	return api.OK
}

// TestCopyEverywhere copies from each place to many, within a table and into another one.
func TestCopyEverywhere(t *testing.T) {
	w := wide(t)
	for a := range addresses {
		from := a % 2 * 17
		c := api.Cap{K: kInv, R: allRights, T: 63, L: a % ids, E: a, A: 3 * a}
		leaf := from + 1 + a/slots
		w.put(leaf, a%slots, c)
		for _, b := range []int{a, 255 - a, (a + 1) % addresses, (a + 16) % addresses, a * 37 % addresses, a / 16 * 16, a%16*16 + a/16} {
			for _, to := range []int{0, 17} {
				if to == from && a == b {
					w.is(w.copy(from, a, to, b, 9), api.ErrUsed)
					continue
				}
				w.is(w.copy(from, a, to, b, 9), api.OK)
				if got, e := captbl.Look(w.m.Mem(), to, b); got != (api.Cap{K: kInv, R: 9, T: 63, L: a % ids, E: a, A: 3 * a}) || e != api.OK {
					t.Fatalf("from %d to %d: %v, %d", a, b, got, e)
				}
				w.is(w.copy(from, a, to, b, 9), api.ErrUsed)
				w.cleared(to+1+b/slots, b%slots)
			}
		}
		w.cleared(leaf, a%slots)
		w.needed(63, 0)
	}
}

// TestCopyFrozen copies from a frozen leaf, below a frozen root, which may be; to a frozen
// leaf nothing comes, but below a frozen root.
func TestCopyFrozen(t *testing.T) {
	w := plain(t)
	w.is(w.freeze(leaf), api.OK)
	w.is(w.copy(root, have, to, there, 3), api.OK)
	w.is(w.copy(root, have, root, have+1, 3), api.ErrBusy)
	w.is(w.copy(root, have, root, have, 3), api.ErrBusy)
	w.is(w.freeze(root), api.OK)
	w.is(w.copy(root, have, to, there+1, allRights), api.OK)
	w.is(w.freeze(to), api.OK)
	w.is(w.copy(root, have, to, there+2, 3), api.OK)
	w.is(w.grant(to, there+3, budget()), api.OK)
	w.lets(to, there+1, budget(), api.OK)
	w.is(w.freeze(twig), api.OK)
	w.is(w.copy(root, have, to, there+4, 3), api.ErrBusy)
	w.is(w.grant(to, there+5, budget()), api.ErrBusy)
	w.lets(to, there+2, api.Cap{}, api.ErrBusy)
	w.lets(to, there+1, api.Cap{}, api.ErrNone)
	w.is(w.copy(to, there, to, there, 3), api.ErrPerm)
	w.is(w.copy(to, there+3, to, there+6, 3), api.ErrBusy)
}

// TestCopyLives copies capabilities of what lives no more, or never lived: only what is found
// by them is refused.
func TestCopyLives(t *testing.T) {
	w := plain(t)
	for i, c := range []api.Cap{{K: kComp, R: allRights, T: one}, {K: kInv, R: allRights, T: one, L: 9, E: 2, A: 7}, {K: kComp, R: 8, T: free, L: 5}} {
		w.is(w.grant(to, there, c), api.OK)
		w.is(w.copy(to, there, root, have+1+i, allRights), api.OK)
		w.lets(to, there, c, api.OK)
		w.pass()
	}
}

// P28.1: Drop.

// TestDropKinds drops capabilities of each kind, whose frames are needed so often.
func TestDropKinds(t *testing.T) {
	for _, c := range caps() {
		for _, count := range []int{1, 2, 3, maxRefs} {
			w := plain(t)
			w.put(twig, there%slots, c)
			if holds(c) {
				w.needed(c.T, count)
			}
			w.step(1)
			w.lets(to, there, c, api.OK)
			w.lets(to, there, api.Cap{}, api.ErrNone)
			if !holds(c) {
				continue
			}
			if w.m.Typ().Count(c.T) != count-1 {
				t.Errorf("%v of %d: needed %d times", c, count, w.m.Typ().Count(c.T))
			}
			if (w.m.Typ().Freed(c.T) == 9) != (count == 1) {
				t.Errorf("%v of %d: freed at %d", c, count, w.m.Typ().Freed(c.T))
			}
		}
	}
}

// TestDropStrange drops capabilities that nobody counted: their frames are needed by none,
// are no kernel's, or are not there.
func TestDropStrange(t *testing.T) {
	for _, k := range []int{kTbl, kPgt, kComp, kThd, kInv, kTcap, kRcv, kSnd} {
		for _, f := range []int{free, user, none, size, maxFrames - 1, to, twig} {
			for count := range 3 {
				w := plain(t)
				if f < size && f != none {
					w.needed(f, count)
				}
				c := api.Cap{K: k, R: 3, T: f}
				w.put(twig, there%slots, c)
				w.step(0)
				w.lets(to, there, c, api.OK)
			}
		}
	}
}

// TestDropFreed drops what frees a frame, at a time behind which it was freed already, as far
// as is known, and ahead of that.
func TestDropFreed(t *testing.T) {
	for _, late := range []int{0, 8, 9, 20} {
		w := plain(t)
		must(t, w.m.Typ().Unref(purse, late))
		must(t, w.m.Typ().Ref(purse))
		w.d.freed[purse] = late
		w.step(0)
		w.lets(root, have, budget(), api.OK)
		if got := w.m.Typ().Freed(purse); got != max(late, 9) {
			t.Errorf("freed at %d and then at 9: %d", late, got)
		}
	}
}

// TestDropQuiet drops, and lets the cores step, enter and flush: what was dropped is quiet
// when each core has entered behind that, but not by flushes.
func TestDropQuiet(t *testing.T) {
	acts := []func(w *world, number int){(*world).step, (*world).enter, (*world).flush}
	for order := range 1 << 12 {
		w := plain(t)
		w.lets(root, have, budget(), api.OK)
		var seen [2]bool
		late := false
		for range 4 {
			number, act := order%2, order/2%4
			order /= 8
			if act == 3 {
				w.step(number)
				late = true
				act = 1
			}
			acts[act](w, number)
			late = late || act == 0
			seen[number] = seen[number] || act == 1 && late
			want := api.ErrBusy
			if seen[0] && seen[1] {
				want = api.OK
			}
			if want == api.OK {
				break
			}
			w.is(w.grant(root, have, budget()), want)
		}
		if seen[0] && seen[1] {
			w.is(w.grant(root, have, budget()), api.OK)
		}
	}
}

// P28.2: Cons.

// TestConsPlaces hangs a leaf into each slot of a root, and of another one; into no slot twice.
func TestConsPlaces(t *testing.T) {
	w := plain(t)
	count := w.d.count[loose]
	for _, up := range []int{root, to} {
		for at := range slots {
			if up == root && at == high || up == to && at == other {
				w.is(w.cons(up, at, loose), api.ErrUsed)
				continue
			}
			w.is(w.cons(up, at, loose), api.OK)
			count++
			w.is(w.cons(up, at, loose), api.ErrUsed)
			w.is(w.cons(up, at, twig), api.ErrUsed)
			if w.m.Typ().Count(loose) != count {
				t.Errorf("slot %d: needed %d times; want %d", at, w.m.Typ().Count(loose), count)
			}
			c := api.Cap{K: kHw, R: at}
			w.is(w.grant(up, at*slots+at, c), api.OK)
			if got, e := captbl.Look(w.m.Mem(), to, other*slots); e == api.OK {
				t.Errorf("there is %v", got)
			}
			w.pass()
			w.lets(up, at*slots+at, c, api.OK)
			w.pass()
		}
	}
	for _, at := range noSlots() {
		w.is(w.cons(root, at, loose), api.ErrArg)
		w.is(w.cons(user, at, user+1), api.ErrArg)
		w.is(w.cons(root, at, root), api.ErrUsed)
	}
}

// TestConsHeads has roots and leaves that begin with words of all sorts.
func TestConsHeads(t *testing.T) {
	for _, up := range allHeads() {
		for _, down := range allHeads() {
			w := plain(t)
			w.begin(root, up...)
			w.begin(loose, down...)
			want := api.OK
			switch {
			case !w.d.isTbl(root, 0) || !w.d.isTbl(loose, 1):
				want = api.ErrType
			case w.d.isFrozen(root) || w.d.isFrozen(loose):
				want = api.ErrBusy
			}
			w.is(w.cons(root, 9, loose), want)
			w.cons(loose, 9, root)
		}
	}
}

// TestConsNowhere has roots and leaves that there are not, or are none, and roots by
// themselves.
func TestConsNowhere(t *testing.T) {
	w := plain(t)
	for _, f := range append(noFrames(size), leaf, twig, proot, pleaf, one, purse, run, point, user, none, free) {
		if f != leaf && f != twig {
			w.is(w.cons(root, 9, f), api.ErrType)
		}
		w.is(w.cons(f, 9, loose), api.ErrType)
		w.is(w.cons(f, 9, f), api.ErrUsed)
		w.is(w.cons(f, -1, f), api.ErrUsed)
		w.is(w.cons(f, -1, loose), api.ErrArg)
	}
	for _, f := range []int{root, to, loose} {
		w.is(w.cons(f, 9, f), api.ErrUsed)
		w.needed(f, maxRefs)
		w.is(w.cons(f, 9, f), api.ErrUsed)
	}
	w.is(w.cons(root, 9, to), api.ErrFull)
	w.needed(to, maxRefs-1)
	w.is(w.cons(root, 9, to), api.ErrType)
}

// TestConsCounts has leaves in frames of each type, needed so often. One that is untyped may
// begin as a leaf, but is never needed.
func TestConsCounts(t *testing.T) {
	for _, count := range []int{0, 1, 2, 255, maxRefs - 1, maxRefs} {
		for _, is := range []int{users, kernels} {
			w := plain(t)
			w.retyped(loose, is)
			w.needed(loose, count)
			want := api.OK
			if count == maxRefs {
				want = api.ErrFull
			}
			w.is(w.cons(root, 9, loose), want)
			want = api.ErrArg
			if w.d.count[loose] == maxRefs {
				want = api.ErrFull
			}
			w.is(w.cons(root, -1, loose), want)
		}
	}
	for _, c := range []api.Cap{{}, {K: kQuiet}, {K: kQuiet, A: 7}} {
		w := plain(t)
		w.put(root, 9, c)
		w.retyped(loose, untyped)
		w.is(w.cons(root, 9, loose), api.ErrType)
		w.is(w.grant(root, 9*slots, budget()), api.ErrNone)
		w.retyped(loose, kernels)
		w.is(w.cons(root, 9, loose), api.OK)
	}
}

// TestConsSlots has all sorts of words in the slot of the root.
func TestConsSlots(t *testing.T) {
	tried := func(begin func(w *world), want api.Errno) {
		t.Helper()
		w := plain(t)
		begin(w)
		w.is(w.cons(root, 9, loose), want)
	}
	for _, c := range caps() {
		tried(func(w *world) { w.put(root, 9, c) }, api.ErrUsed)
	}
	for _, no := range noCaps() {
		tried(func(w *world) { w.say(root, 9, no[0], no[1]) }, api.ErrForm)
	}
	for a, want := range map[int]api.Errno{0: 0, 1: 0, 7: 0, 8: api.ErrBusy, 9: api.ErrBusy, maxTime: api.ErrBusy} {
		tried(func(w *world) { w.put(root, 9, api.Cap{K: kQuiet, A: a}) }, want)
	}
}

// P28.2: Freeze.

// TestFreeze freezes frames that begin with words of all sorts, of each type, twice.
func TestFreeze(t *testing.T) {
	for _, begin := range allHeads() {
		for _, is := range []int{untyped, users, kernels} {
			w := plain(t)
			w.retyped(free, is)
			w.begin(free, begin...)
			w.store(free, headWords+1, 77)
			want, again := api.ErrType, api.ErrType
			if _, frozen, _, table := w.d.tbl(free); table {
				want, again = api.OK, api.ErrUsed
				if frozen {
					want = api.ErrUsed
				}
			}
			w.is(w.freeze(free), want)
			w.step(0)
			w.is(w.freeze(free), again)
		}
	}
	w := plain(t)
	for _, f := range append(noFrames(size), proot, pleaf, one, purse, run, point, user, none, free) {
		w.is(w.freeze(f), api.ErrType)
	}
	w.is(w.freeze(root), api.OK)
	w.is(w.cons(root, 9, loose), api.ErrBusy)
	w.is(w.freeze(loose), api.OK)
	w.is(w.cons(to, 9, loose), api.ErrBusy)
}

// P28.2: Decons.

// TestDeconsTimes takes out leaves that were frozen at times around the last one at which all
// cores had entered.
func TestDeconsTimes(t *testing.T) {
	for late := range 2 {
		for _, time := range []int{0, 1, 7, 8, 9, 10, 11, maxTime} {
			w := plain(t)
			w.begin(leaf, oTbl+leafBit+frozenBit, uint64(time))
			w.step(late)
			w.enter(late)
			w.step(1 - late)
			w.enter(1 - late)
			w.flush(0)
			w.flush(1)
			if time < 9 {
				w.frees(root, high, leaf, api.OK)
				w.frees(root, high, 0, api.ErrNone)
			} else {
				w.frees(root, high, 0, api.ErrBusy)
			}
		}
	}
}

// TestDeconsQuiet freezes a leaf and lets the cores enter, and flush: it is taken out when all
// have entered behind that, and its place is free when they have done so once more.
func TestDeconsQuiet(t *testing.T) {
	for late := range 2 {
		w := plain(t)
		w.step(0)
		w.is(w.freeze(leaf), api.OK)
		w.frees(root, high, 0, api.ErrBusy)
		w.enter(0)
		w.enter(1)
		w.frees(root, high, 0, api.ErrBusy)
		w.step(late)
		w.enter(1 - late)
		w.flush(0)
		w.flush(1)
		w.frees(root, high, 0, api.ErrBusy)
		w.enter(late)
		w.lets(root, have, api.Cap{}, api.ErrBusy)
		w.is(w.copy(root, have, to, there, 1), api.OK)
		w.frees(root, high, leaf, api.OK)
		w.lets(root, have, api.Cap{}, api.ErrNone)
		w.is(w.copy(root, have, to, there+1, 1), api.ErrNone)
		w.frees(root, high, 0, api.ErrNone)
		w.is(w.cons(root, high, leaf), api.ErrBusy)
		w.is(w.cons(root, high, loose), api.ErrBusy)
		w.is(w.cons(root, high+1, loose), api.OK)
		w.step(1 - late)
		w.enter(late)
		w.is(w.cons(root, high, loose), api.ErrBusy)
		w.flush(1 - late)
		w.is(w.cons(root, high, loose), api.ErrBusy)
		w.enter(1 - late)
		w.is(w.cons(root, high, loose), api.OK)
		if w.m.Typ().Count(leaf) != 0 || w.m.Typ().Freed(leaf) != 10 || w.m.Typ().Count(loose) != 2 {
			t.Errorf("needed %d and %d times, freed at %d", w.m.Typ().Count(leaf), w.m.Typ().Count(loose), w.m.Typ().Freed(leaf))
		}
	}
}

// TestDeconsCounts takes out leaves in frames of each type, needed so often, or by nobody.
func TestDeconsCounts(t *testing.T) {
	for _, is := range []int{untyped, users, kernels} {
		for _, count := range []int{0, 1, 2, maxRefs} {
			if is == untyped && count > 0 {
				continue
			}
			w := plain(t)
			w.retyped(leaf, is)
			w.needed(leaf, count)
			w.begin(leaf, oTbl+leafBit+frozenBit, 3)
			w.step(1)
			w.frees(root, high, leaf, api.OK)
			if got := w.m.Typ().Count(leaf); got != max(count-1, 0) {
				t.Errorf("of %d: needed %d times", count, got)
			}
			if (w.m.Typ().Freed(leaf) == 9) != (count == 1) {
				t.Errorf("of %d: freed at %d", count, w.m.Typ().Freed(leaf))
			}
		}
	}
}

// TestDeconsPlaces has each slot of a root, with a leaf or none, and those outside.
func TestDeconsPlaces(t *testing.T) {
	w := plain(t)
	w.begin(twig, oTbl+leafBit+frozenBit, 3)
	for at := range slots {
		if at == other {
			continue
		}
		w.frees(to, at, 0, api.ErrNone)
		w.put(to, at, api.Cap{K: kTbl, R: at, T: twig})
		w.needed(twig, 3)
		w.frees(to, at, twig, api.OK)
		w.frees(to, at, 0, api.ErrNone)
	}
	w.frees(to, other, twig, api.OK)
	for _, at := range noSlots() {
		w.frees(to, at, 0, api.ErrArg)
		w.frees(size, at, 0, api.ErrArg)
	}
	for _, f := range append(noFrames(size), leaf, twig, loose, proot, pleaf, one, purse, run, point, user, none, free) {
		w.frees(f, high, 0, api.ErrType)
	}
}

// TestDeconsHeads takes out leaves, and what is none, that begin with words of all sorts, of
// roots that do, and whose slot has all sorts of words.
func TestDeconsHeads(t *testing.T) {
	for _, begin := range allHeads() {
		w := plain(t)
		w.begin(leaf, begin...)
		if _, frozen, time, is := w.d.tbl(leaf); is && frozen && time < 8 {
			w.frees(root, high, leaf, api.OK)
		} else {
			w.frees(root, high, 0, api.ErrBusy)
		}
		w = plain(t)
		w.begin(leaf, oTbl+leafBit+frozenBit, 3)
		w.begin(root, begin...)
		if w.d.isTbl(root, 0) {
			w.frees(root, high, leaf, api.OK)
		} else {
			w.frees(root, high, 0, api.ErrType)
		}
	}
	for _, c := range caps() {
		w := plain(t)
		w.begin(free, oTbl+leafBit+frozenBit, 3)
		w.put(root, high, c)
		want := api.ErrNone
		if c.K == kTbl {
			want = api.ErrBusy
			if c.T == free {
				want = api.OK
			}
		}
		_, e := w.decons(root, high)
		w.is(e, want)
	}
	for _, no := range noCaps() {
		w := plain(t)
		w.say(root, high, no[0], no[1])
		w.frees(root, high, 0, api.ErrForm)
	}
}

// TestLeafOfTwo hangs a leaf into two roots, and twice into one: what comes to it by one way
// is found by the others, and each way is taken out alone.
func TestLeafOfTwo(t *testing.T) {
	w := plain(t)
	for _, way := range [][2]int{{root, 0}, {root, 15}, {to, 7}} {
		w.is(w.cons(way[0], way[1], loose), api.OK)
	}
	w.is(w.grant(root, 4, budget()), api.OK)
	for _, way := range [][2]int{{root, 244}, {to, 116}} {
		w.is(w.grant(way[0], way[1], budget()), api.ErrUsed)
		if c, e := captbl.Look(w.m.Mem(), way[0], way[1]); c != budget() || e != api.OK {
			t.Errorf("%v: %v, %d", way, c, e)
		}
	}
	w.is(w.copy(root, 244, to, 116, 3), api.ErrUsed)
	w.lets(to, 116, budget(), api.OK)
	w.lets(root, 4, api.Cap{}, api.ErrNone)
	w.is(w.freeze(loose), api.OK)
	w.pass()
	for i, way := range [][2]int{{root, 15}, {to, 7}, {root, 0}} {
		if w.m.Typ().Count(loose) != 3-i {
			t.Errorf("needed %d times", w.m.Typ().Count(loose))
		}
		w.frees(way[0], way[1], loose, api.OK)
	}
}

// P26.3.

// TestUnmade has a nil machine, and one that no call made, with arguments of all sorts.
func TestUnmade(t *testing.T) {
	for _, m := range []*machine.Machine{nil, new(machine.Machine)} {
		for _, n := range []int{0, 1, -1, 15, 16, 255, 256, math.MinInt, math.MaxInt} {
			for _, k := range []int{0, 1, -1, math.MaxInt} {
				for _, c := range []api.Cap{budget(), {}, {K: kQuiet, A: n}, {K: n, R: k, T: k, L: n, E: k, A: n}} {
					if e := table.Grant(m, n, k, c); e != api.ErrZero {
						t.Errorf("Grant: %d", e)
					}
				}
				if e := table.Copy(m, n, k, k, n, k); e != api.ErrZero {
					t.Errorf("Copy: %d", e)
				}
				if c, e := table.Drop(m, n, k); c != (api.Cap{}) || e != api.ErrZero {
					t.Errorf("Drop: %v, %d", c, e)
				}
				if e := table.Cons(m, n, k, n); e != api.ErrZero {
					t.Errorf("Cons: %d", e)
				}
				if e := table.Cons(m, n, k, k); e != api.ErrZero {
					t.Errorf("Cons: %d", e)
				}
				if f, e := table.Decons(m, k, n); f != 0 || e != api.ErrZero {
					t.Errorf("Decons: %d, %d", f, e)
				}
				if e := table.Freeze(m, n); e != api.ErrZero {
					t.Errorf("Freeze: %d", e)
				}
			}
		}
		if m.Cores() != 0 {
			t.Error("it was made")
		}
	}
}

// P28.3.

// live is a world that calls of the kernel alone made: two roots, three leaves, and objects,
// each of which is needed by capabilities as often as it is needed.
func live(t *testing.T) *world {
	t.Helper()
	w := blank(t, size)
	for f := range size {
		must(t, w.m.Retype(f, api.FKernel))
	}
	for _, f := range []int{root, to} {
		must(t, build.Tbl(w.m, f, 0))
	}
	for _, f := range []int{leaf, twig, loose} {
		must(t, build.Tbl(w.m, f, 1))
	}
	for _, f := range []int{purse, run, point} {
		must(t, build.Tcap(w.m, f))
	}
	w.d = look(w.m)
	return w
}

// counted fails if a frame is not needed once for each capability to it.
func (w *world) counted() {
	if needs := w.d.needs(); needs != w.d.count {
		w.t.Helper()
		w.t.Fatalf("needed %v times; there are %v", w.d.count, needs)
	}
}

// TestCounted makes many calls, of which many are refused: behind each the counts are those
// of the capabilities that there are, and what was copied is under what it was copied from.
func TestCounted(t *testing.T) {
	done := map[string]int{}
	for begin := range 40 {
		x, w := row(begin), live(t)
		w.is(w.cons(root, 2, leaf), api.OK)
		w.is(w.cons(to, 5, twig), api.OK)
		w.counted()
		for range 400 {
			name, e := w.some(&x)
			if e == api.OK {
				done[name]++
			}
			w.counted()
			if x.pick(3) == 0 {
				w.breathe(&x)
			}
		}
	}
	for _, name := range []string{"grant", "copy", "drop", "cons", "decons", "freeze", "untype"} {
		if done[name] < 40 {
			t.Errorf("%s: let through %d times", name, done[name])
		}
	}
}

// breathe lets cores step, enter and flush, some of them.
func (w *world) breathe(x *row) {
	w.t.Helper()
	for number := range 2 {
		w.step(number)
		if x.pick(4) > 0 {
			w.enter(number)
		}
		if x.pick(2) > 0 {
			w.flush(number)
		}
	}
}

// address is one of a few in the tables of a world, and now and then another one.
func address(x *row) int {
	if x.pick(12) == 0 {
		return x.pick(300) - 20
	}
	return []int{high, other, 9}[x.pick(3)]*slots + x.pick(4)
}

func (w *world) some(x *row) (string, api.Errno) {
	w.t.Helper()
	up := []int{root, to}[x.pick(2)]
	at := []int{high, other, 9}[x.pick(3)]
	down := []int{leaf, twig, loose, loose, root, purse}[x.pick(6)]
	switch x.pick(16) {
	case 0, 1, 2:
		c := pickOf(x, []api.Cap{
			{K: kTcap, R: allRights, T: purse}, {K: kThd, R: 12, T: run}, {K: kTbl, R: 9, T: root}, {K: kTbl, R: 31, T: twig}, {K: kMem, R: 8, A: 3},
			{K: kInv, R: 31, T: point, A: 4}, {K: kRcv, R: 1, T: none}, {K: kSnd, R: 8, T: size}, {K: kPgt, R: 8, T: loose}, {},
		})
		return "grant", w.grant(up, address(x), c)
	case 3, 4, 5, 6, 7:
		return "copy", w.copied(x)
	case 8, 9, 10, 11:
		_, e := w.drop(up, address(x))
		return "drop", e
	case 12:
		return "cons", w.cons(up, at, down)
	case 13:
		_, e := w.decons(up, at)
		return "decons", e
	case 14:
		if x.pick(2) > 0 {
			down = []int{leaf, twig, loose}[x.pick(3)]
		}
		if x.pick(3) > 0 {
			return "none", api.OK
		}
		return "freeze", w.freeze(down)
	}
	return "untype", w.renewed([]int{leaf, twig, loose, purse, run, none}[x.pick(6)])
}

// copied copies something, and fails if that is not under what it was copied from.
func (w *world) copied(x *row) api.Errno {
	w.t.Helper()
	from, to := []int{root, to}[x.pick(2)], []int{root, to}[x.pick(2)]
	a, b := address(x), address(x)
	old, _ := captbl.Look(w.m.Mem(), from, a)
	e := w.copy(from, a, to, b, pickOf(x, []int{allRights, toCopy + 1, 7, 0, -1, 9}))
	if e != api.OK {
		return e
	}
	came, there := captbl.Look(w.m.Mem(), to, b)
	if !cap.Under(came, old) || there != api.OK {
		w.t.Fatalf("%v is not under %v: %d", came, old, there)
	}
	if still, e := captbl.Look(w.m.Mem(), from, a); still != old || e != api.OK {
		w.t.Fatalf("%v is %v now: %d", old, still, e)
	}
	return e
}

// renewed untypes a frame, if that may be, and makes it a leaf again, once all cores have
// entered.
func (w *world) renewed(f int) api.Errno {
	w.t.Helper()
	e := build.Untype(w.m, f)
	if w.d.is[f] != untyped && w.d.count[f] > 0 && e != api.ErrUsed {
		w.t.Fatalf("Untype(%d): %d, though it is needed", f, e)
	}
	for range 2 {
		if w.m.Retype(f, api.FKernel) == api.OK && (f == leaf || f == twig || f == loose) {
			must(w.t, build.Tbl(w.m, f, 1))
		}
	}
	w.d = look(w.m)
	return e
}

// TestManyCalls makes many calls in worlds with words of all sorts.
func TestManyCalls(t *testing.T) {
	var all [14]int
	for begin := range 60 {
		x, w := row(1000+begin), plain(t)
		for range 300 {
			if x.pick(3) == 0 {
				w.scrawl(&x)
			}
			if x.pick(3) == 0 {
				w.breathe(&x)
			}
			all[w.any(&x)]++
		}
	}
	for _, e := range []api.Errno{api.OK, api.ErrArg, api.ErrFull, api.ErrNone, api.ErrType, api.ErrPerm, api.ErrBusy, api.ErrUsed, api.ErrForm} {
		if all[e] < 20 {
			t.Errorf("%d was answered %d times", e, all[e])
		}
	}
}

// scrawl changes something, so that things are right again now and then.
func (w *world) scrawl(x *row) {
	w.t.Helper()
	f := x.pick(size)
	switch x.pick(8) {
	case 0:
		w.begin(f, pickOf(x, allHeads())...)
	case 1:
		w.begin([]int{root, to}[x.pick(2)], oTbl)
	case 2:
		w.begin([]int{leaf, twig, loose}[x.pick(3)], pickOf(x, [][]uint64{{oTbl + leafBit}, {oTbl + leafBit}, {oTbl + leafBit + frozenBit, 3}})...)
	case 3:
		no := pickOf(x, noCaps())
		w.say(f, x.pick(slots), no[0], no[1])
	case 4:
		w.put([]int{root, to}[x.pick(2)], []int{high, other, 9}[x.pick(3)], api.Cap{K: kTbl, R: 3, T: []int{leaf, twig, loose, f}[x.pick(4)]})
	case 5:
		w.put([]int{leaf, twig, loose}[x.pick(3)], x.pick(4), pickOf(x, append(caps(), api.Cap{}, api.Cap{K: kQuiet, A: w.d.now})))
	case 6:
		w.retyped(f, x.pick(3))
	case 7:
		if w.d.is[f] != untyped {
			w.needed(f, []int{0, 1, 2, maxRefs - 1, maxRefs}[x.pick(5)])
		}
	}
}

func (w *world) any(x *row) api.Errno {
	w.t.Helper()
	up := pickOf(x, []int{root, to, root, to, x.pick(size+2) - 1})
	at := pickOf(x, []int{high, other, 9, x.pick(slots+2) - 1})
	down := pickOf(x, []int{leaf, twig, loose, x.pick(size+2) - 1})
	switch x.pick(8) {
	case 0, 1:
		c := pickOf(x, caps())
		if x.pick(6) == 0 {
			c = pickOf(x, wrongCaps())
		}
		return w.grant(up, address(x), c)
	case 2, 3:
		return w.copy(pickOf(x, []int{root, to, up}), address(x), up, address(x), x.pick(40)-4)
	case 4:
		_, e := w.drop(up, address(x))
		return e
	case 5:
		return w.cons(up, at, down)
	case 6:
		_, e := w.decons(up, at)
		return e
	}
	return w.freeze(pickOf(x, []int{up, down}))
}

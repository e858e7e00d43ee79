package page_test

import (
	"math"
	"slices"
	"testing"

	"palanquin/api"
	"palanquin/build"
	"palanquin/machine"
	"palanquin/page"
	"palanquin/pgtbl"
	"palanquin/pte"
)

// The frames of a plain world: two tables, a leaf that hangs nowhere, a table of capabilities,
// objects, users' frames, an untyped one, and from free on kernel's frames with nothing.
const (
	root  = 0
	leaf  = 1 // in entry 2 of root
	to    = 2 // another root
	twig  = 3 // in entry 5 of to
	loose = 4
	croot = 5
	cleaf = 6
	one   = 7 // a component
	purse = 8
	run   = 9 // a thread
	point = 10
	user  = 11 // mapped by root
	spare = 12
	none  = 13
	free  = 14
	size  = 16
)

// Pages of the plain world: of root, and of to.
const (
	high  = 2
	first = high * entries
	have  = first + 3 // where root maps user
	other = 5
	there = other*entries + 7 // where to maps nothing
)

// plain is a world with two tables, at the time 8, at which both cores have flushed, and
// entered at others, with something in all other parts of the machine.
func plain(t *testing.T) *world {
	t.Helper()
	w := blank(t, size)
	for f, begin := range [][]uint64{
		{oPgt}, {oPgt + leafBit}, {oPgt}, {oPgt + leafBit}, {oPgt + leafBit}, {oTbl}, {oTbl + leafBit}, {oComp}, {oTcap}, {oThd}, {oRcv},
	} {
		w.retyped(f, kernels)
		w.begin(f, begin...)
	}
	w.retyped(user, users)
	w.retyped(spare, users)
	for f := free; f < size; f++ {
		w.retyped(f, kernels)
	}
	w.say(root, high, on(leaf, both))
	w.say(to, other, on(twig, both))
	w.say(leaf, have%entries, on(user, both))
	for _, f := range []int{leaf, twig, user} {
		w.needed(f, 1)
	}
	w.stir()
	w.held("plain", api.OK, api.OK)
	return w
}

// stir lets the machine have something in every part that no call of the layer is for.
func (w *world) stir() {
	w.t.Helper()
	for number := range 2 {
		for range 4 {
			w.step(number)
		}
		must(w.t, w.m.SetCur(number, 7+number))
		must(w.t, w.m.Regs(number).Set(number, 9))
		must(w.t, w.m.Tlb(number).Put(api.Key{Space: number, Page: 3}, api.Pte{On: true, F: 4, R: 1}))
		must(w.t, w.m.Lines().Attach(2+number, point))
		w.enter(number)
	}
	w.flush(0)
	w.flush(1)
	_, _, e := w.m.Live().Take(0)
	must(w.t, e)
	w.d = look(w.m)
}

func TestLimits(t *testing.T) {
	if api.MaxFrames != maxFrames || api.HeadWords != headWords || api.HeadWords+api.PageWords != words || api.MaxPages != entries {
		t.Error("frames")
	}
	if api.MaxLive != ids || api.MaxTime != maxTime || api.MaxRefs != maxRefs || api.MaxRegs != registers || api.MaxLines != lineCount {
		t.Error("numbers")
	}
	if api.RRead != toRead || api.RWrite != toWrite {
		t.Error("rights")
	}
	for _, list := range [][]int{
		{api.ONone, api.OTbl, api.OPgt, api.OComp, api.OThd, api.OTcap, api.ORcv},
		{api.FUntyped, api.FUser, api.FKernel},
	} {
		for i, n := range list {
			if n != i {
				t.Errorf("kinds: %v", list)
			}
		}
	}
	errors := []api.Errno{api.OK, api.ErrArg, api.ErrFull, api.ErrNone, api.ErrType, api.ErrPerm, api.ErrBusy, api.ErrFault, api.ErrUsed, api.ErrForm, api.ErrZero}
	if !slices.Equal(errors, []api.Errno{0, 1, 2, 3, 4, 5, 6, 9, 10, 12, 13}) {
		t.Error("errors")
	}
}

// TestExample is the chapter's.
func TestExample(t *testing.T) {
	w := plain(t)
	for f := range size {
		if w.d.is[f] != kernels {
			continue
		}
		if e := page.Map(w.m, to, there, f, both); e != api.ErrType {
			t.Errorf("Map of an FKernel: %d", e)
		}
	}
	w.held("Map", api.OK, api.OK)
}

// TestByHand goes through all calls; all numbers are written out.
func TestByHand(t *testing.T) {
	m, e := machine.New(api.Config{Frames: 64, Cores: 1, Room: 1})
	must(t, e)
	must(t, m.Retype(63, api.FKernel))
	must(t, m.Retype(0, api.FKernel))
	must(t, m.Retype(20, api.FUser))
	must(t, build.Pgt(m, 63, 0))
	must(t, build.Pgt(m, 0, 1))
	counts := func(a int, b int, c int) {
		t.Helper()
		if m.Typ().Count(0) != a || m.Typ().Count(20) != b || m.Typ().Count(63) != c {
			t.Errorf("counts: %d, %d, %d", m.Typ().Count(0), m.Typ().Count(20), m.Typ().Count(63))
		}
	}
	has := func(f int, at int, want ...uint64) {
		t.Helper()
		all, _ := m.Mem().Words(f)
		if !slices.Equal(all[at:at+len(want)], want) {
			t.Errorf("frame %d: %v; want %v from %d on", f, all, want, at)
		}
	}
	now := func() {
		must(t, m.Clock().Step(0))
		_, e := m.Flush(0)
		must(t, e)
	}
	unmapped := func(n int) {
		t.Helper()
		if f, e := page.Unmap(m, 63, n); f != 20 || e != api.OK {
			t.Errorf("Unmap(%d): %d, %d", n, f, e)
		}
	}
	must(t, page.Cons(m, 63, 31, 0))
	has(63, 34, 0, 1+3*128)
	counts(1, 0, 0)
	must(t, page.Map(m, 63, 993, 20, 3))
	has(0, 4, 0, 1+20*2+3*128, 0)
	counts(1, 1, 0)
	must(t, page.Copy(m, 63, 993, 63, 1023, 2))
	has(0, 34, 0, 1+20*2+2*128)
	counts(1, 2, 0)
	must(t, page.Copy(m, 63, 1023, 63, 992, 7))
	has(0, 4, 1+20*2+2*128, 1+20*2+3*128, 0)
	counts(1, 3, 0)
	now()
	unmapped(993)
	has(0, 4, 1+20*2+2*128, 512, 0)
	counts(1, 2, 0)
	now()
	unmapped(1023)
	unmapped(992)
	has(0, 4, 2*512, 512, 0)
	counts(1, 0, 0)
	if m.Typ().Freed(20) != 2 || m.Typ().Freed(0) != -1 {
		t.Errorf("freed at %d, %d", m.Typ().Freed(20), m.Typ().Freed(0))
	}
	now()
	if f, e := page.Decons(m, 63, 31); f != 0 || e != api.OK || m.Typ().Freed(0) != 3 {
		t.Errorf("Decons: %d, %d, freed at %d", f, e, m.Typ().Freed(0))
	}
	has(63, 34, 0, 3*512)
	counts(0, 0, 0)
}

// Each error of each call, alone and with others.

// asked is what a call is asked with.
type asked struct {
	root, n, to, k, f, r, high, leaf, out int
}

// flaw is something for which a call is refused. Those of one part can't be together.
type flaw struct {
	part string
	want api.Errno
	make func(w *world, x *asked)
}

// sound is what the calls are asked with when there is nothing to refuse.
func sound() asked {
	return asked{root: root, n: have, to: to, k: there, f: spare, r: both, high: 9, leaf: loose, out: high}
}

// flaws fails if what is asked is not let through without a flaw, or not refused for each
// flaw alone, and for each two and three of them as for the one that is named first.
func flaws(t *testing.T, all []flaw, ask func(w *world, x asked) api.Errno) {
	t.Helper()
	w := plain(t)
	w.is(ask(w, sound()), api.OK)
	for i := range all {
		for j := i; j < len(all); j++ {
			for k := j; k < len(all); k++ {
				if i < j && all[i].part == all[j].part || j < k && all[j].part == all[k].part || i < k && all[i].part == all[k].part {
					continue
				}
				w, x := plain(t), sound()
				for _, n := range slices.Compact([]int{k, j, i}) {
					all[n].make(w, &x)
				}
				if e := ask(w, x); e != all[i].want {
					t.Fatalf("%d, %d, %d (%s, %s, %s): %d; want %d", i, j, k, all[i].part, all[j].part, all[k].part, e, all[i].want)
				}
			}
		}
	}
}

// bits lets some bits of a word be others.
func bits(f int, at int, which uint64) func(w *world, x *asked) {
	return func(w *world, x *asked) { w.store(f, at, w.d.words[f][at]^which) }
}

// arg changes what is asked.
func arg(do func(x *asked)) func(w *world, x *asked) {
	return func(w *world, x *asked) { do(x) }
}

// lies lets an entry have that word.
func lies(f int, at int, one uint64) func(w *world, x *asked) {
	return func(w *world, x *asked) { w.say(f, at, one) }
}

// along are the flaws of the way to a page in the table of f, by that entry to that leaf.
func along(name string, f int, entry int, leaf int, n func(x *asked, n int), r func(x *asked, f int)) []flaw {
	return []flaw{
		{name + "page", api.ErrArg, arg(func(x *asked) { n(x, -1) })},
		{name + "page", api.ErrArg, arg(func(x *asked) { n(x, pages) })},
		{name + "root", api.ErrType, bits(f, 0, leafBit)},
		{name + "root", api.ErrType, bits(f, 0, oTbl^oPgt)},
		{name + "root", api.ErrType, bits(f, 3, 1)},
		{name + "root", api.ErrType, arg(func(x *asked) { r(x, user) })},
		{name + "root", api.ErrType, arg(func(x *asked) { r(x, size) })},
		{name + "way", api.ErrFault, lies(f, entry, 0)},
		{name + "way", api.ErrFault, lies(f, entry, off(1))},
		{name + "way", api.ErrFault, lies(f, entry, 1<<62+on(leaf, both))},
		{name + "leaf", api.ErrType, bits(leaf, 0, leafBit)},
		{name + "leaf", api.ErrType, bits(leaf, 0, oTbl^oPgt)},
		{name + "leaf", api.ErrType, bits(leaf, 2, 1)},
		{name + "leaf", api.ErrType, lies(f, entry, on(size, both))},
	}
}

// into are those of the page there of to, to which something is to come.
func into() []flaw {
	return append(along("to ", to, other, twig, func(x *asked, n int) { x.k = n }, func(x *asked, f int) { x.to = f }),
		flaw{"to place", api.ErrForm, lies(twig, there%entries, 2)},
		flaw{"to place", api.ErrUsed, lies(twig, there%entries, on(spare, 1))},
		flaw{"to place", api.ErrUsed, lies(twig, there%entries, on(size, 3))},
		flaw{"to place", api.ErrBusy, lies(twig, there%entries, off(8))},
	)
}

// from are those of the page have of root, where something is.
func from() []flaw {
	return append(along("", root, high, leaf, func(x *asked, n int) { x.n = n }, func(x *asked, f int) { x.root = f }),
		flaw{"place", api.ErrForm, lies(leaf, have%entries, 2)},
		flaw{"place", api.ErrFault, lies(leaf, have%entries, 0)},
		flaw{"place", api.ErrFault, lies(leaf, have%entries, off(1))},
		flaw{"place", api.ErrFault, lies(leaf, have%entries, off(8))},
	)
}

func TestMapErrors(t *testing.T) {
	all := []flaw{
		{"frame", api.ErrType, func(w *world, x *asked) { w.retyped(spare, kernels) }},
		{"frame", api.ErrType, func(w *world, x *asked) { w.retyped(spare, untyped) }},
		{"frame", api.ErrType, func(w *world, x *asked) { w.needed(free, maxRefs); x.f = free }},
		{"frame", api.ErrType, arg(func(x *asked) { x.f = -1 })},
		{"frame", api.ErrType, arg(func(x *asked) { x.f = size })},
		{"frame", api.ErrType, arg(func(x *asked) { x.f = maxFrames })},
		{"full", api.ErrFull, func(w *world, x *asked) { w.needed(spare, maxRefs) }},
		{"rights", api.ErrArg, arg(func(x *asked) { x.r = 0 })},
		{"rights", api.ErrArg, arg(func(x *asked) { x.r = 4 })},
		{"rights", api.ErrArg, arg(func(x *asked) { x.r = -1 })},
	}
	flaws(t, append(all, into()...), func(w *world, x asked) api.Errno { return w.maps(x.to, x.k, x.f, x.r) })
}

func TestUnmapErrors(t *testing.T) {
	flaws(t, from(), func(w *world, x asked) api.Errno { _, e := w.unmap(x.root, x.n); return e })
}

func TestCopyErrors(t *testing.T) {
	all := append(from(),
		flaw{"rights", api.ErrPerm, arg(func(x *asked) { x.r = 0 })},
		flaw{"rights", api.ErrPerm, arg(func(x *asked) { x.r = 4 })},
		flaw{"rights", api.ErrPerm, func(w *world, x *asked) { x.r = toWrite; w.say(leaf, have%entries, on(user, toRead)) }},
		flaw{"frame", api.ErrType, func(w *world, x *asked) { w.retyped(user, kernels) }},
		flaw{"frame", api.ErrType, func(w *world, x *asked) { w.retyped(user, untyped) }},
		flaw{"frame", api.ErrType, lies(leaf, have%entries, on(size, both))},
		flaw{"frame", api.ErrType, func(w *world, x *asked) { w.needed(free, maxRefs); w.say(leaf, have%entries, on(free, both)) }},
		flaw{"full", api.ErrFull, func(w *world, x *asked) { w.needed(user, maxRefs) }},
	)
	flaws(t, append(all, into()...), func(w *world, x asked) api.Errno { return w.copy(x.root, x.n, x.to, x.k, x.r) })
}

func TestConsErrors(t *testing.T) {
	flaws(t, []flaw{
		{"itself", api.ErrUsed, arg(func(x *asked) { x.leaf = x.root })},
		{"full", api.ErrFull, func(w *world, x *asked) { w.needed(loose, maxRefs) }},
		{"high", api.ErrArg, arg(func(x *asked) { x.high = -1 })},
		{"high", api.ErrArg, arg(func(x *asked) { x.high = entries })},
		{"root", api.ErrType, bits(root, 0, leafBit)},
		{"root", api.ErrType, bits(root, 0, oPgt)},
		{"root", api.ErrType, bits(root, 1, 1)},
		{"leaf", api.ErrType, bits(loose, 0, leafBit)},
		{"leaf", api.ErrType, bits(loose, 2, 5)},
		{"leaf", api.ErrType, bits(loose, 0, oPgt^oTbl)},
		{"place", api.ErrForm, lies(root, 9, 2)},
		{"place", api.ErrUsed, lies(root, 9, on(twig, 1))},
		{"place", api.ErrUsed, lies(root, 9, on(size, both))},
		{"place", api.ErrBusy, lies(root, 9, off(8))},
		// An untyped frame may begin as a leaf still, but can't be needed.
		{"full", api.ErrType, func(w *world, x *asked) { w.retyped(loose, untyped) }},
	}, func(w *world, x asked) api.Errno { return w.cons(x.root, x.high, x.leaf) })
}

func TestDeconsErrors(t *testing.T) {
	flaws(t, []flaw{
		{"high", api.ErrArg, arg(func(x *asked) { x.out = -1 })},
		{"high", api.ErrArg, arg(func(x *asked) { x.out = entries })},
		{"root", api.ErrType, bits(root, 0, leafBit)},
		{"root", api.ErrType, bits(root, 0, oTbl^oPgt)},
		{"root", api.ErrType, bits(root, 1, 3)},
		{"root", api.ErrType, arg(func(x *asked) { x.root = size })},
		{"place", api.ErrForm, lies(root, high, 2)},
		{"place", api.ErrForm, lies(root, high, 1<<62+on(leaf, both))},
		{"place", api.ErrNone, lies(root, high, 0)},
		{"place", api.ErrNone, lies(root, high, off(1))},
		{"place", api.ErrNone, lies(root, high, off(8))},
	}, func(w *world, x asked) api.Errno { _, e := w.decons(x.root, x.out); return e })
}

// TestAtTheBeginning has the time 0, at which nothing is taken away, whatever else is wrong,
// and no core has flushed.
func TestAtTheBeginning(t *testing.T) {
	w := blank(t, size)
	for f, begin := range [][]uint64{{oPgt}, {oPgt + leafBit}, {oPgt + leafBit}} {
		w.retyped(f, kernels)
		w.begin(f, begin...)
	}
	w.retyped(3, users)
	w.is(w.cons(0, 4, 1), api.OK)
	w.is(w.maps(0, 129, 3, both), api.OK)
	w.is(w.copy(0, 129, 0, 130, toRead), api.OK)
	for _, n := range []int{129, 130, 131, 5, -1, pages} {
		for _, f := range []int{0, 1, 7, -1} {
			w.lets(f, n, 0, api.ErrArg)
		}
	}
	for _, at := range []int{4, 3, -1, entries} {
		for _, f := range []int{0, 1, 7, -1} {
			w.frees(f, at, 0, api.ErrArg)
		}
	}
	w.say(0, 6, 2)
	w.frees(0, 6, 0, api.ErrArg)
	w.say(1, 3, off(1))
	w.say(0, 9, off(1))
	for number := range 2 {
		w.is(w.maps(0, 131, 3, 1), api.ErrBusy)
		w.is(w.copy(0, 129, 0, 131, 1), api.ErrBusy)
		w.is(w.cons(0, 9, 2), api.ErrBusy)
		w.enter(number)
		w.flush(number)
	}
	w.is(w.maps(0, 131, 3, 1), api.ErrBusy)
	w.pass()
	w.is(w.maps(0, 131, 3, 1), api.OK)
	w.is(w.cons(0, 9, 2), api.OK)
	w.lets(0, 129, 3, api.OK)
	w.frees(0, 4, 1, api.OK)
	w.frees(0, 9, 2, api.OK)
}

// P29.1: Map.

// TestMapRights maps with all sorts of rights.
func TestMapRights(t *testing.T) {
	for r := range 5 {
		w := plain(t)
		want := api.ErrArg
		if within(r, 1, 3) {
			want = api.OK
		}
		w.is(w.maps(to, there, spare, r), want)
		if want != api.OK {
			continue
		}
		if p, e := pgtbl.Walk(w.m.Mem(), to, there); p != (api.Pte{On: true, F: spare, R: r}) || e != api.OK {
			t.Errorf("with %d: %v, %d", r, p, e)
		}
		for again := range 5 {
			if within(again, 1, 3) {
				w.is(w.maps(to, there, spare, again), api.ErrUsed)
				w.is(w.maps(to, there, user, again), api.ErrUsed)
				continue
			}
			w.is(w.maps(to, there, spare, again), api.ErrArg)
		}
	}
	w := plain(t)
	for _, r := range noRights() {
		w.is(w.maps(to, there, spare, r), api.ErrArg)
		w.is(w.maps(to, have, spare, r), api.ErrArg)
		w.is(w.maps(leaf, -1, spare, r), api.ErrArg)
		w.is(w.maps(to, there, free, r), api.ErrType)
	}
}

// TestFrames maps, and copies mappings of, frames of each type, needed so often.
func TestFrames(t *testing.T) {
	for _, is := range []int{untyped, users, kernels} {
		for _, count := range []int{0, 1, 2, 255, 256, maxRefs - 1, maxRefs} {
			if is == untyped && count > 0 {
				continue
			}
			for r := toRead; r <= both; r++ {
				w := plain(t)
				w.retyped(spare, is)
				w.needed(spare, count)
				want := api.OK
				switch {
				case is != users:
					want = api.ErrType
				case count == maxRefs:
					want = api.ErrFull
				}
				w.is(w.maps(to, there, spare, r), want)
				w.needed(spare, count)
				w.say(leaf, 9, on(spare, both))
				w.is(w.copy(root, first+9, to, there+1, r), want)
			}
		}
	}
}

// TestNoFrames maps frames that there are not, and those that are no user's, and copies
// mappings of such.
func TestNoFrames(t *testing.T) {
	w := plain(t)
	for _, f := range append(noFrames(size), root, leaf, to, twig, loose, croot, cleaf, one, purse, run, point, none, free) {
		w.is(w.maps(to, there, f, both), api.ErrType)
		w.is(w.maps(to, -1, f, 0), api.ErrType)
		w.is(w.maps(f, there, f, both), api.ErrType)
		if within(f, 0, maxFrames-1) {
			w.say(leaf, 9, on(f, both))
			w.is(w.copy(root, first+9, to, there, toRead), api.ErrType)
			w.is(w.copy(root, first+9, size, -1, toRead), api.ErrType)
			w.is(w.copy(root, first+9, root, first+9, toRead), api.ErrType)
		}
	}
}

// TestPlaces has all sorts of words at the place to which something is to come, or which is
// copied, or unmapped.
func TestPlaces(t *testing.T) {
	tried := func(one uint64, come api.Errno, gone api.Errno) {
		t.Helper()
		begin := func() *world {
			w := plain(t)
			w.say(twig, there%entries, one)
			return w
		}
		w := begin()
		w.is(w.maps(to, there, spare, both), come)
		w = begin()
		w.is(w.copy(root, have, to, there, both), come)
		w = begin()
		_, e := w.unmap(to, there)
		w.is(e, gone)
		w = begin()
		if gone == api.OK && begin().d.is[one/2%64] != users {
			gone = api.ErrType
		}
		w.is(w.copy(to, there, root, have+1, both), gone)
	}
	for _, time := range []int{0, 1, 3, 4, 5, 6, 7} {
		tried(off(time), api.OK, api.ErrFault)
	}
	for _, time := range []int{8, 9, 10, 255, maxTime - 1, maxTime} {
		tried(off(time), api.ErrBusy, api.ErrFault)
	}
	for f := range maxFrames {
		tried(on(f, both), api.ErrUsed, api.OK)
	}
	for _, one := range noWords() {
		tried(one, api.ErrForm, api.ErrForm)
	}
}

// wide is a world of as many frames as may be: a root in frame 0 with a leaf in each entry,
// in the frames from 1 on, another one in frame 33 with leaves from 34 on in each third entry,
// and users' frames from 45 on.
func wide(t *testing.T) *world {
	t.Helper()
	w := blank(t, maxFrames)
	for f := range maxFrames {
		is := kernels
		if f >= 45 {
			is = users
		}
		w.retyped(f, is)
	}
	w.stir()
	w.begin(0, oPgt)
	w.begin(33, oPgt)
	for i := range entries {
		w.begin(1+i, oPgt+leafBit)
		w.is(w.cons(0, i, 1+i), api.OK)
	}
	for i := range 11 {
		w.begin(34+i, oPgt+leafBit)
		w.is(w.cons(33, 3*i, 34+i), api.OK)
	}
	return w
}

// TestEveryPage maps something at each page, unmaps it, and maps something else there.
func TestEveryPage(t *testing.T) {
	w := wide(t)
	for n := range pages {
		w.is(w.maps(0, n, 45+n%19, 1+n%3), api.OK)
		if n%41 > 0 {
			continue
		}
		for k := range pages {
			p, e := pgtbl.Walk(w.m.Mem(), 0, k)
			if k <= n && (p != api.Pte{On: true, F: 45 + k%19, R: 1 + k%3} || e != api.OK) || k > n && e != api.ErrFault {
				t.Fatalf("behind Map of %d there is %v at %d: %d", n, p, k, e)
			}
		}
	}
	for n := range pages {
		w.is(w.maps(0, n, 50, both), api.ErrUsed)
		want := api.ErrFault
		if n/entries%3 == 0 {
			want = api.OK
		}
		w.is(w.maps(33, n, 63, both), want)
	}
	for n := range pages {
		w.lets(0, n, 45+n%19, api.OK)
		w.lets(0, n, 0, api.ErrFault)
		w.is(w.maps(0, n, 50, both), api.ErrBusy)
	}
	w.pass()
	for n := range pages / 2 {
		w.is(w.maps(0, 2*n+1, 50, both), api.OK)
	}
}

// TestNoPage has pages outside the table.
func TestNoPage(t *testing.T) {
	w := plain(t)
	for _, n := range noPages() {
		w.is(w.maps(to, n, spare, both), api.ErrArg)
		w.is(w.maps(size, n, spare, both), api.ErrArg)
		w.is(w.copy(root, n, to, there, 1), api.ErrArg)
		w.is(w.copy(root, n, to, there, 0), api.ErrArg)
		w.is(w.copy(root, have, to, n, 1), api.ErrArg)
		w.is(w.copy(root, have, root, n, 0), api.ErrPerm)
		w.is(w.copy(user, n, user, n, 1), api.ErrArg)
		w.lets(root, n, 0, api.ErrArg)
		w.lets(-1, n, 0, api.ErrArg)
	}
}

// TestNoWay has pages of the plain world below entries of a root that map no leaf, or did so
// till a while ago.
func TestNoWay(t *testing.T) {
	w := plain(t)
	w.say(root, 7, off(3))
	w.say(root, 8, off(9))
	for n := range pages {
		if n/entries == high {
			continue
		}
		w.is(w.maps(root, n, spare, both), api.ErrFault)
		w.is(w.copy(root, n, to, there, 1), api.ErrFault)
		w.is(w.copy(root, have, root, n, 1), api.ErrFault)
		w.lets(root, n, 0, api.ErrFault)
	}
}

// TestRoots has roots that begin with words of all sorts.
func TestRoots(t *testing.T) {
	for _, begin := range allHeads() {
		w := plain(t)
		w.begin(to, begin...)
		come, nothing := api.ErrType, api.ErrType
		if w.d.isPgt(to, 0) {
			come, nothing = api.OK, api.ErrFault
		}
		w.is(w.copy(to, there, root, have+1, 1), nothing)
		w.lets(to, there, 0, nothing)
		w.is(w.copy(root, have, to, there, 1), come)
		w.is(w.maps(to, there+1, spare, both), come)
		_, e := w.unmap(to, there+1)
		w.is(e, come)
	}
	w := plain(t)
	for _, f := range append(noFrames(size), leaf, twig, loose, croot, cleaf, one, purse, run, point, user, none, free) {
		w.is(w.copy(f, have, to, there, 1), api.ErrType)
		w.is(w.copy(root, have, f, there, 1), api.ErrType)
		w.is(w.maps(f, there, spare, both), api.ErrType)
		w.lets(f, have, 0, api.ErrType)
	}
}

// TestLeaves has leaves that begin with words of all sorts.
func TestLeaves(t *testing.T) {
	for _, begin := range allHeads() {
		w := plain(t)
		w.say(twig, 0, on(user, both))
		w.needed(user, 2)
		w.begin(twig, begin...)
		want := api.ErrType
		if w.d.isPgt(twig, 1) {
			want = api.OK
		}
		w.is(w.copy(to, other*entries, root, have+1, 1), want)
		w.is(w.copy(root, have, to, there, 1), want)
		w.is(w.maps(to, there+1, spare, both), want)
		_, e := w.unmap(to, other*entries)
		w.is(e, want)
	}
}

// TestWays has entries of a root with what leads to a leaf, or looks like it.
func TestWays(t *testing.T) {
	for f := range maxFrames {
		for r := toRead; r <= both; r++ {
			w := plain(t)
			w.say(to, other, on(f, r))
			want := api.ErrType
			if f == leaf || f == twig || f == loose {
				want = api.OK
			}
			w.is(w.maps(to, there, spare, both), want)
			w.is(w.copy(root, have, to, there+1, 1), want)
			_, e := w.unmap(to, there)
			w.is(e, want)
		}
	}
	for _, one := range append(noWords(), 0, off(1), off(7), off(8), off(9), off(maxTime)) {
		w := plain(t)
		w.say(to, other, one)
		w.is(w.maps(to, there, spare, both), api.ErrFault)
		w.is(w.copy(root, have, to, there, 1), api.ErrFault)
		w.lets(to, there, 0, api.ErrFault)
	}
}

// TestTypes has tables in frames of each type, needed or not: what counts is what is there.
// One in a user's frame may be mapped itself, and by itself.
func TestTypes(t *testing.T) {
	for _, is := range []int{untyped, users, kernels} {
		for _, count := range []int{0, 5, maxRefs - 1} {
			if is == untyped && count > 0 {
				continue
			}
			for _, f := range []int{to, twig} {
				w := plain(t)
				w.retyped(f, is)
				w.needed(f, count)
				w.is(w.maps(to, there, spare, both), api.OK)
				w.is(w.copy(to, there, to, there+1, both), api.OK)
				w.lets(to, there, spare, api.OK)
				want := api.ErrType
				if is == users {
					want = api.OK
				}
				w.is(w.maps(to, there+2, f, both), want)
				_, e := w.unmap(to, there+2)
				if want != api.OK {
					want = api.ErrFault
				}
				w.is(e, want)
			}
		}
	}
}

// TestFullAtLast maps a frame up to as often as it may be needed, and again when it is
// unmapped once.
func TestFullAtLast(t *testing.T) {
	w := plain(t)
	w.needed(user, maxRefs-2)
	w.is(w.maps(to, there, user, both), api.OK)
	w.is(w.copy(to, there, to, there+1, both), api.OK)
	w.is(w.maps(to, there+2, user, both), api.ErrFull)
	w.is(w.maps(to, there+2, user, 0), api.ErrFull)
	w.is(w.copy(to, there, to, there+2, both), api.ErrFull)
	w.is(w.copy(to, there, to, there, both), api.ErrFull)
	w.is(w.copy(to, there, to, there+2, 0), api.ErrPerm)
	w.lets(to, there+1, user, api.OK)
	w.is(w.maps(to, there+2, user, both), api.OK)
	w.is(w.maps(to, there+3, user, both), api.ErrFull)
}

// P29.1: Copy.

// TestCopyRights copies mappings of all rights with all sorts of rights.
func TestCopyRights(t *testing.T) {
	w := plain(t)
	for had := toRead; had <= both; had++ {
		w.say(leaf, 9, on(user, had))
		for _, r := range append(noRights(), 1, 2, 3, -6, -7, 1<<31, 1<<32+1) {
			w.say(twig, there%entries, 0)
			w.needed(user, 1)
			left := had & r
			if left == 0 {
				w.is(w.copy(root, first+9, to, there, r), api.ErrPerm)
				w.is(w.copy(root, first+9, root, first+9, r), api.ErrPerm)
				w.is(w.copy(root, first+9, user, -1, r), api.ErrPerm)
				continue
			}
			w.is(w.copy(root, first+9, to, there, r), api.OK)
			want, e := pte.Less(api.Pte{On: true, F: user, R: had}, r)
			got, gotE := pgtbl.Walk(w.m.Mem(), to, there)
			if got != want || e != api.OK || gotE != api.OK || got.R != left {
				t.Fatalf("%d with %d: %v, %d; want %v, %d", had, r, got, gotE, want, e)
			}
			// What was taken away does not come back.
			w.is(w.copy(to, there, root, first+10, -1), api.OK)
			if got, e := pgtbl.Walk(w.m.Mem(), root, first+10); got.R != left || e != api.OK {
				t.Fatalf("%d with %d, copied on: %v, %d", had, r, got, e)
			}
			w.say(leaf, 10, 0)
		}
	}
}

// TestCopyEach copies from each place of a leaf to each of it, and of another one.
func TestCopyEach(t *testing.T) {
	w := plain(t)
	for n := range entries {
		for k := range entries {
			old := w.d.words[leaf]
			w.say(leaf, n, on(user, both))
			want := api.OK
			if n == k {
				want = api.ErrUsed
			}
			if k == have%entries {
				want = api.ErrUsed
			}
			w.is(w.copy(root, first+n, root, first+k, toWrite), want)
			w.is(w.copy(root, first+n, to, other*entries+k, toRead), api.OK)
			w.is(w.copy(root, first+n, to, other*entries+k, toRead), api.ErrUsed)
			for at, one := range old[headWords:] {
				w.say(leaf, at, one)
			}
			w.say(twig, k, 0)
			w.needed(user, 1)
		}
	}
}

// TestCopyEverywhere copies from each page of a great table to many, within it and into
// another one.
func TestCopyEverywhere(t *testing.T) {
	w := wide(t)
	for n := range pages {
		up := n % 5 / 4 * 33
		leaf := 1 + n/entries
		if up == 33 {
			leaf = 34 + n/entries/3
			if n/entries%3 > 0 {
				w.is(w.copy(up, n, 0, n, both), api.ErrFault)
				continue
			}
		}
		w.say(leaf, n%entries, on(45+n%19, both))
		for _, k := range []int{n, pages - 1 - n, (n + 1) % pages, (n + entries) % pages, n * 37 % pages, n%entries*entries + n/entries} {
			for _, to := range []int{0, 33} {
				want := api.OK
				switch {
				case to == up && n == k:
					want = api.ErrUsed
				case to == 33 && k/entries%3 > 0:
					want = api.ErrFault
				}
				w.is(w.copy(up, n, to, k, toWrite), want)
				if want != api.OK {
					continue
				}
				if got, e := pgtbl.Walk(w.m.Mem(), to, k); got != (api.Pte{On: true, F: 45 + n%19, R: toWrite}) || e != api.OK {
					t.Fatalf("from %d to %d: %v, %d", n, k, got, e)
				}
				w.is(w.copy(up, n, to, k, toWrite), api.ErrUsed)
				down := 1 + k/entries
				if to == 33 {
					down = 34 + k/entries/3
				}
				w.say(down, k%entries, 0)
			}
		}
		w.say(leaf, n%entries, 0)
		w.needed(45+n%19, 0)
	}
}

// P29.1: Unmap.

// TestUnmapCounts unmaps frames of each type, needed so often, or by nobody.
func TestUnmapCounts(t *testing.T) {
	for _, is := range []int{untyped, users, kernels} {
		for _, count := range []int{0, 1, 2, maxRefs} {
			if is == untyped && count > 0 {
				continue
			}
			w := plain(t)
			w.retyped(user, is)
			w.needed(user, count)
			w.step(1)
			w.lets(root, have, user, api.OK)
			w.lets(root, have, 0, api.ErrFault)
			if got := w.m.Typ().Count(user); got != max(count-1, 0) {
				t.Errorf("of %d: needed %d times", count, got)
			}
			if (w.m.Typ().Freed(user) == 9) != (count == 1) {
				t.Errorf("of %d: freed at %d", count, w.m.Typ().Freed(user))
			}
		}
	}
}

// TestUnmapEach unmaps what maps any frame, those of the table and those that there are not
// among them.
func TestUnmapEach(t *testing.T) {
	for f := range maxFrames {
		for r := toRead; r <= both; r++ {
			w := plain(t)
			w.say(twig, there%entries, on(f, r))
			w.step(0)
			w.lets(to, there, f, api.OK)
			if p, e := pgtbl.Raw(w.m.Mem(), to, there); p != (api.Pte{Time: 9}) || e != api.OK {
				t.Errorf("behind Unmap there is %v, %d", p, e)
			}
			w.lets(to, there, 0, api.ErrFault)
		}
	}
	for at := range entries {
		w := plain(t)
		if at != have%entries {
			w.lets(root, first+at, 0, api.ErrFault)
		}
		w.say(leaf, at, on(user, 1))
		w.lets(root, first+at, user, api.OK)
		w.lets(root, first+at, 0, api.ErrFault)
	}
}

// TestUnmapFreed unmaps what frees a frame, at a time behind which it was freed already, as
// far as is known, and ahead of that.
func TestUnmapFreed(t *testing.T) {
	for _, late := range []int{0, 8, 9, 20} {
		w := plain(t)
		must(t, w.m.Typ().Unref(user, late))
		must(t, w.m.Typ().Ref(user))
		w.d.freed[user] = late
		w.step(0)
		w.lets(root, have, user, api.OK)
		if got := w.m.Typ().Freed(user); got != max(late, 9) {
			t.Errorf("freed at %d and then at 9: %d", late, got)
		}
	}
}

// seenBy tells whether all cores have flushed behind the time 8.
type seenBy [2]bool

// act lets the core do one of four things, and notes whether it has seen what was done at 8.
func (s *seenBy) act(w *world, number int, what int) {
	w.t.Helper()
	switch what {
	case 0:
		w.step(number)
	case 1:
		w.enter(number)
	case 2:
		w.flush(number)
	case 3:
		w.step(number)
		w.flush(number)
	}
	s[number] = s[number] || what >= 2 && w.d.now > 8
}

// TestQuiet unmaps a page, and takes out a leaf, and lets the cores step, enter and flush in
// each order: the places are quiet when each core has flushed behind that, whether it entered
// or not.
func TestQuiet(t *testing.T) {
	const choices = 1 << 3
	for order := range 1 << 12 {
		w := plain(t)
		w.say(to, 1, on(loose, 1))
		w.lets(root, have, user, api.OK)
		w.frees(to, 1, loose, api.OK)
		var seen seenBy
		for range 4 {
			w.is(w.maps(root, have, spare, 1), api.ErrBusy)
			w.is(w.cons(to, 1, loose), api.ErrBusy)
			seen.act(w, order%2, order/2%4)
			order /= choices
			if seen[0] && seen[1] {
				break
			}
		}
		want := api.ErrBusy
		if seen[0] && seen[1] {
			want = api.OK
		}
		w.is(w.copy(to, there, root, have, 1), api.ErrFault)
		w.is(w.maps(root, have, spare, 1), want)
		w.is(w.cons(to, 1, loose), want)
	}
}

// TestRetyped unmaps a frame and untypes it: it is something else only when all cores have
// flushed since.
func TestRetyped(t *testing.T) {
	w := plain(t)
	w.is(w.copy(root, have, to, there, 1), api.OK)
	w.is(build.Untype(w.m, user), api.ErrUsed)
	w.lets(root, have, user, api.OK)
	w.is(build.Untype(w.m, user), api.ErrUsed)
	w.lets(to, there, user, api.OK)
	w.is(build.Untype(w.m, user), api.OK)
	w.is(w.m.Retype(user, api.FKernel), api.ErrBusy)
	w.d = look(w.m)
	w.is(w.maps(to, there+1, user, 1), api.ErrType)
	w.pass()
	w.is(w.m.Retype(user, api.FKernel), api.OK)
	w.d = look(w.m)
	w.is(w.maps(to, there+1, user, 1), api.ErrType)
}

// P29.2: Cons.

// TestConsPlaces hangs a leaf into each entry of a root, and of another one; into none twice.
func TestConsPlaces(t *testing.T) {
	w := plain(t)
	count := w.d.count[loose]
	for _, up := range []int{root, to} {
		for at := range entries {
			if up == root && at == high || up == to && at == other {
				w.is(w.cons(up, at, loose), api.ErrUsed)
				continue
			}
			w.is(w.cons(up, at, loose), api.OK)
			count++
			w.is(w.cons(up, at, loose), api.ErrUsed)
			w.is(w.cons(up, at, twig), api.ErrUsed)
			if w.m.Typ().Count(loose) != count {
				t.Errorf("entry %d: needed %d times; want %d", at, w.m.Typ().Count(loose), count)
			}
			w.is(w.maps(up, at*entries+at, spare, toWrite), api.OK)
			w.pass()
			w.lets(up, at*entries+at, spare, api.OK)
			w.pass()
		}
	}
	for _, at := range noEntries() {
		w.is(w.cons(root, at, loose), api.ErrArg)
		w.is(w.cons(user, at, user+1), api.ErrArg)
		w.is(w.cons(root, at, root), api.ErrUsed)
	}
}

// TestConsHeads has roots and leaves that begin with words of all sorts.
func TestConsHeads(t *testing.T) {
	for _, up := range allHeads() {
		for _, down := range allHeads() {
			w := plain(t)
			w.begin(root, up...)
			w.begin(loose, down...)
			want := api.ErrType
			if w.d.isPgt(root, 0) && w.d.isPgt(loose, 1) {
				want = api.OK
			}
			w.is(w.cons(root, 9, loose), want)
			w.cons(loose, 9, root)
		}
	}
}

// TestConsNowhere has roots and leaves that there are not, or are none, and roots by
// themselves.
func TestConsNowhere(t *testing.T) {
	w := plain(t)
	for _, f := range append(noFrames(size), leaf, twig, croot, cleaf, one, purse, run, point, user, none, free) {
		if f != leaf && f != twig {
			w.is(w.cons(root, 9, f), api.ErrType)
		}
		w.is(w.cons(f, 9, loose), api.ErrType)
		w.is(w.cons(f, 9, f), api.ErrUsed)
		w.is(w.cons(f, -1, f), api.ErrUsed)
		w.is(w.cons(f, -1, loose), api.ErrArg)
	}
	for _, f := range []int{root, to, loose} {
		w.is(w.cons(f, 9, f), api.ErrUsed)
		w.needed(f, maxRefs)
		w.is(w.cons(f, 9, f), api.ErrUsed)
	}
	w.is(w.cons(root, 9, to), api.ErrFull)
	w.is(w.cons(root, -1, to), api.ErrFull)
	w.needed(to, maxRefs-1)
	w.is(w.cons(root, 9, to), api.ErrType)
}

// TestConsCounts has leaves in frames of each type, needed so often. One that is untyped may
// begin as a leaf, but is never needed: the entry is then what it was.
func TestConsCounts(t *testing.T) {
	for _, count := range []int{0, 1, 2, 255, 256, maxRefs - 1, maxRefs} {
		for _, is := range []int{users, kernels} {
			w := plain(t)
			w.retyped(loose, is)
			w.needed(loose, count)
			want := api.OK
			if count == maxRefs {
				want = api.ErrFull
			}
			w.is(w.cons(root, 9, loose), want)
			want = api.ErrArg
			if w.d.count[loose] == maxRefs {
				want = api.ErrFull
			}
			w.is(w.cons(root, -1, loose), want)
		}
	}
	for _, one := range []uint64{0, off(1), off(4), off(7)} {
		for _, at := range []int{0, 9, entries - 1} {
			w := plain(t)
			w.say(root, at, one)
			w.retyped(loose, untyped)
			w.is(w.cons(root, at, loose), api.ErrType)
			w.is(w.maps(root, at*entries, spare, 1), api.ErrFault)
			w.retyped(loose, kernels)
			w.is(w.cons(root, at, loose), api.OK)
		}
	}
}

// TestConsEntries has all sorts of words in the entry of the root.
func TestConsEntries(t *testing.T) {
	tried := func(one uint64, want api.Errno) {
		t.Helper()
		w := plain(t)
		w.say(root, 9, one)
		w.is(w.cons(root, 9, loose), want)
	}
	for f := range maxFrames {
		for r := toRead; r <= both; r++ {
			tried(on(f, r), api.ErrUsed)
		}
	}
	for _, one := range noWords() {
		tried(one, api.ErrForm)
	}
	for _, time := range []int{0, 1, 3, 4, 5, 7} {
		tried(off(time), api.OK)
	}
	for _, time := range []int{8, 9, 10, maxTime} {
		tried(off(time), api.ErrBusy)
	}
}

// P29.2: Decons.

// TestDeconsPlaces has each entry of a root, with a leaf or none, and those outside.
func TestDeconsPlaces(t *testing.T) {
	w := plain(t)
	for at := range entries {
		if at == other {
			continue
		}
		w.frees(to, at, 0, api.ErrNone)
		w.say(to, at, on(twig, 1+at%3))
		w.needed(twig, 3)
		w.frees(to, at, twig, api.OK)
		w.frees(to, at, 0, api.ErrNone)
	}
	w.frees(to, other, twig, api.OK)
	for _, at := range noEntries() {
		w.frees(to, at, 0, api.ErrArg)
		w.frees(size, at, 0, api.ErrArg)
	}
	for _, f := range append(noFrames(size), leaf, twig, loose, croot, cleaf, one, purse, run, point, user, none, free) {
		w.frees(f, high, 0, api.ErrType)
	}
}

// TestDeconsWords has roots that begin with words of all sorts, and entries with such.
func TestDeconsWords(t *testing.T) {
	for _, begin := range allHeads() {
		w := plain(t)
		w.begin(root, begin...)
		if w.d.isPgt(root, 0) {
			w.frees(root, high, leaf, api.OK)
		} else {
			w.frees(root, high, 0, api.ErrType)
		}
		// What the leaf is does not count.
		w = plain(t)
		w.begin(leaf, begin...)
		w.frees(root, high, leaf, api.OK)
	}
	for f := range maxFrames {
		for r := toRead; r <= both; r++ {
			w := plain(t)
			w.say(root, high, on(f, r))
			w.step(1)
			w.frees(root, high, f, api.OK)
			w.frees(root, high, 0, api.ErrNone)
		}
	}
	for _, time := range []int{0, 1, 7, 8, 9, maxTime} {
		w := plain(t)
		w.say(root, high, off(time))
		w.frees(root, high, 0, api.ErrNone)
	}
	for _, one := range noWords() {
		w := plain(t)
		w.say(root, high, one)
		w.frees(root, high, 0, api.ErrForm)
	}
}

// TestDeconsCounts takes out leaves in frames of each type, needed so often, or by nobody.
func TestDeconsCounts(t *testing.T) {
	for _, is := range []int{untyped, users, kernels} {
		for _, count := range []int{0, 1, 2, maxRefs} {
			if is == untyped && count > 0 {
				continue
			}
			w := plain(t)
			w.retyped(leaf, is)
			w.needed(leaf, count)
			w.step(1)
			w.frees(root, high, leaf, api.OK)
			if got := w.m.Typ().Count(leaf); got != max(count-1, 0) {
				t.Errorf("of %d: needed %d times", count, got)
			}
			if (w.m.Typ().Freed(leaf) == 9) != (count == 1) {
				t.Errorf("of %d: freed at %d", count, w.m.Typ().Freed(leaf))
			}
		}
	}
}

// TestDeconsAgain takes a leaf out with what it maps, and hangs it in elsewhere: what it maps
// is found there, and counted still.
func TestDeconsAgain(t *testing.T) {
	w := plain(t)
	w.frees(root, high, leaf, api.OK)
	w.lets(root, have, 0, api.ErrFault)
	w.is(w.copy(root, have, to, there, 1), api.ErrFault)
	w.is(w.cons(root, high, leaf), api.ErrBusy)
	w.is(w.cons(root, high, loose), api.ErrBusy)
	w.is(w.cons(to, 0, leaf), api.OK)
	w.is(w.copy(to, 3, to, there, 1), api.OK)
	w.pass()
	w.is(w.cons(root, high, leaf), api.OK)
	w.is(w.copy(root, have, to, there+1, 2), api.OK)
	if w.m.Typ().Count(leaf) != 2 || w.m.Typ().Count(user) != 3 {
		t.Errorf("needed %d and %d times", w.m.Typ().Count(leaf), w.m.Typ().Count(user))
	}
}

// TestLeafOfTwo hangs a leaf into two roots, and twice into one: what comes to it by one way
// is found by the others, and each way is taken out alone.
func TestLeafOfTwo(t *testing.T) {
	w := plain(t)
	for _, way := range [][2]int{{root, 0}, {root, 31}, {to, 7}} {
		w.is(w.cons(way[0], way[1], loose), api.OK)
	}
	w.is(w.maps(root, 4, spare, both), api.OK)
	for _, way := range [][2]int{{root, 996}, {to, 228}} {
		w.is(w.maps(way[0], way[1], user, both), api.ErrUsed)
		if p, e := pgtbl.Walk(w.m.Mem(), way[0], way[1]); p != (api.Pte{On: true, F: spare, R: both}) || e != api.OK {
			t.Errorf("%v: %v, %d", way, p, e)
		}
	}
	w.is(w.copy(root, 996, to, 228, 3), api.ErrUsed)
	w.lets(to, 228, spare, api.OK)
	w.lets(root, 4, 0, api.ErrFault)
	for i, way := range [][2]int{{root, 31}, {to, 7}, {root, 0}} {
		if w.m.Typ().Count(loose) != 3-i {
			t.Errorf("needed %d times", w.m.Typ().Count(loose))
		}
		w.frees(way[0], way[1], loose, api.OK)
	}
}

// P26.3.

// TestUnmade has a nil machine, and one that no call made, with arguments of all sorts.
func TestUnmade(t *testing.T) {
	for _, m := range []*machine.Machine{nil, new(machine.Machine)} {
		for _, n := range []int{0, 1, -1, 31, 32, 1023, 1024, math.MinInt, math.MaxInt} {
			for _, k := range []int{0, 1, 3, -1, math.MaxInt} {
				if e := page.Map(m, n, k, n, k); e != api.ErrZero {
					t.Errorf("Map: %d", e)
				}
				if e := page.Copy(m, n, k, k, n, k); e != api.ErrZero {
					t.Errorf("Copy: %d", e)
				}
				if f, e := page.Unmap(m, n, k); f != 0 || e != api.ErrZero {
					t.Errorf("Unmap: %d, %d", f, e)
				}
				if e := page.Cons(m, n, k, n); e != api.ErrZero {
					t.Errorf("Cons: %d", e)
				}
				if e := page.Cons(m, n, k, k); e != api.ErrZero {
					t.Errorf("Cons: %d", e)
				}
				if f, e := page.Decons(m, k, n); f != 0 || e != api.ErrZero {
					t.Errorf("Decons: %d, %d", f, e)
				}
			}
		}
		if m.Cores() != 0 {
			t.Error("it was made")
		}
	}
}

// P29.3.

// live is a world that calls of the kernel alone made: two roots, three leaves, and users'
// frames, each of which is needed by mappings as often as it is needed.
func live(t *testing.T) *world {
	t.Helper()
	w := blank(t, size)
	for f := range size {
		is := api.FKernel
		if f >= point {
			is = api.FUser
		}
		must(t, w.m.Retype(f, is))
	}
	for _, f := range []int{root, to} {
		must(t, build.Pgt(w.m, f, 0))
	}
	for _, f := range []int{leaf, twig, loose} {
		must(t, build.Pgt(w.m, f, 1))
	}
	must(t, build.Tcap(w.m, purse))
	w.d = look(w.m)
	return w
}

// counted fails if a frame is not needed once for each mapping of it.
func (w *world) counted() {
	if needs := w.d.needs(); needs != w.d.count {
		w.t.Helper()
		w.t.Fatalf("needed %v times; there are %v", w.d.count, needs)
	}
}

// TestCounted makes many calls, of which many are refused: behind each the counts are those
// of the mappings that there are, and what was copied has no more rights than what it was
// copied from.
func TestCounted(t *testing.T) {
	done := map[string]int{}
	for begin := range 40 {
		x, w := row(begin), live(t)
		w.is(w.cons(root, high, leaf), api.OK)
		w.is(w.cons(to, other, twig), api.OK)
		w.counted()
		for range 400 {
			name, e := w.some(&x)
			if e == api.OK {
				done[name]++
			}
			w.counted()
			if x.pick(3) == 0 {
				w.breathe(&x)
			}
		}
	}
	for _, name := range []string{"map", "copy", "unmap", "cons", "decons", "untype"} {
		if done[name] < 40 {
			t.Errorf("%s: let through %d times", name, done[name])
		}
	}
}

// breathe lets cores step, enter and flush, some of them.
func (w *world) breathe(x *row) {
	w.t.Helper()
	for number := range 2 {
		w.step(number)
		if x.pick(2) > 0 {
			w.enter(number)
		}
		if x.pick(4) > 0 {
			w.flush(number)
		}
	}
}

// place is one of a few pages in the tables of a world, and now and then another one.
func place(x *row) int {
	if x.pick(12) == 0 {
		return x.pick(1100) - 40
	}
	return []int{high, other, 9}[x.pick(3)]*entries + x.pick(5)
}

func (w *world) some(x *row) (string, api.Errno) {
	w.t.Helper()
	up := []int{root, to}[x.pick(2)]
	at := []int{high, other, 9}[x.pick(3)]
	down := []int{leaf, twig, loose, loose, root, purse}[x.pick(6)]
	switch x.pick(16) {
	case 0, 1, 2:
		return "map", w.maps(up, place(x), x.pick(size+2)-1, x.pick(5))
	case 3, 4, 5, 6, 7:
		return "copy", w.copied(x)
	case 8, 9, 10:
		_, e := w.unmap(up, place(x))
		return "unmap", e
	case 11, 12:
		return "cons", w.cons(up, at, down)
	case 13:
		if x.pick(2) > 0 {
			return "none", api.OK
		}
		_, e := w.decons(up, at)
		return "decons", e
	}
	return "untype", w.renewed([]int{leaf, twig, loose, x.pick(6) + point}[x.pick(4)])
}

// copied copies something, and fails if that is not what was copied with fewer rights.
func (w *world) copied(x *row) api.Errno {
	w.t.Helper()
	from, to := []int{root, to}[x.pick(2)], []int{root, to}[x.pick(2)]
	n, k := place(x), place(x)
	r := pickOf(x, []int{both, toRead, toWrite, 0, -1, 4})
	old, _ := pgtbl.Walk(w.m.Mem(), from, n)
	want, _ := pte.Less(old, r)
	e := w.copy(from, n, to, k, r)
	if e != api.OK {
		return e
	}
	came, there := pgtbl.Walk(w.m.Mem(), to, k)
	if came != want || came.F != old.F || !pte.Allows(old, came.R) || there != api.OK {
		w.t.Fatalf("%v is not %v with %d: %d", came, old, r, there)
	}
	if still, e := pgtbl.Walk(w.m.Mem(), from, n); still != old || e != api.OK {
		w.t.Fatalf("%v is %v now: %d", old, still, e)
	}
	return e
}

// renewed untypes a frame, if that may be, and makes it a leaf, or a user's, again, once all
// cores have seen that.
func (w *world) renewed(f int) api.Errno {
	w.t.Helper()
	e := build.Untype(w.m, f)
	if w.d.is[f] != untyped && w.d.count[f] > 0 && e != api.ErrUsed {
		w.t.Fatalf("Untype(%d): %d, though it is needed", f, e)
	}
	is := api.FUser
	if f == leaf || f == twig || f == loose {
		is = api.FKernel
	}
	if w.m.Retype(f, is) == api.OK && is == api.FKernel {
		must(w.t, build.Pgt(w.m, f, 1))
	}
	w.d = look(w.m)
	return e
}

// TestManyCalls makes many calls in worlds with words of all sorts.
func TestManyCalls(t *testing.T) {
	var all [14]int
	for begin := range 60 {
		x, w := row(1000+begin), plain(t)
		for range 300 {
			if x.pick(3) == 0 {
				w.scrawl(&x)
			}
			if x.pick(3) == 0 {
				w.breathe(&x)
			}
			all[w.any(&x)]++
		}
	}
	for _, e := range []api.Errno{api.OK, api.ErrArg, api.ErrFull, api.ErrNone, api.ErrType, api.ErrPerm, api.ErrBusy, api.ErrFault, api.ErrUsed, api.ErrForm} {
		if all[e] < 20 {
			t.Errorf("%d was answered %d times", e, all[e])
		}
	}
}

// scrawl changes something, so that things are right again now and then.
func (w *world) scrawl(x *row) {
	w.t.Helper()
	f := x.pick(size)
	down := []int{leaf, twig, loose}[x.pick(3)]
	switch x.pick(9) {
	case 0:
		w.begin(f, pickOf(x, allHeads())...)
	case 1:
		w.begin([]int{root, to}[x.pick(2)], oPgt)
	case 2:
		w.begin(down, oPgt+leafBit)
	case 3:
		w.say(pickOf(x, []int{f, down, root, to}), x.pick(5), pickOf(x, noWords()))
	case 4:
		w.say([]int{root, to}[x.pick(2)], []int{high, other, 9}[x.pick(3)], on(pickOf(x, []int{leaf, twig, loose, f}), 1+x.pick(3)))
	case 5:
		w.say(down, x.pick(5), pickOf(x, []uint64{0, off(w.d.now), off(max(w.d.now-2, 0)), on(user, 1+x.pick(3)), on(spare, 3), on(f, 3), on(x.pick(64), 2)}))
	case 6:
		w.retyped(f, x.pick(3))
	case 7:
		w.retyped([]int{user, spare}[x.pick(2)], users)
	case 8:
		if w.d.is[f] != untyped {
			w.needed(f, []int{0, 1, 2, maxRefs - 1, maxRefs}[x.pick(5)])
		}
	}
}

func (w *world) any(x *row) api.Errno {
	w.t.Helper()
	up := pickOf(x, []int{root, to, root, to, x.pick(size+2) - 1})
	at := pickOf(x, []int{high, other, 9, x.pick(entries+2) - 1})
	down := pickOf(x, []int{leaf, twig, loose, x.pick(size+2) - 1})
	switch x.pick(7) {
	case 0, 1:
		return w.maps(up, place(x), pickOf(x, []int{user, spare, x.pick(maxFrames+2) - 1}), x.pick(5))
	case 2, 3:
		return w.copy(pickOf(x, []int{root, to, up}), place(x), up, place(x), x.pick(12)-4)
	case 4:
		_, e := w.unmap(up, place(x))
		return e
	case 5:
		return w.cons(up, at, down)
	}
	_, e := w.decons(up, at)
	return e
}

package build_test

import (
	"math"
	"slices"
	"testing"

	"palanquin/api"
	"palanquin/build"
	"palanquin/captbl"
	"palanquin/comp"
	"palanquin/find"
	"palanquin/head"
	"palanquin/live"
	"palanquin/machine"
	"palanquin/mem"
	"palanquin/rcv"
	"palanquin/stack"
	"palanquin/tcap"
	"palanquin/thd"
	"palanquin/typ"
)

// The frames of a plain world: one of each object, a user's, an untyped one, and from free
// on kernel's frames with nothing.
const (
	root  = 0
	leaf  = 1
	proot = 2
	pleaf = 3
	one   = 4 // a component of root and proot
	purse = 5 // a budget
	run   = 6 // a thread of one, with purse, without an endpoint
	point = 7 // an endpoint of run
	user  = 8
	none  = 9
	free  = 10
	size  = 16
)

// plain is a world in which one of each object was made, with something in all other parts,
// and behind the heads of the frames with nothing.
func plain(t *testing.T) *world {
	t.Helper()
	w := blank(t, size)
	for f := range size {
		switch f {
		case user:
			w.typed(f, users)
		case none:
		default:
			w.typed(f, kernels)
		}
		w.scribble(f)
	}
	w.stir()
	w.lead(2, free)
	w.lead(5, user)
	w.is(w.tbl(root, 0), api.OK)
	w.is(w.tbl(leaf, 1), api.OK)
	w.is(w.pgt(proot, 0), api.OK)
	w.is(w.pgt(pleaf, 1), api.OK)
	_, e := w.comp(one, root, proot)
	w.is(e, api.OK)
	w.is(w.tcap(purse), api.OK)
	w.is(w.thd(run, one, purse, 0), api.OK)
	w.is(w.rcv(point, run, 0), api.OK)
	return w
}

// anew makes frame f a kernel's with nothing, that is needed so often, but leaves what is
// behind its head.
func (w *world) anew(f int, count int) {
	w.t.Helper()
	w.retyped(f, kernels)
	w.needed(f, count)
	for at := range headWords {
		w.store(f, at, 0)
	}
	w.store(f, words-1, uint64(f))
}

func TestLimits(t *testing.T) {
	if api.MaxFrames != maxFrames || api.HeadWords != headWords || api.HeadWords+api.PageWords != words || api.MaxSlots != slots || api.MaxPages != entries {
		t.Error("frames")
	}
	if api.MaxLive != ids || api.MaxEpoch != epochs || api.MaxTime != maxTime || api.RAll != allRights || api.MaxRefs != maxRefs {
		t.Error("numbers")
	}
	if api.MaxRegs != registers || api.MaxLines != lineCount || api.MaxCount != maxCount || api.MaxDepth != maxDepth || api.MaxCores != maxCores || api.MaxBudget != maxBudget {
		t.Error("registers, lines, counts")
	}
	for _, list := range [][]int{
		{api.ONone, api.OTbl, api.OPgt, api.OComp, api.OThd, api.OTcap, api.ORcv},
		{api.CNone, api.CQuiet, api.CMem, api.CTbl, api.CPgt, api.CComp, api.CThd, api.CInv, api.CTcap, api.CRcv, api.CSnd, api.CHw},
		{api.FUntyped, api.FUser, api.FKernel}, {api.TReady, api.TRuns, api.TWaits, api.TDead},
	} {
		if !slices.Equal(list, upTo(len(list))) {
			t.Errorf("kinds: %v", list)
		}
	}
	errors := []api.Errno{api.OK, api.ErrArg, api.ErrFull, api.ErrType, api.ErrLive, api.ErrUsed, api.ErrForm, api.ErrZero}
	if !slices.Equal(errors, []api.Errno{0, 1, 2, 4, 7, 10, 12, 13}) {
		t.Error("errors")
	}
}

// TestExample is the chapter's.
func TestExample(t *testing.T) {
	m, e := machine.New(api.Config{Frames: 1, Cores: 1})
	must(t, e)
	must(t, m.Retype(0, api.FKernel))
	must(t, build.Tcap(m, 0))
	if e := build.Untype(m, 0); e != api.OK {
		t.Errorf("Untype of a frame with a budget: %d", e)
	}
}

// TestByHand makes one of each, and lets all go again; all answers are written out.
func TestByHand(t *testing.T) {
	m, e := machine.New(api.Config{Frames: 64, Cores: 1})
	must(t, e)
	for _, f := range []int{0, 11, 22, 33, 44, 55, 62, 63} {
		must(t, m.Retype(f, api.FKernel))
	}
	must(t, build.Tbl(m, 63, 0))
	must(t, build.Pgt(m, 0, 0))
	c, e := build.Comp(m, 62, 63, 0)
	if c != (api.Cap{K: 5, R: 31, T: 62}) || e != api.OK {
		t.Fatalf("Comp: %v, %d", c, e)
	}
	must(t, build.Tcap(m, 11))
	must(t, build.Thd(m, 22, 62, 11, 0))
	must(t, build.Rcv(m, 33, 22, 0))
	must(t, build.Thd(m, 44, 62, 11, 34))
	must(t, build.Rcv(m, 55, 44, 34))
	for f, want := range map[int][]uint64{
		63: {1}, 0: {2}, 62: {3, 0, 0, 0, 63, 0, 0, 0, 0, 0}, 11: {5},
		22: {4, 0, 0, 0, 0, 0, 11, 0, 1, 0, 0, 0, 0, 0, 0, 0, 0, 62 + 63*64, 0},
		33: {6, 0, 0, 0, 22, 0},
		44: {4, 0, 0, 0, 0, 0, 11, 34, 1, 0, 0, 0, 0, 0, 0, 0, 0, 62 + 63*64, 0},
		55: {6, 0, 0, 0, 44, 34},
	} {
		all, _ := m.Mem().Words(f)
		if !slices.Equal(all, append(want, make([]uint64, words-len(want))...)) {
			t.Errorf("frame %d: %v", f, all)
		}
	}
	counts := func(all ...int) {
		t.Helper()
		for i, f := range []int{0, 11, 22, 33, 44, 55, 62, 63} {
			if n := m.Typ().Count(f); n != all[i] {
				t.Errorf("frame %d is needed %d times; want %d", f, n, all[i])
			}
		}
	}
	counts(1, 2, 1, 2, 1, 0, 0, 1)
	must(t, m.Clock().Step(0))
	must(t, build.Untype(m, 55))
	counts(1, 2, 1, 1, 0, 0, 0, 1)
	must(t, thd.State(m.Mem(), 44, api.TDead))
	must(t, build.Untype(m, 44))
	counts(1, 1, 1, 0, 0, 0, 0, 1)
	must(t, build.Untype(m, 33))
	must(t, thd.State(m.Mem(), 22, api.TDead))
	must(t, build.Untype(m, 22))
	counts(1, 0, 0, 0, 0, 0, 0, 1)
	must(t, build.Kill(m, 62))
	counts(0, 0, 0, 0, 0, 0, 0, 0)
	for f, was := range map[int]int{63: 2, 0: 3, 62: 2, 11: 2} {
		if e := build.Untype(m, f); e != api.OK || m.Typ().Was(f) != was || m.Typ().Freed(f) != 1 || m.Typ().Type(f) != 0 {
			t.Errorf("Untype(%d): %d, was %d, freed at %d", f, e, m.Typ().Was(f), m.Typ().Freed(f))
		}
	}
}

// P27.1: what all that make have in common.

// maker makes something in frame f: with right arguments, and with wrong ones, which are
// told behind what is told of f.
type maker struct {
	name  string
	right func(w *world, f int) api.Errno
	wrong []func(w *world, f int) api.Errno
}

func makers() []maker {
	comp := func(tbl int, pgt int) func(w *world, f int) api.Errno {
		return func(w *world, f int) api.Errno { _, e := w.comp(f, tbl, pgt); return e }
	}
	table := func(call func(w *world, f int, level int) api.Errno, level int) func(w *world, f int) api.Errno {
		return func(w *world, f int) api.Errno { return call(w, f, level) }
	}
	thd := func(c int, tcap int, rcv int) func(w *world, f int) api.Errno {
		return func(w *world, f int) api.Errno { return w.thd(f, c, tcap, rcv) }
	}
	rcv := func(t int, parent int) func(w *world, f int) api.Errno {
		return func(w *world, f int) api.Errno { return w.rcv(f, t, parent) }
	}
	type calls = []func(w *world, f int) api.Errno
	return []maker{
		{"Tbl 0", table((*world).tbl, 0), calls{table((*world).tbl, 2)}},
		{"Tbl 1", table((*world).tbl, 1), calls{table((*world).tbl, -1)}},
		{"Pgt 0", table((*world).pgt, 0), calls{table((*world).pgt, 2)}},
		{"Pgt 1", table((*world).pgt, 1), calls{table((*world).pgt, -1)}},
		{"Comp", comp(root, proot), calls{comp(leaf, proot), comp(root, pleaf), comp(-1, size), comp(proot, root)}},
		{"Tcap", (*world).tcap, nil},
		{"Thd", thd(one, purse, point+1), calls{thd(root, purse, 0), thd(one, run, 0), thd(one, purse, run+1), thd(-1, -1, -1)}},
		{"Rcv", rcv(run, point+1), calls{rcv(purse, 0), rcv(run, run+1), rcv(-1, -1)}},
	}
}

// refused makes in frame f with right arguments and with wrong ones: all is refused for the
// same.
func (one maker) refused(w *world, f int, want api.Errno) {
	w.t.Helper()
	w.is(one.right(w, f), want)
	for _, wrong := range one.wrong {
		w.is(wrong(w, f), want)
	}
}

// TestMakeHeads makes in frames that begin with all sorts of words, of each type, needed or
// not. A world that is left with fewer ids and counts each time is left for a new one.
func TestMakeHeads(t *testing.T) {
	for _, one := range makers() {
		w := plain(t)
		for i, begin := range allHeads() {
			for _, is := range []int{untyped, users, kernels} {
				for _, count := range []int{0, 1, 2} {
					if is == untyped && count > 0 {
						continue
					}
					w.retyped(free, is)
					w.needed(free, count)
					w.lay(free, begin...)
					switch {
					case is != kernels:
						one.refused(w, free, api.ErrType)
					case count > 0 || i > 0:
						one.refused(w, free, api.ErrUsed)
					default:
						w.is(one.right(w, free), api.OK)
					}
				}
			}
		}
	}
}

// TestMakeCounts makes in frames that are needed so often.
func TestMakeCounts(t *testing.T) {
	for _, one := range makers() {
		w := plain(t)
		for _, count := range []int{1, 2, 3, 255, 256, maxRefs - 1, maxRefs} {
			w.needed(free+1, count)
			w.lay(free + 1)
			one.refused(w, free+1, api.ErrUsed)
		}
		w.needed(free+1, 0)
		w.is(one.right(w, free+1), api.OK)
	}
}

// TestMakeNowhere makes in frames that there are not, and in all those of a plain world.
func TestMakeNowhere(t *testing.T) {
	for _, one := range makers() {
		w := plain(t)
		for _, f := range noFrames(size) {
			one.refused(w, f, api.ErrType)
		}
		for f := range free {
			want := api.ErrUsed
			if f == user || f == none {
				want = api.ErrType
			}
			one.refused(w, f, want)
		}
		for f := free; f < size; f++ {
			for _, wrong := range one.wrong {
				if wrong(w, f) == api.OK {
					t.Errorf("%s of something wrong in %d", one.name, f)
				}
			}
			w.is(one.right(w, f), api.OK)
			one.refused(w, f, api.ErrUsed)
		}
	}
}

// TestMakeEverywhere makes in each frame of a machine with as many as may be, the first and
// the last one among them.
func TestMakeEverywhere(t *testing.T) {
	for f := range maxFrames {
		w := blank(t, maxFrames)
		for g := range maxFrames {
			w.typed(g, kernels)
		}
		at := func(i int) int { return (f + i) % maxFrames }
		w.is(w.tbl(at(0), 0), api.OK)
		w.is(w.pgt(at(1), 0), api.OK)
		_, e := w.comp(at(2), at(0), at(1))
		w.is(e, api.OK)
		w.is(w.tcap(at(3)), api.OK)
		w.is(w.thd(at(4), at(2), at(3), 0), api.OK)
		w.is(w.rcv(at(5), at(4), 0), api.OK)
		w.is(w.thd(at(6), at(2), at(3), at(5)+1), api.OK)
		w.is(w.rcv(at(7), at(6), at(5)+1), api.OK)
		w.is(w.tbl(at(8), 1), api.OK)
		w.is(w.pgt(at(9), 1), api.OK)
	}
}

// TestMakeWords makes in frames that begin with nothing, and have something in one word:
// behind the head it does not count, and is there no more.
func TestMakeWords(t *testing.T) {
	for _, one := range makers() {
		w := plain(t)
		for at := range words {
			for _, bit := range []int{0, 5, 17, 31, 63} {
				w.retyped(free, kernels)
				w.lay(free)
				w.store(free, at, 1<<bit)
				if at < headWords {
					one.refused(w, free, api.ErrUsed)
					continue
				}
				if e := one.right(w, free); one.name == "Comp" && e == api.ErrFull {
					w = plain(t)
				} else {
					w.is(e, api.OK)
				}
			}
		}
	}
}

// P27.1: Tbl, Pgt.

// TestLevels has all levels around those that there are, and such as look like one of them.
func TestLevels(t *testing.T) {
	w := plain(t)
	for _, level := range append(far(), 2, 3, 4, 16, 17, 32, 33) {
		w.is(w.tbl(free, level), api.ErrArg)
		w.is(w.pgt(free, level), api.ErrArg)
		w.is(w.tbl(root, level), api.ErrUsed)
		w.is(w.pgt(user, level), api.ErrType)
	}
	for level := range 2 {
		w.is(w.tbl(free+level, level), api.OK)
		w.is(w.pgt(free+2+level, level), api.OK)
		if h, e := head.Get(w.m.Mem(), free+level); h != (api.Head{K: api.OTbl, Level: level}) || e != api.OK {
			t.Errorf("Tbl of %d: %v, %d", level, h, e)
		}
		if h, e := head.Get(w.m.Mem(), free+2+level); h != (api.Head{K: api.OPgt, Level: level}) || e != api.OK {
			t.Errorf("Pgt of %d: %v, %d", level, h, e)
		}
	}
}

// TestTablesWork hangs a leaf into a root that were made, and lays something there.
func TestTablesWork(t *testing.T) {
	w := plain(t)
	must(t, captbl.Cons(w.m.Mem(), root, 15, leaf, 0))
	have := api.Cap{K: api.CTcap, R: 3, T: purse}
	must(t, captbl.Put(w.m.Mem(), root, 255, have, 0))
	if c, e := find.Cap(w.m, root, 255, api.CTcap, 1); c != have || e != api.OK {
		t.Errorf("%v, %d", c, e)
	}
}

// P27.1: Comp.

// TestCompTables has frames that begin with all sorts of words as both tables, one frame for
// both, and the two the wrong way round.
func TestCompTables(t *testing.T) {
	w := plain(t)
	a, b := free+1, free+2
	for i, up := range allHeads() {
		w.lay(a, up...)
		for j, down := range allHeads() {
			w.lay(b, down...)
			_, e := w.comp(free, a, b)
			if isRoot(i, oTbl) && isRoot(j, oPgt) {
				w.is(e, api.OK)
				w = plain(t)
				w.lay(a, up...)
				continue
			}
			w.is(e, api.ErrType)
			if i == j {
				_, e = w.comp(free, b, b)
				w.is(e, api.ErrType)
			}
		}
	}
}

// isRoot tells whether that one of all heads is that of a root.
func isRoot(i int, k int) bool {
	return i < len(heads()) && slices.Contains([]uint64{uint64(k), uint64(k + frozenBit)}, heads()[i][0])
}

// TestCompNowhere has tables that there are not, beside right ones and wrong ones.
func TestCompNowhere(t *testing.T) {
	w := plain(t)
	for _, f := range append(noFrames(size), free, free+1, user, none, one, purse, run, point, leaf, pleaf) {
		for _, g := range []int{root, proot, f, leaf, pleaf, -1} {
			_, e := w.comp(free, f, g)
			w.is(e, api.ErrType)
			_, e = w.comp(free, g, f)
			w.is(e, api.ErrType)
		}
	}
}

// TestCompRoom has tables of each type of frame, and needed up to as often as may be, both
// together: either is enough for a refusal, but for what is no table at all.
func TestCompRoom(t *testing.T) {
	for _, upIs := range []int{untyped, users, kernels} {
		for _, downIs := range []int{untyped, users, kernels} {
			w := plain(t)
			w.retyped(free+1, upIs)
			w.retyped(free+2, downIs)
			for _, up := range countsOf(upIs) {
				for _, down := range countsOf(downIs) {
					w.compRoom(up, down, upIs == kernels && downIs == kernels && up < maxRefs && down < maxRefs)
				}
			}
		}
	}
}

// countsOf are how often a frame of that type can be needed, rising.
func countsOf(is int) []int {
	if is == untyped {
		return []int{0}
	}
	return []int{0, 1, maxRefs - 1, maxRefs}
}

func (w *world) compRoom(up int, down int, there bool) {
	w.t.Helper()
	w.anew(free, 0)
	w.lay(free+1, oTbl)
	w.lay(free+2, oPgt)
	w.needed(free+1, up)
	w.needed(free+2, down)
	_, e := w.comp(free, leaf, free+2)
	w.is(e, api.ErrType)
	_, e = w.comp(free, free+1, leaf)
	w.is(e, api.ErrType)
	c, e := w.comp(free, free+1, free+2)
	if !there {
		w.is(e, api.ErrFull)
		return
	}
	w.is(e, api.OK)
	if w.m.Typ().Count(free+1) != up+1 || w.m.Typ().Count(free+2) != down+1 {
		w.t.Fatalf("%v: needed %d and %d times", c, w.m.Typ().Count(free+1), w.m.Typ().Count(free+2))
	}
	w.is(w.kill(free), api.OK)
}

// TestCompIds takes all ids, the last one too, and is refused then, behind what is told of
// the tables; of those that were killed one may be taken when all cores have entered since.
func TestCompIds(t *testing.T) {
	w := plain(t)
	w.floored(5, 5)
	for id := 1; id < ids; id++ {
		w.anew(free, 0)
		c, e := w.comp(free, root, proot)
		if c != (api.Cap{K: api.CComp, R: api.RAll, T: free, L: id}) || e != api.OK {
			t.Fatalf("id %d: %v, %d", id, c, e)
		}
	}
	full := func(want api.Errno) {
		t.Helper()
		w.anew(free, 0)
		_, e := w.comp(free, root, proot)
		w.is(e, want)
	}
	full(api.ErrFull)
	_, e := w.comp(free, leaf, proot)
	w.is(e, api.ErrType)
	_, e = w.comp(user, root, proot)
	w.is(e, api.ErrType)
	w.killed(17)
	full(api.ErrFull)
	w.tick(0, true, true)
	full(api.ErrFull)
	w.tick(1, false, true)
	full(api.ErrFull)
	w.tick(1, true, false)
	full(api.OK)
	if c := w.d.lives[17]; c != 1 {
		t.Errorf("17 lives in %d", c)
	}
	full(api.ErrFull)
}

// floored lets the cores have entered at times that differ from when they flushed.
func (w *world) floored(first int, second int) {
	w.t.Helper()
	for range first {
		w.tick(0, true, false)
	}
	for range second {
		w.tick(1, true, false)
	}
}

// TestCompFloor kills the first ids at times around the last one at which all cores had
// entered: those of before may be taken again.
func TestCompFloor(t *testing.T) {
	for late := range 2 {
		w := plain(t)
		for range 5 {
			w.born()
		}
		for id := range 5 {
			w.killed(id)
			w.tick(1-late, true, false)
			w.tick(late, id < 3, true)
		}
		w.lay(one)
		var got []int
		for range 4 {
			w.anew(free, 0)
			c, e := w.comp(free, root, proot)
			w.is(e, api.OK)
			got = append(got, c.L, c.E)
		}
		if !slices.Equal(got, []int{0, 1, 1, 1, 2, 1, 6, 0}) {
			t.Errorf("with core %d late: %v", late, got)
		}
	}
}

// TestCompEpochs takes one id in all its epochs, the last one too.
func TestCompEpochs(t *testing.T) {
	w := plain(t)
	w.killed(0)
	w.floored(1, 1)
	for epoch := 1; epoch < epochs-3; epoch++ {
		w.born()
		w.d.now = 0 // it was killed at the beginning, as far as the table knows
		w.killed(0)
	}
	w.d.now = w.m.Now()
	for _, want := range []api.Cap{{K: 5, R: 31, T: free, E: epochs - 3}, {K: 5, R: 31, T: free, E: epochs - 2}, {K: 5, R: 31, T: free, L: 1}} {
		w.anew(free, 0)
		c, e := w.comp(free, root, proot)
		if c != want || e != api.OK {
			t.Fatalf("%v, %d; want %v", c, e, want)
		}
		if in, e := find.Comp(w.m, free); in.L != want.L || in.E != want.E || e != api.OK {
			t.Fatalf("found: %v, %d", in, e)
		}
		w.is(w.thd(free+1, free, purse, 0), api.OK)
		if r, e := stack.Top(w.m.Mem(), free+1); r != (api.Frame{Comp: free, Tbl: root, Pgt: proot, L: want.L, E: want.E}) || e != api.OK {
			t.Fatalf("record: %v, %d", r, e)
		}
		w.anew(free+1, 0)
		w.is(w.kill(free), api.OK)
		w.floored(1, 1)
	}
}

// TestCompFound lays the capability that Comp answers into a table: it is found there while
// the component lives, and so is the component.
func TestCompFound(t *testing.T) {
	w := plain(t)
	must(t, captbl.Cons(w.m.Mem(), root, 3, leaf, 0))
	w.d.picture = look(w.m, &w.d)
	for i := range 4 {
		f := free + i
		c, e := w.comp(f, root, proot)
		w.is(e, api.OK)
		must(t, captbl.Put(w.m.Mem(), root, 48+i, c, 0))
		w.d.picture = look(w.m, &w.d)
		if found, e := find.Cap(w.m, root, 48+i, api.CComp, api.RAll); found != c || e != api.OK {
			t.Errorf("%v: %v, %d", c, found, e)
		}
		in, e := find.Comp(w.m, f)
		if in != (api.Comp{Tbl: root, Pgt: proot, L: c.L, E: c.E}) || e != api.OK || c.T != f {
			t.Errorf("%v: %v, %d", c, in, e)
		}
		if !find.Alive(w.m, api.Frame{L: c.L, E: c.E}) || find.Fresh(w.m, f) != api.ErrUsed {
			t.Errorf("%v: not alive, or fresh", c)
		}
	}
	w.is(w.kill(free+2), api.OK)
	for i := range 4 {
		want := api.OK
		if i == 2 {
			want = api.ErrLive
		}
		_, a := find.Cap(w.m, root, 48+i, api.CComp, 0)
		_, b := find.Comp(w.m, free+i)
		if a != want || b != want {
			t.Errorf("%d: %d, %d; want %d", i, a, b, want)
		}
	}
}

// P27.1: Tcap.

func TestTcap(t *testing.T) {
	w := plain(t)
	for f := free; f < size; f++ {
		w.is(w.tcap(f), api.OK)
		if b, e := tcap.Get(w.m.Mem(), f); b != (api.Tcap{}) || e != api.OK || tcap.Can(w.m.Mem(), f) {
			t.Errorf("%v, %d", b, e)
		}
	}
	if tcap.Sum(w.m.Mem()) != 0 {
		t.Errorf("there are %d", tcap.Sum(w.m.Mem()))
	}
}

// P27.1: Thd.

// TestThdComponents has components of all sorts of heads and words, living or not.
func TestThdComponents(t *testing.T) {
	w := plain(t)
	c := free + 1
	for i, begin := range allHeads() {
		w.anew(free, 0)
		w.lay(c, append(append([]uint64{}, begin...), make([]uint64, headWords-len(begin))...)...)
		want := api.ErrType
		if i < len(heads()) && begin[0] == oComp {
			want = api.OK
		}
		w.is(w.thd(free, c, purse, 0), want)
		w.anew(free, 0)
		if want != api.OK {
			w.is(w.thd(free, c, run, point), want)
		}
	}
	for _, f := range append(noFrames(size), free, user, none, root, purse, run, point) {
		w.is(w.thd(free, f, purse, point+1), api.ErrType)
		w.is(w.thd(free, f, -1, -1), api.ErrType)
	}
}

// TestThdForms has components whose words can't be, each word alone.
func TestThdForms(t *testing.T) {
	w := plain(t)
	w.born()
	for at, most := range []uint64{maxFrames - 1, maxFrames - 1, ids - 1, epochs - 1, maxFrames, maxTime} {
		for _, word := range []uint64{most + 1, 1 << 32, 1 << 63, math.MaxUint64} {
			w.lay(free+1, oComp, 0, 0, 0, 1, 2, 0, 0, 3, 4)
			w.store(free+1, headWords+at, word)
			w.is(w.thd(free, free+1, purse, 0), api.ErrForm)
			w.is(w.thd(free, free+1, run, point), api.ErrForm)
			w.is(w.thd(run, free+1, purse, 0), api.ErrUsed)
		}
	}
	w.lay(free+1, oComp, 0, 0, 0, 1, 2, 0, 0, 0, 4)
	w.is(w.thd(free, free+1, purse, 0), api.ErrForm)
	w.lay(free+1, oComp, 0, 0, 0, 1, 2, 2, 0, 0, 0)
	w.is(w.thd(free, free+1, purse, 0), api.ErrLive)
	w.lay(free+1, oComp, 0, 0, 0, 1, 2, 1, 1, 0, 0)
	w.is(w.thd(free, free+1, purse, 0), api.ErrLive)
	w.is(w.thd(free, free+1, run, point), api.ErrLive)
	w.lay(free+1, oComp, 0, 0, 0, 63, 61, 1, 0, 64, maxTime)
	w.is(w.thd(free, free+1, purse, 0), api.OK)
	if r, e := stack.All(w.m.Mem(), free); e != api.OK || !slices.Equal(r, []api.Frame{{Comp: free + 1, Tbl: 63, Pgt: 61, L: 1}}) {
		t.Errorf("records: %v, %d", r, e)
	}
}

// TestThdKilled has a component that lives, is killed, and another one in its place.
func TestThdKilled(t *testing.T) {
	w := plain(t)
	w.is(w.thd(free, one, purse, 0), api.OK)
	w.is(w.kill(one), api.OK)
	w.is(w.thd(free+1, one, purse, 0), api.ErrLive)
	w.is(w.thd(free+1, one, run, 0), api.ErrLive)
	w.is(w.thd(free, one, purse, 0), api.ErrUsed)
	w.is(w.untype(one), api.OK)
	w.is(w.thd(free+1, one, purse, 0), api.ErrLive)
	w.anew(one, 0)
	w.is(w.thd(free+1, one, purse, 0), api.ErrType)
	w.floored(1, 1)
	c, e := w.comp(one, root, proot)
	w.is(e, api.OK)
	w.is(w.thd(free+1, one, purse, 0), api.OK)
	if r, e := stack.Top(w.m.Mem(), free+1); r.E != c.E || c.E != 1 || e != api.OK {
		t.Errorf("%v, %d", r, e)
	}
}

// TestThdNeeds has budgets and endpoints of all sorts of words, in all pairs.
func TestThdNeeds(t *testing.T) {
	w := plain(t)
	budget, endpoint := free+1, free+2
	for i, up := range allHeads() {
		w.lay(budget, up...)
		isTcap := i < len(heads()) && up[0] == oTcap
		for j, down := range allHeads() {
			w.anew(free, 0)
			w.lay(endpoint, down...)
			want := api.ErrType
			if isTcap && j < len(heads()) && down[0] == oRcv {
				want = api.OK
			}
			w.is(w.thd(free, one, budget, endpoint+1), want)
		}
		w.anew(free, 0)
		want := api.ErrType
		if isTcap {
			want = api.OK
		}
		w.is(w.thd(free, one, budget, 0), want)
		w.anew(free, 0)
		w.is(w.thd(free, one, budget, budget+1), api.ErrType)
	}
}

// TestThdNowhere has budgets and endpoints that there are not. A budget is no number and 1.
func TestThdNowhere(t *testing.T) {
	w := plain(t)
	for _, f := range append(noFrames(size), free, user, none, root, proot, one, run, point) {
		w.is(w.thd(free, one, f, 0), api.ErrType)
		w.is(w.thd(free, one, f, point+1), api.ErrType)
		w.is(w.thd(free, one, f, f), api.ErrType)
	}
	for _, f := range append(noFrames(size+1), free+1, user+1, none+1, root+1, proot+1, one+1, run+1, purse+1) {
		w.is(w.thd(free, one, purse, f), api.ErrType)
	}
}

// TestThdRoom has budgets and endpoints of each type of frame, needed up to as often as may
// be.
func TestThdRoom(t *testing.T) {
	w := plain(t)
	w.roomOfTwo(oTcap, oRcv, func(f int, a int, b int) api.Errno { return w.thd(f, one, a, b) })
}

// TestRcvRoom has threads and parents so.
func TestRcvRoom(t *testing.T) {
	w := plain(t)
	w.roomOfTwo(oThd, oRcv, w.rcv)
}

// roomOfTwo makes with what is needed, and what may be (and 1), of each type of frame and
// each count: either is enough for a refusal.
func (w *world) roomOfTwo(k int, other int, make func(f int, a int, b int) api.Errno) {
	w.t.Helper()
	a, b := free+1, free+2
	for _, is := range []int{untyped, users, kernels} {
		for _, otherIs := range []int{untyped, users, kernels} {
			for _, count := range countsOf(is) {
				for _, otherCount := range countsOf(otherIs) {
					w.retyped(a, is)
					w.retyped(b, otherIs)
					w.needed(a, count)
					w.needed(b, otherCount)
					w.lay(a, uint64(k))
					w.lay(b, uint64(other))
					w.anew(free, 0)
					w.is(make(free, b, b+1), api.ErrType)
					w.is(make(free, a, a+1), api.ErrType)
					thereA, thereB := is == kernels && count < maxRefs, otherIs == kernels && otherCount < maxRefs
					w.is(make(free, a, b+1), full(thereA && thereB))
					w.anew(free, 0)
					want := full(w.d.room(a))
					w.is(make(free, a, 0), want)
				}
			}
		}
	}
}

// full is what is answered if there is room, or if not.
func full(there bool) api.Errno {
	if there {
		return api.OK
	}
	return api.ErrFull
}

// TestThdState has what is behind Thd: a thread that is ready, on no other core than the
// first, with one record and registers that are 0.
func TestThdState(t *testing.T) {
	w := plain(t)
	for _, rcv := range []int{0, point + 1} {
		w.anew(free, 0)
		w.scribble(free)
		w.is(w.thd(free, one, purse, rcv), api.OK)
		if is, e := thd.Get(w.m.Mem(), free); is != (api.Thd{State: api.TReady, Tcap: purse, Rcv: rcv, Depth: 1}) || e != api.OK {
			t.Errorf("thread: %v, %d", is, e)
		}
		if r, e := stack.All(w.m.Mem(), free); e != api.OK || !slices.Equal(r, []api.Frame{{Comp: one, Tbl: root, Pgt: proot}}) {
			t.Errorf("records: %v, %d", r, e)
		}
		for i := range registers {
			if word, e := w.m.Mem().Load(free, headWords+5+i); word != 0 || e != api.OK {
				t.Errorf("register %d: %d, %d", i, word, e)
			}
		}
		if w.m.Cur(0) == free || w.m.Cur(1) == free {
			t.Error("it runs")
		}
	}
}

// P27.1: Rcv.

// TestRcvNeeds has threads and parents of all sorts of words, in all pairs.
func TestRcvNeeds(t *testing.T) {
	w := plain(t)
	thread, parent := free+1, free+2
	for i, up := range allHeads() {
		w.lay(thread, up...)
		isThd := i < len(heads()) && up[0] == oThd
		for j, down := range allHeads() {
			w.anew(free, 0)
			w.lay(parent, down...)
			want := api.ErrType
			if isThd && j < len(heads()) && down[0] == oRcv {
				want = api.OK
			}
			w.is(w.rcv(free, thread, parent+1), want)
		}
		w.anew(free, 0)
		want := api.ErrType
		if isThd {
			want = api.OK
		}
		w.is(w.rcv(free, thread, 0), want)
		w.anew(free, 0)
		w.is(w.rcv(free, thread, thread+1), api.ErrType)
	}
}

// TestRcvNowhere has threads and parents that there are not.
func TestRcvNowhere(t *testing.T) {
	w := plain(t)
	for _, f := range append(noFrames(size), free, user, none, root, proot, one, purse, point) {
		w.is(w.rcv(free, f, 0), api.ErrType)
		w.is(w.rcv(free, f, point+1), api.ErrType)
		w.is(w.rcv(free, f, f), api.ErrType)
	}
	for _, f := range append(noFrames(size+1), free+1, user+1, none+1, root+1, proot+1, one+1, purse+1, run+1) {
		w.is(w.rcv(free, run, f), api.ErrType)
	}
}

// TestRcvState has what is behind Rcv: an endpoint that nobody sent to, without events.
func TestRcvState(t *testing.T) {
	w := plain(t)
	for _, state := range []int{ready, runs, waits, dead} {
		for _, parent := range []int{0, point + 1} {
			w.store(run, headWords, uint64(state))
			w.anew(free, 0)
			w.scribble(free)
			w.is(w.rcv(free, run, parent), api.OK)
			if r, e := rcv.Get(w.m.Mem(), free); r != (api.Rcv{Thd: run, Parent: parent}) || e != api.OK {
				t.Errorf("endpoint: %v, %d", r, e)
			}
			if rcv.Tell(w.m.Mem(), free, api.Event{K: api.VLine, T: 3}) != api.OK {
				t.Error("Tell")
			}
			w.d.words[free][13], w.d.words[free][14] = 1, 6+3*16
			w.held("Tell", api.OK, api.OK)
		}
	}
}

// TestCountsEnd makes up to as often as a frame may be needed, is refused, and makes again
// when one is less.
func TestCountsEnd(t *testing.T) {
	w := plain(t)
	w.needed(purse, maxRefs-1)
	w.is(w.thd(free, one, purse, 0), api.OK)
	w.is(w.thd(free+1, one, purse, 0), api.ErrFull)
	w.is(w.thd(free+1, one, purse, point+1), api.ErrFull)
	w.store(free, headWords, dead)
	w.is(w.untype(free), api.OK)
	w.is(w.thd(free+1, one, purse, point+1), api.OK)
	w.needed(point, maxRefs)
	w.is(w.rcv(free+2, run, point+1), api.ErrFull)
	w.is(w.rcv(free+2, run, 0), api.OK)
	w.needed(root, maxRefs)
	_, e := w.comp(free+3, root, proot)
	w.is(e, api.ErrFull)
	w.is(w.kill(one), api.OK)
	_, e = w.comp(free+3, root, proot)
	w.is(e, api.OK)
	_, e = w.comp(free+4, root, proot)
	w.is(e, api.ErrFull)
}

// P27.2: Kill.

// TestKill kills components whose tables are needed so often, at some times.
func TestKill(t *testing.T) {
	for _, up := range []int{1, 2, 3, maxRefs} {
		for _, down := range []int{1, 2, maxRefs} {
			w := plain(t)
			w.needed(root, up)
			w.needed(proot, down)
			w.tick(0, false, false)
			w.is(w.kill(one), api.OK)
			w.is(w.kill(one), api.ErrLive)
			if w.m.Typ().Count(root) != up-1 || w.m.Typ().Count(proot) != down-1 || w.m.Live().Count() != 0 {
				t.Errorf("of %d and %d: %d and %d", up, down, w.m.Typ().Count(root), w.m.Typ().Count(proot))
			}
			if freed := w.m.Typ().Freed(root); (freed == w.m.Now()) != (up == 1) {
				t.Errorf("of %d: freed at %d", up, freed)
			}
			if freed := w.m.Typ().Freed(proot); (freed == w.m.Now()) != (down == 1) {
				t.Errorf("of %d: freed at %d", down, freed)
			}
		}
	}
}

// TestKillOthers kills one of several, which share their tables or do not.
func TestKillOthers(t *testing.T) {
	w := plain(t)
	w.is(w.tbl(free, 0), api.OK)
	for i := range 3 {
		_, e := w.comp(free+1+i, []int{root, free, free}[i], proot)
		w.is(e, api.OK)
	}
	for _, f := range []int{free + 2, one, free + 3, free + 1} {
		w.tick(1, false, false)
		w.is(w.kill(f), api.OK)
		w.is(w.kill(f), api.ErrLive)
	}
	if w.m.Live().Count() != 0 || w.m.Typ().Count(root)+w.m.Typ().Count(proot)+w.m.Typ().Count(free) != 0 {
		t.Error("something lives")
	}
}

// TestKillNone has frames that are no component, and such as there are not.
func TestKillNone(t *testing.T) {
	w := plain(t)
	for _, f := range append(noFrames(size), root, leaf, proot, pleaf, purse, run, point, user, none, free) {
		w.is(w.kill(f), api.ErrType)
	}
	for i, begin := range allHeads() {
		w.lay(free, append(append([]uint64{}, begin...), make([]uint64, headWords-len(begin))...)...)
		if i < len(heads()) && begin[0] == oComp {
			continue
		}
		w.is(w.kill(free), api.ErrType)
	}
	for at, most := range []uint64{maxFrames - 1, maxFrames - 1, ids - 1, epochs - 1, maxFrames, maxTime} {
		w.lay(free, oComp, 0, 0, 0, root, proot, 0, 0, 3, 4)
		w.store(free, headWords+at, most+1)
		w.is(w.kill(free), api.ErrForm)
	}
	w.lay(free, oComp, 0, 0, 0, root, proot, 0, 1)
	w.is(w.kill(free), api.ErrLive)
	w.lay(free, oComp, 0, 0, 0, root, proot, 1, 0)
	w.is(w.kill(free), api.ErrLive)
}

// TestKillStrange kills components that no call made: tables that nobody is known to need,
// that there are not, or one for both.
func TestKillStrange(t *testing.T) {
	for _, tables := range [][2]int{{root, proot}, {free, free}, {proot, root}, {user, user}, {none, free}, {63, 20}, {one, one}, {free + 1, free + 1}, {free + 1, 63}} {
		for count := range 4 {
			w := plain(t)
			for _, f := range tables {
				if f < size && f != none {
					w.needed(f, count)
				}
			}
			id, epoch := w.born()
			w.lay(free+1, oComp, 0, 0, 0, uint64(tables[0]), uint64(tables[1]), uint64(id), uint64(epoch), 5, 6)
			w.tick(0, false, false)
			w.is(w.kill(free+1), api.OK)
			w.is(w.kill(free+1), api.ErrLive)
		}
	}
}

// TestKillTypes kills components in frames of each type, needed or not: what counts is what
// is there.
func TestKillTypes(t *testing.T) {
	for _, is := range []int{untyped, users, kernels} {
		for _, count := range countsOf(is) {
			w := plain(t)
			w.retyped(one, is)
			w.needed(one, count)
			w.is(w.kill(one), api.OK)
		}
	}
}

// P27.2: Untype.

// TestUntypeTypes lets frames of each type go, with all sorts of heads, needed or not.
func TestUntypeTypes(t *testing.T) {
	w := plain(t)
	for _, begin := range allHeads() {
		for _, is := range []int{untyped, users, kernels} {
			for _, count := range []int{0, 1, 2, maxRefs} {
				w.retyped(free, is)
				w.lay(free, append(append([]uint64{}, begin...), make([]uint64, headWords-len(begin))...)...)
				want := api.ErrUsed
				switch {
				case is == untyped:
					want = api.ErrType
				case count > 0:
					w.needed(free, count)
				case is == users || slices.Contains([]uint64{oNone, oTcap, oPgt, oPgt + leafBit}, begin[0]) && len(begin) == 1:
					want = api.OK
				default: // tables frozen or not, and objects, are told of below
					want = w.untype(free)
					continue
				}
				w.tick(1, false, false)
				w.is(w.untype(free), want)
			}
		}
	}
}

// TestUntypeNowhere has frames that there are not.
func TestUntypeNowhere(t *testing.T) {
	w := plain(t)
	for _, f := range noFrames(size) {
		w.is(w.untype(f), api.ErrArg)
	}
	for _, f := range []int{root, proot, one, purse, run} {
		w.is(w.untype(f), api.ErrUsed)
	}
	w.is(w.untype(none), api.ErrType)
	for _, f := range []int{point, user, leaf, pleaf, free} {
		w.is(w.untype(f), api.OK)
		w.is(w.untype(f), api.ErrType)
	}
}

// TestUntypeNoHead has kernel's frames whose words are no head.
func TestUntypeNoHead(t *testing.T) {
	w := plain(t)
	for _, begin := range noHeads() {
		w.lay(free, begin...)
		w.is(w.untype(free), api.ErrUsed)
	}
	for at := range words {
		for bit := range 64 {
			w.anew(free, 0)
			w.lay(free)
			w.store(free, at, 1<<bit)
			e := w.untype(free)
			if at >= headWords {
				w.is(e, api.OK)
			}
			if at > 0 && at < headWords {
				w.is(e, api.ErrUsed)
			}
		}
	}
}

// ofSlots are words of a slot: some are no capability, some are one that is none, or was one.
func ofSlots() [][2]uint64 {
	return [][2]uint64{
		{0, 0}, {1, 0}, {1, 9}, {1, maxTime}, {1, maxTime + 1}, {0, 1}, {0, 1 << 63}, {16, 0}, {17, 0}, {1 + 1<<9, 3}, {2, 1}, {2, 0},
		{2 + 16*31, 64}, {3, 0}, {4, 0}, {5, 0}, {6, 0}, {7, 0}, {8, 0}, {9, 0}, {10, 0}, {11, 0}, {11 + 1<<9, 0}, {12, 0}, {15, 0},
		{3, 1}, {1 << 37, 0}, {1 << 63, 0}, {math.MaxUint64, math.MaxUint64}, {3 + 1<<15, 0}, {5 + 1<<21, 0}, {7 + 1<<21, 5},
	}
}

// TestUntypeTables has tables of each level, frozen or not, with something in each slot
// alone, the first and the last one among them.
func TestUntypeTables(t *testing.T) {
	for _, begin := range [][]uint64{{oTbl}, {oTbl + leafBit}, {oTbl + frozenBit, 9}, {oTbl + leafBit + frozenBit, maxTime}, {oTbl + frozenBit}} {
		w := plain(t)
		for at := range slots {
			for _, have := range ofSlots() {
				w.retyped(free, kernels)
				w.lay(free, begin...)
				w.store(free, headWords+2*at, have[0])
				w.store(free, headWords+2*at+1, have[1])
				had := have[0] == 0 && have[1] == 0 || have[0] == 1 && have[1] <= maxTime
				want := api.ErrUsed
				if had {
					want = api.OK
				}
				w.is(w.untype(free), want)
			}
		}
	}
}

// TestUntypeQuiet has a table in all whose slots there was something, and one whose slots are
// all full.
func TestUntypeQuiet(t *testing.T) {
	w := plain(t)
	for at := range slots {
		w.store(leaf, headWords+2*at, 1)
		w.store(leaf, headWords+2*at+1, uint64(at+1))
		w.store(free, headWords+2*at, 3+16*31)
		w.store(free, headWords+2*at+1, 0)
	}
	w.store(free, 0, oTbl)
	w.is(w.untype(free), api.ErrUsed)
	w.is(w.untype(leaf), api.OK)
}

// ofEntries are words of an entry of a table of mappings: some are no mapping, some are one
// that is none, or was one.
func ofEntries() []uint64 {
	return []uint64{
		0, 1 << 9, 9 << 9, maxTime << 9, (maxTime + 1) << 9, 1, 1 + 1<<7, 1 + 2<<7, 1 + 63<<1 + 3<<7, 135, 135 + 1<<9, 2, 1 << 7, 1<<7 + 5<<9,
		1 << 40, 1 << 63, math.MaxUint64, 1<<39 + 1<<7 + 1,
	}
}

// TestUntypePages has tables of mappings likewise. Both levels are of mappings behind it.
func TestUntypePages(t *testing.T) {
	for _, begin := range []uint64{oPgt, oPgt + leafBit} {
		w := plain(t)
		for at := range entries {
			for _, have := range ofEntries() {
				w.retyped(free, kernels)
				w.lay(free, begin)
				w.store(free, headWords+at, have)
				want := api.ErrUsed
				if have%512 == 0 && have/512 <= maxTime {
					want = api.OK
				}
				w.is(w.untype(free), want)
				if want == api.OK && w.m.Typ().Was(free) != 3 {
					t.Fatalf("it was %d", w.m.Typ().Was(free))
				}
			}
		}
	}
}

// TestUntypeWas has what frames were: a user's with words like those of mappings is a
// user's, and a kernel's without mappings is a kernel's.
func TestUntypeWas(t *testing.T) {
	w := plain(t)
	for k := range uint64(oRcv + 1) {
		w.retyped(free, users)
		w.lay(free, k)
		w.is(w.untype(free), api.OK)
		if w.m.Typ().Was(free) != api.FUser {
			t.Errorf("a user's with %d was %d", k, w.m.Typ().Was(free))
		}
	}
	for _, k := range []uint64{oNone, oTbl, oPgt, oTcap} {
		w.retyped(free, kernels)
		w.lay(free, k)
		w.is(w.untype(free), api.OK)
		if is3 := w.m.Typ().Was(free) == 3; is3 != (k == oPgt) {
			t.Errorf("a kernel's with %d was %d", k, w.m.Typ().Was(free))
		}
	}
}

// TestUntypeTime lets a frame go at times behind and ahead of when it was freed.
func TestUntypeTime(t *testing.T) {
	w := plain(t)
	w.tick(0, false, false)
	w.is(w.untype(free), api.OK)
	if w.m.Typ().Freed(free) != 5 {
		t.Errorf("freed at %d", w.m.Typ().Freed(free))
	}
	w.needed(free+1, 1)
	must(t, w.m.Typ().Unref(free+1, 99))
	w.d.count[free+1], w.d.freed[free+1] = 0, 99
	w.is(w.untype(free+1), api.OK)
	if w.m.Typ().Freed(free+1) != 99 {
		t.Errorf("freed at %d", w.m.Typ().Freed(free+1))
	}
}

// TestUntypeComponents has components that live, in this epoch or another one, or do not,
// and words that are none.
func TestUntypeComponents(t *testing.T) {
	w := plain(t)
	w.born()
	w.killed(1)
	w.is(w.untype(one), api.ErrUsed)
	for _, l := range []int{0, 1, 2, 63} {
		for _, e := range []int{0, 1, 2, epochs - 1} {
			w.retyped(free, kernels)
			w.lay(free, oComp, 0, 0, 0, root, proot, uint64(l), uint64(e))
			want := api.OK
			if l == 0 && e == 0 {
				want = api.ErrUsed
			}
			w.is(w.untype(free), want)
		}
	}
	w.retyped(free, kernels)
	for at, most := range []uint64{maxFrames - 1, maxFrames - 1, ids - 1, epochs - 1, maxFrames, maxTime} {
		for _, word := range []uint64{most + 1, 1 << 63} {
			w.lay(free, oComp, 0, 0, 0, root, proot, 1, 0, 3, 4)
			w.store(free, headWords+at, word)
			w.is(w.untype(free), api.ErrUsed)
		}
	}
	w.lay(free, oComp, 0, 0, 0, root, proot, 1, 0, 0, 4)
	w.is(w.untype(free), api.ErrUsed)
	w.is(w.kill(one), api.OK)
	w.is(w.untype(one), api.OK)
	if w.m.Typ().Count(root) != 0 || w.m.Typ().Count(proot) != 0 {
		t.Error("its tables are needed")
	}
}

// TestUntypeThreads has threads of each state, with an endpoint or without, whose budget and
// endpoint are needed so often, by all the ways that there are.
func TestUntypeThreads(t *testing.T) {
	for state := ready; state <= dead; state++ {
		for _, endpoint := range []int{0, point + 1} {
			for _, count := range []int{1, 2, 3} {
				w := plain(t)
				w.is(w.thd(free, one, purse, endpoint), api.OK)
				w.needed(purse, count)
				w.needed(point, min(endpoint, 1)*count)
				w.store(free, headWords, uint64(state))
				w.tick(0, false, false)
				want := api.ErrUsed
				if state == dead {
					want = api.OK
				}
				w.is(w.untype(free), want)
				if state == dead && w.m.Typ().Count(purse) != count-1 {
					t.Errorf("of %d: %d", count, w.m.Typ().Count(purse))
				}
				w.needed(run, 0)
				w.store(run, headWords, uint64(state))
				w.is(w.untype(run), want)
			}
		}
	}
}

// TestUntypeNoThreads has words that are no thread, dead or not, each alone.
func TestUntypeNoThreads(t *testing.T) {
	w := plain(t)
	for _, state := range []uint64{ready, dead} {
		for at, most := range []uint64{dead, maxCores - 1, maxFrames - 1, maxFrames, maxDepth} {
			for _, word := range []uint64{most + 1, 1 << 32, 1 << 63, math.MaxUint64} {
				w.lay(free, oThd, 0, 0, 0, state, 0, purse, point+1, 1)
				w.store(free, headWords+at, word)
				w.is(w.untype(free), api.ErrUsed)
			}
			w.lay(free, oThd, 0, 0, 0, dead, 0, purse, point+1, 1)
			w.store(free, headWords+at, most)
			w.is(w.untype(free), api.OK)
			w.retyped(free, kernels)
		}
	}
}

// TestUntypeStrange has dead threads, and endpoints, that no call made: what they need is
// needed by nobody, is not there, or is one frame for both.
func TestUntypeStrange(t *testing.T) {
	for _, need := range [][2]uint64{{purse, point + 1}, {free, free + 1}, {63, 64}, {63, 0}, {user, user + 1}, {none, none + 1}, {free + 1, free + 2}, {purse, purse + 1}, {root, one + 1}} {
		for count := range 3 {
			for k := range 2 {
				w := plain(t)
				for _, f := range []int{purse, point, user, free + 1} {
					w.needed(f, count)
				}
				w.lay(free, [][]uint64{{oThd, 0, 0, 0, dead, 0, need[0], need[1]}, {oRcv, 0, 0, 0, need[0], need[1]}}[k]...)
				w.unlead(2)
				w.tick(1, false, false)
				w.is(w.untype(free), api.OK)
			}
		}
	}
}

// TestUntypeRunning lets a dead thread go that is still told of as that of a core: who runs
// is not asked.
func TestUntypeRunning(t *testing.T) {
	w := plain(t)
	w.is(w.thd(free, one, purse, point+1), api.OK)
	must(t, w.m.SetCur(1, free))
	w.d.core[1].cur = free
	w.store(free, headWords, runs)
	w.is(w.untype(free), api.ErrUsed)
	w.store(free, headWords, dead)
	w.is(w.untype(free), api.OK)
}

// TestUntypeEndpoints has endpoints that wait or not, to which no, one, or some lines lead,
// with a parent and without, with sends and events or not.
func TestUntypeEndpoints(t *testing.T) {
	for _, wait := range []uint64{0, 1} {
		for _, leading := range [][]int{nil, {0}, {7}, {3, 4, 6}} {
			for _, parent := range []int{0, point + 1} {
				for _, count := range []int{1, 2} {
					w := plain(t)
					f := free + 1
					w.is(w.rcv(f, run, parent), api.OK)
					w.needed(run, count)
					w.needed(point, min(parent, 1)*count)
					w.store(f, headWords+2, maxCount)
					w.store(f, headWords+3, wait)
					w.store(f, headWords+9, 8)
					w.tick(0, false, false)
					w.endpointGoes(f, leading, wait == 1)
				}
			}
		}
	}
}

// endpointGoes lets lines lead to the endpoint in frame f, and takes them away one by one:
// it goes when none is left, if it does not wait.
func (w *world) endpointGoes(f int, leading []int, waits bool) {
	w.t.Helper()
	for _, line := range leading {
		w.lead(line, f)
	}
	for _, line := range leading {
		w.is(w.untype(f), api.ErrUsed)
		w.unlead(line)
	}
	if waits {
		w.is(w.untype(f), api.ErrUsed)
		w.store(f, headWords+3, 0)
	}
	w.is(w.untype(f), api.OK)
}

// TestUntypeNoEndpoints has words that are no endpoint, each alone. Its ring is not looked
// at.
func TestUntypeNoEndpoints(t *testing.T) {
	w := plain(t)
	f := free + 1
	for at, most := range []uint64{maxFrames - 1, maxFrames, maxCount, 1, maxCount, 0, 0, 0} {
		for _, word := range []uint64{most + 1, 1 << 32, 1 << 63, math.MaxUint64} {
			w.lay(f, oRcv, 0, 0, 0, run, point+1)
			w.store(f, headWords+at, word)
			w.is(w.untype(f), api.ErrUsed)
		}
	}
	for at := 8; at < words-headWords; at++ {
		w.retyped(f, kernels)
		w.lay(f, oRcv, 0, 0, 0, run, point+1)
		w.store(f, headWords+at, math.MaxUint64)
		w.is(w.untype(f), api.OK)
	}
}

// TestUntypeLines has lines that lead to frames with other things: they count for endpoints
// alone.
func TestUntypeLines(t *testing.T) {
	w := plain(t)
	for _, f := range []int{purse, leaf, pleaf, run} {
		w.needed(f, 0)
	}
	for line, f := range map[int]int{0: purse, 1: leaf, 3: pleaf, 4: run, 6: point} {
		w.lead(line, f)
	}
	w.store(run, headWords, dead)
	for _, f := range []int{purse, leaf, pleaf, run, user, free} {
		w.is(w.untype(f), api.OK)
	}
	w.is(w.untype(point), api.ErrUsed)
}

// TestUntypeBudgets has budgets of each kind, and words that are none: nothing of them is
// asked, so that something left keeps none.
func TestUntypeBudgets(t *testing.T) {
	w := plain(t)
	for _, have := range []api.Tcap{{}, {Inf: true}, {Left: maxBudget, Prio: maxCount}, {Left: 1}} {
		w.retyped(free, kernels)
		inf := uint64(0)
		if have.Inf {
			inf = 1
		}
		w.lay(free, oTcap, 0, 0, 0, inf, uint64(have.Left), uint64(have.Prio))
		w.is(w.untype(free), api.OK)
	}
	for at := headWords; at < words; at++ {
		w.retyped(free, kernels)
		w.lay(free, oTcap)
		w.store(free, at, math.MaxUint64)
		w.is(w.untype(free), api.OK)
	}
}

// TestUntypeUsers has user's frames with words like those of objects: nothing of them is
// looked at, and nothing is given back.
func TestUntypeUsers(t *testing.T) {
	w := plain(t)
	w.needed(purse, 3)
	w.needed(run, 3)
	for _, all := range [][]uint64{
		{oThd, 0, 0, 0, dead, 0, purse, run + 1}, {oThd, 0, 0, 0, ready, 0, purse, run + 1}, {oRcv, 0, 0, 0, purse, run + 1},
		{oRcv, 0, 0, 0, purse, run + 1, 0, 1}, {oComp, 0, 0, 0, root, proot}, {oTbl, 0, 0, 0, 3}, {oPgt, 0, 0, 0, 135}, {9},
	} {
		w.retyped(user, users)
		w.lay(user, all...)
		w.is(w.untype(user), api.OK)
	}
	if w.m.Typ().Count(purse) != 3 || w.m.Typ().Count(run) != 3 || w.m.Typ().Count(root) != 1 {
		t.Error("something was given back")
	}
}

// TestUntypeAll lets all of a plain world go, each when nothing needs it any more, and makes
// all of it again when all cores have seen that.
func TestUntypeAll(t *testing.T) {
	w := plain(t)
	for range 3 {
		w.store(run, headWords, dead)
		for _, f := range []int{point, run, purse, leaf, pleaf} {
			w.is(w.untype(f), api.OK)
		}
		w.is(w.kill(one), api.OK)
		for _, f := range []int{one, root, proot} {
			w.is(w.untype(f), api.OK)
		}
		w.tick(0, true, true)
		w.tick(1, true, true)
		for f := root; f <= point; f++ {
			must(t, w.m.Retype(f, api.FKernel))
			w.d.is[f], w.d.words[f] = kernels, frame{}
		}
		w.is(w.tbl(root, 0), api.OK)
		w.is(w.tbl(leaf, 1), api.OK)
		w.is(w.pgt(proot, 0), api.OK)
		w.is(w.pgt(pleaf, 1), api.OK)
		_, e := w.comp(one, root, proot)
		w.is(e, api.OK)
		w.is(w.tcap(purse), api.OK)
		w.is(w.thd(run, one, purse, 0), api.OK)
		w.is(w.rcv(point, run, 0), api.OK)
	}
}

// P26.3: a nil machine, and one that no call made.

// TestUnmade makes all calls on a machine that is none, with right arguments and wrong ones.
func TestUnmade(t *testing.T) {
	var zero machine.Machine
	numbers := append(far(), 0, 1, 2, 3, 4, 5, 7, 31, 63, 64, 255, 256)
	for _, m := range []*machine.Machine{nil, new(machine.Machine), {}, &zero} {
		for _, a := range numbers {
			for _, b := range numbers {
				unmade(t, m, a, b)
			}
		}
	}
	if zero.Cores() != 0 {
		t.Error("a machine that no call made was made")
	}
}

func unmade(t *testing.T, m *machine.Machine, a int, b int) {
	t.Helper()
	c, e := build.Comp(m, a, b, 0)
	d, g := build.Comp(m, 0, a, b)
	if c != (api.Cap{}) || d != (api.Cap{}) || e != api.ErrZero || g != api.ErrZero {
		t.Fatalf("Comp of %d, %d: %v, %d, %v, %d", a, b, c, e, d, g)
	}
	for i, e := range []api.Errno{
		build.Tbl(m, a, b), build.Pgt(m, a, b), build.Thd(m, a, b, 0, 0), build.Thd(m, 0, 0, a, b), build.Tcap(m, a),
		build.Rcv(m, a, b, 0), build.Rcv(m, 0, a, b), build.Kill(m, a), build.Untype(m, a),
	} {
		if e != api.ErrZero {
			t.Fatalf("call %d of %d, %d: %d", i, a, b, e)
		}
	}
}

// TestTakenAway has machines whose parts were made unmade by others: nothing panics, and
// what the layers below answer then is answered.
func TestTakenAway(t *testing.T) {
	told := func(m *machine.Machine, want ...api.Errno) {
		t.Helper()
		c, e := build.Comp(m, free, root, proot)
		got := []api.Errno{
			e, build.Thd(m, free+1, one, purse, 0), build.Rcv(m, free+2, run, point+1), build.Tcap(m, free+3),
			build.Tbl(m, free+4, 1), build.Kill(m, one), build.Untype(m, one), build.Untype(m, user),
		}
		if !slices.Equal(got, want) || e != api.OK && c != (api.Cap{}) {
			t.Errorf("%v, %v; want %v", c, got, want)
		}
	}
	told(plain(t).m, 0, 0, 0, 0, 0, 0, 0, 0)
	w := plain(t)
	*w.m.Live() = live.Table{}
	told(w.m, 13, 7, 0, 0, 0, 7, 0, 0)
	w = plain(t)
	*w.m.Mem() = mem.Mem{}
	told(w.m, 10, 10, 10, 10, 10, 4, 10, 0)
	w = plain(t)
	*w.m.Typ() = typ.Table{}
	told(w.m, 4, 4, 4, 4, 4, 0, 13, 13)
	if m, e := mem.New(1); e == api.OK {
		w = plain(t)
		*w.m.Mem() = *m
		told(w.m, 10, 10, 10, 10, 10, 4, 10, 0)
	}
}

// P27.3.

// TestFound makes one of each, and finds it by what the layers below tell of it.
func TestFound(t *testing.T) {
	for _, one := range makers() {
		w := plain(t)
		for f := free; f < size; f++ {
			if find.Fresh(w.m, f) != api.OK {
				t.Fatalf("%s: %d is not fresh", one.name, f)
			}
			w.is(one.right(w, f), api.OK)
			if find.Fresh(w.m, f) != api.ErrUsed {
				t.Fatalf("%s: %d is fresh", one.name, f)
			}
			k := map[string]int{"Tbl 0": 1, "Tbl 1": 1, "Pgt 0": 2, "Pgt 1": 2, "Comp": 3, "Thd": 4, "Tcap": 5, "Rcv": 6}[one.name]
			if e := head.Is(w.m.Mem(), f, k); e != api.OK {
				t.Fatalf("%s: %d", one.name, e)
			}
			_, a := comp.Get(w.m.Mem(), f)
			_, b := find.Comp(w.m, f)
			if a != b || (a == api.OK) != (k == api.OComp) {
				t.Fatalf("%s: %d, %d", one.name, a, b)
			}
		}
	}
}

// All calls together.

// TestManyCalls mixes all calls, wrong ones among them, with changes of what they look at.
func TestManyCalls(t *testing.T) {
	counts := map[api.Errno]int{}
	made := 0
	for seed, frames := range []int{3, 12, 16, 24, 64} {
		x := row(27 + seed)
		w := blank(t, frames)
		w.stir()
		for range 5000 {
			w.change(&x)
			e := w.call(&x)
			counts[e]++
			if e == api.OK {
				made++
			}
		}
	}
	for _, e := range []api.Errno{api.OK, api.ErrArg, api.ErrFull, api.ErrType, api.ErrLive, api.ErrUsed, api.ErrForm} {
		if counts[e] < 20 {
			t.Errorf("%d was told %d times", e, counts[e])
		}
	}
	if made < 2000 {
		t.Errorf("%d calls did something", made)
	}
}

// change changes something that the calls look at, once in a while.
func (w *world) change(x *row) {
	w.t.Helper()
	f, begin := x.pick(w.d.frames), allHeads()
	switch x.pick(40) {
	case 0:
		w.lay(f, begin[x.pick(len(begin))]...)
	case 1:
		w.store(f, x.pick(words), uint64(x.pick(70)))
	case 2:
		if f := w.some(x, oComp); w.d.has(f) {
			w.store(f, headWords+x.pick(6), uint64(x.pick(70)))
		}
	case 3:
		w.needs(f, []int{0, 0, 1, maxRefs - 1, maxRefs}[x.pick(5)])
	case 4, 5, 6:
		w.tick(x.pick(2), x.pick(2) == 0, x.pick(2) == 0)
	case 7, 8, 9:
		if f := w.some(x, oThd); w.d.has(f) {
			w.store(f, headWords, uint64(x.pick(4)))
		}
	case 10:
		w.rewire(x.pick(lineCount), f)
	case 11:
		if id := x.pick(ids); w.d.lives[id] != gone {
			w.killed(id)
		}
	case 12:
		if x.pick(8) == 0 {
			w.born()
		}
	case 13, 14, 15:
		w.mend(f)
	default:
		if w.d.is[f] == untyped {
			w.typed(f, 1+min(1, x.pick(8)))
			w.lay(f)
		}
	}
}

// mend lets frame f be one that can go, if it is such that no call lets it go.
func (w *world) mend(f int) {
	w.t.Helper()
	if h, right := w.d.top(f); !right || w.d.is[f] == kernels && w.d.count[f] == 0 && w.d.stays(f, h.k) {
		w.lay(f)
	}
	if w.d.count[f] > 4 {
		w.needed(f, 0)
	}
}

// needs lets frame f be needed so often, if it can be.
func (w *world) needs(f int, count int) {
	if w.d.is[f] != untyped {
		w.t.Helper()
		w.needed(f, count)
	}
}

// rewire lets a line lead to frame f, or nowhere, if it led somewhere.
func (w *world) rewire(line int, f int) {
	w.t.Helper()
	if w.d.leads[line] == nowhere {
		w.lead(line, f)
	} else {
		w.unlead(line)
	}
}

// some is a frame with an object of that kind, if the look for one comes upon one.
func (w *world) some(x *row, k int) int {
	f := x.pick(w.d.frames+2) - 1
	for range 30 {
		if h, right := w.d.top(f); right && h.k == k && x.pick(8) > 0 {
			break
		}
		f = x.pick(w.d.frames+2) - 1
	}
	return f
}

// call makes one of the calls, with arguments that may be right.
func (w *world) call(x *row) api.Errno {
	w.t.Helper()
	f := w.some(x, oNone)
	maybe := func(k int) int {
		if x.pick(2) == 0 {
			return 0
		}
		return w.some(x, k) + 1
	}
	switch x.pick(12) {
	case 0:
		return w.tbl(f, x.pick(4)-1)
	case 1:
		return w.pgt(f, x.pick(4)-1)
	case 2, 3:
		_, e := w.comp(f, w.some(x, oTbl), w.some(x, oPgt))
		return e
	case 4, 5:
		return w.thd(f, w.some(x, oComp), w.some(x, oTcap), maybe(oRcv))
	case 6:
		return w.tcap(f)
	case 7:
		return w.rcv(f, w.some(x, oThd), maybe(oRcv))
	case 8:
		return w.kill(w.some(x, oComp))
	}
	return w.untype(w.some(x, x.pick(oRcv+1)))
}

// TestSame makes the same calls on two machines: what they answer hangs on nothing else.
func TestSame(t *testing.T) {
	x, y := row(9), row(9)
	a, b := blank(t, 20), blank(t, 20)
	for range 2000 {
		a.change(&x)
		b.change(&y)
		if e, g := a.call(&x), b.call(&y); e != g || a.d.picture != b.d.picture {
			t.Fatalf("%d and %d", e, g)
		}
	}
}

package typ_test

import (
	"math"
	"testing"

	"palanquin/api"
	"palanquin/typ"
)

// kernelPages is what a kernel's frame with mappings was.
const kernelPages = 3

// state is what a frame is held against.
type state struct{ kind, count, freed, was int }

// model is what a table is held against, by frame.
type model []state

func freshModel(frames int) model {
	want := make(model, frames)
	for f := range want {
		want[f].freed = -1
	}
	return want
}

func (m model) has(f int) bool { return f >= 0 && f < len(m) }

func (m model) retype(f int, to int, quiet bool) api.Errno {
	if !m.has(f) || to != api.FUser && to != api.FKernel {
		return api.ErrArg
	}
	if m[f].kind != api.FUntyped {
		return api.ErrType
	}
	if !quiet {
		return api.ErrBusy
	}
	m[f].kind = to
	return api.OK
}

func (m model) untype(f int, now int, pages bool) api.Errno {
	if !m.has(f) {
		return api.ErrArg
	}
	if m[f].kind == api.FUntyped {
		return api.ErrType
	}
	if m[f].count != 0 {
		return api.ErrUsed
	}
	m[f].was = m[f].kind
	if pages && m[f].kind == api.FKernel {
		m[f].was = kernelPages
	}
	m[f].kind = api.FUntyped
	if now > m[f].freed {
		m[f].freed = now
	}
	return api.OK
}

func (m model) ref(f int) api.Errno {
	if !m.has(f) {
		return api.ErrArg
	}
	if m[f].kind == api.FUntyped {
		return api.ErrType
	}
	if m[f].count == api.MaxRefs {
		return api.ErrFull
	}
	m[f].count++
	return api.OK
}

func (m model) unref(f int, now int) api.Errno {
	if !m.has(f) {
		return api.ErrArg
	}
	if m[f].count == 0 {
		return api.ErrNone
	}
	m[f].count--
	if m[f].count == 0 && now > m[f].freed {
		m[f].freed = now
	}
	return api.OK
}

func made(t *testing.T, frames int) *typ.Table {
	t.Helper()
	u, e := typ.New(frames)
	if u == nil || e != api.OK {
		t.Fatalf("New(%d): %v, %d", frames, u, e)
	}
	return u
}

// must does what is not to be refused.
func must(t *testing.T, e api.Errno) {
	t.Helper()
	if e != api.OK {
		t.Fatalf("refused: %d", e)
	}
}

// same looks at a call's answer, and at the whole table then.
func same(t *testing.T, u *typ.Table, want model, got api.Errno, asked api.Errno, what string) {
	t.Helper()
	if got != asked {
		t.Fatalf("%s: %d; want %d", what, got, asked)
	}
	hold(t, u, want, what)
}

// outside are the numbers that are no frame among that many.
func outside(frames int) []int {
	return []int{-1, -2, -frames, frames, frames + 1, 2 * frames, 100, 1 << 32, -1 << 32, math.MaxInt, math.MaxInt - 1, math.MinInt, math.MinInt + 1}
}

// noKinds are the numbers that no frame is retyped to.
func noKinds() []int {
	return []int{api.FUntyped, kernelPages, 4, 5, -1, -2, -3, 1 << 32, 1<<32 + 1, -1 << 32, math.MaxInt, math.MinInt, math.MinInt + 1}
}

// times are times at their ends, and some that are none.
func times() []int {
	return []int{math.MinInt, -1 << 32, -2, -1, 0, 1, 5, api.MaxTime - 1, api.MaxTime, api.MaxTime + 1, math.MaxInt}
}

func kinds() []int { return []int{api.FUser, api.FKernel} }

// tell is all that a table tells of a frame.
func tell(u *typ.Table, f int) state {
	return state{kind: u.Type(f), count: u.Count(f), freed: u.Freed(f), was: u.Was(f)}
}

// hold looks at all that a table tells, of each frame and of frames that are not there.
func hold(t *testing.T, u *typ.Table, want model, what string) {
	t.Helper()
	for f := range want {
		if got := tell(u, f); got != want[f] {
			t.Fatalf("%s: frame %d: %v; want %v", what, f, got, want[f])
		}
	}
	for _, f := range outside(len(want)) {
		if got := tell(u, f); got != (state{freed: -1}) {
			t.Fatalf("%s: no frame %d: %v", what, f, got)
		}
	}
}

// used is a table whose frames differ in all that they are, and how it is: frames 0 and 1
// never were anything, 2 and 3 are typed, 4 and 5 are needed, 6 to 8 were something, 9
// and 10 are again.
func used(t *testing.T) (*typ.Table, model) {
	t.Helper()
	const frames = 11
	u, want := made(t, frames), freshModel(frames)
	for f := 2; f < frames; f++ {
		to := kinds()[f%2]
		must(t, u.Retype(f, to, true))
		want[f].kind = to
	}
	for f := 4; f < 6; f++ {
		for range f {
			must(t, u.Ref(f))
		}
		want[f].count = f
	}
	for f := 6; f < frames; f++ {
		must(t, u.Untype(f, 10+f, f%4 == 3))
		want[f] = state{freed: 10 + f, was: want[f].kind}
	}
	want[7].was = kernelPages
	for f := 9; f < frames; f++ {
		must(t, u.Retype(f, api.FKernel, true))
		want[f].kind = api.FKernel
	}
	hold(t, u, want, "used")
	return u, want
}

// P6.1: New.

func TestNew(t *testing.T) {
	for frames := 1; frames <= api.MaxFrames; frames++ {
		hold(t, made(t, frames), freshModel(frames), "New")
	}
}

func TestNewRefusesOtherCounts(t *testing.T) {
	for _, frames := range append(outside(api.MaxFrames+1), 0) {
		if u, e := typ.New(frames); u != nil || e != api.ErrArg {
			t.Errorf("New(%d): %v, %d", frames, u, e)
		}
	}
}

func TestTablesShareNothing(t *testing.T) {
	one, wantOne := used(t)
	other, wantOther := made(t, len(wantOne)), freshModel(len(wantOne))
	hold(t, other, wantOther, "the other, behind the one's calls")
	for f := range wantOther {
		same(t, other, wantOther, other.Retype(f, api.FUser, true), wantOther.retype(f, api.FUser, true), "Retype of the other")
		same(t, other, wantOther, other.Ref(f), wantOther.ref(f), "Ref of the other")
		same(t, other, wantOther, other.Unref(f, 99), wantOther.unref(f, 99), "Unref of the other")
		same(t, other, wantOther, other.Untype(f, 100, true), wantOther.untype(f, 100, true), "Untype of the other")
	}
	hold(t, one, wantOne, "the one, behind the other's calls")
}

// P6.1: Retype.

// TestRetype retypes each frame of every table to each kind; no other frame changes.
func TestRetype(t *testing.T) {
	for frames := 1; frames <= api.MaxFrames; frames++ {
		for f := range frames {
			for _, to := range kinds() {
				u, want := made(t, frames), freshModel(frames)
				want[f].kind = to
				same(t, u, want, u.Retype(f, to, true), api.OK, "Retype")
			}
		}
	}
}

// TestRetypeRefuses makes all calls that are wrong in some ways at once: the first that
// is named is told.
func TestRetypeRefuses(t *testing.T) {
	u, want := used(t)
	for _, quiet := range []bool{false, true} {
		for _, f := range outside(len(want)) {
			for _, to := range append(noKinds(), kinds()...) {
				same(t, u, want, u.Retype(f, to, quiet), api.ErrArg, "Retype of no frame")
			}
		}
		for f := range want {
			for _, to := range noKinds() {
				same(t, u, want, u.Retype(f, to, quiet), api.ErrArg, "Retype to no kind")
			}
			for _, to := range kinds() {
				if want[f].kind != api.FUntyped {
					same(t, u, want, u.Retype(f, to, quiet), api.ErrType, "Retype of a typed frame")
				}
			}
		}
	}
	for f := range want {
		for _, to := range kinds() {
			if want[f].kind == api.FUntyped {
				same(t, u, want, u.Retype(f, to, false), api.ErrBusy, "Retype of a frame that is not quiet")
			}
		}
	}
}

// TestRetypeAgain goes from each kind to each other: when it was freed, and what it was,
// stay till it is untyped again.
func TestRetypeAgain(t *testing.T) {
	u, want := made(t, 2), freshModel(2)
	now := 0
	for _, first := range kinds() {
		for _, second := range kinds() {
			for _, to := range []int{first, second} {
				same(t, u, want, u.Retype(1, to, false), api.ErrBusy, "Retype, not quiet")
				want[1].kind = to
				same(t, u, want, u.Retype(1, to, true), api.OK, "Retype again")
				now++
				want[1] = state{freed: now, was: to}
				same(t, u, want, u.Untype(1, now, false), api.OK, "Untype again")
			}
		}
	}
}

// P6.1: Untype.

// TestUntype untypes each frame of every table; no other frame changes.
func TestUntype(t *testing.T) {
	for _, frames := range []int{1, 2, 3, api.MaxFrames - 1, api.MaxFrames} {
		u, want := made(t, frames), freshModel(frames)
		for f := range frames {
			same(t, u, want, u.Retype(f, kinds()[f%2], true), want.retype(f, kinds()[f%2], true), "Retype")
		}
		for f := range frames {
			want[f] = state{freed: 3 + f, was: kinds()[f%2]}
			same(t, u, want, u.Untype(f, 3+f, false), api.OK, "Untype")
		}
	}
}

func TestWas(t *testing.T) {
	for _, row := range []struct {
		kind  int
		pages bool
		was   int
	}{
		{api.FUser, false, api.FUser},
		{api.FUser, true, api.FUser},
		{api.FKernel, false, api.FKernel},
		{api.FKernel, true, kernelPages},
	} {
		u, want := made(t, 3), freshModel(3)
		want[1].kind = row.kind
		same(t, u, want, u.Retype(1, row.kind, true), api.OK, "Retype")
		want[1] = state{freed: 8, was: row.was}
		same(t, u, want, u.Untype(1, 8, row.pages), api.OK, "Untype")
	}
}

func TestUntypeRefuses(t *testing.T) {
	u, want := used(t)
	for _, now := range times() {
		for _, pages := range []bool{false, true} {
			for _, f := range outside(len(want)) {
				same(t, u, want, u.Untype(f, now, pages), api.ErrArg, "Untype of no frame")
			}
			for f := range want {
				if want[f].kind == api.FUntyped {
					same(t, u, want, u.Untype(f, now, pages), api.ErrType, "Untype of an untyped frame")
				}
				if want[f].count != 0 {
					same(t, u, want, u.Untype(f, now, pages), api.ErrUsed, "Untype of a frame that is needed")
				}
			}
		}
	}
}

// TestUntypeRefusesEveryCount untypes a frame that is needed any number of times, up to
// MaxRefs.
func TestUntypeRefusesEveryCount(t *testing.T) {
	for _, kind := range kinds() {
		u, want := made(t, 1), freshModel(1)
		must(t, u.Retype(0, kind, true))
		want[0].kind = kind
		for count := 1; count <= api.MaxRefs; count++ {
			must(t, u.Ref(0))
			want[0].count = count
			same(t, u, want, u.Untype(0, 5, true), api.ErrUsed, "Untype")
		}
	}
}

func TestExample(t *testing.T) {
	u := made(t, 2)
	must(t, u.Retype(1, api.FUser, true))
	must(t, u.Ref(1))
	if e := u.Untype(1, 5, false); e != api.ErrUsed {
		t.Errorf("Untype: %d", e)
	}
}

// TestUntypeFreesAtTheLater untypes a frame twice, at any two times.
func TestUntypeFreesAtTheLater(t *testing.T) {
	for _, first := range times() {
		for _, second := range times() {
			u, want := made(t, 1), freshModel(1)
			for _, now := range []int{first, second} {
				must(t, u.Retype(0, api.FUser, true))
				must(t, u.Untype(0, now, false))
			}
			want[0] = state{freed: max(-1, first, second), was: api.FUser}
			hold(t, u, want, "untyped twice")
		}
	}
}

// P6.2: Ref, Unref.

// TestRef refs each frame up to the end, and past it; no other frame changes.
func TestRef(t *testing.T) {
	const frames = 3
	for _, kind := range kinds() {
		u, want := made(t, frames), freshModel(frames)
		for f := range frames {
			must(t, u.Retype(f, kind, true))
			want[f].kind = kind
		}
		for f := range frames {
			for count := 1; count <= api.MaxRefs; count++ {
				want[f].count = count
				same(t, u, want, u.Ref(f), api.OK, "Ref")
			}
			for range 3 {
				same(t, u, want, u.Ref(f), api.ErrFull, "Ref at MaxRefs")
			}
		}
		for f := range frames {
			want[f].count--
			same(t, u, want, u.Unref(f, 4), api.OK, "Unref at MaxRefs")
			want[f].count++
			same(t, u, want, u.Ref(f), api.OK, "Ref below MaxRefs")
			same(t, u, want, u.Ref(f), api.ErrFull, "Ref at MaxRefs again")
		}
	}
}

func TestRefRefuses(t *testing.T) {
	u, want := used(t)
	for _, f := range outside(len(want)) {
		same(t, u, want, u.Ref(f), api.ErrArg, "Ref of no frame")
	}
	for f := range want {
		if want[f].kind == api.FUntyped {
			same(t, u, want, u.Ref(f), api.ErrType, "Ref of an untyped frame")
		}
	}
}

// TestUnref goes from MaxRefs down: only the last one frees the frame.
func TestUnref(t *testing.T) {
	for _, kind := range kinds() {
		u, want := made(t, 2), freshModel(2)
		must(t, u.Retype(1, kind, true))
		for range api.MaxRefs {
			must(t, u.Ref(1))
		}
		want[1] = state{kind: kind, count: api.MaxRefs, freed: -1}
		hold(t, u, want, "MaxRefs")
		for count := api.MaxRefs - 1; count > 0; count-- {
			want[1].count = count
			same(t, u, want, u.Unref(1, 5000-count), api.OK, "Unref")
		}
		want[1] = state{kind: kind, freed: 7}
		same(t, u, want, u.Unref(1, 7), api.OK, "the last Unref")
		for _, now := range times() {
			same(t, u, want, u.Unref(1, now), api.ErrNone, "Unref at 0")
		}
	}
}

func TestUnrefRefuses(t *testing.T) {
	u, want := used(t)
	for _, now := range times() {
		for _, f := range outside(len(want)) {
			same(t, u, want, u.Unref(f, now), api.ErrArg, "Unref of no frame")
		}
		for f := range want {
			if want[f].count == 0 {
				same(t, u, want, u.Unref(f, now), api.ErrNone, "Unref of a frame that none needs")
			}
		}
	}
}

// TestUnrefFreesAtTheLater lets a frame's count fall to 0 twice, at any two times.
func TestUnrefFreesAtTheLater(t *testing.T) {
	for _, first := range times() {
		for _, second := range times() {
			u, want := made(t, 1), freshModel(1)
			must(t, u.Retype(0, api.FKernel, true))
			for _, now := range []int{first, second} {
				must(t, u.Ref(0))
				must(t, u.Unref(0, now))
			}
			want[0] = state{kind: api.FKernel, freed: max(-1, first, second)}
			hold(t, u, want, "needed by none twice")
		}
	}
}

// TestFreedIsTheLaterOfBoth mixes the two that free: each may be the later one.
func TestFreedIsTheLaterOfBoth(t *testing.T) {
	for _, first := range times() {
		for _, second := range times() {
			for _, third := range times() {
				u, want := made(t, 1), freshModel(1)
				must(t, u.Retype(0, api.FKernel, true))
				must(t, u.Ref(0))
				must(t, u.Unref(0, first))
				must(t, u.Untype(0, second, true))
				want[0] = state{freed: max(-1, first, second), was: kernelPages}
				hold(t, u, want, "Unref, Untype")
				must(t, u.Retype(0, api.FUser, true))
				must(t, u.Ref(0))
				must(t, u.Unref(0, third))
				want[0] = state{kind: api.FUser, freed: max(-1, first, second, third), was: kernelPages}
				hold(t, u, want, "Unref, Untype, Unref")
			}
		}
	}
}

// P6.2: what is told changes nothing.

func TestTellingChangesNothing(t *testing.T) {
	u, want := used(t)
	for range 3 {
		hold(t, u, want, "told again")
	}
}

// P6.3.

// TestUnmade makes every call on tables that are none, with right arguments and wrong
// ones, twice: a refused call makes no table of them.
func TestUnmade(t *testing.T) {
	var zero typ.Table
	for _, u := range []*typ.Table{nil, new(typ.Table), {}, &zero} {
		for range 2 {
			for _, f := range append(outside(1), 0, 1, api.MaxFrames-1) {
				lookUnmade(t, u, f)
			}
		}
	}
}

func lookUnmade(t *testing.T, u *typ.Table, f int) {
	t.Helper()
	for _, yes := range []bool{false, true} {
		for _, to := range append(noKinds(), kinds()...) {
			if e := u.Retype(f, to, yes); e != api.ErrZero {
				t.Errorf("Retype(%d, %d, %v): %d", f, to, yes, e)
			}
		}
		for _, now := range times() {
			if e := u.Untype(f, now, yes); e != api.ErrZero {
				t.Errorf("Untype(%d, %d, %v): %d", f, now, yes, e)
			}
			if e := u.Unref(f, now); e != api.ErrZero {
				t.Errorf("Unref(%d, %d): %d", f, now, e)
			}
		}
	}
	if e := u.Ref(f); e != api.ErrZero {
		t.Errorf("Ref(%d): %d", f, e)
	}
	if got := tell(u, f); got != (state{freed: -1}) {
		t.Errorf("frame %d: %v", f, got)
	}
}

// P6.4.

// follows looks that an untyped frame is needed by none, and that a frame that is needed
// is what it was ahead of the call.
func follows(t *testing.T, u *typ.Table, f int, before state) {
	t.Helper()
	now := tell(u, f)
	if now.kind == api.FUntyped && now.count != 0 {
		t.Fatalf("frame %d is untyped, and needed %d times", f, now.count)
	}
	if before.count != 0 && now.kind != before.kind {
		t.Fatalf("frame %d is needed %d times, and became %d", f, before.count, now.kind)
	}
}

// TestNeededFramesStay tries all that would change what a needed frame is, till none
// needs it.
func TestNeededFramesStay(t *testing.T) {
	for _, kind := range kinds() {
		u, want := made(t, 1), freshModel(1)
		must(t, u.Retype(0, kind, true))
		for range 3 {
			must(t, u.Ref(0))
		}
		want[0] = state{kind: kind, count: 3, freed: -1}
		for want[0].count > 0 {
			for _, yes := range []bool{false, true} {
				for _, to := range kinds() {
					same(t, u, want, u.Retype(0, to, yes), api.ErrType, "Retype of a needed frame")
				}
				same(t, u, want, u.Untype(0, 9, yes), api.ErrUsed, "Untype of a needed frame")
			}
			same(t, u, want, u.Unref(0, 6), want.unref(0, 6), "Unref")
		}
		same(t, u, want, u.Untype(0, 9, false), want.untype(0, 9, false), "Untype of a frame that none needs")
		same(t, u, want, u.Ref(0), api.ErrType, "Ref of an untyped frame")
	}
}

// TestManyCalls mixes all calls, wrong ones among them, and looks at all frames behind
// each; a second table, given the same, answers the same.
func TestManyCalls(t *testing.T) {
	x := uint64(0x9E3779B97F4A7C15)
	pick := func(n int) int {
		x = x*6364136223846793005 + 1442695040888963407
		return int(x>>33) % n
	}
	for _, frames := range []int{1, 2, 5, api.MaxFrames} {
		u, twin, want := made(t, frames), made(t, frames), freshModel(frames)
		for range 5000 {
			f, now, to, yes := pick(frames+2)-1, pick(300)-2, pick(5)-1, pick(2) == 0
			before := tell(u, f)
			var got, again, asked api.Errno
			switch pick(4) {
			case 0:
				got, again, asked = u.Retype(f, to, yes), twin.Retype(f, to, yes), want.retype(f, to, yes)
			case 1:
				got, again, asked = u.Untype(f, now, yes), twin.Untype(f, now, yes), want.untype(f, now, yes)
			case 2:
				got, again, asked = u.Unref(f, now), twin.Unref(f, now), want.unref(f, now)
			default:
				got, again, asked = u.Ref(f), twin.Ref(f), want.ref(f)
			}
			same(t, u, want, got, asked, "many calls")
			same(t, twin, want, again, asked, "many calls, the twin")
			follows(t, u, f, before)
		}
	}
}

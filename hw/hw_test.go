package hw_test

import (
	"math"
	"testing"

	"palanquin/api"
	"palanquin/hw"
)

// The ranges of lines and of frames, as numbers of their own: the chapter's limits.
const (
	count  = 8
	frames = 64
)

// nowhere is where a line of a model leads that leads nowhere.
const nowhere = -1

// model is what lines are held against: where each leads.
type model [count]int

func empty() *model {
	d := &model{}
	for line := range d {
		d[line] = nowhere
	}
	return d
}

func (d *model) attach(line int, f int) api.Errno {
	switch {
	case line < 0 || line >= count || f < 0 || f >= frames:
		return api.ErrArg
	case d[line] != nowhere:
		return api.ErrUsed
	}
	d[line] = f
	return api.OK
}

func (d *model) of(line int) place {
	switch {
	case line < 0 || line >= count:
		return place{0, api.ErrArg}
	case d[line] == nowhere:
		return place{0, api.ErrNone}
	}
	return place{d[line], api.OK}
}

func (d *model) detach(line int) place {
	was := d.of(line)
	if was.e == api.OK {
		d[line] = nowhere
	}
	return was
}

func (d *model) has(f int) int {
	n := 0
	for _, to := range d {
		if f >= 0 && to == f {
			n++
		}
	}
	return n
}

// place is what Of and Detach answer.
type place struct {
	f int
	e api.Errno
}

func of(l *hw.Lines, line int) place {
	f, e := l.Of(line)
	return place{f, e}
}

func detach(l *hw.Lines, line int) place {
	f, e := l.Detach(line)
	return place{f, e}
}

// noLines are numbers that are no line's, noFrames such as are no frame's.

func noLines() []int {
	return append(far(), count, count+1, 2*count, -count)
}

func noFrames() []int {
	return append(far(), frames, frames+1, 2*frames, -frames)
}

// far are numbers behind all ranges; the low bits of some are those of a line and a frame.
func far() []int {
	return []int{-1, -2, 1 << 8, 1<<16 + 1, 1 << 31, 1 << 32, 1<<32 + 3, -1 << 32, math.MinInt, math.MinInt + 1, math.MaxInt, math.MaxInt - 1}
}

func made(t *testing.T) *hw.Lines {
	t.Helper()
	l := hw.New()
	if l == nil {
		t.Fatal("New: nil")
	}
	return l
}

// hold looks at all that lines tell: of each line where it leads, of each frame how many
// lead there, and of such as there are not.
func hold(t *testing.T, l *hw.Lines, want *model, what string) {
	t.Helper()
	for line := range count {
		if got := of(l, line); got != want.of(line) {
			t.Fatalf("%s: Of(%d): %v; want %v", what, line, got, want.of(line))
		}
	}
	all := 0
	for f := range frames {
		n := l.Has(f)
		if n != want.has(f) {
			t.Fatalf("%s: Has(%d): %d; want %d", what, f, n, want.has(f))
		}
		all += n
	}
	if all > count {
		t.Fatalf("%s: %d lead somewhere, of %d", what, all, count)
	}
	for _, f := range noFrames() {
		if n := l.Has(f); n != 0 {
			t.Fatalf("%s: Has(%d): %d", what, f, n)
		}
	}
}

// attached attaches in both, and looks at all lines then.
func attached(t *testing.T, l *hw.Lines, want *model, line int, f int, what string) {
	t.Helper()
	asked := want.attach(line, f)
	if e := l.Attach(line, f); e != asked {
		t.Fatalf("%s: Attach(%d, %d): %d; want %d", what, line, f, e, asked)
	}
	hold(t, l, want, what)
}

// detached detaches in both, and looks at all lines then.
func detached(t *testing.T, l *hw.Lines, want *model, line int, what string) {
	t.Helper()
	asked := want.detach(line)
	if got := detach(l, line); got != asked {
		t.Fatalf("%s: Detach(%d): %v; want %v", what, line, got, asked)
	}
	hold(t, l, want, what)
}

// lead makes lines as want has them.
func lead(t *testing.T, want *model) *hw.Lines {
	t.Helper()
	l := made(t)
	for line, f := range want {
		if f == nowhere {
			continue
		}
		if e := l.Attach(line, f); e != api.OK {
			t.Fatalf("Attach(%d, %d): %d", line, f, e)
		}
	}
	return l
}

// ways are rules by which lines lead: which frame each of them is attached to.
func ways() []func(line int) int {
	return []func(line int) int{
		func(int) int { return 0 },
		func(int) int { return frames - 1 },
		func(line int) int { return line },
		func(line int) int { return frames - 1 - line },
		func(line int) int { return line % 2 },
		func(line int) int { return line * 8 },
	}
}

// each does something with lines of every kind: each set of them leads somewhere, by each
// of the rules.
func each(do func(want model)) {
	for _, way := range ways() {
		for set := range 1 << count {
			want := empty()
			for line := range want {
				if set>>line&1 == 1 {
					want[line] = way(line)
				}
			}
			do(*want)
		}
	}
}

// P23.1: New.

func TestNew(t *testing.T) {
	l := made(t)
	hold(t, l, empty(), "New")
	for line := range count {
		if got := of(l, line); got != (place{0, api.ErrNone}) {
			t.Errorf("Of(%d): %v", line, got)
		}
		if got := detach(l, line); got != (place{0, api.ErrNone}) {
			t.Errorf("Detach(%d): %v", line, got)
		}
	}
	hold(t, l, empty(), "Detach of new lines")
}

func TestLimits(t *testing.T) {
	if api.MaxLines != count || api.MaxFrames != frames {
		t.Errorf("%d lines, %d frames", api.MaxLines, api.MaxFrames)
	}
}

func TestTheyShareNothing(t *testing.T) {
	one, wantOne := made(t), empty()
	for line := range count {
		attached(t, one, wantOne, line, line+5, "the one")
	}
	other, wantOther := made(t), empty()
	hold(t, other, wantOther, "the other, behind the one's calls")
	attached(t, other, wantOther, 3, 0, "the other")
	detached(t, one, wantOne, 4, "the one")
	hold(t, other, wantOther, "the other, behind the one's Detach")
	detached(t, other, wantOther, 3, "the other")
	hold(t, one, wantOne, "the one, behind the other's calls")
}

// P23.1: Attach, Of.

func TestExample(t *testing.T) {
	l := made(t)
	if e := l.Attach(0, 5); e != api.OK {
		t.Fatalf("Attach: %d", e)
	}
	if got := of(l, 0); got != (place{5, api.OK}) {
		t.Errorf("Of: %v", got)
	}
}

// TestAttach attaches each line to each frame.
func TestAttach(t *testing.T) {
	for line := range count {
		for f := range frames {
			l, want := made(t), empty()
			attached(t, l, want, line, f, "Attach")
			if got := of(l, line); got != (place{f, api.OK}) {
				t.Fatalf("Attach(%d, %d), Of: %v", line, f, got)
			}
			if n := l.Has(f); n != 1 {
				t.Fatalf("Attach(%d, %d), Has: %d", line, f, n)
			}
		}
	}
}

// TestAttachOfUsed attaches lines that lead somewhere, to the same frame and to all others:
// they lead where they led.
func TestAttachOfUsed(t *testing.T) {
	for line := range count {
		for _, f := range []int{0, 1, 31, frames - 2, frames - 1} {
			l, want := made(t), empty()
			attached(t, l, want, line, f, "Attach")
			for to := range frames {
				if e := l.Attach(line, to); e != api.ErrUsed {
					t.Fatalf("Attach(%d, %d) behind Attach to %d: %d; want ErrUsed", line, to, f, e)
				}
				hold(t, l, want, "Attach of one that leads somewhere")
			}
		}
	}
}

// TestAttachRefusesLines has no such line, with frames that there are and others.
func TestAttachRefusesLines(t *testing.T) {
	each(func(want model) {
		l := lead(t, &want)
		for _, line := range noLines() {
			for _, f := range append(noFrames(), 0, 1, frames-1) {
				if e := l.Attach(line, f); e != api.ErrArg {
					t.Fatalf("Attach(%d, %d): %d; want ErrArg", line, f, e)
				}
			}
		}
		hold(t, l, &want, "Attach of no line")
	})
}

// TestAttachRefusesFrames has no such frame, of lines that lead nowhere, where it is the
// one error, and of such as lead somewhere, where ErrUsed would come behind it.
func TestAttachRefusesFrames(t *testing.T) {
	each(func(want model) {
		l := lead(t, &want)
		for line := range count {
			for _, f := range noFrames() {
				if e := l.Attach(line, f); e != api.ErrArg {
					t.Fatalf("Attach(%d, %d), which leads to %d: %d; want ErrArg", line, f, want[line], e)
				}
			}
		}
		hold(t, l, &want, "Attach to no frame")
	})
}

// TestAttachAmongOthers attaches one line where others lead somewhere already: no other one
// changes, and to where others lead it may lead, too.
func TestAttachAmongOthers(t *testing.T) {
	each(func(had model) {
		for line := range count {
			for _, f := range []int{0, line, frames - 1} {
				want := had
				l := lead(t, &want)
				attached(t, l, &want, line, f, "Attach among others")
			}
		}
	})
}

func TestOf(t *testing.T) {
	each(func(want model) {
		l := lead(t, &want)
		hold(t, l, &want, "Of")
		for _, line := range noLines() {
			if got := of(l, line); got != (place{0, api.ErrArg}) {
				t.Fatalf("Of(%d): %v; want ErrArg", line, got)
			}
		}
		hold(t, l, &want, "Of of no line")
	})
}

// P23.1: Detach.

// TestDetach detaches each line, twice, of lines of every kind: it leads nowhere then, and
// the others where they led.
func TestDetach(t *testing.T) {
	each(func(had model) {
		for line := range count {
			want := had
			l := lead(t, &want)
			detached(t, l, &want, line, "Detach")
			if got := detach(l, line); got != (place{0, api.ErrNone}) {
				t.Fatalf("Detach(%d) again: %v; want ErrNone", line, got)
			}
			hold(t, l, &want, "Detach again")
		}
	})
}

// TestDetachOfFrames detaches each line of each frame.
func TestDetachOfFrames(t *testing.T) {
	for line := range count {
		for f := range frames {
			l, want := made(t), empty()
			attached(t, l, want, line, f, "Attach")
			if got := detach(l, line); got != (place{f, api.OK}) {
				t.Fatalf("Attach(%d, %d), Detach: %v", line, f, got)
			}
			hold(t, l, empty(), "Detach")
		}
	}
}

func TestDetachRefuses(t *testing.T) {
	each(func(want model) {
		l := lead(t, &want)
		for _, line := range noLines() {
			if got := detach(l, line); got != (place{0, api.ErrArg}) {
				t.Fatalf("Detach(%d): %v; want ErrArg", line, got)
			}
		}
		hold(t, l, &want, "Detach of no line")
	})
}

// TestAttachBehindDetach attaches what was detached, to the same frame and to others.
func TestAttachBehindDetach(t *testing.T) {
	for line := range count {
		for _, f := range []int{0, 1, 31, frames - 1} {
			l, want := made(t), empty()
			attached(t, l, want, line, f, "Attach")
			for to := range frames {
				detached(t, l, want, line, "Detach")
				attached(t, l, want, line, to, "Attach behind Detach")
				if got := of(l, line); got != (place{to, api.OK}) {
					t.Fatalf("Of(%d): %v; want %d", line, got, to)
				}
			}
		}
	}
}

// P23.1: Has.

// TestHas lets one line more lead to a frame, up to all, and one less then.
func TestHas(t *testing.T) {
	for f := range frames {
		l, want := made(t), empty()
		for line := range count {
			if n := l.Has(f); n != line {
				t.Fatalf("Has(%d): %d; want %d", f, n, line)
			}
			attached(t, l, want, line, f, "Has")
		}
		if n := l.Has(f); n != count {
			t.Fatalf("Has(%d): %d; want all", f, n)
		}
		for line := range count {
			detached(t, l, want, line, "Has")
			if n := l.Has(f); n != count-1-line {
				t.Fatalf("Has(%d): %d; want %d", f, n, count-1-line)
			}
		}
	}
}

// TestHasOfNoFrame asks for frames that there are not, where all lines lead to one.
func TestHasOfNoFrame(t *testing.T) {
	for _, to := range []int{0, 1, 5, frames - 1} {
		want := empty()
		for line := range want {
			want[line] = to
		}
		l := lead(t, want)
		for _, f := range noFrames() {
			if n := l.Has(f); n != 0 {
				t.Errorf("Has(%d): %d", f, n)
			}
		}
		hold(t, l, want, "Has of no frame")
	}
}

func TestTellingChangesNothing(t *testing.T) {
	each(func(want model) {
		l := lead(t, &want)
		for range 3 {
			hold(t, l, &want, "told again")
		}
	})
}

// P23.2.

// TestUnmade makes every call on lines that are none, with right arguments and wrong ones,
// twice: a refused call makes no lines of them.
func TestUnmade(t *testing.T) {
	var zero hw.Lines
	for _, l := range []*hw.Lines{nil, new(hw.Lines), {}, &zero} {
		for range 2 {
			for _, line := range append(noLines(), 0, 1, 2, 3, 4, 5, 6, 7) {
				lookUnmade(t, l, line)
			}
		}
	}
}

func lookUnmade(t *testing.T, l *hw.Lines, line int) {
	t.Helper()
	if got := of(l, line); got != (place{0, api.ErrZero}) {
		t.Errorf("Of(%d): %v", line, got)
	}
	if got := detach(l, line); got != (place{0, api.ErrZero}) {
		t.Errorf("Detach(%d): %v", line, got)
	}
	for _, f := range append(noFrames(), 0, 1, 31, frames-1) {
		if e := l.Attach(line, f); e != api.ErrZero {
			t.Errorf("Attach(%d, %d): %d", line, f, e)
		}
		if n := l.Has(f); n != 0 {
			t.Errorf("Has(%d): %d", f, n)
		}
	}
}

// P23.3.

// TestOnePlace tries to attach each line to all frames in turn, whatever it was attached to
// ahead: it leads to one of them, which is the first.
func TestOnePlace(t *testing.T) {
	for first := range frames {
		l := made(t)
		for line := range count {
			for i := range frames {
				l.Attach(line, (first+i)%frames)
			}
			leads := 0
			for f := range frames {
				leads += l.Has(f)
			}
			if leads != line+1 || l.Has(first) != line+1 {
				t.Fatalf("%d lines: %d, %d to %d", line+1, leads, l.Has(first), first)
			}
		}
	}
}

// TestManyCalls mixes all calls, wrong ones among them, and looks at all lines behind each;
// twins, given the same, answer the same.
func TestManyCalls(t *testing.T) {
	x := uint64(0x9E3779B97F4A7C15)
	pick := func(n int) int {
		x = x*6364136223846793005 + 1442695040888963407
		return int(x>>33) % n
	}
	for _, attaches := range []int{1, 3, 6} {
		for _, reach := range []int{2, 9, frames + 2} {
			l, twin, want := made(t), made(t), empty()
			for range 3000 {
				line, f := pick(count+2)-1, pick(reach)
				if reach > frames {
					f--
				}
				asked := want.of(line)
				if pick(7) >= attaches {
					detached(t, l, want, line, "many calls")
					if got := detach(twin, line); got != asked {
						t.Fatalf("the twin: Detach(%d): %v; want %v", line, got, asked)
					}
					continue
				}
				ahead := *want
				attached(t, l, want, line, f, "many calls")
				if e := twin.Attach(line, f); e != ahead.attach(line, f) {
					t.Fatalf("the twin: Attach(%d, %d): %d", line, f, e)
				}
			}
			hold(t, twin, want, "the twin")
		}
	}
}

package slot_test

import (
	"math"
	"slices"
	"testing"

	"palanquin/api"
	"palanquin/mem"
	"palanquin/slot"
)

// length is how many words a frame has, begin where its slots begin, count how many there
// are.
const (
	length = 36
	begin  = 4
	count  = 16
)

type frame [length]uint64

func within(v int, least int, most int) bool { return least <= v && v <= most }

// right tells whether a capability can be: the words of the chapter of cap, kind by kind.
func right(c api.Cap) bool {
	if !within(c.R, 0, 31) || !within(c.T, 0, 63) || !within(c.L, 0, 63) || !within(c.E, 0, 65535) || !within(c.A, 0, 1<<30) {
		return false
	}
	switch c.K {
	case 0:
		return c == api.Cap{}
	case 1:
		return c == api.Cap{K: 1, A: c.A}
	case 2:
		return c.L == 0 && c.E == 0 && c.A >= 1 && c.T+c.A <= 64
	case 3, 4, 6, 8, 9, 10:
		return c == api.Cap{K: c.K, R: c.R, T: c.T}
	case 5:
		return c.A == 0
	case 7:
		return true
	case 11:
		return c == api.Cap{K: 11, R: c.R}
	}
	return false
}

// words are those of a capability that is right, by multiplying.
func words(c api.Cap) [2]uint64 {
	return [2]uint64{uint64(c.K + c.R*16 + c.T*512 + c.L*32768 + c.E*2097152), uint64(c.A)}
}

// capOf is the capability that words are of, by dividing, if they are one's.
func capOf(w [2]uint64) (api.Cap, bool) {
	if w[0] >= 1<<37 || w[1] > 1<<30 {
		return api.Cap{}, false
	}
	c := api.Cap{
		K: int(w[0] % 16),
		R: int(w[0] / 16 % 32),
		T: int(w[0] / 512 % 64),
		L: int(w[0] / 32768 % 64),
		E: int(w[0] / 2097152 % 65536),
		A: int(w[1]),
	}
	if !right(c) {
		return api.Cap{}, false
	}
	return c, true
}

// outside are numbers that lie behind every range. Some of them, doubled or cut to half
// their bits, lie in one.
func outside() []int {
	return []int{math.MinInt, math.MinInt + 1, math.MinInt/2 - 1, math.MinInt / 2, -1 << 32, -1<<32 + 1, -65536, -64, -16, -3, -2, -1, 1<<30 + 1, 1 << 31, 1<<31 + 1, 1 << 32, 1<<32 + 1, 1 << 62, 1<<62 + 1, 1<<62 + 15, math.MaxInt - 1, math.MaxInt}
}

// indexes are those of no slot.
func indexes() []int {
	return append(outside(), 16, 17, 18, 31, 32, 33, 35, 36, 64, 255, 256)
}

// frames are those that a memory of that many has not.
func frames(have int) []int {
	return append(outside(), have, have+1, 2*have, 64, 65)
}

// some are capabilities of each kind, all of them right.
func some() []api.Cap {
	var all []api.Cap
	for k := range 12 {
		for _, r := range []int{0, 1, 31} {
			for _, t := range []int{0, 3, 63} {
				for _, l := range []int{0, 63} {
					for _, e := range []int{0, 65535} {
						for _, a := range []int{0, 1, 61, 64, 1 << 30} {
							if c := (api.Cap{K: k, R: r, T: t, L: l, E: e, A: a}); right(c) {
								all = append(all, c)
							}
						}
					}
				}
			}
		}
	}
	return all
}

// wrong are capabilities of each kind, and of kinds that there are not, of which one
// number is not as it must be.
func wrong() []api.Cap {
	var all []api.Cap
	for k := range 12 {
		c := each(k)
		for _, v := range append(outside(), 1, 12, 15, 16, 20, 32, 64, 65, 65536) {
			for _, x := range []api.Cap{
				{K: v, R: c.R, T: c.T, L: c.L, E: c.E, A: c.A},
				{K: c.K, R: v, T: c.T, L: c.L, E: c.E, A: c.A},
				{K: c.K, R: c.R, T: v, L: c.L, E: c.E, A: c.A},
				{K: c.K, R: c.R, T: c.T, L: v, E: c.E, A: c.A},
				{K: c.K, R: c.R, T: c.T, L: c.L, E: v, A: c.A},
				{K: c.K, R: c.R, T: c.T, L: c.L, E: c.E, A: v},
			} {
				if !right(x) {
					all = append(all, x)
				}
			}
		}
	}
	return all
}

// each is one capability of a kind, with all the numbers that it may have.
func each(k int) api.Cap {
	switch k {
	case 0:
		return api.Cap{}
	case 1:
		return api.Cap{K: k, A: 9}
	case 2:
		return api.Cap{K: k, R: 5, T: 4, A: 10}
	case 5:
		return api.Cap{K: k, R: 3, T: 7, L: 8, E: 9}
	case 7:
		return api.Cap{K: k, R: 3, T: 7, L: 8, E: 9, A: 11}
	case 11:
		return api.Cap{K: k, R: 3}
	}
	return api.Cap{K: k, R: 3, T: 7}
}

// bad are words that are no capability's.
func bad() [][2]uint64 {
	return [][2]uint64{
		{12},                        // no kind
		{15},                        // the last of 4 bits
		{1 << 37},                   // the first bit beyond
		{1 << 63},                   // the last one
		{1 << 40},                   // one between
		{16},                        // none with a right
		{512},                       // none with a frame
		{0, 1},                      // none with an amount
		{0, math.MaxUint64},         // none with all bits
		{1 | 16, 5},                 // one that was, with a right
		{1, 1<<30 + 1},              // behind the last time
		{1, 1 << 63},                // a time that would be below 0
		{2 | 16},                    // memory of no frames
		{2 | 63<<9, 2},              // memory behind the last frame
		{3 | 16 | 3<<9, 1},          // a table with an amount
		{3 | 1<<15},                 // a table with an id
		{5, 1},                      // a component with an amount
		{7, 1<<32 + 1},              // a time that is cut to 1
		{11 | 1<<9},                 // lines with a frame
		{math.MaxUint64, 0},         // all bits
		{math.MaxUint64, 1<<64 - 1}, // all bits of both
	}
}

func made(t *testing.T, frames int) *mem.Mem {
	t.Helper()
	m, e := mem.New(frames)
	if e != api.OK {
		t.Fatalf("New(%d): %d", frames, e)
	}
	return m
}

// full is a memory of that many frames of which no two words are the same, and none is 0
// or the word of a capability.
func full(t *testing.T, frames int) *mem.Mem {
	t.Helper()
	m := made(t, frames)
	for f := range frames {
		for at := range length {
			set(t, m, f, at, 1<<40+uint64(1000*f+at))
		}
	}
	return m
}

func set(t *testing.T, m *mem.Mem, f int, at int, w uint64) {
	if e := m.Store(f, at, w); e != api.OK {
		t.Fatalf("Store(%d, %d): %d", f, at, e)
	}
}

// lay makes w the words of slot i.
func lay(t *testing.T, m *mem.Mem, f int, i int, w [2]uint64) {
	set(t, m, f, begin+2*i, w[0])
	set(t, m, f, begin+2*i+1, w[1])
}

// fill makes c the capability in all slots of frame f.
func fill(t *testing.T, m *mem.Mem, f int, c api.Cap) {
	for i := range count {
		lay(t, m, f, i, words(c))
	}
}

// look tells all words of a memory.
func look(t *testing.T, m *mem.Mem) []frame {
	all := make([]frame, m.Len())
	for f := range all {
		w, e := m.Words(f)
		if e != api.OK || len(w) != length {
			t.Fatalf("Words(%d): %v, %d", f, w, e)
		}
		copy(all[f][:], w)
	}
	return all
}

// same fails if the words of m are others than those.
func same(t *testing.T, m *mem.Mem, want []frame, what ...any) {
	got := look(t, m)
	if slices.Equal(got, want) {
		return
	}
	for f := range got {
		if got[f] != want[f] {
			t.Errorf("%v: frame %d is %v, not %v", what, f, got[f], want[f])
		}
	}
	t.FailNow()
}

// memError is that of a model memory.
func memError(all []frame, f int) api.Errno {
	if len(all) == 0 {
		return api.ErrZero
	}
	if f < 0 || f >= len(all) {
		return api.ErrArg
	}
	return api.OK
}

// getModel, putModel, allModel, usedModel, firstModel are what the calls are held against.
func getModel(all []frame, f int, i int) (api.Cap, api.Errno) {
	if i < 0 || i > 15 {
		return api.Cap{}, api.ErrArg
	}
	if e := memError(all, f); e != api.OK {
		return api.Cap{}, e
	}
	c, ok := capOf([2]uint64{all[f][4+2*i], all[f][5+2*i]})
	if !ok {
		return api.Cap{}, api.ErrForm
	}
	return c, api.OK
}

func putModel(all []frame, f int, i int, c api.Cap) api.Errno {
	if i < 0 || i > 15 || !right(c) {
		return api.ErrArg
	}
	if e := memError(all, f); e != api.OK {
		return e
	}
	w := words(c)
	all[f][4+2*i], all[f][5+2*i] = w[0], w[1]
	return api.OK
}

func allModel(all []frame, f int) ([]api.Cap, api.Errno) {
	if e := memError(all, f); e != api.OK {
		return nil, e
	}
	var caps []api.Cap
	for at := 4; at < 36; at += 2 {
		c, ok := capOf([2]uint64{all[f][at], all[f][at+1]})
		if !ok {
			return nil, api.ErrForm
		}
		caps = append(caps, c)
	}
	return caps, api.OK
}

func usedModel(all []frame, f int) (int, api.Errno) {
	caps, e := allModel(all, f)
	free := 0
	for _, c := range caps {
		if c.K == 0 || c.K == 1 {
			free++
		}
	}
	return len(caps) - free, e
}

func firstModel(all []frame, f int) (int, api.Errno) {
	caps, e := allModel(all, f)
	for i, c := range caps {
		if c == (api.Cap{}) {
			return i, api.OK
		}
	}
	if e == api.OK {
		e = api.ErrNone
	}
	return 0, e
}

// hold holds what a whole frame is asked against the model, of words that it has.
func hold(t *testing.T, m *mem.Mem, want []frame, f int) {
	l, e := slot.All(m, f)
	if caps, wantE := allModel(want, f); !slices.Equal(l, caps) || e != wantE {
		t.Fatalf("All(%d): %v, %d, not %v, %d", f, l, e, caps, wantE)
	}
	n, e := slot.Used(m, f)
	if used, wantE := usedModel(want, f); n != used || e != wantE {
		t.Fatalf("Used(%d): %d, %d, not %d, %d", f, n, e, used, wantE)
	}
	i, e := slot.First(m, f)
	if first, wantE := firstModel(want, f); i != first || e != wantE {
		t.Fatalf("First(%d): %d, %d, not %d, %d", f, i, e, first, wantE)
	}
}

// refused fails if what a whole frame is asked is not refused so, with nothing beside it.
func refused(t *testing.T, m *mem.Mem, f int, want api.Errno, what ...any) {
	if l, e := slot.All(m, f); len(l) != 0 || e != want {
		t.Fatalf("%v: All(%d): %v, %d, not %d", what, f, l, e, want)
	}
	if n, e := slot.Used(m, f); n != 0 || e != want {
		t.Fatalf("%v: Used(%d): %d, %d, not %d", what, f, n, e, want)
	}
	if i, e := slot.First(m, f); i != 0 || e != want {
		t.Fatalf("%v: First(%d): %d, %d, not %d", what, f, i, e, want)
	}
}

func TestExample(t *testing.T) {
	m := made(t, 1)
	if n, e := slot.Used(m, 0); n != 0 || e != api.OK {
		t.Errorf("Used: %d, %d", n, e)
	}
	if i, e := slot.First(m, 0); i != 0 || e != api.OK {
		t.Errorf("First: %d, %d", i, e)
	}
	if l, e := slot.All(m, 0); !slices.Equal(l, make([]api.Cap, 16)) || e != api.OK {
		t.Errorf("All: %v, %d", l, e)
	}
}

// The chapter gives the errors by their numbers.
func TestErrorsNumbers(t *testing.T) {
	m := made(t, 1)
	if _, e := slot.Get(m, 0, 16); e != 1 {
		t.Errorf("Get: %d", e)
	}
	if e := slot.Put(m, 0, 16, api.Cap{}); e != 1 {
		t.Errorf("Put: %d", e)
	}
	if e := slot.Put(m, 0, 0, api.Cap{K: 12}); e != 1 {
		t.Errorf("Put of no kind: %d", e)
	}
	if _, e := slot.All(m, 1); e != 1 {
		t.Errorf("All of no frame: %d", e)
	}
	fill(t, m, 0, api.Cap{K: 1})
	if _, e := slot.First(m, 0); e != 3 {
		t.Errorf("First: %d", e)
	}
	set(t, m, 0, 4, 12)
	if _, e := slot.Get(m, 0, 0); e != 12 {
		t.Errorf("Get of no capability: %d", e)
	}
	if _, e := slot.Used(nil, 0); e != 13 {
		t.Errorf("Used of nil: %d", e)
	}
}

// Slot i is the words HeadWords + 2i and the next one, of each frame.
func TestWhichWords(t *testing.T) {
	for _, have := range []int{1, 2, 64} {
		for _, f := range []int{0, have / 2, have - 1} {
			for i := range count {
				m := full(t, have)
				want := look(t, m)
				c := api.Cap{K: api.CInv, R: 1, T: 2, L: 3, E: 4, A: 5}
				want[f][4+2*i], want[f][5+2*i] = 7+1*16+2*512+3*32768+4*2097152, 5
				if e := slot.Put(m, f, i, c); e != api.OK {
					t.Fatalf("Put(%d, %d): %d", f, i, e)
				}
				same(t, m, want, "Put", f, i)
				if got, e := slot.Get(m, f, i); got != c || e != api.OK {
					t.Fatalf("Get(%d, %d): %v, %d", f, i, got, e)
				}
				same(t, m, want, "Get", f, i)
			}
		}
	}
}

// There and back, in every slot, over what was there: the frame's other words, its head's
// among them, and other frames stay.
func TestGetUndoesPut(t *testing.T) {
	m := full(t, 3)
	want := look(t, m)
	for _, c := range some() {
		w := words(c)
		for i := range count {
			want[1][begin+2*i], want[1][begin+2*i+1] = w[0], w[1]
			if e := slot.Put(m, 1, i, c); e != api.OK {
				t.Fatalf("Put(%d, %v): %d", i, c, e)
			}
			same(t, m, want, "Put", i, c)
			if got, e := slot.Get(m, 1, i); got != c || e != api.OK {
				t.Fatalf("%v in %d is %v, %d", c, i, got, e)
			}
		}
	}
}

// Any capability over any other leaves nothing of it.
func TestPutOverAnother(t *testing.T) {
	m := full(t, 2)
	want := look(t, m)
	for _, i := range []int{0, 7, 15} {
		for a := range 12 {
			for b := range 12 {
				for _, c := range []api.Cap{each(a), each(b)} {
					w := words(c)
					want[0][begin+2*i], want[0][begin+2*i+1] = w[0], w[1]
					if e := slot.Put(m, 0, i, c); e != api.OK {
						t.Fatalf("Put(%d, %v): %d", i, c, e)
					}
				}
				same(t, m, want, i, a, b)
				if got, e := slot.Get(m, 0, i); got != each(b) || e != api.OK {
					t.Fatalf("%v behind %v is %v, %d", each(b), each(a), got, e)
				}
			}
		}
	}
}

// What the other slots have stays, be it a capability or not.
func TestOtherSlotsStay(t *testing.T) {
	m := made(t, 1)
	var have [count]api.Cap
	for i := range count {
		have[i] = api.Cap{K: api.CMem, R: i, T: i, A: i + 1}
		if e := slot.Put(m, 0, i, have[i]); e != api.OK {
			t.Fatalf("Put(%d): %d", i, e)
		}
	}
	for i := range count {
		for k := range 12 {
			have[i] = each(k)
			if e := slot.Put(m, 0, i, have[i]); e != api.OK {
				t.Fatalf("Put(%d, %v): %d", i, have[i], e)
			}
			for j := range count {
				if c, e := slot.Get(m, 0, j); c != have[j] || e != api.OK {
					t.Fatalf("behind Put(%d, %v): %d is %v, %d", i, have[i], j, c, e)
				}
			}
			if l, e := slot.All(m, 0); !slices.Equal(l, have[:]) || e != api.OK {
				t.Fatalf("All: %v, %d", l, e)
			}
		}
	}
}

// A slot that is none is told first: ahead of the memory, the frame and the capability.
func TestNoSuchSlot(t *testing.T) {
	for _, have := range []int{1, 2, 64} {
		m := full(t, have)
		fill(t, m, 0, each(2))
		want := look(t, m)
		for _, x := range []*mem.Mem{m, nil, {}} {
			for _, f := range append(frames(have), 0, have-1) {
				for _, i := range indexes() {
					if c, e := slot.Get(x, f, i); c != (api.Cap{}) || e != api.ErrArg {
						t.Fatalf("Get(%d, %d): %v, %d", f, i, c, e)
					}
					for _, c := range []api.Cap{{}, each(2), each(11), {K: 12}, {K: -1}} {
						if e := slot.Put(x, f, i, c); e != api.ErrArg {
							t.Fatalf("Put(%d, %d, %v): %d", f, i, c, e)
						}
					}
				}
			}
		}
		same(t, m, want, "no such slot")
	}
}

// A capability that is not right is told ahead of the memory and the frame, and nothing
// changes.
func TestWrongCaps(t *testing.T) {
	m := full(t, 2)
	want := look(t, m)
	for _, c := range wrong() {
		for _, x := range []*mem.Mem{m, nil, {}} {
			for _, f := range []int{0, 1, -1, 2} {
				for _, i := range []int{0, 7, 15} {
					if e := slot.Put(x, f, i, c); e != api.ErrArg {
						t.Fatalf("Put(%d, %d, %v): %d", f, i, c, e)
					}
				}
			}
		}
	}
	same(t, m, want, "wrong capabilities")
}

// What the chapters say, with words of its own for each refusal.
func TestPutRefuses(t *testing.T) {
	m := full(t, 1)
	want := look(t, m)
	for name, c := range map[string]api.Cap{
		"a kind below":                {K: -1},
		"a kind behind":               {K: 12},
		"a kind of 5 bits":            {K: 20},
		"a kind that wraps round":     {K: 1<<32 + 3},
		"none with a right":           {R: 1},
		"none with an amount":         {A: 1},
		"one that was, with a right":  {K: api.CQuiet, R: 1, A: 5},
		"one that was, behind":        {K: api.CQuiet, A: api.MaxTime + 1},
		"one that was, ahead of 0":    {K: api.CQuiet, A: -1},
		"memory of nothing":           {K: api.CMem, R: 1, T: 1},
		"memory behind the last one":  {K: api.CMem, T: 63, A: 2},
		"a table with an amount":      {K: api.CTbl, A: 1},
		"a table behind the last one": {K: api.CTbl, T: 64},
		"a table with an id":          {K: api.CTbl, L: 1},
		"a right too many":            {K: api.CTbl, R: 32},
		"rights below 0":              {K: api.CTbl, R: -1},
		"an epoch behind":             {K: api.CComp, E: api.MaxEpoch},
		"an id behind":                {K: api.CComp, L: api.MaxLive},
		"lines with a frame":          {K: api.CHw, T: 1},
	} {
		for i := range count {
			if e := slot.Put(m, 0, i, c); e != api.ErrArg {
				t.Errorf("%s: %d", name, e)
			}
		}
	}
	same(t, m, want, "refused")
}

// Frames that are not there: nothing changes.
func TestNoSuchFrame(t *testing.T) {
	for _, have := range []int{1, 2, 3, 63, 64} {
		m := full(t, have)
		want := look(t, m)
		for _, f := range frames(have) {
			if f >= 0 && f < have {
				continue
			}
			for i := range count {
				if c, e := slot.Get(m, f, i); c != (api.Cap{}) || e != api.ErrArg {
					t.Fatalf("Get(%d, %d) of %d: %v, %d", f, i, have, c, e)
				}
				for k := range 12 {
					if e := slot.Put(m, f, i, each(k)); e != api.ErrArg {
						t.Fatalf("Put(%d, %d) of %d: %d", f, i, have, e)
					}
				}
			}
			refused(t, m, f, api.ErrArg, have)
		}
		same(t, m, want, "no such frame")
	}
}

// A memory that nobody made is told ahead of a frame that is not there, each time.
func TestNoMemory(t *testing.T) {
	for _, m := range []*mem.Mem{nil, {}} {
		for _, f := range append(frames(1), 0, 1, 63) {
			for range 2 {
				for i := range count {
					if c, e := slot.Get(m, f, i); c != (api.Cap{}) || e != api.ErrZero {
						t.Fatalf("Get(%d, %d): %v, %d", f, i, c, e)
					}
					for k := range 12 {
						if e := slot.Put(m, f, i, each(k)); e != api.ErrZero {
							t.Fatalf("Put(%d, %d): %d", f, i, e)
						}
					}
				}
				refused(t, m, f, api.ErrZero)
			}
		}
		if m.Len() != 0 {
			t.Errorf("%d frames", m.Len())
		}
	}
}

// A frame of a new memory has free slots alone, all of them.
func TestNewFrames(t *testing.T) {
	m := made(t, 64)
	want := look(t, m)
	for f := range 64 {
		for i := range count {
			if c, e := slot.Get(m, f, i); c != (api.Cap{}) || e != api.OK {
				t.Fatalf("Get(%d, %d): %v, %d", f, i, c, e)
			}
		}
		hold(t, m, want, f)
	}
	same(t, m, want, "asked")
}

// Words that are no capability's, in each slot: that slot alone is refused, and the frame.
func TestBadWords(t *testing.T) {
	for _, w := range bad() {
		for bent := range count {
			m := made(t, 2)
			fill(t, m, 0, each(3))
			fill(t, m, 1, each(5))
			lay(t, m, 1, bent, w)
			want := look(t, m)
			for i := range count {
				c, e := slot.Get(m, 1, i)
				if i == bent && (c != (api.Cap{}) || e != api.ErrForm) {
					t.Fatalf("%v in %d: %v, %d", w, i, c, e)
				}
				if i != bent && (c != each(5) || e != api.OK) {
					t.Fatalf("beside %v: %d is %v, %d", w, i, c, e)
				}
			}
			refused(t, m, 1, api.ErrForm, w, bent)
			hold(t, m, want, 0)
			same(t, m, want, "asked")
		}
	}
}

// A free slot ahead of words that are no capability's, or behind them, is not told: that
// there are such words is told first.
func TestFirstTellsBadWords(t *testing.T) {
	for bent := range count {
		for free := range count {
			if free == bent {
				continue
			}
			m := made(t, 1)
			fill(t, m, 0, each(11))
			lay(t, m, 0, free, [2]uint64{})
			lay(t, m, 0, bent, [2]uint64{12})
			refused(t, m, 0, api.ErrForm, bent, free)
		}
		m := made(t, 1)
		lay(t, m, 0, bent, [2]uint64{12})
		refused(t, m, 0, api.ErrForm, bent, "all free")
		fill(t, m, 0, each(11))
		lay(t, m, 0, bent, [2]uint64{12})
		refused(t, m, 0, api.ErrForm, bent, "none free")
	}
}

// Several slots with such words are told as one.
func TestBadWordsInSeveral(t *testing.T) {
	for _, w := range bad() {
		for a := range count {
			for b := range count {
				m := made(t, 1)
				lay(t, m, 0, a, w)
				lay(t, m, 0, b, [2]uint64{1 << 40})
				refused(t, m, 0, api.ErrForm, a, b)
			}
		}
	}
	m := full(t, 1)
	refused(t, m, 0, api.ErrForm, "all")
	for i := range count {
		if c, e := slot.Get(m, 0, i); c != (api.Cap{}) || e != api.ErrForm {
			t.Fatalf("Get(%d): %v, %d", i, c, e)
		}
	}
}

// A slot that has such words may be put to, and the frame may be asked then.
func TestPutOverBadWords(t *testing.T) {
	for _, w := range bad() {
		for i := range count {
			m := made(t, 1)
			fill(t, m, 0, each(2))
			lay(t, m, 0, i, w)
			if e := slot.Put(m, 0, i, each(8)); e != api.OK {
				t.Fatalf("Put(%d) over %v: %d", i, w, e)
			}
			hold(t, m, look(t, m), 0)
			if n, e := slot.Used(m, 0); n != count || e != api.OK {
				t.Fatalf("Used: %d, %d", n, e)
			}
		}
	}
}

// What lies in the head is not looked at, whatever it is; nor are other frames.
func TestOtherWords(t *testing.T) {
	for _, w := range []uint64{0, 1, 7, 12, 1 << 40, math.MaxUint64} {
		m := full(t, 3)
		fill(t, m, 1, each(6))
		for at := range begin {
			set(t, m, 1, at, w)
		}
		want := look(t, m)
		for i := range count {
			if c, e := slot.Get(m, 1, i); c != each(6) || e != api.OK {
				t.Fatalf("Get(%d): %v, %d", i, c, e)
			}
		}
		hold(t, m, want, 1)
		refused(t, m, 0, api.ErrForm)
		refused(t, m, 2, api.ErrForm)
		same(t, m, want, "asked")
	}
}

// Each kind counts, but for none and for one that was.
func TestUsedKinds(t *testing.T) {
	for _, c := range some() {
		m := made(t, 1)
		for i := range count {
			lay(t, m, 0, i, words(c))
			want := i + 1
			if c.K == api.CNone || c.K == api.CQuiet {
				want = 0
			}
			if n, e := slot.Used(m, 0); n != want || e != api.OK {
				t.Fatalf("%d of %v: %d, %d", i+1, c, n, e)
			}
		}
	}
}

// Each slot counts, wherever it is.
func TestUsedPlaces(t *testing.T) {
	for i := range count {
		m := made(t, 1)
		lay(t, m, 0, i, words(each(9)))
		if n, e := slot.Used(m, 0); n != 1 || e != api.OK {
			t.Errorf("%d: %d, %d", i, n, e)
		}
		fill(t, m, 0, each(9))
		lay(t, m, 0, i, words(each(1)))
		if n, e := slot.Used(m, 0); n != count-1 || e != api.OK {
			t.Errorf("all but %d: %d, %d", i, n, e)
		}
	}
}

// The first free slot, wherever it is, and whatever is free behind it.
func TestFirstPlaces(t *testing.T) {
	for k := 1; k < 12; k++ {
		for i := range count {
			m := made(t, 1)
			fill(t, m, 0, each(k))
			lay(t, m, 0, i, [2]uint64{})
			if got, e := slot.First(m, 0); got != i || e != api.OK {
				t.Errorf("%d among %d: %d, %d", i, k, got, e)
			}
			for j := i + 1; j < count; j++ {
				lay(t, m, 0, j, [2]uint64{})
				if got, e := slot.First(m, 0); got != i || e != api.OK {
					t.Errorf("%d and %d among %d: %d, %d", i, j, k, got, e)
				}
			}
		}
	}
}

// A frame that is full has no free slot; nor has one whose slots had something.
func TestFirstOfNone(t *testing.T) {
	for _, c := range some() {
		if c.K == api.CNone {
			continue
		}
		m := made(t, 1)
		fill(t, m, 0, c)
		if i, e := slot.First(m, 0); i != 0 || e != api.ErrNone {
			t.Fatalf("full of %v: %d, %d", c, i, e)
		}
		want := count
		if c.K == api.CQuiet {
			want = 0
		}
		if n, e := slot.Used(m, 0); n != want || e != api.OK {
			t.Fatalf("full of %v: %d, %d", c, n, e)
		}
	}
}

// A slot that had something till the time 0 is not free, though its second word is 0.
func TestQuietAtZero(t *testing.T) {
	m := made(t, 1)
	for i := range count {
		if e := slot.Put(m, 0, i, api.Cap{K: api.CQuiet}); e != api.OK {
			t.Fatalf("Put(%d): %d", i, e)
		}
		want, wantE := i+1, api.OK
		if want == count {
			want, wantE = 0, api.ErrNone
		}
		if first, e := slot.First(m, 0); first != want || e != wantE {
			t.Errorf("First behind %d: %d, %d", i, first, e)
		}
	}
}

// Slots are filled one behind the other by First and Put, and freed by none.
func TestFillAndFree(t *testing.T) {
	m := made(t, 2)
	for i := range count {
		first, e := slot.First(m, 1)
		if first != i || e != api.OK {
			t.Fatalf("First: %d, %d", first, e)
		}
		if e := slot.Put(m, 1, first, each(2+i%10)); e != api.OK {
			t.Fatalf("Put: %d", e)
		}
		hold(t, m, look(t, m), 1)
	}
	if _, e := slot.First(m, 1); e != api.ErrNone {
		t.Errorf("full: %d", e)
	}
	for i := count - 1; i >= 0; i-- {
		if e := slot.Put(m, 1, i, api.Cap{}); e != api.OK {
			t.Fatalf("Put: %d", e)
		}
		if first, e := slot.First(m, 1); first != i || e != api.OK {
			t.Errorf("First: %d, %d, not %d", first, e, i)
		}
		hold(t, m, look(t, m), 1)
	}
	same(t, m, make([]frame, 2), "freed")
}

// The list is the caller's: neither the memory nor another list changes with it.
func TestListIsNew(t *testing.T) {
	m := made(t, 1)
	fill(t, m, 0, each(5))
	want := look(t, m)
	one, _ := slot.All(m, 0)
	other, _ := slot.All(m, 0)
	for i := range one {
		one[i] = api.Cap{K: 12}
	}
	_ = append(one[:0], api.Cap{K: 13})
	same(t, m, want, "the memory")
	for i, c := range other {
		if c != each(5) {
			t.Errorf("%d is %v", i, c)
		}
	}
	if e := slot.Put(m, 0, 3, each(7)); e != api.OK {
		t.Fatalf("Put: %d", e)
	}
	if other[3] != each(5) {
		t.Errorf("behind Put: %v", other[3])
	}
}

// Two memories have nothing of each other.
func TestTwoMemories(t *testing.T) {
	a, b := made(t, 2), made(t, 2)
	fill(t, b, 1, each(4))
	want := look(t, b)
	for i := range count {
		if e := slot.Put(a, 1, i, each(7)); e != api.OK {
			t.Fatalf("Put: %d", e)
		}
	}
	same(t, b, want, "the other")
	hold(t, b, want, 1)
}

// One bit that is another, of both words, in slots at the ends and between.
func TestBits(t *testing.T) {
	m := made(t, 1)
	for _, i := range []int{0, 7, 15} {
		for k := range 12 {
			for word := range 2 {
				for bit := range 64 {
					w := words(each(k))
					w[word] ^= 1 << bit
					lay(t, m, 0, i, w)
					want := look(t, m)
					c, e := slot.Get(m, 0, i)
					if wantC, wantE := getModel(want, 0, i); c != wantC || e != wantE {
						t.Fatalf("%v: %v, %d, not %v, %d", w, c, e, wantC, wantE)
					}
					hold(t, m, want, 0)
				}
			}
			lay(t, m, 0, i, [2]uint64{})
		}
	}
}

// Any calls in any order, with numbers near the ranges and far from them.
func TestManyCalls(t *testing.T) {
	x := uint64(11)
	next := func(n int) int {
		x = x*6364136223846793005 + 1442695040888963407
		return int(x >> 33 % uint64(n))
	}
	near := func(most int) int {
		switch next(24) {
		case 0:
			return outside()[next(len(outside()))]
		case 1:
			return most + 1
		case 2:
			return -1
		}
		return next(most + 1)
	}
	caps, no, none := some(), wrong(), bad()
	for _, have := range []int{1, 3, 64} {
		m := made(t, have)
		all := look(t, m)
		for step := range 40000 {
			f, i := near(have-1), near(15)
			switch next(8) {
			case 0, 1, 2:
				c := caps[next(len(caps))]
				switch next(8) {
				case 0:
					c = no[next(len(no))]
				case 1:
					c = api.Cap{}
				case 2:
					c = each(next(12))
				}
				if e, want := slot.Put(m, f, i, c), putModel(all, f, i, c); e != want {
					t.Fatalf("%d: Put(%d, %d, %v): %d, not %d", step, f, i, c, e, want)
				}
			case 3:
				// Frames that have been bent are cleared at times, lest they all stay so.
				g, at := next(have), next(count)
				if next(3) == 0 {
					w := none[next(len(none))]
					lay(t, m, g, at, w)
					all[g][4+2*at], all[g][5+2*at] = w[0], w[1]
				} else if next(3) == 0 {
					m.Clear(g)
					all[g] = frame{}
				}
			case 4:
				hold(t, m, all, f)
			default:
				c, e := slot.Get(m, f, i)
				if want, wantE := getModel(all, f, i); c != want || e != wantE {
					t.Fatalf("%d: Get(%d, %d): %v, %d, not %v, %d", step, f, i, c, e, want, wantE)
				}
			}
			if step%64 == 0 {
				same(t, m, all, step)
			}
		}
		same(t, m, all, "the end")
	}
}

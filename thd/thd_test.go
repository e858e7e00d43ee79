package thd_test

import (
	"math"
	"slices"
	"testing"

	"palanquin/api"
	"palanquin/comp"
	"palanquin/head"
	"palanquin/mem"
	"palanquin/regs"
	"palanquin/thd"
)

// thdHead is the first word of a thread's head; the other three are 0.
const thdHead = 4

type frame [36]uint64

// file is what registers have; one that no call made has none.
type file []uint64

// model is a model of a memory: what the calls answer and change is held against it. One
// without frames is that of no memory.
type model struct {
	words []frame
}

func within(v int, least int, most int) bool { return least <= v && v <= most }

// right tells whether a thread can be, by the chapter's words.
func right(x api.Thd) bool {
	return within(x.State, 0, 3) && within(x.Core, 0, 3) && within(x.Tcap, 0, 63) &&
		within(x.Rcv, 0, 64) && within(x.Depth, 0, 6)
}

// words are those of a thread that is right.
func words(x api.Thd) [5]uint64 {
	return [5]uint64{uint64(x.State), uint64(x.Core), uint64(x.Tcap), uint64(x.Rcv), uint64(x.Depth)}
}

// thdOf is the thread that words are of, if they are a right one's.
func thdOf(w [5]uint64) (api.Thd, bool) {
	if slices.Max(w[:]) > 64 {
		return api.Thd{}, false
	}
	x := of(int(w[0]), int(w[1]), int(w[2]), int(w[3]), int(w[4]))
	if !right(x) {
		return api.Thd{}, false
	}
	return x, true
}

func (d *model) has(f int) bool { return f >= 0 && f < len(d.words) }

func (d *model) isThd(f int) bool {
	return d.has(f) && [4]uint64(d.words[f][:4]) == [4]uint64{thdHead}
}

func check(x api.Thd) api.Errno {
	if right(x) {
		return api.OK
	}
	return api.ErrArg
}

func (d *model) make(f int, x api.Thd) api.Errno {
	switch {
	case !right(x):
		return api.ErrArg
	case len(d.words) == 0:
		return api.ErrZero
	case !d.has(f):
		return api.ErrArg
	}
	d.begin(f, x)
	return api.OK
}

func (d *model) get(f int) (api.Thd, api.Errno) {
	if !d.isThd(f) {
		return api.Thd{}, api.ErrType
	}
	x, ok := thdOf([5]uint64(d.words[f][4:9]))
	if !ok {
		return api.Thd{}, api.ErrForm
	}
	return x, api.OK
}

func (d *model) put(f int, x api.Thd) api.Errno {
	if !right(x) {
		return api.ErrArg
	}
	if !d.isThd(f) {
		return api.ErrType
	}
	d.lay(f, words(x))
	return api.OK
}

func (d *model) state(f int, s int) api.Errno {
	if _, e := d.get(f); e != api.OK {
		return e
	}
	if !within(s, 0, 3) {
		return api.ErrArg
	}
	d.words[f][4] = uint64(s)
	return api.OK
}

func (d *model) save(f int, l file) api.Errno {
	if len(l) == 0 {
		return api.ErrZero
	}
	if !d.isThd(f) {
		return api.ErrType
	}
	copy(d.words[f][9:17], l)
	return api.OK
}

func (d *model) load(f int, l file) api.Errno {
	if len(l) == 0 {
		return api.ErrZero
	}
	if !d.isThd(f) {
		return api.ErrType
	}
	copy(l, d.words[f][9:17])
	return api.OK
}

func (d *model) reg(f int, i int, w uint64) api.Errno {
	if !d.isThd(f) {
		return api.ErrType
	}
	if !within(i, 0, 7) {
		return api.ErrArg
	}
	d.words[f][9+i] = w
	return api.OK
}

// begin makes frame f the thread x, and nothing else.
func (d *model) begin(f int, x api.Thd) {
	d.words[f] = frame{thdHead}
	d.lay(f, words(x))
}

// lay makes w the words that frame f has as a thread, ahead of its registers.
func (d *model) lay(f int, w [5]uint64) { copy(d.words[f][4:9], w[:]) }

// blank is a model of frames of which no two words are the same, and none is a head's or a
// thread's.
func blank(frames int) *model {
	d := &model{words: make([]frame, frames)}
	for f := range d.words {
		for at := range d.words[f] {
			d.words[f][at] = 1<<40 + uint64(1000*f+at)
		}
	}
	return d
}

// of is a thread, with all its parts in their order.
func of(state int, core int, tcap int, rcv int, depth int) api.Thd {
	return api.Thd{State: state, Core: core, Tcap: tcap, Rcv: rcv, Depth: depth}
}

// one is a thread of which no two parts are the same.
func one() api.Thd { return of(1, 2, 33, 44, 5) }

// other is one that differs from it in every part.
func other() api.Thd { return of(2, 3, 11, 0, 6) }

// full is one with each part at its end.
func full() api.Thd { return of(3, 3, 63, 64, 6) }

// plain has two threads, 1 and 3, and between and behind them frames of something else; the
// threads have registers that differ, and behind them other words.
func plain() *model {
	d := blank(5)
	for f, x := range map[int]api.Thd{1: one(), 3: other()} {
		copy(d.words[f][:4], []uint64{thdHead, 0, 0, 0})
		d.lay(f, words(x))
	}
	return d
}

// real is a memory with the words of the model.
func (d *model) real(t *testing.T) *mem.Mem {
	t.Helper()
	m, e := mem.New(len(d.words))
	if e != api.OK {
		t.Fatalf("New(%d): %d", len(d.words), e)
	}
	for f := range d.words {
		d.write(t, m, f)
	}
	return m
}

// write makes the words of frame f of m those of the model.
func (d *model) write(t *testing.T, m *mem.Mem, f int) {
	for at, w := range d.words[f] {
		if e := m.Store(f, at, w); e != api.OK {
			t.Helper()
			t.Fatalf("Store(%d, %d): %d", f, at, e)
		}
	}
}

// same fails if the words of m are others than the model's.
func (d *model) same(t *testing.T, m *mem.Mem, what ...any) {
	if m.Len() != len(d.words) {
		t.Helper()
		t.Fatalf("%v: %d frames, not %d", what, m.Len(), len(d.words))
	}
	for f := range d.words {
		got, e := m.Words(f)
		if e != api.OK || !slices.Equal(got, d.words[f][:]) {
			t.Helper()
			t.Fatalf("%v: frame %d is %v, %d, not %v", what, f, got, e, d.words[f])
		}
	}
}

// loaded is what registers with the n-th of many lists have; the lists differ in each word.
func loaded(n int) file {
	l := make(file, 8)
	for i := range l {
		l[i] = 1<<50 + uint64(n*100+i)
	}
	return l
}

// edges is what registers with words at their ends have.
func edges() file {
	return file{0, 1, 1 << 31, 1<<32 - 1, 1 << 32, 1 << 63, math.MaxUint64 - 1, math.MaxUint64}
}

// real is registers with the words of l; without any, registers that no call made.
func (l file) real(t *testing.T) *regs.File {
	t.Helper()
	if len(l) == 0 {
		return &regs.File{}
	}
	r := regs.New()
	if e := r.Load(l); e != api.OK {
		t.Fatalf("Load of %v: %d", l, e)
	}
	return r
}

// same fails if the registers of r are others than l.
func (l file) same(t *testing.T, r *regs.File, what ...any) {
	if got := r.All(); !slices.Equal(got, l) {
		t.Helper()
		t.Fatalf("%v: registers %v, not %v", what, got, l)
	}
}

// Each of these calls both, and fails where the answers differ, or where the words or the
// registers do behind it: so what is refused has changed nothing, and what is not no more
// than is meant.

func doMake(t *testing.T, m *mem.Mem, d *model, f int, x api.Thd) api.Errno {
	t.Helper()
	e, want := thd.Make(m, f, x), d.make(f, x)
	if e != want {
		t.Fatalf("Make(%d, %v): %d, not %d", f, x, e, want)
	}
	d.same(t, m, "Make", f, x)
	return e
}

func doGet(t *testing.T, m *mem.Mem, d *model, f int) api.Errno {
	t.Helper()
	x, e := thd.Get(m, f)
	wantX, want := d.get(f)
	if x != wantX || e != want || e != api.OK && x != (api.Thd{}) {
		t.Fatalf("Get(%d): %v, %d, not %v, %d", f, x, e, wantX, want)
	}
	d.same(t, m, "Get", f)
	return e
}

func doPut(t *testing.T, m *mem.Mem, d *model, f int, x api.Thd) api.Errno {
	t.Helper()
	e, want := thd.Put(m, f, x), d.put(f, x)
	if e != want {
		t.Fatalf("Put(%d, %v): %d, not %d", f, x, e, want)
	}
	d.same(t, m, "Put", f, x)
	return e
}

func doState(t *testing.T, m *mem.Mem, d *model, f int, s int) api.Errno {
	t.Helper()
	e, want := thd.State(m, f, s), d.state(f, s)
	if e != want {
		t.Fatalf("State(%d, %d): %d, not %d", f, s, e, want)
	}
	d.same(t, m, "State", f, s)
	return e
}

func doSave(t *testing.T, m *mem.Mem, d *model, f int, r *regs.File, l file) api.Errno {
	t.Helper()
	e, want := thd.Save(m, f, r), d.save(f, l)
	if e != want {
		t.Fatalf("Save(%d, %v): %d, not %d", f, l, e, want)
	}
	d.same(t, m, "Save", f, l)
	l.same(t, r, "Save", f)
	return e
}

func doLoad(t *testing.T, m *mem.Mem, d *model, f int, r *regs.File, l file) api.Errno {
	t.Helper()
	e, want := thd.Load(m, f, r), d.load(f, l)
	if e != want {
		t.Fatalf("Load(%d): %d, not %d", f, e, want)
	}
	d.same(t, m, "Load", f)
	l.same(t, r, "Load", f)
	return e
}

func doReg(t *testing.T, m *mem.Mem, d *model, f int, i int, w uint64) api.Errno {
	t.Helper()
	e, want := thd.Reg(m, f, i, w), d.reg(f, i, w)
	if e != want {
		t.Fatalf("Reg(%d, %d, %d): %d, not %d", f, i, w, e, want)
	}
	d.same(t, m, "Reg", f, i, w)
	return e
}

// outside are numbers that lie behind every range. Some of them, cut to fewer bits, or with 1
// added, come back into one.
func outside() []int {
	out := []int{
		math.MinInt, math.MinInt + 1, math.MinInt + 3, math.MaxInt - 1, math.MaxInt,
		-1<<32 + 3, -65536, -65535, -256, -255, -128, -65, -64, -63, -9, -8, -7, -4, -3, -2, -1,
		128, 131, 256, 257, 259, 65536, 65539, 1 << 30, 1<<30 + 1,
	}
	for bit := 31; bit < 63; bit++ {
		out = append(out, 1<<bit, 1<<bit+3, -1<<bit, -1<<bit+3)
	}
	return out
}

// frames are those that a memory of that many has not.
func frames(have int) []int {
	return append(outside(), have, have+1, 2*have, have+64)
}

// noStates are numbers that are no state.
func noStates() []int { return append(outside(), 4, 5, 6, 7, 8, 64) }

// noRegs are numbers that are no register; some would lie in the frame, ahead of the
// registers or behind them, or in the next frame.
func noRegs() []int {
	all := outside()
	for i := -80; i <= 80; i++ {
		if i < 0 || i > 7 {
			all = append(all, i)
		}
	}
	return all
}

// part is one of a thread's: which it is, and its greatest number.
type part struct {
	name string
	of   func(*api.Thd) *int
	most int
}

func parts() []part {
	return []part{
		{"State", func(x *api.Thd) *int { return &x.State }, 3},
		{"Core", func(x *api.Thd) *int { return &x.Core }, 3},
		{"Tcap", func(x *api.Thd) *int { return &x.Tcap }, 63},
		{"Rcv", func(x *api.Thd) *int { return &x.Rcv }, 64},
		{"Depth", func(x *api.Thd) *int { return &x.Depth }, 6},
	}
}

// behind are numbers that are none of a part's.
func (p part) behind() []int {
	return append(outside(), p.most+1, p.most+2, 2*p.most+2, 2*p.most+9, 4*p.most+4)
}

// wrong are threads of which one part is not as it must be, or several are not.
func wrong() []api.Thd {
	var all []api.Thd
	for _, base := range []api.Thd{{}, one(), other(), full()} {
		for _, p := range parts() {
			for _, v := range p.behind() {
				x := base
				*p.of(&x) = v
				all = append(all, x)
			}
		}
	}
	for _, v := range append(outside(), 65) {
		all = append(all, of(v, v, v, v, v))
	}
	return append(all, of(4, 4, 64, 65, 7), of(-1, -1, -1, -1, -1), of(4, 0, 0, 0, 7), of(0, 4, 64, 0, 0))
}

// some are threads that are right: each part at both ends, and between, with all others so.
func some() []api.Thd {
	var all []api.Thd
	for state := range 4 {
		for core := range 4 {
			for _, tcap := range []int{0, 1, 5, 62, 63} {
				for _, rcv := range []int{0, 1, 6, 63, 64} {
					for depth := range 7 {
						all = append(all, of(state, core, tcap, rcv, depth))
					}
				}
			}
		}
	}
	return all
}

// few are some of them.
func few() []api.Thd {
	return []api.Thd{{}, one(), other(), full(), {State: 3, Tcap: 63, Depth: 6}, {Core: 3, Rcv: 64}, of(1, 1, 1, 1, 1)}
}

// wrongHeads are the first four words of frames that are no threads.
func wrongHeads() [][4]uint64 {
	all := [][4]uint64{
		{}, {1}, {17}, {33, 7}, {49, 7}, {2}, {18}, {3}, {5}, {6}, // of other kinds
		{7}, {8}, {12}, {15}, {20}, {36}, {52}, {36, 7}, {68}, {128 + 4}, // of none
		{4, 1}, {4, 1 << 30}, {4, 1 << 32}, {4, 0, 1}, {4, 0, 0, 1},
		{0, 4}, {0, 0, 4}, {0, 0, 0, 4},
		{math.MaxUint64, math.MaxUint64, math.MaxUint64, math.MaxUint64},
	}
	for at := range 4 {
		for bit := range 64 {
			w := [4]uint64{thdHead}
			w[at] ^= 1 << bit
			all = append(all, w)
		}
	}
	return all
}

// wrongWords are words that are no right thread's, each of the five alone among them.
func wrongWords() [][5]uint64 {
	var all [][5]uint64
	for _, x := range []api.Thd{{}, one(), other(), full()} {
		for i, p := range parts() {
			for _, v := range p.behind() {
				w := words(x)
				w[i] = uint64(v)
				all = append(all, w)
			}
			for _, v := range []uint64{1 << 63, 1<<63 + 3, math.MaxUint64 - 3, math.MaxUint64} {
				w := words(x)
				w[i] = v
				all = append(all, w)
			}
		}
	}
	return append(all, [5]uint64{4, 4, 64, 65, 7}, [5]uint64{0: 4, 4: 7}, [5]uint64{1: 4, 3: 65})
}

func TestExample(t *testing.T) {
	m, _ := mem.New(2)
	if e := thd.Make(m, 1, api.Thd{State: api.TRuns, Core: 1, Tcap: 5, Rcv: 6, Depth: 2}); e != api.OK {
		t.Fatalf("Make: %d", e)
	}
	if e := thd.State(m, 1, api.TDead); e != api.OK {
		t.Errorf("State: %d", e)
	}
	if x, e := thd.Get(m, 1); x != (api.Thd{State: 3, Core: 1, Tcap: 5, Rcv: 6, Depth: 2}) || e != api.OK {
		t.Errorf("Get: %v, %d", x, e)
	}
}

// The chapter gives the errors by their numbers, and where the words lie.
func TestNumbers(t *testing.T) {
	m, _ := mem.New(2)
	x := api.Thd{State: 1, Core: 2, Tcap: 3, Rcv: 4, Depth: 5}
	if e := thd.Make(m, 1, x); e != 0 {
		t.Fatalf("Make: %d", e)
	}
	r := regs.New()
	r.Load([]uint64{11, 12, 13, 14, 15, 16, 17, 18})
	get := func(m *mem.Mem, f int) api.Errno {
		_, e := thd.Get(m, f)
		return e
	}
	for _, x := range []struct {
		name string
		got  api.Errno
		want api.Errno
	}{
		{"Check", thd.Check(x), 0},
		{"Check of no state", thd.Check(api.Thd{State: 4}), 1},
		{"Make of no state", thd.Make(m, 0, api.Thd{State: 4}), 1},
		{"Make in no frame", thd.Make(m, 2, x), 1},
		{"Make in no memory", thd.Make(nil, 0, x), 13},
		{"Get", get(m, 1), 0},
		{"Get of something else", get(m, 0), 4},
		{"Get of no frame", get(m, 2), 4},
		{"Get of no memory", get(nil, 0), 4},
		{"Put", thd.Put(m, 1, x), 0},
		{"Put of no state", thd.Put(m, 1, api.Thd{State: 4}), 1},
		{"Put in something else", thd.Put(m, 0, x), 4},
		{"Put in no frame", thd.Put(m, 2, x), 4},
		{"Put in no memory", thd.Put(nil, 0, x), 4},
		{"State", thd.State(m, 1, 1), 0},
		{"State of no state", thd.State(m, 1, 4), 1},
		{"State of something else", thd.State(m, 0, 1), 4},
		{"State of no memory", thd.State(nil, 1, 1), 4},
		{"Save", thd.Save(m, 1, r), 0},
		{"Save of nil", thd.Save(m, 1, nil), 13},
		{"Save in something else", thd.Save(m, 0, r), 4},
		{"Save in no memory", thd.Save(nil, 1, r), 4},
		{"Load", thd.Load(m, 1, r), 0},
		{"Load of nil", thd.Load(m, 1, nil), 13},
		{"Load of something else", thd.Load(m, 0, r), 4},
		{"Load of no memory", thd.Load(nil, 1, r), 4},
		{"Reg", thd.Reg(m, 1, 7, 28), 0},
		{"Reg behind", thd.Reg(m, 1, 8, 29), 1},
		{"Reg below", thd.Reg(m, 1, -1, 29), 1},
		{"Reg in something else", thd.Reg(m, 0, 7, 29), 4},
		{"Reg in no memory", thd.Reg(nil, 1, 7, 29), 4},
	} {
		if x.got != x.want {
			t.Errorf("%s: %d, not %d", x.name, x.got, x.want)
		}
	}
	want := frame{4, 0, 0, 0, 1, 2, 3, 4, 5, 11, 12, 13, 14, 15, 16, 17, 28}
	if got, _ := m.Words(1); !slices.Equal(got, want[:]) {
		t.Errorf("the words are %v", got)
	}
	if got, _ := m.Words(0); !slices.Equal(got, make([]uint64, 36)) {
		t.Errorf("the words of the other are %v", got)
	}
	m.Store(1, 4, 4)
	if e := get(m, 1); e != 12 {
		t.Errorf("Get of bad words: %d", e)
	}
	if e := thd.State(m, 1, 1); e != 12 {
		t.Errorf("State of bad words: %d", e)
	}
}

// Each part alone, over its whole range and behind it, with different others.
func TestCheckEachPart(t *testing.T) {
	for _, base := range few() {
		for _, p := range parts() {
			values := p.behind()
			for v := -300; v <= p.most+300; v++ {
				values = append(values, v)
			}
			for _, v := range values {
				x := base
				*p.of(&x) = v
				want := api.ErrArg
				if v >= 0 && v <= p.most {
					want = api.OK
				}
				if e := thd.Check(x); e != want || e != check(x) {
					t.Fatalf("%s %d: %v: %d, not %d", p.name, v, x, e, want)
				}
			}
		}
	}
}

// What the chapter says, with words of its own for each.
func TestCheckEnds(t *testing.T) {
	for name, x := range map[string]api.Thd{
		"nothing":               {},
		"one that is ready":     {State: api.TReady, Tcap: 1},
		"one that runs":         {State: api.TRuns},
		"one that waits":        {State: api.TWaits},
		"a dead one":            {State: api.TDead},
		"the last core":         {Core: api.MaxCores - 1},
		"the last budget":       {Tcap: api.MaxFrames - 1},
		"the first endpoint":    {Rcv: 1},
		"the last endpoint":     {Rcv: api.MaxFrames},
		"the most records":      {Depth: api.MaxDepth},
		"every part at its end": of(3, 3, 63, 64, 6),
		"every part at 1":       of(1, 1, 1, 1, 1),
	} {
		if e := thd.Check(x); e != api.OK {
			t.Errorf("%s: %d", name, e)
		}
	}
	for name, x := range map[string]api.Thd{
		"a state behind":      {State: api.TDead + 1},
		"a state below":       {State: api.TReady - 1},
		"a core behind":       {Core: api.MaxCores},
		"a core below":        {Core: -1},
		"a budget behind":     {Tcap: api.MaxFrames},
		"a budget below":      {Tcap: -1},
		"an endpoint behind":  {Rcv: api.MaxFrames + 1},
		"an endpoint below":   {Rcv: -1},
		"too many records":    {Depth: api.MaxDepth + 1},
		"records below":       {Depth: -1},
		"a dead one, behind":  {State: api.TDead, Core: api.MaxCores},
		"the least of depths": {Depth: math.MinInt},
		"the most of depths":  {Depth: math.MaxInt},
		"every part behind":   of(4, 4, 64, 65, 7),
		"every part below":    of(-1, -1, -1, -1, -1),
	} {
		if e := thd.Check(x); e != api.ErrArg {
			t.Errorf("%s: %d", name, e)
		}
	}
}

// All threads of which each part is at an end, ahead of it or behind it.
func TestCheckAllEnds(t *testing.T) {
	count := 0
	for _, state := range []int{-1, 0, 3, 4} {
		for _, core := range []int{-1, 0, 3, 4} {
			for _, tcap := range []int{-1, 0, 63, 64} {
				for _, rcv := range []int{-1, 0, 64, 65} {
					for _, depth := range []int{-1, 0, 6, 7} {
						x := of(state, core, tcap, rcv, depth)
						if e, want := thd.Check(x), check(x); e != want {
							t.Fatalf("%v: %d, not %d", x, e, want)
						}
						if thd.Check(x) == api.OK {
							count++
						}
					}
				}
			}
		}
	}
	if count != 32 {
		t.Errorf("%d are right", count)
	}
}

// A thread is made in a frame of any words, of which none is left, in memories of one frame
// to the most; other frames stay, and its registers are all 0.
func TestMake(t *testing.T) {
	for _, have := range []int{1, 2, 3, 64} {
		for f := range have {
			d := blank(have)
			m := d.real(t)
			for n, x := range few() {
				if e := doMake(t, m, d, f, x); e != api.OK {
					t.Fatalf("Make(%d, %v): %d", f, x, e)
				}
				doGet(t, m, d, f)
				l := loaded(n)
				r := l.real(t)
				if e := doLoad(t, m, d, f, r, l); e != api.OK {
					t.Fatalf("Load(%d): %d", f, e)
				}
				file(make([]uint64, 8)).same(t, r, "behind Make")
				doSave(t, m, d, f, edges().real(t), edges())
			}
		}
	}
}

// What was in the frame is all the same: something else, a thread, words that are none's.
func TestMakeOver(t *testing.T) {
	for _, w := range append(wrongHeads(), [4]uint64{thdHead}) {
		for _, x := range []api.Thd{{}, one()} {
			d := blank(2)
			copy(d.words[1][:4], w[:])
			m := d.real(t)
			if e := doMake(t, m, d, 1, x); e != api.OK {
				t.Fatalf("Make over %v: %d", w, e)
			}
			if got, e := thd.Get(m, 1); got != x || e != api.OK {
				t.Fatalf("Make over %v: %v, %d", w, got, e)
			}
		}
	}
	for _, w := range wrongWords() {
		d := plain()
		d.lay(1, w)
		m := d.real(t)
		if e := doMake(t, m, d, 1, one()); e != api.OK {
			t.Fatalf("Make over %v: %d", w, e)
		}
	}
}

// A thread that is not right is told ahead of the memory, the frame and what that is.
func TestWrongFirst(t *testing.T) {
	d := plain()
	m := d.real(t)
	for _, x := range wrong() {
		if e := thd.Check(x); e != api.ErrArg {
			t.Fatalf("Check(%v): %d", x, e)
		}
		for i, n := range []*mem.Mem{m, nil, {}} {
			for _, f := range []int{1, 3, 0, 4, -1, 5, math.MinInt, math.MaxInt} {
				if e := thd.Make(n, f, x); e != api.ErrArg {
					t.Fatalf("Make(%d, %d, %v): %d", i, f, x, e)
				}
				if e := thd.Put(n, f, x); e != api.ErrArg {
					t.Fatalf("Put(%d, %d, %v): %d", i, f, x, e)
				}
			}
		}
		d.same(t, m, "wrong", x)
	}
}

// Registers that are nil, or that no call made, are told ahead of the memory, the frame, what
// that is and its words.
func TestNoRegistersFirst(t *testing.T) {
	d := plain()
	d.lay(3, [5]uint64{4, 4, 64, 65, 7})
	m := d.real(t)
	none := &model{}
	for range 2 {
		for _, r := range []*regs.File{nil, {}} {
			for _, f := range append(frames(5), 0, 1, 2, 3, 4) {
				if e := doSave(t, m, d, f, r, nil); e != api.ErrZero {
					t.Fatalf("Save(%d): %d", f, e)
				}
				if e := doLoad(t, m, d, f, r, nil); e != api.ErrZero {
					t.Fatalf("Load(%d): %d", f, e)
				}
				for _, n := range []*mem.Mem{nil, {}} {
					if e := doSave(t, n, none, f, r, nil); e != api.ErrZero {
						t.Fatalf("Save(%d) of no memory: %d", f, e)
					}
					if e := doLoad(t, n, none, f, r, nil); e != api.ErrZero {
						t.Fatalf("Load(%d) of no memory: %d", f, e)
					}
				}
			}
		}
	}
}

// notThere fails if one of the calls but Make finds a thread in frame f, or changes anything;
// that it is none is told ahead of a state and of a register that can't be.
func notThere(t *testing.T, m *mem.Mem, d *model, f int) {
	t.Helper()
	for _, x := range []api.Thd{{}, one(), full()} {
		if e := doPut(t, m, d, f, x); e != api.ErrType {
			t.Fatalf("Put(%d, %v): %d", f, x, e)
		}
	}
	if e := doGet(t, m, d, f); e != api.ErrType {
		t.Fatalf("Get(%d): %d", f, e)
	}
	for _, s := range []int{0, 1, 2, 3, -1, 4, math.MinInt, math.MaxInt} {
		if e := doState(t, m, d, f, s); e != api.ErrType {
			t.Fatalf("State(%d, %d): %d", f, s, e)
		}
	}
	l := loaded(1)
	r := l.real(t)
	if e := doSave(t, m, d, f, r, l); e != api.ErrType {
		t.Fatalf("Save(%d): %d", f, e)
	}
	if e := doLoad(t, m, d, f, r, l); e != api.ErrType {
		t.Fatalf("Load(%d): %d", f, e)
	}
	loaded(1).same(t, r, "not there", f)
	for _, i := range []int{0, 3, 7, -1, 8, math.MinInt, math.MaxInt} {
		if e := doReg(t, m, d, f, i, 77); e != api.ErrType {
			t.Fatalf("Reg(%d, %d): %d", f, i, e)
		}
	}
}

// Of a memory that is nil, or that no call made, Make tells that ahead of the frame; to the
// others there is no thread there.
func TestNoMemory(t *testing.T) {
	for _, m := range []*mem.Mem{nil, {}} {
		d := &model{}
		for _, f := range append(frames(1), 0, 1, 3, 63) {
			for range 2 {
				for _, x := range few() {
					if e := doMake(t, m, d, f, x); e != api.ErrZero {
						t.Fatalf("Make(%d, %v): %d", f, x, e)
					}
				}
				notThere(t, m, d, f)
			}
		}
	}
}

// A frame that the memory has not is Make's ErrArg; to the others it is no thread.
func TestNoFrame(t *testing.T) {
	for _, have := range []int{1, 2, 5, 64} {
		d := blank(have)
		for f := range have {
			d.begin(f, one())
		}
		m := d.real(t)
		for _, f := range frames(have) {
			for _, x := range few() {
				if e := doMake(t, m, d, f, x); e != api.ErrArg {
					t.Fatalf("Make(%d, %v): %d", f, x, e)
				}
			}
			notThere(t, m, d, f)
		}
	}
}

// A frame that begins with anything but a thread's head is none, whatever head says of it,
// and whatever words lie behind that; that is told ahead of the words.
func TestSomethingElse(t *testing.T) {
	d := plain()
	m := d.real(t)
	for _, h := range wrongHeads() {
		for _, w := range [][5]uint64{words(one()), {}, {4}, {4: 7}, {math.MaxUint64}} {
			copy(d.words[1][:4], h[:])
			d.lay(1, w)
			d.write(t, m, 1)
			notThere(t, m, d, 1)
		}
	}
}

// Frames that the layers below make are none, of whatever kind they are.
func TestOtherObjects(t *testing.T) {
	m, _ := mem.New(1)
	heads := []api.Head{{K: api.ONone}, {K: api.OTbl}, {K: api.OTbl, Level: 1, Frozen: true, Time: 7},
		{K: api.OPgt}, {K: api.OPgt, Level: 1}, {K: api.OComp}, {K: api.OTcap}, {K: api.ORcv}}
	for _, h := range heads {
		if e := head.Make(m, 0, h); e != api.OK {
			t.Fatalf("Make of %v: %d", h, e)
		}
		d := &model{words: make([]frame, 1)}
		all, _ := m.Words(0)
		copy(d.words[0][:], all)
		notThere(t, m, d, 0)
	}
	if e := head.Make(m, 0, api.Head{K: api.OThd}); e != api.OK {
		t.Fatalf("Make of a thread's: %d", e)
	}
	if x, e := thd.Get(m, 0); x != (api.Thd{}) || e != api.OK {
		t.Errorf("Get: %v, %d", x, e)
	}
	if _, e := comp.Get(m, 0); e != api.ErrType {
		t.Errorf("Get of a component: %d", e)
	}
}

// A frame of zeros is none, though its words would be a right one's.
func TestNewFrame(t *testing.T) {
	d := &model{words: make([]frame, 64)}
	m := d.real(t)
	for f := range 64 {
		notThere(t, m, d, f)
	}
}

// Words that are no right thread's are told by Get, and by State ahead of what is no state;
// the registers are there nevertheless, and Put does not look at the words, and mends them.
func TestWrongWords(t *testing.T) {
	d := plain()
	m := d.real(t)
	for n, w := range wrongWords() {
		d.lay(1, w)
		d.write(t, m, 1)
		if e := doGet(t, m, d, 1); e != api.ErrForm {
			t.Fatalf("Get of %v: %d", w, e)
		}
		for _, s := range []int{0, 1, 2, 3, -1, 4, math.MinInt, math.MaxInt} {
			if e := doState(t, m, d, 1, s); e != api.ErrForm {
				t.Fatalf("State(%d) of %v: %d", s, w, e)
			}
		}
		l := loaded(n)
		r := l.real(t)
		if e := doSave(t, m, d, 1, r, l); e != api.OK {
			t.Fatalf("Save of %v: %d", w, e)
		}
		if e := doReg(t, m, d, 1, n%8, uint64(n)); e != api.OK {
			t.Fatalf("Reg of %v: %d", w, e)
		}
		if e := doReg(t, m, d, 1, 8, 9); e != api.ErrArg {
			t.Fatalf("Reg behind of %v: %d", w, e)
		}
		if e := doLoad(t, m, d, 1, r, l); e != api.OK || l[n%8] != uint64(n) {
			t.Fatalf("Load of %v: %d", w, e)
		}
		if e := doGet(t, m, d, 3); e != api.OK {
			t.Fatalf("Get of another: %d", e)
		}
		if e := doPut(t, m, d, 1, one()); e != api.OK {
			t.Fatalf("Put over %v: %d", w, e)
		}
		if e := doGet(t, m, d, 1); e != api.OK {
			t.Fatalf("Get behind Put: %d", e)
		}
	}
}

// Each of the five words alone, with all its bits.
func TestGetBits(t *testing.T) {
	d := blank(1)
	m := d.real(t)
	for _, x := range few() {
		for i := range 5 {
			for bit := range 64 {
				w := words(x)
				w[i] ^= 1 << bit
				d.words[0] = frame{thdHead}
				d.lay(0, w)
				d.write(t, m, 0)
				doGet(t, m, d, 0)
			}
		}
	}
}

// Each of the five words alone, over its whole range, and behind it.
func TestGetEachWord(t *testing.T) {
	for _, base := range few() {
		for i, p := range parts() {
			d := blank(1)
			d.begin(0, base)
			m := d.real(t)
			for v := range uint64(p.most + 300) {
				d.words[0][4+i] = v
				m.Store(0, 4+i, v)
				want := api.ErrForm
				if v <= uint64(p.most) {
					want = api.OK
				}
				if e := doGet(t, m, d, 0); e != want {
					t.Fatalf("%s %d: %d, not %d", p.name, v, e, want)
				}
			}
		}
	}
}

// What lies behind a thread's words says nothing to those that don't ask for its registers,
// and stays: its registers, its records, and what is behind these.
func TestOtherWordsStay(t *testing.T) {
	for at := 9; at < 36; at++ {
		for _, w := range []uint64{1, 64, 1 << 32, math.MaxUint64} {
			d := blank(2)
			d.begin(0, one())
			d.begin(1, other())
			d.words[0][at] = w
			m := d.real(t)
			if e := doGet(t, m, d, 0); e != api.OK {
				t.Fatalf("Get with %d at %d: %d", w, at, e)
			}
			if e := doPut(t, m, d, 0, other()); e != api.OK {
				t.Fatalf("Put with %d at %d: %d", w, at, e)
			}
			if e := doState(t, m, d, 0, 3); e != api.OK {
				t.Fatalf("State with %d at %d: %d", w, at, e)
			}
			if got, _ := m.Load(0, at); got != w {
				t.Fatalf("%d at %d is %d", w, at, got)
			}
		}
	}
}

// Put, and State, leave the registers that were saved, or set.
func TestPutLeavesRegisters(t *testing.T) {
	d := plain()
	m := d.real(t)
	for n, x := range some() {
		l := loaded(n)
		doSave(t, m, d, 1, l.real(t), l)
		doReg(t, m, d, 1, n%8, uint64(n))
		want := loaded(n)
		want[n%8] = uint64(n)
		if e := doPut(t, m, d, 1, x); e != api.OK {
			t.Fatalf("Put(%v): %d", x, e)
		}
		got := loaded(0)
		r := got.real(t)
		doLoad(t, m, d, 1, r, got)
		want.same(t, r, "behind Put", x)
		doState(t, m, d, 1, n%4)
		doLoad(t, m, d, 1, r, got)
		want.same(t, r, "behind State", x)
	}
}

// Any thread over any other leaves nothing of it but what lies behind its words.
func TestPutOverAnother(t *testing.T) {
	for _, have := range []int{2, 64} {
		for _, f := range []int{0, have / 2, have - 1} {
			d := blank(have)
			copy(d.words[f][:4], []uint64{thdHead, 0, 0, 0})
			m := d.real(t)
			for _, a := range few() {
				for _, b := range few() {
					for _, x := range []api.Thd{a, b} {
						if e := doPut(t, m, d, f, x); e != api.OK {
							t.Fatalf("Put(%d, %v): %d", f, x, e)
						}
					}
					if got, e := thd.Get(m, f); got != b || e != api.OK {
						t.Fatalf("%v behind %v is %v, %d", b, a, got, e)
					}
				}
			}
		}
	}
}

// P18.3: all threads of ends and betweens, there and back.
func TestGetUndoesMakeAndPut(t *testing.T) {
	d := plain()
	m := d.real(t)
	for _, x := range some() {
		if e := doMake(t, m, d, 2, x); e != api.OK {
			t.Fatalf("Make(%v): %d", x, e)
		}
		if got, e := thd.Get(m, 2); got != x || e != api.OK {
			t.Fatalf("%v that was made is %v, %d", x, got, e)
		}
		if e := doPut(t, m, d, 1, x); e != api.OK {
			t.Fatalf("Put(%v): %d", x, e)
		}
		if got, e := thd.Get(m, 1); got != x || e != api.OK {
			t.Fatalf("%v that was put is %v, %d", x, got, e)
		}
	}
}

// P18.3 over the whole range of each part.
func TestGetUndoesEachPart(t *testing.T) {
	m, _ := mem.New(2)
	thd.Make(m, 1, api.Thd{})
	for _, base := range few() {
		for _, p := range parts() {
			for v := range p.most + 1 {
				x := base
				*p.of(&x) = v
				if e := thd.Make(m, 0, x); e != api.OK {
					t.Fatalf("Make(%v): %d", x, e)
				}
				if e := thd.Put(m, 1, x); e != api.OK {
					t.Fatalf("Put(%v): %d", x, e)
				}
				for f := range 2 {
					if got, e := thd.Get(m, f); got != x || e != api.OK {
						t.Fatalf("%v is %v, %d", x, got, e)
					}
				}
			}
		}
	}
}

// What Get answers of words makes, and is put as, the same words.
func TestPutUndoesGet(t *testing.T) {
	d := plain()
	m := d.real(t)
	for _, want := range some() {
		d.begin(0, want)
		d.write(t, m, 0)
		x, e := thd.Get(m, 0)
		if e != api.OK {
			t.Fatalf("Get of %v: %d", want, e)
		}
		if e := doPut(t, m, d, 0, x); e != api.OK || x != want {
			t.Fatalf("Put(%v): %d", x, e)
		}
		if e := doMake(t, m, d, 4, x); e != api.OK || !m.Same(0, 4) {
			t.Fatalf("Make(%v): %d", x, e)
		}
	}
}

// From any state to any other, of any thread; the rest of it stays.
func TestState(t *testing.T) {
	d := plain()
	m := d.real(t)
	for _, x := range some() {
		d.lay(1, words(x))
		d.write(t, m, 1)
		for _, s := range []int{0, 1, 2, 3, 0, 2, 0, 3, 1, 3, 2, 1, 0, x.State, x.State} {
			if e := doState(t, m, d, 1, s); e != api.OK {
				t.Fatalf("State(%d) of %v: %d", s, x, e)
			}
			want := x
			want.State = s
			if got, e := thd.Get(m, 1); got != want || e != api.OK {
				t.Fatalf("behind State(%d): %v, %d, not %v", s, got, e, want)
			}
		}
	}
}

func TestStateRefuses(t *testing.T) {
	for _, x := range few() {
		d := plain()
		d.lay(1, words(x))
		m := d.real(t)
		for _, s := range noStates() {
			if e := doState(t, m, d, 1, s); e != api.ErrArg {
				t.Fatalf("State(%d) of %v: %d", s, x, e)
			}
		}
		for s := -300; s <= 300; s++ {
			doState(t, m, d, 1, s)
		}
	}
}

// The words of the states are those of the given names.
func TestStateNames(t *testing.T) {
	m, _ := mem.New(1)
	thd.Make(m, 0, one())
	for want, s := range []int{api.TReady, api.TRuns, api.TWaits, api.TDead} {
		if e := thd.State(m, 0, s); e != api.OK {
			t.Errorf("State(%d): %d", s, e)
		}
		if w, _ := m.Load(0, 4); w != uint64(want) {
			t.Errorf("State(%d): the word is %d", s, w)
		}
	}
}

// The registers lie in their order behind the thread's words, each in one word, and nothing
// else changes, in memories of one frame to the most.
func TestSave(t *testing.T) {
	for _, have := range []int{1, 2, 64} {
		for f := range have {
			d := blank(have)
			copy(d.words[f][:4], []uint64{thdHead, 0, 0, 0})
			d.lay(f, words(one()))
			m := d.real(t)
			for _, l := range []file{loaded(f), edges(), make(file, 8), loaded(f + 1)} {
				if e := doSave(t, m, d, f, l.real(t), l); e != api.OK {
					t.Fatalf("Save(%d): %d", f, e)
				}
				for i, want := range l {
					if w, _ := m.Load(f, api.HeadWords+5+i); w != want {
						t.Fatalf("Save(%d): register %d is %d, not %d", f, i, w, want)
					}
				}
			}
		}
	}
}

// Each register alone, with words at their ends, and no other.
func TestSaveEachRegister(t *testing.T) {
	for i := range 8 {
		for _, w := range edges() {
			d := plain()
			m := d.real(t)
			l := loaded(3)
			l[i] = w
			if e := doSave(t, m, d, 1, l.real(t), l); e != api.OK {
				t.Fatalf("Save: %d", e)
			}
		}
	}
}

// What is loaded is the frame's, whatever the registers were; the frame stays.
func TestLoad(t *testing.T) {
	for _, have := range []int{1, 2, 64} {
		for f := range have {
			d := blank(have)
			copy(d.words[f][:4], []uint64{thdHead, 0, 0, 0})
			d.lay(f, words(one()))
			m := d.real(t)
			for _, l := range []file{loaded(f), edges(), make(file, 8)} {
				r := l.real(t)
				if e := doLoad(t, m, d, f, r, l); e != api.OK {
					t.Fatalf("Load(%d): %d", f, e)
				}
				for i := range 8 {
					if w, e := r.Get(i); w != 1<<40+uint64(1000*f+9+i) || e != api.OK {
						t.Fatalf("Load(%d): register %d is %d, %d", f, i, w, e)
					}
				}
			}
		}
	}
}

// Each register alone, with words at their ends, and no other.
func TestLoadEachRegister(t *testing.T) {
	for i := range 8 {
		for _, w := range edges() {
			d := plain()
			d.words[1][9+i] = w
			m := d.real(t)
			l := loaded(3)
			r := l.real(t)
			if e := doLoad(t, m, d, 1, r, l); e != api.OK {
				t.Fatalf("Load: %d", e)
			}
			if got, _ := r.Get(i); got != w {
				t.Fatalf("register %d is %d, not %d", i, got, w)
			}
		}
	}
}

// P18.3: what was saved is loaded, into the same registers and into others, behind changes of
// the registers and of the thread's words.
func TestLoadUndoesSave(t *testing.T) {
	d := plain()
	m := d.real(t)
	for n := range 100 {
		l := loaded(n)
		if n%10 == 0 {
			l = edges()
		}
		want := slices.Clone(l)
		r := l.real(t)
		if e := doSave(t, m, d, 1, r, l); e != api.OK {
			t.Fatalf("Save: %d", e)
		}
		for i := range 8 {
			l[i] = uint64(i) + 1<<55
			r.Set(i, l[i])
		}
		d.same(t, m, "behind Set")
		doPut(t, m, d, 1, few()[n%len(few())])
		if e := doLoad(t, m, d, 1, r, l); e != api.OK {
			t.Fatalf("Load: %d", e)
		}
		want.same(t, r, "the same ones")
		into := make(file, 8)
		s := into.real(t)
		if e := doLoad(t, m, d, 1, s, into); e != api.OK {
			t.Fatalf("Load: %d", e)
		}
		want.same(t, s, "others")
	}
}

// What was loaded is saved as it was, in the same frame and in another one.
func TestSaveUndoesLoad(t *testing.T) {
	d := plain()
	m := d.real(t)
	before, _ := m.Words(1)
	l := loaded(1)
	r := l.real(t)
	doLoad(t, m, d, 1, r, l)
	doSave(t, m, d, 1, r, l)
	if behind, _ := m.Words(1); !slices.Equal(behind, before) {
		t.Errorf("the words are %v, not %v", behind, before)
	}
	doSave(t, m, d, 3, r, l)
	if behind, _ := m.Words(3); !slices.Equal(behind[9:17], before[9:17]) {
		t.Errorf("the registers are %v, not %v", behind[9:17], before[9:17])
	}
}

// A frame and registers have nothing of each other behind Save, and behind Load.
func TestNothingShared(t *testing.T) {
	d := plain()
	m := d.real(t)
	l := loaded(1)
	r := l.real(t)
	doSave(t, m, d, 1, r, l)
	r.Set(0, 5)
	l[0] = 5
	d.same(t, m, "behind Set")
	doReg(t, m, d, 1, 1, 6)
	l.same(t, r, "behind Reg")
	doLoad(t, m, d, 1, r, l)
	r.Set(2, 7)
	l[2] = 7
	d.same(t, m, "behind Set")
	doReg(t, m, d, 1, 3, 8)
	m.Clear(1)
	l.same(t, r, "behind Clear")
}

// Each register of each frame, with words at their ends; nothing else changes.
func TestReg(t *testing.T) {
	for _, have := range []int{1, 2, 64} {
		for f := range have {
			d := blank(have)
			copy(d.words[f][:4], []uint64{thdHead, 0, 0, 0})
			d.lay(f, words(one()))
			m := d.real(t)
			for i := range 8 {
				for _, w := range edges() {
					if e := doReg(t, m, d, f, i, w); e != api.OK {
						t.Fatalf("Reg(%d, %d, %d): %d", f, i, w, e)
					}
					if got, _ := m.Load(f, 9+i); got != w {
						t.Fatalf("Reg(%d, %d, %d): it is %d", f, i, w, got)
					}
				}
			}
		}
	}
}

func TestRegRefuses(t *testing.T) {
	for _, f := range []int{1, 3} {
		d := plain()
		m := d.real(t)
		for _, i := range noRegs() {
			for _, w := range []uint64{0, 5, math.MaxUint64} {
				if e := doReg(t, m, d, f, i, w); e != api.ErrArg {
					t.Fatalf("Reg(%d, %d, %d): %d", f, i, w, e)
				}
			}
		}
	}
}

// Reg and Save change the same registers, and Load tells what either did.
func TestRegAsSave(t *testing.T) {
	d := plain()
	m := d.real(t)
	l := loaded(5)
	for i, w := range l {
		doReg(t, m, d, 1, i, w)
	}
	doSave(t, m, d, 3, l.real(t), l)
	one, _ := m.Words(1)
	another, _ := m.Words(3)
	if !slices.Equal(one[9:17], another[9:17]) {
		t.Errorf("%v by Reg, %v by Save", one[9:17], another[9:17])
	}
	got := make(file, 8)
	r := got.real(t)
	doLoad(t, m, d, 1, r, got)
	loaded(5).same(t, r, "Reg and Load")
}

// Registers go from one thread to another by Load and Save.
func TestBetweenThreads(t *testing.T) {
	d := plain()
	m := d.real(t)
	first, second := slices.Clone(d.words[1][9:17]), slices.Clone(d.words[3][9:17])
	l, k := loaded(1), loaded(2)
	r, s := l.real(t), k.real(t)
	doLoad(t, m, d, 1, r, l)
	doLoad(t, m, d, 3, s, k)
	doSave(t, m, d, 1, s, k)
	doSave(t, m, d, 3, r, l)
	if !slices.Equal(d.words[1][9:17], second) || !slices.Equal(d.words[3][9:17], first) {
		t.Error("they have not changed their registers")
	}
	d.same(t, m, "between threads")
}

// Two memories have nothing of each other.
func TestTwoMemories(t *testing.T) {
	d, still := plain(), plain()
	m, n := d.real(t), still.real(t)
	l := loaded(1)
	doMake(t, m, d, 0, one())
	doPut(t, m, d, 1, other())
	doState(t, m, d, 3, 0)
	doSave(t, m, d, 3, l.real(t), l)
	doReg(t, m, d, 1, 2, 9)
	still.same(t, n, "the other")
}

// chance answers numbers below n, in an order that hangs on nothing else.
func chance() func(n int) int {
	x := uint64(18)
	return func(n int) int {
		x = x*6364136223846793005 + 1442695040888963407
		return int(x >> 33 % uint64(n))
	}
}

// bend makes words of a frame such as no call leaves; mostly it leaves them, lest all frames
// stay so.
func (d *model) bend(f int, next func(int) int) {
	switch next(8) {
	case 0:
		bad := wrongWords()
		d.lay(f, bad[next(len(bad))])
	case 1:
		heads := wrongHeads()
		h := heads[next(len(heads))]
		copy(d.words[f][:4], h[:])
	case 2:
		d.words[f][9+next(27)] = uint64(next(1 << 30))
	}
}

// Any calls in any order, with numbers near the ranges and far from them.
func TestManyCalls(t *testing.T) {
	next := chance()
	far := outside()
	near := func(most int) int {
		switch next(30) {
		case 0:
			return far[next(len(far))]
		case 1:
			return most + 1
		case 2:
			return -1
		case 3:
			return most
		}
		return next(most + 1)
	}
	draw := func() api.Thd { return of(near(3), near(3), near(63), near(64), near(6)) }
	files := []file{loaded(1), edges(), nil}
	real := []*regs.File{files[0].real(t), files[1].real(t), files[2].real(t)}
	for _, have := range []int{1, 3, 8} {
		d := blank(have)
		m := d.real(t)
		var seen [14]int
		for range 20000 {
			f, e := near(have-1), api.OK
			k := next(len(files))
			switch next(10) {
			case 0:
				e = doMake(t, m, d, f, draw())
			case 1:
				e = doPut(t, m, d, f, draw())
			case 2, 3:
				e = doState(t, m, d, f, near(3))
			case 4:
				e = doSave(t, m, d, f, real[k], files[k])
			case 5:
				e = doLoad(t, m, d, f, real[k], files[k])
			case 6, 7:
				e = doReg(t, m, d, f, near(7), uint64(next(1<<30))<<uint(next(40)))
			case 8:
				g := next(have)
				d.bend(g, next)
				d.write(t, m, g)
			default:
				e = doGet(t, m, d, f)
			}
			seen[e]++
		}
		for _, e := range []api.Errno{api.OK, api.ErrArg, api.ErrType, api.ErrForm, api.ErrZero} {
			if seen[e] == 0 {
				t.Errorf("of %d frames: %d was never told", have, e)
			}
		}
	}
}

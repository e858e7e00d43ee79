package stack_test

import (
	"math"
	"slices"
	"testing"

	"palanquin/api"
	"palanquin/comp"
	"palanquin/mem"
	"palanquin/regs"
	"palanquin/stack"
	"palanquin/thd"
)

// thdHead is the first word of a thread's head; the other three are 0.
const thdHead = 4

// Where a thread's Depth lies, and its first record.
const (
	depthAt  = 8
	recordAt = 17
)

type frame [36]uint64

// model is a model of a memory: what the calls answer and change is held against it. One
// without frames is that of no memory.
type model struct {
	words []frame
}

func within(v int, least int, most int) bool { return least <= v && v <= most }

// right tells whether a record can be, by the chapter's words.
func right(r api.Frame) bool {
	return within(r.Comp, 0, 63) && within(r.Tbl, 0, 63) && within(r.Pgt, 0, 63) &&
		within(r.L, 0, 63) && within(r.E, 0, 65535) && within(r.Ip, 0, 1<<30)
}

// words are those of a record that is right.
func words(r api.Frame) [2]uint64 {
	first := r.Comp + 64*(r.Tbl+64*(r.Pgt+64*(r.L+64*r.E)))
	return [2]uint64{uint64(first), uint64(r.Ip)}
}

// recordOf is the record that words are of, if they are a right one's.
func recordOf(w [2]uint64) (api.Frame, bool) {
	if w[0] >= 1<<40 || w[1] > 1<<30 {
		return api.Frame{}, false
	}
	first := int(w[0])
	r := of(first%64, first/64%64, first/4096%64, first/262144%64, first/16777216, int(w[1]))
	return r, right(r)
}

func check(r api.Frame) api.Errno {
	if right(r) {
		return api.OK
	}
	return api.ErrArg
}

// depth is how many records the thread in frame f has, if it is a right one.
func (d *model) depth(f int) (int, api.Errno) {
	if f < 0 || f >= len(d.words) || [4]uint64(d.words[f][:4]) != [4]uint64{thdHead} {
		return 0, api.ErrType
	}
	for i, most := range []uint64{3, 3, 63, 64, 6} {
		if d.words[f][4+i] > most {
			return 0, api.ErrForm
		}
	}
	return int(d.words[f][depthAt]), api.OK
}

// at are the words of record i of frame f.
func (d *model) at(f int, i int) []uint64 { return d.words[f][recordAt+2*i : recordAt+2*i+2] }

func (d *model) push(f int, r api.Frame) api.Errno {
	if !right(r) {
		return api.ErrArg
	}
	n, e := d.depth(f)
	if e != api.OK {
		return e
	}
	if n == 6 {
		return api.ErrDepth
	}
	d.lay(f, n, words(r))
	d.words[f][depthAt]++
	return api.OK
}

func (d *model) top(f int) (api.Frame, api.Errno) {
	n, e := d.depth(f)
	if e != api.OK {
		return api.Frame{}, e
	}
	if n == 0 {
		return api.Frame{}, api.ErrDepth
	}
	r, ok := recordOf([2]uint64(d.at(f, n-1)))
	if !ok {
		return api.Frame{}, api.ErrForm
	}
	return r, api.OK
}

func (d *model) pop(f int) (api.Frame, api.Errno) {
	r, e := d.top(f)
	if e == api.OK {
		d.words[f][depthAt]--
	}
	return r, e
}

func (d *model) all(f int) ([]api.Frame, api.Errno) {
	n, e := d.depth(f)
	if e != api.OK {
		return nil, e
	}
	var l []api.Frame
	for i := range n {
		r, ok := recordOf([2]uint64(d.at(f, i)))
		if !ok {
			return nil, api.ErrForm
		}
		l = append(l, r)
	}
	return l, api.OK
}

func (d *model) ip(f int, ip int) api.Errno {
	if _, e := d.top(f); e != api.OK {
		return e
	}
	if !within(ip, 0, 1<<30) {
		return api.ErrArg
	}
	n, _ := d.depth(f)
	d.at(f, n-1)[1] = uint64(ip)
	return api.OK
}

// lay makes w the words of record i of frame f.
func (d *model) lay(f int, i int, w [2]uint64) { copy(d.at(f, i), w[:]) }

// thread makes frame f a thread with the records l, and leaves its other words: its registers,
// those of records that it has not, those behind them.
func (d *model) thread(f int, l ...api.Frame) {
	copy(d.words[f][:9], []uint64{thdHead, 0, 0, 0, 1, 2, 33, 44, uint64(len(l))})
	for i, r := range l {
		d.lay(f, i, words(r))
	}
}

// blank is a model of frames of which no two words are the same, and none is a head's, a
// thread's or a record's.
func blank(frames int) *model {
	d := &model{words: make([]frame, frames)}
	for f := range d.words {
		for at := range d.words[f] {
			d.words[f][at] = 1<<40 + uint64(1000*f+at)
		}
	}
	return d
}

// of is a record, with all its parts in their order.
func of(comp int, tbl int, pgt int, l int, e int, ip int) api.Frame {
	return api.Frame{Comp: comp, Tbl: tbl, Pgt: pgt, L: l, E: e, Ip: ip}
}

// nth is the n-th of many records that differ in each part from those near them; of none two
// parts are the same.
func nth(n int) api.Frame {
	return of(n%10, 10+n%10, 20+n%10, 30+n%10, 1000+n, 100000+n)
}

// first are the first n of them.
func first(n int) []api.Frame {
	var l []api.Frame
	for i := range n {
		l = append(l, nth(i))
	}
	return l
}

// full is a record with each part at its end.
func full() api.Frame { return of(63, 63, 63, 63, 65535, 1<<30) }

// deep has two threads, 1 and 3, with that many records, and between and behind them frames of
// something else.
func deep(n int) *model {
	d := blank(5)
	d.thread(1, first(n)...)
	d.thread(3, first(n)...)
	return d
}

// real is a memory with the words of the model.
func (d *model) real(t *testing.T) *mem.Mem {
	t.Helper()
	m, e := mem.New(len(d.words))
	if e != api.OK {
		t.Fatalf("New(%d): %d", len(d.words), e)
	}
	for f := range d.words {
		d.write(t, m, f)
	}
	return m
}

// write makes the words of frame f of m those of the model.
func (d *model) write(t *testing.T, m *mem.Mem, f int) {
	for at, w := range d.words[f] {
		if e := m.Store(f, at, w); e != api.OK {
			t.Helper()
			t.Fatalf("Store(%d, %d): %d", f, at, e)
		}
	}
}

// same fails if the words of m are others than the model's.
func (d *model) same(t *testing.T, m *mem.Mem, what ...any) {
	if m.Len() != len(d.words) {
		t.Helper()
		t.Fatalf("%v: %d frames, not %d", what, m.Len(), len(d.words))
	}
	for f := range d.words {
		got, e := m.Words(f)
		if e != api.OK || !slices.Equal(got, d.words[f][:]) {
			t.Helper()
			t.Fatalf("%v: frame %d is %v, %d, not %v", what, f, got, e, d.words[f])
		}
	}
}

// Each of these calls both, and fails where the answers differ, or where the words do behind
// it: so what is refused has changed nothing, and what is not no more than is meant.

func doPush(t *testing.T, m *mem.Mem, d *model, f int, r api.Frame) api.Errno {
	t.Helper()
	e, want := stack.Push(m, f, r), d.push(f, r)
	if e != want {
		t.Fatalf("Push(%d, %v): %d, not %d", f, r, e, want)
	}
	d.same(t, m, "Push", f, r)
	return e
}

func doPop(t *testing.T, m *mem.Mem, d *model, f int) api.Errno {
	t.Helper()
	r, e := stack.Pop(m, f)
	wantR, want := d.pop(f)
	if r != wantR || e != want || e != api.OK && r != (api.Frame{}) {
		t.Fatalf("Pop(%d): %v, %d, not %v, %d", f, r, e, wantR, want)
	}
	d.same(t, m, "Pop", f)
	return e
}

func doTop(t *testing.T, m *mem.Mem, d *model, f int) api.Errno {
	t.Helper()
	r, e := stack.Top(m, f)
	wantR, want := d.top(f)
	if r != wantR || e != want || e != api.OK && r != (api.Frame{}) {
		t.Fatalf("Top(%d): %v, %d, not %v, %d", f, r, e, wantR, want)
	}
	d.same(t, m, "Top", f)
	return e
}

func doAll(t *testing.T, m *mem.Mem, d *model, f int) api.Errno {
	t.Helper()
	l, e := stack.All(m, f)
	wantL, want := d.all(f)
	if !slices.Equal(l, wantL) || e != want || e != api.OK && len(l) != 0 {
		t.Fatalf("All(%d): %v, %d, not %v, %d", f, l, e, wantL, want)
	}
	d.same(t, m, "All", f)
	return e
}

func doIp(t *testing.T, m *mem.Mem, d *model, f int, ip int) api.Errno {
	t.Helper()
	e, want := stack.Ip(m, f, ip), d.ip(f, ip)
	if e != want {
		t.Fatalf("Ip(%d, %d): %d, not %d", f, ip, e, want)
	}
	d.same(t, m, "Ip", f, ip)
	return e
}

// refusals fails if a call of frame f, with arguments that are right, answers another error
// than told; of each call it takes those arguments too that would be refused behind it, and of
// Push those that are refused ahead of it.
func refusals(t *testing.T, m *mem.Mem, d *model, f int, told api.Errno) {
	t.Helper()
	for _, r := range []api.Frame{{}, nth(1), full()} {
		if e := doPush(t, m, d, f, r); e != told {
			t.Fatalf("Push(%d, %v): %d, not %d", f, r, e, told)
		}
	}
	for _, r := range []api.Frame{{Comp: 64}, {Ip: -1}, of(-1, -1, -1, -1, -1, -1)} {
		if e := doPush(t, m, d, f, r); e != api.ErrArg {
			t.Fatalf("Push(%d, %v): %d, not ErrArg", f, r, e)
		}
	}
	for _, ip := range []int{0, 7, 1 << 30, -1, 1<<30 + 1, math.MinInt, math.MaxInt} {
		if e := doIp(t, m, d, f, ip); e != told {
			t.Fatalf("Ip(%d, %d): %d, not %d", f, ip, e, told)
		}
	}
	if e := doTop(t, m, d, f); e != told {
		t.Fatalf("Top(%d): %d, not %d", f, e, told)
	}
	if e := doPop(t, m, d, f); e != told {
		t.Fatalf("Pop(%d): %d, not %d", f, e, told)
	}
	if e := doAll(t, m, d, f); e != told {
		t.Fatalf("All(%d): %d, not %d", f, e, told)
	}
}

// outside are numbers that lie behind every range. Some of them, cut to fewer bits, come back
// into one.
func outside() []int {
	out := []int{
		math.MinInt, math.MinInt + 1, math.MinInt + 3, math.MaxInt - 1, math.MaxInt,
		-1<<32 + 3, -65536, -65535, -256, -255, -128, -65, -64, -63, -7, -3, -2, -1, 1<<30 + 1,
	}
	for bit := 31; bit < 63; bit++ {
		out = append(out, 1<<bit, 1<<bit+3, -1<<bit, -1<<bit+3)
	}
	return out
}

// frames are those that a memory of that many has not.
func frames(have int) []int {
	return append(outside(), have, have+1, 2*have, have+64)
}

// part is one of a record's: which it is, and its greatest number.
type part struct {
	name string
	of   func(*api.Frame) *int
	most int
}

func parts() []part {
	return []part{
		{"Comp", func(r *api.Frame) *int { return &r.Comp }, 63},
		{"Tbl", func(r *api.Frame) *int { return &r.Tbl }, 63},
		{"Pgt", func(r *api.Frame) *int { return &r.Pgt }, 63},
		{"L", func(r *api.Frame) *int { return &r.L }, 63},
		{"E", func(r *api.Frame) *int { return &r.E }, 65535},
		{"Ip", func(r *api.Frame) *int { return &r.Ip }, 1 << 30},
	}
}

// inside are numbers of a part: its ends, those near them, and one with each of its bits.
func (p part) inside() []int {
	all := []int{0, 1, 2, p.most / 3, p.most - 1, p.most}
	for bit := 1; bit <= p.most; bit *= 2 {
		all = append(all, bit)
	}
	return all
}

// behind are numbers that are none of a part's.
func (p part) behind() []int {
	return append(outside(), p.most+1, p.most+2, 2*p.most+2, 2*p.most+9, 4*p.most+4)
}

// few are some records that are right.
func few() []api.Frame {
	return []api.Frame{{}, nth(0), nth(9), full(), {Comp: 63, Pgt: 63, E: 65535}, {Tbl: 63, L: 63, Ip: 1 << 30}, of(1, 1, 1, 1, 1, 1)}
}

// some are records that are right: each part with numbers of its range, and others so.
func some() []api.Frame {
	all := few()
	for _, base := range few() {
		for _, p := range parts() {
			for _, v := range p.inside() {
				r := base
				*p.of(&r) = v
				all = append(all, r)
			}
		}
	}
	return all
}

// wrong are records of which one part is not as it must be, or several are not.
func wrong() []api.Frame {
	var all []api.Frame
	for _, base := range few() {
		for _, p := range parts() {
			for _, v := range p.behind() {
				r := base
				*p.of(&r) = v
				all = append(all, r)
			}
		}
	}
	for _, v := range append(outside(), 65536) {
		all = append(all, of(v, v, v, v, v, v))
	}
	return append(all, of(64, 64, 64, 64, 65536, 1<<30+1), of(64, 0, 0, 0, 0, -1), of(0, 0, 64, 0, 65536, 0))
}

// wrongHeads are the first four words of frames that are no threads.
func wrongHeads() [][4]uint64 {
	all := [][4]uint64{
		{}, {1}, {17}, {33, 7}, {49, 7}, {2}, {18}, {3}, {5}, {6}, // of other kinds
		{7}, {8}, {12}, {15}, {20}, {36}, {52}, {36, 7}, {68}, {128 + 4}, // of none
		{0, 4}, {0, 0, 4}, {0, 0, 0, 4},
		{math.MaxUint64, math.MaxUint64, math.MaxUint64, math.MaxUint64},
	}
	for at := range 4 {
		for bit := range 64 {
			w := [4]uint64{thdHead}
			w[at] ^= 1 << bit
			all = append(all, w)
		}
	}
	return all
}

// wrongThreads are the five words of threads that can't be: one of them is not as it must be,
// or several are not.
func wrongThreads() [][5]uint64 {
	all := [][5]uint64{{4, 4, 64, 65, 7}, {0: 4, 4: 7}, {1: 4, 3: 65}}
	for _, depth := range []uint64{0, 3, 6} {
		for i, most := range []uint64{3, 3, 63, 64, 6} {
			for _, v := range []uint64{most + 1, most + 2, 128, 256, 1 << 32, 1<<32 + 3, 1 << 63, math.MaxUint64} {
				w := [5]uint64{1, 2, 33, 44, depth}
				w[i] = v
				all = append(all, w)
			}
		}
	}
	return all
}

// wrongRecords are the two words of records that can't be: one of them is not as it must be, or
// both are not.
func wrongRecords() [][2]uint64 {
	var all [][2]uint64
	for _, r := range []api.Frame{{}, nth(5), full()} {
		w := words(r)
		for bit := 40; bit < 64; bit++ {
			all = append(all, [2]uint64{w[0] | 1<<bit, w[1]})
		}
		for _, v := range []uint64{1<<30 + 1, 1<<30 + 2, 1 << 31, 1 << 32, 1<<32 + 7, 1 << 62, 1 << 63, 1<<63 + 7, math.MaxUint64 - 6, math.MaxUint64} {
			all = append(all, [2]uint64{w[0], v})
		}
	}
	return append(all,
		[2]uint64{1 << 40, 1<<30 + 1}, [2]uint64{math.MaxUint64, 0}, [2]uint64{math.MaxUint64, math.MaxUint64})
}

// The chapter's example, on a thread that its calls made.
func TestExample(t *testing.T) {
	m, _ := mem.New(2)
	if e := thd.Make(m, 1, api.Thd{Depth: 6}); e != api.OK {
		t.Fatalf("Make: %d", e)
	}
	if e := stack.Push(m, 1, api.Frame{}); e != api.ErrDepth {
		t.Errorf("Push on Depth 6: %d", e)
	}
}

// The chapter gives the errors by their numbers, and where the words lie.
func TestNumbers(t *testing.T) {
	m, _ := mem.New(4)
	thd.Make(m, 1, api.Thd{State: 1, Core: 2, Tcap: 3, Rcv: 4})
	thd.Make(m, 2, api.Thd{Depth: 6})
	comp.Make(m, 3, api.Comp{})
	r := of(1, 2, 3, 4, 5, 6)
	top := func(m *mem.Mem, f int) api.Errno {
		_, e := stack.Top(m, f)
		return e
	}
	pop := func(m *mem.Mem, f int) api.Errno {
		_, e := stack.Pop(m, f)
		return e
	}
	all := func(m *mem.Mem, f int) api.Errno {
		_, e := stack.All(m, f)
		return e
	}
	for _, x := range []struct {
		name string
		got  api.Errno
		want api.Errno
	}{
		{"Check", stack.Check(r), 0},
		{"Check of no component", stack.Check(api.Frame{Comp: 64}), 1},
		{"Top of none", top(m, 1), 8},
		{"Pop of none", pop(m, 1), 8},
		{"Ip of none", stack.Ip(m, 1, 7), 8},
		{"All of none", all(m, 1), 0},
		{"Push", stack.Push(m, 1, r), 0},
		{"Push again", stack.Push(m, 1, of(6, 5, 4, 3, 2, 1)), 0},
		{"Push of no component", stack.Push(m, 1, api.Frame{Comp: 64}), 1},
		{"Push on 6", stack.Push(m, 2, r), 8},
		{"Push in something else", stack.Push(m, 0, r), 4},
		{"Push in a component", stack.Push(m, 3, r), 4},
		{"Push in no frame", stack.Push(m, 4, r), 4},
		{"Push in no memory", stack.Push(nil, 1, r), 4},
		{"Top", top(m, 1), 0},
		{"Top of something else", top(m, 3), 4},
		{"Top of no frame", top(m, -1), 4},
		{"Top of no memory", top(nil, 1), 4},
		{"Ip", stack.Ip(m, 1, 77), 0},
		{"Ip below", stack.Ip(m, 1, -1), 1},
		{"Ip of something else", stack.Ip(m, 3, 7), 4},
		{"Ip of no memory", stack.Ip(nil, 1, 7), 4},
		{"Pop of something else", pop(m, 3), 4},
		{"Pop of no memory", pop(nil, 1), 4},
		{"All", all(m, 1), 0},
		{"All of something else", all(m, 3), 4},
		{"All of no memory", all(nil, 1), 4},
	} {
		if x.got != x.want {
			t.Errorf("%s: %d, not %d", x.name, x.got, x.want)
		}
	}
	want := frame{0: 4, 4: 1, 5: 2, 6: 3, 7: 4, 8: 2, 17: 0x05103081, 19: 0x020c4146, 18: 6, 20: 77}
	if got, _ := m.Words(1); !slices.Equal(got, want[:]) {
		t.Errorf("the words are %v, not %v", got, want)
	}
	m.Store(1, 19, 1<<40)
	for name, e := range map[string]api.Errno{"Top": top(m, 1), "Pop": pop(m, 1), "Ip": stack.Ip(m, 1, 7), "All": all(m, 1)} {
		if e != 12 {
			t.Errorf("%s of bad words: %d", name, e)
		}
	}
}

func TestCheck(t *testing.T) {
	for _, r := range some() {
		if e := stack.Check(r); e != api.OK {
			t.Fatalf("Check(%v): %d", r, e)
		}
	}
	for _, r := range wrong() {
		if e := stack.Check(r); e != api.ErrArg {
			t.Fatalf("Check(%v): %d", r, e)
		}
	}
}

// Each part, with the others at both ends, over its whole range and behind both ends of it.
func TestCheckEachPart(t *testing.T) {
	for _, base := range []api.Frame{{}, full()} {
		for _, p := range parts() {
			r := base
			for v := -300; v <= min(p.most+300, 70000); v++ {
				*p.of(&r) = v
				if e := stack.Check(r); e != check(r) {
					t.Fatalf("%s %d: %d", p.name, v, e)
				}
			}
			for v := p.most - 300; v <= p.most+300; v++ {
				*p.of(&r) = v
				if e := stack.Check(r); e != check(r) {
					t.Fatalf("%s %d: %d", p.name, v, e)
				}
			}
		}
	}
}

// The numbers of the limits are those of the given names.
func TestLimits(t *testing.T) {
	f, l, e := api.MaxFrames, api.MaxLive, api.MaxEpoch
	if got := stack.Check(of(f-1, f-1, f-1, l-1, e-1, api.MaxTime)); got != api.OK {
		t.Errorf("all at their ends: %d", got)
	}
	for _, r := range []api.Frame{{Comp: f}, {Tbl: f}, {Pgt: f}, {L: l}, {E: e}, {Ip: api.MaxTime + 1}} {
		if got := stack.Check(r); got != api.ErrArg {
			t.Errorf("%v: %d", r, got)
		}
	}
}

// From no record to the most, in each frame of memories of one frame to the most: nothing
// changes but the record's two words and the Depth.
func TestPush(t *testing.T) {
	for _, have := range []int{1, 2, 64} {
		for f := range have {
			d := blank(have)
			d.thread(f)
			m := d.real(t)
			for i := range api.MaxDepth {
				if e := doPush(t, m, d, f, nth(10*f+i)); e != api.OK {
					t.Fatalf("Push(%d) on %d: %d", f, i, e)
				}
				if x, e := thd.Get(m, f); x.Depth != i+1 || e != api.OK {
					t.Fatalf("Push(%d) on %d: %v, %d", f, i, x, e)
				}
				at := api.HeadWords + 5 + api.MaxRegs + 2*i
				if w, _ := m.Load(f, at+1); w != uint64(nth(10*f+i).Ip) {
					t.Fatalf("Push(%d) on %d: Ip is %d", f, i, w)
				}
			}
			for range 3 {
				if e := doPush(t, m, d, f, nth(1)); e != api.ErrDepth {
					t.Fatalf("Push(%d) on 6: %d", f, e)
				}
			}
		}
	}
}

// Records of all kinds, on each depth, over each other.
func TestPushSome(t *testing.T) {
	for n := range 6 {
		d := deep(n)
		m := d.real(t)
		for _, r := range some() {
			d.words[1][depthAt] = uint64(n)
			m.Store(1, depthAt, uint64(n))
			if e := doPush(t, m, d, 1, r); e != api.OK {
				t.Fatalf("Push(%v) on %d: %d", r, n, e)
			}
			if got, e := stack.Top(m, 1); got != r || e != api.OK {
				t.Fatalf("Push(%v) on %d is %v, %d", r, n, got, e)
			}
		}
	}
}

// The parts lie in the first word each in its bits, from the lowest on; Ip is the second.
func TestPushBits(t *testing.T) {
	for _, x := range []struct {
		r    api.Frame
		want [2]uint64
	}{
		{api.Frame{}, [2]uint64{0, 0}},
		{api.Frame{Comp: 1}, [2]uint64{1, 0}},
		{api.Frame{Comp: 63}, [2]uint64{0x3f, 0}},
		{api.Frame{Tbl: 1}, [2]uint64{1 << 6, 0}},
		{api.Frame{Tbl: 63}, [2]uint64{0x3f << 6, 0}},
		{api.Frame{Pgt: 1}, [2]uint64{1 << 12, 0}},
		{api.Frame{Pgt: 63}, [2]uint64{0x3f << 12, 0}},
		{api.Frame{L: 1}, [2]uint64{1 << 18, 0}},
		{api.Frame{L: 63}, [2]uint64{0x3f << 18, 0}},
		{api.Frame{E: 1}, [2]uint64{1 << 24, 0}},
		{api.Frame{E: 65535}, [2]uint64{0xffff << 24, 0}},
		{api.Frame{Ip: 1}, [2]uint64{0, 1}},
		{api.Frame{Ip: 1 << 30}, [2]uint64{0, 1 << 30}},
		{full(), [2]uint64{1<<40 - 1, 1 << 30}},
	} {
		m, _ := mem.New(1)
		thd.Make(m, 0, api.Thd{})
		if e := stack.Push(m, 0, x.r); e != api.OK {
			t.Errorf("Push(%v): %d", x.r, e)
		}
		first, _ := m.Load(0, 17)
		second, _ := m.Load(0, 18)
		if first != x.want[0] || second != x.want[1] {
			t.Errorf("Push(%v): %d and %d, not %v", x.r, first, second, x.want)
		}
	}
}

// A record that can't be is told ahead of a frame that is none, of a thread that can't be, and
// of a stack that is full.
func TestPushRefuses(t *testing.T) {
	bad := deep(2)
	bad.words[1][4] = 4
	for _, d := range []*model{deep(0), deep(3), deep(6), bad} {
		m := d.real(t)
		for _, r := range wrong() {
			for _, f := range []int{1, 0, 5, -1} {
				if e := doPush(t, m, d, f, r); e != api.ErrArg {
					t.Fatalf("Push(%d, %v): %d", f, r, e)
				}
			}
		}
	}
	d := &model{}
	for _, r := range wrong() {
		if e := doPush(t, nil, d, 0, r); e != api.ErrArg {
			t.Fatalf("Push(%v) in no memory: %d", r, e)
		}
	}
}

// What lies below says nothing to Push, and stays.
func TestPushOnWrongRecords(t *testing.T) {
	for n := range 6 {
		for i := range n {
			for _, w := range wrongRecords() {
				d := deep(n)
				d.lay(1, i, w)
				m := d.real(t)
				if e := doPush(t, m, d, 1, nth(7)); e != api.OK {
					t.Fatalf("Push on %d, of which %d is %v: %d", n, i, w, e)
				}
				if e := doTop(t, m, d, 1); e != api.OK {
					t.Fatalf("Top behind it: %d", e)
				}
				if e := doAll(t, m, d, 1); e != api.ErrForm {
					t.Fatalf("All behind it: %d", e)
				}
			}
		}
	}
}

func TestNoMemory(t *testing.T) {
	for _, m := range []*mem.Mem{nil, {}} {
		d := &model{}
		for _, f := range append(frames(0), 0, 1, 63) {
			refusals(t, m, d, f, api.ErrType)
		}
	}
}

func TestNoFrame(t *testing.T) {
	for _, have := range []int{1, 2, 64} {
		d := blank(have)
		for f := range have {
			d.thread(f, first(f%7)...)
		}
		m := d.real(t)
		for _, f := range frames(have) {
			refusals(t, m, d, f, api.ErrType)
		}
	}
}

// Frames that are something else, whatever their other words are: a thread's, with records or
// without, or such as no thread has.
func TestNoThread(t *testing.T) {
	for _, n := range []int{0, 3, 6} {
		d := deep(n)
		m := d.real(t)
		refusals(t, m, d, 0, api.ErrType)
		for _, h := range wrongHeads() {
			copy(d.words[1][:4], h[:])
			d.write(t, m, 1)
			refusals(t, m, d, 1, api.ErrType)
			d.words[1][depthAt] = 7
			d.write(t, m, 1)
			refusals(t, m, d, 1, api.ErrType)
			d.words[1][depthAt] = uint64(n)
		}
	}
}

// Threads whose words are no right one's, with records that are right, and that are not.
func TestNoRightThread(t *testing.T) {
	d := deep(6)
	for i := range 6 {
		d.lay(3, i, wrongRecords()[i])
	}
	m := d.real(t)
	for _, w := range wrongThreads() {
		for _, f := range []int{1, 3} {
			copy(d.words[f][4:9], w[:])
			d.write(t, m, f)
			refusals(t, m, d, f, api.ErrForm)
		}
	}
}

// A stack without records has none to tell or to take, whatever lies where they would.
func TestEmpty(t *testing.T) {
	for _, w := range append(wrongRecords(), words(api.Frame{}), words(nth(1)), words(full())) {
		d := deep(0)
		d.lay(1, 0, w)
		m := d.real(t)
		for _, ip := range []int{0, 7, 1 << 30, -1, 1<<30 + 1, math.MinInt, math.MaxInt} {
			if e := doIp(t, m, d, 1, ip); e != api.ErrDepth {
				t.Fatalf("Ip(%d) with %v: %d", ip, w, e)
			}
		}
		if e := doTop(t, m, d, 1); e != api.ErrDepth {
			t.Fatalf("Top with %v: %d", w, e)
		}
		if e := doPop(t, m, d, 1); e != api.ErrDepth {
			t.Fatalf("Pop with %v: %d", w, e)
		}
		if e := doAll(t, m, d, 1); e != api.OK {
			t.Fatalf("All with %v: %d", w, e)
		}
	}
}

// Each depth tells the records up to it, and none behind.
func TestEachDepth(t *testing.T) {
	for _, have := range []int{1, 2, 64} {
		for f := range have {
			d := blank(have)
			d.thread(f, first(6)...)
			m := d.real(t)
			for n := 1; n <= 6; n++ {
				d.words[f][depthAt] = uint64(n)
				d.write(t, m, f)
				doTop(t, m, d, f)
				if r, e := stack.Top(m, f); r != nth(n-1) || e != api.OK {
					t.Fatalf("Top(%d) of %d: %v, %d", f, n, r, e)
				}
				doAll(t, m, d, f)
				if l, e := stack.All(m, f); !slices.Equal(l, first(n)) || e != api.OK {
					t.Fatalf("All(%d) of %d: %v, %d", f, n, l, e)
				}
			}
		}
	}
}

// The last record alone counts for Top, Pop and Ip; all that are of the stack count for All.
func TestWrongRecords(t *testing.T) {
	for n := 1; n <= 6; n++ {
		for i := range 6 {
			for _, w := range wrongRecords() {
				d := deep(n)
				d.lay(1, i, w)
				m := d.real(t)
				last, all := api.OK, api.OK
				if i == n-1 {
					last = api.ErrForm
				}
				if i < n {
					all = api.ErrForm
				}
				if e := doTop(t, m, d, 1); e != last {
					t.Fatalf("Top of %d, of which %d is %v: %d", n, i, w, e)
				}
				if e := doAll(t, m, d, 1); e != all {
					t.Fatalf("All of %d, of which %d is %v: %d", n, i, w, e)
				}
				if e := doIp(t, m, d, 1, 5); e != last {
					t.Fatalf("Ip of %d, of which %d is %v: %d", n, i, w, e)
				}
				if e := doPop(t, m, d, 1); e != last {
					t.Fatalf("Pop of %d, of which %d is %v: %d", n, i, w, e)
				}
				if e := doAll(t, m, d, 3); e != api.OK {
					t.Fatalf("All of another: %d", e)
				}
			}
		}
	}
}

// A last record that can't be is told ahead of an ip that can't.
func TestIpOfWrongRecord(t *testing.T) {
	for n := 1; n <= 6; n++ {
		d := deep(n)
		m := d.real(t)
		for _, w := range wrongRecords() {
			d.lay(1, n-1, w)
			d.write(t, m, 1)
			for _, ip := range []int{0, 7, 1 << 30, -1, 1<<30 + 1, math.MinInt, math.MaxInt} {
				if e := doIp(t, m, d, 1, ip); e != api.ErrForm {
					t.Fatalf("Ip(%d) of %v: %d", ip, w, e)
				}
			}
		}
	}
}

// Each word of a record alone, with all its bits, as the last one and as one below it.
func TestRecordBits(t *testing.T) {
	for n := 1; n <= 6; n++ {
		for _, i := range []int{0, n / 2, n - 1} {
			for _, r := range few() {
				for half := range 2 {
					d := deep(n)
					m := d.real(t)
					for bit := range 64 {
						w := words(r)
						w[half] ^= 1 << bit
						d.lay(1, i, w)
						d.write(t, m, 1)
						doTop(t, m, d, 1)
						doAll(t, m, d, 1)
					}
				}
			}
		}
	}
}

// Each part of the first word over its whole range, with the others at both ends.
func TestTopEachPart(t *testing.T) {
	m, _ := mem.New(1)
	thd.Make(m, 0, api.Thd{Depth: 1})
	for _, base := range []api.Frame{{}, full()} {
		for _, p := range parts()[:5] {
			r := base
			for v := range p.most + 1 {
				*p.of(&r) = v
				w := words(r)
				m.Store(0, recordAt, w[0])
				m.Store(0, recordAt+1, w[1])
				if got, e := stack.Top(m, 0); got != r || e != api.OK {
					t.Fatalf("Top of %v: %v, %d", r, got, e)
				}
			}
		}
	}
}

// The second word near its end, and behind.
func TestTopIp(t *testing.T) {
	d := deep(4)
	m := d.real(t)
	for v := uint64(1<<30 - 300); v <= 1<<30+300; v++ {
		d.at(1, 3)[1] = v
		m.Store(1, recordAt+7, v)
		want := api.OK
		if v > api.MaxTime {
			want = api.ErrForm
		}
		if e := doTop(t, m, d, 1); e != want {
			t.Fatalf("Top with the second word %d: %d", v, e)
		}
		if e := doAll(t, m, d, 1); e != want {
			t.Fatalf("All with the second word %d: %d", v, e)
		}
	}
}

// Pop tells the last record and takes one off the Depth; the words stay, so that the Depth as
// it was tells all records again.
func TestPop(t *testing.T) {
	for _, have := range []int{1, 2, 64} {
		for f := range have {
			d := blank(have)
			d.thread(f, first(6)...)
			m := d.real(t)
			before, _ := m.Words(f)
			for n := 5; n >= 0; n-- {
				top, _ := stack.Top(m, f)
				if r, _ := d.top(f); r != nth(n) || top != r {
					t.Fatalf("Top(%d) of %d: %v", f, n+1, top)
				}
				if e := doPop(t, m, d, f); e != api.OK {
					t.Fatalf("Pop(%d) of %d: %d", f, n+1, e)
				}
				if x, e := thd.Get(m, f); x.Depth != n || e != api.OK {
					t.Fatalf("Pop(%d) of %d: %v, %d", f, n+1, x, e)
				}
			}
			for range 3 {
				if e := doPop(t, m, d, f); e != api.ErrDepth {
					t.Fatalf("Pop(%d) of none: %d", f, e)
				}
			}
			x, _ := thd.Get(m, f)
			x.Depth = 6
			thd.Put(m, f, x)
			if behind, _ := m.Words(f); !slices.Equal(behind, before) {
				t.Fatalf("Pop(%d): the words are %v, not %v", f, behind, before)
			}
			if l, e := stack.All(m, f); !slices.Equal(l, first(6)) || e != api.OK {
				t.Fatalf("All(%d): %v, %d", f, l, e)
			}
		}
	}
}

// Of each depth, with numbers at the ends of the range and between: one word changes.
func TestIp(t *testing.T) {
	for n := 1; n <= 6; n++ {
		d := deep(n)
		m := d.real(t)
		for _, ip := range append(parts()[5].inside(), 0, 7, 0, api.MaxTime, 1<<30-1) {
			before, _ := m.Words(1)
			if e := doIp(t, m, d, 1, ip); e != api.OK {
				t.Fatalf("Ip(%d) of %d: %d", ip, n, e)
			}
			before[recordAt+2*n-1] = uint64(ip)
			if behind, _ := m.Words(1); !slices.Equal(behind, before) {
				t.Fatalf("Ip(%d) of %d: the words are %v, not %v", ip, n, behind, before)
			}
			want := first(n)
			want[n-1].Ip = ip
			if l, e := stack.All(m, 1); !slices.Equal(l, want) || e != api.OK {
				t.Fatalf("Ip(%d) of %d: %v, %d, not %v", ip, n, l, e, want)
			}
		}
	}
}

func TestIpRefuses(t *testing.T) {
	for n := 1; n <= 6; n++ {
		d := deep(n)
		m := d.real(t)
		for _, ip := range append(parts()[5].behind(), api.MaxTime+1) {
			if e := doIp(t, m, d, 1, ip); e != api.ErrArg {
				t.Fatalf("Ip(%d) of %d: %d", ip, n, e)
			}
		}
		for v := -300; v <= 300; v++ {
			doIp(t, m, d, 1, v)
			doIp(t, m, d, 1, 1<<30+v)
		}
	}
}

// P19.2: what is pushed is popped, last in, first out, from each depth on, and what lies below
// is as it was.
func TestLastInFirstOut(t *testing.T) {
	all := some()
	for n := range 6 {
		for k := range all {
			d := deep(n)
			m := d.real(t)
			var in []api.Frame
			for i := range 6 - n {
				r := all[(k+37*i)%len(all)]
				if e := doPush(t, m, d, 1, r); e != api.OK {
					t.Fatalf("Push(%v) on %d: %d", r, n+i, e)
				}
				in = append(in, r)
			}
			if l, e := stack.All(m, 1); !slices.Equal(l, append(first(n), in...)) || e != api.OK {
				t.Fatalf("All: %v, %d", l, e)
			}
			for i := len(in) - 1; i >= 0; i-- {
				if r, e := stack.Pop(m, 1); r != in[i] || e != api.OK {
					t.Fatalf("Pop of %d: %v, %d, not %v", n+i+1, r, e, in[i])
				}
				want := slices.Concat(first(n), in[:i])
				if l, e := stack.All(m, 1); !slices.Equal(l, want) || e != api.OK {
					t.Fatalf("All behind Pop: %v, %d, not %v", l, e, want)
				}
				d.pop(1)
			}
			d.same(t, m, "behind all")
		}
	}
}

// P19.2 with pops between the pushes, and with changes of what is last.
func TestUpAndDown(t *testing.T) {
	d := deep(0)
	m := d.real(t)
	next := chance()
	var want []api.Frame
	for n := range 3000 {
		switch k := next(5); {
		case k < 2 && len(want) < 6:
			doPush(t, m, d, 3, nth(n))
			want = append(want, nth(n))
		case k == 2 && len(want) > 0:
			doIp(t, m, d, 3, n)
			want[len(want)-1].Ip = n
		case k > 2 && len(want) > 0:
			r, e := stack.Pop(m, 3)
			d.pop(3)
			if r != want[len(want)-1] || e != api.OK {
				t.Fatalf("Pop: %v, %d, not %v", r, e, want[len(want)-1])
			}
			want = want[:len(want)-1]
		}
		d.same(t, m, n)
		if l, e := stack.All(m, 3); !slices.Equal(l, want) || e != api.OK {
			t.Fatalf("All: %v, %d, not %v", l, e, want)
		}
	}
}

// Push and Pop leave the thread as it is but for its Depth, whatever it is, its registers, and
// what lies behind the records.
func TestOtherWordsStay(t *testing.T) {
	for _, x := range []api.Thd{{}, {State: 3, Core: 3, Tcap: 63, Rcv: 64}, {State: 1, Core: 2, Tcap: 33, Rcv: 44}, {State: 2, Core: 1, Tcap: 5}} {
		for _, w := range []uint64{0, 1, 64, 1 << 32, math.MaxUint64} {
			d := deep(0)
			copy(d.words[1][4:9], []uint64{uint64(x.State), uint64(x.Core), uint64(x.Tcap), uint64(x.Rcv), 0})
			for at := 9; at < 36; at++ {
				d.words[1][at] = w
			}
			m := d.real(t)
			for i := range 6 {
				if e := doPush(t, m, d, 1, nth(i)); e != api.OK {
					t.Fatalf("Push in %v: %d", x, e)
				}
				doIp(t, m, d, 1, i)
				want := x
				want.Depth = i + 1
				if got, e := thd.Get(m, 1); got != want || e != api.OK {
					t.Fatalf("behind Push: %v, %d, not %v", got, e, want)
				}
			}
			for range 6 {
				if e := doPop(t, m, d, 1); e != api.OK {
					t.Fatalf("Pop in %v: %d", x, e)
				}
			}
			if got, e := thd.Get(m, 1); got != x || e != api.OK {
				t.Fatalf("behind Pop: %v, %d, not %v", got, e, x)
			}
		}
	}
}

// What is done with a thread and its registers leaves its records.
func TestRecordsStay(t *testing.T) {
	d := deep(6)
	m := d.real(t)
	r := regs.New()
	r.Load([]uint64{1, 2, 3, 4, 5, 6, 7, math.MaxUint64})
	thd.Put(m, 1, api.Thd{State: 2, Core: 3, Tcap: 4, Rcv: 5, Depth: 6})
	thd.State(m, 1, api.TDead)
	thd.Save(m, 1, r)
	thd.Reg(m, 1, 7, 99)
	if l, e := stack.All(m, 1); !slices.Equal(l, first(6)) || e != api.OK {
		t.Errorf("All: %v, %d", l, e)
	}
	thd.Load(m, 3, r)
	want := r.All()
	doPop(t, m, deepBut(d, m, 1), 3)
	stack.Push(m, 3, full())
	stack.Ip(m, 3, 0)
	thd.Load(m, 3, r)
	if got := r.All(); !slices.Equal(got, want) {
		t.Errorf("the registers are %v, not %v", got, want)
	}
}

// deepBut is d with the words that frame f of m has.
func deepBut(d *model, m *mem.Mem, f int) *model {
	w, _ := m.Words(f)
	d.words[f] = frame(w)
	return d
}

// A thread that is made anew has no records, though one with a Depth has what is there: zeros.
func TestMade(t *testing.T) {
	d := deep(6)
	m := d.real(t)
	thd.Make(m, 1, api.Thd{})
	if l, e := stack.All(m, 1); len(l) != 0 || e != api.OK {
		t.Errorf("All: %v, %d", l, e)
	}
	thd.Make(m, 1, api.Thd{Depth: 3})
	if l, e := stack.All(m, 1); !slices.Equal(l, make([]api.Frame, 3)) || e != api.OK {
		t.Errorf("All: %v, %d", l, e)
	}
	if r, e := stack.Pop(m, 1); r != (api.Frame{}) || e != api.OK {
		t.Errorf("Pop: %v, %d", r, e)
	}
	if x, e := thd.Get(m, 1); x != (api.Thd{Depth: 2}) || e != api.OK {
		t.Errorf("Get: %v, %d", x, e)
	}
}

// A list that All answered stays as it was, whatever is done behind it, and what is done with
// it changes nothing; nor do two of them share anything.
func TestListsStay(t *testing.T) {
	for n := 1; n <= 6; n++ {
		d := deep(n)
		m := d.real(t)
		one, _ := stack.All(m, 1)
		doIp(t, m, d, 1, 9)
		doPop(t, m, d, 1)
		doPush(t, m, d, 1, full())
		two, _ := stack.All(m, 1)
		want := slices.Clone(two)
		m.Clear(1)
		d.words[1] = frame{}
		if !slices.Equal(one, first(n)) {
			t.Fatalf("the list is %v", one)
		}
		for i := range one {
			one[i] = api.Frame{Comp: -1}
		}
		one = append(one, api.Frame{})
		d.same(t, m, "the list was changed")
		doAll(t, m, d, 3)
		if !slices.Equal(two, want) {
			t.Fatalf("the second list is %v, not %v", two, want)
		}
		three, _ := stack.All(m, 3)
		four, _ := stack.All(m, 3)
		three[0] = full()
		three = append(three, full())
		if !slices.Equal(four, first(n)) {
			t.Fatalf("the fourth list is %v", four)
		}
	}
}

// The stacks of two threads of a memory, and of two memories, have nothing of each other.
func TestApart(t *testing.T) {
	d, still := deep(2), deep(2)
	m, n := d.real(t), still.real(t)
	for i := range 4 {
		doPush(t, m, d, 1, nth(40+i))
		doPush(t, m, d, 3, nth(50+i))
	}
	for i := 3; i >= 0; i-- {
		if r, e := stack.Pop(m, 1); r != nth(40+i) || e != api.OK {
			t.Errorf("Pop(1): %v, %d", r, e)
		}
		if r, e := stack.Pop(m, 3); r != nth(50+i) || e != api.OK {
			t.Errorf("Pop(3): %v, %d", r, e)
		}
	}
	doIp(t, n, still, 1, 8)
	still.same(t, n, "the other")
}

// chance answers numbers below n, in an order that hangs on nothing else.
func chance() func(n int) int {
	x := uint64(19)
	return func(n int) int {
		x = x*6364136223846793005 + 1442695040888963407
		return int(x >> 33 % uint64(n))
	}
}

// bend makes words of a frame such as no call leaves, or makes it a thread again.
func (d *model) bend(f int, next func(int) int) {
	switch next(6) {
	case 0:
		bad := wrongThreads()
		w := bad[next(len(bad))]
		copy(d.words[f][4:9], w[:])
	case 1:
		heads := wrongHeads()
		h := heads[next(len(heads))]
		copy(d.words[f][:4], h[:])
	case 2:
		bad := wrongRecords()
		d.lay(f, next(6), bad[next(len(bad))])
	default:
		d.thread(f, first(next(7))...)
	}
}

// Any calls in any order, with numbers near the ranges and far from them.
func TestManyCalls(t *testing.T) {
	next := chance()
	far := outside()
	near := func(most int) int {
		switch next(40) {
		case 0:
			return far[next(len(far))]
		case 1:
			return most + 1
		case 2:
			return -1
		case 3:
			return most
		}
		return next(most + 1)
	}
	draw := func() api.Frame {
		return of(near(63), near(63), near(63), near(63), near(65535), near(1<<30))
	}
	for _, have := range []int{1, 3, 8} {
		d := blank(have)
		m := d.real(t)
		var seen [14]int
		for range 20000 {
			f, e := near(have-1), api.OK
			switch next(16) {
			case 0, 1, 2, 3, 4:
				e = doPush(t, m, d, f, draw())
			case 5, 6, 7:
				e = doPop(t, m, d, f)
			case 8, 9:
				e = doTop(t, m, d, f)
			case 10, 11:
				e = doAll(t, m, d, f)
			case 12, 13, 14:
				e = doIp(t, m, d, f, near(1<<30))
			default:
				g := next(have)
				d.bend(g, next)
				d.write(t, m, g)
			}
			seen[e]++
		}
		for _, e := range []api.Errno{api.OK, api.ErrArg, api.ErrType, api.ErrDepth, api.ErrForm} {
			if seen[e] == 0 {
				t.Errorf("of %d frames: %d was never told", have, e)
			}
		}
	}
}

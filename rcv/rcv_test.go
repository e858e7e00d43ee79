package rcv_test

import (
	"math"
	"slices"
	"testing"

	"palanquin/api"
	"palanquin/captbl"
	"palanquin/comp"
	"palanquin/head"
	"palanquin/mem"
	"palanquin/pgtbl"
	"palanquin/rcv"
	"palanquin/ring"
	"palanquin/tcap"
	"palanquin/thd"
)

// top is where the counters stay, and room how many events a ring has place for.
const (
	top  = 255
	room = 8
)

// rcvHead is the first word of an endpoint's head; the other three are 0.
const rcvHead = 6

// Where the words of an endpoint lie, and those of its ring.
const (
	thdAt    = 4
	parentAt = 5
	sendsAt  = 6
	waitsAt  = 7
	lostAt   = 8 // three of 0 behind it
	beginAt  = 12
	countAt  = 13
	firstAt  = 14
	restAt   = 22
	wholeAt  = 36
)

type frame [wholeAt]uint64

// model is a model of a memory: what the calls answer and change is held against it. One
// without frames is that of no memory.
type model struct {
	words []frame
}

func within(v int, least int, most int) bool { return least <= v && v <= most }

// right tells whether an endpoint can be, by the chapter's words.
func right(r api.Rcv) bool {
	return within(r.Thd, 0, 63) && within(r.Parent, 0, 64) && within(r.Count, 0, 255) && within(r.Lost, 0, 255)
}

// rightEvent tells whether an event can be, by the words of the chapter below.
func rightEvent(x api.Event) bool { return within(x.K, 1, 6) && within(x.T, 0, 63) }

// words are those of an endpoint that is right.
func words(r api.Rcv) [8]uint64 {
	w := [8]uint64{uint64(r.Thd), uint64(r.Parent), uint64(r.Count), 0, uint64(r.Lost)}
	if r.Waits {
		w[3] = 1
	}
	return w
}

// rcvOf is the endpoint that words are of, if they are a right one's.
func rcvOf(w [8]uint64) (api.Rcv, bool) {
	if w[0] > 63 || w[1] > 64 || w[2] > 255 || w[3] > 1 || w[4] > 255 || w[5] != 0 || w[6] != 0 || w[7] != 0 {
		return api.Rcv{}, false
	}
	return api.Rcv{Thd: int(w[0]), Parent: int(w[1]), Count: int(w[2]), Waits: w[3] != 0, Lost: int(w[4])}, true
}

func check(r api.Rcv) api.Errno {
	if right(r) {
		return api.OK
	}
	return api.ErrArg
}

func (d *model) has(f int) bool { return f >= 0 && f < len(d.words) }

func (d *model) isRcv(f int) bool {
	return d.has(f) && [4]uint64(d.words[f][:4]) == [4]uint64{rcvHead}
}

func (d *model) make(f int, r api.Rcv) api.Errno {
	switch {
	case !right(r):
		return api.ErrArg
	case len(d.words) == 0:
		return api.ErrZero
	case !d.has(f):
		return api.ErrArg
	}
	d.begin(f, r)
	return api.OK
}

func (d *model) get(f int) (api.Rcv, api.Errno) {
	if !d.isRcv(f) {
		return api.Rcv{}, api.ErrType
	}
	r, ok := rcvOf([8]uint64(d.words[f][thdAt:beginAt]))
	if !ok {
		return api.Rcv{}, api.ErrForm
	}
	return r, api.OK
}

func (d *model) put(f int, r api.Rcv) api.Errno {
	if !right(r) {
		return api.ErrArg
	}
	if !d.isRcv(f) {
		return api.ErrType
	}
	d.lay(f, words(r))
	return api.OK
}

func (d *model) tell(f int, x api.Event) api.Errno {
	if !rightEvent(x) {
		return api.ErrArg
	}
	r, e := d.get(f)
	if e != api.OK {
		return e
	}
	begin, count := d.words[f][beginAt], d.words[f][countAt]
	switch {
	case begin > 7 || count > 8:
		return api.ErrForm
	case count < 8:
		d.words[f][at(int(begin), int(count))] = uint64(x.K + 16*x.T)
		d.words[f][countAt]++
	case r.Lost < 255:
		d.words[f][lostAt]++
	}
	return api.OK
}

func (d *model) more(f int) (bool, api.Errno) {
	r, e := d.get(f)
	if e != api.OK {
		return false, e
	}
	if r.Count < 255 {
		d.words[f][sendsAt]++
	}
	return r.Waits, api.OK
}

func (d *model) less(f int) (bool, api.Errno) {
	r, e := d.get(f)
	if e != api.OK || r.Count == 0 {
		return false, e
	}
	d.words[f][sendsAt]--
	return true, api.OK
}

func (d *model) wait(f int, waits bool) api.Errno {
	if _, e := d.get(f); e != api.OK {
		return e
	}
	d.words[f][waitsAt] = 0
	if waits {
		d.words[f][waitsAt] = 1
	}
	return api.OK
}

// at answers which word of its frame the i-th event of a ring that begins at begin has.
func at(begin int, i int) int {
	if begin+i < room {
		return firstAt + begin + i
	}
	return firstAt + begin + i - room
}

// begin makes frame f the endpoint r, and nothing else.
func (d *model) begin(f int, r api.Rcv) {
	d.words[f] = frame{rcvHead}
	d.lay(f, words(r))
}

// lay makes w the words that frame f has as an endpoint.
func (d *model) lay(f int, w [8]uint64) { copy(d.words[f][thdAt:beginAt], w[:]) }

// layRing lets the ring in frame f begin at begin, with these events; its other words stay.
func (d *model) layRing(f int, begin int, events ...api.Event) {
	d.words[f][beginAt], d.words[f][countAt] = uint64(begin), uint64(len(events))
	for i, x := range events {
		d.words[f][at(begin, i)] = uint64(x.K + 16*x.T)
	}
}

// set makes frame f the endpoint r with a ring of these events from begin on, and leaves the
// words around them.
func (d *model) set(f int, r api.Rcv, begin int, events ...api.Event) {
	copy(d.words[f][:thdAt], []uint64{rcvHead, 0, 0, 0})
	d.lay(f, words(r))
	d.layRing(f, begin, events...)
}

// row answers count events of which no two are the same.
func row(count int) []api.Event {
	var all []api.Event
	for i := range count {
		all = append(all, api.Event{K: 1 + (i+3)%6, T: (7*i + 50) % 64})
	}
	return all
}

// blank is a model of frames of which no two words are the same, and none is a head's, an
// endpoint's or a ring's.
func blank(frames int) *model {
	d := &model{words: make([]frame, frames)}
	for f := range d.words {
		for at := range d.words[f] {
			d.words[f][at] = 1<<40 + uint64(1000*f+at)
		}
	}
	return d
}

// one, other and full are endpoints of which no two parts are the same, but for the ends that
// full is at.
func one() api.Rcv   { return api.Rcv{Thd: 11, Parent: 22, Count: 33, Waits: true, Lost: 44} }
func other() api.Rcv { return api.Rcv{Thd: 55, Parent: 7, Count: 99, Lost: 111} }
func full() api.Rcv  { return api.Rcv{Thd: 63, Parent: 64, Count: top, Waits: true, Lost: top} }

// plain has three endpoints, 1 with three events, 3 with none, 5 with as many as there is room
// for, and between and behind them frames of something else; behind their rings the endpoints
// have other words, which say nothing.
func plain() *model {
	d := blank(7)
	d.set(1, one(), 6, row(3)...)
	d.set(3, other(), 5)
	d.set(5, full(), 2, row(room)...)
	return d
}

// real is a memory with the words of the model.
func (d *model) real(t *testing.T) *mem.Mem {
	t.Helper()
	m, e := mem.New(len(d.words))
	if e != api.OK {
		t.Fatalf("New(%d): %d", len(d.words), e)
	}
	for f := range d.words {
		d.write(t, m, f)
	}
	return m
}

// write makes the words of frame f of m those of the model.
func (d *model) write(t *testing.T, m *mem.Mem, f int) {
	for at, w := range d.words[f] {
		if e := m.Store(f, at, w); e != api.OK {
			t.Helper()
			t.Fatalf("Store(%d, %d): %d", f, at, e)
		}
	}
}

// same fails if the words of m are others than the model's.
func (d *model) same(t *testing.T, m *mem.Mem, what ...any) {
	if m.Len() != len(d.words) {
		t.Helper()
		t.Fatalf("%v: %d frames, not %d", what, m.Len(), len(d.words))
	}
	for f := range d.words {
		got, e := m.Words(f)
		if e != api.OK || !slices.Equal(got, d.words[f][:]) {
			t.Helper()
			t.Fatalf("%v: frame %d is %v, %d, not %v", what, f, got, e, d.words[f])
		}
	}
}

// Each of these calls both, and fails where the answers differ, or where the words do behind
// it: so what is refused has changed nothing, and what is not no more than is meant.

func doMake(t *testing.T, m *mem.Mem, d *model, f int, r api.Rcv) api.Errno {
	t.Helper()
	e, want := rcv.Make(m, f, r), d.make(f, r)
	if e != want {
		t.Fatalf("Make(%d, %v): %d, not %d", f, r, e, want)
	}
	d.same(t, m, "Make", f, r)
	return e
}

func doGet(t *testing.T, m *mem.Mem, d *model, f int) (api.Rcv, api.Errno) {
	t.Helper()
	r, e := rcv.Get(m, f)
	wantR, want := d.get(f)
	if r != wantR || e != want || e != api.OK && r != (api.Rcv{}) {
		t.Fatalf("Get(%d): %v, %d, not %v, %d", f, r, e, wantR, want)
	}
	d.same(t, m, "Get", f)
	return r, e
}

func doPut(t *testing.T, m *mem.Mem, d *model, f int, r api.Rcv) api.Errno {
	t.Helper()
	e, want := rcv.Put(m, f, r), d.put(f, r)
	if e != want {
		t.Fatalf("Put(%d, %v): %d, not %d", f, r, e, want)
	}
	d.same(t, m, "Put", f, r)
	return e
}

func doTell(t *testing.T, m *mem.Mem, d *model, f int, x api.Event) api.Errno {
	t.Helper()
	e, want := rcv.Tell(m, f, x), d.tell(f, x)
	if e != want {
		t.Fatalf("Tell(%d, %v): %d, not %d", f, x, e, want)
	}
	d.same(t, m, "Tell", f, x)
	return e
}

func doMore(t *testing.T, m *mem.Mem, d *model, f int) (bool, api.Errno) {
	t.Helper()
	waits, e := rcv.More(m, f)
	wantWaits, want := d.more(f)
	if waits != wantWaits || e != want || e != api.OK && waits {
		t.Fatalf("More(%d): %v, %d, not %v, %d", f, waits, e, wantWaits, want)
	}
	d.same(t, m, "More", f)
	return waits, e
}

func doLess(t *testing.T, m *mem.Mem, d *model, f int) (bool, api.Errno) {
	t.Helper()
	had, e := rcv.Less(m, f)
	wantHad, want := d.less(f)
	if had != wantHad || e != want || e != api.OK && had {
		t.Fatalf("Less(%d): %v, %d, not %v, %d", f, had, e, wantHad, want)
	}
	d.same(t, m, "Less", f)
	return had, e
}

func doWait(t *testing.T, m *mem.Mem, d *model, f int, waits bool) api.Errno {
	t.Helper()
	e, want := rcv.Wait(m, f, waits), d.wait(f, waits)
	if e != want {
		t.Fatalf("Wait(%d, %v): %d, not %d", f, waits, e, want)
	}
	d.same(t, m, "Wait", f, waits)
	return e
}

// outside are numbers that lie behind every range. Some of them, cut to fewer bits, come back
// into one.
func outside() []int {
	out := []int{
		math.MinInt, math.MinInt + 1, math.MinInt + 7, math.MaxInt - 1, math.MaxInt,
		-1<<32 + 7, -65536, -512, -257, -256, -255, -254, -129, -128, -65, -64, -63, -7, -2, -1,
		256, 257, 263, 300, 319, 320, 511, 512, 513, 1023, 1024,
	}
	for bit := 9; bit < 63; bit++ {
		out = append(out, 1<<bit, 1<<bit+7, -1<<bit, -1<<bit+7)
	}
	return out
}

// frames are those that a memory of that many has not.
func frames(have int) []int {
	return append(outside(), have, have+1, 2*have, have+64, 128, 256, 65536)
}

// part is a number of an endpoint: which it is, in which word it lies, and how great it may be.
type part struct {
	name string
	at   int
	of   func(*api.Rcv) *int
	most int
}

func parts() []part {
	return []part{
		{"Thd", 0, func(r *api.Rcv) *int { return &r.Thd }, 63},
		{"Parent", 1, func(r *api.Rcv) *int { return &r.Parent }, 64},
		{"Count", 2, func(r *api.Rcv) *int { return &r.Count }, top},
		{"Lost", 4, func(r *api.Rcv) *int { return &r.Lost }, top},
	}
}

// behind are numbers that are none of a part's.
func (p part) behind() []int {
	return append(outside(), p.most+1, p.most+2, 2*p.most+2, 2*p.most+9, 4*p.most+4)
}

// few are some endpoints that are right.
func few() []api.Rcv {
	return []api.Rcv{
		{}, one(), other(), full(), {Waits: true}, {Thd: 1}, {Thd: 63}, {Parent: 1}, {Parent: 64},
		{Count: 1}, {Count: top}, {Lost: 1}, {Lost: top}, {Thd: 1, Parent: 1, Count: 1, Lost: 1},
	}
}

// some are endpoints that are right: each part at both ends, and between, with all others so.
func some() []api.Rcv {
	var all []api.Rcv
	for _, thread := range []int{0, 1, 31, 62, 63} {
		for _, parent := range []int{0, 1, 32, 63, 64} {
			for _, count := range []int{0, 1, 63, 64, 65, 127, 128, 254, top} {
				for _, lost := range []int{0, 1, 63, 64, 65, 127, 128, 254, top} {
					for _, waits := range []bool{false, true} {
						all = append(all, api.Rcv{Thd: thread, Parent: parent, Count: count, Waits: waits, Lost: lost})
					}
				}
			}
		}
	}
	return all
}

// wrong are endpoints of which one part is not as it must be, or several are not.
func wrong() []api.Rcv {
	var all []api.Rcv
	for _, base := range few() {
		for _, p := range parts() {
			for _, v := range p.behind() {
				r := base
				*p.of(&r) = v
				all = append(all, r)
			}
		}
	}
	for _, v := range outside() {
		all = append(all, api.Rcv{Thd: v, Parent: v, Count: v, Lost: v}, api.Rcv{Count: v, Waits: true, Lost: v})
	}
	return all
}

// wrongEvents are such as are not right, by their kind, their thread or both.
func wrongEvents() []api.Event {
	all := []api.Event{{}, {K: 0, T: 63}, {K: 7}, {K: -1}, {K: 1, T: 64}, {K: 1, T: -1}, {K: 7, T: 64}, {K: 17, T: 3}}
	for _, v := range outside() {
		all = append(all, api.Event{K: v, T: 3}, api.Event{K: 3, T: v}, api.Event{K: v, T: v})
	}
	return all
}

// wrongHeads are the first four words of frames that are no endpoints.
func wrongHeads() [][4]uint64 {
	all := [][4]uint64{
		{}, {1}, {17}, {33, 7}, {49, 7}, {2}, {18}, {3}, {4}, {5}, // of other kinds
		{7}, {8}, {14}, {15}, {22}, {38}, {54}, {38, 7}, {70}, {128 + 6}, // of none
		{6, 1}, {6, 1 << 30}, {6, 1 << 32}, {6, 0, 1}, {6, 0, 0, 1},
		{0, 6}, {0, 0, 6}, {0, 0, 0, 6},
		{math.MaxUint64, math.MaxUint64, math.MaxUint64, math.MaxUint64},
	}
	for at := range 4 {
		for bit := range 64 {
			w := [4]uint64{rcvHead}
			w[at] ^= 1 << bit
			all = append(all, w)
		}
	}
	return all
}

// wrongWords are words that are no right endpoint's, each of the eight alone among them.
func wrongWords() [][8]uint64 {
	var all [][8]uint64
	high := []uint64{1 << 63, 1<<63 + 1, 1<<63 + 7, math.MaxUint64 - 7, math.MaxUint64}
	for _, r := range []api.Rcv{{}, one(), full()} {
		bend := func(at int, values ...uint64) {
			for _, v := range values {
				w := words(r)
				w[at] = v
				all = append(all, w)
			}
		}
		for _, p := range parts() {
			for _, v := range p.behind() {
				bend(p.at, uint64(v))
			}
			bend(p.at, high...)
		}
		bend(3, append(high, 2, 3, 4, 5, 255, 256, 257, 1<<16+1, 1<<32, 1<<32+1)...)
		for at := 5; at < 8; at++ {
			bend(at, append(high, 1, 2, 3, 8, 64, 255, 256, 1<<16, 1<<32, 1<<32+1)...)
		}
	}
	return append(all, [8]uint64{64, 65, 256, 2, 256, 1, 1, 1}, [8]uint64{0, 0, 0, 0, 0, 1, 1, 1}, [8]uint64{64, 65, 256, 2, 256})
}

// wrongRings are where a ring begins and how many there are, of such as can't be.
func wrongRings() [][2]uint64 {
	all := [][2]uint64{{8, 0}, {8, 8}, {8, 3}, {0, 9}, {7, 9}, {8, 9}, {9, 0}, {0, 10}, {16, 1}, {1, 16}, {256, 1}, {1, 256}}
	for bit := 4; bit < 64; bit++ {
		all = append(all, [2]uint64{1 << bit, 1}, [2]uint64{1, 1 << bit}, [2]uint64{1<<bit + 3, 8}, [2]uint64{3, 1<<bit + 8})
	}
	return append(all, [2]uint64{math.MaxUint64, 0}, [2]uint64{0, math.MaxUint64}, [2]uint64{math.MaxUint64, math.MaxUint64})
}

// The chapter's example, on an endpoint that its calls made.
func TestExample(t *testing.T) {
	m, _ := mem.New(1)
	rcv.Make(m, 0, api.Rcv{})
	if waits, e := rcv.More(m, 0); waits || e != api.OK {
		t.Errorf("More: %v, %d", waits, e)
	}
	for _, want := range []bool{true, false, false} {
		if had, e := rcv.Less(m, 0); had != want || e != api.OK {
			t.Errorf("Less: %v, %d, not %v", had, e, want)
		}
	}
}

// The chapter gives the errors by their numbers, and where the words lie.
func TestNumbers(t *testing.T) {
	m, _ := mem.New(4)
	r, x := api.Rcv{Thd: 7, Parent: 9, Count: 5, Waits: true, Lost: 3}, api.Event{K: api.VLine, T: 63}
	rcv.Make(m, 1, r)
	rcv.Make(m, 2, api.Rcv{Thd: 63, Parent: 64, Count: 255, Lost: 255})
	rcv.Make(m, 3, api.Rcv{})
	rcv.Tell(m, 1, x)
	rcv.Tell(m, 1, api.Event{K: api.VBlock, T: 2})
	want := []frame{
		{},
		{6, 0, 0, 0, 7, 9, 5, 1, 3, 0, 0, 0, 0, 2, 63*16 + 6, 33},
		{6, 0, 0, 0, 63, 64, 255, 0, 255},
		{6},
	}
	(&model{words: want}).same(t, m, "Make and Tell")
	get := func(m *mem.Mem, f int) api.Errno {
		_, e := rcv.Get(m, f)
		return e
	}
	more := func(m *mem.Mem, f int) api.Errno {
		_, e := rcv.More(m, f)
		return e
	}
	less := func(m *mem.Mem, f int) api.Errno {
		_, e := rcv.Less(m, f)
		return e
	}
	for _, y := range []struct {
		name string
		got  api.Errno
		want api.Errno
	}{
		{"Check", rcv.Check(r), 0},
		{"Check of no thread", rcv.Check(api.Rcv{Thd: 64}), 1},
		{"Check of no parent", rcv.Check(api.Rcv{Parent: 65}), 1},
		{"Make of no thread", rcv.Make(m, 0, api.Rcv{Thd: 64}), 1},
		{"Make in no frame", rcv.Make(m, 4, r), 1},
		{"Make in no memory", rcv.Make(nil, 0, r), 13},
		{"Get", get(m, 1), 0},
		{"Get of something else", get(m, 0), 4},
		{"Get of no frame", get(m, 4), 4},
		{"Get of no memory", get(nil, 1), 4},
		{"Put", rcv.Put(m, 1, r), 0},
		{"Put of no thread", rcv.Put(m, 1, api.Rcv{Thd: 64}), 1},
		{"Put in something else", rcv.Put(m, 0, r), 4},
		{"Put in no memory", rcv.Put(nil, 1, r), 4},
		{"Tell of no kind", rcv.Tell(m, 1, api.Event{}), 1},
		{"Tell of no thread", rcv.Tell(m, 1, api.Event{K: 1, T: 64}), 1},
		{"Tell to something else", rcv.Tell(m, 0, x), 4},
		{"Tell to no frame", rcv.Tell(m, 4, x), 4},
		{"Tell in no memory", rcv.Tell(nil, 1, x), 4},
		{"More of something else", more(m, 0), 4},
		{"More of no frame", more(m, 4), 4},
		{"More in no memory", more(nil, 1), 4},
		{"More at the most", more(m, 2), 0},
		{"Less of something else", less(m, 0), 4},
		{"Less of no frame", less(m, 4), 4},
		{"Less in no memory", less(nil, 1), 4},
		{"Less of none", less(m, 3), 0},
		{"Wait of something else", rcv.Wait(m, 0, true), 4},
		{"Wait of no frame", rcv.Wait(m, 4, true), 4},
		{"Wait in no memory", rcv.Wait(nil, 1, false), 4},
		{"Wait of one that does", rcv.Wait(m, 1, true), 0},
	} {
		if y.got != y.want {
			t.Errorf("%s: %d, not %d", y.name, y.got, y.want)
		}
	}
	(&model{words: want}).same(t, m, "refused")
	m.Store(1, waitsAt, 2)
	m.Store(2, beginAt, 8)
	for name, e := range map[string]api.Errno{
		"Get": get(m, 1), "Tell": rcv.Tell(m, 1, x), "More": more(m, 1), "Less": less(m, 1),
		"Wait": rcv.Wait(m, 1, true), "Tell to a ring that can't be": rcv.Tell(m, 2, x),
	} {
		if e != 12 {
			t.Errorf("%s of bad words: %d", name, e)
		}
	}
}

// The numbers of the limits are those of the given names.
func TestLimits(t *testing.T) {
	for name, x := range map[string]struct {
		r    api.Rcv
		want api.Errno
	}{
		"nothing":                      {api.Rcv{}, api.OK},
		"the last thread":              {api.Rcv{Thd: api.MaxFrames - 1}, api.OK},
		"one behind it":                {api.Rcv{Thd: api.MaxFrames}, api.ErrArg},
		"one ahead of the first":       {api.Rcv{Thd: -1}, api.ErrArg},
		"the last parent":              {api.Rcv{Parent: api.MaxFrames}, api.OK},
		"one behind that":              {api.Rcv{Parent: api.MaxFrames + 1}, api.ErrArg},
		"a parent below none":          {api.Rcv{Parent: -1}, api.ErrArg},
		"most sends":                   {api.Rcv{Count: api.MaxCount}, api.OK},
		"one more send":                {api.Rcv{Count: api.MaxCount + 1}, api.ErrArg},
		"sends below none":             {api.Rcv{Count: -1}, api.ErrArg},
		"most are lost":                {api.Rcv{Lost: api.MaxCount}, api.OK},
		"one more is lost":             {api.Rcv{Lost: api.MaxCount + 1}, api.ErrArg},
		"less than none is lost":       {api.Rcv{Lost: -1}, api.ErrArg},
		"it waits":                     {api.Rcv{Waits: true}, api.OK},
		"it waits, with a wrong count": {api.Rcv{Waits: true, Count: api.MaxCount + 1}, api.ErrArg},
		"its own parent":               {api.Rcv{Thd: 4, Parent: 5}, api.OK},
		"all at their ends": {
			api.Rcv{Thd: api.MaxFrames - 1, Parent: api.MaxFrames, Count: api.MaxCount, Waits: true, Lost: api.MaxCount}, api.OK},
		"the greatest": {api.Rcv{Thd: math.MaxInt, Parent: math.MaxInt, Count: math.MaxInt, Lost: math.MaxInt}, api.ErrArg},
		"the least":    {api.Rcv{Thd: math.MinInt, Parent: math.MinInt, Count: math.MinInt, Lost: math.MinInt}, api.ErrArg},
	} {
		if e := rcv.Check(x.r); e != x.want {
			t.Errorf("%s: %d, not %d", name, e, x.want)
		}
	}
	if api.MaxRing != room || api.MaxCount != top || api.HeadWords != thdAt || api.HeadWords+api.PageWords != wholeAt {
		t.Error("the limits are others")
	}
}

// P22.1: each part alone, over its whole range and behind it, with different others.
func TestCheckEachPart(t *testing.T) {
	for _, base := range few() {
		for _, p := range parts() {
			values := p.behind()
			for v := -1000; v <= p.most+1000; v++ {
				values = append(values, v)
			}
			for _, v := range values {
				r := base
				*p.of(&r) = v
				if e, want := rcv.Check(r), check(r); e != want {
					t.Fatalf("%s %d: %v: %d, not %d", p.name, v, r, e, want)
				}
			}
		}
	}
}

func TestCheckSome(t *testing.T) {
	for _, r := range some() {
		if e := rcv.Check(r); e != api.OK {
			t.Fatalf("%v: %d", r, e)
		}
	}
	for _, r := range wrong() {
		if e := rcv.Check(r); e != api.ErrArg {
			t.Fatalf("%v: %d", r, e)
		}
	}
}

// P22.1: an endpoint is made in a frame of any words, of which none is left, in memories of one
// frame to the most; other frames stay.
func TestMake(t *testing.T) {
	for _, have := range []int{1, 2, 3, 64} {
		for f := range have {
			d := blank(have)
			m := d.real(t)
			for _, r := range few() {
				if e := doMake(t, m, d, f, r); e != api.OK {
					t.Fatalf("Make(%d, %v): %d", f, r, e)
				}
				doGet(t, m, d, f)
			}
		}
	}
}

// What was in the frame is all the same: something else, an endpoint with events, words that
// are none's. The ring is empty behind it.
func TestMakeOver(t *testing.T) {
	made := func(d *model, r api.Rcv) {
		t.Helper()
		m := d.real(t)
		if e := doMake(t, m, d, 1, r); e != api.OK {
			t.Fatalf("Make: %d", e)
		}
		if got, e := doGet(t, m, d, 1); got != r || e != api.OK {
			t.Fatalf("%v that was made is %v, %d", r, got, e)
		}
		if all, e := ring.All(m, 1); len(all) != 0 || e != api.OK {
			t.Fatalf("a ring of %v, %d", all, e)
		}
		for i, x := range row(room) {
			if e := doTell(t, m, d, 1, x); e != api.OK {
				t.Fatalf("Tell %d: %d", i, e)
			}
		}
		if all, e := ring.All(m, 1); !slices.Equal(all, row(room)) || e != api.OK {
			t.Fatalf("a ring of %v, %d", all, e)
		}
	}
	for _, w := range append(wrongHeads(), [4]uint64{rcvHead}) {
		d := blank(2)
		copy(d.words[1][:thdAt], w[:])
		made(d, one())
	}
	for _, w := range wrongWords() {
		d := plain()
		d.lay(1, w)
		made(d, other())
	}
	for _, r := range few() {
		for begin := range room {
			for count := range room + 1 {
				d := plain()
				d.layRing(1, begin, row(count)...)
				made(d, r)
			}
		}
	}
	for _, w := range wrongRings() {
		d := plain()
		d.words[1][beginAt], d.words[1][countAt] = w[0], w[1]
		made(d, full())
	}
}

// An endpoint that is not right is told ahead of the memory, the frame and what that is.
func TestWrongFirst(t *testing.T) {
	d := plain()
	m := d.real(t)
	for _, r := range wrong() {
		for i, x := range []*mem.Mem{m, nil, {}} {
			for _, f := range []int{1, 3, 5, 0, 6, -1, 7, math.MinInt, math.MaxInt} {
				if e := rcv.Make(x, f, r); e != api.ErrArg {
					t.Fatalf("Make(%d, %d, %v): %d", i, f, r, e)
				}
				if e := rcv.Put(x, f, r); e != api.ErrArg {
					t.Fatalf("Put(%d, %d, %v): %d", i, f, r, e)
				}
			}
		}
		d.same(t, m, "wrong", r)
	}
}

// An event that is not right is told ahead of the memory, of the frame, of what that is, of its
// words, of a ring that can't be and of one without room, in which it is not counted.
func TestWrongEventFirst(t *testing.T) {
	d := plain()
	d.set(2, one(), 0)
	d.words[2][waitsAt] = 2
	d.set(4, one(), 0)
	d.words[4][countAt] = 9
	m := d.real(t)
	d.words[5][lostAt] = 7
	d.write(t, m, 5)
	for _, x := range wrongEvents() {
		for i, y := range []*mem.Mem{m, nil, {}} {
			for _, f := range []int{0, 1, 2, 3, 4, 5, 6, 7, -1, math.MinInt, math.MaxInt} {
				if e := rcv.Tell(y, f, x); e != api.ErrArg {
					t.Fatalf("Tell(%d, %d, %v): %d", i, f, x, e)
				}
			}
		}
		d.same(t, m, "wrong", x)
	}
}

// refusals fails if a call but Make and Put of frame f answers another error than told, or if it
// changes anything; only an event that is not right is told ahead of that.
func refusals(t *testing.T, m *mem.Mem, d *model, f int, told api.Errno) {
	t.Helper()
	if r, e := doGet(t, m, d, f); e != told {
		t.Fatalf("Get(%d): %v, %d", f, r, e)
	}
	for _, x := range []api.Event{{K: 1}, {K: 3, T: 5}, {K: 6, T: 63}} {
		if e := doTell(t, m, d, f, x); e != told {
			t.Fatalf("Tell(%d, %v): %d", f, x, e)
		}
	}
	for _, x := range []api.Event{{}, {K: 7}, {K: 1, T: 64}, {K: 1, T: -1}} {
		if e := doTell(t, m, d, f, x); e != api.ErrArg {
			t.Fatalf("Tell(%d, %v): %d", f, x, e)
		}
	}
	if waits, e := doMore(t, m, d, f); waits || e != told {
		t.Fatalf("More(%d): %v, %d", f, waits, e)
	}
	if had, e := doLess(t, m, d, f); had || e != told {
		t.Fatalf("Less(%d): %v, %d", f, had, e)
	}
	for _, waits := range []bool{false, true} {
		if e := doWait(t, m, d, f, waits); e != told {
			t.Fatalf("Wait(%d, %v): %d", f, waits, e)
		}
	}
}

// notThere fails if one of the calls but Make finds an endpoint in frame f, or changes anything.
func notThere(t *testing.T, m *mem.Mem, d *model, f int) {
	t.Helper()
	refusals(t, m, d, f, api.ErrType)
	for _, r := range []api.Rcv{{}, one(), full()} {
		if e := doPut(t, m, d, f, r); e != api.ErrType {
			t.Fatalf("Put(%d, %v): %d", f, r, e)
		}
	}
}

// Of a memory that is nil, or that no call made, Make tells that ahead of the frame; to the
// others there is no endpoint there.
func TestNoMemory(t *testing.T) {
	for _, m := range []*mem.Mem{nil, {}} {
		d := &model{}
		for _, f := range append(frames(1), 0, 1, 3, 63) {
			for _, r := range few() {
				if e := doMake(t, m, d, f, r); e != api.ErrZero {
					t.Fatalf("Make(%d, %v): %d", f, r, e)
				}
			}
			notThere(t, m, d, f)
		}
	}
}

// A frame that the memory has not is Make's ErrArg; to the others it is no endpoint.
func TestNoFrame(t *testing.T) {
	for _, have := range []int{1, 2, 5, 64} {
		d := blank(have)
		for f := range have {
			d.set(f, one(), f%room, row(f%(room+1))...)
		}
		m := d.real(t)
		for _, f := range frames(have) {
			if d.has(f) {
				continue
			}
			for _, r := range few() {
				if e := doMake(t, m, d, f, r); e != api.ErrArg {
					t.Fatalf("Make(%d, %v): %d", f, r, e)
				}
			}
			notThere(t, m, d, f)
		}
	}
}

// A frame that begins with anything but an endpoint's head is none, whatever head says of it,
// and whatever words lie behind that; that is told ahead of the words and of the ring.
func TestSomethingElse(t *testing.T) {
	behind := [][8]uint64{words(one()), words(full()), {}, {0, 0, 0, 2}, {0, 0, 0, 0, 0, 1}, {math.MaxUint64}}
	d := plain()
	m := d.real(t)
	for _, h := range wrongHeads() {
		for i, w := range behind {
			copy(d.words[1][:thdAt], h[:])
			d.lay(1, w)
			d.words[1][beginAt], d.words[1][countAt] = uint64(2+3*i), uint64(8-i/2)
			d.write(t, m, 1)
			notThere(t, m, d, 1)
		}
	}
}

// Frames that the layers below make are none, of whatever kind they are.
func TestOtherObjects(t *testing.T) {
	for name, lay := range map[string]func(m *mem.Mem) api.Errno{
		"nothing":          func(m *mem.Mem) api.Errno { return head.Make(m, 1, api.Head{K: api.ONone}) },
		"a table's root":   func(m *mem.Mem) api.Errno { return captbl.Make(m, 1, 0) },
		"a table's leaf":   func(m *mem.Mem) api.Errno { return captbl.Make(m, 1, 1) },
		"a mapping's root": func(m *mem.Mem) api.Errno { return pgtbl.Make(m, 1, 0) },
		"a mapping's leaf": func(m *mem.Mem) api.Errno { return pgtbl.Make(m, 1, 1) },
		"a component":      func(m *mem.Mem) api.Errno { return comp.Make(m, 1, api.Comp{Pgt: 7}) },
		"a thread":         func(m *mem.Mem) api.Errno { return thd.Make(m, 1, api.Thd{Tcap: 3}) },
		"a budget":         func(m *mem.Mem) api.Errno { return tcap.Make(m, 1, api.Tcap{Prio: 3}) },
		"a frozen one": func(m *mem.Mem) api.Errno {
			return head.Make(m, 1, api.Head{K: api.OTbl, Level: 1, Frozen: true, Time: 7})
		},
	} {
		m, _ := mem.New(2)
		rcv.Make(m, 0, one())
		if e := lay(m); e != api.OK {
			t.Fatalf("%s: %d", name, e)
		}
		d := &model{words: make([]frame, 2)}
		for f := range d.words {
			all, _ := m.Words(f)
			copy(d.words[f][:], all)
		}
		notThere(t, m, d, 1)
		if e := doTell(t, m, d, 0, api.Event{K: 2, T: 1}); e != api.OK {
			t.Errorf("%s: Tell beside it: %d", name, e)
		}
	}
}

// What is made here is nothing else to the layers below, and its ring is theirs.
func TestToOthers(t *testing.T) {
	m, _ := mem.New(1)
	rcv.Make(m, 0, one())
	if e := head.Is(m, 0, api.ORcv); e != api.OK {
		t.Errorf("Is: %d", e)
	}
	if _, e := thd.Get(m, 0); e != api.ErrType {
		t.Errorf("Get of a thread: %d", e)
	}
	if _, e := tcap.Get(m, 0); e != api.ErrType {
		t.Errorf("Get of a budget: %d", e)
	}
	rcv.Tell(m, 0, api.Event{K: 2, T: 9})
	ring.Put(m, 0, api.Event{K: 3, T: 8})
	rcv.Tell(m, 0, api.Event{K: 4, T: 7})
	want := []api.Event{{K: 2, T: 9}, {K: 3, T: 8}, {K: 4, T: 7}}
	if all, e := ring.All(m, 0); !slices.Equal(all, want) || e != api.OK {
		t.Errorf("All: %v, %d", all, e)
	}
	ring.Take(m, 0)
	ring.Clear(m, 0)
	if r, e := rcv.Get(m, 0); r != one() || e != api.OK {
		t.Errorf("Get: %v, %d", r, e)
	}
}

// A frame of zeros is none, though its words would be a right one's; one whose head alone was
// made is one.
func TestNewFrame(t *testing.T) {
	d := &model{words: make([]frame, 64)}
	m := d.real(t)
	for f := range 64 {
		notThere(t, m, d, f)
		head.Make(m, f, api.Head{K: api.ORcv})
		d.words[f] = frame{rcvHead}
		if r, e := doGet(t, m, d, f); r != (api.Rcv{}) || e != api.OK {
			t.Fatalf("Get(%d): %v, %d", f, r, e)
		}
		if e := doTell(t, m, d, f, api.Event{K: 3, T: f}); e != api.OK {
			t.Fatalf("Tell(%d): %d", f, e)
		}
	}
}

// Words that are no right endpoint's are told by all that look at them, be the ring one with
// room, without room or one that can't be; Put does not look at them, mends them and leaves the
// ring.
func TestWrongWords(t *testing.T) {
	rings := [][2]uint64{{0, 0}, {6, 3}, {2, 8}, {8, 0}, {0, 9}}
	d := plain()
	m := d.real(t)
	for i, w := range wrongWords() {
		ring := rings[i%len(rings)]
		d.lay(1, w)
		d.words[1][beginAt], d.words[1][countAt] = ring[0], ring[1]
		d.write(t, m, 1)
		refusals(t, m, d, 1, api.ErrForm)
		r := few()[i%len(few())]
		if e := doPut(t, m, d, 1, r); e != api.OK {
			t.Fatalf("Put over %v: %d", w, e)
		}
		if got, e := doGet(t, m, d, 1); got != r || e != api.OK {
			t.Fatalf("Get behind Put over %v: %v, %d", w, got, e)
		}
	}
}

// Each of the eight words alone, with all its bits.
func TestGetBits(t *testing.T) {
	d := blank(1)
	m := d.real(t)
	for _, r := range few() {
		for i := range 8 {
			for bit := range 64 {
				w := words(r)
				w[i] ^= 1 << bit
				d.set(0, api.Rcv{}, 0)
				d.lay(0, w)
				d.write(t, m, 0)
				if _, e := doGet(t, m, d, 0); (bit > 7 || i > 4) && e != api.ErrForm {
					t.Fatalf("Get of %v: %d", w, e)
				}
			}
		}
	}
}

// Each of the eight words alone, over its whole range, and behind it.
func TestGetEachWord(t *testing.T) {
	m, _ := mem.New(1)
	for _, base := range []api.Rcv{{}, one(), full()} {
		for i, most := range []uint64{63, 64, 255, 1, 255, 0, 0, 0} {
			d := &model{words: make([]frame, 1)}
			d.begin(0, base)
			d.write(t, m, 0)
			for v := range most + 2000 {
				d.words[0][thdAt+i] = v
				m.Store(0, thdAt+i, v)
				r, e := rcv.Get(m, 0)
				if want, wantE := d.get(0); r != want || e != wantE || (e == api.OK) != (v <= most) {
					t.Fatalf("word %d is %d: %v, %d, not %v, %d", i, v, r, e, want, wantE)
				}
			}
		}
	}
}

// Get, Put, More, Less and Wait don't ask what the ring is; Tell does.
func TestWrongRings(t *testing.T) {
	for i, w := range wrongRings() {
		d := plain()
		r := few()[i%len(few())]
		d.lay(1, words(r))
		d.words[1][beginAt], d.words[1][countAt] = w[0], w[1]
		m := d.real(t)
		for _, x := range []api.Event{{K: 1}, {K: 6, T: 63}} {
			if e := doTell(t, m, d, 1, x); e != api.ErrForm {
				t.Fatalf("Tell to a ring of %v: %d", w, e)
			}
		}
		if got, e := doGet(t, m, d, 1); got != r || e != api.OK {
			t.Fatalf("Get with a ring of %v: %v, %d", w, got, e)
		}
		if waits, e := doMore(t, m, d, 1); waits != r.Waits || e != api.OK {
			t.Fatalf("More with a ring of %v: %v, %d", w, waits, e)
		}
		if had, e := doLess(t, m, d, 1); !had || e != api.OK {
			t.Fatalf("Less with a ring of %v: %v, %d", w, had, e)
		}
		for _, waits := range []bool{true, false} {
			if e := doWait(t, m, d, 1, waits); e != api.OK {
				t.Fatalf("Wait with a ring of %v: %d", w, e)
			}
		}
		if e := doPut(t, m, d, 1, full()); e != api.OK {
			t.Fatalf("Put with a ring of %v: %d", w, e)
		}
		if e := doTell(t, m, d, 1, api.Event{K: 2}); e != api.ErrForm {
			t.Fatalf("Tell behind Put with a ring of %v: %d", w, e)
		}
	}
}

// What lies behind the head, the endpoint's words and its ring says nothing, and stays.
func TestOtherWordsStay(t *testing.T) {
	for at := restAt; at < wholeAt; at++ {
		for _, w := range []uint64{0, 1, 2, 256, 1 << 32, math.MaxUint64} {
			d := plain()
			m := d.real(t)
			for _, f := range []int{1, 3, 5} {
				d.words[f][at] = w
				d.write(t, m, f)
				if _, e := doGet(t, m, d, f); e != api.OK {
					t.Fatalf("Get with %d at %d: %d", w, at, e)
				}
				for i := range 10 {
					if e := doTell(t, m, d, f, api.Event{K: 1, T: i}); e != api.OK {
						t.Fatalf("Tell with %d at %d: %d", w, at, e)
					}
				}
				if _, e := doMore(t, m, d, f); e != api.OK {
					t.Fatalf("More with %d at %d: %d", w, at, e)
				}
				if had, e := doLess(t, m, d, f); !had || e != api.OK {
					t.Fatalf("Less with %d at %d: %v, %d", w, at, had, e)
				}
				if e := doWait(t, m, d, f, f == 3); e != api.OK {
					t.Fatalf("Wait with %d at %d: %d", w, at, e)
				}
				if e := doPut(t, m, d, f, one()); e != api.OK {
					t.Fatalf("Put with %d at %d: %d", w, at, e)
				}
				if got, _ := m.Load(f, at); got != w {
					t.Fatalf("%d at %d is %d", w, at, got)
				}
			}
		}
	}
}

// P22.1: any endpoint over any other leaves nothing of it but its ring, whatever events that
// has, and what lies behind it.
func TestPutOverAnother(t *testing.T) {
	for _, have := range []int{2, 64} {
		for i, f := range []int{0, have / 2, have - 1} {
			d := blank(have)
			had := row(4 * i)
			d.set(f, one(), 5, had...)
			m := d.real(t)
			for _, a := range few() {
				for _, b := range few() {
					for _, r := range []api.Rcv{a, b} {
						if e := doPut(t, m, d, f, r); e != api.OK {
							t.Fatalf("Put(%d, %v): %d", f, r, e)
						}
					}
					if got, e := rcv.Get(m, f); got != b || e != api.OK {
						t.Fatalf("%v behind %v is %v, %d", b, a, got, e)
					}
					if all, e := ring.All(m, f); !slices.Equal(all, had) || e != api.OK {
						t.Fatalf("the ring behind Put is %v, %d", all, e)
					}
				}
			}
		}
	}
}

// From each beginning, with each count, Put leaves the ring.
func TestPutLeavesRing(t *testing.T) {
	for begin := range room {
		for count := range room + 1 {
			d := plain()
			d.layRing(1, begin, row(count)...)
			m := d.real(t)
			for _, r := range few() {
				if e := doPut(t, m, d, 1, r); e != api.OK {
					t.Fatalf("Put(%v): %d", r, e)
				}
				if all, e := ring.All(m, 1); !slices.Equal(all, row(count)) || e != api.OK {
					t.Fatalf("the ring behind Put is %v, %d", all, e)
				}
			}
		}
	}
}

// P22.3: Get undoes Make, and Put: all endpoints of ends and betweens, there and back.
func TestGetUndoesMakeAndPut(t *testing.T) {
	d := plain()
	m := d.real(t)
	for _, r := range some() {
		if e := doMake(t, m, d, 2, r); e != api.OK {
			t.Fatalf("Make(%v): %d", r, e)
		}
		if got, e := rcv.Get(m, 2); got != r || e != api.OK {
			t.Fatalf("%v that was made is %v, %d", r, got, e)
		}
		if e := doPut(t, m, d, 1, r); e != api.OK {
			t.Fatalf("Put(%v): %d", r, e)
		}
		if got, e := rcv.Get(m, 1); got != r || e != api.OK {
			t.Fatalf("%v that was put is %v, %d", r, got, e)
		}
	}
}

// P22.2: from each beginning, with each count, an event is told behind the others, or is lost
// and counted, up to where the counter stays; that is OK.
func TestTell(t *testing.T) {
	for begin := range room {
		for count := range room + 1 {
			for _, lost := range []int{0, 1, 127, top - 1, top} {
				for _, base := range []api.Rcv{one(), other(), {}} {
					r := base
					r.Lost = lost
					had := row(count)
					d := plain()
					d.set(3, r, begin, had...)
					m := d.real(t)
					x := api.Event{K: 6, T: 63}
					if e := doTell(t, m, d, 3, x); e != api.OK {
						t.Fatalf("Tell of %d from %d on: %d", count, begin, e)
					}
					if count < room {
						had = append(had, x)
					} else if lost < top {
						r.Lost++
					}
					if got, e := rcv.Get(m, 3); got != r || e != api.OK {
						t.Fatalf("behind Tell of %d: %v, %d, not %v", count, got, e, r)
					}
					if all, e := ring.All(m, 3); !slices.Equal(all, had) || e != api.OK {
						t.Fatalf("behind Tell of %d: %v, %d, not %v", count, all, e, had)
					}
				}
			}
		}
	}
}

// All events go in, at each place; each is lost, too, where there is no room.
func TestTellEachEvent(t *testing.T) {
	for begin := range room {
		d := blank(1)
		d.set(0, one(), begin)
		m := d.real(t)
		for k := 1; k <= 6; k++ {
			for f := range 64 {
				x := api.Event{K: k, T: f}
				if e := doTell(t, m, d, 0, x); e != api.OK {
					t.Fatalf("Tell(%v): %d", x, e)
				}
				if got, e := ring.Take(m, 0); got != x || e != api.OK {
					t.Fatalf("Take: %v, %d, not %v", got, e, x)
				}
				d.words[0][beginAt] = (d.words[0][beginAt] + 1) % room
				d.words[0][countAt] = 0
				d.same(t, m, "Take")
			}
		}
		full := api.Rcv{Thd: 3}
		d.set(0, full, begin, row(room)...)
		d.write(t, m, 0)
		for k := 1; k <= 6; k++ {
			for f := 0; f < 64; f += 3 {
				if e := doTell(t, m, d, 0, api.Event{K: k, T: f}); e != api.OK {
					t.Fatalf("Tell: %d", e)
				}
				full.Lost++
			}
		}
		if got, e := rcv.Get(m, 0); got != full || e != api.OK {
			t.Fatalf("Get: %v, %d, not %v", got, e, full)
		}
	}
}

// Tell does not look at the words of the events that are there, nor at the one that it lays its
// own over.
func TestTellOverWords(t *testing.T) {
	for _, w := range []uint64{0, 7, 15, 16, 1024, 1025, 1 << 32, math.MaxUint64} {
		d := blank(1)
		d.set(0, one(), 6, row(4)...)
		for i := range room {
			d.words[0][firstAt+i] = w
		}
		m := d.real(t)
		for i := range 8 {
			if e := doTell(t, m, d, 0, api.Event{K: 2, T: i}); e != api.OK {
				t.Fatalf("Tell over %d: %d", w, e)
			}
		}
		if r, _ := rcv.Get(m, 0); r.Lost != one().Lost+4 {
			t.Fatalf("%d are lost", r.Lost)
		}
	}
}

// P22.3: what was told is in the ring, or taken from it, or counted as lost, up to the most, of
// which no more is counted; then counting may begin again.
func TestLostIsCounted(t *testing.T) {
	m, _ := mem.New(1)
	r := api.Rcv{Thd: 9, Count: 3}
	rcv.Make(m, 0, r)
	for told := 1; told <= room+top+40; told++ {
		if e := rcv.Tell(m, 0, api.Event{K: 1 + told%6, T: told % 64}); e != api.OK {
			t.Fatalf("Tell %d: %d", told, e)
		}
		all, _ := ring.All(m, 0)
		r.Lost = min(max(told-room, 0), top)
		if got, e := rcv.Get(m, 0); got != r || e != api.OK || len(all) != min(told, room) {
			t.Fatalf("behind %d: %v, %d, and %d events, not %v", told, got, e, len(all), r)
		}
	}
	if first, e := ring.Take(m, 0); first != (api.Event{K: 2, T: 1}) || e != api.OK {
		t.Fatalf("Take: %v, %d", first, e)
	}
	r.Lost = 0
	rcv.Put(m, 0, r)
	for _, lost := range []int{0, 1, 2} {
		if e := rcv.Tell(m, 0, api.Event{K: 5, T: 5}); e != api.OK {
			t.Fatalf("Tell: %d", e)
		}
		if got, _ := rcv.Get(m, 0); got.Lost != lost {
			t.Fatalf("%d are lost, not %d", got.Lost, lost)
		}
	}
}

// P22.2: from each count on there is one send more, up to where the counter stays; whether it
// waits is told, and stays.
func TestMore(t *testing.T) {
	for count := range top + 1 {
		for _, waits := range []bool{false, true} {
			for _, base := range []api.Rcv{one(), other(), full(), {}} {
				r := base
				r.Count, r.Waits = count, waits
				d := plain()
				d.lay(1, words(r))
				m := d.real(t)
				if got, e := doMore(t, m, d, 1); got != waits || e != api.OK {
					t.Fatalf("More of %v: %v, %d", r, got, e)
				}
				r.Count = min(count+1, 255)
				if got, e := rcv.Get(m, 1); got != r || e != api.OK {
					t.Fatalf("behind More: %v, %d, not %v", got, e, r)
				}
			}
		}
	}
}

// P22.2: from each count but 0 on there is one send less; of 0 there was none, and it stays.
func TestLess(t *testing.T) {
	for count := range top + 1 {
		for _, waits := range []bool{false, true} {
			for _, base := range []api.Rcv{one(), other(), full(), {}} {
				r := base
				r.Count, r.Waits = count, waits
				d := plain()
				d.lay(1, words(r))
				m := d.real(t)
				if had, e := doLess(t, m, d, 1); had != (count > 0) || e != api.OK {
					t.Fatalf("Less of %v: %v, %d", r, had, e)
				}
				r.Count = max(count-1, 0)
				if got, e := rcv.Get(m, 1); got != r || e != api.OK {
					t.Fatalf("behind Less: %v, %d, not %v", got, e, r)
				}
			}
		}
	}
}

// As many as were sent come, up to the most.
func TestMoreAndLess(t *testing.T) {
	for _, sent := range []int{0, 1, 2, 7, 254, 255, 256, 300} {
		d := blank(1)
		d.set(0, api.Rcv{Thd: 2, Waits: true}, 3, row(2)...)
		m := d.real(t)
		for range sent {
			if waits, e := doMore(t, m, d, 0); !waits || e != api.OK {
				t.Fatalf("More: %v, %d", waits, e)
			}
		}
		for i := range 310 {
			if had, e := doLess(t, m, d, 0); had != (i < min(sent, 255)) || e != api.OK {
				t.Fatalf("Less %d of %d: %v, %d", i, sent, had, e)
			}
		}
	}
}

// P22.2: Waits is what is told, whatever it was, both ways twice; nothing else changes.
func TestWait(t *testing.T) {
	for _, base := range few() {
		d := plain()
		d.lay(1, words(base))
		m := d.real(t)
		for _, waits := range []bool{true, true, false, false, true, false} {
			if e := doWait(t, m, d, 1, waits); e != api.OK {
				t.Fatalf("Wait(%v): %d", waits, e)
			}
			want := base
			want.Waits = waits
			if got, e := rcv.Get(m, 1); got != want || e != api.OK {
				t.Fatalf("behind Wait: %v, %d, not %v", got, e, want)
			}
			if got, e := doMore(t, m, d, 1); got != waits || e != api.OK {
				t.Fatalf("More behind Wait(%v): %v, %d", waits, got, e)
			}
			d.lay(1, words(want))
			d.write(t, m, 1)
		}
	}
}

// Where the frame lies is all the same, in memories of one frame to the most; endpoints in
// other frames stay.
func TestEachFrame(t *testing.T) {
	for _, have := range []int{1, 2, 3, 64} {
		for f := range have {
			d := blank(have)
			for g := range have {
				d.set(g, other(), g%room, row(7)...)
			}
			m := d.real(t)
			for i := range 3 {
				if e := doTell(t, m, d, f, api.Event{K: 2, T: i}); e != api.OK {
					t.Fatalf("Tell(%d): %d", f, e)
				}
			}
			if e := doWait(t, m, d, f, true); e != api.OK {
				t.Fatalf("Wait(%d): %d", f, e)
			}
			for range 2 {
				if waits, e := doMore(t, m, d, f); !waits || e != api.OK {
					t.Fatalf("More(%d): %v, %d", f, waits, e)
				}
			}
			if had, e := doLess(t, m, d, f); !had || e != api.OK {
				t.Fatalf("Less(%d): %v, %d", f, had, e)
			}
			want := other()
			want.Count, want.Waits, want.Lost = want.Count+1, true, want.Lost+2
			if r, e := doGet(t, m, d, f); r != want || e != api.OK {
				t.Fatalf("Get(%d): %v, %d, not %v", f, r, e, want)
			}
		}
	}
}

// Two memories have nothing of each other.
func TestTwoMemories(t *testing.T) {
	d, still := plain(), plain()
	m, n := d.real(t), still.real(t)
	doTell(t, m, d, 1, api.Event{K: 2, T: 2})
	doTell(t, m, d, 5, api.Event{K: 2, T: 2})
	doMore(t, m, d, 3)
	doLess(t, m, d, 5)
	doWait(t, m, d, 3, true)
	doPut(t, m, d, 1, full())
	doMake(t, m, d, 2, one())
	still.same(t, n, "the other")
}

// chance answers numbers below n, in an order that hangs on nothing else.
func chance() func(n int) int {
	x := uint64(22)
	return func(n int) int {
		x = x*6364136223846793005 + 1442695040888963407
		return int(x >> 33 % uint64(n))
	}
}

// P22.3: however tells and takes are mixed, each event is in the ring, was taken or is counted
// as lost; what comes is what was told and not lost, in its order.
func TestNoneIsLostUncounted(t *testing.T) {
	next := chance()
	m, _ := mem.New(3)
	var rows [3][]api.Event
	var told, taken, lost [3]int
	for f := range rows {
		rcv.Make(m, f, api.Rcv{Thd: f})
	}
	for i := range 6000 {
		f := next(3)
		if next(40) < 10+20*(i/100%2) { // by turns more are told, and more taken
			x := api.Event{K: 1 + next(6), T: next(64)}
			if e := rcv.Tell(m, f, x); e != api.OK {
				t.Fatalf("Tell: %d", e)
			}
			told[f]++
			if len(rows[f]) < room {
				rows[f] = append(rows[f], x)
			} else {
				lost[f]++
			}
		} else if x, e := ring.Take(m, f); e == api.OK {
			if len(rows[f]) == 0 || x != rows[f][0] {
				t.Fatalf("Take: %v of %v", x, rows[f])
			}
			rows[f] = rows[f][1:]
			taken[f]++
		}
		r, e := rcv.Get(m, f)
		all, _ := ring.All(m, f)
		if r != (api.Rcv{Thd: f, Lost: min(lost[f], top)}) || e != api.OK || !slices.Equal(all, rows[f]) {
			t.Fatalf("%v, %d, with %v, not %v", r, e, all, rows[f])
		}
		if r.Lost < top && told[f] != taken[f]+len(all)+r.Lost {
			t.Fatalf("%d told, %d taken, %d there, %d lost", told[f], taken[f], len(all), r.Lost)
		}
	}
	for f := range rows {
		if taken[f] < 100 || lost[f] <= top {
			t.Errorf("frame %d: %d taken, %d lost", f, taken[f], lost[f])
		}
	}
}

// bend makes words of a frame such as no call leaves, or an endpoint of any counts and ring.
func (d *model) bend(f int, next func(int) int) {
	switch next(8) {
	case 0:
		bad := wrongWords()
		d.lay(f, bad[next(len(bad))])
	case 1:
		bad := wrongRings()
		copy(d.words[f][beginAt:firstAt], bad[next(len(bad))][:])
	case 2:
		heads := wrongHeads()
		copy(d.words[f][:thdAt], heads[next(len(heads))][:])
	case 3:
		d.words[f][restAt+next(wholeAt-restAt)] = uint64(next(1 << 30))
	default:
		all := some()
		d.set(f, all[next(len(all))], next(room), row(next(room+1))...)
	}
}

// Any calls in any order, with numbers near the ranges and far from them.
func TestManyCalls(t *testing.T) {
	next := chance()
	far := outside()
	near := func(least int, most int) int {
		switch next(40) {
		case 0:
			return far[next(len(far))]
		case 1:
			return most + 1
		case 2:
			return least - 1
		}
		return least + next(most-least+1)
	}
	endpoint := func() api.Rcv {
		return api.Rcv{Thd: near(0, 63), Parent: near(0, 64), Count: near(0, top), Waits: next(2) == 0, Lost: near(0, top)}
	}
	for _, have := range []int{1, 3, 8} {
		d := blank(have)
		m := d.real(t)
		var seen [14]int
		for range 20000 {
			f, e := near(0, have-1), api.OK
			switch next(20) {
			case 0:
				e = doMake(t, m, d, f, endpoint())
			case 1:
				e = doPut(t, m, d, f, endpoint())
			case 2, 3, 4, 5, 6, 7, 8, 9:
				e = doTell(t, m, d, f, api.Event{K: near(1, 6), T: near(0, 63)})
			case 10, 11, 12:
				_, e = doMore(t, m, d, f)
			case 13, 14:
				_, e = doLess(t, m, d, f)
			case 15, 16:
				e = doWait(t, m, d, f, next(2) == 0)
			case 17, 18:
				_, e = doGet(t, m, d, f)
			default:
				g := next(have)
				d.bend(g, next)
				d.write(t, m, g)
			}
			seen[e]++
		}
		for _, e := range []api.Errno{api.OK, api.ErrArg, api.ErrType, api.ErrForm} {
			if seen[e] == 0 {
				t.Errorf("of %d frames: %d was never told", have, e)
			}
		}
	}
}

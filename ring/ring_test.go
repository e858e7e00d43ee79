package ring_test

import (
	"math"
	"slices"
	"testing"

	"palanquin/api"
	"palanquin/captbl"
	"palanquin/comp"
	"palanquin/head"
	"palanquin/mem"
	"palanquin/pgtbl"
	"palanquin/ring"
	"palanquin/tcap"
	"palanquin/thd"
)

// room is how many events a ring has place for.
const room = 8

// rcvHead is the first word of an endpoint's head; the other three are 0.
const rcvHead = 6

// Where the words of a ring lie.
const (
	beginAt = 12
	countAt = 13
	firstAt = 14
)

type frame [36]uint64

// model is a model of a memory: what the calls answer and change is held against it. One
// without frames is that of no memory.
type model struct {
	words []frame
}

func within(v int, least int, most int) bool { return least <= v && v <= most }

// right tells whether an event can be, by the chapter's words.
func right(x api.Event) bool { return within(x.K, 1, 6) && within(x.T, 0, 63) }

func check(x api.Event) api.Errno {
	if right(x) {
		return api.OK
	}
	return api.ErrArg
}

func word(x api.Event) (uint64, api.Errno) {
	if !right(x) {
		return 0, api.ErrArg
	}
	return uint64(x.K + 16*x.T), api.OK
}

func of(w uint64) (api.Event, api.Errno) {
	if w >= 1024 || w%16 < 1 || w%16 > 6 {
		return api.Event{}, api.ErrForm
	}
	return api.Event{K: int(w % 16), T: int(w / 16)}, api.OK
}

func (d *model) has(f int) bool { return f >= 0 && f < len(d.words) }

func (d *model) isRcv(f int) bool {
	return d.has(f) && [4]uint64(d.words[f][:4]) == [4]uint64{rcvHead}
}

// at answers which word of its frame the i-th event of a ring that begins at begin has.
func at(begin int, i int) int {
	if begin+i < room {
		return firstAt + begin + i
	}
	return firstAt + begin + i - room
}

// ends answers where the ring in frame f begins, and how many there are.
func (d *model) ends(f int) (int, int, api.Errno) {
	if !d.isRcv(f) {
		return 0, 0, api.ErrType
	}
	begin, count := d.words[f][beginAt], d.words[f][countAt]
	if begin > 7 || count > 8 {
		return 0, 0, api.ErrForm
	}
	return int(begin), int(count), api.OK
}

func (d *model) clear(f int) api.Errno {
	if !d.isRcv(f) {
		return api.ErrType
	}
	d.words[f][beginAt], d.words[f][countAt] = 0, 0
	return api.OK
}

func (d *model) put(f int, x api.Event) api.Errno {
	w, e := word(x)
	if e != api.OK {
		return e
	}
	begin, count, e := d.ends(f)
	if e != api.OK {
		return e
	}
	if count == room {
		return api.ErrFull
	}
	d.words[f][at(begin, count)] = w
	d.words[f][countAt]++
	return api.OK
}

func (d *model) take(f int) (api.Event, api.Errno) {
	begin, count, e := d.ends(f)
	if e != api.OK {
		return api.Event{}, e
	}
	if count == 0 {
		return api.Event{}, api.ErrNone
	}
	x, e := of(d.words[f][at(begin, 0)])
	if e != api.OK {
		return api.Event{}, e
	}
	d.words[f][beginAt]++
	if begin == room-1 {
		d.words[f][beginAt] = 0
	}
	d.words[f][countAt]--
	return x, api.OK
}

func (d *model) all(f int) ([]api.Event, api.Errno) {
	begin, count, e := d.ends(f)
	if e != api.OK {
		return nil, e
	}
	var all []api.Event
	for i := range count {
		x, e := of(d.words[f][at(begin, i)])
		if e != api.OK {
			return nil, e
		}
		all = append(all, x)
	}
	return all, api.OK
}

// lay makes frame f an endpoint's, whose ring begins at begin and has these events; its other
// words stay.
func (d *model) lay(f int, begin int, events ...api.Event) {
	copy(d.words[f][:4], []uint64{rcvHead, 0, 0, 0})
	d.words[f][beginAt], d.words[f][countAt] = uint64(begin), uint64(len(events))
	for i, x := range events {
		d.words[f][at(begin, i)], _ = word(x)
	}
}

// row answers count events of which no two are the same.
func row(count int) []api.Event {
	var all []api.Event
	for i := range count {
		all = append(all, api.Event{K: 1 + (i+3)%6, T: (7*i + 50) % 64})
	}
	return all
}

// blank is a model of frames of which no two words are the same, and none is a head's or an
// event's, or says where a ring begins or how many there are.
func blank(frames int) *model {
	d := &model{words: make([]frame, frames)}
	for f := range d.words {
		for at := range d.words[f] {
			d.words[f][at] = 1<<40 + uint64(1000*f+at)
		}
	}
	return d
}

// plain has three rings, 1 with three events, 3 with none, 5 with as many as there is room
// for, and between and behind them frames of something else; around their words the rings
// have others, which say nothing.
func plain() *model {
	d := blank(7)
	d.lay(1, 2, row(3)...)
	d.lay(3, 5)
	d.lay(5, 6, row(room)...)
	return d
}

// real is a memory with the words of the model.
func (d *model) real(t *testing.T) *mem.Mem {
	t.Helper()
	m, e := mem.New(len(d.words))
	if e != api.OK {
		t.Fatalf("New(%d): %d", len(d.words), e)
	}
	for f := range d.words {
		d.write(t, m, f)
	}
	return m
}

// write makes the words of frame f of m those of the model.
func (d *model) write(t *testing.T, m *mem.Mem, f int) {
	for at, w := range d.words[f] {
		if e := m.Store(f, at, w); e != api.OK {
			t.Helper()
			t.Fatalf("Store(%d, %d): %d", f, at, e)
		}
	}
}

// same fails if the words of m are others than the model's.
func (d *model) same(t *testing.T, m *mem.Mem, what ...any) {
	if m.Len() != len(d.words) {
		t.Helper()
		t.Fatalf("%v: %d frames, not %d", what, m.Len(), len(d.words))
	}
	for f := range d.words {
		got, e := m.Words(f)
		if e != api.OK || !slices.Equal(got, d.words[f][:]) {
			t.Helper()
			t.Fatalf("%v: frame %d is %v, %d, not %v", what, f, got, e, d.words[f])
		}
	}
}

// Each of these calls both, and fails where the answers differ, or where the words do behind
// it: so what is refused has changed nothing, and what is not no more than is meant.

func doClear(t *testing.T, m *mem.Mem, d *model, f int) api.Errno {
	t.Helper()
	e, want := ring.Clear(m, f), d.clear(f)
	if e != want {
		t.Fatalf("Clear(%d): %d, not %d", f, e, want)
	}
	d.same(t, m, "Clear", f)
	return e
}

func doPut(t *testing.T, m *mem.Mem, d *model, f int, x api.Event) api.Errno {
	t.Helper()
	e, want := ring.Put(m, f, x), d.put(f, x)
	if e != want {
		t.Fatalf("Put(%d, %v): %d, not %d", f, x, e, want)
	}
	d.same(t, m, "Put", f, x)
	return e
}

func doTake(t *testing.T, m *mem.Mem, d *model, f int) (api.Event, api.Errno) {
	t.Helper()
	x, e := ring.Take(m, f)
	wantX, want := d.take(f)
	if x != wantX || e != want || e != api.OK && x != (api.Event{}) {
		t.Fatalf("Take(%d): %v, %d, not %v, %d", f, x, e, wantX, want)
	}
	d.same(t, m, "Take", f)
	return x, e
}

func doAll(t *testing.T, m *mem.Mem, d *model, f int) ([]api.Event, api.Errno) {
	t.Helper()
	all, e := ring.All(m, f)
	wantAll, want := d.all(f)
	if !slices.Equal(all, wantAll) || e != want || e != api.OK && len(all) != 0 {
		t.Fatalf("All(%d): %v, %d, not %v, %d", f, all, e, wantAll, want)
	}
	d.same(t, m, "All", f)
	return all, e
}

// outside are numbers that lie behind every range. Some of them, cut to fewer bits, come back
// into one.
func outside() []int {
	out := []int{
		math.MinInt, math.MinInt + 1, math.MinInt + 3, math.MaxInt - 1, math.MaxInt,
		-1<<32 + 3, -65536, -1024, -1023, -256, -255, -253, -128, -64, -63, -61, -16, -15, -13, -8, -7, -3, -2, -1,
		64, 65, 67, 127, 128, 131, 255, 256, 259, 1023, 1024, 1027,
	}
	for bit := 7; bit < 63; bit++ {
		out = append(out, 1<<bit, 1<<bit+3, -1<<bit, -1<<bit+3)
	}
	return out
}

// noKinds and noThreads are numbers that are none of an event's.
func noKinds() []int   { return append(outside(), 0, 7, 8, 9, 15, 16, 17, 19, 22, 32, 33, 49, 63) }
func noThreads() []int { return outside() }

// frames are those that a memory of that many has not.
func frames(have int) []int {
	out := []int{have, have + 1, 2 * have}
	for _, f := range outside() {
		if f < 0 || f >= have {
			out = append(out, f)
		}
	}
	return out
}

// events are all that can be.
func events() []api.Event {
	var all []api.Event
	for k := 1; k <= 6; k++ {
		for f := range 64 {
			all = append(all, api.Event{K: k, T: f})
		}
	}
	return all
}

// wrong are events of which one part is not as it must be, or both are not.
func wrong() []api.Event {
	all := []api.Event{{}, {K: 0, T: 63}, {K: 7}, {K: 1, T: 64}, {K: 1, T: -1}, {K: -1, T: -1}, {K: 7, T: 64}}
	for _, k := range noKinds() {
		for _, f := range []int{0, 1, 3, 62, 63, k} {
			all = append(all, api.Event{K: k, T: f})
		}
	}
	for _, f := range noThreads() {
		for k := 1; k <= 6; k++ {
			all = append(all, api.Event{K: k, T: f})
		}
	}
	return all
}

// wrongHeads are the first four words of frames that have no endpoint.
func wrongHeads() [][4]uint64 {
	all := [][4]uint64{
		{}, {1}, {17}, {33, 7}, {49, 7}, {2}, {18}, {3}, {4}, {5}, // of other kinds
		{7}, {8}, {14}, {15}, {22}, {38}, {54}, {38, 7}, {70}, {128 + 6}, // of none
		{6, 1}, {6, 1 << 30}, {6, 1 << 32}, {6, 0, 1}, {6, 0, 0, 1},
		{0, 6}, {0, 0, 6}, {0, 0, 0, 6},
		{math.MaxUint64, math.MaxUint64, math.MaxUint64, math.MaxUint64},
	}
	for at := range 4 {
		for bit := range 64 {
			w := [4]uint64{rcvHead}
			w[at] ^= 1 << bit
			all = append(all, w)
		}
	}
	return all
}

// high are words that are greater than all that a ring has, of which some, cut to fewer bits,
// come back into a range.
func high() []uint64 {
	all := []uint64{math.MaxUint64, math.MaxUint64 - 7, math.MaxUint64 - 14, 1<<63 + 1}
	for bit := 10; bit < 64; bit++ {
		all = append(all, 1<<bit, 1<<bit+3, 1<<bit+49)
	}
	return all
}

// wrongBegins and wrongCounts are words that can't say where a ring begins, or how many there
// are.
func wrongBegins() []uint64 {
	return append(high(), 8, 9, 10, 14, 15, 16, 17, 24, 35, 36, 64, 255, 256, 257)
}
func wrongCounts() []uint64 {
	return append(high(), 9, 10, 11, 15, 16, 17, 24, 35, 36, 64, 255, 256, 257)
}

// wrongWords are words that are no event's: each part alone, both, and bits above them.
func wrongWords() []uint64 {
	all := high()
	for thread := range uint64(64) {
		for _, k := range []uint64{0, 7, 8, 9, 10, 11, 12, 13, 14, 15} {
			all = append(all, k+16*thread)
		}
	}
	return all
}

// The chapter's example, and what the word of it is.
func TestExample(t *testing.T) {
	m, _ := mem.New(1)
	head.Make(m, 0, api.Head{K: api.ORcv})
	if e := ring.Put(m, 0, api.Event{K: api.VBlock, T: 3}); e != api.OK {
		t.Errorf("Put: %d", e)
	}
	if x, e := ring.Take(m, 0); x != (api.Event{K: api.VBlock, T: 3}) || e != api.OK {
		t.Errorf("Take: %v, %d", x, e)
	}
}

// The chapter gives the errors by their numbers, and where the words lie.
func TestNumbers(t *testing.T) {
	m, _ := mem.New(4)
	for f := 1; f < 4; f++ {
		head.Make(m, f, api.Head{K: api.ORcv})
	}
	x := api.Event{K: api.VLine, T: 63}
	for i := range 8 {
		ring.Put(m, 1, api.Event{K: api.VBlock, T: i})
	}
	for range 3 {
		ring.Take(m, 1)
	}
	ring.Put(m, 1, x)
	ring.Put(m, 2, x)
	for i := range 8 {
		ring.Put(m, 3, api.Event{K: api.VReady, T: i})
	}
	want := []frame{
		{},
		{6, 0, 0, 0, 0, 0, 0, 0, 0, 0, 0, 0, 3, 6, 63*16 + 6, 17, 33, 49, 65, 81, 97, 113},
		{6, 0, 0, 0, 0, 0, 0, 0, 0, 0, 0, 0, 0, 1, 63*16 + 6},
		{6, 0, 0, 0, 0, 0, 0, 0, 0, 0, 0, 0, 0, 8, 2, 18, 34, 50, 66, 82, 98, 114},
	}
	(&model{words: want}).same(t, m, "Put and Take")
	take := func(m *mem.Mem, f int) api.Errno {
		_, e := ring.Take(m, f)
		return e
	}
	all := func(m *mem.Mem, f int) api.Errno {
		_, e := ring.All(m, f)
		return e
	}
	of := func(w uint64) api.Errno {
		_, e := ring.Of(w)
		return e
	}
	_, noWord := ring.Word(api.Event{K: 7})
	for _, y := range []struct {
		name string
		got  api.Errno
		want api.Errno
	}{
		{"Check", ring.Check(x), 0},
		{"Check of nothing", ring.Check(api.Event{}), 1},
		{"Check of no kind", ring.Check(api.Event{K: 7}), 1},
		{"Check of no thread", ring.Check(api.Event{K: 1, T: 64}), 1},
		{"Word of no kind", noWord, 1},
		{"Of", of(49), 0},
		{"Of nothing", of(0), 12},
		{"Of no kind", of(7), 12},
		{"Of too much", of(1024 + 1), 12},
		{"Put of no kind", ring.Put(m, 1, api.Event{K: 7}), 1},
		{"Put in a full one", ring.Put(m, 3, x), 2},
		{"Put in something else", ring.Put(m, 0, x), 4},
		{"Put in no frame", ring.Put(m, 4, x), 4},
		{"Put in no memory", ring.Put(nil, 1, x), 4},
		{"Take from something else", take(m, 0), 4},
		{"Take from no frame", take(m, 4), 4},
		{"Take from no memory", take(nil, 1), 4},
		{"All", all(m, 1), 0},
		{"All of something else", all(m, 0), 4},
		{"All of no frame", all(m, 4), 4},
		{"All of no memory", all(nil, 1), 4},
		{"Clear of something else", ring.Clear(m, 0), 4},
		{"Clear of no frame", ring.Clear(m, 4), 4},
		{"Clear of no memory", ring.Clear(nil, 1), 4},
	} {
		if y.got != y.want {
			t.Errorf("%s: %d, not %d", y.name, y.got, y.want)
		}
	}
	(&model{words: want}).same(t, m, "refused")
	m.Store(3, 14, 0)
	if take(m, 3) != 12 || all(m, 3) != 12 {
		t.Error("a word that is no event's")
	}
	for at, w := range map[int]uint64{12: 8, 13: 9} {
		m.Store(2, 12, 0)
		m.Store(2, 13, 0)
		if take(m, 2) != 3 {
			t.Error("Take of none")
		}
		m.Store(2, at, w)
		if ring.Put(m, 2, x) != 12 || take(m, 2) != 12 || all(m, 2) != 12 || ring.Clear(m, 2) != 0 {
			t.Errorf("%d at %d", w, at)
		}
	}
}

// The numbers of the limits are those of the given names.
func TestLimits(t *testing.T) {
	for name, y := range map[string]struct {
		x    api.Event
		want api.Errno
	}{
		"the first kind":          {api.Event{K: api.VBlock}, api.OK},
		"one ahead of it":         {api.Event{K: api.VBlock - 1}, api.ErrArg},
		"the last kind":           {api.Event{K: api.VLine}, api.OK},
		"one behind it":           {api.Event{K: api.VLine + 1}, api.ErrArg},
		"the last thread":         {api.Event{K: api.VDead, T: api.MaxFrames - 1}, api.OK},
		"one behind that":         {api.Event{K: api.VDead, T: api.MaxFrames}, api.ErrArg},
		"one ahead of the first":  {api.Event{K: api.VDead, T: -1}, api.ErrArg},
		"the last of both":        {api.Event{K: api.VLine, T: api.MaxFrames - 1}, api.OK},
		"the greatest":            {api.Event{K: math.MaxInt, T: math.MaxInt}, api.ErrArg},
		"the least":               {api.Event{K: math.MinInt, T: math.MinInt}, api.ErrArg},
		"the greatest kind":       {api.Event{K: math.MaxInt}, api.ErrArg},
		"the greatest thread":     {api.Event{K: 1, T: math.MaxInt}, api.ErrArg},
		"the least kind":          {api.Event{K: math.MinInt}, api.ErrArg},
		"the least thread":        {api.Event{K: 1, T: math.MinInt}, api.ErrArg},
		"budgets, faults between": {api.Event{K: api.VSpent, T: 9}, api.OK},
		"faults":                  {api.Event{K: api.VFault, T: 9}, api.OK},
		"ready ones":              {api.Event{K: api.VReady, T: 9}, api.OK},
	} {
		if e := ring.Check(y.x); e != y.want {
			t.Errorf("%s: %d, not %d", name, e, y.want)
		}
	}
	if api.MaxRing != room || api.HeadWords+8 != beginAt {
		t.Errorf("a ring of %d, from %d on", api.MaxRing, api.HeadWords+8)
	}
}

// P21.1: each part over its range and behind it, with the other one so, too.
func TestCheck(t *testing.T) {
	for k := -300; k <= 300; k++ {
		for f := -300; f <= 300; f++ {
			x := api.Event{K: k, T: f}
			if e, want := ring.Check(x), check(x); e != want {
				t.Fatalf("Check(%v): %d, not %d", x, e, want)
			}
		}
	}
	for _, x := range wrong() {
		if e := ring.Check(x); e != api.ErrArg {
			t.Fatalf("Check(%v): %d", x, e)
		}
	}
}

// P21.1: all events have their word, and no other event has it; what is none has none.
func TestWord(t *testing.T) {
	seen := map[uint64]api.Event{}
	for _, x := range events() {
		w, e := ring.Word(x)
		if want, _ := word(x); w != want || e != api.OK {
			t.Fatalf("Word(%v): %d, %d, not %d", x, w, e, want)
		}
		if y, ok := seen[w]; ok {
			t.Fatalf("%v and %v have the word %d", x, y, w)
		}
		seen[w] = x
		if got, e := ring.Of(w); got != x || e != api.OK {
			t.Fatalf("Of(%d): %v, %d, not %v", w, got, e, x)
		}
	}
	for _, x := range wrong() {
		if w, e := ring.Word(x); w != 0 || e != api.ErrArg {
			t.Fatalf("Word(%v): %d, %d", x, w, e)
		}
	}
}

// P21.1: all words that are near an event's, with each bit above that, and any others.
func TestOf(t *testing.T) {
	look := func(w uint64) {
		x, e := ring.Of(w)
		want, wantE := of(w)
		if x != want || e != wantE {
			t.Fatalf("Of(%d): %v, %d, not %v, %d", w, x, e, want, wantE)
		}
		if back, wantE := ring.Word(x); e == api.OK && (back != w || wantE != api.OK) {
			t.Fatalf("Word(%v): %d, %d, not %d", x, back, wantE, w)
		}
	}
	for w := range uint64(1 << 17) {
		look(w)
	}
	for w := range uint64(1024) {
		for bit := 10; bit < 64; bit++ {
			look(w | 1<<bit)
		}
		look(math.MaxUint64 - w)
	}
	for _, w := range wrongWords() {
		if x, e := ring.Of(w); x != (api.Event{}) || e != api.ErrForm {
			t.Fatalf("Of(%d): %v, %d", w, x, e)
		}
	}
}

// An event that is not right is told ahead of the memory, of the frame, of what that is, of
// where its ring begins and how many there are, and of the room.
func TestWrongFirst(t *testing.T) {
	d := plain()
	d.lay(2, 0)
	d.words[2][beginAt] = 8
	d.lay(4, 0)
	d.words[4][countAt] = 9
	m := d.real(t)
	for _, x := range wrong() {
		for i, y := range []*mem.Mem{m, nil, {}} {
			for _, f := range []int{0, 1, 2, 3, 4, 5, 6, 7, -1, math.MinInt, math.MaxInt} {
				if e := ring.Put(y, f, x); e != api.ErrArg {
					t.Fatalf("Put(%d, %d, %v): %d", i, f, x, e)
				}
			}
		}
		d.same(t, m, "wrong", x)
	}
}

// refusals fails if Put, Take or All of frame f answer another error than told, or change
// anything.
func refusals(t *testing.T, m *mem.Mem, d *model, f int, told api.Errno) {
	t.Helper()
	for _, x := range []api.Event{{K: 1}, {K: 3, T: 5}, {K: 6, T: 63}} {
		if e := doPut(t, m, d, f, x); e != told {
			t.Fatalf("Put(%d, %v): %d", f, x, e)
		}
	}
	for _, x := range []api.Event{{}, {K: 7}, {K: 1, T: 64}, {K: 1, T: -1}} {
		if e := doPut(t, m, d, f, x); e != api.ErrArg {
			t.Fatalf("Put(%d, %v): %d", f, x, e)
		}
	}
	if x, e := doTake(t, m, d, f); e != told {
		t.Fatalf("Take(%d): %v, %d", f, x, e)
	}
	if all, e := doAll(t, m, d, f); e != told {
		t.Fatalf("All(%d): %v, %d", f, all, e)
	}
}

// notThere fails if one of the calls finds a ring in frame f, or changes anything.
func notThere(t *testing.T, m *mem.Mem, d *model, f int) {
	t.Helper()
	refusals(t, m, d, f, api.ErrType)
	if e := doClear(t, m, d, f); e != api.ErrType {
		t.Fatalf("Clear(%d): %d", f, e)
	}
}

// In a memory that is nil, or that no call made, there is no ring.
func TestNoMemory(t *testing.T) {
	for _, m := range []*mem.Mem{nil, {}} {
		for _, f := range append(frames(1), 0, 1, 3, 63) {
			notThere(t, m, &model{}, f)
		}
	}
}

func TestNoFrame(t *testing.T) {
	for _, have := range []int{1, 2, 5, 64} {
		d := blank(have)
		for f := range have {
			d.lay(f, f%room, row(f%(room+1))...)
		}
		m := d.real(t)
		for _, f := range frames(have) {
			notThere(t, m, d, f)
		}
	}
}

// A frame that begins with anything but an endpoint's head has none, whatever head says of it,
// and whatever words lie behind that; it is told ahead of where the ring would begin, of how
// many there would be, and of their words.
func TestSomethingElse(t *testing.T) {
	d := plain()
	m := d.real(t)
	for _, h := range wrongHeads() {
		for _, w := range [][3]uint64{{0, 0, 0}, {2, 3, 17}, {0, 8, 17}, {8, 3, 17}, {2, 9, 17}, {0, 1, 0}, {math.MaxUint64, math.MaxUint64, 0}} {
			copy(d.words[1][:4], h[:])
			copy(d.words[1][beginAt:], w[:])
			d.write(t, m, 1)
			notThere(t, m, d, 1)
		}
	}
}

// Frames that the layers below make have none, of whatever kind they are.
func TestOtherObjects(t *testing.T) {
	for name, lay := range map[string]func(m *mem.Mem) api.Errno{
		"nothing":          func(m *mem.Mem) api.Errno { return head.Make(m, 1, api.Head{K: api.ONone}) },
		"a table's root":   func(m *mem.Mem) api.Errno { return captbl.Make(m, 1, 0) },
		"a table's leaf":   func(m *mem.Mem) api.Errno { return captbl.Make(m, 1, 1) },
		"a mapping's root": func(m *mem.Mem) api.Errno { return pgtbl.Make(m, 1, 0) },
		"a mapping's leaf": func(m *mem.Mem) api.Errno { return pgtbl.Make(m, 1, 1) },
		"a component":      func(m *mem.Mem) api.Errno { return comp.Make(m, 1, api.Comp{Pgt: 7}) },
		"a thread":         func(m *mem.Mem) api.Errno { return thd.Make(m, 1, api.Thd{Core: 3}) },
		"a budget":         func(m *mem.Mem) api.Errno { return tcap.Make(m, 1, api.Tcap{Left: 3}) },
		"a frozen one": func(m *mem.Mem) api.Errno {
			return head.Make(m, 1, api.Head{K: api.OTbl, Level: 1, Frozen: true, Time: 7})
		},
	} {
		m, _ := mem.New(2)
		head.Make(m, 0, api.Head{K: api.ORcv})
		if e := lay(m); e != api.OK {
			t.Fatalf("%s: %d", name, e)
		}
		d := &model{words: make([]frame, 2)}
		for f := range d.words {
			all, _ := m.Words(f)
			copy(d.words[f][:], all)
		}
		notThere(t, m, d, 1)
		if e := doPut(t, m, d, 0, api.Event{K: 2, T: 1}); e != api.OK {
			t.Errorf("%s: Put beside it: %d", name, e)
		}
	}
}

// A frame of zeros has none, though its words would be those of one without events; one whose
// head alone was made has one.
func TestNewFrame(t *testing.T) {
	d := &model{words: make([]frame, 64)}
	m := d.real(t)
	for f := range 64 {
		notThere(t, m, d, f)
		head.Make(m, f, api.Head{K: api.ORcv})
		d.words[f] = frame{rcvHead}
		if _, e := doTake(t, m, d, f); e != api.ErrNone {
			t.Fatalf("Take(%d): %d", f, e)
		}
		if e := doPut(t, m, d, f, api.Event{K: 3, T: f}); e != api.OK {
			t.Fatalf("Put(%d): %d", f, e)
		}
	}
}

// Where a ring begins and how many there are, at all values of their ranges and behind them,
// each alone and both; Clear does not ask, and mends them.
func TestEnds(t *testing.T) {
	d := blank(3)
	d.lay(1, 0, row(room)...)
	m := d.real(t)
	fresh := d.words[1]
	look := func(begin uint64, count uint64) {
		d.words[1] = fresh
		d.words[1][beginAt], d.words[1][countAt] = begin, count
		d.write(t, m, 1)
		can := begin <= 7 && count <= 8
		if !can {
			refusals(t, m, d, 1, api.ErrForm)
		} else if _, e := doAll(t, m, d, 1); e != api.OK {
			t.Fatalf("All from %d on, %d: %d", begin, count, e)
		} else if e := doPut(t, m, d, 1, api.Event{K: 5, T: 9}); (e == api.OK) != (count < 8) {
			t.Fatalf("Put from %d on, %d: %d", begin, count, e)
		} else if _, e := doTake(t, m, d, 1); e != api.OK {
			t.Fatalf("Take from %d on, %d: %d", begin, count, e)
		}
		if e := doClear(t, m, d, 1); e != api.OK {
			t.Fatalf("Clear from %d on, %d: %d", begin, count, e)
		}
		if all, e := doAll(t, m, d, 1); len(all) != 0 || e != api.OK {
			t.Fatalf("All behind Clear: %v, %d", all, e)
		}
	}
	for begin := range uint64(40) {
		for count := range uint64(40) {
			look(begin, count)
		}
	}
	for _, w := range wrongBegins() {
		for _, count := range []uint64{0, 1, 7, 8, 9, w} {
			look(w, count)
		}
	}
	for _, w := range wrongCounts() {
		for _, begin := range []uint64{0, 1, 7, 8, w} {
			look(begin, w)
		}
	}
}

// That a ring can't be is told ahead of there being none in it, of there being no room, and of
// words that are no event's.
func TestEndsFirst(t *testing.T) {
	d := blank(1)
	d.lay(0, 0)
	m := d.real(t)
	for _, w := range [][2]uint64{{8, 0}, {8, 8}, {8, 3}, {0, 9}, {7, 9}, {0, math.MaxUint64}, {math.MaxUint64, 0}} {
		copy(d.words[0][beginAt:], w[:])
		d.write(t, m, 0)
		refusals(t, m, d, 0, api.ErrForm)
	}
}

// P21.2: Clear leaves none, from each beginning, with each count; all else stays.
func TestClear(t *testing.T) {
	for begin := range room {
		for count := range room + 1 {
			d := plain()
			d.lay(1, begin, row(count)...)
			m := d.real(t)
			for range 2 {
				if e := doClear(t, m, d, 1); e != api.OK {
					t.Fatalf("Clear: %d", e)
				}
				w := [2]uint64{1, 1}
				w[0], _ = m.Load(1, beginAt)
				w[1], _ = m.Load(1, countAt)
				if w != [2]uint64{} {
					t.Fatalf("behind Clear: %v", w)
				}
				if _, e := doTake(t, m, d, 1); e != api.ErrNone {
					t.Fatalf("Take behind Clear: %d", e)
				}
			}
			for i, x := range row(room) {
				if e := doPut(t, m, d, 1, x); e != api.OK {
					t.Fatalf("Put of %d behind Clear: %d", i, e)
				}
			}
			if all, e := doAll(t, m, d, 1); !slices.Equal(all, row(room)) || e != api.OK {
				t.Fatalf("All behind Clear and Put: %v, %d", all, e)
			}
		}
	}
}

// P21.2: from each beginning, with each count, one more is put behind the others, and one more
// than there is room for is refused.
func TestPut(t *testing.T) {
	for begin := range room {
		for count := range room + 1 {
			d := plain()
			had := row(count)
			d.lay(1, begin, had...)
			m := d.real(t)
			x := api.Event{K: 6, T: 63}
			e := doPut(t, m, d, 1, x)
			if count == room {
				if e != api.ErrFull {
					t.Fatalf("Put in a full one from %d on: %d", begin, e)
				}
				continue
			}
			if e != api.OK {
				t.Fatalf("Put from %d on, behind %d: %d", begin, count, e)
			}
			if all, e := doAll(t, m, d, 1); !slices.Equal(all, append(had, x)) || e != api.OK {
				t.Fatalf("All from %d on: %v, %d", begin, all, e)
			}
		}
	}
}

// All events go in and come out, at each place.
func TestPutEachEvent(t *testing.T) {
	for begin := range room {
		d := blank(1)
		d.lay(0, begin)
		m := d.real(t)
		for _, x := range events() {
			if e := doPut(t, m, d, 0, x); e != api.OK {
				t.Fatalf("Put(%v): %d", x, e)
			}
			if all, e := doAll(t, m, d, 0); !slices.Equal(all, []api.Event{x}) || e != api.OK {
				t.Fatalf("All: %v, %d, not %v", all, e, x)
			}
			if got, e := doTake(t, m, d, 0); got != x || e != api.OK {
				t.Fatalf("Take: %v, %d, not %v", got, e, x)
			}
		}
	}
}

// Put does not look at the words of the others, nor at the one that it lays its own over.
func TestPutOverWords(t *testing.T) {
	for _, w := range wrongWords() {
		d := blank(1)
		d.lay(0, 6, row(4)...)
		for i := range room {
			d.words[0][firstAt+i] = w
		}
		m := d.real(t)
		for i := 4; i < room; i++ {
			if e := doPut(t, m, d, 0, api.Event{K: 2, T: i}); e != api.OK {
				t.Fatalf("Put over %d: %d", w, e)
			}
		}
		if e := doPut(t, m, d, 0, api.Event{K: 2, T: 9}); e != api.ErrFull {
			t.Fatalf("Put in a full one of %d: %d", w, e)
		}
	}
}

// P21.2: from each beginning, with each count, the first one is taken, and the others stay.
func TestTake(t *testing.T) {
	for begin := range room {
		for count := range room + 1 {
			d := plain()
			had := row(count)
			d.lay(1, begin, had...)
			m := d.real(t)
			for i, want := range had {
				if x, e := doTake(t, m, d, 1); x != want || e != api.OK {
					t.Fatalf("Take %d from %d on: %v, %d, not %v", i, begin, x, e, want)
				}
				if all, e := doAll(t, m, d, 1); !slices.Equal(all, had[i+1:]) || e != api.OK {
					t.Fatalf("All behind Take %d from %d on: %v, %d", i, begin, all, e)
				}
			}
			if x, e := doTake(t, m, d, 1); x != (api.Event{}) || e != api.ErrNone {
				t.Fatalf("Take of none: %v, %d", x, e)
			}
			if now, _ := m.Load(1, beginAt); now != uint64((begin+count)%room) {
				t.Fatalf("behind %d from %d on it begins at %d", count, begin, now)
			}
		}
	}
}

// Take looks at the first one's word alone. A refused one changes nothing, and is refused
// again.
func TestTakeWrongWords(t *testing.T) {
	words := wrongWords()
	for begin := range room {
		for count := 1; count <= room; count++ {
			for bad := range room {
				d := blank(1)
				had := row(count)
				d.lay(0, begin, had...)
				d.words[0][at(begin, bad)] = words[(begin+room*count+bad*77)%len(words)]
				m := d.real(t)
				for i := range count {
					x, e := doTake(t, m, d, 0)
					if i < bad && (x != had[i] || e != api.OK) {
						t.Fatalf("Take %d ahead of the wrong one %d: %v, %d", i, bad, x, e)
					}
					if i >= bad && (x != (api.Event{}) || e != api.ErrForm) {
						t.Fatalf("Take of the wrong one: %v, %d", x, e)
					}
				}
			}
		}
	}
	d := blank(1)
	d.lay(0, 7, row(2)...)
	m := d.real(t)
	for _, w := range words {
		d.words[0][firstAt+7] = w
		m.Store(0, firstAt+7, w)
		if x, e := doTake(t, m, d, 0); x != (api.Event{}) || e != api.ErrForm {
			t.Fatalf("Take of %d: %v, %d", w, x, e)
		}
	}
}

// One that is not in the ring is not looked at, be its word an event's or not; one that is,
// whichever, lets All answer nothing.
func TestAllWrongWords(t *testing.T) {
	words := wrongWords()
	for begin := range room {
		for count := range room + 1 {
			for bad := range room {
				d := blank(1)
				had := row(count)
				d.lay(0, begin, had...)
				d.words[0][at(begin, bad)] = words[(begin+room*count+bad*77)%len(words)]
				m := d.real(t)
				all, e := doAll(t, m, d, 0)
				if bad < count && (len(all) != 0 || e != api.ErrForm) {
					t.Fatalf("All with a wrong one %d of %d: %v, %d", bad, count, all, e)
				}
				if bad >= count && (!slices.Equal(all, had) || e != api.OK) {
					t.Fatalf("All with a wrong one behind %d: %v, %d", count, all, e)
				}
			}
		}
	}
	d := blank(1)
	d.lay(0, 6, row(3)...)
	m := d.real(t)
	for _, at := range []int{firstAt + 6, firstAt + 7, firstAt} {
		was := d.words[0][at]
		for _, w := range words {
			d.words[0][at] = w
			m.Store(0, at, w)
			if _, e := doAll(t, m, d, 0); e != api.ErrForm {
				t.Fatalf("All with %d at %d: %d", w, at, e)
			}
		}
		d.words[0][at] = was
		m.Store(0, at, was)
	}
}

// An event that was taken is there no more, though its word may be: it is not told, and does
// not take room.
func TestTakenIsGone(t *testing.T) {
	d := blank(1)
	d.lay(0, 0, row(room)...)
	m := d.real(t)
	for i, want := range row(room) {
		if x, _ := doTake(t, m, d, 0); x != want {
			t.Fatalf("Take: %v", x)
		}
		for range 2 {
			if all, e := doAll(t, m, d, 0); len(all) != room-1-i || slices.Contains(all, want) || e != api.OK {
				t.Fatalf("All behind the Take of %v: %v, %d", want, all, e)
			}
		}
	}
	for i := range room {
		if e := doPut(t, m, d, 0, api.Event{K: 1, T: i}); e != api.OK {
			t.Fatalf("Put: %d", e)
		}
	}
	if e := doPut(t, m, d, 0, api.Event{K: 1}); e != api.ErrFull {
		t.Fatalf("Put: %d", e)
	}
}

// The same event may be put more than once, and comes as often.
func TestSameEvents(t *testing.T) {
	d := blank(1)
	d.lay(0, 3)
	m := d.real(t)
	x := api.Event{K: 4, T: 40}
	for range room {
		doPut(t, m, d, 0, x)
	}
	if all, e := doAll(t, m, d, 0); !slices.Equal(all, slices.Repeat([]api.Event{x}, room)) || e != api.OK {
		t.Fatalf("All: %v, %d", all, e)
	}
	for range room {
		if got, e := doTake(t, m, d, 0); got != x || e != api.OK {
			t.Fatalf("Take: %v, %d", got, e)
		}
	}
	if _, e := doTake(t, m, d, 0); e != api.ErrNone {
		t.Fatalf("Take: %d", e)
	}
}

// What lies in the frame around a ring says nothing, and stays.
func TestOtherWordsStay(t *testing.T) {
	for at := 4; at < 36; at++ {
		if at >= beginAt && at < firstAt+room {
			continue
		}
		for _, w := range []uint64{0, 1, 7, 8, 9, 49, 1 << 32, math.MaxUint64} {
			d := plain()
			d.words[1][at] = w
			m := d.real(t)
			for i := range 12 {
				if e := doPut(t, m, d, 1, api.Event{K: 1, T: i}); e != api.OK {
					t.Fatalf("Put with %d at %d: %d", w, at, e)
				}
				if _, e := doTake(t, m, d, 1); e != api.OK {
					t.Fatalf("Take with %d at %d: %d", w, at, e)
				}
			}
			if all, e := doAll(t, m, d, 1); len(all) != 3 || e != api.OK {
				t.Fatalf("All with %d at %d: %v, %d", w, at, all, e)
			}
			if e := doClear(t, m, d, 1); e != api.OK {
				t.Fatalf("Clear with %d at %d: %d", w, at, e)
			}
			if got, _ := m.Load(1, at); got != w {
				t.Fatalf("%d at %d is %d", w, at, got)
			}
		}
	}
}

// A list that was answered is not changed by calls behind it, nor does a change of it change
// the ring.
func TestAllIsNew(t *testing.T) {
	d := plain()
	m := d.real(t)
	first, _ := doAll(t, m, d, 5)
	again, _ := doAll(t, m, d, 5)
	for i := range again {
		again[i] = api.Event{K: 99, T: 99}
	}
	d.same(t, m, "a changed list")
	if third, e := doAll(t, m, d, 5); !slices.Equal(third, row(room)) || e != api.OK {
		t.Errorf("All: %v, %d", third, e)
	}
	for i := range room {
		doTake(t, m, d, 5)
		doPut(t, m, d, 5, api.Event{K: 1, T: i})
	}
	doClear(t, m, d, 5)
	if !slices.Equal(first, row(room)) {
		t.Errorf("the first list is %v", first)
	}
}

// Where the frame lies is all the same, in memories of one frame to the most; rings in other
// frames stay.
func TestEachFrame(t *testing.T) {
	for _, have := range []int{1, 2, 3, 64} {
		for f := range have {
			d := blank(have)
			for g := range have {
				d.lay(g, g%room, row(5)...)
			}
			m := d.real(t)
			for i := range 3 {
				if e := doPut(t, m, d, f, api.Event{K: 2, T: i}); e != api.OK {
					t.Fatalf("Put(%d): %d", f, e)
				}
			}
			if x, e := doTake(t, m, d, f); x != row(1)[0] || e != api.OK {
				t.Fatalf("Take(%d): %v, %d", f, x, e)
			}
			if all, e := doAll(t, m, d, f); len(all) != 7 || e != api.OK {
				t.Fatalf("All(%d): %v, %d", f, all, e)
			}
			if e := doClear(t, m, d, f); e != api.OK {
				t.Fatalf("Clear(%d): %d", f, e)
			}
		}
	}
}

// Two memories have nothing of each other.
func TestTwoMemories(t *testing.T) {
	d, still := plain(), plain()
	m, n := d.real(t), still.real(t)
	doPut(t, m, d, 1, api.Event{K: 2, T: 2})
	doTake(t, m, d, 5)
	doPut(t, m, d, 5, api.Event{K: 2, T: 2})
	doTake(t, m, d, 1)
	doClear(t, m, d, 3)
	doClear(t, m, d, 5)
	still.same(t, n, "the other")
}

// chance answers numbers below n, in an order that hangs on nothing else.
func chance() func(n int) int {
	x := uint64(21)
	return func(n int) int {
		x = x*6364136223846793005 + 1442695040888963407
		return int(x >> 33 % uint64(n))
	}
}

// P21.3: events come as they were put, each once, however puts and takes are mixed; held
// against a list that grows behind and is cut ahead.
func TestAsTheyWerePut(t *testing.T) {
	next := chance()
	m, _ := mem.New(3)
	var rows [3][]api.Event
	for f := range rows {
		head.Make(m, f, api.Head{K: api.ORcv})
	}
	put, taken, full, none := 0, 0, 0, 0
	for i := range 40000 {
		f := next(3)
		grows := next(40) < 10+20*(i/100%2) // by turns more are put, and more taken
		if grows {
			x := api.Event{K: 1 + next(6), T: next(64)}
			e := ring.Put(m, f, x)
			if len(rows[f]) == room {
				if e != api.ErrFull {
					t.Fatalf("Put: %d", e)
				}
				full++
			} else {
				if e != api.OK {
					t.Fatalf("Put: %d", e)
				}
				rows[f] = append(rows[f], x)
				put++
			}
		} else if x, e := ring.Take(m, f); len(rows[f]) == 0 {
			if x != (api.Event{}) || e != api.ErrNone {
				t.Fatalf("Take: %v, %d", x, e)
			}
			none++
		} else {
			if x != rows[f][0] || e != api.OK {
				t.Fatalf("Take: %v, %d, not %v", x, e, rows[f][0])
			}
			rows[f] = rows[f][1:]
			taken++
		}
		for g := range rows {
			if all, e := ring.All(m, g); !slices.Equal(all, rows[g]) || e != api.OK {
				t.Fatalf("All: %v, %d, not %v", all, e, rows[g])
			}
		}
	}
	if put < 1000 || taken < 1000 || full < 100 || none < 100 {
		t.Errorf("%d put, %d taken, %d times full, %d times none", put, taken, full, none)
	}
}

// bend makes words of a frame such as no call leaves, or a ring of any beginning and count.
func (d *model) bend(f int, next func(int) int) {
	switch next(8) {
	case 0:
		bad := wrongBegins()
		d.words[f][beginAt] = bad[next(len(bad))]
	case 1:
		bad := wrongCounts()
		d.words[f][countAt] = bad[next(len(bad))]
	case 2:
		heads := wrongHeads()
		h := heads[next(len(heads))]
		copy(d.words[f][:4], h[:])
	case 3:
		bad := wrongWords()
		d.words[f][firstAt+next(room)] = bad[next(len(bad))]
	case 4:
		d.words[f][4+next(8)] = uint64(next(1 << 30))
		d.words[f][firstAt+room+next(14)] = uint64(next(1 << 30))
	default:
		d.lay(f, next(room), row(next(room+1))...)
	}
}

// Any calls in any order, with numbers near the ranges and far from them.
func TestManyCalls(t *testing.T) {
	next := chance()
	far := outside()
	near := func(least int, most int) int {
		switch next(30) {
		case 0:
			return far[next(len(far))]
		case 1:
			return most + 1
		case 2:
			return least - 1
		}
		return least + next(most-least+1)
	}
	for _, have := range []int{1, 3, 8} {
		d := blank(have)
		m := d.real(t)
		var seen [14]int
		for range 20000 {
			f, e := near(0, have-1), api.OK
			switch next(16) {
			case 0, 1, 2, 3, 4, 5:
				e = doPut(t, m, d, f, api.Event{K: near(1, 6), T: near(0, 63)})
			case 6, 7, 8, 9, 10:
				_, e = doTake(t, m, d, f)
			case 11, 12, 13:
				_, e = doAll(t, m, d, f)
			case 14:
				if next(4) == 0 {
					e = doClear(t, m, d, f)
				}
			default:
				g := next(have)
				d.bend(g, next)
				d.write(t, m, g)
			}
			seen[e]++
		}
		for _, e := range []api.Errno{api.OK, api.ErrArg, api.ErrFull, api.ErrNone, api.ErrType, api.ErrForm} {
			if seen[e] == 0 {
				t.Errorf("of %d frames: %d was never told", have, e)
			}
		}
	}
}

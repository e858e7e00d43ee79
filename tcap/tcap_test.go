package tcap_test

import (
	"math"
	"slices"
	"testing"

	"palanquin/api"
	"palanquin/captbl"
	"palanquin/comp"
	"palanquin/head"
	"palanquin/mem"
	"palanquin/pgtbl"
	"palanquin/tcap"
	"palanquin/thd"
)

// top is the most that a budget may have.
const top = 1 << 20

// tcapHead is the first word of a budget's head; the other three are 0.
const tcapHead = 5

// Where the words of a budget lie.
const (
	infAt  = 4
	leftAt = 5
	prioAt = 6
)

type frame [36]uint64

// model is a model of a memory: what the calls answer and change is held against it. One
// without frames is that of no memory.
type model struct {
	words []frame
}

func within(v int, least int, most int) bool { return least <= v && v <= most }

// right tells whether a budget can be, by the chapter's words.
func right(b api.Tcap) bool {
	return within(b.Left, 0, top) && within(b.Prio, 0, 255) && !(b.Inf && b.Left != 0)
}

// words are those of a budget that is right.
func words(b api.Tcap) [3]uint64 {
	if b.Inf {
		return [3]uint64{1, 0, uint64(b.Prio)}
	}
	return [3]uint64{0, uint64(b.Left), uint64(b.Prio)}
}

// budgetOf is the budget that words are of, if they are a right one's.
func budgetOf(w [3]uint64) (api.Tcap, bool) {
	if w[0] > 1 || w[1] > top || w[2] > 255 {
		return api.Tcap{}, false
	}
	b := api.Tcap{Inf: w[0] != 0, Left: int(w[1]), Prio: int(w[2])}
	if !right(b) {
		return api.Tcap{}, false
	}
	return b, true
}

func (d *model) has(f int) bool { return f >= 0 && f < len(d.words) }

func (d *model) isTcap(f int) bool {
	return d.has(f) && [4]uint64(d.words[f][:4]) == [4]uint64{tcapHead}
}

func check(b api.Tcap) api.Errno {
	if right(b) {
		return api.OK
	}
	return api.ErrArg
}

func (d *model) make(f int, b api.Tcap) api.Errno {
	switch {
	case !right(b):
		return api.ErrArg
	case len(d.words) == 0:
		return api.ErrZero
	case !d.has(f):
		return api.ErrArg
	}
	d.begin(f, b)
	return api.OK
}

func (d *model) get(f int) (api.Tcap, api.Errno) {
	if !d.isTcap(f) {
		return api.Tcap{}, api.ErrType
	}
	b, ok := budgetOf([3]uint64(d.words[f][4:7]))
	if !ok {
		return api.Tcap{}, api.ErrForm
	}
	return b, api.OK
}

func (d *model) put(f int, b api.Tcap) api.Errno {
	if !right(b) {
		return api.ErrArg
	}
	if !d.isTcap(f) {
		return api.ErrType
	}
	d.lay(f, words(b))
	return api.OK
}

func (d *model) give(from int, to int, n int, prio int) api.Errno {
	if !within(n, 1, top) || !within(prio, 0, 255) || from == to {
		return api.ErrArg
	}
	a, e := d.get(from)
	if e != api.OK {
		return e
	}
	b, e := d.get(to)
	if e != api.OK {
		return e
	}
	if b.Inf {
		return api.ErrType
	}
	if !a.Inf && a.Left < n || b.Left+n > top {
		return api.ErrTime
	}
	if !a.Inf {
		d.words[from][leftAt] = uint64(a.Left - n)
	}
	d.words[to][leftAt] = uint64(b.Left + n)
	d.words[to][prioAt] = uint64(prio)
	return api.OK
}

func (d *model) charge(f int, n int) (bool, api.Errno) {
	if !within(n, 0, top) {
		return false, api.ErrArg
	}
	b, e := d.get(f)
	if e != api.OK || b.Inf {
		return false, e
	}
	if b.Left <= n {
		d.words[f][leftAt] = 0
		return true, api.OK
	}
	d.words[f][leftAt] = uint64(b.Left - n)
	return false, api.OK
}

func (d *model) can(f int) bool {
	b, e := d.get(f)
	return e == api.OK && (b.Inf || b.Left > 0)
}

func (d *model) sum() int {
	sum := 0
	for f := range d.words {
		if b, e := d.get(f); e == api.OK && !b.Inf {
			sum += b.Left
		}
	}
	return sum
}

// begin makes frame f the budget b, and nothing else.
func (d *model) begin(f int, b api.Tcap) {
	d.words[f] = frame{tcapHead}
	d.lay(f, words(b))
}

// lay makes w the words that frame f has as a budget.
func (d *model) lay(f int, w [3]uint64) { copy(d.words[f][4:7], w[:]) }

// set makes frame f the budget b, and leaves the words behind that.
func (d *model) set(f int, b api.Tcap) {
	copy(d.words[f][:4], []uint64{tcapHead, 0, 0, 0})
	d.lay(f, words(b))
}

// blank is a model of frames of which no two words are the same, and none is a head's or a
// budget's.
func blank(frames int) *model {
	d := &model{words: make([]frame, frames)}
	for f := range d.words {
		for at := range d.words[f] {
			d.words[f][at] = 1<<40 + uint64(1000*f+at)
		}
	}
	return d
}

// one, other and endless are budgets of which no two parts are the same.
func one() api.Tcap     { return api.Tcap{Left: 1000, Prio: 22} }
func other() api.Tcap   { return api.Tcap{Left: 300, Prio: 44} }
func endless() api.Tcap { return api.Tcap{Inf: true, Prio: 66} }

// plain has three budgets, 1, 3 and 5, of which the last has no end, and between and behind
// them frames of something else; behind their words the budgets have others, which say
// nothing.
func plain() *model {
	d := blank(7)
	d.set(1, one())
	d.set(3, other())
	d.set(5, endless())
	return d
}

// real is a memory with the words of the model.
func (d *model) real(t *testing.T) *mem.Mem {
	t.Helper()
	m, e := mem.New(len(d.words))
	if e != api.OK {
		t.Fatalf("New(%d): %d", len(d.words), e)
	}
	for f := range d.words {
		d.write(t, m, f)
	}
	return m
}

// write makes the words of frame f of m those of the model.
func (d *model) write(t *testing.T, m *mem.Mem, f int) {
	for at, w := range d.words[f] {
		if e := m.Store(f, at, w); e != api.OK {
			t.Helper()
			t.Fatalf("Store(%d, %d): %d", f, at, e)
		}
	}
}

// same fails if the words of m are others than the model's.
func (d *model) same(t *testing.T, m *mem.Mem, what ...any) {
	if m.Len() != len(d.words) {
		t.Helper()
		t.Fatalf("%v: %d frames, not %d", what, m.Len(), len(d.words))
	}
	for f := range d.words {
		got, e := m.Words(f)
		if e != api.OK || !slices.Equal(got, d.words[f][:]) {
			t.Helper()
			t.Fatalf("%v: frame %d is %v, %d, not %v", what, f, got, e, d.words[f])
		}
	}
}

// Each of these calls both, and fails where the answers differ, or where the words do behind
// it: so what is refused has changed nothing, and what is not no more than is meant.

func doMake(t *testing.T, m *mem.Mem, d *model, f int, b api.Tcap) api.Errno {
	t.Helper()
	e, want := tcap.Make(m, f, b), d.make(f, b)
	if e != want {
		t.Fatalf("Make(%d, %v): %d, not %d", f, b, e, want)
	}
	d.same(t, m, "Make", f, b)
	return e
}

func doGet(t *testing.T, m *mem.Mem, d *model, f int) api.Errno {
	t.Helper()
	b, e := tcap.Get(m, f)
	wantB, want := d.get(f)
	if b != wantB || e != want || e != api.OK && b != (api.Tcap{}) {
		t.Fatalf("Get(%d): %v, %d, not %v, %d", f, b, e, wantB, want)
	}
	d.same(t, m, "Get", f)
	return e
}

func doPut(t *testing.T, m *mem.Mem, d *model, f int, b api.Tcap) api.Errno {
	t.Helper()
	e, want := tcap.Put(m, f, b), d.put(f, b)
	if e != want {
		t.Fatalf("Put(%d, %v): %d, not %d", f, b, e, want)
	}
	d.same(t, m, "Put", f, b)
	return e
}

func doGive(t *testing.T, m *mem.Mem, d *model, from int, to int, n int, prio int) api.Errno {
	t.Helper()
	e, want := tcap.Give(m, from, to, n, prio), d.give(from, to, n, prio)
	if e != want {
		t.Fatalf("Give(%d, %d, %d, %d): %d, not %d", from, to, n, prio, e, want)
	}
	d.same(t, m, "Give", from, to, n, prio)
	return e
}

func doCharge(t *testing.T, m *mem.Mem, d *model, f int, n int) (bool, api.Errno) {
	t.Helper()
	spent, e := tcap.Charge(m, f, n)
	wantSpent, want := d.charge(f, n)
	if spent != wantSpent || e != want || e != api.OK && spent {
		t.Fatalf("Charge(%d, %d): %v, %d, not %v, %d", f, n, spent, e, wantSpent, want)
	}
	d.same(t, m, "Charge", f, n)
	return spent, e
}

func doCan(t *testing.T, m *mem.Mem, d *model, f int) bool {
	t.Helper()
	can, want := tcap.Can(m, f), d.can(f)
	if can != want {
		t.Fatalf("Can(%d): %v, not %v", f, can, want)
	}
	d.same(t, m, "Can", f)
	return can
}

func doSum(t *testing.T, m *mem.Mem, d *model) int {
	t.Helper()
	sum, want := tcap.Sum(m), d.sum()
	if sum != want {
		t.Fatalf("Sum: %d, not %d", sum, want)
	}
	d.same(t, m, "Sum")
	return sum
}

// outside are numbers that lie behind every range. Some of them, cut to fewer bits, come back
// into one.
func outside() []int {
	out := []int{
		math.MinInt, math.MinInt + 1, math.MinInt + 7, math.MaxInt - 1, math.MaxInt,
		-1<<32 + 7, -2 * top, -top - 1, -top, -top + 1, -65536, -257, -256, -255, -128, -7, -2, -1,
		top + 1, top + 7, 2*top - 1, 2 * top, 2*top + 7,
	}
	for bit := 22; bit < 63; bit++ {
		out = append(out, 1<<bit, 1<<bit+7, -1<<bit, -1<<bit+7)
	}
	return out
}

// frames are those that a memory of that many has not.
func frames(have int) []int {
	return append(outside(), have, have+1, 2*have, have+64, 128, 256, 65536)
}

// noGifts, noCharges and noPrios are numbers that the calls refuse.
func noGifts() []int   { return append(outside(), 0) }
func noCharges() []int { return outside() }
func noPrios() []int   { return append(outside(), 256, 257, 260, 511, 512, 65536, top) }

// part is a number of a budget: which it is, in which word it lies, and how great it may be.
type part struct {
	name string
	at   int
	of   func(*api.Tcap) *int
	most int
}

func parts() []part {
	return []part{
		{"Left", 1, func(b *api.Tcap) *int { return &b.Left }, top},
		{"Prio", 2, func(b *api.Tcap) *int { return &b.Prio }, 255},
	}
}

// behind are numbers that are none of a part's.
func (p part) behind() []int {
	return append(outside(), p.most+1, p.most+2, 2*p.most+2, 2*p.most+9, 4*p.most+4)
}

// few are some budgets that are right.
func few() []api.Tcap {
	return []api.Tcap{
		{}, one(), other(), endless(), {Left: 1}, {Left: top}, {Prio: 255}, {Left: top, Prio: 255},
		{Left: 1, Prio: 1}, {Inf: true}, {Inf: true, Prio: 1}, {Inf: true, Prio: 255},
	}
}

// some are budgets that are right: each part at both ends, and between, with all others so.
func some() []api.Tcap {
	var all []api.Tcap
	for prio := range 256 {
		all = append(all, api.Tcap{Inf: true, Prio: prio})
		for _, left := range []int{0, 1, 2, 255, 256, 65535, 65536, top / 2, top - 1, top} {
			all = append(all, api.Tcap{Left: left, Prio: prio})
		}
	}
	return all
}

// wrong are budgets of which one part is not as it must be, or several are not.
func wrong() []api.Tcap {
	var all []api.Tcap
	for _, base := range few() {
		for _, p := range parts() {
			for _, v := range p.behind() {
				b := base
				*p.of(&b) = v
				all = append(all, b)
			}
		}
	}
	for _, v := range append(outside(), top) {
		all = append(all, api.Tcap{Left: v, Prio: v}, api.Tcap{Inf: true, Left: v, Prio: v})
	}
	for _, left := range []int{1, 2, 255, 65536, top - 1, top} {
		for _, prio := range []int{0, 1, 66, 255} {
			all = append(all, api.Tcap{Inf: true, Left: left, Prio: prio})
		}
	}
	return all
}

// wrongHeads are the first four words of frames that are no budgets.
func wrongHeads() [][4]uint64 {
	all := [][4]uint64{
		{}, {1}, {17}, {33, 7}, {49, 7}, {2}, {18}, {3}, {4}, {6}, // of other kinds
		{7}, {8}, {13}, {15}, {21}, {37}, {53}, {37, 7}, {69}, {128 + 5}, // of none
		{5, 1}, {5, 1 << 30}, {5, 1 << 32}, {5, 0, 1}, {5, 0, 0, 1},
		{0, 5}, {0, 0, 5}, {0, 0, 0, 5},
		{math.MaxUint64, math.MaxUint64, math.MaxUint64, math.MaxUint64},
	}
	for at := range 4 {
		for bit := range 64 {
			w := [4]uint64{tcapHead}
			w[at] ^= 1 << bit
			all = append(all, w)
		}
	}
	return all
}

// wrongWords are words that are no right budget's, each of the three alone among them.
func wrongWords() [][3]uint64 {
	var all [][3]uint64
	high := []uint64{1 << 63, 1<<63 + 1, 1<<63 + 7, math.MaxUint64 - 7, math.MaxUint64}
	for _, b := range few() {
		for _, p := range parts() {
			for _, v := range p.behind() {
				w := words(b)
				w[p.at] = uint64(v)
				all = append(all, w)
			}
			for _, v := range high {
				w := words(b)
				w[p.at] = v
				all = append(all, w)
			}
		}
		for _, v := range append(high, 2, 3, 4, 5, 255, 256, 257, 1<<16+1, 1<<32, 1<<32+1) {
			w := words(b)
			w[0] = v
			all = append(all, w)
		}
	}
	for _, left := range []uint64{1, 2, 300, 65536, top - 1, top} {
		all = append(all, [3]uint64{1, left, 0}, [3]uint64{1, left, 255})
	}
	return append(all, [3]uint64{2, top + 1, 256}, [3]uint64{1, top + 1, 256}, [3]uint64{0, top + 1, 256})
}

// The chapter's example, on budgets that its calls made.
func TestExample(t *testing.T) {
	m, _ := mem.New(2)
	tcap.Make(m, 0, api.Tcap{Left: 3})
	tcap.Make(m, 1, api.Tcap{})
	if e := tcap.Give(m, 0, 1, 5, 0); e != api.ErrTime {
		t.Errorf("Give: %d", e)
	}
}

// The chapter gives the errors by their numbers, and where the words lie.
func TestNumbers(t *testing.T) {
	m, _ := mem.New(4)
	b := api.Tcap{Left: 7, Prio: 9}
	tcap.Make(m, 1, b)
	tcap.Make(m, 2, api.Tcap{Inf: true, Prio: 8})
	tcap.Make(m, 3, api.Tcap{})
	want := []frame{{}, {5, 0, 0, 0, 0, 7, 9}, {5, 0, 0, 0, 1, 0, 8}, {5}}
	(&model{words: want}).same(t, m, "Make")
	get := func(m *mem.Mem, f int) api.Errno {
		_, e := tcap.Get(m, f)
		return e
	}
	charge := func(m *mem.Mem, f int, n int) api.Errno {
		_, e := tcap.Charge(m, f, n)
		return e
	}
	for _, x := range []struct {
		name string
		got  api.Errno
		want api.Errno
	}{
		{"Check", tcap.Check(b), 0},
		{"Check of too much", tcap.Check(api.Tcap{Left: top + 1}), 1},
		{"Check of both", tcap.Check(api.Tcap{Inf: true, Left: 1}), 1},
		{"Make of too much", tcap.Make(m, 0, api.Tcap{Left: top + 1}), 1},
		{"Make in no frame", tcap.Make(m, 4, b), 1},
		{"Make in no memory", tcap.Make(nil, 0, b), 13},
		{"Get", get(m, 1), 0},
		{"Get of something else", get(m, 0), 4},
		{"Get of no frame", get(m, 4), 4},
		{"Get of no memory", get(nil, 1), 4},
		{"Put", tcap.Put(m, 1, b), 0},
		{"Put of too much", tcap.Put(m, 1, api.Tcap{Left: top + 1}), 1},
		{"Put in something else", tcap.Put(m, 0, b), 4},
		{"Put in no memory", tcap.Put(nil, 1, b), 4},
		{"Give of nothing", tcap.Give(m, 1, 3, 0, 0), 1},
		{"Give with no priority", tcap.Give(m, 1, 3, 1, 256), 1},
		{"Give to itself", tcap.Give(m, 1, 1, 1, 0), 1},
		{"Give from something else", tcap.Give(m, 0, 1, 1, 0), 4},
		{"Give to something else", tcap.Give(m, 1, 0, 1, 0), 4},
		{"Give to one without an end", tcap.Give(m, 1, 2, 1, 0), 4},
		{"Give of more than is left", tcap.Give(m, 1, 3, 8, 0), 11},
		{"Give of more than there is room for", tcap.Give(m, 2, 1, top-6, 0), 11},
		{"Give in no memory", tcap.Give(nil, 1, 3, 1, 0), 4},
		{"Charge of nothing", charge(m, 1, 0), 0},
		{"Charge below", charge(m, 1, -1), 1},
		{"Charge of something else", charge(m, 0, 1), 4},
		{"Charge in no memory", charge(nil, 1, 1), 4},
	} {
		if x.got != x.want {
			t.Errorf("%s: %d, not %d", x.name, x.got, x.want)
		}
	}
	(&model{words: want}).same(t, m, "refused")
	m.Store(1, infAt, 2)
	for name, e := range map[string]api.Errno{
		"Get": get(m, 1), "Give from": tcap.Give(m, 1, 3, 1, 0),
		"Give to": tcap.Give(m, 2, 1, 1, 0), "Charge": charge(m, 1, 1),
	} {
		if e != 12 {
			t.Errorf("%s of bad words: %d", name, e)
		}
	}
}

// The numbers of the limits are those of the given names.
func TestLimits(t *testing.T) {
	for name, x := range map[string]struct {
		b    api.Tcap
		want api.Errno
	}{
		"nothing":                       {api.Tcap{}, api.OK},
		"all":                           {api.Tcap{Left: api.MaxBudget}, api.OK},
		"one more":                      {api.Tcap{Left: api.MaxBudget + 1}, api.ErrArg},
		"one less than nothing":         {api.Tcap{Left: -1}, api.ErrArg},
		"the last priority":             {api.Tcap{Prio: api.MaxCount}, api.OK},
		"one more than that":            {api.Tcap{Prio: api.MaxCount + 1}, api.ErrArg},
		"one ahead of the first":        {api.Tcap{Prio: -1}, api.ErrArg},
		"no end":                        {api.Tcap{Inf: true}, api.OK},
		"no end, the last priority":     {api.Tcap{Inf: true, Prio: api.MaxCount}, api.OK},
		"no end, one more than that":    {api.Tcap{Inf: true, Prio: api.MaxCount + 1}, api.ErrArg},
		"no end, one ahead of them":     {api.Tcap{Inf: true, Prio: -1}, api.ErrArg},
		"no end, with something":        {api.Tcap{Inf: true, Left: 1}, api.ErrArg},
		"no end, with all":              {api.Tcap{Inf: true, Left: api.MaxBudget}, api.ErrArg},
		"no end, with more":             {api.Tcap{Inf: true, Left: api.MaxBudget + 1}, api.ErrArg},
		"no end, with less than that":   {api.Tcap{Inf: true, Left: -1}, api.ErrArg},
		"the greatest":                  {api.Tcap{Left: math.MaxInt, Prio: math.MaxInt}, api.ErrArg},
		"the least":                     {api.Tcap{Left: math.MinInt, Prio: math.MinInt}, api.ErrArg},
		"all, with the last priority":   {api.Tcap{Left: api.MaxBudget, Prio: api.MaxCount}, api.OK},
		"more, with the last priority":  {api.Tcap{Left: api.MaxBudget + 1, Prio: api.MaxCount}, api.ErrArg},
		"all, with one behind the last": {api.Tcap{Left: api.MaxBudget, Prio: api.MaxCount + 1}, api.ErrArg},
	} {
		if e := tcap.Check(x.b); e != x.want {
			t.Errorf("%s: %d, not %d", name, e, x.want)
		}
	}
}

// Each part alone, over its whole range and behind it, with different others.
func TestCheckEachPart(t *testing.T) {
	for _, base := range few() {
		for _, p := range parts() {
			values := p.behind()
			for v := -300; v <= p.most+300; v++ {
				values = append(values, v)
			}
			for _, v := range values {
				b := base
				*p.of(&b) = v
				if e, want := tcap.Check(b), check(b); e != want {
					t.Fatalf("%s %d: %v: %d, not %d", p.name, v, b, e, want)
				}
			}
		}
	}
}

func TestCheckSome(t *testing.T) {
	for _, b := range some() {
		if e := tcap.Check(b); e != api.OK {
			t.Fatalf("%v: %d", b, e)
		}
	}
	for _, b := range wrong() {
		if e := tcap.Check(b); e != api.ErrArg {
			t.Fatalf("%v: %d", b, e)
		}
	}
}

// A budget is made in a frame of any words, of which none is left, in memories of one frame to
// the most; other frames stay.
func TestMake(t *testing.T) {
	for _, have := range []int{1, 2, 3, 64} {
		for f := range have {
			d := blank(have)
			m := d.real(t)
			for _, b := range few() {
				if e := doMake(t, m, d, f, b); e != api.OK {
					t.Fatalf("Make(%d, %v): %d", f, b, e)
				}
				doGet(t, m, d, f)
			}
		}
	}
}

// What was in the frame is all the same: something else, a budget, words that are none's.
func TestMakeOver(t *testing.T) {
	for _, w := range append(wrongHeads(), [4]uint64{tcapHead}) {
		for _, b := range few() {
			d := blank(2)
			copy(d.words[1][:4], w[:])
			m := d.real(t)
			if e := doMake(t, m, d, 1, b); e != api.OK {
				t.Fatalf("Make over %v: %d", w, e)
			}
			if got, e := tcap.Get(m, 1); got != b || e != api.OK {
				t.Fatalf("Make over %v: %v, %d", w, got, e)
			}
		}
	}
	for _, w := range wrongWords() {
		d := plain()
		d.lay(1, w)
		m := d.real(t)
		if e := doMake(t, m, d, 1, one()); e != api.OK {
			t.Fatalf("Make over %v: %d", w, e)
		}
	}
}

// A budget that is not right is told ahead of the memory, the frame and what that is.
func TestWrongFirst(t *testing.T) {
	d := plain()
	m := d.real(t)
	for _, b := range wrong() {
		for i, x := range []*mem.Mem{m, nil, {}} {
			for _, f := range []int{1, 3, 5, 0, 6, -1, 7, math.MinInt, math.MaxInt} {
				if e := tcap.Make(x, f, b); e != api.ErrArg {
					t.Fatalf("Make(%d, %d, %v): %d", i, f, b, e)
				}
				if e := tcap.Put(x, f, b); e != api.ErrArg {
					t.Fatalf("Put(%d, %d, %v): %d", i, f, b, e)
				}
			}
		}
		d.same(t, m, "wrong", b)
	}
}

// refusals fails if a call but Make and Put of frame f, with numbers that are right, answers
// another error than told, or if it changes anything; numbers that are not are told ahead of
// that. The frames in others are those that it gives to, and takes from: such as are refused
// for nothing else, or for the same.
func refusals(t *testing.T, m *mem.Mem, d *model, f int, told api.Errno, others ...int) {
	t.Helper()
	if e := doGet(t, m, d, f); e != told {
		t.Fatalf("Get(%d): %d", f, e)
	}
	for _, n := range []int{0, 1, 5, top} {
		if spent, e := doCharge(t, m, d, f, n); e != told || spent {
			t.Fatalf("Charge(%d, %d): %v, %d", f, n, spent, e)
		}
	}
	for _, n := range []int{-1, top + 1, math.MinInt, math.MaxInt} {
		if _, e := doCharge(t, m, d, f, n); e != api.ErrArg {
			t.Fatalf("Charge(%d, %d): %d", f, n, e)
		}
	}
	if doCan(t, m, d, f) {
		t.Fatalf("Can(%d)", f)
	}
	for _, g := range others {
		for _, n := range []int{1, 5, top} {
			for _, prio := range []int{0, 7, 255} {
				if e := doGive(t, m, d, f, g, n, prio); e != told {
					t.Fatalf("Give(%d, %d, %d, %d): %d", f, g, n, prio, e)
				}
				if e := doGive(t, m, d, g, f, n, prio); e != told {
					t.Fatalf("Give(%d, %d, %d, %d): %d", g, f, n, prio, e)
				}
			}
		}
		for _, x := range [][2]int{{0, 7}, {-1, 7}, {top + 1, 7}, {1, -1}, {1, 256}, {0, 256}} {
			if e := doGive(t, m, d, f, g, x[0], x[1]); e != api.ErrArg {
				t.Fatalf("Give(%d, %d, %d, %d): %d", f, g, x[0], x[1], e)
			}
			if e := doGive(t, m, d, g, f, x[0], x[1]); e != api.ErrArg {
				t.Fatalf("Give(%d, %d, %d, %d): %d", g, f, x[0], x[1], e)
			}
		}
	}
	if e := doGive(t, m, d, f, f, 1, 7); e != api.ErrArg {
		t.Fatalf("Give(%d, %d): %d", f, f, e)
	}
}

// notThere fails if one of the calls but Make finds a budget in frame f, or changes anything.
func notThere(t *testing.T, m *mem.Mem, d *model, f int, others ...int) {
	t.Helper()
	refusals(t, m, d, f, api.ErrType, others...)
	for _, b := range []api.Tcap{{}, one(), endless()} {
		if e := doPut(t, m, d, f, b); e != api.ErrType {
			t.Fatalf("Put(%d, %v): %d", f, b, e)
		}
	}
}

// Of a memory that is nil, or that no call made, Make tells that ahead of the frame; to the
// others there is no budget there, and nothing is left in it.
func TestNoMemory(t *testing.T) {
	for _, m := range []*mem.Mem{nil, {}} {
		d := &model{}
		for _, f := range append(frames(1), 0, 1, 3, 63) {
			for _, b := range few() {
				if e := doMake(t, m, d, f, b); e != api.ErrZero {
					t.Fatalf("Make(%d, %v): %d", f, b, e)
				}
			}
			notThere(t, m, d, f, 40, -40)
			if sum := doSum(t, m, d); sum != 0 {
				t.Fatalf("Sum: %d", sum)
			}
		}
	}
}

// A frame that the memory has not is Make's ErrArg; to the others it is no budget.
func TestNoFrame(t *testing.T) {
	for _, have := range []int{1, 2, 5, 64} {
		d := blank(have)
		for f := range have {
			d.begin(f, one())
		}
		d.begin(0, endless())
		m := d.real(t)
		for _, f := range frames(have) {
			for _, b := range few() {
				if e := doMake(t, m, d, f, b); e != api.ErrArg {
					t.Fatalf("Make(%d, %v): %d", f, b, e)
				}
			}
			notThere(t, m, d, f, 0, have-1)
		}
	}
}

// A frame that begins with anything but a budget's head is none, whatever head says of it, and
// whatever words lie behind that; that is told ahead of the words.
func TestSomethingElse(t *testing.T) {
	behind := [][3]uint64{words(one()), words(endless()), {}, {2}, {1, 1, 0}, {math.MaxUint64}}
	d := plain()
	m := d.real(t)
	sum := other().Left
	for _, h := range wrongHeads() {
		for _, w := range behind {
			copy(d.words[1][:4], h[:])
			d.lay(1, w)
			d.write(t, m, 1)
			notThere(t, m, d, 1, 3, 5)
			if got := doSum(t, m, d); got != sum {
				t.Fatalf("Sum with %v, %v: %d, not %d", h, w, got, sum)
			}
		}
	}
}

// Frames that the layers below make are none, of whatever kind they are.
func TestOtherObjects(t *testing.T) {
	for name, lay := range map[string]func(m *mem.Mem) api.Errno{
		"nothing":           func(m *mem.Mem) api.Errno { return head.Make(m, 1, api.Head{K: api.ONone}) },
		"a table's root":    func(m *mem.Mem) api.Errno { return captbl.Make(m, 1, 0) },
		"a table's leaf":    func(m *mem.Mem) api.Errno { return captbl.Make(m, 1, 1) },
		"a mapping's root":  func(m *mem.Mem) api.Errno { return pgtbl.Make(m, 1, 0) },
		"a mapping's leaf":  func(m *mem.Mem) api.Errno { return pgtbl.Make(m, 1, 1) },
		"a component":       func(m *mem.Mem) api.Errno { return comp.Make(m, 1, api.Comp{Pgt: 7}) },
		"a thread":          func(m *mem.Mem) api.Errno { return thd.Make(m, 1, api.Thd{Core: 3}) },
		"an endpoint's one": func(m *mem.Mem) api.Errno { return head.Make(m, 1, api.Head{K: api.ORcv}) },
		"a frozen one": func(m *mem.Mem) api.Errno {
			return head.Make(m, 1, api.Head{K: api.OTbl, Level: 1, Frozen: true, Time: 7})
		},
	} {
		m, _ := mem.New(2)
		tcap.Make(m, 0, one())
		if e := lay(m); e != api.OK {
			t.Fatalf("%s: %d", name, e)
		}
		d := &model{words: make([]frame, 2)}
		for f := range d.words {
			all, _ := m.Words(f)
			copy(d.words[f][:], all)
		}
		notThere(t, m, d, 1, 0)
		if sum := doSum(t, m, d); sum != one().Left {
			t.Errorf("%s: Sum: %d", name, sum)
		}
	}
	m, _ := mem.New(1)
	if e := head.Make(m, 0, api.Head{K: api.OTcap}); e != api.OK {
		t.Fatalf("Make of a budget's: %d", e)
	}
	if b, e := tcap.Get(m, 0); b != (api.Tcap{}) || e != api.OK {
		t.Errorf("Get: %v, %d", b, e)
	}
	if _, e := thd.Get(m, 0); e != api.ErrType {
		t.Errorf("Get of a thread: %d", e)
	}
}

// A frame of zeros is none, though its words would be a right one's.
func TestNewFrame(t *testing.T) {
	d := &model{words: make([]frame, 64)}
	m := d.real(t)
	for f := range 64 {
		notThere(t, m, d, f, (f+1)%64)
	}
	if sum := doSum(t, m, d); sum != 0 {
		t.Errorf("Sum: %d", sum)
	}
}

// Words that are no right budget's are told by all that look at them; Put does not, and mends
// them.
func TestWrongWords(t *testing.T) {
	d := plain()
	m := d.real(t)
	for _, w := range wrongWords() {
		d.lay(1, w)
		d.write(t, m, 1)
		refusals(t, m, d, 1, api.ErrForm, 3, 5)
		if sum := doSum(t, m, d); sum != other().Left {
			t.Fatalf("Sum with %v: %d", w, sum)
		}
		if e := doPut(t, m, d, 1, one()); e != api.OK {
			t.Fatalf("Put over %v: %d", w, e)
		}
		if e := doGet(t, m, d, 1); e != api.OK {
			t.Fatalf("Get behind Put: %d", e)
		}
		if sum := doSum(t, m, d); sum != one().Left+other().Left {
			t.Fatalf("Sum behind Put: %d", sum)
		}
	}
}

// Each of the three words alone, with all its bits.
func TestGetBits(t *testing.T) {
	d := blank(1)
	m := d.real(t)
	for _, b := range few() {
		for i := range 3 {
			for bit := range 64 {
				w := words(b)
				w[i] ^= 1 << bit
				d.words[0] = frame{tcapHead}
				d.lay(0, w)
				d.write(t, m, 0)
				doGet(t, m, d, 0)
				doCan(t, m, d, 0)
				doSum(t, m, d)
			}
		}
	}
}

// Each of the three words alone, over its whole range, and behind it.
func TestGetEachWord(t *testing.T) {
	m, _ := mem.New(1)
	for _, base := range []api.Tcap{{}, one(), endless()} {
		for i, most := range []uint64{1, top, 255} {
			d := &model{words: make([]frame, 1)}
			d.begin(0, base)
			d.write(t, m, 0)
			for v := range most + 300 {
				d.words[0][4+i] = v
				m.Store(0, 4+i, v)
				b, e := tcap.Get(m, 0)
				if want, wantE := d.get(0); b != want || e != wantE {
					t.Fatalf("word %d is %d: %v, %d, not %v, %d", i, v, b, e, want, wantE)
				}
			}
		}
	}
}

// What lies behind a budget's words says nothing, and stays.
func TestOtherWordsStay(t *testing.T) {
	for at := 7; at < 36; at++ {
		for _, w := range []uint64{1, 2, top + 1, 1 << 32, math.MaxUint64} {
			d := plain()
			d.words[1][at], d.words[3][at], d.words[5][at] = w, w, w
			m := d.real(t)
			for _, f := range []int{1, 3, 5} {
				if e := doGet(t, m, d, f); e != api.OK {
					t.Fatalf("Get with %d at %d: %d", w, at, e)
				}
				if !doCan(t, m, d, f) {
					t.Fatalf("Can with %d at %d", w, at)
				}
				if _, e := doCharge(t, m, d, f, 1); e != api.OK {
					t.Fatalf("Charge with %d at %d: %d", w, at, e)
				}
			}
			if sum := doSum(t, m, d); sum != one().Left+other().Left-2 {
				t.Fatalf("Sum with %d at %d: %d", w, at, sum)
			}
			for _, x := range [][2]int{{1, 3}, {3, 1}, {5, 1}, {5, 3}} {
				if e := doGive(t, m, d, x[0], x[1], 3, 4); e != api.OK {
					t.Fatalf("Give(%d, %d) with %d at %d: %d", x[0], x[1], w, at, e)
				}
			}
			if e := doPut(t, m, d, 1, endless()); e != api.OK {
				t.Fatalf("Put with %d at %d: %d", w, at, e)
			}
			for _, f := range []int{1, 3, 5} {
				if got, _ := m.Load(f, at); got != w {
					t.Fatalf("%d at %d is %d", w, at, got)
				}
			}
		}
	}
}

// Any budget over any other leaves nothing of it but what lies behind its words.
func TestPutOverAnother(t *testing.T) {
	for _, have := range []int{2, 64} {
		for _, f := range []int{0, have / 2, have - 1} {
			d := blank(have)
			d.set(f, one())
			m := d.real(t)
			for _, a := range few() {
				for _, b := range few() {
					for _, x := range []api.Tcap{a, b} {
						if e := doPut(t, m, d, f, x); e != api.OK {
							t.Fatalf("Put(%d, %v): %d", f, x, e)
						}
					}
					if got, e := tcap.Get(m, f); got != b || e != api.OK {
						t.Fatalf("%v behind %v is %v, %d", b, a, got, e)
					}
				}
			}
		}
	}
}

// Get undoes Make, and Put: all budgets of ends and betweens, there and back.
func TestGetUndoesMakeAndPut(t *testing.T) {
	d := plain()
	m := d.real(t)
	for _, b := range some() {
		if e := doMake(t, m, d, 2, b); e != api.OK {
			t.Fatalf("Make(%v): %d", b, e)
		}
		if got, e := tcap.Get(m, 2); got != b || e != api.OK {
			t.Fatalf("%v that was made is %v, %d", b, got, e)
		}
		if e := doPut(t, m, d, 1, b); e != api.OK {
			t.Fatalf("Put(%v): %d", b, e)
		}
		if got, e := tcap.Get(m, 1); got != b || e != api.OK {
			t.Fatalf("%v that was put is %v, %d", b, got, e)
		}
	}
}

// numbers are such as are near the ends of what may be left, and between.
func numbers() []int {
	return []int{0, 1, 2, 3, 5, 255, 256, 1000, 65536, top / 2, top/2 + 1, top - 2, top - 1, top}
}

// gives lays the two budgets into frames of a memory and lets the one give the other n, once
// with the giver ahead of the taker and once behind it.
func gives(t *testing.T, from api.Tcap, to api.Tcap, n int, prio int, told api.Errno, toLeft int) {
	t.Helper()
	for _, x := range [][2]int{{0, 1}, {1, 0}} {
		d := blank(2)
		d.set(x[0], from)
		d.set(x[1], to)
		m := d.real(t)
		before := doSum(t, m, d)
		if e := doGive(t, m, d, x[0], x[1], n, prio); e != told {
			t.Fatalf("Give of %v to %v, %d: %d, not %d", from, to, n, e, told)
		}
		wantFrom, wantTo := from, to
		if told == api.OK {
			wantTo.Left, wantTo.Prio = toLeft, prio
			if !from.Inf {
				wantFrom.Left -= n
			}
		}
		if got, e := tcap.Get(m, x[0]); got != wantFrom || e != api.OK {
			t.Fatalf("Give of %v to %v, %d: from is %v, %d", from, to, n, got, e)
		}
		if got, e := tcap.Get(m, x[1]); got != wantTo || e != api.OK {
			t.Fatalf("Give of %v to %v, %d: to is %v, %d", from, to, n, got, e)
		}
		if sum := doSum(t, m, d); !from.Inf && sum != before {
			t.Fatalf("Give of %v to %v, %d: the sum was %d and is %d", from, to, n, before, sum)
		}
	}
}

// P20.2, P20.3: between budgets with an end, of all sizes, numbers of all sizes.
func TestGive(t *testing.T) {
	for _, a := range numbers() {
		for _, b := range numbers() {
			for _, n := range append(numbers()[1:], max(a, 1), min(a+1, top), max(top-b, 1), min(top-b+1, top)) {
				told := api.OK
				if n > a || b+n > top {
					told = api.ErrTime
				}
				gives(t, api.Tcap{Left: a, Prio: 22}, api.Tcap{Left: b, Prio: 44}, n, 66, told, b+n)
			}
		}
	}
}

// From one without an end there is always enough, but to has not always room; nothing goes
// from it.
func TestGiveFromEndless(t *testing.T) {
	for _, b := range numbers() {
		for _, n := range append(numbers()[1:], max(top-b, 1), min(top-b+1, top)) {
			told := api.OK
			if b+n > top {
				told = api.ErrTime
			}
			gives(t, endless(), api.Tcap{Left: b, Prio: 44}, n, 77, told, b+n)
		}
	}
}

// To one without an end nothing is given, whether from has enough or not, or has no end
// either.
func TestGiveToEndless(t *testing.T) {
	for _, from := range few() {
		for _, n := range numbers()[1:] {
			gives(t, from, api.Tcap{Inf: true, Prio: 3}, n, 7, api.ErrType, 0)
		}
	}
}

// All that is left may be given, and no more; up to the most may be taken, and no more.
func TestGiveEnds(t *testing.T) {
	left := func(n int) api.Tcap { return api.Tcap{Left: n, Prio: 9} }
	gives(t, left(3), left(0), 3, 0, api.OK, 3)
	gives(t, left(3), left(0), 4, 0, api.ErrTime, 0)
	gives(t, left(0), left(0), 1, 0, api.ErrTime, 0)
	gives(t, left(top), left(0), top, 255, api.OK, top)
	gives(t, left(top), left(1), top, 255, api.ErrTime, 0)
	gives(t, left(top), left(1), top-1, 255, api.OK, top)
	gives(t, left(1), left(top-1), 1, 1, api.OK, top)
	gives(t, left(1), left(top), 1, 1, api.ErrTime, 0)
	gives(t, left(0), left(top), 1, 1, api.ErrTime, 0)
	gives(t, endless(), left(0), top, 2, api.OK, top)
	gives(t, endless(), left(1), top, 2, api.ErrTime, 0)
	gives(t, endless(), left(top), 1, 2, api.ErrTime, 0)
	gives(t, endless(), left(top-1), 1, 2, api.OK, top)
}

// The taker's priority is the one that is told, whatever it was; the giver's stays.
func TestGivePrio(t *testing.T) {
	for prio := range 256 {
		for _, old := range []int{0, 7, prio, 255} {
			to := api.Tcap{Left: 10, Prio: old}
			gives(t, api.Tcap{Left: 20, Prio: 255 - prio}, to, 4, prio, api.OK, 14)
			gives(t, api.Tcap{Inf: true, Prio: 255 - prio}, to, 4, prio, api.OK, 14)
		}
	}
}

// Numbers that can't be are told ahead of frames that are no budgets, of words that can't be,
// of a taker without an end, and of what is left; each alone, and all of them.
func TestGiveRefusesNumbers(t *testing.T) {
	d := plain()
	d.lay(3, [3]uint64{2, 0, 0})
	d.set(6, api.Tcap{Left: 2})
	m := d.real(t)
	pairs := [][2]int{{1, 6}, {6, 1}, {1, 5}, {5, 1}, {1, 3}, {3, 1}, {0, 1}, {1, 0}, {0, 2}, {3, 0}, {-1, 7}, {1, 1}, {5, 5}, {0, 0}, {3, 3}, {7, 7}}
	for _, p := range pairs {
		for _, n := range noGifts() {
			for _, prio := range []int{0, 7, 255} {
				if e := doGive(t, m, d, p[0], p[1], n, prio); e != api.ErrArg {
					t.Fatalf("Give(%d, %d, %d, %d): %d", p[0], p[1], n, prio, e)
				}
			}
		}
		for _, prio := range noPrios() {
			for _, n := range []int{1, 5, top, 0, top + 1} {
				if e := doGive(t, m, d, p[0], p[1], n, prio); e != api.ErrArg {
					t.Fatalf("Give(%d, %d, %d, %d): %d", p[0], p[1], n, prio, e)
				}
			}
		}
	}
}

// To itself nothing gives anything, whatever it is, and wherever.
func TestGiveToItself(t *testing.T) {
	d := plain()
	d.lay(3, [3]uint64{2, 0, 0})
	m := d.real(t)
	for _, f := range append(frames(7), 0, 1, 2, 3, 4, 5, 6) {
		for _, n := range []int{1, 2, 1000, top} {
			if e := doGive(t, m, d, f, f, n, 22); e != api.ErrArg {
				t.Fatalf("Give(%d, %d, %d): %d", f, f, n, e)
			}
			for _, none := range []*mem.Mem{nil, {}} {
				if e := tcap.Give(none, f, f, n, 22); e != api.ErrArg {
					t.Fatalf("Give(%d, %d, %d) of no memory: %d", f, f, n, e)
				}
			}
		}
	}
}

// The error of from is told ahead of that of to; both ahead of a taker without an end, and that
// ahead of what is left, and of room.
func TestGiveOrder(t *testing.T) {
	const (
		none  = 0 // no budget
		rich  = 1
		empty = 2
		bad   = 4 // whose words can't be
		end   = 5 // without one
		full  = 6
		gone  = 9 // no frame
	)
	d := plain()
	d.set(empty, api.Tcap{})
	d.set(bad, one())
	d.lay(bad, [3]uint64{2, 0, 0})
	d.set(full, api.Tcap{Left: top})
	m := d.real(t)
	for _, x := range []struct {
		from, to int
		want     api.Errno
	}{
		{none, gone, api.ErrType}, {gone, none, api.ErrType}, {none, bad, api.ErrType}, {gone, bad, api.ErrType},
		{bad, none, api.ErrForm}, {bad, gone, api.ErrForm}, {none, end, api.ErrType}, {gone, end, api.ErrType},
		{bad, end, api.ErrForm}, {none, full, api.ErrType}, {gone, full, api.ErrType}, {bad, full, api.ErrForm},
		{none, rich, api.ErrType}, {gone, rich, api.ErrType}, {bad, rich, api.ErrForm},
		{empty, none, api.ErrType}, {empty, gone, api.ErrType}, {empty, bad, api.ErrForm},
		{end, none, api.ErrType}, {end, gone, api.ErrType}, {end, bad, api.ErrForm},
		{rich, none, api.ErrType}, {rich, gone, api.ErrType}, {rich, bad, api.ErrForm},
		{empty, end, api.ErrType}, {rich, end, api.ErrType}, {full, end, api.ErrType},
		{empty, full, api.ErrTime}, {empty, rich, api.ErrTime}, {rich, full, api.ErrTime}, {end, full, api.ErrTime},
	} {
		for _, n := range []int{1, 2, 1000} {
			if e := doGive(t, m, d, x.from, x.to, n, 7); e != x.want {
				t.Errorf("Give(%d, %d, %d): %d, not %d", x.from, x.to, n, e, x.want)
			}
		}
	}
}

// All pairs of frames, of all that a frame can be.
func TestGiveAllPairs(t *testing.T) {
	fresh := func() *model {
		d := blank(9)
		for f, b := range []api.Tcap{{}, {Left: 1}, {Left: 10, Prio: 3}, {Left: top - 1}, {Left: top}, {Inf: true}, endless(), one()} {
			d.set(f, b)
		}
		d.lay(7, [3]uint64{1, 1, 0})
		return d
	}
	for from := -1; from <= 10; from++ {
		for to := -1; to <= 10; to++ {
			for _, n := range []int{-1, 0, 1, 2, 9, 10, 11, top - 1, top, top + 1} {
				for _, prio := range []int{-1, 0, 255, 256} {
					d := fresh()
					doGive(t, d.real(t), d, from, to, n, prio)
				}
			}
		}
	}
}

// Where the frames lie is all the same, in memories of two frames to the most.
func TestGiveEachFrame(t *testing.T) {
	for _, have := range []int{2, 3, 64} {
		for from := range have {
			to := (from*7 + 1) % have
			if to == from {
				continue
			}
			d := blank(have)
			d.set(from, one())
			d.set(to, other())
			m := d.real(t)
			if e := doGive(t, m, d, from, to, 100, 5); e != api.OK {
				t.Fatalf("Give(%d, %d): %d", from, to, e)
			}
			if e := doGive(t, m, d, to, from, 400, 6); e != api.OK {
				t.Fatalf("Give(%d, %d): %d", to, from, e)
			}
		}
	}
}

// P20.2, P20.3: of what is left, of all sizes, numbers of all sizes: n less, at least 0.
func TestCharge(t *testing.T) {
	for _, left := range numbers() {
		for _, n := range append(numbers(), max(left-1, 0), left, min(left+1, top)) {
			d := blank(3)
			d.set(1, api.Tcap{Left: left, Prio: 22})
			d.set(2, other())
			m := d.real(t)
			before := doSum(t, m, d)
			spent, e := doCharge(t, m, d, 1, n)
			if e != api.OK || spent != (left <= n) {
				t.Fatalf("Charge of %d, %d: %v, %d", left, n, spent, e)
			}
			want := api.Tcap{Left: max(left-n, 0), Prio: 22}
			if b, e := tcap.Get(m, 1); b != want || e != api.OK {
				t.Fatalf("behind Charge of %d, %d: %v, %d", left, n, b, e)
			}
			if can := doCan(t, m, d, 1); can == spent {
				t.Fatalf("Charge of %d, %d: spent is %v, and Can %v", left, n, spent, can)
			}
			if sum := doSum(t, m, d); sum > before || sum != want.Left+other().Left {
				t.Fatalf("Charge of %d, %d: the sum was %d and is %d", left, n, before, sum)
			}
		}
	}
}

// A charge of nothing changes nothing, and tells whether something is left.
func TestChargeNothing(t *testing.T) {
	d := blank(2)
	d.set(0, api.Tcap{Prio: 3})
	d.set(1, api.Tcap{Left: 1, Prio: 3})
	m := d.real(t)
	if spent, e := doCharge(t, m, d, 0, 0); !spent || e != api.OK {
		t.Errorf("Charge of nothing: %v, %d", spent, e)
	}
	if spent, e := doCharge(t, m, d, 1, 0); spent || e != api.OK {
		t.Errorf("Charge of one: %v, %d", spent, e)
	}
}

// One without an end is never spent, and stays.
func TestChargeEndless(t *testing.T) {
	for _, prio := range []int{0, 66, 255} {
		d := blank(1)
		d.set(0, api.Tcap{Inf: true, Prio: prio})
		m := d.real(t)
		before := slices.Clone(d.words)
		for _, n := range numbers() {
			if spent, e := doCharge(t, m, d, 0, n); spent || e != api.OK {
				t.Errorf("Charge(%d): %v, %d", n, spent, e)
			}
		}
		(&model{words: before}).same(t, m, "Charge")
		if !doCan(t, m, d, 0) {
			t.Errorf("Can")
		}
	}
}

// Numbers that can't be are told ahead of the memory, of frames that are no budgets, and of
// words that can't be; of one without an end, too.
func TestChargeRefuses(t *testing.T) {
	d := plain()
	d.lay(3, [3]uint64{2, 0, 0})
	m := d.real(t)
	for _, n := range noCharges() {
		for _, f := range []int{0, 1, 2, 3, 5, 7, -1, math.MinInt, math.MaxInt} {
			if spent, e := doCharge(t, m, d, f, n); spent || e != api.ErrArg {
				t.Fatalf("Charge(%d, %d): %v, %d", f, n, spent, e)
			}
			for _, none := range []*mem.Mem{nil, {}} {
				if spent, e := tcap.Charge(none, f, n); spent || e != api.ErrArg {
					t.Fatalf("Charge(%d, %d) of no memory: %v, %d", f, n, spent, e)
				}
			}
		}
	}
}

// Beside an error nothing is spent, though nothing is left of what can't be.
func TestChargeBesideErrors(t *testing.T) {
	d := blank(3)
	d.set(0, api.Tcap{})
	d.words[0][1] = 1 // a head that can't be
	d.set(1, api.Tcap{})
	d.words[1][prioAt] = 256
	d.words[2] = frame{}
	m := d.real(t)
	for f, want := range []api.Errno{api.ErrType, api.ErrForm, api.ErrType, api.ErrType} {
		for _, n := range []int{0, 1, top} {
			if spent, e := doCharge(t, m, d, f, n); spent || e != want {
				t.Errorf("Charge(%d, %d): %v, %d", f, n, spent, e)
			}
		}
	}
}

func TestChargeStepByStep(t *testing.T) {
	d := plain()
	m := d.real(t)
	for i := 1; i <= 305; i++ {
		spent, e := doCharge(t, m, d, 3, 1)
		if e != api.OK || spent != (i >= 300) {
			t.Fatalf("charge %d: %v, %d", i, spent, e)
		}
	}
}

func TestCan(t *testing.T) {
	d := blank(6)
	for f, b := range []api.Tcap{{}, {Prio: 255}, {Left: 1}, {Left: top, Prio: 255}, {Inf: true}, {Inf: true, Prio: 255}} {
		d.set(f, b)
	}
	m := d.real(t)
	for f, want := range []bool{false, false, true, true, true, true} {
		if can := doCan(t, m, d, f); can != want {
			t.Errorf("Can(%d): %v", f, can)
		}
	}
	// Words that can't be can't, though something is left, or they say that they have no end.
	for _, w := range [][3]uint64{{0, top + 1, 0}, {0, 1, 256}, {1, 0, 256}, {1, 1, 0}, {2, 0, 0}, {2, 1, 0}, {3, 5, 5}} {
		for f := range d.words {
			d.lay(f, w)
			d.write(t, m, f)
			if doCan(t, m, d, f) {
				t.Errorf("Can of %v", w)
			}
		}
	}
}

// What counts is what is right, and has an end, in whichever frame it is.
func TestSum(t *testing.T) {
	d := plain()
	m := d.real(t)
	if sum := doSum(t, m, d); sum != 1300 {
		t.Errorf("Sum: %d", sum)
	}
	for f := range 64 {
		d := blank(64)
		m := d.real(t)
		if sum := doSum(t, m, d); sum != 0 {
			t.Fatalf("Sum of none: %d", sum)
		}
		d.set(f, api.Tcap{Left: 100 + f, Prio: 9})
		d.write(t, m, f)
		if sum := doSum(t, m, d); sum != 100+f {
			t.Fatalf("Sum of frame %d: %d", f, sum)
		}
		d.set((f+1)%64, endless())
		d.write(t, m, (f+1)%64)
		if sum := doSum(t, m, d); sum != 100+f {
			t.Fatalf("Sum of frame %d, and one without an end: %d", f, sum)
		}
	}
}

// The most that a sum can be.
func TestSumOfAll(t *testing.T) {
	for _, have := range []int{1, 2, 64} {
		m, _ := mem.New(have)
		for f := range have {
			tcap.Make(m, f, api.Tcap{Left: top, Prio: 255})
		}
		if sum := tcap.Sum(m); sum != have*top {
			t.Errorf("Sum of %d: %d", have, sum)
		}
	}
}

// What is not right adds nothing: each of its words alone, with something left, and a head
// that is another one's.
func TestSumLeavesWrongOnes(t *testing.T) {
	d := plain()
	m := d.real(t)
	for _, w := range [][3]uint64{{0, top + 1, 22}, {0, 1000, 256}, {2, 1000, 22}, {1, 1000, 22}, {math.MaxUint64, 1000, 22}, {0, math.MaxUint64, 22}} {
		d.lay(1, w)
		d.write(t, m, 1)
		if sum := doSum(t, m, d); sum != 300 {
			t.Errorf("Sum with %v: %d", w, sum)
		}
	}
	d.set(1, one())
	for _, h := range wrongHeads() {
		copy(d.words[1][:4], h[:])
		d.write(t, m, 1)
		if sum := doSum(t, m, d); sum != 300 {
			t.Errorf("Sum with %v: %d", h, sum)
		}
	}
}

// P20.3 over many gifts and charges: gifts between budgets with an end leave the sum, those of
// one without an end add what was given, and charges never let it grow.
func TestSumStays(t *testing.T) {
	next := chance()
	d := blank(8)
	for f := range 6 {
		d.set(f, api.Tcap{Left: next(top + 1), Prio: f})
	}
	d.set(6, api.Tcap{Inf: true})
	m := d.real(t)
	given, made, charged := 0, 0, 0
	for range 20000 {
		before := doSum(t, m, d)
		from, to, n := next(7), next(7), 1+next(1<<next(21))
		switch next(3) {
		case 0:
			left, _ := tcap.Get(m, from)
			if _, e := doCharge(t, m, d, from, n-1); e != api.OK {
				t.Fatalf("Charge(%d, %d): %d", from, n-1, e)
			}
			if sum := doSum(t, m, d); sum != before-min(left.Left, n-1) {
				t.Fatalf("Charge(%d, %d): from %d to %d", from, n-1, before, sum)
			}
			charged++
		default:
			want := before
			if doGive(t, m, d, from, to, n, next(256)) == api.OK {
				given++
				if from == 6 {
					made++
					want += n
				}
			}
			if sum := doSum(t, m, d); sum != want {
				t.Fatalf("Give(%d, %d, %d): from %d to %d", from, to, n, before, sum)
			}
		}
	}
	if given < 1000 || made < 100 || charged < 1000 {
		t.Errorf("%d gifts, %d of them without an end, %d charges", given, made, charged)
	}
}

// What is given is given back; then all is as it was, but for the priorities.
func TestGiveBack(t *testing.T) {
	for _, n := range []int{1, 2, 300, 999, 1000} {
		d := plain()
		m := d.real(t)
		if e := doGive(t, m, d, 1, 3, n, 44); e != api.OK {
			t.Fatalf("Give of %d: %d", n, e)
		}
		if e := doGive(t, m, d, 3, 1, n, 22); e != api.OK {
			t.Fatalf("Give of %d back: %d", n, e)
		}
		plain().same(t, m, "Give back", n)
	}
}

// Two memories have nothing of each other.
func TestTwoMemories(t *testing.T) {
	d, still := plain(), plain()
	m, n := d.real(t), still.real(t)
	doMake(t, m, d, 0, one())
	doPut(t, m, d, 3, one())
	doGive(t, m, d, 1, 3, 7, 8)
	doGive(t, m, d, 5, 3, 7, 8)
	doCharge(t, m, d, 1, 9)
	still.same(t, n, "the other")
}

// chance answers numbers below n, in an order that hangs on nothing else.
func chance() func(n int) int {
	x := uint64(20)
	return func(n int) int {
		x = x*6364136223846793005 + 1442695040888963407
		return int(x >> 33 % uint64(n))
	}
}

// bend makes words of a frame such as no call leaves; mostly it leaves them, lest all frames
// stay so.
func (d *model) bend(f int, next func(int) int) {
	switch next(8) {
	case 0:
		bad := wrongWords()
		d.lay(f, bad[next(len(bad))])
	case 1:
		heads := wrongHeads()
		h := heads[next(len(heads))]
		copy(d.words[f][:4], h[:])
	case 2:
		d.words[f][7+next(29)] = uint64(next(1 << 30))
	}
}

// Any calls in any order, with numbers near the ranges and far from them.
func TestManyCalls(t *testing.T) {
	next := chance()
	far := outside()
	near := func(most int) int {
		switch next(30) {
		case 0:
			return far[next(len(far))]
		case 1:
			return most + 1
		case 2:
			return -1
		case 3:
			return most
		}
		return next(most + 1)
	}
	amount := func() int { return near(1<<next(21) - 1) }
	draw := func() api.Tcap {
		b := api.Tcap{Inf: next(6) == 0, Prio: near(255)}
		if !b.Inf || next(10) == 0 {
			b.Left = amount()
		}
		return b
	}
	for _, have := range []int{1, 3, 8} {
		d := blank(have)
		m := d.real(t)
		var seen [14]int
		for range 20000 {
			f, e := near(have-1), api.OK
			switch next(12) {
			case 0:
				e = doMake(t, m, d, f, draw())
			case 1:
				e = doPut(t, m, d, f, draw())
			case 2, 3, 4:
				e = doGive(t, m, d, f, near(have-1), amount(), near(255))
			case 5, 6:
				_, e = doCharge(t, m, d, f, amount())
			case 7:
				doCan(t, m, d, f)
			case 8:
				doSum(t, m, d)
			case 9:
				g := next(have)
				d.bend(g, next)
				d.write(t, m, g)
			default:
				e = doGet(t, m, d, f)
			}
			seen[e]++
		}
		for _, e := range []api.Errno{api.OK, api.ErrArg, api.ErrType, api.ErrForm} {
			if seen[e] == 0 {
				t.Errorf("of %d frames: %d was never told", have, e)
			}
		}
		if have > 1 && seen[api.ErrTime] == 0 {
			t.Errorf("of %d frames: no time was always left", have)
		}
	}
}

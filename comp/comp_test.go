package comp_test

import (
	"math"
	"slices"
	"testing"

	"palanquin/api"
	"palanquin/comp"
	"palanquin/mem"
)

// last is the greatest time.
const last = 1 << 30

// compHead is the first word of a component's head; the other three are 0.
const compHead = 3

type frame [36]uint64

// model is a model of a memory: what the calls answer and change is held against it. One
// without frames is that of no memory.
type model struct {
	words []frame
}

func within(v int, least int, most int) bool { return least <= v && v <= most }

// right tells whether a component can be, by the chapter's words.
func right(c api.Comp) bool {
	if !within(c.Tbl, 0, 63) || !within(c.Pgt, 0, 63) || !within(c.L, 0, 63) || !within(c.E, 0, 65535) {
		return false
	}
	if c.Fault == 0 {
		return c.At == 0
	}
	return within(c.Fault, 1, 64) && within(c.At, 0, last)
}

// words are those of a component that is right.
func words(c api.Comp) [6]uint64 {
	return [6]uint64{uint64(c.Tbl), uint64(c.Pgt), uint64(c.L), uint64(c.E), uint64(c.Fault), uint64(c.At)}
}

// compOf is the component that words are of, if they are a right one's.
func compOf(w [6]uint64) (api.Comp, bool) {
	if slices.Max(w[:]) > last {
		return api.Comp{}, false
	}
	c := api.Comp{Tbl: int(w[0]), Pgt: int(w[1]), L: int(w[2]), E: int(w[3]), Fault: int(w[4]), At: int(w[5])}
	if !right(c) {
		return api.Comp{}, false
	}
	return c, true
}

func (d *model) has(f int) bool { return f >= 0 && f < len(d.words) }

func (d *model) isComp(f int) bool {
	return d.has(f) && [4]uint64(d.words[f][:4]) == [4]uint64{compHead}
}

func check(c api.Comp) api.Errno {
	if right(c) {
		return api.OK
	}
	return api.ErrArg
}

func (d *model) make(f int, c api.Comp) api.Errno {
	switch {
	case !right(c):
		return api.ErrArg
	case len(d.words) == 0:
		return api.ErrZero
	case !d.has(f):
		return api.ErrArg
	}
	d.begin(f, c)
	return api.OK
}

func (d *model) get(f int) (api.Comp, api.Errno) {
	if !d.isComp(f) {
		return api.Comp{}, api.ErrType
	}
	c, ok := compOf([6]uint64(d.words[f][4:10]))
	if !ok {
		return api.Comp{}, api.ErrForm
	}
	return c, api.OK
}

func (d *model) put(f int, c api.Comp) api.Errno {
	if !right(c) {
		return api.ErrArg
	}
	if !d.isComp(f) {
		return api.ErrType
	}
	d.lay(f, words(c))
	return api.OK
}

func (d *model) hand(f int, to int, at int) api.Errno {
	_, e := d.get(f)
	if e != api.OK {
		return e
	}
	if !within(to, 0, 63) || !within(at, 0, last) {
		return api.ErrArg
	}
	d.words[f][8], d.words[f][9] = uint64(to)+1, uint64(at)
	return api.OK
}

// begin makes frame f the component c, and nothing else.
func (d *model) begin(f int, c api.Comp) {
	d.words[f] = frame{compHead}
	d.lay(f, words(c))
}

// lay makes w the words that frame f has as a component.
func (d *model) lay(f int, w [6]uint64) { copy(d.words[f][4:10], w[:]) }

// blank is a model of frames of which no two words are the same, and none is a head's or a
// component's.
func blank(frames int) *model {
	d := &model{words: make([]frame, frames)}
	for f := range d.words {
		for at := range d.words[f] {
			d.words[f][at] = 1<<40 + uint64(1000*f+at)
		}
	}
	return d
}

// of is a component, with all its parts in their order.
func of(tbl int, pgt int, l int, e int, fault int, at int) api.Comp {
	return api.Comp{Tbl: tbl, Pgt: pgt, L: l, E: e, Fault: fault, At: at}
}

// one is a component of which no two parts are the same.
func one() api.Comp { return of(11, 22, 33, 44, 55, 66) }

// alone is one whose faults nobody takes.
func alone() api.Comp { return api.Comp{Tbl: 11, Pgt: 22, L: 33, E: 44} }

// plain has two components, 1 and 3, and between and behind them frames of something else;
// behind their words the components have others, which say nothing.
func plain() *model {
	d := blank(5)
	for f, c := range map[int]api.Comp{1: one(), 3: alone()} {
		copy(d.words[f][:4], []uint64{compHead, 0, 0, 0})
		d.lay(f, words(c))
	}
	return d
}

// real is a memory with the words of the model.
func (d *model) real(t *testing.T) *mem.Mem {
	t.Helper()
	m, e := mem.New(len(d.words))
	if e != api.OK {
		t.Fatalf("New(%d): %d", len(d.words), e)
	}
	for f := range d.words {
		d.write(t, m, f)
	}
	return m
}

// write makes the words of frame f of m those of the model.
func (d *model) write(t *testing.T, m *mem.Mem, f int) {
	for at, w := range d.words[f] {
		if e := m.Store(f, at, w); e != api.OK {
			t.Helper()
			t.Fatalf("Store(%d, %d): %d", f, at, e)
		}
	}
}

// same fails if the words of m are others than the model's.
func (d *model) same(t *testing.T, m *mem.Mem, what ...any) {
	if m.Len() != len(d.words) {
		t.Helper()
		t.Fatalf("%v: %d frames, not %d", what, m.Len(), len(d.words))
	}
	for f := range d.words {
		got, e := m.Words(f)
		if e != api.OK || !slices.Equal(got, d.words[f][:]) {
			t.Helper()
			t.Fatalf("%v: frame %d is %v, %d, not %v", what, f, got, e, d.words[f])
		}
	}
}

// Each of these calls both, and fails where the answers differ, or where the words do behind
// it: so what is refused has changed nothing, and what is not no more than is meant.

func doMake(t *testing.T, m *mem.Mem, d *model, f int, c api.Comp) api.Errno {
	t.Helper()
	e, want := comp.Make(m, f, c), d.make(f, c)
	if e != want {
		t.Fatalf("Make(%d, %v): %d, not %d", f, c, e, want)
	}
	d.same(t, m, "Make", f, c)
	return e
}

func doGet(t *testing.T, m *mem.Mem, d *model, f int) api.Errno {
	t.Helper()
	c, e := comp.Get(m, f)
	wantC, want := d.get(f)
	if c != wantC || e != want || e != api.OK && c != (api.Comp{}) {
		t.Fatalf("Get(%d): %v, %d, not %v, %d", f, c, e, wantC, want)
	}
	d.same(t, m, "Get", f)
	return e
}

func doPut(t *testing.T, m *mem.Mem, d *model, f int, c api.Comp) api.Errno {
	t.Helper()
	e, want := comp.Put(m, f, c), d.put(f, c)
	if e != want {
		t.Fatalf("Put(%d, %v): %d, not %d", f, c, e, want)
	}
	d.same(t, m, "Put", f, c)
	return e
}

func doHand(t *testing.T, m *mem.Mem, d *model, f int, to int, at int) api.Errno {
	t.Helper()
	e, want := comp.Hand(m, f, to, at), d.hand(f, to, at)
	if e != want {
		t.Fatalf("Hand(%d, %d, %d): %d, not %d", f, to, at, e, want)
	}
	d.same(t, m, "Hand", f, to, at)
	return e
}

// outside are numbers that lie behind every range. Some of them, cut to fewer bits, or with
// 1 added, come back into one.
func outside() []int {
	out := []int{
		math.MinInt, math.MinInt + 1, math.MinInt + 7, math.MaxInt - 1, math.MaxInt,
		-1<<32 + 7, -65536, -65535, -128, -65, -64, -63, -7, -2, -1, last + 1, last + 7,
	}
	for bit := 31; bit < 63; bit++ {
		out = append(out, 1<<bit, 1<<bit+7, -1<<bit, -1<<bit+7)
	}
	return out
}

// frames are those that a memory of that many has not.
func frames(have int) []int {
	return append(outside(), have, have+1, 2*have, have+64, 128, 256, 65536, last)
}

// part is one of a component's: which it is, and its greatest number.
type part struct {
	name string
	of   func(*api.Comp) *int
	most int
}

func parts() []part {
	return []part{
		{"Tbl", func(c *api.Comp) *int { return &c.Tbl }, 63},
		{"Pgt", func(c *api.Comp) *int { return &c.Pgt }, 63},
		{"L", func(c *api.Comp) *int { return &c.L }, 63},
		{"E", func(c *api.Comp) *int { return &c.E }, 65535},
		{"Fault", func(c *api.Comp) *int { return &c.Fault }, 64},
		{"At", func(c *api.Comp) *int { return &c.At }, last},
	}
}

// behind are numbers that are none of a part's.
func (p part) behind() []int {
	return append(outside(), p.most+1, p.most+2, 2*p.most+2, 2*p.most+9, 4*p.most+4)
}

// wrong are components of which one part is not as it must be, or several are not.
func wrong() []api.Comp {
	var all []api.Comp
	for _, base := range []api.Comp{{}, alone(), one(), {Fault: 1}, of(63, 63, 63, 65535, 64, last)} {
		for _, p := range parts() {
			for _, v := range p.behind() {
				c := base
				*p.of(&c) = v
				all = append(all, c)
			}
		}
	}
	for _, at := range []int{1, 2, 66, last - 1, last} {
		all = append(all, api.Comp{At: at}, api.Comp{Tbl: 11, Pgt: 22, L: 33, E: 44, At: at})
	}
	for _, v := range append(outside(), 65536) {
		all = append(all, of(v, v, v, v, v, v))
	}
	return all
}

// some are components that are right: each part at both ends, and between, with all others
// so.
func some() []api.Comp {
	var all []api.Comp
	for _, tbl := range []int{0, 5, 63} {
		for _, pgt := range []int{0, 6, 63} {
			for _, l := range []int{0, 7, 63} {
				for _, e := range []int{0, 8, 65535} {
					all = append(all, api.Comp{Tbl: tbl, Pgt: pgt, L: l, E: e})
					for _, fault := range []int{1, 9, 64} {
						for _, at := range []int{0, 10, last} {
							all = append(all, of(tbl, pgt, l, e, fault, at))
						}
					}
				}
			}
		}
	}
	return all
}

// few are some of them.
func few() []api.Comp {
	return []api.Comp{{}, alone(), one(), {Fault: 1}, of(63, 63, 63, 65535, 64, last), {Tbl: 63, L: 63}, {Pgt: 63, E: 65535}, {Fault: 64}}
}

// wrongHeads are the first four words of frames that are no components.
func wrongHeads() [][4]uint64 {
	all := [][4]uint64{
		{}, {1}, {17}, {33, 7}, {49, 7}, {2}, {18}, {4}, {5}, {6}, // of other kinds
		{7}, {8}, {11}, {15}, {19}, {35}, {51}, {35, 7}, {67}, {128 + 3}, // of none
		{3, 1}, {3, last}, {3, 1 << 32}, {3, 0, 1}, {3, 0, 0, 1},
		{0, 3}, {0, 0, 3}, {0, 0, 0, 3},
		{math.MaxUint64, math.MaxUint64, math.MaxUint64, math.MaxUint64},
	}
	for at := range 4 {
		for bit := range 64 {
			w := [4]uint64{compHead}
			w[at] ^= 1 << bit
			all = append(all, w)
		}
	}
	return all
}

// wrongWords are words that are no right component's, each of the six alone among them.
func wrongWords() [][6]uint64 {
	var all [][6]uint64
	for _, c := range []api.Comp{{}, alone(), one(), of(63, 63, 63, 65535, 64, last)} {
		for i, p := range parts() {
			for _, v := range p.behind() {
				w := words(c)
				w[i] = uint64(v)
				all = append(all, w)
			}
			for _, v := range []uint64{1 << 63, 1<<63 + 7, math.MaxUint64 - 7, math.MaxUint64} {
				w := words(c)
				w[i] = v
				all = append(all, w)
			}
		}
	}
	for _, at := range []uint64{1, 66, last} {
		all = append(all, [6]uint64{5: at}, [6]uint64{11, 22, 33, 44, 0, at})
	}
	all = append(all, [6]uint64{64, 64, 64, 65536, 65, last + 1}, [6]uint64{1: 64, 4: 65}, [6]uint64{0: 64, 5: 1})
	return all
}

func TestExample(t *testing.T) {
	m, _ := mem.New(2)
	c := api.Comp{Tbl: 1, Pgt: 2, L: 3, E: 4}
	if e := comp.Make(m, 1, c); e != api.OK {
		t.Fatalf("Make: %d", e)
	}
	if e := comp.Hand(m, 1, 3, 9); e != api.OK {
		t.Errorf("Hand: %d", e)
	}
	if got, e := comp.Get(m, 1); got != (api.Comp{Tbl: 1, Pgt: 2, L: 3, E: 4, Fault: 4, At: 9}) || e != api.OK {
		t.Errorf("Get: %v, %d", got, e)
	}
}

// The chapter gives the errors by their numbers, and where the words lie.
func TestNumbers(t *testing.T) {
	m, _ := mem.New(2)
	c := api.Comp{Tbl: 1, Pgt: 2, L: 3, E: 4, Fault: 5, At: 6}
	if e := comp.Make(m, 1, c); e != 0 {
		t.Fatalf("Make: %d", e)
	}
	want := frame{3, 0, 0, 0, 1, 2, 3, 4, 5, 6}
	if got, _ := m.Words(1); !slices.Equal(got, want[:]) {
		t.Errorf("the words are %v", got)
	}
	get := func(m *mem.Mem, f int) api.Errno {
		_, e := comp.Get(m, f)
		return e
	}
	for _, x := range []struct {
		name string
		got  api.Errno
		want api.Errno
	}{
		{"Check", comp.Check(c), 0},
		{"Check of no frame", comp.Check(api.Comp{Tbl: 64}), 1},
		{"Make of no frame", comp.Make(m, 0, api.Comp{Tbl: 64}), 1},
		{"Make in no frame", comp.Make(m, 2, c), 1},
		{"Make in no memory", comp.Make(nil, 0, c), 13},
		{"Get", get(m, 1), 0},
		{"Get of something else", get(m, 0), 4},
		{"Get of no frame", get(m, 2), 4},
		{"Get of no memory", get(nil, 0), 4},
		{"Put", comp.Put(m, 1, c), 0},
		{"Put of no frame", comp.Put(m, 1, api.Comp{Tbl: 64}), 1},
		{"Put in something else", comp.Put(m, 0, c), 4},
		{"Put in no frame", comp.Put(m, 2, c), 4},
		{"Put in no memory", comp.Put(nil, 0, c), 4},
		{"Hand", comp.Hand(m, 1, 4, 6), 0},
		{"Hand to no frame", comp.Hand(m, 1, 64, 6), 1},
		{"Hand behind the last time", comp.Hand(m, 1, 4, last+1), 1},
		{"Hand of something else", comp.Hand(m, 0, 4, 6), 4},
		{"Hand of no memory", comp.Hand(nil, 1, 4, 6), 4},
	} {
		if x.got != x.want {
			t.Errorf("%s: %d, not %d", x.name, x.got, x.want)
		}
	}
	if got, _ := m.Words(1); !slices.Equal(got, want[:]) {
		t.Errorf("the words are %v now", got)
	}
	m.Store(1, 4, 64)
	if e := get(m, 1); e != 12 {
		t.Errorf("Get of bad words: %d", e)
	}
	if e := comp.Hand(m, 1, 4, 6); e != 12 {
		t.Errorf("Hand of bad words: %d", e)
	}
}

// Each part alone, over its whole range and behind it, with different others.
func TestCheckEachPart(t *testing.T) {
	for _, base := range few() {
		for _, p := range parts() {
			values := p.behind()
			for v := -300; v <= min(p.most, 1<<17)+300; v++ {
				values = append(values, v)
			}
			values = append(values, p.most-1, p.most)
			for _, v := range values {
				c := base
				*p.of(&c) = v
				if e, want := comp.Check(c), check(c); e != want {
					t.Fatalf("%s %d: %v: %d, not %d", p.name, v, c, e, want)
				}
			}
		}
	}
}

// What the chapter says, with words of its own for each.
func TestCheckEnds(t *testing.T) {
	for name, c := range map[string]api.Comp{
		"nothing":                {},
		"the last table":         {Tbl: api.MaxFrames - 1},
		"the last mappings":      {Pgt: api.MaxFrames - 1},
		"the last id":            {L: api.MaxLive - 1},
		"the last epoch":         {E: api.MaxEpoch - 1},
		"the first takes faults": {Fault: 1},
		"the last takes faults":  {Fault: api.MaxFrames},
		"the first, at the last": {Fault: 1, At: api.MaxTime},
		"the last, at the last":  {Fault: api.MaxFrames, At: api.MaxTime},
		"both tables in one":     {Tbl: 5, Pgt: 5},
		"every part at its end":  of(63, 63, 63, 65535, 64, 1<<30),
		"every part at 1":        of(1, 1, 1, 1, 1, 1),
	} {
		if e := comp.Check(c); e != api.OK {
			t.Errorf("%s: %d", name, e)
		}
	}
	for name, c := range map[string]api.Comp{
		"a table behind":                 {Tbl: api.MaxFrames},
		"a table below":                  {Tbl: -1},
		"mappings behind":                {Pgt: api.MaxFrames},
		"mappings below":                 {Pgt: -1},
		"an id behind":                   {L: api.MaxLive},
		"an id below":                    {L: -1},
		"an epoch behind":                {E: api.MaxEpoch},
		"an epoch below":                 {E: -1},
		"who takes faults, behind":       {Fault: api.MaxFrames + 1},
		"who takes faults, below":        {Fault: -1},
		"that, with a place":             {Fault: -1, At: 1},
		"a place behind":                 {Fault: 1, At: api.MaxTime + 1},
		"a place below":                  {Fault: 1, At: -1},
		"a place without anybody":        {At: 1},
		"the last one without anybody":   {At: api.MaxTime},
		"one below without anybody":      {At: -1},
		"the least without anybody":      {At: math.MinInt},
		"the greatest without anybody":   {At: math.MaxInt},
		"a table of 33 bits":             {Tbl: 1 << 32},
		"an epoch of 17 bits and more":   {E: 1<<17 + 5},
		"a place of 33 bits":             {Fault: 1, At: 1<<32 + 5},
		"the least numbers":              of(math.MinInt, math.MinInt, math.MinInt, math.MinInt, math.MinInt, math.MinInt),
		"the greatest numbers":           of(math.MaxInt, math.MaxInt, math.MaxInt, math.MaxInt, math.MaxInt, math.MaxInt),
		"faults beside a table behind":   {Tbl: 64, Fault: 1, At: 5},
		"right parts behind a wrong one": {Tbl: -1, Pgt: 5, L: 5, E: 5, Fault: 5, At: 5},
	} {
		if e := comp.Check(c); e != api.ErrArg {
			t.Errorf("%s: %d", name, e)
		}
	}
}

// All parts at, around and behind their ends, each with all others.
func TestCheckMixes(t *testing.T) {
	ends := func(p part) []int { return []int{math.MinInt, -1, 0, 1, p.most, p.most + 1, math.MaxInt} }
	all := []api.Comp{{}}
	for _, p := range parts() {
		var next []api.Comp
		for _, c := range all {
			for _, v := range ends(p) {
				*p.of(&c) = v
				next = append(next, c)
			}
		}
		all = next
	}
	count := 0
	for _, c := range all {
		want := check(c)
		if e := comp.Check(c); e != want {
			t.Fatalf("%v: %d, not %d", c, e, want)
		}
		if want == api.OK {
			count++
		}
	}
	// Three of each of the first four, nobody at 0, and two at three places.
	if count != 3*3*3*3*(1+2*3) {
		t.Errorf("%d are right", count)
	}
}

// A component is made in a frame of any words, of which none is left, in memories of one
// frame to the most; other frames stay.
func TestMake(t *testing.T) {
	for _, have := range []int{1, 2, 3, 64} {
		for f := range have {
			d := blank(have)
			m := d.real(t)
			for _, c := range few() {
				if e := doMake(t, m, d, f, c); e != api.OK {
					t.Fatalf("Make(%d, %v): %d", f, c, e)
				}
				doGet(t, m, d, f)
			}
		}
	}
}

// What was in the frame is all the same: something else, a component, words that are none's.
func TestMakeOver(t *testing.T) {
	for _, w := range append(wrongHeads(), [4]uint64{compHead}) {
		for _, c := range []api.Comp{{}, one()} {
			d := blank(2)
			copy(d.words[1][:4], w[:])
			m := d.real(t)
			if e := doMake(t, m, d, 1, c); e != api.OK {
				t.Fatalf("Make over %v: %d", w, e)
			}
			if got, e := comp.Get(m, 1); got != c || e != api.OK {
				t.Fatalf("Make over %v: %v, %d", w, got, e)
			}
		}
	}
	for _, w := range wrongWords() {
		d := plain()
		d.lay(1, w)
		m := d.real(t)
		if e := doMake(t, m, d, 1, one()); e != api.OK {
			t.Fatalf("Make over %v: %d", w, e)
		}
	}
}

// A component that is not right is told ahead of the memory, the frame and what that is.
func TestWrongFirst(t *testing.T) {
	d := plain()
	m := d.real(t)
	for _, c := range wrong() {
		if e := comp.Check(c); e != api.ErrArg {
			t.Fatalf("Check(%v): %d", c, e)
		}
		for i, x := range []*mem.Mem{m, nil, {}} {
			for _, f := range []int{1, 3, 0, 4, -1, 5, math.MinInt, math.MaxInt} {
				if e := comp.Make(x, f, c); e != api.ErrArg {
					t.Fatalf("Make(%d, %d, %v): %d", i, f, c, e)
				}
				if e := comp.Put(x, f, c); e != api.ErrArg {
					t.Fatalf("Put(%d, %d, %v): %d", i, f, c, e)
				}
			}
		}
		d.same(t, m, "wrong", c)
	}
}

// Of a memory that is nil, or that no call made, Make tells that ahead of the frame; to the
// others there is no component there.
func TestNoMemory(t *testing.T) {
	for _, m := range []*mem.Mem{nil, {}} {
		d := &model{}
		for _, f := range append(frames(1), 0, 1, 3, 63) {
			for range 2 {
				for _, c := range few() {
					if e := doMake(t, m, d, f, c); e != api.ErrZero {
						t.Fatalf("Make(%d, %v): %d", f, c, e)
					}
					if e := doPut(t, m, d, f, c); e != api.ErrType {
						t.Fatalf("Put(%d, %v): %d", f, c, e)
					}
				}
				if e := doGet(t, m, d, f); e != api.ErrType {
					t.Fatalf("Get(%d): %d", f, e)
				}
				for _, to := range []int{0, 3, 63, -1, 64} {
					for _, at := range []int{0, 9, last, -1, last + 1} {
						if e := doHand(t, m, d, f, to, at); e != api.ErrType {
							t.Fatalf("Hand(%d, %d, %d): %d", f, to, at, e)
						}
					}
				}
			}
		}
	}
}

// A frame that the memory has not is Make's ErrArg; to the others it is no component.
func TestNoFrame(t *testing.T) {
	for _, have := range []int{1, 2, 5, 64} {
		d := blank(have)
		for f := range have {
			d.begin(f, one())
		}
		m := d.real(t)
		for _, f := range frames(have) {
			for _, c := range few() {
				if e := doMake(t, m, d, f, c); e != api.ErrArg {
					t.Fatalf("Make(%d, %v): %d", f, c, e)
				}
				if e := doPut(t, m, d, f, c); e != api.ErrType {
					t.Fatalf("Put(%d, %v): %d", f, c, e)
				}
			}
			if e := doGet(t, m, d, f); e != api.ErrType {
				t.Fatalf("Get(%d): %d", f, e)
			}
			for _, to := range []int{0, 63, -1, 64} {
				if e := doHand(t, m, d, f, to, 9); e != api.ErrType {
					t.Fatalf("Hand(%d, %d): %d", f, to, e)
				}
			}
		}
	}
}

// A frame that begins with anything but a component's head is none, whatever head says of it,
// and whatever words lie behind that; that is told ahead of the words, and of Hand's numbers.
func TestSomethingElse(t *testing.T) {
	behind := [][6]uint64{words(one()), words(alone()), {}, {64}, {0, 0, 0, 0, 0, 1}, {math.MaxUint64}}
	d := plain()
	m := d.real(t)
	for _, h := range wrongHeads() {
		for _, w := range behind {
			copy(d.words[1][:4], h[:])
			d.lay(1, w)
			d.write(t, m, 1)
			if e := doGet(t, m, d, 1); e != api.ErrType {
				t.Fatalf("Get of %v, %v: %d", h, w, e)
			}
			for _, c := range []api.Comp{{}, one()} {
				if e := doPut(t, m, d, 1, c); e != api.ErrType {
					t.Fatalf("Put in %v, %v: %d", h, w, e)
				}
			}
			for _, x := range [][2]int{{3, 9}, {-1, 9}, {64, 9}, {3, -1}, {3, last + 1}, {math.MaxInt, math.MinInt}} {
				if e := doHand(t, m, d, 1, x[0], x[1]); e != api.ErrType {
					t.Fatalf("Hand of %v, %v: %d", h, w, e)
				}
			}
		}
	}
}

// A frame of zeros is none, though its words would be a right one's.
func TestNewFrame(t *testing.T) {
	d := &model{words: make([]frame, 64)}
	m := d.real(t)
	for f := range 64 {
		if e := doGet(t, m, d, f); e != api.ErrType {
			t.Errorf("Get(%d): %d", f, e)
		}
		if e := doPut(t, m, d, f, api.Comp{}); e != api.ErrType {
			t.Errorf("Put(%d): %d", f, e)
		}
		if e := doHand(t, m, d, f, 0, 0); e != api.ErrType {
			t.Errorf("Hand(%d): %d", f, e)
		}
	}
}

// Words that are no right component's are told by Get, and by Hand ahead of its numbers; Put
// does not look at them, and mends them.
func TestWrongWords(t *testing.T) {
	d := plain()
	m := d.real(t)
	for _, w := range wrongWords() {
		d.lay(1, w)
		d.write(t, m, 1)
		if e := doGet(t, m, d, 1); e != api.ErrForm {
			t.Fatalf("Get of %v: %d", w, e)
		}
		for _, x := range [][2]int{{3, 9}, {0, 0}, {63, last}, {-1, 9}, {64, 9}, {3, -1}, {3, last + 1}, {math.MaxInt, math.MinInt}} {
			if e := doHand(t, m, d, 1, x[0], x[1]); e != api.ErrForm {
				t.Fatalf("Hand(%d, %d) of %v: %d", x[0], x[1], w, e)
			}
		}
		if e := doGet(t, m, d, 3); e != api.OK {
			t.Fatalf("Get of another: %d", e)
		}
		if e := doPut(t, m, d, 1, one()); e != api.OK {
			t.Fatalf("Put over %v: %d", w, e)
		}
		if e := doGet(t, m, d, 1); e != api.OK {
			t.Fatalf("Get behind Put: %d", e)
		}
	}
}

// Each of the six words alone, with all its bits.
func TestGetBits(t *testing.T) {
	d := blank(1)
	m := d.real(t)
	for _, c := range few() {
		for i := range 6 {
			for bit := range 64 {
				w := words(c)
				w[i] ^= 1 << bit
				d.words[0] = frame{compHead}
				d.lay(0, w)
				d.write(t, m, 0)
				doGet(t, m, d, 0)
			}
		}
	}
}

// Each of the six words alone, over its whole range, and behind it.
func TestGetEachWord(t *testing.T) {
	m, _ := mem.New(1)
	for _, base := range []api.Comp{{}, one()} {
		for i, p := range parts() {
			d := &model{words: make([]frame, 1)}
			d.begin(0, base)
			d.write(t, m, 0)
			for v := range uint64(min(p.most, 1<<17) + 300) {
				d.words[0][4+i] = v
				m.Store(0, 4+i, v)
				c, e := comp.Get(m, 0)
				if want, wantE := d.get(0); c != want || e != wantE {
					t.Fatalf("%s %d: %v, %d, not %v, %d", p.name, v, c, e, want, wantE)
				}
			}
		}
	}
}

// Where nobody takes faults there is no place for that; where somebody does, all are.
func TestPlaceOfNobody(t *testing.T) {
	d := plain()
	m := d.real(t)
	for _, at := range []int{0, 1, 2, 66, 1 << 16, last - 1, last} {
		for _, fault := range []int{0, 1, 2, 63, 64} {
			c := alone()
			c.Fault, c.At = fault, at
			wantArg, wantForm := api.OK, api.OK
			if fault == 0 && at != 0 {
				wantArg, wantForm = api.ErrArg, api.ErrForm
			}
			if e := comp.Check(c); e != wantArg {
				t.Errorf("Check(%v): %d", c, e)
			}
			if e := doMake(t, m, d, 0, c); e != wantArg {
				t.Errorf("Make(%v): %d", c, e)
			}
			if e := doPut(t, m, d, 3, c); e != wantArg {
				t.Errorf("Put(%v): %d", c, e)
			}
			d.words[1][8], d.words[1][9] = uint64(fault), uint64(at)
			d.write(t, m, 1)
			if e := doGet(t, m, d, 1); e != wantForm {
				t.Errorf("Get(%v): %d", c, e)
			}
		}
	}
}

// What lies behind a component's words says nothing, and stays.
func TestOtherWordsStay(t *testing.T) {
	for at := 10; at < 36; at++ {
		for _, w := range []uint64{1, 64, 1 << 32, math.MaxUint64} {
			d := blank(2)
			d.begin(0, one())
			d.begin(1, alone())
			d.words[0][at] = w
			m := d.real(t)
			if e := doGet(t, m, d, 0); e != api.OK {
				t.Fatalf("Get with %d at %d: %d", w, at, e)
			}
			if e := doPut(t, m, d, 0, alone()); e != api.OK {
				t.Fatalf("Put with %d at %d: %d", w, at, e)
			}
			if e := doHand(t, m, d, 0, 7, 8); e != api.OK {
				t.Fatalf("Hand with %d at %d: %d", w, at, e)
			}
			if got, _ := m.Load(0, at); got != w {
				t.Fatalf("%d at %d is %d", w, at, got)
			}
		}
	}
}

// Any component over any other leaves nothing of it but what lies behind its words.
func TestPutOverAnother(t *testing.T) {
	for _, have := range []int{2, 64} {
		for _, f := range []int{0, have / 2, have - 1} {
			d := blank(have)
			copy(d.words[f][:4], []uint64{compHead, 0, 0, 0})
			m := d.real(t)
			for _, a := range few() {
				for _, b := range few() {
					for _, c := range []api.Comp{a, b} {
						if e := doPut(t, m, d, f, c); e != api.OK {
							t.Fatalf("Put(%d, %v): %d", f, c, e)
						}
					}
					if got, e := comp.Get(m, f); got != b || e != api.OK {
						t.Fatalf("%v behind %v is %v, %d", b, a, got, e)
					}
				}
			}
		}
	}
}

// P17.2: all components of ends and betweens, there and back.
func TestGetUndoesMakeAndPut(t *testing.T) {
	d := plain()
	m := d.real(t)
	for _, c := range some() {
		if e := doMake(t, m, d, 2, c); e != api.OK {
			t.Fatalf("Make(%v): %d", c, e)
		}
		if got, e := comp.Get(m, 2); got != c || e != api.OK {
			t.Fatalf("%v that was made is %v, %d", c, got, e)
		}
		if e := doPut(t, m, d, 1, c); e != api.OK {
			t.Fatalf("Put(%v): %d", c, e)
		}
		if got, e := comp.Get(m, 1); got != c || e != api.OK {
			t.Fatalf("%v that was put is %v, %d", c, got, e)
		}
	}
}

// P17.2 over the whole range of each part.
func TestGetUndoesEachPart(t *testing.T) {
	m, _ := mem.New(2)
	comp.Make(m, 1, api.Comp{})
	for _, p := range parts() {
		for v := range min(p.most, 1<<17) + 1 {
			c := one()
			*p.of(&c) = v
			if c.Fault == 0 {
				c.At = 0
			}
			if e := comp.Make(m, 0, c); e != api.OK {
				t.Fatalf("Make(%v): %d", c, e)
			}
			if e := comp.Put(m, 1, c); e != api.OK {
				t.Fatalf("Put(%v): %d", c, e)
			}
			for f := range 2 {
				if got, e := comp.Get(m, f); got != c || e != api.OK {
					t.Fatalf("%v is %v, %d", c, got, e)
				}
			}
		}
	}
}

// What Get answers of words makes, and is put as, the same words.
func TestPutUndoesGet(t *testing.T) {
	d := plain()
	m := d.real(t)
	for _, x := range some() {
		d.begin(0, x)
		d.write(t, m, 0)
		c, e := comp.Get(m, 0)
		if e != api.OK {
			t.Fatalf("Get of %v: %d", x, e)
		}
		if e := doPut(t, m, d, 0, c); e != api.OK || c != x {
			t.Fatalf("Put(%v): %d", c, e)
		}
		if e := doMake(t, m, d, 4, c); e != api.OK || !m.Same(0, 4) {
			t.Fatalf("Make(%v): %d", c, e)
		}
	}
}

// All whom faults may be handed to, at the ends of the places and between, whether somebody
// took them or not. None of them must be a component, or a frame of the memory.
func TestHand(t *testing.T) {
	for _, f := range []int{1, 3} {
		d := plain()
		m := d.real(t)
		before, _ := comp.Get(m, f)
		for to := range 64 {
			for _, at := range []int{0, 1, 9, 65535, 65536, last - 1, last} {
				if e := doHand(t, m, d, f, to, at); e != api.OK {
					t.Fatalf("Hand(%d, %d, %d): %d", f, to, at, e)
				}
				want := before
				want.Fault, want.At = to+1, at
				if c, e := comp.Get(m, f); c != want || e != api.OK {
					t.Fatalf("behind Hand(%d, %d, %d): %v, %d", f, to, at, c, e)
				}
			}
		}
	}
}

// Every component's others stay, also at the ends of their ranges.
func TestHandLeavesTheOthers(t *testing.T) {
	d := plain()
	m := d.real(t)
	for _, c := range some() {
		d.lay(1, words(c))
		d.write(t, m, 1)
		if e := doHand(t, m, d, 1, 62, 77); e != api.OK {
			t.Fatalf("Hand of %v: %d", c, e)
		}
		c.Fault, c.At = 63, 77
		if got, e := comp.Get(m, 1); got != c || e != api.OK {
			t.Fatalf("behind Hand: %v, %d, not %v", got, e, c)
		}
	}
}

// Hand's numbers behind their ranges, one at a time and both, of a right component.
func TestHandRefuses(t *testing.T) {
	for _, f := range []int{1, 3} {
		d := plain()
		m := d.real(t)
		wrongTo := append(outside(), 64, 65, 127, 128, 256, last)
		wrongAt := append(outside(), 2*last, 1<<32+9)
		for _, to := range wrongTo {
			for _, at := range []int{0, 9, last} {
				if e := doHand(t, m, d, f, to, at); e != api.ErrArg {
					t.Fatalf("Hand(%d, %d, %d): %d", f, to, at, e)
				}
			}
		}
		for _, at := range wrongAt {
			for _, to := range []int{0, 3, 63} {
				if e := doHand(t, m, d, f, to, at); e != api.ErrArg {
					t.Fatalf("Hand(%d, %d, %d): %d", f, to, at, e)
				}
			}
		}
		for _, to := range wrongTo {
			for _, at := range wrongAt {
				if e := doHand(t, m, d, f, to, at); e != api.ErrArg {
					t.Fatalf("Hand(%d, %d, %d): %d", f, to, at, e)
				}
			}
		}
	}
}

// A component may take its own faults, and two those of each other.
func TestHandRound(t *testing.T) {
	d := plain()
	m := d.real(t)
	for _, x := range [][2]int{{1, 1}, {1, 3}, {3, 1}, {3, 3}} {
		if e := doHand(t, m, d, x[0], x[1], 5); e != api.OK {
			t.Errorf("Hand(%d, %d): %d", x[0], x[1], e)
		}
	}
}

// Two memories have nothing of each other.
func TestTwoMemories(t *testing.T) {
	d, other := plain(), plain()
	m, n := d.real(t), other.real(t)
	doMake(t, m, d, 0, one())
	doPut(t, m, d, 1, alone())
	doHand(t, m, d, 3, 7, 8)
	other.same(t, n, "the other")
}

// Any calls in any order, with numbers near the ranges and far from them.
func TestManyCalls(t *testing.T) {
	x := uint64(17)
	next := func(n int) int {
		x = x*6364136223846793005 + 1442695040888963407
		return int(x >> 33 % uint64(n))
	}
	far, bad, heads := outside(), wrongWords(), wrongHeads()
	near := func(most int) int {
		switch next(30) {
		case 0:
			return far[next(len(far))]
		case 1:
			return most + 1
		case 2:
			return -1
		case 3:
			return most
		}
		return next(most + 1)
	}
	draw := func() api.Comp {
		c := api.Comp{Tbl: near(63), Pgt: near(63), L: near(63), E: near(65535)}
		if next(3) > 0 {
			c.Fault = near(64)
		}
		if c.Fault != 0 || next(10) == 0 {
			c.At = near(last)
		}
		return c
	}
	for _, have := range []int{1, 3, 8} {
		d := blank(have)
		m := d.real(t)
		var seen [14]int
		for range 20000 {
			f, e := near(have-1), api.OK
			switch next(8) {
			case 0:
				e = doMake(t, m, d, f, draw())
			case 1, 2:
				e = doPut(t, m, d, f, draw())
			case 3, 4:
				e = doHand(t, m, d, f, near(63), near(last))
			case 5:
				// Frames are bent less often than they are made, lest they all stay so.
				g := next(have)
				switch next(8) {
				case 0:
					d.lay(g, bad[next(len(bad))])
				case 1:
					h := heads[next(len(heads))]
					copy(d.words[g][:4], h[:])
				case 2:
					d.words[g][10+next(26)] = x
				}
				d.write(t, m, g)
			default:
				e = doGet(t, m, d, f)
			}
			seen[e]++
		}
		for _, e := range []api.Errno{api.OK, api.ErrArg, api.ErrType, api.ErrForm} {
			if seen[e] == 0 {
				t.Errorf("of %d frames: %d was never told", have, e)
			}
		}
	}
}

package find_test

import (
	"math"
	"slices"
	"testing"

	"palanquin/api"
	"palanquin/captbl"
	"palanquin/comp"
	"palanquin/find"
	"palanquin/head"
	"palanquin/live"
	"palanquin/machine"
	"palanquin/mem"
	"palanquin/typ"
)

// The chapter's and the document's limits, as numbers of their own.
const (
	maxFrames = 64
	headWords = 4
	words     = 36
	slots     = 16
	addresses = slots * slots
	ids       = 64
	epochs    = 1 << 16
	maxRefs   = 1000
	maxTime   = 1 << 30
	allRights = 31
	registers = 8
	lineCount = 8
)

// The kinds of capabilities, of heads, and of frames, as numbers of their own.
const (
	kNone, kQuiet, kMem, kTbl, kPgt, kComp, kThd, kInv, kTcap, kRcv, kSnd, kHw = 0, 1, 2, 3, 4, 5, 6, 7, 8, 9, 10, 11

	oNone, oTbl, oPgt, oComp, oThd, oTcap, oRcv = 0, 1, 2, 3, 4, 5, 6

	untyped, users, kernels = 0, 1, 2
)

// The words of the heads that tests have most.
const (
	rootHead   = 1
	leafHead   = 1 + 1<<4
	frozenBit  = 1 << 5
	compHead   = 3
	strangeBit = 1 << 6
)

// dead is the epoch of an id that does not live.
const dead = -1

type frame [words]uint64

// model is what a machine has of what is asked for: words, what frames are, how often they
// are needed, and in which epoch each id lives.
type model struct {
	words []frame
	is    []int
	count []int
	lives [ids]int
}

// The words of what lies in frames, as the chapters below have them.

// rightCap tells whether c is a capability that can be.
func rightCap(c api.Cap) bool {
	if !within(c.R, 0, allRights) || !within(c.T, 0, maxFrames-1) || !within(c.L, 0, ids-1) {
		return false
	}
	if !within(c.E, 0, epochs-1) || !within(c.A, 0, maxTime) {
		return false
	}
	switch c.K {
	case kNone:
		return c == api.Cap{}
	case kQuiet:
		return c == api.Cap{K: kQuiet, A: c.A}
	case kMem:
		return c.L == 0 && c.E == 0 && c.A >= 1 && c.T+c.A <= maxFrames
	case kComp:
		return c.A == 0
	case kInv:
		return true
	case kTbl, kPgt, kThd, kTcap, kRcv, kSnd:
		return c.L == 0 && c.E == 0 && c.A == 0
	case kHw:
		return c == api.Cap{K: kHw, R: c.R}
	}
	return false
}

func capWords(c api.Cap) (uint64, uint64) {
	return uint64(c.K + 16*(c.R+32*(c.T+64*(c.L+64*c.E)))), uint64(c.A)
}

func capOf(first uint64, second uint64) (api.Cap, bool) {
	if first >= 1<<37 || second > maxTime {
		return api.Cap{}, false
	}
	w := int(first)
	c := api.Cap{K: w % 16, R: w / 16 % 32, T: w / 512 % 64, L: w / 32768 % 64, E: w / 2097152, A: int(second)}
	return c, rightCap(c)
}

// table tells whether frame f is a table's of that level, frozen or not.
func (d *model) table(f int, level int) bool {
	if !d.has(f) {
		return false
	}
	w := d.words[f]
	want := uint64(rootHead + 16*level)
	return w[2] == 0 && w[3] == 0 && (w[0] == want && w[1] == 0 || w[0] == want+frozenBit && w[1] <= maxTime)
}

// begins tells whether frame f begins with a head of a kind that is no table's.
func (d *model) begins(f int, k int) bool {
	return d.has(f) && [headWords]uint64(d.words[f][:headWords]) == [headWords]uint64{uint64(k)}
}

func (d *model) has(f int) bool { return within(f, 0, len(d.words)-1) }

func (d *model) alive(l int, e int) bool {
	return within(l, 0, ids-1) && within(e, 0, epochs-1) && d.lives[l] == e
}

// slot answers what is in the slot of frame f.
func (d *model) slot(f int, at int) (api.Cap, bool) {
	return capOf(d.words[f][headWords+2*at], d.words[f][headWords+2*at+1])
}

// The calls, as the chapter's words have them.

func (d *model) look(root int, a int) (api.Cap, api.Errno) {
	if !within(a, 0, addresses-1) {
		return api.Cap{}, api.ErrArg
	}
	if !d.table(root, 0) {
		return api.Cap{}, api.ErrType
	}
	up, right := d.slot(root, a/slots)
	if !right || up.K != kTbl {
		return api.Cap{}, api.ErrNone
	}
	if !d.table(up.T, 1) {
		return api.Cap{}, api.ErrType
	}
	c, right := d.slot(up.T, a%slots)
	if !right {
		return api.Cap{}, api.ErrForm
	}
	if c.K == kNone || c.K == kQuiet {
		return api.Cap{}, api.ErrNone
	}
	return c, api.OK
}

func (d *model) cap(root int, a int, k int, r int) (api.Cap, api.Errno) {
	c, e := d.look(root, a)
	if e != api.OK {
		return api.Cap{}, e
	}
	if c.K != k {
		return api.Cap{}, api.ErrType
	}
	if !subset(r, c.R) {
		return api.Cap{}, api.ErrPerm
	}
	if (k == kComp || k == kInv) && !d.alive(c.L, c.E) {
		return api.Cap{}, api.ErrLive
	}
	return c, api.OK
}

// subset tells whether all rights of r are in have, which are some of the five.
func subset(r int, have int) bool {
	if !within(r, 0, allRights) {
		return false
	}
	for _, one := range []int{1, 2, 4, 8, 16} {
		if r/one%2 == 1 && have/one%2 == 0 {
			return false
		}
	}
	return true
}

func (d *model) mem(root int, a int, r int, f int) api.Errno {
	c, e := d.cap(root, a, kMem, r)
	if e != api.OK {
		return e
	}
	for i := range c.A {
		if f == c.T+i {
			return api.OK
		}
	}
	return api.ErrArg
}

func (d *model) comp(f int) (api.Comp, api.Errno) {
	if !d.begins(f, oComp) {
		return api.Comp{}, api.ErrType
	}
	w := [6]uint64(d.words[f][headWords : headWords+6])
	for i, most := range []uint64{maxFrames - 1, maxFrames - 1, ids - 1, epochs - 1, maxFrames, maxTime} {
		if w[i] > most {
			return api.Comp{}, api.ErrForm
		}
	}
	if w[4] == 0 && w[5] != 0 {
		return api.Comp{}, api.ErrForm
	}
	c := api.Comp{Tbl: int(w[0]), Pgt: int(w[1]), L: int(w[2]), E: int(w[3]), Fault: int(w[4]), At: int(w[5])}
	if !d.alive(c.L, c.E) {
		return api.Comp{}, api.ErrLive
	}
	return c, api.OK
}

func (d *model) fresh(f int) api.Errno {
	if !d.has(f) || d.is[f] != kernels {
		return api.ErrType
	}
	if d.count[f] != 0 || !d.begins(f, oNone) {
		return api.ErrUsed
	}
	return api.OK
}

// Machines, and numbers, that tests go over.

func within(n int, least int, most int) bool { return n >= least && n <= most }

// far are numbers behind all ranges; the low bits of some are those of one in a range.
func far() []int {
	out := []int{-1, -2, -3, -4, -5, -8, -16, -31, -32, -64, -256, -65535, -65536, math.MinInt, math.MinInt + 1, math.MinInt + 5, math.MaxInt, math.MaxInt - 1}
	for _, bit := range []int{17, 31, 32, 33, 40, 48, 62} {
		for _, low := range []int{0, 1, 2, 3, 5, 7, 16, 31} {
			out = append(out, 1<<bit+low, -1<<bit+low)
		}
	}
	return out
}

// noAddresses are those that no table has.
func noAddresses() []int {
	return append(far(), addresses, addresses+1, addresses+16, 2*addresses-1, 2*addresses, 16*addresses+1)
}

// noFrames are numbers of frames that a machine of so many has not.
func noFrames(frames int) []int {
	return append(far(), -frames, frames, frames+1, frames+2, maxFrames, maxFrames+1, maxFrames+frames-1, 128, 256, 257)
}

// noRights are numbers that say more than the five rights.
func noRights() []int {
	return append(far(), 32, 33, 63, 64, 65, 128, 256, 257, 1024)
}

// noKinds are numbers that are of no kind that is asked for with success.
func noKinds() []int {
	return append(far(), kNone, kQuiet, 12, 13, 14, 15, 16, 18, 32, 34, 64, 66, 256, 258)
}

// all of the kinds that a table can hold above none.
func kinds() []int {
	return []int{kMem, kTbl, kPgt, kComp, kThd, kInv, kTcap, kRcv, kSnd, kHw}
}

// one is a right capability of the kind k, with those rights; what lives does in the epoch
// 2 of the id 5.
func one(k int, r int) api.Cap {
	c := api.Cap{K: k, R: r, T: 9}
	switch k {
	case kMem:
		c.A = 3
	case kComp:
		c.L, c.E = 5, 2
	case kInv:
		c.L, c.E, c.A = 5, 2, 77
	case kHw:
		c.T = 0
	}
	return c
}

// blank is a model of so many frames, kernels' all, of which no two words are the same, and
// none is of anything; none is needed, and none lives.
func blank(frames int) *model {
	d := &model{words: make([]frame, frames), is: make([]int, frames), count: make([]int, frames)}
	for f := range d.words {
		for at := range d.words[f] {
			d.words[f][at] = 1<<40 + uint64(1000*f+at)
		}
		d.is[f] = kernels
	}
	for id := range d.lives {
		d.lives[id] = dead
	}
	return d
}

// begin makes frame f one that begins with those words, and has nothing behind them.
func (d *model) begin(f int, w ...uint64) {
	d.words[f] = frame{}
	copy(d.words[f][:], w)
}

// lay lays c into the slot of frame f.
func (d *model) lay(f int, at int, c api.Cap) {
	d.words[f][headWords+2*at], d.words[f][headWords+2*at+1] = capWords(c)
}

// hang hangs the leaf into the slot of root.
func (d *model) hang(root int, at int, leaf int) {
	d.lay(root, at, api.Cap{K: kTbl, R: allRights, T: leaf})
}

// be makes frame f the component c.
func (d *model) be(f int, c api.Comp) {
	d.begin(f, compHead, 0, 0, 0, uint64(c.Tbl), uint64(c.Pgt), uint64(c.L), uint64(c.E), uint64(c.Fault), uint64(c.At))
}

// plain has a table: the root in frame 0, whose slots 0 and 15 have the leaves in frames 1
// and 2. The ids 5, in the epoch 2, and 0 and 63, in the epoch 0, live.
func plain() *model {
	d := blank(14)
	d.begin(0, rootHead)
	d.begin(1, leafHead)
	d.begin(2, leafHead)
	d.hang(0, 0, 1)
	d.hang(0, 15, 2)
	d.lives[0], d.lives[5], d.lives[63] = 0, 2, 0
	return d
}

// real is a machine like the model, with something in every other part of it, too.
func (d *model) real(t *testing.T) *machine.Machine {
	t.Helper()
	m, e := machine.New(api.Config{Frames: len(d.words), Cores: 2, Room: 3})
	must(t, e)
	for f := range d.words {
		d.write(t, m, f)
		if d.is[f] != untyped {
			must(t, m.Typ().Retype(f, d.is[f], true))
		}
		for range d.count[f] {
			must(t, m.Typ().Ref(f))
		}
	}
	d.breathe(t, m)
	for number := range 2 {
		must(t, m.Clock().Step(number))
		must(t, m.Clock().Enter(number))
		must(t, m.Clock().Flush(number))
		must(t, m.SetCur(number, 7+number))
		must(t, m.Regs(number).Set(number, 9))
		must(t, m.Tlb(number).Put(api.Key{Space: number, Page: 3}, api.Pte{On: true, F: 4, R: 1}))
	}
	must(t, m.Lines().Attach(2, 6))
	return m
}

// write makes the words of frame f of m those of the model.
func (d *model) write(t *testing.T, m *machine.Machine, f int) {
	t.Helper()
	for at, w := range d.words[f] {
		must(t, m.Mem().Store(f, at, w))
	}
}

// breathe lets live in m who lives in the model. Ids are taken in their order, so that each
// is killed and taken again up to its epoch ahead of the next one.
func (d *model) breathe(t *testing.T, m *machine.Machine) {
	t.Helper()
	var never []int
	for id, epoch := range d.lives {
		take(t, m, id, 0)
		if epoch == dead {
			never = append(never, id)
		}
		for at := range max(epoch, 0) {
			must(t, m.Live().Kill(id, at, 0))
			take(t, m, id, at+1)
		}
	}
	for _, id := range never {
		must(t, m.Live().Kill(id, 0, 0))
	}
}

// take lets the id live, which must be the least that may, in that epoch.
func take(t *testing.T, m *machine.Machine, id int, epoch int) {
	t.Helper()
	l, e, no := m.Live().Take(1)
	if l != id || e != epoch || no != api.OK {
		t.Fatalf("Take: %d, %d, %d; not %d, %d", l, e, no, id, epoch)
	}
}

func must(t *testing.T, e api.Errno) {
	if e != api.OK {
		t.Helper()
		t.Fatalf("refused: %d", e)
	}
}

// core is what a machine tells of a core.
type core struct {
	cycles, entered, flushed, cur int
	regs                          [registers]uint64
	keys                          [3]api.Key
	ptes                          [3]api.Pte
}

// picture is all that a machine tells, as a value.
type picture struct {
	now, cores, frames int
	floors             [2]int
	words              [maxFrames]frame
	is, was            [maxFrames]int
	count, freed       [maxFrames]int
	core               [2]core
	living             int
	lives              [ids][4]bool
	leads              [lineCount]int
}

// look takes the picture of a machine.
func look(m *machine.Machine) picture {
	p := picture{now: m.Now(), cores: m.Cores(), frames: m.Mem().Len(), living: m.Live().Count()}
	p.floors[0], p.floors[1] = m.Floors()
	for f := range maxFrames {
		all, _ := m.Mem().Words(f)
		copy(p.words[f][:], all)
		p.is[f], p.was[f] = m.Typ().Type(f), m.Typ().Was(f)
		p.count[f], p.freed[f] = m.Typ().Count(f), m.Typ().Freed(f)
	}
	for number := range p.core {
		p.core[number] = lookCore(m, number)
	}
	for id := range ids {
		for epoch := range p.lives[id] {
			p.lives[id][epoch] = m.Live().Valid(id, epoch)
		}
	}
	for line := range lineCount {
		f, e := m.Lines().Of(line)
		p.leads[line] = f - maxFrames*int(e)
	}
	return p
}

func lookCore(m *machine.Machine, number int) core {
	c := m.Clock()
	out := core{cycles: c.Cycles(number), entered: c.Entered(number), flushed: c.Flushed(number), cur: m.Cur(number)}
	copy(out.regs[:], m.Regs(number).All())
	for i, k := range m.Tlb(number).Keys() {
		out.keys[i] = k
		out.ptes[i], _ = m.Tlb(number).Get(k)
	}
	return out
}

// stays fails if the machine is not as it was in the picture.
func stays(t *testing.T, m *machine.Machine, was *picture) {
	t.Helper()
	if look(m) != *was {
		t.Fatal("the machine changed")
	}
}

// Each of these asks both, and fails where the answers differ.

func askCap(t *testing.T, m *machine.Machine, d *model, root int, a int, k int, r int) api.Errno {
	c, e := find.Cap(m, root, a, k, r)
	wantC, want := d.cap(root, a, k, r)
	if c != wantC || e != want || e != api.OK && c != (api.Cap{}) {
		t.Helper()
		t.Fatalf("Cap(%d, %d, %d, %d): %v, %d; want %v, %d", root, a, k, r, c, e, wantC, want)
	}
	return e
}

func askMem(t *testing.T, m *machine.Machine, d *model, root int, a int, r int, f int) api.Errno {
	e, want := find.Mem(m, root, a, r, f), d.mem(root, a, r, f)
	if e != want {
		t.Helper()
		t.Fatalf("Mem(%d, %d, %d, %d): %d; want %d", root, a, r, f, e, want)
	}
	return e
}

func askComp(t *testing.T, m *machine.Machine, d *model, f int) api.Errno {
	c, e := find.Comp(m, f)
	wantC, want := d.comp(f)
	if c != wantC || e != want || e != api.OK && c != (api.Comp{}) {
		t.Helper()
		t.Fatalf("Comp(%d): %v, %d; want %v, %d", f, c, e, wantC, want)
	}
	return e
}

func askFresh(t *testing.T, m *machine.Machine, d *model, f int) api.Errno {
	e, want := find.Fresh(m, f), d.fresh(f)
	if e != want {
		t.Helper()
		t.Fatalf("Fresh(%d): %d; want %d", f, e, want)
	}
	return e
}

func askAlive(t *testing.T, m *machine.Machine, d *model, l int, e int) bool {
	is, want := find.Alive(m, api.Frame{L: l, E: e}), d.alive(l, e)
	if is != want {
		t.Helper()
		t.Fatalf("Alive of %d in %d: %v", l, e, is)
	}
	return is
}

func TestLimits(t *testing.T) {
	if api.MaxFrames != maxFrames || api.HeadWords != headWords || api.HeadWords+api.PageWords != words || api.MaxSlots != slots {
		t.Error("frames")
	}
	if api.MaxLive != ids || api.MaxEpoch != epochs || api.MaxTime != maxTime || api.RAll != allRights || api.MaxRefs != maxRefs {
		t.Error("numbers")
	}
	if api.MaxRegs != registers || api.MaxLines != lineCount {
		t.Error("registers, lines")
	}
	caps := []int{api.CNone, api.CQuiet, api.CMem, api.CTbl, api.CPgt, api.CComp, api.CThd, api.CInv, api.CTcap, api.CRcv, api.CSnd, api.CHw}
	heads := []int{api.ONone, api.OTbl, api.OPgt, api.OComp, api.OThd, api.OTcap, api.ORcv}
	types := []int{api.FUntyped, api.FUser, api.FKernel}
	for _, list := range [][]int{caps, heads, types} {
		for i, k := range list {
			if k != i {
				t.Errorf("kind %d is %d", i, k)
			}
		}
	}
	errors := []api.Errno{api.ErrArg, api.ErrNone, api.ErrType, api.ErrPerm, api.ErrLive, api.ErrUsed, api.ErrForm, api.ErrZero}
	if !slices.Equal(errors, []api.Errno{1, 3, 4, 5, 7, 10, 12, 13}) {
		t.Error("errors")
	}
}

// P26.1: Cap.

// TestExample is the chapter's.
func TestExample(t *testing.T) {
	d := plain()
	d.lay(1, 0, api.Cap{K: api.CMem, R: api.RAll, T: 4, A: 3})
	if c, e := find.Cap(d.real(t), 0, 0, api.CTbl, 0); c != (api.Cap{}) || e != api.ErrType {
		t.Errorf("a CMem asked for as CTbl: %v, %d", c, e)
	}
}

// TestCapByOthers has a table that was built by the calls of the layers below, and answers
// that are written out.
func TestCapByOthers(t *testing.T) {
	m, e := machine.New(api.Config{Frames: 3, Cores: 1})
	must(t, e)
	must(t, captbl.Make(m.Mem(), 2, 0))
	must(t, captbl.Make(m.Mem(), 0, 1))
	must(t, captbl.Cons(m.Mem(), 2, 3, 0, 0))
	have := api.Cap{K: api.CInv, R: api.RRead | api.RCopy, T: 63, L: 0, E: 1, A: api.MaxTime}
	must(t, captbl.Put(m.Mem(), 2, 50, have, 0))
	for _, one := range []struct {
		root, a, k, r int
		e             api.Errno
	}{
		{2, 256, 7, 1, 1}, {0, 50, 7, 1, 4}, {2, 49, 7, 1, 3}, {2, 66, 7, 1, 3},
		{2, 50, 6, 2, 4}, {2, 50, 7, 2, 5}, {2, 50, 7, 11, 5}, {2, 50, 7, 9, 7}, {2, 50, 7, 0, 7},
	} {
		if c, e := find.Cap(m, one.root, one.a, one.k, one.r); c != (api.Cap{}) || e != one.e {
			t.Errorf("%v: %v, %d", one, c, e)
		}
	}
	take(t, m, 0, 0)
	if c, e := find.Cap(m, 2, 50, 7, 9); c != (api.Cap{}) || e != api.ErrLive {
		t.Errorf("of another epoch: %v, %d", c, e)
	}
	must(t, m.Live().Kill(0, 0, 0))
	take(t, m, 0, 1)
	for _, r := range []int{0, 1, 8, 9} {
		if c, e := find.Cap(m, 2, 50, 7, r); c != have || e != api.OK {
			t.Errorf("with %d: %v, %d", r, c, e)
		}
	}
	must(t, m.Live().Kill(0, 1, 0))
	if c, e := find.Cap(m, 2, 50, 7, 9); c != (api.Cap{}) || e != api.ErrLive {
		t.Errorf("killed: %v, %d", c, e)
	}
	if _, e := captbl.Drop(m.Mem(), 2, 50, 5); e != api.OK {
		t.Fatalf("Drop: %d", e)
	}
	for _, k := range []int{0, 1, 7} {
		if c, e := find.Cap(m, 2, 50, k, 0); c != (api.Cap{}) || e != api.ErrNone {
			t.Errorf("dropped: %v, %d", c, e)
		}
	}
}

// TestCapOfKinds asks for each kind, with each rights, as each kind, with each rights.
func TestCapOfKinds(t *testing.T) {
	d := plain()
	m := d.real(t)
	for _, k := range kinds() {
		for have := range allRights + 1 {
			d.lay(1, 7, one(k, have))
			d.write(t, m, 1)
			was := look(m)
			for asked := range 16 {
				for r := range 2 * (allRights + 1) {
					e := askCap(t, m, d, 0, 7, asked, r)
					switch {
					case asked != k && e != api.ErrType:
						t.Fatalf("%d asked for as %d: %d", k, asked, e)
					case asked == k && (e == api.OK) != (r|have == have):
						t.Fatalf("%d with %d asked for with %d: %d", k, have, r, e)
					}
				}
			}
			stays(t, m, &was)
		}
	}
}

// TestCapRefusesNumbers asks for kinds and rights that there are not: nothing is of such a
// kind, and nothing has such rights.
func TestCapRefusesNumbers(t *testing.T) {
	d := plain()
	for at, k := range kinds() {
		d.lay(2, at, one(k, allRights))
	}
	m := d.real(t)
	was := look(m)
	for at, k := range kinds() {
		a := 240 + at
		for _, asked := range noKinds() {
			for _, r := range append(noRights(), 0, 1, allRights) {
				if e := askCap(t, m, d, 0, a, asked, r); e != api.ErrType {
					t.Fatalf("%d asked for as %d: %d", k, asked, e)
				}
			}
		}
		for _, r := range noRights() {
			if e := askCap(t, m, d, 0, a, k, r); e != api.ErrPerm {
				t.Fatalf("%d asked for with %d: %d", k, r, e)
			}
		}
		if e := askCap(t, m, d, 0, a, k, allRights); e != api.OK {
			t.Fatalf("%d asked for with all: %d", k, e)
		}
	}
	stays(t, m, &was)
}

// TestCapAlone has each kind with each right alone, and with all but one.
func TestCapAlone(t *testing.T) {
	d := plain()
	m := d.real(t)
	for _, k := range kinds() {
		for _, right := range []int{api.RRead, api.RWrite, api.RMake, api.RCopy, api.RKill} {
			for _, have := range []int{right, api.RAll - right} {
				d.lay(1, 15, one(k, have))
				d.write(t, m, 1)
				if c, e := find.Cap(m, 0, 15, k, have); c != one(k, have) || e != api.OK {
					t.Errorf("%d with %d asked for with these: %v, %d", k, have, c, e)
				}
				if c, e := find.Cap(m, 0, 15, k, api.RAll); c != (api.Cap{}) || e != api.ErrPerm {
					t.Errorf("%d with %d asked for with all: %v, %d", k, have, c, e)
				}
				if c, e := find.Cap(m, 0, 15, k, api.RAll-have); c != (api.Cap{}) || e != api.ErrPerm {
					t.Errorf("%d with %d asked for with the others: %v, %d", k, have, c, e)
				}
			}
		}
	}
}

// TestCapAddresses asks for all addresses, and those behind the ends, of a root alone, of
// one with some leaves, and of one with a leaf in each slot.
func TestCapAddresses(t *testing.T) {
	full := blank(17)
	full.begin(16, rootHead)
	for high := range slots {
		full.begin(high, leafHead)
		full.hang(16, high, high)
		for low := range slots {
			c := one(kinds()[(high+low)%len(kinds())], (high*slots+low)%(allRights+1))
			full.lay(high, low, c)
		}
	}
	full.lives[5] = 2
	some := plain()
	for low := range slots {
		some.lay(1, low, one(kTbl, 1+low))
		some.lay(2, low, one(kTcap, 31-low))
	}
	bare := blank(1)
	bare.begin(0, rootHead)
	for root, d := range map[int]*model{16: full, 0: some} {
		addressed(t, d, root)
	}
	addressed(t, bare, 0)
}

func addressed(t *testing.T, d *model, root int) {
	t.Helper()
	m := d.real(t)
	was := look(m)
	for a := range addresses {
		for k := range 13 {
			for _, r := range []int{0, 1, 16, 31, 32} {
				askCap(t, m, d, root, a, k, r)
			}
		}
	}
	for _, a := range noAddresses() {
		for k := range 13 {
			if e := askCap(t, m, d, root, a, k, 0); e != api.ErrArg {
				t.Fatalf("address %d: %d", a, e)
			}
		}
		for f := -1; f <= len(d.words); f++ {
			if e := askCap(t, m, d, f, a, kMem, -1); e != api.ErrArg {
				t.Fatalf("address %d of root %d: %d", a, f, e)
			}
			if e := askMem(t, m, d, f, a, -1, -1); e != api.ErrArg {
				t.Fatalf("address %d of root %d: %d", a, f, e)
			}
		}
	}
	stays(t, m, &was)
}

// strange are words with which frames begin that are no right heads.
func strange() [][]uint64 {
	return [][]uint64{
		{7}, {15}, {strangeBit}, {strangeBit + rootHead}, {leafHead + strangeBit}, {1 << 63}, {1<<32 + 1}, {math.MaxUint64},
		{compHead + 16}, {compHead + frozenBit}, {16}, {frozenBit}, {rootHead, 1}, {leafHead, 5}, {compHead, 1}, {0, 1},
		{0, 0, 1}, {0, 0, 0, 1}, {rootHead, 0, 1}, {rootHead, 0, 0, 1}, {leafHead, 0, 1}, {leafHead, 0, 0, 1},
		{compHead, 0, 1}, {compHead, 0, 0, 1}, {rootHead + frozenBit, maxTime + 1}, {leafHead + frozenBit, 1 << 63},
		{0, 1 << 63}, {0, math.MaxUint64}, {2 + frozenBit, 3}, {2, 0, 0, 1 << 40},
	}
}

// rightHeads are words with which frames begin, of each kind, level, and frozen or not.
func rightHeads() [][]uint64 {
	return [][]uint64{
		{0}, {rootHead}, {leafHead}, {rootHead + frozenBit}, {leafHead + frozenBit, 0}, {rootHead + frozenBit, 9},
		{leafHead + frozenBit, maxTime}, {2}, {2 + 16}, {3}, {4}, {5}, {6},
	}
}

// TestCapRoots has roots and leaves that begin with all sorts of words, all with all.
func TestCapRoots(t *testing.T) {
	d := plain()
	m := d.real(t)
	all := append(rightHeads(), strange()...)
	for _, up := range all {
		for _, down := range all {
			d.begin(0, up...)
			d.begin(1, down...)
			d.hang(0, 4, 1)
			d.lay(1, 9, one(kSnd, 3))
			d.write(t, m, 0)
			d.write(t, m, 1)
			for root := range 3 {
				for _, k := range []int{kSnd, kMem} {
					for _, a := range []int{73, 74, 89} {
						askCap(t, m, d, root, a, k, 1)
						askMem(t, m, d, root, a, 1, 9)
					}
				}
			}
			is := slices.Contains([]uint64{rootHead, rootHead + frozenBit}, up[0]) && slices.Contains([]uint64{leafHead, leafHead + frozenBit}, down[0])
			_, e := find.Cap(m, 0, 73, kSnd, 3)
			if !is && e != api.ErrType {
				t.Fatalf("%v above %v: %d", up, down, e)
			}
		}
	}
}

// TestCapOfFrozen finds in a table that is frozen as in one that is not.
func TestCapOfFrozen(t *testing.T) {
	for _, frozen := range [][]int{{0}, {1}, {0, 1}} {
		d := plain()
		d.lay(1, 3, one(kThd, 17))
		for _, f := range frozen {
			d.words[f][0] += frozenBit
			d.words[f][1] = 12
		}
		if c, e := find.Cap(d.real(t), 0, 3, kThd, 16); c != one(kThd, 17) || e != api.OK {
			t.Errorf("frozen %v: %v, %d", frozen, c, e)
		}
	}
}

// TestCapNoFrames asks roots that there are not, and has slots of the root with leaves that
// there are not.
func TestCapNoFrames(t *testing.T) {
	for _, frames := range []int{3, 14, 64} {
		d := blank(frames)
		d.begin(0, rootHead)
		d.begin(1, leafHead)
		d.hang(0, 0, 1)
		d.lay(1, 0, one(kMem, 1))
		for high := 1; high < slots; high++ {
			d.hang(0, high, min(frames+high-1, maxFrames-1))
		}
		m := d.real(t)
		was := look(m)
		for _, root := range noFrames(frames) {
			for _, a := range []int{0, 1, 16, 255} {
				if e := askCap(t, m, d, root, a, kMem, 1); e != api.ErrType {
					t.Fatalf("root %d: %d", root, e)
				}
				if e := askMem(t, m, d, root, a, 1, 9); e != api.ErrType {
					t.Fatalf("root %d: %d", root, e)
				}
			}
		}
		for a := slots; a < addresses; a++ {
			if e := askCap(t, m, d, 0, a, kMem, 1); e != api.ErrType {
				t.Fatalf("%d frames, address %d: %d", frames, a, e)
			}
		}
		stays(t, m, &was)
	}
}

// wrongSlots are words that are no capability's, and some that are none's above what was.
func wrongSlots() [][2]uint64 {
	return [][2]uint64{
		{0, 0}, {0, 1}, {1, 0}, {1, 9}, {1, maxTime}, {1, maxTime + 1}, {1 + 16, 0}, {12, 0}, {15, 0}, {math.MaxUint64, 0},
		{kMem, 0}, {kMem, 65}, {kMem + 512*60, 5}, {kMem + 512*60, 4}, {kMem, 64}, {kMem + 32768, 1}, {kMem, 1 << 63},
		{kTbl, 1}, {kTbl + 32768, 0}, {kComp, 1}, {kHw + 512, 0}, {kHw, 1}, {1 << 37, 0}, {kTbl + 1<<37, 0}, {kInv, maxTime + 1},
	}
}

// TestCapSlots lays all sorts of words into the slots of root and leaf.
func TestCapSlots(t *testing.T) {
	d := plain()
	m := d.real(t)
	for _, w := range wrongSlots() {
		d.words[1][headWords], d.words[1][headWords+1] = w[0], w[1]
		d.words[0][headWords+2], d.words[0][headWords+3] = w[0], w[1]
		d.write(t, m, 0)
		d.write(t, m, 1)
		was := look(m)
		for _, a := range []int{0, 1, 16, 17, 31} {
			for k := range 17 {
				askCap(t, m, d, 0, a, k, 0)
			}
			for f := range 66 {
				askMem(t, m, d, 0, a, 0, f-1)
			}
		}
		stays(t, m, &was)
	}
}

// TestCapErrorsAlone has each error that Cap can tell alone, and where others apply, too.
func TestCapErrorsAlone(t *testing.T) {
	d := plain()
	d.lay(1, 0, api.Cap{K: kComp, R: 6, T: 3, L: 5, E: 1}) // it was killed
	d.lay(1, 1, api.Cap{K: kComp, R: 6, T: 3, L: 5, E: 2})
	d.lay(1, 2, api.Cap{K: kQuiet, A: 3})
	d.words[1][headWords+2*3+1] = 1
	d.lay(0, 1, api.Cap{K: kTbl, R: 31, T: 3})
	m := d.real(t)
	for _, one := range []struct {
		what          string
		root, a, k, r int
		e             api.Errno
	}{
		{"found", 0, 1, kComp, 6, api.OK},
		{"found without rights", 0, 1, kComp, 0, api.OK},
		{"no address", 0, 256, kComp, 6, api.ErrArg},
		{"no address, and all else wrong", 3, 256, kMem, 32, api.ErrArg},
		{"no root", 1, 1, kComp, 6, api.ErrType},
		{"no root, and without rights", 1, 1, kComp, 7, api.ErrType},
		{"no leaf in the slot", 0, 32, kComp, 6, api.ErrNone},
		{"no leaf in the slot, and another kind", 0, 32, kMem, 7, api.ErrNone},
		{"something else as the leaf", 0, 16, kComp, 6, api.ErrType},
		{"none", 0, 4, kComp, 6, api.ErrNone},
		{"none, asked for as none", 0, 4, kNone, 0, api.ErrNone},
		{"one that was", 0, 2, kComp, 6, api.ErrNone},
		{"one that was, asked for as that", 0, 2, kQuiet, 0, api.ErrNone},
		{"words that are none's", 0, 3, kComp, 6, api.ErrForm},
		{"words that are none's, and another kind", 0, 3, kMem, 7, api.ErrForm},
		{"another kind", 0, 1, kInv, 6, api.ErrType},
		{"another kind without rights", 0, 1, kInv, 7, api.ErrType},
		{"another kind that does not live", 0, 0, kInv, 6, api.ErrType},
		{"another kind without rights that does not live", 0, 0, kMem, 7, api.ErrType},
		{"without rights", 0, 1, kComp, 7, api.ErrPerm},
		{"without rights, which does not live", 0, 0, kComp, 7, api.ErrPerm},
		{"without those, either", 0, 0, kComp, -1, api.ErrPerm},
		{"which does not live", 0, 0, kComp, 6, api.ErrLive},
		{"which does not live, without rights asked for", 0, 0, kComp, 0, api.ErrLive},
	} {
		if e := askCap(t, m, d, one.root, one.a, one.k, one.r); e != one.e {
			t.Errorf("%s: %d; want %d", one.what, e, one.e)
		}
	}
}

// someEpochs are an id's first epochs, and those at the end of what an epoch can be.
func someEpochs() []int { return []int{0, 1, 2, 3, 4, 255, 256, epochs - 2, epochs - 1} }

// TestCapLives has each kind with each id, of some epochs, while each id is in an epoch of
// its own: only components, and calls of them, are asked whether they live.
func TestCapLives(t *testing.T) {
	d := plain()
	for id := range d.lives {
		d.lives[id] = id%5 - 1
	}
	m := d.real(t)
	for id := range ids {
		for _, epoch := range someEpochs() {
			d.lay(1, 0, api.Cap{K: kComp, R: 3, T: 8, L: id, E: epoch})
			d.lay(1, 1, api.Cap{K: kInv, R: 3, T: 8, L: id, E: epoch, A: 6})
			d.write(t, m, 1)
			for a, k := range []int{kComp, kInv} {
				e := askCap(t, m, d, 0, a, k, 2)
				if want := epoch == id%5-1; (e == api.OK) != want || !want && e != api.ErrLive {
					t.Fatalf("%d of %d in %d: %d", k, id, epoch, e)
				}
			}
		}
	}
}

// TestCapOfOthers has those that do not live found while none lives.
func TestCapOfOthers(t *testing.T) {
	d := plain()
	for id := range d.lives {
		d.lives[id] = dead
	}
	for at, k := range kinds() {
		d.lay(1, at, one(k, 5))
	}
	m := d.real(t)
	for at, k := range kinds() {
		want := api.OK
		if k == kComp || k == kInv {
			want = api.ErrLive
		}
		if e := askCap(t, m, d, 0, at, k, 4); e != want {
			t.Errorf("%d: %d; want %d", k, e, want)
		}
	}
}

// TestCapToTheEnd has a capability of the last epoch in which an id can live.
func TestCapToTheEnd(t *testing.T) {
	d := plain()
	d.lives[0] = epochs - 2
	d.lay(1, 0, api.Cap{K: kInv, T: 8, E: epochs - 2})
	d.lay(1, 1, api.Cap{K: kInv, T: 8, E: epochs - 1})
	d.be(3, api.Comp{E: epochs - 2})
	d.be(4, api.Comp{E: epochs - 1})
	m := d.real(t)
	for range 2 {
		askCap(t, m, d, 0, 0, kInv, 0)
		askCap(t, m, d, 0, 1, kInv, 0)
		askComp(t, m, d, 3)
		askComp(t, m, d, 4)
		for _, epoch := range someEpochs() {
			if is := askAlive(t, m, d, 0, epoch); is != (epoch == d.lives[0]) {
				t.Fatalf("epoch %d: %v", epoch, is)
			}
		}
		if d.lives[0] != dead {
			must(t, m.Live().Kill(0, epochs-2, 3))
			d.lives[0] = dead
		}
	}
}

// P26.1: Mem.

// TestMemFrames has memory of each first frame and each count that can be: its own frames
// are found, the first and the last among them, and no others, those beside among them.
func TestMemFrames(t *testing.T) {
	d := plain()
	m := d.real(t)
	for first := range maxFrames {
		for count := 1; first+count <= maxFrames; count++ {
			d.lay(2, 8, api.Cap{K: kMem, R: 5, T: first, A: count})
			for at := headWords + 16; at < headWords+18; at++ {
				must(t, m.Mem().Store(2, at, d.words[2][at]))
			}
			for _, f := range []int{-1, 0, first - 1, first, first + 1, first + count/2, first + count - 2, first + count - 1, first + count, first + count + 1, 63, 64, 64 + first} {
				want := api.ErrArg
				if f >= first && f < first+count {
					want = api.OK
				}
				if e := find.Mem(m, 0, 248, 4, f); e != want {
					t.Fatalf("frame %d of %d from %d on: %d; want %d", f, count, first, e, want)
				}
			}
		}
	}
}

// TestMemFar asks for frames far behind those of memory, and for its own with rights that
// it has and has not.
func TestMemFar(t *testing.T) {
	d := plain()
	d.lay(1, 0, api.Cap{K: kMem, R: 31, T: 0, A: 64})
	d.lay(1, 1, api.Cap{K: kMem, R: 10, T: 63, A: 1})
	d.lay(1, 2, api.Cap{K: kMem, R: 0, T: 5, A: 2})
	m := d.real(t)
	was := look(m)
	for a := range 3 {
		for _, f := range append(far(), 64, 65, 127, 128) {
			if e := askMem(t, m, d, 0, a, 0, f); e != api.ErrArg {
				t.Fatalf("frame %d at %d: %d", f, a, e)
			}
			if e := askMem(t, m, d, 0, a, 32, f); e != api.ErrPerm {
				t.Fatalf("frame %d at %d: %d", f, a, e)
			}
		}
		for f := range maxFrames {
			for r := range 33 {
				askMem(t, m, d, 0, a, r, f)
			}
			for _, r := range noRights() {
				if e := askMem(t, m, d, 0, a, r, f); e != api.ErrPerm {
					t.Fatalf("frame %d at %d with %d: %d", f, a, r, e)
				}
			}
		}
	}
	stays(t, m, &was)
}

// TestMemOfKinds asks for memory where there is a capability of each kind.
func TestMemOfKinds(t *testing.T) {
	d := plain()
	for at, k := range kinds() {
		d.lay(1, at, one(k, 13))
	}
	m := d.real(t)
	for at, k := range kinds() {
		for f := range 16 {
			e := askMem(t, m, d, 0, at, 12, f)
			if k != kMem && e != api.ErrType {
				t.Fatalf("%d: %d", k, e)
			}
			if k == kMem && (e == api.OK) != (f >= 9 && f <= 11) {
				t.Fatalf("frame %d: %d", f, e)
			}
		}
	}
}

// TestMemErrorsAlone has each error that Mem can tell alone, and where others apply, too.
func TestMemErrorsAlone(t *testing.T) {
	d := plain()
	d.lay(1, 0, api.Cap{K: kMem, R: 4, T: 6, A: 2})
	d.lay(1, 1, api.Cap{K: kComp, R: 4, T: 6, L: 9, E: 2}) // it does not live
	d.words[1][headWords+2*3] = 12
	m := d.real(t)
	for _, one := range []struct {
		what          string
		root, a, r, f int
		e             api.Errno
	}{
		{"the first", 0, 0, 4, 6, api.OK},
		{"the last", 0, 0, 4, 7, api.OK},
		{"ahead of the first", 0, 0, 4, 5, api.ErrArg},
		{"behind the last", 0, 0, 4, 8, api.ErrArg},
		{"no address", 0, -1, 4, 6, api.ErrArg},
		{"no address, and all else wrong", 7, -1, 7, 99, api.ErrArg},
		{"no root", 2, 0, 4, 6, api.ErrType},
		{"no root, and another frame", 2, 0, 5, 9, api.ErrType},
		{"no leaf in the slot, and another frame", 0, 16, 5, 9, api.ErrNone},
		{"none", 0, 2, 4, 6, api.ErrNone},
		{"none, and another frame", 0, 2, 4, 9, api.ErrNone},
		{"words that are none's", 0, 3, 4, 6, api.ErrForm},
		{"words that are none's, and another frame", 0, 3, 4, 9, api.ErrForm},
		{"another kind", 0, 1, 4, 6, api.ErrType},
		{"another kind, without rights, and another frame", 0, 1, 7, 9, api.ErrType},
		{"without rights", 0, 0, 5, 6, api.ErrPerm},
		{"without rights, and another frame", 0, 0, 5, 5, api.ErrPerm},
	} {
		if e := askMem(t, m, d, one.root, one.a, one.r, one.f); e != one.e {
			t.Errorf("%s: %d; want %d", one.what, e, one.e)
		}
	}
}

// TestMemBehindTheMachine has memory of frames that the machine has not: they are the
// capability's all the same.
func TestMemBehindTheMachine(t *testing.T) {
	d := plain()
	d.lay(1, 0, api.Cap{K: kMem, R: 1, T: 12, A: 4})
	m := d.real(t)
	for f := 11; f <= 16; f++ {
		want := api.ErrArg
		if f >= 12 && f <= 15 {
			want = api.OK
		}
		if e := askMem(t, m, d, 0, 0, 1, f); e != want {
			t.Errorf("frame %d: %d; want %d", f, e, want)
		}
	}
}

// P26.2: Comp.

// TestCompOfHeads has frames that begin with all sorts of words, with a component's words
// behind them.
func TestCompOfHeads(t *testing.T) {
	d := plain()
	want := api.Comp{Tbl: 1, Pgt: 2, L: 5, E: 2, Fault: 7, At: 8}
	m := d.real(t)
	for _, w := range append(rightHeads(), strange()...) {
		d.be(3, want)
		copy(d.words[3][:headWords], make([]uint64, headWords))
		copy(d.words[3][:], w)
		d.write(t, m, 3)
		is := len(w) == 1 && w[0] == compHead
		if e := askComp(t, m, d, 3); is != (e == api.OK) || !is && e != api.ErrType {
			t.Fatalf("%v: %d", w, e)
		}
	}
}

// TestCompNoFrames asks for frames that are nothing of the kind, or not there.
func TestCompNoFrames(t *testing.T) {
	for _, frames := range []int{1, 5, 64} {
		d := blank(frames)
		d.lives[0] = 0
		d.be(frames-1, api.Comp{})
		m := d.real(t)
		was := look(m)
		for _, f := range noFrames(frames) {
			if e := askComp(t, m, d, f); e != api.ErrType {
				t.Fatalf("frame %d: %d", f, e)
			}
		}
		for f := range frames {
			askComp(t, m, d, f)
		}
		stays(t, m, &was)
	}
}

// TestCompForm has each of a component's words at its end and behind it, with an id that
// lives and one that does not: what can't be is told first.
func TestCompForm(t *testing.T) {
	d := plain()
	d.lives[63], d.lives[62] = 0, dead
	m := d.real(t)
	for i, most := range []uint64{63, 63, 63, 65535, 64, 1 << 30} {
		for _, w := range []uint64{0, 1, most - 1, most, most + 1, most + 2, 2*most + 1, 1<<32 + 1, 1 << 63, math.MaxUint64} {
			for _, id := range []int{62, 63} {
				d.be(3, api.Comp{Tbl: 1, Pgt: 2, L: id, E: 0, Fault: 3, At: 4})
				d.words[3][headWords+i] = w
				d.write(t, m, 3)
				e := askComp(t, m, d, 3)
				if (e == api.ErrForm) != (w > most || i == 4 && w == 0) {
					t.Fatalf("word %d is %d: %d", i, w, e)
				}
			}
		}
	}
}

// TestCompLives has components of each id, of some epochs, while each id is in an epoch of
// its own; all else of them is told as it is.
func TestCompLives(t *testing.T) {
	d := plain()
	for id := range d.lives {
		d.lives[id] = 3 - id%5
	}
	m := d.real(t)
	for id := range ids {
		for _, epoch := range someEpochs() {
			want := api.Comp{Tbl: 63 - id, Pgt: id, L: id, E: epoch, Fault: id + 1, At: maxTime - id}
			d.be(3, want)
			d.write(t, m, 3)
			c, e := find.Comp(m, 3)
			if epoch == 3-id%5 && (c != want || e != api.OK) {
				t.Fatalf("%v lives: %v, %d", want, c, e)
			}
			if epoch != 3-id%5 && (c != (api.Comp{}) || e != api.ErrLive) {
				t.Fatalf("%v does not live: %v, %d", want, c, e)
			}
			askComp(t, m, d, 3)
		}
	}
}

// TestCompAnew kills a component's id, which is taken anew then: the component lives no
// more, but one that takes its place does.
func TestCompAnew(t *testing.T) {
	m, e := machine.New(api.Config{Frames: 2, Cores: 1})
	must(t, e)
	old, young := api.Comp{Tbl: 1, E: 0}, api.Comp{Tbl: 1, E: 1}
	must(t, comp.Make(m.Mem(), 1, old))
	told := func(want api.Comp, wantE api.Errno) {
		t.Helper()
		if c, e := find.Comp(m, 1); c != want || e != wantE {
			t.Errorf("%v, %d; want %v, %d", c, e, want, wantE)
		}
	}
	told(api.Comp{}, api.ErrLive)
	take(t, m, 0, 0)
	told(old, api.OK)
	must(t, m.Live().Kill(0, 0, 0))
	told(api.Comp{}, api.ErrLive)
	take(t, m, 0, 1)
	told(api.Comp{}, api.ErrLive)
	must(t, comp.Put(m.Mem(), 1, young))
	told(young, api.OK)
	must(t, m.Mem().Clear(1))
	told(api.Comp{}, api.ErrType)
}

// P26.2: Fresh.

// TestFreshOfAll has each type, with each of some counts, and each head: ErrType comes
// first, and ErrUsed is told for the count as for the head.
func TestFreshOfAll(t *testing.T) {
	heads := append(rightHeads(), strange()...)
	for _, is := range []int{untyped, users, kernels} {
		for _, count := range []int{0, 1, 2, maxRefs} {
			if is == untyped && count > 0 { // none can be needed
				continue
			}
			d := blank(len(heads))
			for f, w := range heads {
				d.begin(f, w...)
				d.is[f], d.count[f] = is, count
			}
			m := d.real(t)
			was := look(m)
			for f, w := range heads {
				want := api.ErrUsed
				if is != kernels {
					want = api.ErrType
				} else if count == 0 && len(w) == 1 && w[0] == 0 {
					want = api.OK
				}
				if e := askFresh(t, m, d, f); e != want {
					t.Fatalf("%d, needed %d times, %v: %d; want %d", is, count, w, e, want)
				}
			}
			stays(t, m, &was)
		}
	}
}

// TestFreshCounts has a frame that is needed ever more often, up to the end, and less again.
func TestFreshCounts(t *testing.T) {
	d := blank(2)
	d.begin(0)
	d.begin(1)
	m := d.real(t)
	for i := range 2 * maxRefs {
		if i < maxRefs {
			must(t, m.Typ().Ref(1))
			d.count[1]++
		} else {
			must(t, m.Typ().Unref(1, 0))
			d.count[1]--
		}
		if e := askFresh(t, m, d, 1); (e == api.ErrUsed) != (d.count[1] > 0) {
			t.Fatalf("needed %d times: %d", d.count[1], e)
		}
		if e := askFresh(t, m, d, 0); e != api.OK {
			t.Fatalf("the one beside: %d", e)
		}
	}
}

// TestFreshNoFrames asks for frames that there are not.
func TestFreshNoFrames(t *testing.T) {
	for _, frames := range []int{1, 2, 14, 64} {
		d := blank(frames)
		for f := range frames {
			d.begin(f)
		}
		m := d.real(t)
		for _, f := range noFrames(frames) {
			if e := askFresh(t, m, d, f); e != api.ErrType {
				t.Fatalf("frame %d of %d: %d", f, frames, e)
			}
		}
		for f := range frames {
			if e := askFresh(t, m, d, f); e != api.OK {
				t.Fatalf("frame %d of %d: %d", f, frames, e)
			}
		}
	}
}

// TestFreshWords has a frame that begins with nothing, and has something in each of its
// words alone: those of its head count, those behind do not.
func TestFreshWords(t *testing.T) {
	d := blank(1)
	d.begin(0)
	m := d.real(t)
	for at := range words {
		for bit := range 64 {
			must(t, m.Mem().Store(0, at, 1<<bit))
			want := api.OK
			if at < headWords {
				want = api.ErrUsed
			}
			if e := find.Fresh(m, 0); e != want {
				t.Fatalf("word %d is 2^%d: %d; want %d", at, bit, e, want)
			}
		}
		must(t, m.Mem().Store(0, at, 0))
	}
}

// TestFreshByOthers leads one frame from what it is at first to being used, and back, by the
// calls of the layers below.
func TestFreshByOthers(t *testing.T) {
	m, e := machine.New(api.Config{Frames: 2, Cores: 1})
	must(t, e)
	told := func(want api.Errno) {
		t.Helper()
		if e := find.Fresh(m, 1); e != want {
			t.Errorf("%d; want %d", e, want)
		}
	}
	need := api.Cap{K: api.CThd, T: 1}
	told(api.ErrType)
	must(t, m.Retype(1, api.FKernel))
	told(api.OK)
	must(t, m.Link(need))
	told(api.ErrUsed)
	must(t, m.Link(need))
	must(t, m.Unlink(need))
	told(api.ErrUsed)
	must(t, m.Unlink(need))
	told(api.OK)
	for k := oTbl; k <= oRcv; k++ {
		must(t, head.Make(m.Mem(), 1, api.Head{K: k}))
		told(api.ErrUsed)
	}
	must(t, head.Put(m.Mem(), 1, api.Head{}))
	told(api.OK)
	must(t, m.Typ().Untype(1, 0, false))
	told(api.ErrType)
	must(t, m.Typ().Retype(1, api.FUser, true))
	told(api.ErrType)
	must(t, m.Typ().Ref(1))
	must(t, head.Make(m.Mem(), 1, api.Head{K: api.OThd}))
	told(api.ErrType)
}

// P26.2: Alive.

// TestAlive asks for each id in each of some epochs, and for such as there are not.
func TestAlive(t *testing.T) {
	d := plain()
	for id := range d.lives {
		d.lives[id] = id%7 - 1
	}
	m := d.real(t)
	was := look(m)
	for id := range ids {
		for _, epoch := range append(someEpochs(), 5, 6) {
			if is := askAlive(t, m, d, id, epoch); is != (epoch == id%7-1) {
				t.Fatalf("%d in %d: %v", id, epoch, is)
			}
		}
		for _, epoch := range append(far(), epochs, epochs+1, epochs+2, 2*epochs+1) {
			if askAlive(t, m, d, id, epoch) {
				t.Fatalf("%d lives in %d", id, epoch)
			}
		}
	}
	for _, id := range append(far(), ids, ids+1, ids+5, 2*ids+1) {
		for _, epoch := range append(far(), 0, 1, 2, 3, epochs-1) {
			if askAlive(t, m, d, id, epoch) {
				t.Fatalf("%d lives in %d", id, epoch)
			}
		}
	}
	stays(t, m, &was)
}

// TestAliveById asks with records of which all but the id and its epoch is something else:
// it does not count.
func TestAliveById(t *testing.T) {
	d := plain()
	m := d.real(t)
	for _, n := range append(far(), 0, 1, 5, 63, 64) {
		for i := range 4 {
			parts := [4]int{}
			parts[i] = n
			r := api.Frame{Comp: parts[0], Tbl: parts[1], Pgt: parts[2], Ip: parts[3], L: 5, E: 2}
			if !find.Alive(m, r) {
				t.Fatalf("%v does not live", r)
			}
			r.E = 1
			if find.Alive(m, r) {
				t.Fatalf("%v lives", r)
			}
		}
	}
}

// TestAliveAgain follows one id that lives, is killed, and lives again in the next epoch.
func TestAliveAgain(t *testing.T) {
	m, e := machine.New(api.Config{Frames: 1, Cores: 1})
	must(t, e)
	for epoch := range 5 {
		for at := range 7 {
			if find.Alive(m, api.Frame{E: at}) {
				t.Fatalf("it lives in %d ahead of %d", at, epoch)
			}
		}
		take(t, m, 0, epoch)
		for at := range 7 {
			if find.Alive(m, api.Frame{E: at}) != (at == epoch) {
				t.Fatalf("it lives in %d, or not, while in %d", at, epoch)
			}
			if find.Alive(m, api.Frame{L: 1, E: at}) {
				t.Fatalf("another one lives in %d", at)
			}
		}
		must(t, m.Live().Kill(0, epoch, 0))
	}
}

// P26.3.

// TestUnmade asks all of a machine that is none, with right arguments and wrong ones.
func TestUnmade(t *testing.T) {
	var zero machine.Machine
	numbers := append(far(), 0, 1, 2, 3, 4, 5, 7, 31, 63, 64, 255, 256)
	for _, m := range []*machine.Machine{nil, new(machine.Machine), {}, &zero} {
		for _, n := range numbers {
			unmadeOne(t, m, n)
			for _, o := range numbers {
				unmadeTwo(t, m, n, o)
			}
		}
	}
	if zero.Cores() != 0 {
		t.Error("a machine that no call made was made")
	}
}

func unmadeOne(t *testing.T, m *machine.Machine, n int) {
	t.Helper()
	if c, e := find.Comp(m, n); c != (api.Comp{}) || e != api.ErrZero {
		t.Fatalf("Comp(%d): %v, %d", n, c, e)
	}
	if e := find.Fresh(m, n); e != api.ErrZero {
		t.Fatalf("Fresh(%d): %d", n, e)
	}
}

func unmadeTwo(t *testing.T, m *machine.Machine, n int, o int) {
	for _, at := range [][4]int{{n, o, 2, 0}, {0, n, o, 0}, {0, 0, n, o}, {n, 0, 0, o}, {n, n, o, o}} {
		if c, e := find.Cap(m, at[0], at[1], at[2], at[3]); c != (api.Cap{}) || e != api.ErrZero {
			t.Helper()
			t.Fatalf("Cap(%v): %v, %d", at, c, e)
		}
		if e := find.Mem(m, at[0], at[1], at[2], at[3]); e != api.ErrZero {
			t.Helper()
			t.Fatalf("Mem(%v): %d", at, e)
		}
	}
	for _, r := range []api.Frame{{L: n, E: o}, {Comp: n, Tbl: o}, {Pgt: n, Ip: o}} {
		if find.Alive(m, r) {
			t.Helper()
			t.Fatalf("Alive(%v)", r)
		}
	}
}

// TestTakenAway has machines whose parts were made unmade by others: nothing panics, and
// what the layers below answer then is answered.
func TestTakenAway(t *testing.T) {
	d := plain()
	d.lay(1, 0, one(kComp, 1))
	d.lay(1, 1, one(kMem, 1))
	d.be(3, api.Comp{L: 5, E: 2})
	d.begin(4)
	m := d.real(t)
	told := func(capE api.Errno, memE api.Errno, compE api.Errno, freshE api.Errno, lives bool) {
		t.Helper()
		_, a := find.Cap(m, 0, 0, kComp, 1)
		b := find.Mem(m, 0, 1, 1, 9)
		_, c := find.Comp(m, 3)
		e := find.Fresh(m, 4)
		if is := find.Alive(m, api.Frame{L: 5, E: 2}); a != capE || b != memE || c != compE || e != freshE || is != lives {
			t.Errorf("%d, %d, %d, %d, %v", a, b, c, e, is)
		}
	}
	told(api.OK, api.OK, api.OK, api.OK, true)
	*m.Live() = live.Table{}
	told(api.ErrLive, api.OK, api.ErrLive, api.OK, false)
	*m.Mem() = mem.Mem{}
	told(api.ErrType, api.ErrType, api.ErrType, api.ErrUsed, false)
	*m.Typ() = typ.Table{}
	told(api.ErrType, api.ErrType, api.ErrType, api.ErrType, false)
}

// P26.4.

// TestFewerRights finds each kind with all rights that it has, and then with each part of
// them: it is the same, with the rights that it has, not those that were asked for.
func TestFewerRights(t *testing.T) {
	d := plain()
	m := d.real(t)
	for _, k := range kinds() {
		for have := range allRights + 1 {
			want := one(k, have)
			d.lay(1, 2, want)
			d.write(t, m, 1)
			for r := range allRights + 1 {
				if c, e := find.Cap(m, 0, 2, k, r); e != api.OK {
					continue
				} else if c != want {
					t.Fatalf("%v: %v", want, c)
				}
				fewer(t, m, want, r)
			}
		}
	}
}

func fewer(t *testing.T, m *machine.Machine, want api.Cap, r int) {
	t.Helper()
	for part := range r + 1 {
		if part&^r != 0 {
			continue
		}
		if c, e := find.Cap(m, 0, 2, want.K, part); c != want || e != api.OK {
			t.Fatalf("%v, found with %d, with %d: %v, %d", want, r, part, c, e)
		}
		if want.K != kMem {
			continue
		}
		for f := 9; f <= 11; f++ {
			if e := find.Mem(m, 0, 2, part, f); e != api.OK {
				t.Fatalf("%v, found with %d, with %d: frame %d: %d", want, r, part, f, e)
			}
		}
	}
}

// All calls together.

// row is a row of numbers that hang on the last one.
type row uint64

func (x *row) pick(n int) int {
	*x = *x*6364136223846793005 + 1442695040888963407
	return int(*x>>33) % n
}

// scrawl changes something of the model: a head, a slot, a component, some word.
func scrawl(x *row, d *model) int {
	f := x.pick(len(d.words))
	heads := append(rightHeads(), strange()...)
	switch x.pick(8) {
	case 0:
		d.begin(f, heads[x.pick(len(heads))]...)
	case 1:
		d.begin(f, rootHead)
		for high := range slots {
			d.hang(f, high, x.pick(len(d.words)))
		}
	case 2:
		d.begin(f, leafHead)
		for low := range slots {
			d.lay(f, low, one(kinds()[x.pick(len(kinds()))], x.pick(32)))
		}
	case 3:
		w := wrongSlots()[x.pick(len(wrongSlots()))]
		at := headWords + 2*x.pick(slots)
		d.words[f][at], d.words[f][at+1] = w[0], w[1]
	case 4:
		d.be(f, api.Comp{Tbl: x.pick(64), Pgt: x.pick(64), L: x.pick(8), E: x.pick(3), Fault: 1 + x.pick(64), At: x.pick(9)})
	case 5:
		d.words[f][x.pick(words)] = uint64(x.pick(70))
	case 6:
		d.lay(f, x.pick(slots), api.Cap{K: kInv, R: x.pick(32), T: x.pick(64), L: x.pick(8), E: x.pick(3), A: x.pick(9)})
	case 7:
		d.lay(f, x.pick(slots), api.Cap{K: kMem, R: x.pick(32), T: x.pick(32), A: 1 + x.pick(32)})
	}
	return f
}

// stir changes something else than words, in the model and in both machines.
func stir(x *row, d *model, all ...*machine.Machine) {
	what, f, id := x.pick(6), x.pick(len(d.words)), x.pick(8)
	for i, m := range all {
		switch what {
		case 0:
			if m.Typ().Ref(f) == api.OK && i == 0 {
				d.count[f]++
			}
		case 1:
			if m.Typ().Unref(f, 0) == api.OK && i == 0 {
				d.count[f]--
			}
		case 2:
			if m.Typ().Untype(f, 0, false) == api.OK && i == 0 {
				d.is[f] = untyped
			}
		case 3:
			if m.Typ().Retype(f, 1+id%2, true) == api.OK && i == 0 {
				d.is[f] = 1 + id%2
			}
		case 4:
			if m.Live().Kill(id, d.lives[id], 0) == api.OK && i == len(all)-1 {
				d.lives[id] = dead
			}
		case 5:
			if l, epoch, e := m.Live().Take(1); e == api.OK {
				d.lives[l] = epoch
			}
		}
	}
}

// TestManyCalls mixes all calls, wrong ones among them, with changes of what they look at;
// a twin, which is asked once in a while alone, answers the same.
func TestManyCalls(t *testing.T) {
	x := row(26)
	counts := map[api.Errno]int{}
	for _, frames := range []int{3, 6, 14, 64} {
		d := blank(frames)
		m, twin := d.real(t), d.real(t)
		for range 4000 {
			f := scrawl(&x, d)
			d.write(t, m, f)
			d.write(t, twin, f)
			stir(&x, d, m, twin)
			was := look(m)
			for range 6 {
				counts[many(t, &x, m, d)]++
			}
			stays(t, m, &was)
			if x.pick(16) == 0 {
				many(t, &x, twin, d)
			}
		}
	}
	for _, e := range []api.Errno{api.OK, api.ErrArg, api.ErrNone, api.ErrType, api.ErrPerm, api.ErrLive, api.ErrUsed, api.ErrForm} {
		if counts[e] < 50 {
			t.Errorf("%d was told %d times", e, counts[e])
		}
	}
}

func many(t *testing.T, x *row, m *machine.Machine, d *model) api.Errno {
	t.Helper()
	f, a, k, r := x.pick(len(d.words)+2)-1, x.pick(addresses+4)-2, 1+x.pick(12), x.pick(34)-1
	root := d.someRoot(x)
	askAlive(t, m, d, x.pick(10)-1, x.pick(4)-1)
	switch x.pick(6) {
	case 0, 1:
		if c, e := d.look(root, a); e == api.OK && x.pick(4) != 0 {
			k, r = c.K, r&c.R
		}
		return askCap(t, m, d, root, a, k, r)
	case 2, 3:
		return askMem(t, m, d, root, a, r&x.pick(32), x.pick(66)-1)
	case 4:
		return askComp(t, m, d, f)
	}
	return askFresh(t, m, d, f)
}

// someRoot is a frame that is a root, if the look for one comes upon one.
func (d *model) someRoot(x *row) int {
	f := x.pick(len(d.words)+2) - 1
	for range 20 {
		if d.table(f, 0) {
			break
		}
		f = x.pick(len(d.words)+2) - 1
	}
	return f
}

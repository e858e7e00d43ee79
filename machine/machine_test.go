package machine_test

import (
	"math"
	"testing"

	"palanquin/api"
	"palanquin/clock"
	"palanquin/hw"
	"palanquin/live"
	"palanquin/machine"
	"palanquin/mem"
	"palanquin/regs"
	"palanquin/tlb"
	"palanquin/typ"
)

// The chapter's and the document's limits, as numbers of their own.
const (
	maxFrames = 64
	maxCores  = 4
	maxRoom   = 8
	maxRefs   = 1000
	words     = 36
	registers = 8
	lineCount = 8
	ids       = 64
	epochs    = 3
)

// never is when something was done that was not done yet, nobody the thread of a core on
// which none runs, nowhere where a line leads that leads nowhere.
const (
	never   = -1
	nobody  = -1
	nowhere = -1
)

// both is what a frame was of which a core must have entered and flushed.
const both = 3

// frame is what the table tells of a frame.
type frame struct {
	is, was, count, freed int
}

// core is what a machine tells of a core.
type core struct {
	cycles, entered, flushed int
	cur                      int
	length                   int
	keys                     [maxRoom]api.Key
	ptes                     [maxRoom]api.Pte
	regs                     [registers]uint64
}

// picture is all that a machine tells, as a value: two of them are held against each other
// whole, and one is copied and changed by what a call is asked to do.
type picture struct {
	frames  int
	cores   int
	now     int
	lowest  [2]int
	words   [maxFrames][words]uint64
	frame   [maxFrames]frame
	core    [maxCores]core
	living  int
	lives   [ids][epochs]bool
	leads   [lineCount]int
	strange bool // whether it told something where there is nothing
}

// look takes the picture of a machine.
func look(t *testing.T, m *machine.Machine) picture {
	t.Helper()
	p := picture{frames: m.Mem().Len(), cores: m.Cores(), now: m.Now(), living: m.Live().Count()}
	p.lowest[0], p.lowest[1] = m.Floors()
	for f := range p.frames {
		all, e := m.Mem().Words(f)
		if e != api.OK || len(all) != words {
			t.Fatalf("Words(%d): %d of them, %d", f, len(all), e)
		}
		copy(p.words[f][:], all)
	}
	for f := range maxFrames {
		p.frame[f] = frame{m.Typ().Type(f), m.Typ().Was(f), m.Typ().Count(f), m.Typ().Freed(f)}
		p.strange = p.strange || f >= p.frames && p.frame[f] != frame{freed: never}
	}
	for number := range p.cores {
		p.core[number] = lookCore(t, m, number)
	}
	for id := range ids {
		for epoch := range epochs {
			p.lives[id][epoch] = m.Live().Valid(id, epoch)
		}
	}
	for line := range lineCount {
		f, e := m.Lines().Of(line)
		if e != api.OK {
			f = nowhere
		}
		p.leads[line] = f
	}
	for _, number := range noCores(p.cores) {
		p.strange = p.strange || m.Tlb(number) != nil || m.Regs(number) != nil || m.Cur(number) != nobody
	}
	if p.strange {
		t.Fatalf("something where there is nothing")
	}
	return p
}

func lookCore(t *testing.T, m *machine.Machine, number int) core {
	t.Helper()
	c := m.Clock()
	one := core{cycles: c.Cycles(number), entered: c.Entered(number), flushed: c.Flushed(number), cur: m.Cur(number)}
	keys := m.Tlb(number).Keys()
	one.length = len(keys)
	if one.length > maxRoom || m.Tlb(number).Len() != one.length {
		t.Fatalf("core %d remembers %d, %d", number, one.length, m.Tlb(number).Len())
	}
	for i, k := range keys {
		one.keys[i] = k
		one.ptes[i], _ = m.Tlb(number).Get(k)
	}
	all := m.Regs(number).All()
	if len(all) != registers {
		t.Fatalf("core %d: %d registers", number, len(all))
	}
	copy(one.regs[:], all)
	return one
}

// fresh is the picture of a machine that nothing was done with.
func fresh(c api.Config) picture {
	p := picture{frames: c.Frames, cores: c.Cores, lowest: [2]int{never, never}}
	for f := range p.frame {
		p.frame[f] = frame{freed: never}
	}
	for number := range c.Cores {
		p.core[number] = core{entered: never, flushed: never, cur: nobody}
	}
	for line := range p.leads {
		p.leads[line] = nowhere
	}
	return p
}

// lower lets the picture tell again which times are the least.
func (p *picture) lower() {
	p.lowest = [2]int{p.core[0].entered, p.core[0].flushed}
	for _, one := range p.core[:p.cores] {
		p.lowest[0] = min(p.lowest[0], one.entered)
		p.lowest[1] = min(p.lowest[1], one.flushed)
	}
}

// quiet is whether all cores have seen that frame f was freed.
func (p *picture) quiet(f int) bool {
	one := p.frame[f]
	entered, flushed := p.lowest[0] > one.freed, p.lowest[1] > one.freed
	return one.was == 0 || one.was == 1 && flushed || one.was == 2 && entered || one.was == both && entered && flushed
}

// The calls, as the chapter's words have them, done with a picture.

func (p *picture) retype(f int, to int) api.Errno {
	if f < 0 || f >= p.frames || to != 1 && to != 2 {
		return api.ErrArg
	}
	if p.frame[f].is != 0 {
		return api.ErrType
	}
	if !p.quiet(f) {
		return api.ErrBusy
	}
	p.frame[f].is = to
	p.words[f] = [words]uint64{}
	return api.OK
}

func (p *picture) needed(c api.Cap) bool { return c.K >= 3 && c.K <= 10 }

func (p *picture) kernels(f int) bool {
	return f >= 0 && f < p.frames && p.frame[f].is == 2
}

func (p *picture) link(c api.Cap) api.Errno {
	if !p.needed(c) {
		return api.OK
	}
	if !p.kernels(c.T) {
		return api.ErrType
	}
	if p.frame[c.T].count == maxRefs {
		return api.ErrFull
	}
	p.frame[c.T].count++
	return api.OK
}

func (p *picture) unlink(c api.Cap) api.Errno {
	if !p.needed(c) {
		return api.OK
	}
	if !p.kernels(c.T) {
		return api.ErrType
	}
	one := &p.frame[c.T]
	if one.count == 0 {
		return api.ErrNone
	}
	one.count--
	if one.count == 0 {
		one.freed = max(one.freed, p.now)
	}
	return api.OK
}

// forgot is what Flush answers.
type forgot struct {
	n int
	e api.Errno
}

func (p *picture) flush(number int) forgot {
	if number < 0 || number >= p.cores {
		return forgot{0, api.ErrArg}
	}
	one := &p.core[number]
	said := forgot{one.length, api.OK}
	one.flushed = p.now
	one.length, one.keys, one.ptes = 0, [maxRoom]api.Key{}, [maxRoom]api.Pte{}
	p.lower()
	return said
}

func (p *picture) setCur(number int, f int) api.Errno {
	if number < 0 || number >= p.cores || f < -1 || f > 63 {
		return api.ErrArg
	}
	p.core[number].cur = f
	return api.OK
}

func flush(m *machine.Machine, number int) forgot {
	n, e := m.Flush(number)
	return forgot{n, e}
}

// Numbers, machines and states that tests go over.

// far are numbers behind all ranges; the low bits of some are those of one in a range.
func far() []int {
	return []int{-2, -3, 128, 129, 1 << 8, 1<<8 + 1, 1 << 16, 1<<16 + 1, 1 << 31, 1 << 32, 1<<32 + 1, 1<<32 + 2, -1 << 32, 1 - 1<<32, math.MinInt, math.MinInt + 1, math.MinInt + 2, math.MaxInt, math.MaxInt - 1}
}

func noCores(cores int) []int {
	return append(far(), -1, -cores, cores, cores+1, maxCores, maxCores+1, maxFrames)
}

func noFrames(frames int) []int {
	return append(far(), -1, -frames, frames, frames+1, maxFrames, maxFrames+1)
}

// noThreads are numbers that SetCur does not take.
func noThreads() []int {
	return append(far(), maxFrames, maxFrames+1)
}

// usual are machines of every size at its ends.
func usual() []api.Config {
	return []api.Config{
		{Frames: 1, Cores: 1, Parts: 0, Room: 0},
		{Frames: 1, Cores: 1, Parts: 1, Room: 1},
		{Frames: 2, Cores: 2, Parts: 1, Room: 3},
		{Frames: 5, Cores: 3, Parts: 0, Room: 8},
		{Frames: 63, Cores: 3, Parts: 3, Room: 7},
		{Frames: 64, Cores: 4, Parts: 4, Room: 8},
	}
}

func made(t *testing.T, c api.Config) *machine.Machine {
	t.Helper()
	m, e := machine.New(c)
	if m == nil || e != api.OK {
		t.Fatalf("New(%v): %v, %d", c, m, e)
	}
	return m
}

func must(t *testing.T, e api.Errno) {
	t.Helper()
	if e != api.OK {
		t.Fatalf("refused: %d", e)
	}
}

// row is a row of numbers that hang on the last one.
type row uint64

func (x *row) pick(n int) int {
	*x = *x*6364136223846793005 + 1442695040888963407
	return int(*x>>33) % n
}

// busy is a machine of that kind with something in every part of it: in each word, in each
// core's registers and Tlb (as many as there is room for), in times, types, lives, lines.
func busy(t *testing.T, c api.Config) *machine.Machine {
	t.Helper()
	m := made(t, c)
	for f := range c.Frames {
		scrawl(t, m, f)
		if to := f % 3; to != 0 {
			must(t, m.Typ().Retype(f, to, true))
		}
		for range f % 5 * (f % 3) {
			must(t, m.Typ().Ref(f))
		}
	}
	for number := range c.Cores {
		for range number + 2 {
			must(t, m.Clock().Step(number))
		}
		must(t, m.Clock().Enter(number))
		must(t, m.Clock().Step(number))
		must(t, m.Clock().Flush(number))
		must(t, m.SetCur(number, 9+number))
		remember(t, m, number, c.Room)
		for i := range registers {
			must(t, m.Regs(number).Set(i, uint64(100*number+i+1)))
		}
	}
	for id := range 5 {
		_, _, e := m.Live().Take(0)
		must(t, e)
		must(t, m.Lines().Attach(id, 10+id))
	}
	must(t, m.Live().Kill(3, 0, 2))
	return m
}

// scrawl makes every word of frame f something else than 0.
func scrawl(t *testing.T, m *machine.Machine, f int) {
	t.Helper()
	for at := range words {
		must(t, m.Mem().Store(f, at, uint64(f)<<32+uint64(at)+1))
	}
}

// remember lets a core remember so many mappings.
func remember(t *testing.T, m *machine.Machine, number int, count int) {
	t.Helper()
	for i := range count {
		k := api.Key{Space: number + 1, Page: 50 - i}
		must(t, m.Tlb(number).Put(k, api.Pte{On: true, F: 10*number + i, R: 1 + i%3}))
	}
}

// same looks whether a machine is as asked.
func same(t *testing.T, m *machine.Machine, want *picture, what string) {
	t.Helper()
	got := look(t, m)
	if got == *want {
		return
	}
	switch {
	case got.words != want.words:
		t.Fatalf("%s: words are not as asked", what)
	case got.frame != want.frame:
		t.Fatalf("%s: frames are %v; want %v", what, got.frame, want.frame)
	case got.core != want.core:
		t.Fatalf("%s: cores are %v; want %v", what, got.core, want.core)
	}
	t.Fatalf("%s: %d frames, %d cores, at %d, floors %v, %d live, lines %v; want %d, %d, %d, %v, %d, %v", what,
		got.frames, got.cores, got.now, got.lowest, got.living, got.leads,
		want.frames, want.cores, want.now, want.lowest, want.living, want.leads)
}

// The calls that can be refused, in both, and a look at the whole machine then.

func retyped(t *testing.T, m *machine.Machine, want *picture, f int, to int, what string) {
	t.Helper()
	ahead, asked := *want, want.retype(f, to)
	if e := m.Retype(f, to); e != asked {
		t.Fatalf("%s: Retype(%d, %d): %d; want %d", what, f, to, e, asked)
	}
	if asked != api.OK && ahead != *want {
		t.Fatalf("%s: the model changed", what)
	}
	same(t, m, want, what)
}

func linked(t *testing.T, m *machine.Machine, want *picture, c api.Cap, what string) {
	t.Helper()
	asked := want.link(c)
	if e := m.Link(c); e != asked {
		t.Fatalf("%s: Link(%v): %d; want %d", what, c, e, asked)
	}
	same(t, m, want, what)
}

func unlinked(t *testing.T, m *machine.Machine, want *picture, c api.Cap, what string) {
	t.Helper()
	asked := want.unlink(c)
	if e := m.Unlink(c); e != asked {
		t.Fatalf("%s: Unlink(%v): %d; want %d", what, c, e, asked)
	}
	same(t, m, want, what)
}

func flushed(t *testing.T, m *machine.Machine, want *picture, number int, what string) {
	t.Helper()
	asked := want.flush(number)
	if got := flush(m, number); got != asked {
		t.Fatalf("%s: Flush(%d): %v; want %v", what, number, got, asked)
	}
	same(t, m, want, what)
}

func setCur(t *testing.T, m *machine.Machine, want *picture, number int, f int, what string) {
	t.Helper()
	asked := want.setCur(number, f)
	if e := m.SetCur(number, f); e != asked {
		t.Fatalf("%s: SetCur(%d, %d): %d; want %d", what, number, f, e, asked)
	}
	same(t, m, want, what)
}

// P25.1: Check.

func TestLimits(t *testing.T) {
	if api.MaxFrames != maxFrames || api.MaxCores != maxCores || api.MaxRoom != maxRoom || api.MaxRefs != maxRefs ||
		api.HeadWords+api.PageWords != words || api.MaxRegs != registers || api.MaxLines != lineCount || api.MaxLive != ids {
		t.Error("limits are not the document's")
	}
}

// right is what Check is held against.
func right(c api.Config) bool {
	return c.Frames >= 1 && c.Frames <= 64 && c.Cores >= 1 && c.Cores <= 4 && c.Parts >= 0 && c.Parts <= c.Cores && c.Room >= 0 && c.Room <= 8
}

// checked looks at Check and New of a machine.
func checked(t *testing.T, c api.Config) {
	t.Helper()
	asked := api.OK
	if !right(c) {
		asked = api.ErrArg
	}
	if e := machine.Check(c); e != asked {
		t.Fatalf("Check(%v): %d; want %d", c, e, asked)
	}
	m, e := machine.New(c)
	if e != asked || (m != nil) != (asked == api.OK) {
		t.Fatalf("New(%v): %v, %d; want %d", c, m, e, asked)
	}
}

// TestCheck goes over all mixes of numbers around the ends of their ranges.
func TestCheck(t *testing.T) {
	for _, frames := range []int{-1, 0, 1, 2, 31, 63, 64, 65} {
		for cores := -1; cores <= 6; cores++ {
			for parts := -2; parts <= 6; parts++ {
				for room := -2; room <= 10; room++ {
					checked(t, api.Config{Frames: frames, Cores: cores, Parts: parts, Room: room})
				}
			}
		}
	}
}

// TestCheckAlone goes over all numbers around its range for each number alone, the others
// being right.
func TestCheckAlone(t *testing.T) {
	for n := -70; n <= 300; n++ {
		for cores := 1; cores <= 4; cores++ {
			checked(t, api.Config{Frames: n, Cores: cores, Parts: cores, Room: 8})
			checked(t, api.Config{Frames: 64, Cores: cores, Parts: n, Room: 0})
			checked(t, api.Config{Frames: 1, Cores: cores, Parts: 0, Room: n})
		}
		checked(t, api.Config{Frames: 9, Cores: n, Parts: 0, Room: 3})
		checked(t, api.Config{Frames: 9, Cores: n, Parts: n, Room: 3})
	}
}

// TestCheckFar has numbers far behind the ranges, alone and several.
func TestCheckFar(t *testing.T) {
	base := api.Config{Frames: 9, Cores: 2, Parts: 1, Room: 3}
	for _, n := range append(far(), -1, 65) {
		for set := 1; set < 16; set++ {
			c := base
			for i, part := range []*int{&c.Frames, &c.Cores, &c.Parts, &c.Room} {
				if set>>i&1 == 1 {
					*part = n
				}
			}
			checked(t, c)
		}
	}
}

// P25.1: New.

// TestNew makes all machines that there are, and looks at all of each.
func TestNew(t *testing.T) {
	for frames := 1; frames <= 64; frames++ {
		for cores := 1; cores <= 4; cores++ {
			c := api.Config{Frames: frames, Cores: cores, Parts: frames % (cores + 1), Room: frames % 9}
			want := fresh(c)
			same(t, made(t, c), &want, "New")
		}
	}
}

// TestNewOfParts has each number of parts, and of room: the machine is the same with any of
// the first.
func TestNewOfParts(t *testing.T) {
	for cores := 1; cores <= 4; cores++ {
		for parts := range cores + 1 {
			for room := range maxRoom + 1 {
				c := api.Config{Frames: 3, Cores: cores, Parts: parts, Room: room}
				want := fresh(c)
				same(t, made(t, c), &want, "New")
			}
		}
	}
}

// TestNewParts looks whether each part was made by a call: it takes what such a one takes.
func TestNewParts(t *testing.T) {
	for _, c := range usual() {
		m := made(t, c)
		if m.Mem().Len() != c.Frames || m.Clock().Cores() != c.Cores {
			t.Errorf("%v: %d frames, %d cores", c, m.Mem().Len(), m.Clock().Cores())
		}
		last := c.Frames - 1
		if m.Mem().Store(last, 35, 7) != api.OK || m.Mem().Store(last+1, 0, 7) != api.ErrArg {
			t.Errorf("%v: Store", c)
		}
		if m.Typ().Retype(last, 1, true) != api.OK || m.Typ().Retype(last+1, 1, true) != api.ErrArg {
			t.Errorf("%v: typ's Retype", c)
		}
		if id, epoch, e := m.Live().Take(0); id != 0 || epoch != 0 || e != api.OK {
			t.Errorf("%v: Take: %d, %d, %d", c, id, epoch, e)
		}
		if m.Lines().Attach(7, 63) != api.OK || m.Lines().Attach(8, 0) != api.ErrArg {
			t.Errorf("%v: Attach", c)
		}
		if m.Clock().Step(c.Cores-1) != api.OK || m.Clock().Step(c.Cores) != api.ErrArg {
			t.Errorf("%v: Step", c)
		}
		for number := range c.Cores {
			if !m.Tlb(number).Made() || m.Regs(number).Set(7, 9) != api.OK {
				t.Errorf("%v: core %d", c, number)
			}
		}
	}
}

// TestRoom lets each core remember more and more, of each room: it holds that, and no more.
func TestRoom(t *testing.T) {
	for room := range maxRoom + 1 {
		for cores := 1; cores <= 4; cores++ {
			m := made(t, api.Config{Frames: 1, Cores: cores, Room: room})
			for number := range cores {
				for count := range room + 3 {
					if got := m.Tlb(number).Len(); got != min(count, room) {
						t.Fatalf("room %d, core %d: %d of %d", room, number, got, count)
					}
					must(t, m.Tlb(number).Put(api.Key{Page: count}, api.Pte{}))
				}
			}
		}
	}
}

// TestMachinesShareNothing does everything with one machine: another one stays new.
func TestMachinesShareNothing(t *testing.T) {
	for _, c := range usual() {
		other := made(t, c)
		one := busy(t, c)
		later := made(t, c)
		for number := range c.Cores {
			flush(one, number)
		}
		want := fresh(c)
		same(t, other, &want, "one made ahead of it")
		same(t, later, &want, "one made behind it")
		if one.Mem() == other.Mem() || one.Clock() == other.Clock() || one.Typ() == other.Typ() || one.Live() == other.Live() || one.Lines() == other.Lines() {
			t.Errorf("%v: parts are shared", c)
		}
	}
}

// P25.1: the parts.

// parts are the parts of a machine: the same ones, whatever is called.
type parts struct {
	mem   *mem.Mem
	clock *clock.Clock
	typ   *typ.Table
	live  *live.Table
	lines *hw.Lines
	tlb   [maxCores]*tlb.Tlb
	regs  [maxCores]*regs.File
}

func partsOf(m *machine.Machine) parts {
	p := parts{mem: m.Mem(), clock: m.Clock(), typ: m.Typ(), live: m.Live(), lines: m.Lines()}
	for number := range p.tlb {
		p.tlb[number], p.regs[number] = m.Tlb(number), m.Regs(number)
	}
	return p
}

// whole looks whether all parts are there, and the cores' each by itself.
func (p parts) whole(t *testing.T, cores int) {
	t.Helper()
	if p.mem == nil || p.clock == nil || p.typ == nil || p.live == nil || p.lines == nil {
		t.Fatal("a part is nil")
	}
	for i := range maxCores {
		if (p.tlb[i] != nil) != (i < cores) || (p.regs[i] != nil) != (i < cores) {
			t.Fatalf("%d cores: the parts of %d are %v, %v", cores, i, p.tlb[i], p.regs[i])
		}
		for j := range min(i, cores) {
			if p.tlb[i] == p.tlb[j] || p.regs[i] == p.regs[j] {
				t.Fatalf("the cores %d and %d share a part", i, j)
			}
		}
	}
}

func TestPartsStay(t *testing.T) {
	for _, c := range usual() {
		m := made(t, c)
		p := partsOf(m)
		p.whole(t, c.Cores)
		for range 3 {
			if partsOf(m) != p {
				t.Fatalf("%v: other parts", c)
			}
		}
		for number := range c.Cores {
			must(t, m.SetCur(number, 3))
			must(t, flush(m, number).e)
			must(t, m.Clock().Enter(number))
		}
		must(t, m.Retype(0, api.FKernel))
		must(t, m.Link(api.Cap{K: api.CTbl}))
		must(t, m.Unlink(api.Cap{K: api.CTbl}))
		if partsOf(m) != p {
			t.Fatalf("%v: other parts behind calls", c)
		}
	}
}

// TestPartsAreKept changes each part: what the part tells when it is asked for again is
// that, and no other part is changed.
func TestPartsAreKept(t *testing.T) {
	for _, c := range usual() {
		m := made(t, c)
		want := fresh(c)
		last := c.Frames - 1
		must(t, m.Mem().Store(last, 35, 7))
		want.words[last][35] = 7
		same(t, m, &want, "Store")
		must(t, m.Clock().Step(0))
		want.now, want.core[0].cycles = 1, 1
		same(t, m, &want, "Step")
		must(t, m.Clock().Enter(0))
		want.core[0].entered = 1
		want.lower()
		same(t, m, &want, "Enter")
		must(t, m.Typ().Retype(last, api.FUser, true))
		want.frame[last].is = api.FUser
		same(t, m, &want, "typ's Retype")
		_, _, e := m.Live().Take(0)
		must(t, e)
		want.living, want.lives[0][0] = 1, true
		same(t, m, &want, "Take")
		must(t, m.Lines().Attach(6, 5))
		want.leads[6] = 5
		same(t, m, &want, "Attach")
		for number := range c.Cores {
			one := &want.core[number]
			must(t, m.Regs(number).Set(2, uint64(number+1)))
			one.regs[2] = uint64(number + 1)
			same(t, m, &want, "Set")
			k, p := api.Key{Space: number, Page: 3}, api.Pte{On: true, F: 1, R: 1}
			must(t, m.Tlb(number).Put(k, p))
			if c.Room > 0 {
				one.length, one.keys[0], one.ptes[0] = 1, k, p
			}
			same(t, m, &want, "Put")
		}
	}
}

func TestNoCores(t *testing.T) {
	for _, c := range usual() {
		m := busy(t, c)
		for _, number := range noCores(c.Cores) {
			if m.Tlb(number) != nil || m.Regs(number) != nil || m.Cur(number) != nobody {
				t.Errorf("%d cores: core %d: %v, %v, %d", c.Cores, number, m.Tlb(number), m.Regs(number), m.Cur(number))
			}
		}
	}
}

// P25.1: Now, Cores, Floors.

func TestNow(t *testing.T) {
	for _, c := range usual() {
		m := made(t, c)
		for step := range 20 {
			if m.Now() != step || m.Now() != m.Clock().Now() || m.Cores() != c.Cores {
				t.Fatalf("%v: %d, %d cores; want %d", c, m.Now(), m.Cores(), step)
			}
			must(t, m.Clock().Step(step%c.Cores))
		}
	}
}

// TestFloors lets cores enter and flush in many orders: the floors are the least times.
func TestFloors(t *testing.T) {
	x := row(3)
	for _, c := range usual() {
		m := made(t, c)
		entered, flushed := make([]int, c.Cores), make([]int, c.Cores)
		for number := range c.Cores {
			entered[number], flushed[number] = never, never
		}
		for range 300 {
			a, b := m.Floors()
			low, lower := entered[0], flushed[0]
			for number := range c.Cores {
				low, lower = min(low, entered[number]), min(lower, flushed[number])
			}
			if a != low || b != lower {
				t.Fatalf("%v: Floors: %d, %d; want %d, %d", c, a, b, low, lower)
			}
			number := x.pick(c.Cores)
			must(t, m.Clock().Step(number))
			switch x.pick(3) {
			case 0:
				must(t, m.Clock().Enter(number))
				entered[number] = m.Now()
			case 1:
				must(t, m.Clock().Flush(number))
				flushed[number] = m.Now()
			case 2:
				must(t, flush(m, number).e)
				flushed[number] = m.Now()
			}
		}
	}
}

// P25.2: Retype.

func TestExample(t *testing.T) {
	m := made(t, api.Config{Frames: 1, Cores: 1})
	if e := m.Retype(0, api.FUser); e != api.OK {
		t.Errorf("Retype: %d", e)
	}
	if e := m.Retype(0, api.FUser); e != api.ErrType {
		t.Errorf("Retype again: %d", e)
	}
}

// someTypes are what a frame can be retyped to, and what it can't.
func someTypes() []int {
	return append(far(), -1, 0, 1, 2, 3, 4, 5, 6, 7)
}

// TestRetype retypes frames of each type to each other: of machines of all sizes, new ones
// and such as have something in all parts.
func TestRetype(t *testing.T) {
	for _, c := range usual() {
		for f := range c.Frames {
			if f > 2 && f < c.Frames-3 {
				continue
			}
			for _, to := range someTypes() {
				m := made(t, c)
				want := look(t, m)
				retyped(t, m, &want, f, to, "Retype of a new one")
				for _, again := range someTypes() {
					retyped(t, m, &want, f, again, "Retype again")
				}
				m = busy(t, c)
				want = look(t, m)
				retyped(t, m, &want, f, to, "Retype of a busy one")
			}
		}
	}
}

// TestRetypeAnswers are the same by hand: each type to each other.
func TestRetypeAnswers(t *testing.T) {
	for is := api.FUntyped; is <= api.FKernel; is++ {
		for to := api.FUntyped; to <= api.FKernel; to++ {
			m := made(t, api.Config{Frames: 2, Cores: 1})
			if is != api.FUntyped {
				must(t, m.Typ().Retype(1, is, true))
			}
			scrawl(t, m, 0)
			scrawl(t, m, 1)
			asked, became := api.OK, to
			if to == api.FUntyped {
				asked, became = api.ErrArg, is
			} else if is != api.FUntyped {
				asked, became = api.ErrType, is
			}
			if e := m.Retype(1, to); e != asked || m.Typ().Type(1) != became || m.Typ().Type(0) != api.FUntyped {
				t.Errorf("%d to %d: %d, it is %d; want %d, %d", is, to, e, m.Typ().Type(1), asked, became)
			}
			for at := range words {
				w, _ := m.Mem().Load(1, at)
				other, _ := m.Mem().Load(0, at)
				if (w == 0) != (asked == api.OK) || other != uint64(at)+1 {
					t.Errorf("%d to %d: word %d is %d, of the other frame %d", is, to, at, w, other)
				}
			}
		}
	}
}

// TestRetypeRefusesFrames has no such frame, with types that there are and others.
func TestRetypeRefusesFrames(t *testing.T) {
	for _, c := range usual() {
		m := busy(t, c)
		want := look(t, m)
		for _, f := range noFrames(c.Frames) {
			for _, to := range someTypes() {
				if e := m.Retype(f, to); e != api.ErrArg {
					t.Fatalf("%v: Retype(%d, %d): %d; want ErrArg", c, f, to, e)
				}
			}
		}
		same(t, m, &want, "Retype of no frame")
	}
}

// when is when a core did something last: not at all, ahead of the time when a frame was
// freed, at it, behind it.
const (
	notAtAll = iota
	ahead
	at
	behind
	whens
)

// freed is a machine whose frame 1 was that, and was freed at 2; when each core entered and
// flushed the whens tell, two of each core. The time is 3 then. Each word of the frame is
// something.
func freed(t *testing.T, cores int, was int, all []int) *machine.Machine {
	t.Helper()
	m := made(t, api.Config{Frames: 3, Cores: cores, Room: 1})
	for time := ahead; time <= behind; time++ {
		must(t, m.Clock().Step(time%cores))
		for number := range cores {
			if all[2*number] == time {
				must(t, m.Clock().Enter(number))
			}
			if all[2*number+1] == time {
				must(t, m.Clock().Flush(number))
			}
		}
		if time == at && was != api.FUntyped {
			untype(t, m, 1, was)
		}
	}
	scrawl(t, m, 1)
	scrawl(t, m, 2)
	return m
}

// untype makes a frame, that is untyped, that, and untyped again, now.
func untype(t *testing.T, m *machine.Machine, f int, was int) {
	t.Helper()
	must(t, m.Typ().Retype(f, min(was, api.FKernel), true))
	must(t, m.Typ().Untype(f, m.Now(), was == both))
	if got := m.Typ().Was(f); got != was {
		t.Fatalf("frame %d was %d; want %d", f, got, was)
	}
}

// each calls do with all rows of so many numbers of those.
func each(numbers []int, count int, do func(row []int)) {
	all := make([]int, count)
	var fill func(i int)
	fill = func(i int) {
		if i == count {
			do(all)
			return
		}
		for _, n := range numbers {
			all[i] = n
			fill(i + 1)
		}
	}
	fill(0)
}

// asked is what Retype of the frame of a machine of freed is asked to answer: by the whens
// alone.
func asked(was int, all []int) api.Errno {
	for i, when := range all {
		enters := i%2 == 0
		if when != behind && (enters && (was == 2 || was == both) || !enters && (was == 1 || was == both)) {
			return api.ErrBusy
		}
	}
	return api.OK
}

// TestRetypeOfFreed has, for each of what a frame can have been, all whens of one core and
// of two, and of more cores those at the time and behind it.
func TestRetypeOfFreed(t *testing.T) {
	for cores := 1; cores <= maxCores; cores++ {
		numbers := []int{notAtAll, ahead, at, behind}
		if cores > 2 {
			numbers = []int{at, behind}
		}
		each(numbers, 2*cores, func(all []int) {
			for was := api.FUntyped; was <= both; was++ {
				for to := api.FUser; to <= api.FKernel; to++ {
					m := freed(t, cores, was, all)
					want := look(t, m)
					if e := want.retype(1, to); e != asked(was, all) {
						t.Fatalf("the model: %d of %d", e, asked(was, all))
					}
					want = look(t, m)
					retyped(t, m, &want, 1, to, "Retype of a freed one")
				}
			}
		})
	}
}

// TestRetypeOneByOne lets one core after the other do what it must: the last one makes it
// quiet, and what else they do does not.
func TestRetypeOneByOne(t *testing.T) {
	for cores := 1; cores <= maxCores; cores++ {
		for was := api.FUser; was <= both; was++ {
			for _, flushes := range []bool{false, true} {
				m := freed(t, cores, was, make([]int, 2*cores))
				want := look(t, m)
				do := func(enter bool, number int) {
					if enter {
						must(t, m.Clock().Enter(number))
					} else {
						must(t, flush(m, number).e)
					}
					want = look(t, m)
				}
				for round := range 2 {
					enter := (round == 0) != flushes
					for number := range cores {
						retyped(t, m, &want, 1, api.FUser, "Retype ahead of it")
						if want.frame[1].is != api.FUntyped {
							break
						}
						do(enter, number)
					}
				}
				retyped(t, m, &want, 1, api.FUser, "Retype behind it")
				if want.frame[1].is != api.FUser {
					t.Fatalf("%d cores: what was %d is never retyped", cores, was)
				}
			}
		}
	}
}

// TestRetypeFreedLater frees a frame twice: the later time counts, and what it was last.
func TestRetypeFreedLater(t *testing.T) {
	for was := api.FUser; was <= both; was++ {
		for then := api.FUser; then <= both; then++ {
			m := freed(t, 1, was, []int{behind, behind})
			want := look(t, m)
			must(t, m.Retype(1, min(then, api.FKernel)))
			must(t, m.Typ().Ref(1))
			must(t, m.Clock().Step(0))
			must(t, m.Typ().Unref(1, m.Now()))
			must(t, m.Typ().Untype(1, 0, then == both))
			for range 3 {
				scrawl(t, m, 1)
				want = look(t, m)
				retyped(t, m, &want, 1, api.FKernel, "Retype of one that was freed twice")
				must(t, m.Clock().Enter(0))
				want = look(t, m)
				retyped(t, m, &want, 1, api.FKernel, "Retype of one that was freed twice")
				must(t, flush(m, 0).e)
				want = look(t, m)
				retyped(t, m, &want, 1, api.FKernel, "Retype of one that was freed twice")
				must(t, m.Clock().Step(0))
			}
			if want.frame[1].is != api.FKernel {
				t.Fatalf("what was %d, then %d, is never retyped", was, then)
			}
		}
	}
}

// TestRetypeFreedBehind has frames that were freed at times that are not come yet, and at
// such as are ahead of all.
func TestRetypeFreedBehind(t *testing.T) {
	for was := api.FUser; was <= both; was++ {
		for _, time := range []int{math.MinInt, -7, -1, 0, 1, 2, 3, 4, 5, 100, api.MaxTime, math.MaxInt} {
			m := made(t, api.Config{Frames: 2, Cores: 2, Room: 1})
			must(t, m.Typ().Retype(1, min(was, api.FKernel), true))
			must(t, m.Typ().Untype(1, time, was == both))
			scrawl(t, m, 1)
			want := look(t, m)
			for range 5 {
				for number := range 2 {
					retyped(t, m, &want, 1, api.FUser, "Retype, freed at any time")
					must(t, m.Clock().Enter(number))
					must(t, flush(m, number).e)
					must(t, m.Clock().Step(number))
					want = look(t, m)
				}
			}
		}
	}
}

// TestRetypeErrors has two errors at once: the one that typ's chapter names first is told.
func TestRetypeErrors(t *testing.T) {
	for was := api.FUntyped; was <= both; was++ {
		m := freed(t, 2, was, []int{at, at, behind, behind})
		if was != api.FUntyped {
			if e := m.Retype(1, api.FUser); e != api.ErrBusy {
				t.Fatalf("what was %d: %d; want ErrBusy", was, e)
			}
		}
		for _, to := range append(far(), -1, 0, 3, 4) {
			if e := m.Retype(1, to); e != api.ErrArg {
				t.Errorf("what was %d, to %d: %d; want ErrArg", was, to, e)
			}
			if e := m.Retype(9, to); e != api.ErrArg {
				t.Errorf("no frame to %d: %d; want ErrArg", to, e)
			}
		}
		// Typed again by typ alone, it is still not quiet for what it was.
		must(t, m.Typ().Retype(1, api.FKernel, true))
		want := look(t, m)
		for _, to := range someTypes() {
			retyped(t, m, &want, 1, to, "Retype of a typed one that is not quiet")
		}
	}
}

// P25.4.

// TestRetypeClears looks at every word, of each frame, of all sizes of memory: they are 0
// behind Retype, and no other frame's is.
func TestRetypeClears(t *testing.T) {
	for _, c := range usual() {
		for f := range c.Frames {
			for to := api.FUser; to <= api.FKernel; to++ {
				m := made(t, c)
				for other := range c.Frames {
					scrawl(t, m, other)
				}
				must(t, m.Retype(f, to))
				for other := range c.Frames {
					for at := range words {
						w, e := m.Mem().Load(other, at)
						if e != api.OK || (w == 0) != (other == f) {
							t.Fatalf("%v: Retype(%d, %d): word %d of %d is %d", c, f, to, at, other, w)
						}
					}
				}
			}
		}
	}
}

// TestRefusedKeepsWords has one word alone that is something: it stays, behind each error.
func TestRefusedKeepsWords(t *testing.T) {
	for at := range words {
		for _, w := range []uint64{1, math.MaxUint64, 1 << 63} {
			m := made(t, api.Config{Frames: 1, Cores: 1})
			must(t, m.Mem().Store(0, at, w))
			if m.Retype(0, 0) != api.ErrArg || m.Retype(0, 3) != api.ErrArg || m.Retype(1, 1) != api.ErrArg || m.Retype(-1, 1) != api.ErrArg {
				t.Fatal("Retype: not ErrArg")
			}
			kept(t, m, at, w, "ErrArg")
			must(t, m.Retype(0, 1))
			kept(t, m, at, 0, "OK")
			must(t, m.Mem().Store(0, at, w))
			if m.Retype(0, 2) != api.ErrType || m.Retype(0, 1) != api.ErrType {
				t.Fatal("Retype: not ErrType")
			}
			kept(t, m, at, w, "ErrType")
			must(t, m.Typ().Untype(0, 0, false))
			if m.Retype(0, 2) != api.ErrBusy || m.Retype(0, 1) != api.ErrBusy {
				t.Fatal("Retype: not ErrBusy")
			}
			kept(t, m, at, w, "ErrBusy")
		}
	}
}

func kept(t *testing.T, m *machine.Machine, at int, w uint64, what string) {
	t.Helper()
	if got, e := m.Mem().Load(0, at); got != w || e != api.OK {
		t.Fatalf("behind %s: word %d: %d, %d; want %d", what, at, got, e, w)
	}
}

// P25.2: Link, Unlink.

// kinds are all kinds of capabilities, and such as are none.
func kinds() []int {
	all := append(far(), -1, 12, 13, 15, 16)
	for k := api.CNone; k <= api.CHw; k++ {
		all = append(all, k)
	}
	return all
}

// needs tells of each kind whether it needs a frame, by its name.
func needs(k int) bool {
	switch k {
	case api.CTbl, api.CPgt, api.CComp, api.CThd, api.CInv, api.CTcap, api.CRcv, api.CSnd:
		return true
	}
	return false
}

// TestLinkOfKinds has each kind, on frames of each type, and on such as are not there: those
// that need a frame are told what it is, the others nothing.
func TestLinkOfKinds(t *testing.T) {
	for _, c := range usual() {
		m := busy(t, c)
		want := look(t, m)
		for _, k := range kinds() {
			for _, f := range append(noFrames(c.Frames), 0, 1, 2, c.Frames-1, c.Frames/2) {
				one := api.Cap{K: k, R: api.RAll, T: f}
				if needs(k) != want.needed(one) {
					t.Fatalf("the model: kind %d", k)
				}
				linked(t, m, &want, one, "Link")
				unlinked(t, m, &want, one, "Unlink")
			}
		}
	}
}

// TestLinkAnswers are the same by hand, on a frame of each type.
func TestLinkAnswers(t *testing.T) {
	for k := api.CNone; k <= api.CHw; k++ {
		for is := api.FUntyped; is <= api.FKernel; is++ {
			m := made(t, api.Config{Frames: 3, Cores: 1})
			if is != api.FUntyped {
				must(t, m.Retype(1, is))
			}
			c := api.Cap{K: k, T: 1}
			asked, gone, count := api.OK, api.OK, 0
			if needs(k) && is != api.FKernel {
				asked, gone = api.ErrType, api.ErrType
			} else if needs(k) {
				gone, count = api.ErrNone, 1
			}
			if e := m.Unlink(c); e != gone {
				t.Errorf("Unlink of %d of a %d: %d; want %d", k, is, e, gone)
			}
			if e := m.Link(c); e != asked || m.Typ().Count(1) != count {
				t.Errorf("Link of %d of a %d: %d, count %d; want %d, %d", k, is, e, m.Typ().Count(1), asked, count)
			}
			if e := m.Unlink(c); e != asked || m.Typ().Count(1) != 0 {
				t.Errorf("Unlink of %d of a %d: %d, count %d; want %d, 0", k, is, e, m.Typ().Count(1), asked)
			}
			if m.Typ().Count(0) != 0 || m.Typ().Count(2) != 0 {
				t.Errorf("%d of a %d: other frames are needed", k, is)
			}
		}
	}
}

// TestLinkOfOthers has capabilities whose other numbers are any, right or not: only the kind
// and the frame are looked at.
func TestLinkOfOthers(t *testing.T) {
	m := busy(t, api.Config{Frames: 5, Cores: 2, Parts: 1, Room: 3})
	want := look(t, m)
	for k := api.CNone; k <= api.CHw; k++ {
		for _, n := range append(far(), -1, 1, 31, 32, 63, 64, 65535, 65536, api.MaxTime, api.MaxTime+1) {
			for f := range 5 {
				for _, c := range []api.Cap{{K: k, R: n, T: f}, {K: k, T: f, L: n}, {K: k, T: f, E: n}, {K: k, T: f, A: n}, {K: k, R: n, T: f, L: n, E: n, A: n}} {
					linked(t, m, &want, c, "Link")
					unlinked(t, m, &want, c, "Unlink")
				}
			}
		}
	}
}

// TestLinkToTheEnd links a frame as often as may be, and behind that, by each kind; then
// unlinks it down to none, and behind that.
func TestLinkToTheEnd(t *testing.T) {
	for k := api.CTbl; k <= api.CSnd; k++ {
		m := made(t, api.Config{Frames: 2, Cores: 2, Room: 1})
		must(t, m.Retype(1, api.FKernel))
		c := api.Cap{K: k, T: 1}
		for count := range maxRefs {
			if m.Typ().Count(1) != count {
				t.Fatalf("%d behind %d", m.Typ().Count(1), count)
			}
			must(t, m.Link(c))
		}
		want := look(t, m)
		for range 3 {
			linked(t, m, &want, c, "Link of a full one")
		}
		if e := m.Link(c); e != api.ErrFull {
			t.Fatalf("Link of a full one: %d", e)
		}
		unlinked(t, m, &want, c, "Unlink of a full one")
		linked(t, m, &want, c, "Link, one less")
		must(t, m.Clock().Step(1))
		must(t, m.Clock().Step(0))
		for count := maxRefs; count > 0; count-- {
			if m.Typ().Count(1) != count || m.Typ().Freed(1) != never {
				t.Fatalf("%d behind %d, freed at %d", m.Typ().Count(1), count, m.Typ().Freed(1))
			}
			must(t, m.Unlink(c))
		}
		want = look(t, m)
		if want.frame[1] != (frame{api.FKernel, 0, 0, 2}) {
			t.Fatalf("Unlink down to none: %v", want.frame[1])
		}
		must(t, m.Clock().Step(0))
		want = look(t, m)
		for range 3 {
			unlinked(t, m, &want, c, "Unlink of one that none needs")
		}
		if e := m.Unlink(c); e != api.ErrNone {
			t.Fatalf("Unlink of one that none needs: %d", e)
		}
	}
}

// TestCountsOfUsers has a user's frame that is needed, as often as may be: it is told what
// it is, not how often, and stays as it is.
func TestCountsOfUsers(t *testing.T) {
	for _, count := range []int{0, 1, maxRefs - 1, maxRefs} {
		m := made(t, api.Config{Frames: 1, Cores: 1})
		must(t, m.Retype(0, api.FUser))
		for range count {
			must(t, m.Typ().Ref(0))
		}
		for k := api.CTbl; k <= api.CSnd; k++ {
			if e := m.Link(api.Cap{K: k}); e != api.ErrType {
				t.Errorf("Link of %d: %d", k, e)
			}
			if e := m.Unlink(api.Cap{K: k}); e != api.ErrType {
				t.Errorf("Unlink of %d: %d", k, e)
			}
		}
		if m.Typ().Count(0) != count || m.Typ().Freed(0) != never {
			t.Errorf("%d, freed at %d", m.Typ().Count(0), m.Typ().Freed(0))
		}
	}
}

// TestUnlinkFreesNow unlinks at many times: the frame is freed at the last one of them, or
// at a later one that it was freed at by other means.
func TestUnlinkFreesNow(t *testing.T) {
	m := made(t, api.Config{Frames: 2, Cores: 3})
	must(t, m.Retype(0, api.FKernel))
	c := api.Cap{K: api.CThd}
	for time := range 50 {
		want := look(t, m)
		linked(t, m, &want, c, "Link")
		linked(t, m, &want, c, "Link")
		unlinked(t, m, &want, c, "Unlink")
		if want.frame[0].freed != time-1 {
			t.Fatalf("at %d, one is left: freed at %d", time, want.frame[0].freed)
		}
		unlinked(t, m, &want, c, "Unlink")
		if want.frame[0].freed != time {
			t.Fatalf("at %d: freed at %d", time, want.frame[0].freed)
		}
		must(t, m.Clock().Step(time%3))
	}
	must(t, m.Link(c))
	must(t, m.Typ().Unref(0, 77))
	must(t, m.Link(c))
	must(t, m.Unlink(c))
	if got := m.Typ().Freed(0); got != 77 {
		t.Errorf("freed at %d; want 77", got)
	}
}

// P25.2: Flush.

// TestFlush flushes each core, with nothing remembered, some, and as much as there is room
// for: it forgets that, the others keep theirs.
func TestFlush(t *testing.T) {
	for _, c := range usual() {
		for number := range c.Cores {
			for count := range c.Room + 2 {
				m := made(t, c)
				for other := range c.Cores {
					remember(t, m, other, count)
					must(t, m.Clock().Step(other))
				}
				want := look(t, m)
				flushed(t, m, &want, number, "Flush")
				if got := flush(m, number); got != (forgot{0, api.OK}) {
					t.Fatalf("Flush again: %v", got)
				}
				remember(t, m, number, count)
				if got := flush(m, number); got != (forgot{min(count, c.Room), api.OK}) {
					t.Fatalf("Flush of %d in room %d: %v", count, c.Room, got)
				}
				for other := range c.Cores {
					if other != number && m.Tlb(other).Len() != min(count, c.Room) {
						t.Fatalf("Flush(%d): core %d remembers %d", number, other, m.Tlb(other).Len())
					}
				}
			}
		}
	}
}

// TestFlushesOfOne has cores that remember each a different number.
func TestFlushesOfOne(t *testing.T) {
	for cores := 1; cores <= maxCores; cores++ {
		m := busy(t, api.Config{Frames: 6, Cores: cores, Parts: 1, Room: 8})
		for number := range cores {
			must(t, flush(m, number).e)
			remember(t, m, number, 2*number+1)
		}
		for number := range cores {
			must(t, m.Clock().Step(0))
			want := look(t, m)
			flushed(t, m, &want, number, "Flush of one")
			if m.Clock().Flushed(number) != m.Now() || m.Tlb(number).Len() != 0 {
				t.Fatalf("Flush(%d): at %d, %d remembered", number, m.Clock().Flushed(number), m.Tlb(number).Len())
			}
			for other := number + 1; other < cores; other++ {
				if m.Tlb(other).Len() != 2*other+1 || m.Clock().Flushed(other) == m.Now() {
					t.Fatalf("Flush(%d): core %d remembers %d", number, other, m.Tlb(other).Len())
				}
			}
		}
	}
}

func TestFlushRefuses(t *testing.T) {
	for _, c := range usual() {
		m := busy(t, c)
		want := look(t, m)
		for _, number := range noCores(c.Cores) {
			if got := flush(m, number); got != (forgot{0, api.ErrArg}) {
				t.Errorf("%v: Flush(%d): %v", c, number, got)
			}
		}
		same(t, m, &want, "Flush of no core")
	}
}

// P25.2: Cur, SetCur.

// TestSetCur lets each thread run on each core, and none, and one behind the other.
func TestSetCur(t *testing.T) {
	for _, c := range usual() {
		m := busy(t, c)
		want := look(t, m)
		for number := range c.Cores {
			for f := nobody; f < maxFrames; f++ {
				setCur(t, m, &want, number, f, "SetCur")
				if m.Cur(number) != f {
					t.Fatalf("SetCur(%d, %d), Cur: %d", number, f, m.Cur(number))
				}
			}
			setCur(t, m, &want, number, nobody, "SetCur of none")
			setCur(t, m, &want, number, nobody, "SetCur of none again")
			setCur(t, m, &want, number, 5, "SetCur of the same thread on all")
		}
	}
}

func TestSetCurRefuses(t *testing.T) {
	for _, c := range usual() {
		m := busy(t, c)
		want := look(t, m)
		for _, number := range noCores(c.Cores) {
			for _, f := range append(noThreads(), -1, 0, 1, 63) {
				if e := m.SetCur(number, f); e != api.ErrArg {
					t.Errorf("%v: SetCur(%d, %d): %d", c, number, f, e)
				}
			}
		}
		for number := range c.Cores {
			for _, f := range noThreads() {
				if e := m.SetCur(number, f); e != api.ErrArg {
					t.Errorf("%v: SetCur(%d, %d): %d", c, number, f, e)
				}
			}
		}
		same(t, m, &want, "SetCur that is refused")
	}
}

// P25.3.

// TestUnmade makes every call on a machine that is none, with right arguments and wrong
// ones, twice: a refused call makes no machine of it.
func TestUnmade(t *testing.T) {
	var zero machine.Machine
	for _, m := range []*machine.Machine{nil, new(machine.Machine), {}, &zero} {
		for range 2 {
			unmadeParts(t, m)
			for _, n := range append(far(), -1, 0, 1, 2, 3, 4, 5, 63, 64, 65) {
				unmadeCalls(t, m, n)
			}
		}
	}
	if zero.Cores() != 0 || zero.Cur(0) != nobody {
		t.Error("a machine that no call made was made")
	}
}

func unmadeParts(t *testing.T, m *machine.Machine) {
	t.Helper()
	if m.Mem() != nil || m.Clock() != nil || m.Typ() != nil || m.Live() != nil || m.Lines() != nil {
		t.Error("a part that is not nil")
	}
	if m.Now() != 0 || m.Cores() != 0 {
		t.Errorf("Now: %d, Cores: %d", m.Now(), m.Cores())
	}
	if a, b := m.Floors(); a != -1 || b != -1 {
		t.Errorf("Floors: %d, %d", a, b)
	}
}

func unmadeCalls(t *testing.T, m *machine.Machine, n int) {
	t.Helper()
	if m.Tlb(n) != nil || m.Regs(n) != nil || m.Cur(n) != -1 {
		t.Errorf("core %d: %v, %v, %d", n, m.Tlb(n), m.Regs(n), m.Cur(n))
	}
	if got := flush(m, n); got != (forgot{0, api.ErrZero}) {
		t.Errorf("Flush(%d): %v", n, got)
	}
	for _, other := range append(far(), -1, 0, 1, 2, 3, 12, 63, 64) {
		if e := m.Retype(n, other); e != api.ErrZero {
			t.Errorf("Retype(%d, %d): %d", n, other, e)
		}
		if e := m.SetCur(n, other); e != api.ErrZero {
			t.Errorf("SetCur(%d, %d): %d", n, other, e)
		}
		for _, c := range []api.Cap{{K: n, T: other}, {K: other, T: n}} {
			if e := m.Link(c); e != api.ErrZero {
				t.Errorf("Link(%v): %d", c, e)
			}
			if e := m.Unlink(c); e != api.ErrZero {
				t.Errorf("Unlink(%v): %d", c, e)
			}
		}
	}
}

// TestUnmadeOfKinds has each kind of capability: also those that need no frame are refused.
func TestUnmadeOfKinds(t *testing.T) {
	for _, m := range []*machine.Machine{nil, {}} {
		for _, k := range kinds() {
			if e := m.Link(api.Cap{K: k}); e != api.ErrZero {
				t.Errorf("Link of %d: %d", k, e)
			}
			if e := m.Unlink(api.Cap{K: k}); e != api.ErrZero {
				t.Errorf("Unlink of %d: %d", k, e)
			}
		}
	}
}

// TestTakenAway has parts that were made unmade by others: nothing panics, and what the
// parts answer then is answered.
func TestTakenAway(t *testing.T) {
	m := busy(t, api.Config{Frames: 3, Cores: 2, Room: 3})
	*m.Tlb(0) = tlb.Tlb{}
	*m.Regs(0) = regs.File{}
	if got := flush(m, 0); got != (forgot{0, api.OK}) {
		t.Errorf("Flush: %v", got)
	}
	*m.Clock() = clock.Clock{}
	if got := flush(m, 1); got != (forgot{0, api.ErrZero}) || m.Now() != 0 || m.Tlb(1).Len() != 3 {
		t.Errorf("Flush: %v", got)
	}
	if e := m.Link(api.Cap{K: api.CTbl, T: 2}); e != api.OK {
		t.Errorf("Link: %d", e)
	}
	*m.Typ() = typ.Table{}
	if e := m.Retype(0, api.FUser); e != api.ErrZero {
		t.Errorf("Retype: %d", e)
	}
	if e := m.Link(api.Cap{K: api.CTbl, T: 2}); e != api.ErrType {
		t.Errorf("Link: %d", e)
	}
	*m.Mem() = mem.Mem{}
	*m.Live() = live.Table{}
	*m.Lines() = hw.Lines{}
	if m.Cores() != 2 || m.Cur(1) != 10 || m.SetCur(1, 11) != api.OK || m.Cur(1) != 11 {
		t.Error("Cores, Cur, SetCur")
	}
}

// All calls together.

// TestTellingChangesNothing asks for all that there is, many times.
func TestTellingChangesNothing(t *testing.T) {
	for _, c := range usual() {
		m := busy(t, c)
		want := look(t, m)
		for range 3 {
			same(t, m, &want, "told again")
			machine.Check(c)
			machine.Check(api.Config{})
		}
	}
}

// stir does something with a part of both machines, by the part's own calls.
func stir(x *row, c api.Config, all ...*machine.Machine) {
	what, number, f, n := x.pick(12), x.pick(c.Cores), x.pick(c.Frames), x.pick(1000)
	for _, m := range all {
		switch what {
		case 0, 1, 2:
			m.Clock().Step(number)
		case 3, 4:
			m.Clock().Enter(number)
		case 5:
			m.Mem().Store(f, n%words, uint64(n))
		case 6:
			m.Regs(number).Set(n%registers, uint64(n))
		case 7:
			m.Tlb(number).Put(api.Key{Space: n % 3, Page: n % 7}, api.Pte{On: true, F: n % 64, R: 1})
		case 8, 9:
			m.Typ().Untype(f, m.Now(), n%2 == 0)
		case 10:
			m.Live().Take(m.Now())
			m.Live().Kill(n%4, n%2, m.Now())
		case 11:
			m.Lines().Attach(n%lineCount, f)
			m.Lines().Detach(n / lineCount % lineCount)
		}
	}
}

// TestManyCalls mixes all calls, wrong ones among them, with those of the parts, and looks
// at the whole machine behind each; a twin, given the same, is the same.
func TestManyCalls(t *testing.T) {
	for i, c := range usual() {
		x := row(i + 1)
		m, twin := made(t, c), made(t, c)
		p := partsOf(m)
		want := look(t, m)
		for range 4000 {
			stir(&x, c, m, twin)
			want = look(t, m)
			number, f, n := x.pick(c.Cores+2)-1, x.pick(c.Frames+2)-1, x.pick(14)-1
			one := api.Cap{K: n, T: f}
			switch x.pick(8) {
			case 0, 1, 2:
				retyped(t, m, &want, f, n%4, "many calls")
				twin.Retype(f, n%4)
			case 3, 4:
				linked(t, m, &want, one, "many calls")
				twin.Link(one)
			case 5:
				unlinked(t, m, &want, one, "many calls")
				twin.Unlink(one)
			case 6:
				flushed(t, m, &want, number, "many calls")
				twin.Flush(number)
			case 7:
				setCur(t, m, &want, number, n*6-2, "many calls")
				twin.SetCur(number, n*6-2)
			}
		}
		same(t, twin, &want, "the twin")
		if partsOf(m) != p {
			t.Fatalf("%v: other parts", c)
		}
	}
}

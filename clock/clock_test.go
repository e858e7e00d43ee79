package clock_test

import (
	"math"
	"testing"

	"palanquin/api"
	"palanquin/clock"
)

// model is what a clock is held against: the time, and by core its cycles and when it
// entered and flushed last.
type model struct {
	now                      int
	cycles, entered, flushed []int
}

func freshModel(cores int) *model {
	want := &model{}
	for range cores {
		want.cycles = append(want.cycles, 0)
		want.entered = append(want.entered, -1)
		want.flushed = append(want.flushed, -1)
	}
	return want
}

func (m *model) step(core int) { m.now, m.cycles[core] = m.now+1, m.cycles[core]+1 }

func (m *model) enter(core int) { m.entered[core] = m.now }

func (m *model) flush(core int) { m.flushed[core] = m.now }

func smallest(times []int) int {
	low := math.MaxInt
	for _, time := range times {
		if time < low {
			low = time
		}
	}
	return low
}

func made(t *testing.T, cores int) *clock.Clock {
	t.Helper()
	c, e := clock.New(cores)
	if c == nil || e != api.OK {
		t.Fatalf("New(%d): %v, %d", cores, c, e)
	}
	return c
}

// outside are the numbers that are no core among that many.
func outside(cores int) []int {
	return []int{-1, -2, -cores, cores, cores + 1, 2 * cores, 100, 1 << 32, -1 << 32, math.MaxInt, math.MaxInt - 1, math.MinInt, math.MinInt + 1}
}

// hold looks at all that a clock tells, of each core and of cores that are not there.
func hold(t *testing.T, c *clock.Clock, want *model, what string) {
	t.Helper()
	cores := len(want.cycles)
	if c.Now() != want.now || c.Cores() != cores {
		t.Fatalf("%s: Now is %d, Cores is %d; want %d, %d", what, c.Now(), c.Cores(), want.now, cores)
	}
	for core := range cores {
		cycles, entered, flushed := c.Cycles(core), c.Entered(core), c.Flushed(core)
		if cycles != want.cycles[core] || entered != want.entered[core] || flushed != want.flushed[core] {
			t.Fatalf("%s: core %d: %d, %d, %d; want %d, %d, %d", what, core, cycles, entered, flushed, want.cycles[core], want.entered[core], want.flushed[core])
		}
	}
	for _, core := range outside(cores) {
		if c.Cycles(core) != 0 || c.Entered(core) != -1 || c.Flushed(core) != -1 {
			t.Fatalf("%s: no core %d: %d, %d, %d", what, core, c.Cycles(core), c.Entered(core), c.Flushed(core))
		}
	}
	entered, flushed := c.Floor()
	if entered != smallest(want.entered) || flushed != smallest(want.flushed) {
		t.Fatalf("%s: Floor is %d, %d; want %d, %d", what, entered, flushed, smallest(want.entered), smallest(want.flushed))
	}
}

// must does what is not to be refused.
func must(t *testing.T, e api.Errno) {
	t.Helper()
	if e != api.OK {
		t.Fatalf("refused: %d", e)
	}
}

// used is a clock whose cores all differ in all that they did, and how it is.
func used(t *testing.T, cores int) (*clock.Clock, *model) {
	t.Helper()
	c, want := made(t, cores), freshModel(cores)
	for core := range cores {
		for range core + 2 {
			must(t, c.Step(core))
			want.step(core)
		}
		must(t, c.Enter(core))
		want.enter(core)
		must(t, c.Step(cores-1-core))
		want.step(cores - 1 - core)
		must(t, c.Flush(core))
		want.flush(core)
	}
	hold(t, c, want, "used")
	return c, want
}

// P3.1: New.

func TestNew(t *testing.T) {
	for cores := 1; cores <= api.MaxCores; cores++ {
		hold(t, made(t, cores), freshModel(cores), "New")
	}
}

func TestNewRefusesOtherCounts(t *testing.T) {
	for _, cores := range append(outside(api.MaxCores+1), 0) {
		if c, e := clock.New(cores); c != nil || e != api.ErrArg {
			t.Errorf("New(%d): %v, %d", cores, c, e)
		}
	}
}

func TestClocksShareNothing(t *testing.T) {
	one, wantOne := used(t, 3)
	other := made(t, 3)
	hold(t, other, freshModel(3), "the other, behind the one's calls")
	must(t, other.Step(2))
	must(t, other.Enter(1))
	must(t, other.Flush(0))
	hold(t, one, wantOne, "the one, behind the other's calls")
}

// P3.1: Step, Enter, Flush, each of every core of every clock.

func TestStep(t *testing.T) {
	for cores := 1; cores <= api.MaxCores; cores++ {
		for core := range cores {
			c, want := used(t, cores)
			for range 3 {
				must(t, c.Step(core))
				want.step(core)
				hold(t, c, want, "Step")
			}
		}
	}
}

func TestEnter(t *testing.T) {
	for cores := 1; cores <= api.MaxCores; cores++ {
		for core := range cores {
			fresh, wantFresh := made(t, cores), freshModel(cores)
			must(t, fresh.Enter(core))
			wantFresh.entered[core] = 0
			hold(t, fresh, wantFresh, "Enter at the time 0")
			c, want := used(t, cores)
			for range 2 {
				must(t, c.Enter(core))
				want.enter(core)
				hold(t, c, want, "Enter")
			}
		}
	}
}

func TestFlush(t *testing.T) {
	for cores := 1; cores <= api.MaxCores; cores++ {
		for core := range cores {
			fresh, wantFresh := made(t, cores), freshModel(cores)
			must(t, fresh.Flush(core))
			wantFresh.flushed[core] = 0
			hold(t, fresh, wantFresh, "Flush at the time 0")
			c, want := used(t, cores)
			for range 2 {
				must(t, c.Flush(core))
				want.flush(core)
				hold(t, c, want, "Flush")
			}
		}
	}
}

// changes are the calls that can be refused, by name.
func changes() map[string]func(*clock.Clock, int) api.Errno {
	return map[string]func(*clock.Clock, int) api.Errno{
		"Step":  (*clock.Clock).Step,
		"Enter": (*clock.Clock).Enter,
		"Flush": (*clock.Clock).Flush,
	}
}

func TestCoresThatAreNotThereAreRefused(t *testing.T) {
	for cores := 1; cores <= api.MaxCores; cores++ {
		for name, change := range changes() {
			c, want := used(t, cores)
			for _, core := range outside(cores) {
				if e := change(c, core); e != api.ErrArg {
					t.Errorf("of %d cores, %s(%d): %d", cores, name, core, e)
				}
			}
			hold(t, c, want, name+" refused")
		}
	}
}

// P3.1: the last step. Only steps bring the time on, so all of them are gone.

func TestTimeEndsAtMaxTime(t *testing.T) {
	const cores = 2
	c, want := made(t, cores), freshModel(cores)
	must(t, c.Step(1))
	must(t, c.Enter(1))
	for range api.MaxTime - 2 {
		if e := c.Step(0); e != api.OK {
			t.Fatalf("Step at %d: %d", c.Now(), e)
		}
	}
	want.now, want.cycles = api.MaxTime-1, []int{api.MaxTime - 2, 1}
	want.entered[1] = 1
	hold(t, c, want, "one ahead of the last step")
	must(t, c.Step(1))
	want.step(1)
	hold(t, c, want, "the last step")
	for core := range cores {
		for range 2 {
			if e := c.Step(core); e != api.ErrTime {
				t.Errorf("Step(%d) at MaxTime: %d", core, e)
			}
		}
	}
	for name, change := range changes() {
		for _, core := range outside(cores) {
			if e := change(c, core); e != api.ErrArg {
				t.Errorf("%s(%d) at MaxTime: %d", name, core, e)
			}
		}
	}
	hold(t, c, want, "behind refusals at MaxTime")
	for core := range cores {
		must(t, c.Enter(core))
		want.enter(core)
		hold(t, c, want, "Enter at MaxTime")
		must(t, c.Flush(core))
		want.flush(core)
		hold(t, c, want, "Flush at MaxTime")
	}
}

// P3.2.

func TestExample(t *testing.T) {
	c := made(t, 2)
	must(t, c.Step(0))
	must(t, c.Enter(0))
	if entered, flushed := c.Floor(); entered != -1 || flushed != -1 {
		t.Errorf("Floor: %d, %d", entered, flushed)
	}
}

// TestFloorIsTheLeast lets each core in turn be the one behind all others, which enter
// and flush at times of their own.
func TestFloorIsTheLeast(t *testing.T) {
	for cores := 1; cores <= api.MaxCores; cores++ {
		for behind := range cores {
			for late := range cores {
				c, want := made(t, cores), freshModel(cores)
				for i := range cores {
					core := (behind + i) % cores
					must(t, c.Step(core))
					must(t, c.Enter(core))
					want.step(core)
					want.enter(core)
					hold(t, c, want, "entered by turns")
				}
				for i := range cores {
					core := (late + i) % cores
					must(t, c.Step(behind))
					must(t, c.Flush(core))
					want.step(behind)
					want.flush(core)
					hold(t, c, want, "flushed by turns")
				}
				if entered, flushed := c.Floor(); entered != 1 || flushed != cores+1 {
					t.Errorf("of %d cores, %d and %d behind: Floor is %d, %d", cores, behind, late, entered, flushed)
				}
			}
		}
	}
}

func TestLooksChangeNothing(t *testing.T) {
	c, want := used(t, 4)
	for range 3 {
		hold(t, c, want, "looks")
	}
}

// P3.3.

// lookUnmade makes every call on a clock that is none: cores that others have, and wrong
// ones.
func lookUnmade(t *testing.T, c *clock.Clock) {
	t.Helper()
	for _, core := range append(outside(api.MaxCores), 0, 1, 2, 3) {
		for name, change := range changes() {
			if e := change(c, core); e != api.ErrZero {
				t.Errorf("%s(%d): %d", name, core, e)
			}
		}
		if c.Cycles(core) != 0 || c.Entered(core) != -1 || c.Flushed(core) != -1 {
			t.Errorf("core %d: %d, %d, %d", core, c.Cycles(core), c.Entered(core), c.Flushed(core))
		}
	}
	if c.Now() != 0 || c.Cores() != 0 {
		t.Errorf("Now is %d, Cores is %d", c.Now(), c.Cores())
	}
	if entered, flushed := c.Floor(); entered != -1 || flushed != -1 {
		t.Errorf("Floor: %d, %d", entered, flushed)
	}
}

func TestNilClock(t *testing.T) { lookUnmade(t, nil) }

func TestClockThatNoCallMade(t *testing.T) {
	lookUnmade(t, new(clock.Clock))
	var c clock.Clock
	lookUnmade(t, &c)
	lookUnmade(t, &c)
}

// P3.4.

// follows looks at what follows, without the model: the time is all cycles together, and
// nobody did anything behind it.
func follows(t *testing.T, c *clock.Clock) {
	t.Helper()
	together := 0
	for core := range c.Cores() {
		together += c.Cycles(core)
		if c.Entered(core) > c.Now() || c.Flushed(core) > c.Now() {
			t.Fatalf("core %d did at %d and %d what is behind %d", core, c.Entered(core), c.Flushed(core), c.Now())
		}
	}
	if together != c.Now() {
		t.Fatalf("%d cycles together at the time %d", together, c.Now())
	}
}

// TestManyCalls mixes all calls, wrong ones among them, and looks behind each.
func TestManyCalls(t *testing.T) {
	x := uint64(0x9E3779B97F4A7C15)
	pick := func(n int) int {
		x = x*6364136223846793005 + 1442695040888963407
		return int(x>>33) % n
	}
	for cores := 1; cores <= api.MaxCores; cores++ {
		c, want := made(t, cores), freshModel(cores)
		wasEntered, wasFlushed := c.Floor()
		for range 2000 {
			core := pick(cores+2) - 1
			there := core >= 0 && core < cores
			call, note := c.Step, want.step
			switch pick(4) {
			case 0:
				call, note = c.Enter, want.enter
			case 1:
				call, note = c.Flush, want.flush
			}
			e := call(core)
			if there != (e == api.OK) || !there && e != api.ErrArg {
				t.Fatalf("of %d cores, core %d: %d", cores, core, e)
			}
			if there {
				note(core)
			}
			hold(t, c, want, "many calls")
			follows(t, c)
			entered, flushed := c.Floor()
			if entered < wasEntered || flushed < wasFlushed {
				t.Fatalf("Floor fell from %d, %d to %d, %d", wasEntered, wasFlushed, entered, flushed)
			}
			wasEntered, wasFlushed = entered, flushed
		}
		if wasEntered < 1 || wasFlushed < 1 {
			t.Errorf("of %d cores, Floor did not rise: %d, %d", cores, wasEntered, wasFlushed)
		}
	}
}

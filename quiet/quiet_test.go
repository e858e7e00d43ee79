package quiet_test

import (
	"math"
	"slices"
	"testing"

	"palanquin/api"
	"palanquin/clock"
	"palanquin/quiet"
)

// never is when a core entered, or flushed, that has not done so.
const never = -1

// both is what a frame was of which a core must have entered and flushed.
const both = 3

// model is what a clock is held against: when each core entered, and flushed, last.
type model struct {
	entered, flushed []int
}

func (m model) left(was int, time int) []int {
	var left []int
	for core := range m.entered {
		entered, flushed := m.entered[core] > time, m.flushed[core] > time
		var seen bool
		if was == 0 {
			seen = true
		} else if was == 1 {
			seen = flushed
		} else if was == 2 {
			seen = entered
		} else if was == 3 {
			seen = entered && flushed
		}
		if !seen {
			left = append(left, core)
		}
	}
	return left
}

func (m model) quiet(was int, time int) bool {
	low := func(times []int) bool { return slices.Min(times) > time }
	return was == 0 || was == 1 && low(m.flushed) || was == 2 && low(m.entered) || was == 3 && low(m.entered) && low(m.flushed)
}

func must(t *testing.T, e api.Errno) {
	t.Helper()
	if e != api.OK {
		t.Fatalf("refused: %d", e)
	}
}

func fresh(t *testing.T, cores int) *clock.Clock {
	t.Helper()
	c, e := clock.New(cores)
	if c == nil || e != api.OK {
		t.Fatalf("New(%d): %v, %d", cores, c, e)
	}
	return c
}

// made is a clock whose cores entered and flushed last when the model says so.
func made(t *testing.T, want model) *clock.Clock {
	t.Helper()
	c := fresh(t, len(want.entered))
	end := max(slices.Max(want.entered), slices.Max(want.flushed))
	for now := 0; now <= end; now++ {
		for core := range want.entered {
			if want.entered[core] == now {
				must(t, c.Enter(core))
			}
			if want.flushed[core] == now {
				must(t, c.Flush(core))
			}
		}
		if now < end {
			must(t, c.Step(now%len(want.entered)))
		}
	}
	return c
}

// each calls do with all rows of so many numbers of those.
func each(numbers []int, count int, do func(row []int)) {
	row := make([]int, count)
	var fill func(i int)
	fill = func(i int) {
		if i == count {
			do(slices.Clone(row))
			return
		}
		for _, n := range numbers {
			row[i] = n
			fill(i + 1)
		}
	}
	fill(0)
}

// kinds are what a frame can have been.
func kinds() []int { return []int{api.FUntyped, api.FUser, api.FKernel, both} }

// noKinds are numbers that no frame can have been.
func noKinds() []int {
	return []int{-1, -2, -3, 4, 5, 6, 7, 8, 100, 1 << 8, 1<<8 + 3, 1 << 32, 1<<32 + 1, 1<<32 + 2, 1<<32 + 3, -1 << 32, math.MaxInt, math.MaxInt - 1, math.MinInt, math.MinInt + 1, math.MinInt + 2, math.MinInt + 3}
}

// ends are times at their ends, and some that are none.
func ends() []int {
	return []int{math.MinInt, math.MinInt + 1, -1 << 32, -3, -2, -1, 0, 1, api.MaxTime - 1, api.MaxTime, api.MaxTime + 1, 1 << 32, math.MaxInt - 1, math.MaxInt}
}

// told is all that a clock tells: quiet must not change it.
func told(c *clock.Clock) []int {
	entered, flushed := c.Floor()
	all := []int{c.Now(), c.Cores(), entered, flushed}
	for core := range c.Cores() {
		all = append(all, c.Cycles(core), c.Entered(core), c.Flushed(core))
	}
	return all
}

// hold looks at all calls of that time, and that none of them changes the clock.
func hold(t *testing.T, c *clock.Clock, want model, time int, what string) {
	t.Helper()
	ahead := told(c)
	if got, asked := quiet.Kernel(c, time), want.quiet(api.FKernel, time); got != asked {
		t.Fatalf("%s %v: Kernel(%d): %v; want %v", what, want, time, got, asked)
	}
	if got, asked := quiet.User(c, time), want.quiet(api.FUser, time); got != asked {
		t.Fatalf("%s %v: User(%d): %v; want %v", what, want, time, got, asked)
	}
	for _, was := range append(kinds(), noKinds()...) {
		if got, asked := quiet.For(c, was, time), want.quiet(was, time); got != asked {
			t.Fatalf("%s %v: For(%d, %d): %v; want %v", what, want, was, time, got, asked)
		}
		if got, asked := quiet.Left(c, was, time), want.left(was, time); !slices.Equal(got, asked) {
			t.Fatalf("%s %v: Left(%d, %d): %v; want %v", what, want, was, time, got, asked)
		}
	}
	if behind := told(c); !slices.Equal(ahead, behind) {
		t.Fatalf("%s %v: the clock is %v; it was %v", what, want, behind, ahead)
	}
}

// P8.1: Kernel and User.

func TestExample(t *testing.T) {
	c := fresh(t, 1)
	for range 5 {
		must(t, c.Step(0))
	}
	must(t, c.Enter(0))
	if !quiet.Kernel(c, 4) || quiet.Kernel(c, 5) {
		t.Errorf("entered at 5: Kernel(4): %v, Kernel(5): %v", quiet.Kernel(c, 4), quiet.Kernel(c, 5))
	}
}

// TestBehindIsLater has one core that entered at 5 and flushed at 8: at the time itself
// is not behind it, and the one is not taken for the other.
func TestBehindIsLater(t *testing.T) {
	c := made(t, model{entered: []int{5}, flushed: []int{8}})
	for time := -3; time <= 12; time++ {
		if got := quiet.Kernel(c, time); got != (time < 5) {
			t.Errorf("Kernel(%d): %v", time, got)
		}
		if got := quiet.User(c, time); got != (time < 8) {
			t.Errorf("User(%d): %v", time, got)
		}
	}
}

// TestEachCoreCounts has one core, at each place, that entered or flushed no sooner than
// at time, while all others did behind it.
func TestEachCoreCounts(t *testing.T) {
	for cores := 1; cores <= api.MaxCores; cores++ {
		for late := range cores {
			for _, at := range []int{never, 0, 2, 3, 4} {
				entered, flushed := slices.Repeat([]int{4}, cores), slices.Repeat([]int{5}, cores)
				entered[late] = at
				c := made(t, model{entered, flushed})
				if got := quiet.Kernel(c, 3); got != (at > 3) {
					t.Errorf("core %d of %d entered at %d: Kernel(3): %v", late, cores, at, got)
				}
				if !quiet.User(c, 3) {
					t.Errorf("all flushed at 5: User(3) is false")
				}
				c = made(t, model{flushed, entered})
				if got := quiet.User(c, 3); got != (at > 3) {
					t.Errorf("core %d of %d flushed at %d: User(3): %v", late, cores, at, got)
				}
				if !quiet.Kernel(c, 3) {
					t.Errorf("all entered at 5: Kernel(3) is false")
				}
			}
		}
	}
}

// TestNewClock has cores of which none did anything: that counts as at -1.
func TestNewClock(t *testing.T) {
	for cores := 1; cores <= api.MaxCores; cores++ {
		c, idle := fresh(t, cores), slices.Repeat([]int{never}, cores)
		for _, time := range ends() {
			hold(t, c, model{idle, idle}, time, "a new clock")
		}
		for time := range 3 {
			if quiet.Kernel(c, time) || quiet.User(c, time) || quiet.For(c, both, time) {
				t.Errorf("%d cores that did nothing: quiet for %d", cores, time)
			}
		}
	}
}

// P8.1: For and Left.

func TestFor(t *testing.T) {
	entered := model{entered: []int{4, 5}, flushed: []int{4, 3}}
	flushed := model{entered: []int{4, 3}, flushed: []int{4, 5}}
	all := model{entered: []int{4, 5}, flushed: []int{5, 4}}
	none := model{entered: []int{3, 4}, flushed: []int{4, 3}}
	for _, row := range []struct {
		what string
		of   model
		want [4]bool
	}{
		{"all entered", entered, [4]bool{true, false, true, false}},
		{"all flushed", flushed, [4]bool{true, true, false, false}},
		{"all did both", all, [4]bool{true, true, true, true}},
		{"none of it", none, [4]bool{true, false, false, false}},
	} {
		c := made(t, row.of)
		for was, want := range row.want {
			if got := quiet.For(c, was, 3); got != want {
				t.Errorf("%s: For(%d, 3): %v; want %v", row.what, was, got, want)
			}
		}
		for _, was := range noKinds() {
			if quiet.For(c, was, 3) {
				t.Errorf("%s: For(%d, 3): no frame can have been that", row.what, was)
			}
		}
	}
}

func TestLeft(t *testing.T) {
	c := made(t, model{entered: []int{4, 3, 5, 2}, flushed: []int{3, 6, 4, never}})
	for _, row := range []struct {
		was, time int
		want      []int
	}{
		{api.FUntyped, 3, nil},
		{api.FUser, 3, []int{0, 3}},
		{api.FKernel, 3, []int{1, 3}},
		{both, 3, []int{0, 1, 3}},
		{both, 2, []int{3}},
		{both, 4, []int{0, 1, 2, 3}},
		{api.FUser, 5, []int{0, 2, 3}},
		{api.FUser, 6, []int{0, 1, 2, 3}},
		{api.FKernel, 1, nil},
		{api.FUser, -1, []int{3}},
		{api.FKernel, -1, nil},
	} {
		if got := quiet.Left(c, row.was, row.time); !slices.Equal(got, row.want) {
			t.Errorf("Left(%d, %d): %v; want %v", row.was, row.time, got, row.want)
		}
	}
}

// TestLeftOfNoKind is not quiet for a reason that lies in no core: all are left, though
// each did all that it could.
func TestLeftOfNoKind(t *testing.T) {
	for cores := 1; cores <= api.MaxCores; cores++ {
		done := slices.Repeat([]int{9}, cores)
		c := made(t, model{done, done})
		for _, was := range noKinds() {
			for _, time := range append(ends(), 8, 9) {
				if got := quiet.Left(c, was, time); !slices.Equal(got, []int{0, 1, 2, 3}[:cores]) {
					t.Errorf("%d cores: Left(%d, %d): %v", cores, was, time, got)
				}
			}
		}
	}
}

// TestAllClocks goes over all clocks whose cores did something at one of few times, or
// nothing.
func TestAllClocks(t *testing.T) {
	for cores := 1; cores <= api.MaxCores; cores++ {
		numbers := []int{never, 0, 1, 2, 3}
		if cores > 2 {
			numbers = []int{never, 1}
		}
		each(numbers, 2*cores, func(row []int) {
			want := model{row[:cores], row[cores:]}
			c := made(t, want)
			for time := -3; time <= 5; time++ {
				hold(t, c, want, time, "all clocks")
			}
		})
	}
}

// TestEndsOfTimes has a clock of the most cores that did different things.
func TestEndsOfTimes(t *testing.T) {
	want := model{entered: []int{7, 3, 5, 1}, flushed: []int{2, 8, 4, 6}}
	c := made(t, want)
	for _, time := range ends() {
		hold(t, c, want, time, "the ends")
	}
	if !quiet.For(c, both, math.MinInt) || quiet.For(c, both, math.MaxInt) {
		t.Error("For at the ends")
	}
}

// TestMaxTime lets cores enter and flush at the last time that there is: nothing is
// behind it.
func TestMaxTime(t *testing.T) {
	c, want := fresh(t, 2), model{[]int{never, never}, []int{never, never}}
	for range api.MaxTime - 1 {
		if e := c.Step(1); e != api.OK {
			t.Fatalf("Step: %d", e)
		}
	}
	look := func() {
		t.Helper()
		for _, time := range append(ends(), api.MaxTime-3, api.MaxTime-2) {
			hold(t, c, want, time, "MaxTime")
		}
	}
	for core := range 2 {
		must(t, c.Enter(core))
		must(t, c.Flush(core))
		want.entered[core], want.flushed[core] = api.MaxTime-1, api.MaxTime-1
		look()
	}
	must(t, c.Step(0))
	for core := range 2 {
		must(t, c.Enter(core))
		want.entered[core] = api.MaxTime
		look()
		must(t, c.Flush(core))
		want.flushed[core] = api.MaxTime
		look()
	}
	if !quiet.For(c, both, api.MaxTime-1) || quiet.For(c, both, api.MaxTime) {
		t.Error("For at MaxTime")
	}
}

// P8.1: a nil clock, and one that no call made.

func TestNoClock(t *testing.T) {
	for _, row := range []struct {
		what string
		c    *clock.Clock
	}{{"nil", nil}, {"no call made it", &clock.Clock{}}, {"new made it", new(clock.Clock)}} {
		for range 2 {
			for _, time := range ends() {
				if quiet.Kernel(row.c, time) || quiet.User(row.c, time) {
					t.Errorf("%s: quiet for %d", row.what, time)
				}
				for _, was := range append(kinds(), noKinds()...) {
					if got := quiet.For(row.c, was, time); got != (was == api.FUntyped) {
						t.Errorf("%s: For(%d, %d): %v", row.what, was, time, got)
					}
					if got := quiet.Left(row.c, was, time); len(got) != 0 {
						t.Errorf("%s: Left(%d, %d): %v", row.what, was, time, got)
					}
				}
			}
		}
	}
}

// P4, P5: an answer is new memory, and is not changed behind it.

func TestAnswersShareNothing(t *testing.T) {
	want := model{entered: []int{1, 2, 3, 4}, flushed: []int{4, 3, 2, 1}}
	c := made(t, want)
	for _, was := range append(kinds(), 4, -1) {
		one, other := quiet.Left(c, was, 2), quiet.Left(c, was, 2)
		for i := range one {
			one[i] = 99
		}
		one = append(one[:0], 99)
		if !slices.Equal(other, want.left(was, 2)) {
			t.Errorf("Left(%d, 2), behind a change of another answer: %v", was, other)
		}
		hold(t, c, want, 2, "behind a change of an answer")
	}
	kept := quiet.Left(c, both, 2)
	for core := range api.MaxCores {
		must(t, c.Step(core))
		must(t, c.Enter(core))
		must(t, c.Flush(core))
	}
	if !slices.Equal(kept, want.left(both, 2)) {
		t.Errorf("Left(3, 2), behind calls on the clock: %v", kept)
	}
}

// P8.2: when each core that is left has entered and flushed behind time, it is quiet.

func TestLeftLeadsToQuiet(t *testing.T) {
	const time = 2
	for cores := 1; cores <= api.MaxCores; cores++ {
		numbers := []int{never, 2, 3}
		if cores > 3 {
			numbers = []int{never, 3}
		}
		each(numbers, 2*cores, func(row []int) {
			want := model{row[:cores], row[cores:]}
			for _, was := range kinds() {
				c := made(t, want)
				for c.Now() <= time {
					must(t, c.Step(0))
				}
				left := quiet.Left(c, was, time)
				for i, core := range left {
					if quiet.For(c, was, time) || !slices.Equal(quiet.Left(c, was, time), left[i:]) {
						t.Fatalf("%v: was %d: quiet ahead of core %d: %v", want, was, core, quiet.Left(c, was, time))
					}
					must(t, c.Enter(core))
					must(t, c.Flush(core))
				}
				if !quiet.For(c, was, time) || len(quiet.Left(c, was, time)) != 0 {
					t.Fatalf("%v: was %d: not quiet behind %v", want, was, left)
				}
			}
		})
	}
}

// TestOneIsNotBoth lets cores do but one of the two: that is enough for what asks for it
// alone.
func TestOneIsNotBoth(t *testing.T) {
	for cores := 1; cores <= api.MaxCores; cores++ {
		all := []int{0, 1, 2, 3}[:cores]
		c := fresh(t, cores)
		must(t, c.Step(0))
		for core := range cores {
			must(t, c.Flush(core))
		}
		if !quiet.For(c, api.FUser, 0) || quiet.For(c, api.FKernel, 0) || quiet.For(c, both, 0) || !slices.Equal(quiet.Left(c, both, 0), all) {
			t.Errorf("%d cores flushed: %v", cores, quiet.Left(c, both, 0))
		}
		c = fresh(t, cores)
		must(t, c.Step(0))
		for core := range cores {
			must(t, c.Enter(core))
		}
		if quiet.For(c, api.FUser, 0) || !quiet.For(c, api.FKernel, 0) || quiet.For(c, both, 0) || !slices.Equal(quiet.Left(c, both, 0), all) {
			t.Errorf("%d cores entered: %v", cores, quiet.Left(c, both, 0))
		}
	}
}

// TestAtTimeIsNotEnough lets the cores that are left enter and flush at time: they stay
// left till the clock goes on.
func TestAtTimeIsNotEnough(t *testing.T) {
	c := fresh(t, api.MaxCores)
	time := 0
	for core := range api.MaxCores {
		must(t, c.Step(core))
		time = c.Now()
	}
	for _, step := range []bool{false, true} {
		if step {
			must(t, c.Step(0))
		}
		for core := range api.MaxCores {
			must(t, c.Enter(core))
			must(t, c.Flush(core))
		}
		for _, was := range []int{api.FUser, api.FKernel, both} {
			if got := quiet.For(c, was, time); got != step {
				t.Errorf("was %d, entered and flushed at %d: For(%d): %v", was, c.Now(), time, got)
			}
		}
	}
}

// TestManyCalls mixes calls on a clock of each count with looks at it.
func TestManyCalls(t *testing.T) {
	for cores := 1; cores <= api.MaxCores; cores++ {
		c := fresh(t, cores)
		want := model{slices.Repeat([]int{never}, cores), slices.Repeat([]int{never}, cores)}
		x := uint64(cores)
		next := func(n int) int {
			x = x*6364136223846793005 + 1442695040888963407
			return int((x >> 33) % uint64(n))
		}
		for range 3000 {
			core := next(cores)
			switch next(4) {
			case 0, 1:
				must(t, c.Step(core))
			case 2:
				must(t, c.Enter(core))
				want.entered[core] = c.Now()
			default:
				must(t, c.Flush(core))
				want.flushed[core] = c.Now()
			}
			hold(t, c, want, c.Now()-next(3*cores), "many calls")
		}
	}
}

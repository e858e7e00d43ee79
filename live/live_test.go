package live_test

import (
	"math"
	"testing"

	"palanquin/api"
	"palanquin/live"
)

// last is the last epoch in which an id is taken; one more kill leads past it.
const last = api.MaxEpoch - 2

// life is what an id is held against.
type life struct {
	lives  bool
	epoch  int
	killed bool
	at     int
}

// model is what a table is held against, by id.
type model [api.MaxLive]life

func (m *model) take(floor int) (int, int, api.Errno) {
	for id := range m {
		one := &m[id]
		seen := !one.killed || one.at < floor
		if !one.lives && one.epoch <= last && seen {
			one.lives = true
			return id, one.epoch, api.OK
		}
	}
	return 0, 0, api.ErrFull
}

func (m *model) kill(id int, epoch int, now int) api.Errno {
	if id < 0 || id >= api.MaxLive {
		return api.ErrArg
	}
	if !m[id].lives || m[id].epoch != epoch {
		return api.ErrLive
	}
	m[id] = life{epoch: epoch + 1, killed: true, at: now}
	return api.OK
}

// taken is what Take answers.
type taken struct {
	id, epoch int
	e         api.Errno
}

func take(u *live.Table, floor int) taken {
	id, epoch, e := u.Take(floor)
	return taken{id, epoch, e}
}

func full() taken { return taken{e: api.ErrFull} }

func made(t *testing.T) *live.Table {
	t.Helper()
	u := live.New()
	if u == nil {
		t.Fatal("New: nil")
	}
	return u
}

// must does what is not to be refused.
func must(t *testing.T, e api.Errno) {
	t.Helper()
	if e != api.OK {
		t.Fatalf("refused: %d", e)
	}
}

// mustTake takes what the model takes, and looks at the whole table then.
func mustTake(t *testing.T, u *live.Table, want *model, floor int, what string) taken {
	t.Helper()
	id, epoch, e := want.take(floor)
	asked := taken{id, epoch, e}
	if got := take(u, floor); got != asked {
		t.Fatalf("%s: Take(%d): %v; want %v", what, floor, got, asked)
	}
	hold(t, u, want, what)
	return asked
}

// same looks at a call's answer, and at the whole table then.
func same(t *testing.T, u *live.Table, want *model, got api.Errno, asked api.Errno, what string) {
	t.Helper()
	if got != asked {
		t.Fatalf("%s: %d; want %d", what, got, asked)
	}
	hold(t, u, want, what)
}

// outside are the numbers that are no id.
func outside() []int {
	return []int{-1, -2, -api.MaxLive, api.MaxLive, api.MaxLive + 1, 2 * api.MaxLive, 1 << 32, -1 << 32, math.MaxInt, math.MaxInt - 1, math.MinInt, math.MinInt + 1}
}

// farEpochs are epochs in which no id of a short test lives, and some that can't be.
func farEpochs() []int {
	return []int{-1, -2, 100, last - 1, last, last + 1, api.MaxEpoch, api.MaxEpoch + 1, 1 << 32, -1 << 32, math.MaxInt, math.MinInt}
}

// times are times at their ends, and some that are none, in order.
func times() []int {
	return []int{math.MinInt, math.MinInt + 1, -1 << 32, -2, -1, 0, 1, 5, api.MaxTime - 1, api.MaxTime, api.MaxTime + 1, math.MaxInt - 1, math.MaxInt}
}

// hold looks at all that a table tells, of each id around its epoch, and of ids that are
// not there.
func hold(t *testing.T, u *live.Table, want *model, what string) {
	t.Helper()
	count := 0
	for id, one := range want {
		if one.lives {
			count++
		}
		for epoch := one.epoch - 2; epoch <= one.epoch+2; epoch++ {
			if got, asked := u.Valid(id, epoch), one.lives && epoch == one.epoch; got != asked {
				t.Fatalf("%s: Valid(%d, %d): %v; want %v", what, id, epoch, got, asked)
			}
		}
	}
	if got := u.Count(); got != count {
		t.Fatalf("%s: Count: %d; want %d", what, got, count)
	}
	for _, id := range outside() {
		for epoch := -1; epoch <= 1; epoch++ {
			if u.Valid(id, epoch) {
				t.Fatalf("%s: Valid(%d, %d): there is no such id", what, id, epoch)
			}
		}
	}
}

// used is a table whose ids differ in all that they are, and how it is: of four ids one
// lives in the epoch 0, one was killed once, one lives again, one was killed twice; the
// last ones were never taken.
func used(t *testing.T) (*live.Table, *model) {
	t.Helper()
	const some = api.MaxLive - 8
	u, want := made(t), &model{}
	kill := func(first int, epoch int) {
		for id := first; id < some; id += 4 {
			must(t, u.Kill(id, epoch, 100+id))
			must(t, want.kill(id, epoch, 100+id))
		}
	}
	for range some {
		mustTake(t, u, want, 0, "used")
	}
	kill(2, 0)
	kill(3, 0)
	for range some / 2 {
		mustTake(t, u, want, 1000, "used, again")
	}
	kill(1, 0)
	kill(3, 1)
	hold(t, u, want, "used")
	return u, want
}

// P7.1: New.

func TestNew(t *testing.T) {
	u := made(t)
	hold(t, u, &model{}, "New")
	for id := range api.MaxLive {
		for _, epoch := range append(farEpochs(), 0, 1) {
			if u.Valid(id, epoch) {
				t.Errorf("Valid(%d, %d) of a new table", id, epoch)
			}
		}
	}
}

func TestTablesShareNothing(t *testing.T) {
	one, wantOne := used(t)
	other, wantOther := made(t), &model{}
	hold(t, other, wantOther, "the other, behind the one's calls")
	for range api.MaxLive {
		got := mustTake(t, other, wantOther, 0, "the other")
		same(t, other, wantOther, other.Kill(got.id, got.epoch, 9), wantOther.kill(got.id, got.epoch, 9), "Kill of the other")
	}
	hold(t, one, wantOne, "the one, behind the other's calls")
}

// P7.1: Take.

func TestExample(t *testing.T) {
	u := made(t)
	for id := range 2 {
		if got := take(u, 0); got != (taken{id: id}) {
			t.Errorf("Take(0): %v", got)
		}
	}
}

// TestTakeAll takes all ids, the least first, whatever the floor; then there is none.
func TestTakeAll(t *testing.T) {
	for _, floor := range times() {
		u, want := made(t), &model{}
		for id := range api.MaxLive {
			want[id].lives = true
			if got := take(u, floor); got != (taken{id: id}) {
				t.Fatalf("Take(%d): %v; want %d", floor, got, id)
			}
			hold(t, u, want, "Take")
		}
		for _, again := range times() {
			if got := take(u, again); got != full() {
				t.Fatalf("Take(%d): %v; want ErrFull", again, got)
			}
			hold(t, u, want, "Take of a full table")
		}
	}
}

// TestTakeHangsOnTheFloor kills the one id that could be taken at any time, and takes it
// at any floor: one that was killed ahead of it is taken, one at it or behind it is not.
func TestTakeHangsOnTheFloor(t *testing.T) {
	for _, id := range []int{0, 1, api.MaxLive - 2, api.MaxLive - 1} {
		for _, now := range times() {
			for _, floor := range append(times(), 2, 4, 6) {
				u, want := made(t), &model{}
				for range api.MaxLive {
					u.Take(0)
				}
				for i := range want {
					want[i].lives = true
				}
				want[id] = life{epoch: 1, killed: true, at: now}
				same(t, u, want, u.Kill(id, 0, now), api.OK, "Kill")
				asked := full()
				if now < floor {
					asked = taken{id: id, epoch: 1}
					want[id].lives = true
				}
				if got := take(u, floor); got != asked {
					t.Fatalf("killed at %d, Take(%d): %v; want %v", now, floor, got, asked)
				}
				hold(t, u, want, "Take of a killed id")
			}
		}
	}
}

// TestTakeOfNeverKilled has killed ids ahead of ones that never were: the floor says
// which of them comes first.
func TestTakeOfNeverKilled(t *testing.T) {
	for _, row := range []struct {
		floor int
		want  taken
	}{
		{4, taken{id: 3}},
		{5, taken{id: 3}},
		{6, taken{id: 2, epoch: 1}},
		{7, taken{id: 2, epoch: 1}},
		{8, taken{id: 1, epoch: 1}},
		{9, taken{id: 1, epoch: 1}},
		{10, taken{id: 0, epoch: 1}},
		{math.MaxInt, taken{id: 0, epoch: 1}},
		{math.MinInt, taken{id: 3}},
	} {
		u := made(t)
		for range 3 {
			u.Take(0)
		}
		for id, now := range []int{9, 7, 5} {
			must(t, u.Kill(id, 0, now))
		}
		if got := take(u, row.floor); got != row.want {
			t.Errorf("Take(%d): %v; want %v", row.floor, got, row.want)
		}
	}
}

// TestTheLastKillCounts kills an id at two times: the floor is held against the second
// one, be it the earlier.
func TestTheLastKillCounts(t *testing.T) {
	for _, row := range []struct{ first, second, floor, id, epoch int }{
		{3, 8, 8, 1, 0},
		{3, 8, 9, 0, 2},
		{8, 3, 3, 1, 0},
		{8, 3, 4, 0, 2},
		{5, 5, 5, 1, 0},
		{5, 5, 6, 0, 2},
	} {
		u := made(t)
		u.Take(0)
		must(t, u.Kill(0, 0, row.first))
		if got := take(u, row.first+1); got != (taken{epoch: 1}) {
			t.Fatalf("Take: %v", got)
		}
		must(t, u.Kill(0, 1, row.second))
		if got := take(u, row.floor); got != (taken{id: row.id, epoch: row.epoch}) {
			t.Errorf("killed at %d and %d, Take(%d): %v", row.first, row.second, row.floor, got)
		}
	}
}

// P7.1: epochs at their end.

// wear takes the least id and kills it till it is in that epoch.
func wear(t *testing.T, u *live.Table, id int, epoch int) {
	t.Helper()
	for now := range epoch {
		if got := take(u, 1); got != (taken{id: id, epoch: now}) {
			t.Fatalf("Take: %v; want %d, %d", got, id, now)
		}
		must(t, u.Kill(id, now, 0))
	}
}

func TestEpochsEnd(t *testing.T) {
	u, want := made(t), &model{}
	wear(t, u, 0, last)
	want[0] = life{epoch: last, killed: true}
	hold(t, u, want, "the last epoch")
	if got := mustTake(t, u, want, 1, "the last epoch"); got != (taken{epoch: last}) {
		t.Fatalf("Take in the last epoch: %v", got)
	}
	for _, epoch := range []int{last - 1, last + 1, last + 2, 0} {
		same(t, u, want, u.Kill(0, epoch, 0), api.ErrLive, "Kill in another epoch")
	}
	same(t, u, want, u.Kill(0, last, 0), want.kill(0, last, 0), "Kill in the last epoch")
	for _, epoch := range []int{last, last + 1, last + 2} {
		same(t, u, want, u.Kill(0, epoch, 0), api.ErrLive, "Kill behind the last epoch")
	}
	if got := mustTake(t, u, want, math.MaxInt, "behind the last epoch"); got != (taken{id: 1}) {
		t.Fatalf("Take behind the last epoch: %v", got)
	}
}

// TestAllEpochsEnd wears out every id: then none is left, though none lives.
func TestAllEpochsEnd(t *testing.T) {
	u, want := made(t), &model{}
	for id := range api.MaxLive {
		wear(t, u, id, last+1)
		want[id] = life{epoch: last + 1, killed: true}
	}
	hold(t, u, want, "all worn out")
	for _, floor := range times() {
		if got := take(u, floor); got != full() {
			t.Fatalf("Take(%d): %v; want ErrFull", floor, got)
		}
		hold(t, u, want, "Take of what is worn out")
	}
}

// P7.1: Kill.

// TestKill kills each id, in each of some epochs; no other id changes.
func TestKill(t *testing.T) {
	u, want := made(t), &model{}
	for range api.MaxLive {
		mustTake(t, u, want, 0, "Take")
	}
	for epoch := range 3 {
		for id := range api.MaxLive {
			want[id] = life{epoch: epoch + 1, killed: true, at: id}
			same(t, u, want, u.Kill(id, epoch, id), api.OK, "Kill")
			same(t, u, want, u.Kill(id, epoch, id), api.ErrLive, "Kill again")
			same(t, u, want, u.Kill(id, epoch+1, id), api.ErrLive, "Kill in the next epoch")
			if got := mustTake(t, u, want, id+1, "Take behind Kill"); got != (taken{id: id, epoch: epoch + 1}) {
				t.Fatalf("Take behind Kill: %v", got)
			}
		}
	}
}

func TestKillTakesAnyTime(t *testing.T) {
	for _, now := range times() {
		u, want := made(t), &model{}
		mustTake(t, u, want, 0, "Take")
		same(t, u, want, u.Kill(0, 0, now), want.kill(0, 0, now), "Kill")
	}
}

// TestKillRefuses makes all calls that are wrong in some ways at once: the first that is
// named is told, and nothing has changed, when it was killed neither.
func TestKillRefuses(t *testing.T) {
	u, want := used(t)
	for _, now := range times() {
		for _, id := range outside() {
			for _, epoch := range append(farEpochs(), 0, 1, 2) {
				same(t, u, want, u.Kill(id, epoch, now), api.ErrArg, "Kill of no id")
			}
		}
		for id, one := range want {
			for _, epoch := range append(farEpochs(), 0, 1, 2, 3) {
				if one.lives && one.epoch == epoch {
					continue
				}
				if e := u.Kill(id, epoch, now); e != api.ErrLive {
					t.Fatalf("Kill(%d, %d, %d): %d; want ErrLive", id, epoch, now, e)
				}
			}
		}
		hold(t, u, want, "Kill of what does not live")
	}
	for floor := 100; floor < 100+api.MaxLive; floor++ {
		mustTake(t, u, want, floor, "Take behind refusals")
	}
}

// P7.1: Valid, Count.

func TestValid(t *testing.T) {
	u, want := used(t)
	for id, one := range want {
		for _, epoch := range append(farEpochs(), 0, 1, 2, 3) {
			if got, asked := u.Valid(id, epoch), one.lives && one.epoch == epoch; got != asked {
				t.Errorf("Valid(%d, %d): %v; want %v", id, epoch, got, asked)
			}
		}
	}
	for _, id := range outside() {
		for _, epoch := range append(farEpochs(), 0, 1, 2, 3) {
			if u.Valid(id, epoch) {
				t.Errorf("Valid(%d, %d): there is no such id", id, epoch)
			}
		}
	}
}

func TestCount(t *testing.T) {
	u := made(t)
	for count := range api.MaxLive {
		if got := u.Count(); got != count {
			t.Fatalf("Count: %d; want %d", got, count)
		}
		u.Take(0)
	}
	for count := api.MaxLive; count > 0; count-- {
		if got := u.Count(); got != count {
			t.Fatalf("Count: %d; want %d", got, count)
		}
		must(t, u.Kill(count-1, 0, 0))
	}
	if got := u.Count(); got != 0 {
		t.Fatalf("Count: %d; want 0", got)
	}
}

func TestTellingChangesNothing(t *testing.T) {
	u, want := used(t)
	for range 3 {
		hold(t, u, want, "told again")
	}
	mustTake(t, u, want, 150, "Take behind telling")
}

// P7.2.

// TestUnmade makes every call on tables that are none, with right arguments and wrong
// ones, twice: a refused call makes no table of them.
func TestUnmade(t *testing.T) {
	var zero live.Table
	for _, u := range []*live.Table{nil, new(live.Table), {}, &zero} {
		for range 2 {
			for _, time := range times() {
				if got := take(u, time); got != (taken{e: api.ErrZero}) {
					t.Errorf("Take(%d): %v", time, got)
				}
				for _, id := range append(outside(), 0, 1, api.MaxLive-1) {
					lookUnmade(t, u, id, time)
				}
			}
			if got := u.Count(); got != 0 {
				t.Errorf("Count: %d", got)
			}
		}
	}
}

func lookUnmade(t *testing.T, u *live.Table, id int, now int) {
	t.Helper()
	for _, epoch := range append(farEpochs(), 0, 1) {
		if e := u.Kill(id, epoch, now); e != api.ErrZero {
			t.Errorf("Kill(%d, %d, %d): %d", id, epoch, now, e)
		}
		if u.Valid(id, epoch) {
			t.Errorf("Valid(%d, %d)", id, epoch)
		}
	}
}

// P7.3.

// TestTakenOnce takes and kills at times and floors that lead back and forth: no id is
// ever taken twice in one epoch.
func TestTakenOnce(t *testing.T) {
	u := made(t)
	seen := map[[2]int]bool{}
	for round := range 2000 {
		got := take(u, round%7)
		if got.e != api.OK {
			for id := range api.MaxLive {
				for epoch := range 2000 {
					if u.Valid(id, epoch) && id%3 == round%3 {
						must(t, u.Kill(id, epoch, (id*5+round)%11-2))
					}
				}
			}
			continue
		}
		pair := [2]int{got.id, got.epoch}
		if seen[pair] {
			t.Fatalf("%v is taken again", pair)
		}
		seen[pair] = true
	}
	if len(seen) < 2*api.MaxLive {
		t.Errorf("only %d were taken", len(seen))
	}
}

// TestManyCalls mixes all calls, wrong ones among them, and looks at all ids behind each;
// a second table, given the same, answers the same; an id and an epoch are taken together
// once.
func TestManyCalls(t *testing.T) {
	x := uint64(0x9E3779B97F4A7C15)
	pick := func(n int) int {
		x = x*6364136223846793005 + 1442695040888963407
		return int(x>>33) % n
	}
	for _, kills := range []int{1, 3, 6} {
		u, twin, want := made(t), made(t), &model{}
		seen := map[[2]int]bool{}
		for range 6000 {
			if pick(8) >= kills {
				floor := pick(40) - 3
				got := mustTake(t, u, want, floor, "many calls")
				if again := take(twin, floor); again != got {
					t.Fatalf("the twin: Take(%d): %v; want %v", floor, again, got)
				}
				if got.e == api.OK && seen[[2]int{got.id, got.epoch}] {
					t.Fatalf("%v is taken again", got)
				}
				if got.e == api.OK {
					seen[[2]int{got.id, got.epoch}] = true
				}
				continue
			}
			id, epoch, now := pick(api.MaxLive+2)-1, pick(5)-1, pick(40)-3
			if id >= 0 && id < api.MaxLive && pick(4) != 0 {
				epoch = want[id].epoch
			}
			asked := want.kill(id, epoch, now)
			same(t, u, want, u.Kill(id, epoch, now), asked, "many calls")
			same(t, twin, want, twin.Kill(id, epoch, now), asked, "many calls, the twin")
		}
	}
}

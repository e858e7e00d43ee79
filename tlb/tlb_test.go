package tlb_test

import (
	"math"
	"slices"
	"testing"

	"palanquin/api"
	"palanquin/tlb"
)

// held is a mapping by its key.
type held struct {
	key api.Key
	pte api.Pte
}

// model is what a Tlb is held against: what is remembered, the oldest first.
type model struct {
	room int
	all  []held
}

func (m *model) place(k api.Key) int {
	for i, one := range m.all {
		if one.key == k {
			return i
		}
	}
	return -1
}

func (m *model) put(k api.Key, p api.Pte) {
	if i := m.place(k); i >= 0 {
		m.all[i].pte = p
		return
	}
	m.all = append(m.all, held{k, p})
	if len(m.all) > m.room {
		m.all = m.all[1:]
	}
}

func (m *model) flush() { m.all = nil }

// key and pte are the n-th of many that all differ.

func key(n int) api.Key { return api.Key{Space: n % 7, Page: n / 7} }

func pte(n int) api.Pte { return api.Pte{On: n%3 != 0, F: n, R: n % 4, Time: 1000 - n} }

// far is a key that no test puts.
func far() api.Key { return api.Key{Space: 12345, Page: -12345} }

func made(t *testing.T, room int) (*tlb.Tlb, *model) {
	t.Helper()
	u, e := tlb.New(room)
	if u == nil || e != api.OK {
		t.Fatalf("New(%d): %v, %d", room, u, e)
	}
	return u, &model{room: room}
}

// put puts into both, and looks at the Tlb then.
func put(t *testing.T, u *tlb.Tlb, want *model, k api.Key, p api.Pte) {
	t.Helper()
	if e := u.Put(k, p); e != api.OK {
		t.Fatalf("Put(%v, %v): %d", k, p, e)
	}
	want.put(k, p)
	hold(t, u, want, "Put")
}

// full is one with as many as there is room for.
func full(t *testing.T, room int) (*tlb.Tlb, *model) {
	t.Helper()
	u, want := made(t, room)
	for n := range room {
		put(t, u, want, key(n), pte(n))
	}
	if u.Len() != room {
		t.Fatalf("%d of %d", u.Len(), room)
	}
	return u, want
}

// hold looks at all that a Tlb tells.
func hold(t *testing.T, u *tlb.Tlb, want *model, what string) {
	t.Helper()
	if !u.Made() || u.Len() != len(want.all) || u.Len() > want.room {
		t.Fatalf("%s: made: %v, %d; want %d of room %d", what, u.Made(), u.Len(), len(want.all), want.room)
	}
	var keys []api.Key
	for _, one := range want.all {
		keys = append(keys, one.key)
		if p, there := u.Get(one.key); p != one.pte || !there {
			t.Fatalf("%s: Get(%v): %v, %v; want %v", what, one.key, p, there, one.pte)
		}
	}
	if got := u.Keys(); !slices.Equal(got, keys) {
		t.Fatalf("%s: Keys: %v; want %v", what, got, keys)
	}
	none(t, u, far())
}

// none looks that nothing is remembered by k.
func none(t *testing.T, u *tlb.Tlb, k api.Key) {
	t.Helper()
	if p, there := u.Get(k); p != (api.Pte{}) || there {
		t.Fatalf("Get(%v): %v, %v; want nothing", k, p, there)
	}
}

// P4.1: New, Made.

func TestNew(t *testing.T) {
	for room := 0; room <= api.MaxRoom; room++ {
		u, want := made(t, room)
		hold(t, u, want, "New")
		none(t, u, api.Key{})
		if n := u.Flush(); n != 0 {
			t.Errorf("Flush of a new one: %d", n)
		}
		hold(t, u, want, "Flush of a new one")
	}
}

func TestNewRefusesOtherRooms(t *testing.T) {
	for _, room := range []int{-1, -2, -api.MaxRoom, api.MaxRoom + 1, 2 * api.MaxRoom, 1 << 32, -1 << 32, math.MaxInt, math.MinInt} {
		if u, e := tlb.New(room); u != nil || e != api.ErrArg {
			t.Errorf("New(%d): %v, %d", room, u, e)
		}
	}
}

func TestTheyShareNothing(t *testing.T) {
	one, wantOne := full(t, 3)
	other, wantOther := made(t, 3)
	hold(t, other, wantOther, "the other, behind the one's calls")
	put(t, other, wantOther, key(0), pte(50))
	put(t, other, wantOther, key(51), pte(51))
	hold(t, one, wantOne, "the one, behind the other's calls")
	if n := one.Flush(); n != 3 {
		t.Fatalf("Flush: %d", n)
	}
	hold(t, other, wantOther, "the other, behind the one's Flush")
}

// P4.1: Put, Get.

func TestExample(t *testing.T) {
	u, want := made(t, 1)
	a, b := key(1), key(2)
	put(t, u, want, a, pte(1))
	put(t, u, want, b, pte(2))
	none(t, u, a)
	if got := u.Keys(); !slices.Equal(got, []api.Key{b}) {
		t.Errorf("Keys: %v", got)
	}
}

// TestOldestIsForgotten puts one new key after the other, for many rounds of the room.
func TestOldestIsForgotten(t *testing.T) {
	for room := 1; room <= api.MaxRoom; room++ {
		u, want := made(t, room)
		for n := range 4*room + 3 {
			put(t, u, want, key(n), pte(n))
			if u.Len() != min(n+1, room) {
				t.Fatalf("room %d, %d put: %d are there", room, n+1, u.Len())
			}
			if n >= room {
				none(t, u, key(n-room))
			}
		}
	}
}

// TestPutAgainKeepsItsAge puts each of a full one's keys again, so often that its age
// would change, and lets the oldest be forgotten one by one then.
func TestPutAgainKeepsItsAge(t *testing.T) {
	for room := 1; room <= api.MaxRoom; room++ {
		for again := range room {
			u, want := full(t, room)
			for i := range 3 {
				put(t, u, want, key(again), pte(100+i))
			}
			for n := range room {
				if got := u.Keys(); got[0] != key(n) {
					t.Fatalf("room %d, %d put again: the oldest is %v, want %v", room, again, got[0], key(n))
				}
				put(t, u, want, key(room+n), pte(room+n))
				none(t, u, key(n))
			}
		}
	}
}

func TestPutAgainForgetsNothing(t *testing.T) {
	for room := 1; room <= api.MaxRoom; room++ {
		u, want := full(t, room)
		for n := room - 1; n >= 0; n-- {
			put(t, u, want, key(n), pte(200+n))
			put(t, u, want, key(n), pte(n))
		}
		if u.Len() != room {
			t.Errorf("room %d: %d are there", room, u.Len())
		}
	}
}

func TestForgottenIsNewAgain(t *testing.T) {
	u, want := full(t, 3)
	put(t, u, want, key(3), pte(3))
	none(t, u, key(0))
	put(t, u, want, key(0), pte(60))
	if got := u.Keys(); !slices.Equal(got, []api.Key{key(2), key(3), key(0)}) {
		t.Errorf("Keys: %v", got)
	}
}

func TestNoRoomRemembersNothing(t *testing.T) {
	u, want := made(t, 0)
	for n := range 20 {
		put(t, u, want, key(n%5), pte(n))
		none(t, u, key(n%5))
		if u.Len() != 0 || len(u.Keys()) != 0 {
			t.Fatalf("%d, %v", u.Len(), u.Keys())
		}
	}
	if n := u.Flush(); n != 0 {
		t.Errorf("Flush: %d", n)
	}
	hold(t, u, want, "Flush without room")
}

func TestGetChangesNoAge(t *testing.T) {
	u, want := full(t, 4)
	for range 5 {
		u.Get(key(0))
		u.Get(far())
		hold(t, u, want, "Get")
	}
	put(t, u, want, key(4), pte(4))
	none(t, u, key(0))
}

// edges are numbers at their ends.
func edges() []int {
	return []int{math.MinInt, -1 << 32, -1, 0, 1, 1 << 32, math.MaxInt}
}

// TestKeysAreWhole tells keys apart that have one part in common, or the same parts the
// other way round.
func TestKeysAreWhole(t *testing.T) {
	for _, a := range edges() {
		for _, b := range edges() {
			u, want := made(t, 4)
			put(t, u, want, api.Key{Space: a, Page: b}, pte(1))
			put(t, u, want, api.Key{Space: b, Page: a}, pte(2))
			put(t, u, want, api.Key{Space: a, Page: 7}, pte(3))
			put(t, u, want, api.Key{Space: 7, Page: b}, pte(4))
		}
	}
}

// TestAnyMapping puts mappings that can't be, and the zero one: each is got as it was put.
func TestAnyMapping(t *testing.T) {
	u, want := made(t, 2)
	put(t, u, want, key(1), api.Pte{})
	for _, n := range edges() {
		for _, on := range []bool{false, true} {
			put(t, u, want, key(1), api.Pte{On: on, F: n, R: 3, Time: 4})
			put(t, u, want, key(1), api.Pte{On: on, F: 2, R: n, Time: 4})
			put(t, u, want, key(2), api.Pte{On: on, F: 2, R: 3, Time: n})
			put(t, u, want, key(2), api.Pte{On: on, F: n, R: n, Time: n})
		}
	}
	put(t, u, want, key(1), api.Pte{})
	if _, there := u.Get(key(1)); !there {
		t.Error("the zero mapping is not there")
	}
}

// P4.1: Flush, Len, Keys.

func TestFlush(t *testing.T) {
	for room := 1; room <= api.MaxRoom; room++ {
		for count := 0; count <= room+2; count++ {
			u, want := made(t, room)
			for n := range count {
				put(t, u, want, key(n), pte(n))
			}
			if n := u.Flush(); n != min(count, room) {
				t.Fatalf("room %d, %d put: Flush: %d", room, count, n)
			}
			want.flush()
			hold(t, u, want, "Flush")
			for n := range count {
				none(t, u, key(n))
			}
			if n := u.Flush(); n != 0 {
				t.Fatalf("Flush behind Flush: %d", n)
			}
		}
	}
}

// TestAgesBeginAnewBehindFlush puts the keys in the other order than ahead of it.
func TestAgesBeginAnewBehindFlush(t *testing.T) {
	for room := 1; room <= api.MaxRoom; room++ {
		u, want := full(t, room)
		u.Flush()
		want.flush()
		for n := room; n >= 0; n-- {
			put(t, u, want, key(n), pte(n))
		}
		none(t, u, key(room))
		if got := u.Keys(); got[len(got)-1] != key(0) {
			t.Errorf("room %d: Keys: %v", room, got)
		}
	}
}

func TestKeysAreNewMemory(t *testing.T) {
	u, want := full(t, 5)
	keys, again := u.Keys(), u.Keys()
	kept := slices.Clone(keys)
	for i := range keys {
		keys[i] = far()
	}
	_ = append(keys[:0], key(90), key(91))
	if !slices.Equal(again, kept) {
		t.Error("two lists share their keys")
	}
	hold(t, u, want, "behind a change of the list")
	put(t, u, want, key(5), pte(5))
	u.Flush()
	if !slices.Equal(again, kept) {
		t.Error("a list changed behind Put and Flush")
	}
}

// P4.2.

// lookUnmade makes every call on one that is none.
func lookUnmade(t *testing.T, u *tlb.Tlb) {
	t.Helper()
	for range 2 {
		for _, n := range edges() {
			k := api.Key{Space: n, Page: -n}
			if e := u.Put(k, api.Pte{On: true, F: n}); e != api.ErrZero {
				t.Errorf("Put(%v): %d", k, e)
			}
			none(t, u, k)
		}
		if u.Made() || u.Len() != 0 || len(u.Keys()) != 0 || u.Flush() != 0 {
			t.Errorf("made: %v, %d, %v, %d", u.Made(), u.Len(), u.Keys(), u.Flush())
		}
	}
}

func TestNil(t *testing.T) { lookUnmade(t, nil) }

func TestOneThatNoCallMade(t *testing.T) {
	lookUnmade(t, new(tlb.Tlb))
	var u tlb.Tlb
	lookUnmade(t, &u)
}

// P4.3.

// TestManyCalls mixes all calls, and looks behind each; a second one, given the same,
// answers the same.
func TestManyCalls(t *testing.T) {
	x := uint64(0x9E3779B97F4A7C15)
	pick := func(n int) int {
		x = x*6364136223846793005 + 1442695040888963407
		return int(x>>33) % n
	}
	for room := 0; room <= api.MaxRoom; room++ {
		u, want := made(t, room)
		twin, _ := made(t, room)
		for range 2000 {
			if pick(40) == 0 {
				count := len(want.all)
				if n, m := u.Flush(), twin.Flush(); n != count || m != count {
					t.Fatalf("Flush: %d, %d; want %d", n, m, count)
				}
				want.flush()
			}
			k, p := key(pick(room+room/2+2)), pte(pick(1000))
			put(t, u, want, k, p)
			if e := twin.Put(k, p); e != api.OK {
				t.Fatalf("Put: %d", e)
			}
			hold(t, twin, want, "the twin")
			if got, there := u.Get(k); room > 0 && (got != p || !there) {
				t.Fatalf("room %d: Get of what was put last: %v, %v; want %v", room, got, there, p)
			}
			if u.Len() > room || len(u.Keys()) > room {
				t.Fatalf("room %d: %d are there", room, u.Len())
			}
		}
	}
}

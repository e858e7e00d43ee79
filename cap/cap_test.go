package cap_test

import (
	"math"
	"testing"

	"palanquin/api"
	"palanquin/cap"
)

// packed is how many bits of the first word say something.
const packed = 37

// last is the last kind that there is.
const last = api.CHw

func within(v int, least int, most int) bool { return least <= v && v <= most }

// right is what Check is held against: the chapter's words, kind by kind.
func right(c api.Cap) bool {
	if !within(c.R, 0, 31) || !within(c.T, 0, 63) || !within(c.L, 0, 63) || !within(c.E, 0, 65535) || !within(c.A, 0, 1<<30) {
		return false
	}
	switch c.K {
	case 0:
		return c == api.Cap{}
	case 1:
		return c == api.Cap{K: 1, A: c.A}
	case 2:
		return c.L == 0 && c.E == 0 && c.A >= 1 && c.T+c.A <= 64
	case 3, 4, 6, 8, 9, 10:
		return c == api.Cap{K: c.K, R: c.R, T: c.T}
	case 5:
		return c.A == 0
	case 7:
		return true
	case 11:
		return c == api.Cap{K: 11, R: c.R}
	}
	return false
}

// words are those of a capability that is right, by multiplying.
func words(c api.Cap) (uint64, uint64) {
	return uint64(c.K + c.R*16 + c.T*512 + c.L*32768 + c.E*2097152), uint64(c.A)
}

// capOf is the capability that words would be of, if they were one's, by dividing.
func capOf(first uint64, second uint64) (api.Cap, bool) {
	c := api.Cap{
		K: int(first % 16),
		R: int(first / 16 % 32),
		T: int(first / 512 % 64),
		L: int(first / 32768 % 64),
		E: int(first / 2097152 % 65536),
	}
	if first >= 1<<packed || second > 1<<30 {
		return api.Cap{}, false
	}
	c.A = int(second)
	if !right(c) {
		return api.Cap{}, false
	}
	return c, true
}

// under is what Under is held against: a's frames are looked for one by one.
func under(a api.Cap, b api.Cap) bool {
	if !right(a) || !right(b) || a.K != b.K || a.K < 2 {
		return false
	}
	for bit := 1; bit < 32; bit *= 2 {
		if a.R&bit != 0 && b.R&bit == 0 {
			return false
		}
	}
	if a.K == 2 {
		var has [64]bool
		for i := range b.A {
			has[b.T+i] = true
		}
		for i := range a.A {
			if !has[a.T+i] {
				return false
			}
		}
		return true
	}
	return a.T == b.T && a.L == b.L && a.E == b.E && a.A == b.A
}

// outside are numbers that lie behind every range.
func outside() []int {
	return []int{math.MinInt, math.MinInt + 1, -1 << 32, -65536, -64, -32, -1, 1<<30 + 1, 1 << 31, 1 << 32, 1<<32 + 1, math.MaxInt - 1, math.MaxInt}
}

// ends are those of a number that may be most, and what lies about them.
func ends(most int) []int {
	return append(outside(), 0, 1, 2, most-1, most, most+1, 2*most+1, 2*most+2)
}

func kinds() []int {
	all := []int{math.MinInt, -1 << 32, -16, -2, -1, 1 << 32, 1<<32 + 3, math.MaxInt}
	for k := range 35 {
		all = append(all, k)
	}
	return all
}

// some are capabilities of each kind, all of them right.
func some() []api.Cap {
	var all []api.Cap
	for k := range last + 1 {
		for _, r := range []int{0, 1, 5, 31} {
			for _, t := range []int{0, 3, 63} {
				for _, l := range []int{0, 63} {
					for _, e := range []int{0, 65535} {
						for _, a := range []int{0, 1, 61, 64, 1 << 30} {
							if c := (api.Cap{K: k, R: r, T: t, L: l, E: e, A: a}); right(c) {
								all = append(all, c)
							}
						}
					}
				}
			}
		}
	}
	return all
}

// wrong are capabilities of each kind of which one number is not as it must be.
func wrong() []api.Cap {
	var all []api.Cap
	for _, c := range some() {
		for _, v := range append(outside(), 1, 12, 32, 64, 65536) {
			for _, x := range []api.Cap{
				{K: v, R: c.R, T: c.T, L: c.L, E: c.E, A: c.A},
				{K: c.K, R: v, T: c.T, L: c.L, E: c.E, A: c.A},
				{K: c.K, R: c.R, T: v, L: c.L, E: c.E, A: c.A},
				{K: c.K, R: c.R, T: c.T, L: v, E: c.E, A: c.A},
				{K: c.K, R: c.R, T: c.T, L: c.L, E: v, A: c.A},
				{K: c.K, R: c.R, T: c.T, L: c.L, E: c.E, A: v},
			} {
				if !right(x) {
					all = append(all, x)
				}
			}
		}
	}
	return all
}

// hold holds Check and Put of c, and Get of what Put answers, against the model.
func hold(t *testing.T, c api.Cap) {
	e := cap.Check(c)
	first, second, pe := cap.Put(c)
	if !right(c) {
		if e != api.ErrArg || first != 0 || second != 0 || pe != api.ErrArg {
			t.Fatalf("%v is not right: Check %d, Put %d, %d, %d", c, e, first, second, pe)
		}
		return
	}
	one, two := words(c)
	if e != api.OK || first != one || second != two || pe != api.OK {
		t.Fatalf("%v: Check %d, Put %d, %d, %d, not %d, %d", c, e, first, second, pe, one, two)
	}
	if back, e := cap.Get(first, second); back != c || e != api.OK {
		t.Fatalf("%v: Get of Put: %v, %d", c, back, e)
	}
}

// holdWords holds Get of words, and Put of what it answers, against the model.
func holdWords(t *testing.T, first uint64, second uint64) {
	c, e := cap.Get(first, second)
	want, ok := capOf(first, second)
	if !ok {
		if c != (api.Cap{}) || e != api.ErrForm {
			t.Fatalf("Get(%d, %d): %v, %d", first, second, c, e)
		}
		return
	}
	if c != want || e != api.OK {
		t.Fatalf("Get(%d, %d): %v, %d, not %v", first, second, c, e, want)
	}
	if one, two, e := cap.Put(c); one != first || two != second || e != api.OK {
		t.Fatalf("Put of Get(%d, %d): %d, %d, %d", first, second, one, two, e)
	}
}

func holdUnder(t *testing.T, a api.Cap, b api.Cap) {
	if got := cap.Under(a, b); got != under(a, b) {
		t.Fatalf("Under(%v, %v): %v", a, b, got)
	}
}

func TestExample(t *testing.T) {
	c := api.Cap{K: api.CTbl, R: api.RRead, T: 3}
	first, second, e := cap.Put(c)
	if first != 3+1*16+3*512 || second != 0 || e != api.OK {
		t.Errorf("Put: %d, %d, %d", first, second, e)
	}
	if back, e := cap.Get(1555, 0); back != c || e != api.OK {
		t.Errorf("Get: %v, %d", back, e)
	}
}

// The chapter gives the errors by their numbers.
func TestErrorsNumbers(t *testing.T) {
	if e := cap.Check(api.Cap{K: 12}); e != 1 {
		t.Errorf("Check: %d", e)
	}
	if _, _, e := cap.Put(api.Cap{K: 12}); e != 1 {
		t.Errorf("Put: %d", e)
	}
	if _, e := cap.Get(12, 0); e != 12 {
		t.Errorf("Get: %d", e)
	}
}

// The greatest words that there are.
func TestGreatest(t *testing.T) {
	c := api.Cap{K: api.CInv, R: api.RAll, T: 63, L: 63, E: 65535, A: 1 << 30}
	hold(t, c)
	if first, second, e := cap.Put(c); first != 1<<packed-9 || second != 1<<30 || e != api.OK {
		t.Errorf("%d, %d, %d", first, second, e)
	}
}

// Each number alone at its ends and behind them, and two of them together, of each kind.
func TestCheckEnds(t *testing.T) {
	most := [5]int{31, 63, 63, 65535, 1 << 30}
	of := func(k int, v [5]int) api.Cap {
		return api.Cap{K: k, R: v[0], T: v[1], L: v[2], E: v[3], A: v[4]}
	}
	for _, k := range kinds() {
		for _, base := range [][5]int{{}, {0, 0, 0, 0, 1}, {31, 63, 0, 0, 0}, {31, 63, 0, 0, 1}, {31, 63, 63, 65535, 0}, most} {
			for i := range base {
				for _, v := range ends(most[i]) {
					one := base
					one[i] = v
					hold(t, of(k, one))
					for j := range i {
						for _, v := range ends(most[j]) {
							two := one
							two[j] = v
							hold(t, of(k, two))
						}
					}
				}
			}
		}
	}
}

// Every mix of small and great numbers, of every kind.
func TestCheckMixes(t *testing.T) {
	count := 0
	for k := -1; k <= last+5; k++ {
		for _, r := range []int{-1, 0, 1, 16, 31, 32} {
			for _, f := range []int{-1, 0, 1, 62, 63, 64} {
				for _, l := range []int{-1, 0, 1, 63, 64} {
					for _, e := range []int{-1, 0, 1, 65535, 65536} {
						for _, a := range []int{-1, 0, 1, 2, 63, 64, 65, 1 << 30, 1<<30 + 1} {
							c := api.Cap{K: k, R: r, T: f, L: l, E: e, A: a}
							hold(t, c)
							if right(c) {
								count++
							}
						}
					}
				}
			}
		}
	}
	if count == 0 {
		t.Error("none was right")
	}
}

// What the chapter says of each kind, with words of its own for each refusal.
func TestCheckRefuses(t *testing.T) {
	for name, c := range map[string]api.Cap{
		"a kind below":              {K: -1},
		"a kind behind":             {K: 12},
		"none with rights":          {R: 1},
		"none with a frame":         {T: 1},
		"none with an id":           {L: 1},
		"none with an epoch":        {E: 1},
		"none with an amount":       {A: 1},
		"quiet with rights":         {K: api.CQuiet, R: 1},
		"quiet with a frame":        {K: api.CQuiet, T: 1},
		"quiet with an id":          {K: api.CQuiet, L: 1},
		"quiet with an epoch":       {K: api.CQuiet, E: 1},
		"quiet behind the last":     {K: api.CQuiet, A: api.MaxTime + 1},
		"memory with an id":         {K: api.CMem, L: 1, A: 1},
		"memory with an epoch":      {K: api.CMem, E: 1, A: 1},
		"memory of no frame":        {K: api.CMem},
		"memory with one too much":  {K: api.CMem, T: 60, A: 5},
		"memory of too many":        {K: api.CMem, A: 65},
		"memory that would wrap":    {K: api.CMem, T: 63, A: math.MaxInt},
		"a table with an id":        {K: api.CTbl, L: 1},
		"mappings with an epoch":    {K: api.CPgt, E: 1},
		"a component at a place":    {K: api.CComp, A: 1},
		"a thread with an id":       {K: api.CThd, L: 1},
		"to call at none":           {K: api.CInv, A: -1},
		"to call behind the last":   {K: api.CInv, A: api.MaxTime + 1},
		"a budget with an amount":   {K: api.CTcap, A: 1},
		"an endpoint with an epoch": {K: api.CRcv, E: 1},
		"to send with an id":        {K: api.CSnd, L: 1},
		"lines of a frame":          {K: api.CHw, T: 1},
		"lines with an id":          {K: api.CHw, L: 1},
		"lines with an epoch":       {K: api.CHw, E: 1},
		"lines with an amount":      {K: api.CHw, A: 1},
	} {
		if e := cap.Check(c); e != api.ErrArg {
			t.Errorf("%s: %d", name, e)
		}
		hold(t, c)
	}
}

// All frames from which memory can begin, and as many of them as any.
func TestMemFrames(t *testing.T) {
	count := 0
	for f := -2; f <= 66; f++ {
		for a := -2; a <= 66; a++ {
			c := api.Cap{K: api.CMem, R: api.RAll, T: f, A: a}
			hold(t, c)
			if cap.Check(c) == api.OK {
				count++
			}
		}
	}
	if count != 64*65/2 {
		t.Errorf("%d are right", count)
	}
}

func TestWrongOnesHaveNoWords(t *testing.T) {
	all := wrong()
	if len(all) == 0 {
		t.Fatal("none is wrong")
	}
	for _, c := range all {
		hold(t, c)
	}
}

// No two that are right have the same words.
func TestWordsDiffer(t *testing.T) {
	had := map[[2]uint64]api.Cap{}
	for _, c := range some() {
		first, second, e := cap.Put(c)
		if e != api.OK {
			t.Fatalf("%v: %d", c, e)
		}
		if other, ok := had[[2]uint64{first, second}]; ok {
			t.Fatalf("%v and %v have the same words", c, other)
		}
		had[[2]uint64{first, second}] = c
	}
}

// Every kind, right and frame that the first word can say, with the ends of the others.
func TestGetAllWords(t *testing.T) {
	for low := range uint64(1 << 15) {
		for _, l := range []uint64{0, 1, 63} {
			for _, e := range []uint64{0, 1, 65535} {
				for _, a := range []uint64{0, 1, 64 - low>>9, 65 - low>>9, 1 << 30, 1<<30 + 1} {
					holdWords(t, low|l<<15|e<<21, a)
				}
			}
		}
	}
}

// Every epoch and id, of what lives.
func TestGetAllThatLive(t *testing.T) {
	for epoch := range uint64(1 << 16) {
		holdWords(t, 5|31<<4|63<<9|(epoch%64)<<15|epoch<<21, 0)
		holdWords(t, 7|(63-epoch%64)<<15|epoch<<21, epoch)
	}
}

func TestGetBitsBeyond(t *testing.T) {
	for _, c := range some() {
		first, second := words(c)
		for bit := range 64 {
			holdWords(t, first^1<<bit, second)
			holdWords(t, first, second^1<<bit)
			if bit < packed {
				continue
			}
			if back, e := cap.Get(first|1<<bit, second); back != (api.Cap{}) || e != api.ErrForm {
				t.Fatalf("%v with bit %d: %v, %d", c, bit, back, e)
			}
		}
		holdWords(t, first|(math.MaxUint64-(1<<packed-1)), second)
	}
	holdWords(t, math.MaxUint64, math.MaxUint64)
}

// A second word is held against the limit whole, not by its lower half or as a number
// with a sign.
func TestGetSecondWord(t *testing.T) {
	for k := range uint64(16) {
		for _, a := range []uint64{0, 1, 63, 64, 65, 1<<30 - 1, 1 << 30, 1<<30 + 1, 1 << 31, 1<<32 - 1, 1 << 32, 1<<32 + 1, 1<<63 - 1, 1 << 63, 1<<63 + 1, math.MaxUint64 - 1, math.MaxUint64} {
			holdWords(t, k, a)
			if a <= 1<<30 {
				continue
			}
			if c, e := cap.Get(k, a); c != (api.Cap{}) || e != api.ErrForm {
				t.Errorf("Get(%d, %d): %v, %d", k, a, c, e)
			}
		}
	}
}

// Words of kinds that there are not, and of numbers that must be 0.
func TestGetRefuses(t *testing.T) {
	for name, w := range map[string][2]uint64{
		"kind 12":                  {12, 0},
		"kind 15":                  {15, 0},
		"none with a right":        {1 << 4, 0},
		"none with an amount":      {0, 1},
		"quiet with a frame":       {1 | 1<<9, 7},
		"memory of no frame":       {2 | 31<<4, 0},
		"memory that does not fit": {2 | 63<<9, 2},
		"memory with an id":        {2 | 1<<15, 1},
		"a table with an epoch":    {3 | 1<<21, 0},
		"a component at a place":   {5, 1},
		"lines of a frame":         {11 | 1<<9, 0},
		"the first bit beyond":     {1 << packed, 0},
		"the last bit beyond":      {3 | 1<<63, 0},
	} {
		if c, e := cap.Get(w[0], w[1]); c != (api.Cap{}) || e != api.ErrForm {
			t.Errorf("%s: %v, %d", name, c, e)
		}
	}
}

func TestWeaken(t *testing.T) {
	c := api.Cap{K: api.CInv, R: 21, T: 1, L: 2, E: 3, A: 4}
	for r, want := range map[int]int{0: 0, 1: 1, 2: 0, 5: 5, 10: 0, 21: 21, 31: 21, 32: 0, 1<<32 | 4: 4, -1: 21, -2: 20, math.MinInt: 0, math.MaxInt: 21} {
		got := cap.Weaken(c, r)
		if got != (api.Cap{K: api.CInv, R: want, T: 1, L: 2, E: 3, A: 4}) {
			t.Errorf("by %d: %v", r, got)
		}
	}
}

// Of any rights the bits of both are left, and all else stays, be it right or not.
func TestWeakenBits(t *testing.T) {
	for _, c := range append(some(), wrong()...) {
		for _, r := range append(outside(), 0, 1, 2, 7, 21, 30, 31, 32, 63) {
			got := cap.Weaken(c, r)
			for bit := range 64 {
				both := c.R>>bit&1 == 1 && r>>bit&1 == 1
				if got.R>>bit&1 == 1 != both {
					t.Fatalf("Weaken(%v, %d): %v", c, r, got)
				}
			}
			got.R = c.R
			if got != c {
				t.Fatalf("Weaken(%v, %d): %v but for the rights", c, r, got)
			}
		}
	}
}

// What is weakened stays right, and is under what it was, if that is above CQuiet.
func TestWeakenedIsUnder(t *testing.T) {
	for _, c := range some() {
		for _, r := range append(outside(), 0, 1, 2, 4, 8, 16, 21, 31, 32) {
			w := cap.Weaken(c, r)
			if cap.Check(w) != api.OK {
				t.Fatalf("Weaken(%v, %d) is not right: %v", c, r, w)
			}
			if got := cap.Under(w, c); got != (c.K > api.CQuiet) {
				t.Fatalf("Weaken(%v, %d) under it: %v", c, r, got)
			}
			if w.R != c.R && cap.Under(c, w) {
				t.Fatalf("%v is under what it was weakened to by %d", c, r)
			}
		}
	}
	for _, c := range wrong() {
		if cap.Under(cap.Weaken(c, -1), c) {
			t.Fatalf("%v is not right", c)
		}
	}
}

func TestUnderRights(t *testing.T) {
	for k := range last + 1 {
		for r := range 32 {
			for s := range 32 {
				a, b := api.Cap{K: k, R: r}, api.Cap{K: k, R: s}
				if k == api.CMem {
					a.A, b.A = 1, 1
				}
				holdUnder(t, a, b)
				if got := cap.Under(a, b); got != (k >= 2 && r|s == s) {
					t.Fatalf("Under(%v, %v): %v", a, b, got)
				}
			}
		}
	}
}

// All frames of memory among all frames of memory.
func TestUnderFrames(t *testing.T) {
	for f := range 64 {
		for n := 1; n <= 64-f; n++ {
			for g := range 64 {
				for m := 1; m <= 64-g; m++ {
					a, b := api.Cap{K: api.CMem, T: f, A: n}, api.Cap{K: api.CMem, T: g, A: m}
					if got := cap.Under(a, b); got != (f >= g && f+n <= g+m) {
						t.Fatalf("Under(%v, %v): %v", a, b, got)
					}
				}
			}
		}
	}
}

// Frames that are among are of no use with a right too many, and the other way round.
func TestUnderFramesAndRights(t *testing.T) {
	b := api.Cap{K: api.CMem, R: 7, T: 4, A: 10}
	for f := range 17 {
		for n := range 17 {
			for r := range 32 {
				holdUnder(t, api.Cap{K: api.CMem, R: r, T: f, A: n}, b)
				holdUnder(t, b, api.Cap{K: api.CMem, R: r, T: f, A: n})
			}
		}
	}
}

func TestUnderPairs(t *testing.T) {
	all := some()
	count := 0
	for _, a := range all {
		for _, b := range all {
			holdUnder(t, a, b)
			if cap.Under(a, b) {
				count++
			}
		}
	}
	if count == 0 {
		t.Error("none is under another")
	}
}

// Each is under itself, but for none and for one that was.
func TestUnderItself(t *testing.T) {
	for _, c := range some() {
		if got := cap.Under(c, c); got != (c.K > api.CQuiet) {
			t.Errorf("Under(%v, %v): %v", c, c, got)
		}
	}
}

// All else must be the same: one number that differs is enough.
func TestUnderDiffers(t *testing.T) {
	b := api.Cap{K: api.CInv, R: 31, T: 5, L: 6, E: 7, A: 8}
	for _, a := range []api.Cap{
		{K: api.CInv, R: 1, T: 4, L: 6, E: 7, A: 8},
		{K: api.CInv, R: 1, T: 5, L: 5, E: 7, A: 8},
		{K: api.CInv, R: 1, T: 5, L: 6, E: 6, A: 8},
		{K: api.CInv, R: 1, T: 5, L: 6, E: 7, A: 7},
		{K: api.CComp, R: 1, T: 5, L: 6, E: 7},
	} {
		if cap.Under(a, b) || cap.Under(b, a) {
			t.Errorf("%v and %v", a, b)
		}
	}
	if !cap.Under(api.Cap{K: api.CInv, R: 1, T: 5, L: 6, E: 7, A: 8}, b) {
		t.Error("the same with fewer rights")
	}
	if cap.Under(api.Cap{K: api.CRcv, T: 5}, api.Cap{K: api.CSnd, T: 5}) {
		t.Error("of another kind")
	}
}

// One that is not right is under none, not even under itself, and none is under it.
func TestUnderWrong(t *testing.T) {
	few := []api.Cap{{K: api.CMem, R: 31, A: 64}, {K: api.CTbl, R: 31, T: 3}, {K: api.CInv, R: 31, T: 3}, {K: api.CHw, R: 31}}
	for _, c := range wrong() {
		if cap.Under(c, c) {
			t.Fatalf("%v under itself", c)
		}
		for _, d := range few {
			if cap.Under(c, d) || cap.Under(d, c) {
				t.Fatalf("%v and %v", c, d)
			}
		}
	}
	wide := api.Cap{K: api.CMem, R: 31, T: 0, A: 65}
	if cap.Under(api.Cap{K: api.CMem, R: 1, T: 0, A: 1}, wide) {
		t.Error("among frames that there are not")
	}
	if cap.Under(api.Cap{K: api.CMem, R: 1, T: 3, A: 0}, api.Cap{K: api.CMem, R: 1, T: 3, A: 1}) {
		t.Error("no frame")
	}
}

// What is under what is under is under.
func TestUnderUnder(t *testing.T) {
	var all []api.Cap
	for k := range last + 1 {
		for _, r := range []int{0, 1, 3, 6, 7} {
			for _, c := range []api.Cap{{K: k, R: r}, {K: k, R: r, T: 1}, {K: k, R: r, A: 1}, {K: k, R: r, A: 3}, {K: k, R: r, T: 1, A: 1}, {K: k, R: r, T: 1, A: 2}, {K: k, R: r, L: 1}, {K: k, R: r, E: 1}} {
				all = append(all, c)
			}
		}
	}
	for _, b := range all {
		var below, above []api.Cap
		for _, c := range all {
			if cap.Under(c, b) {
				below = append(below, c)
			}
			if cap.Under(b, c) {
				above = append(above, c)
			}
		}
		for _, a := range below {
			for _, c := range above {
				if !cap.Under(a, c) {
					t.Fatalf("%v under %v under %v", a, b, c)
				}
			}
		}
	}
}

// Two that are under each other are the same.
func TestUnderEachOther(t *testing.T) {
	all := some()
	for _, a := range all {
		for _, b := range all {
			if cap.Under(a, b) && cap.Under(b, a) && a != b {
				t.Fatalf("%v and %v", a, b)
			}
		}
	}
}

func TestLives(t *testing.T) {
	for _, k := range kinds() {
		for _, c := range []api.Cap{{K: k}, {K: k, R: 31, T: 3, L: 4, E: 5, A: 6}, {K: k, R: -1, T: 64, L: -1, E: -1, A: -1}} {
			if got := cap.Lives(c); got != (k == 5 || k == 7) {
				t.Errorf("Lives(%v): %v", c, got)
			}
		}
	}
}

// The frame that is needed is told as it stands there; beside false there is none.
func TestHolds(t *testing.T) {
	for _, k := range kinds() {
		for _, f := range append(outside(), 0, 1, 62, 63, 64) {
			c := api.Cap{K: k, R: 31, T: f, L: 4, E: 5, A: 6}
			want, ok := f, k >= 3 && k <= 10
			if !ok {
				want = 0
			}
			if got, holds := cap.Holds(c); got != want || holds != ok {
				t.Errorf("Holds(%v): %d, %v", c, got, holds)
			}
		}
	}
}

// Any numbers at all, near the ranges and far from them, and the same calls again.
func TestManyCalls(t *testing.T) {
	x := uint64(9)
	next := func() uint64 {
		x = x*6364136223846793005 + 1442695040888963407
		return x >> 11
	}
	near := func(most int) int {
		switch next() % 16 {
		case 0:
			return int(next()<<11 | next()%2048)
		case 1:
			return -int(next() % 4)
		case 2:
			return most + int(next()%4)
		case 3, 4, 5, 6, 7:
			return 0
		}
		return int(next() % uint64(most+1))
	}
	draw := func() api.Cap {
		return api.Cap{K: near(last), R: near(31), T: near(63), L: near(63), E: near(65535), A: near(66)}
	}
	b := draw()
	for range 300000 {
		a := draw()
		hold(t, a)
		holdUnder(t, a, b)
		holdUnder(t, b, a)
		w := cap.Weaken(a, int(next()))
		holdUnder(t, w, a)
		first := next() << (next() % 12) >> (next() % 40)
		holdWords(t, first, uint64(near(64)))
		holdWords(t, first%(1<<21), uint64(near(64)))
		if f, ok := cap.Holds(a); ok && f != a.T || !ok && f != 0 {
			t.Fatalf("Holds(%v): %d, %v", a, f, ok)
		}
		if again := cap.Check(a); again != cap.Check(a) {
			t.Fatalf("Check(%v): another answer", a)
		}
		if right(a) {
			b = a
		}
	}
}

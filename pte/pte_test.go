package pte_test

import (
	"math"
	"testing"

	"palanquin/api"
	"palanquin/pte"
)

// frames is how many frames there are, last the last time, packed how many bits of a word
// say something.
const (
	frames = 64
	last   = 1 << 30
	packed = 40
)

// right is what Check is held against: the chapter's words.
func right(p api.Pte) bool {
	switch {
	case p.On:
		return 0 <= p.F && p.F <= 63 && 1 <= p.R && p.R <= 3 && p.Time == 0
	default:
		return p.F == 0 && p.R == 0 && 0 <= p.Time && p.Time <= 1073741824
	}
}

// wordOf is that of a mapping that is right, by multiplying.
func wordOf(p api.Pte) uint64 {
	w := uint64(p.F)*2 + uint64(p.R)*128 + uint64(p.Time)*512
	if p.On {
		w++
	}
	return w
}

// pteOf is the mapping that a word would be of, if it were one's, by dividing.
func pteOf(w uint64) (api.Pte, bool) {
	p := api.Pte{On: w%2 == 1, F: int(w / 2 % 64), R: int(w / 128 % 4), Time: int(w / 512 % (1 << 31))}
	if w >= 1<<packed || !right(p) {
		return api.Pte{}, false
	}
	return p, true
}

// has tells whether the rights have all bits of r, bit by bit.
func has(rights int, r int) bool {
	for bit := range 64 {
		if uint64(r)>>bit%2 == 1 && uint64(rights)>>bit%2 == 0 {
			return false
		}
	}
	return true
}

// common is the bits that both have, bit by bit.
func common(a int, b int) int {
	n := 0
	for bit, v := range []int{1, 2} {
		if uint64(a)>>bit%2 == 1 && uint64(b)>>bit%2 == 1 {
			n += v
		}
	}
	return n
}

// far are numbers behind every range: at the ends of what an int holds, and such as come
// back into a range if they are cut to fewer bits.
func far() []int {
	out := []int{
		math.MinInt, math.MinInt + 1, math.MinInt + 2, math.MinInt + 3, math.MinInt + 64,
		math.MaxInt, math.MaxInt - 1, math.MaxInt - 2, math.MaxInt - 3, math.MaxInt - 64,
		math.MinInt32 - 1, math.MinInt32, math.MaxInt32, math.MaxInt32 + 1, math.MaxUint32, math.MaxUint32 + 1,
		last + 1, last + 2, 2*last - 1, 2 * last, 2*last + 1, 3 * last,
	}
	for bit := 31; bit < 63; bit++ {
		for _, more := range []int{0, 1, 3} {
			out = append(out, 1<<bit+more, -1<<bit+more, -1<<bit-more)
		}
	}
	return out
}

// rightsAsked are those that may be asked for: none, all, more than there are, below 0.
func rightsAsked() []int {
	out := far()
	for r := -40; r <= 40; r++ {
		out = append(out, r)
	}
	for bit := range 63 {
		for _, more := range []int{0, 1, 2, 3} {
			out = append(out, 1<<bit|more)
		}
	}
	return out
}

func someFrames() []int {
	return append(far(), -65, -64, -2, -1, 0, 1, 2, 3, 31, 32, 62, 63, 64, 65, 66, 127, 128, 129, 256, last-1, last)
}

func someRights() []int {
	return append(far(), -8, -5, -4, -3, -2, -1, 0, 1, 2, 3, 4, 5, 6, 7, 8, 9, 16, 31, 32, 128, last-1, last)
}

func someTimes() []int {
	return append(far(), -512, -2, -1, 0, 1, 2, 3, 5, 63, 64, 511, 512, last/2, last-2, last-1, last)
}

// mapped are all mappings that are On and right.
func mapped() []api.Pte {
	var all []api.Pte
	for f := range frames {
		for r := 1; r <= 3; r++ {
			all = append(all, api.Pte{On: true, F: f, R: r})
		}
	}
	return all
}

// unmapped are mappings that are not On, and right: every small time, and those about the
// powers of 2 and at the end.
func unmapped() []api.Pte {
	var all []api.Pte
	for n := range 600 {
		all = append(all, api.Pte{Time: n})
	}
	for bit := 10; bit <= 30; bit++ {
		all = append(all, api.Pte{Time: 1<<bit - 1}, api.Pte{Time: 1 << bit})
		if bit < 30 {
			all = append(all, api.Pte{Time: 1<<bit + 1})
		}
	}
	return all
}

// wrong are mappings of which one number is not as it must be, or several are not.
func wrong() []api.Pte {
	var all []api.Pte
	few := []int{math.MinInt, math.MinInt + 3, -1 << 32, -64, -3, -1, 0, 1, 3, 4, 63, 64, last, last + 1, 1 << 32, 1<<32 + 1, math.MaxInt}
	for _, on := range []bool{false, true} {
		for _, f := range few {
			for _, r := range few {
				for _, n := range few {
					if p := (api.Pte{On: on, F: f, R: r, Time: n}); !right(p) {
						all = append(all, p)
					}
				}
			}
		}
	}
	return all
}

// hold holds Check and Put of p, and Get of what Put answers, against the model.
func hold(t *testing.T, p api.Pte) {
	e := pte.Check(p)
	w, pe := pte.Put(p)
	if !right(p) {
		if e != api.ErrArg || w != 0 || pe != api.ErrArg {
			t.Fatalf("%v is not right: Check %d, Put %d, %d", p, e, w, pe)
		}
		return
	}
	if e != api.OK || w != wordOf(p) || pe != api.OK {
		t.Fatalf("%v: Check %d, Put %d, %d, not %d", p, e, w, pe, wordOf(p))
	}
	if back, e := pte.Get(w); back != p || e != api.OK {
		t.Fatalf("%v: Get of Put: %v, %d", p, back, e)
	}
}

// holdWord holds Get of a word, and Put of what it answers, against the model.
func holdWord(t *testing.T, w uint64) {
	p, e := pte.Get(w)
	want, ok := pteOf(w)
	if !ok {
		if p != (api.Pte{}) || e != api.ErrForm {
			t.Fatalf("Get(%d): %v, %d", w, p, e)
		}
		return
	}
	if p != want || e != api.OK {
		t.Fatalf("Get(%d): %v, %d, not %v", w, p, e, want)
	}
	if back, e := pte.Put(p); back != w || e != api.OK {
		t.Fatalf("Put of Get(%d): %d, %d", w, back, e)
	}
}

// holdRights holds Allows and Less of p against the model.
func holdRights(t *testing.T, p api.Pte, r int) {
	maps := right(p) && p.On
	if got := pte.Allows(p, r); got != (maps && has(p.R, r)) {
		t.Fatalf("Allows(%v, %d): %v", p, r, got)
	}
	less, e := pte.Less(p, r)
	left := common(p.R, r)
	if !maps || left == 0 {
		if less != (api.Pte{}) || e != api.ErrArg {
			t.Fatalf("Less(%v, %d): %v, %d", p, r, less, e)
		}
		return
	}
	if less != (api.Pte{On: true, F: p.F, R: left}) || e != api.OK {
		t.Fatalf("Less(%v, %d): %v, %d", p, r, less, e)
	}
}

// holdQuiet holds Quiet of p against the model.
func holdQuiet(t *testing.T, p api.Pte, floor int) {
	want := right(p) && !p.On
	if want && p.Time > 0 && floor <= p.Time {
		want = false
	}
	if got := pte.Quiet(p, floor); got != want {
		t.Fatalf("Quiet(%v, %d): %v", p, floor, got)
	}
}

func TestExample(t *testing.T) {
	p := api.Pte{On: true, F: 3, R: api.RRead}
	if w, e := pte.Put(p); w != 1+3*2+1*128 || e != api.OK {
		t.Errorf("Put: %d, %d", w, e)
	}
	if back, e := pte.Get(135); back != p || e != api.OK {
		t.Errorf("Get: %v, %d", back, e)
	}
}

// The chapter gives the errors by their numbers.
func TestErrorsNumbers(t *testing.T) {
	if e := pte.Check(api.Pte{On: true}); e != 1 {
		t.Errorf("Check: %d", e)
	}
	if _, e := pte.Put(api.Pte{On: true}); e != 1 {
		t.Errorf("Put: %d", e)
	}
	if _, e := pte.Less(api.Pte{}, 3); e != 1 {
		t.Errorf("Less: %d", e)
	}
	if _, e := pte.Get(1); e != 12 {
		t.Errorf("Get: %d", e)
	}
}

// Words written out, of mappings at the ends.
func TestWordsAtTheEnds(t *testing.T) {
	for _, c := range []struct {
		p api.Pte
		w uint64
	}{
		{api.Pte{}, 0},
		{api.Pte{Time: 1}, 512},
		{api.Pte{Time: last - 1}, 549755813376},
		{api.Pte{Time: last}, 549755813888},
		{api.Pte{On: true, F: 0, R: 1}, 129},
		{api.Pte{On: true, F: 0, R: 2}, 257},
		{api.Pte{On: true, F: 0, R: 3}, 385},
		{api.Pte{On: true, F: 1, R: 1}, 131},
		{api.Pte{On: true, F: 63, R: 1}, 255},
		{api.Pte{On: true, F: 63, R: 3}, 511},
	} {
		if w, e := pte.Put(c.p); w != c.w || e != api.OK {
			t.Errorf("Put(%v): %d, %d, not %d", c.p, w, e, c.w)
		}
		if p, e := pte.Get(c.w); p != c.p || e != api.OK {
			t.Errorf("Get(%d): %v, %d, not %v", c.w, p, e, c.p)
		}
	}
}

// What the chapter says of each part, with words of its own for each refusal.
func TestCheckRefuses(t *testing.T) {
	for name, p := range map[string]api.Pte{
		"on, a frame below":             {On: true, F: -1, R: 1},
		"on, a frame behind":            {On: true, F: 64, R: 1},
		"on, no rights":                 {On: true, F: 3},
		"on, rights below":              {On: true, F: 3, R: -1},
		"on, more rights":               {On: true, F: 3, R: 4},
		"on, more rights and these":     {On: true, F: 3, R: 7},
		"on, a time":                    {On: true, F: 3, R: 1, Time: 1},
		"on, the last time":             {On: true, F: 3, R: 1, Time: last},
		"on, a time below":              {On: true, F: 3, R: 1, Time: -1},
		"on, frame and rights":          {On: true, F: 64, R: 4},
		"on, frame and time":            {On: true, F: -1, R: 1, Time: 1},
		"on, rights and time":           {On: true, F: 3, Time: 1},
		"on, all":                       {On: true, F: 64, R: 4, Time: -1},
		"not on, a frame":               {F: 1},
		"not on, the last frame":        {F: 63},
		"not on, a frame below":         {F: -1},
		"not on, rights":                {R: 1},
		"not on, all rights":            {R: 3},
		"not on, rights below":          {R: -1},
		"not on, a time below":          {Time: -1},
		"not on, a time behind":         {Time: last + 1},
		"not on, the greatest that fit": {Time: 1<<31 - 1},
		"not on, one that does not fit": {Time: 1 << 31},
		"not on, a frame and a time":    {F: 1, Time: 5},
		"not on, rights and a time":     {R: 1, Time: 5},
		"not on, a frame and rights":    {F: 3, R: 1},
		"not on, all":                   {F: 64, R: 4, Time: -1},
	} {
		if e := pte.Check(p); e != api.ErrArg {
			t.Errorf("%s: %d", name, e)
		}
		if w, e := pte.Put(p); w != 0 || e != api.ErrArg {
			t.Errorf("%s: Put: %d, %d", name, w, e)
		}
		for _, r := range []int{0, 1, 2, 3, -1} {
			holdRights(t, p, r)
			holdQuiet(t, p, r)
		}
		holdQuiet(t, p, math.MaxInt)
	}
}

// Every part at its ends and behind them with every other so, On and not.
func TestCheckMixes(t *testing.T) {
	count := 0
	for _, on := range []bool{false, true} {
		for _, f := range someFrames() {
			for _, r := range someRights() {
				for _, n := range someTimes() {
					p := api.Pte{On: on, F: f, R: r, Time: n}
					hold(t, p)
					if right(p) {
						count++
					}
				}
			}
		}
	}
	if count == 0 {
		t.Error("none was right")
	}
}

// Every frame near the range with every right near it, and no more of them than there are.
func TestFramesAndRights(t *testing.T) {
	count := 0
	for f := -200; f <= 200; f++ {
		for r := -20; r <= 20; r++ {
			for _, n := range []int{-1, 0, 1, last} {
				p := api.Pte{On: true, F: f, R: r, Time: n}
				hold(t, p)
				if pte.Check(p) == api.OK {
					count++
				}
				p.On = false
				hold(t, p)
			}
		}
	}
	if count != frames*3 {
		t.Errorf("%d are right", count)
	}
}

// Every frame with every right, and its word counted up.
func TestAllMapped(t *testing.T) {
	for r := range 3 {
		for f := range frames {
			p := api.Pte{On: true, F: f, R: r + 1}
			hold(t, p)
			if w, e := pte.Put(p); w != uint64(129+128*r+2*f) || e != api.OK {
				t.Fatalf("Put(%v): %d, %d", p, w, e)
			}
		}
	}
}

func TestTimes(t *testing.T) {
	for _, p := range unmapped() {
		hold(t, p)
		if w, e := pte.Put(p); w != uint64(p.Time)<<9 || e != api.OK {
			t.Fatalf("Put(%v): %d, %d", p, w, e)
		}
	}
	for n := -5000; n <= 5000; n++ {
		hold(t, api.Pte{Time: n})
		hold(t, api.Pte{Time: last + n})
		hold(t, api.Pte{Time: 2*last + n})
	}
}

func TestWrongOnesHaveNoWord(t *testing.T) {
	all := wrong()
	if len(all) == 0 {
		t.Fatal("none is wrong")
	}
	for _, p := range all {
		hold(t, p)
	}
}

// No two that are right have the same word.
func TestWordsDiffer(t *testing.T) {
	had := map[uint64]api.Pte{}
	for _, p := range append(mapped(), unmapped()...) {
		w, e := pte.Put(p)
		if e != api.OK {
			t.Fatalf("%v: %d", p, e)
		}
		if other, ok := had[w]; ok {
			t.Fatalf("%v and %v have the same word", p, other)
		}
		had[w] = p
	}
}

// Every word whose time is small, and every frame, right and On beside times at the ends.
func TestGetAllWords(t *testing.T) {
	for w := range uint64(1 << 18) {
		holdWord(t, w)
	}
	for low := range uint64(512) {
		for _, n := range someTimes() {
			holdWord(t, low|uint64(n)<<9)
			holdWord(t, low|uint64(n)&(1<<31-1)<<9)
		}
	}
}

// A word of a right mapping with any one bit, or any two, turned round.
func TestGetBitsTurned(t *testing.T) {
	for _, p := range append(mapped(), unmapped()...) {
		w := wordOf(p)
		for bit := range 64 {
			holdWord(t, w^1<<bit)
			for other := range bit {
				holdWord(t, w^1<<bit^1<<other)
			}
		}
	}
}

func TestGetBitsBehind(t *testing.T) {
	for _, p := range append(mapped(), unmapped()...) {
		for bit := packed; bit < 64; bit++ {
			if got, e := pte.Get(wordOf(p) | 1<<bit); got != (api.Pte{}) || e != api.ErrForm {
				t.Fatalf("%v with the bit %d: %v, %d", p, bit, got, e)
			}
		}
	}
}

// Parts that do not go with one another, each in a word's bits alone.
func TestGetRefuses(t *testing.T) {
	for name, w := range map[string]uint64{
		"on alone":                      1,
		"on, a frame, no rights":        1 | 3<<1,
		"on, the last frame, no rights": 1 | 63<<1,
		"on, a time":                    1 | 3<<1 | 1<<7 | 1<<9,
		"on, the last time":             1 | 3<<1 | 1<<7 | last<<9,
		"on, no rights, a time":         1 | 3<<1 | 5<<9,
		"not on, a frame":               1 << 1,
		"not on, the last frame":        63 << 1,
		"not on, rights to read":        1 << 7,
		"not on, rights to write":       2 << 7,
		"not on, both rights":           3 << 7,
		"not on, a frame and rights":    3<<1 | 1<<7,
		"not on, a frame and a time":    3<<1 | 5<<9,
		"not on, rights and a time":     1<<7 | 5<<9,
		"not on, a time behind":         (last + 1) << 9,
		"not on, the greatest time":     (1<<31 - 1) << 9,
		"not on, a time that is cut":    1 << 40,
		"on, a bit behind":              135 | 1<<40,
		"on, the last bit":              135 | 1<<63,
		"not on, the last bit":          1 << 63,
		"all bits of the parts":         1<<40 - 1,
		"all bits":                      math.MaxUint64,
		"all bits but On":               math.MaxUint64 - 1,
	} {
		if p, e := pte.Get(w); p != (api.Pte{}) || e != api.ErrForm {
			t.Errorf("%s: %v, %d", name, p, e)
		}
	}
}

// How many words of the low bits are one's: all frames with all rights, and none at all.
func TestGetCount(t *testing.T) {
	count := 0
	for w := range uint64(512) {
		if _, e := pte.Get(w); e == api.OK {
			count++
		}
	}
	if count != frames*3+1 {
		t.Errorf("%d words are right", count)
	}
}

// All rights against all that may be asked, written out.
func TestRightsWrittenOut(t *testing.T) {
	for _, c := range []struct {
		have, ask int
		allows    bool
		left      int
	}{
		{1, 0, true, 0}, {1, 1, true, 1}, {1, 2, false, 0}, {1, 3, false, 1},
		{2, 0, true, 0}, {2, 1, false, 0}, {2, 2, true, 2}, {2, 3, false, 2},
		{3, 0, true, 0}, {3, 1, true, 1}, {3, 2, true, 2}, {3, 3, true, 3},
		{3, 4, false, 0}, {3, 5, false, 1}, {3, 6, false, 2}, {3, 7, false, 3},
		{3, api.RAll, false, 3}, {1, api.RAll, false, 1},
		{3, -1, false, 3}, {1, -1, false, 1}, {2, -2, false, 2}, {3, -2, false, 2}, {1, -2, false, 0},
		{3, -3, false, 1}, {3, -4, false, 0}, {3, math.MinInt, false, 0}, {3, math.MaxInt, false, 3},
		{3, math.MinInt + 1, false, 1}, {2, math.MaxInt - 1, false, 2}, {1, math.MaxInt - 1, false, 0},
		{3, 1<<32 + 1, false, 1}, {3, 1 << 32, false, 0},
	} {
		p := api.Pte{On: true, F: 3, R: c.have}
		if got := pte.Allows(p, c.ask); got != c.allows {
			t.Errorf("Allows: %d of %d: %v", c.ask, c.have, got)
		}
		less, e := pte.Less(p, c.ask)
		want, we := api.Pte{On: true, F: 3, R: c.left}, api.OK
		if c.left == 0 {
			want, we = api.Pte{}, api.ErrArg
		}
		if less != want || e != we {
			t.Errorf("Less: %d of %d: %v, %d", c.ask, c.have, less, e)
		}
	}
}

func TestRights(t *testing.T) {
	for _, p := range mapped() {
		for _, r := range rightsAsked() {
			holdRights(t, p, r)
		}
	}
	for _, p := range unmapped() {
		for _, r := range []int{math.MinInt, -1, 0, 1, 2, 3, 4, 7, math.MaxInt} {
			holdRights(t, p, r)
		}
	}
}

// What is not right allows nothing, not even no right, and nothing is left of it.
func TestRightsOfWrongOnes(t *testing.T) {
	for _, p := range wrong() {
		for _, r := range []int{math.MinInt, -4, -1, 0, 1, 2, 3, 4, 7, 31, math.MaxInt, p.R} {
			if pte.Allows(p, r) {
				t.Fatalf("Allows(%v, %d)", p, r)
			}
			if less, e := pte.Less(p, r); less != (api.Pte{}) || e != api.ErrArg {
				t.Fatalf("Less(%v, %d): %v, %d", p, r, less, e)
			}
		}
	}
}

// What is less is right, allows what it has, never more than what it is less than, and is
// less no further by the same rights.
func TestLessGrowsNot(t *testing.T) {
	for _, p := range mapped() {
		for _, r := range rightsAsked() {
			less, e := pte.Less(p, r)
			if e != api.OK {
				continue
			}
			if pte.Check(less) != api.OK || !pte.Allows(less, less.R) || !pte.Allows(p, less.R) {
				t.Fatalf("Less(%v, %d): %v", p, r, less)
			}
			for ask := range 8 {
				if pte.Allows(less, ask) && !pte.Allows(p, ask) {
					t.Fatalf("Less(%v, %d) allows %d", p, r, ask)
				}
			}
			if again, e := pte.Less(less, r); again != less || e != api.OK {
				t.Fatalf("Less(%v, %d) again: %v, %d", p, r, again, e)
			}
			if same, e := pte.Less(p, p.R); same != p || e != api.OK {
				t.Fatalf("Less(%v) by its own: %v, %d", p, same, e)
			}
		}
	}
}

func TestQuietWrittenOut(t *testing.T) {
	for _, c := range []struct {
		p     api.Pte
		floor int
		want  bool
	}{
		{api.Pte{}, 0, true},
		{api.Pte{}, 1, true},
		{api.Pte{}, -1, true},
		{api.Pte{}, math.MinInt, true},
		{api.Pte{}, math.MaxInt, true},
		{api.Pte{Time: 1}, 0, false},
		{api.Pte{Time: 1}, 1, false},
		{api.Pte{Time: 1}, 2, true},
		{api.Pte{Time: 1}, -1, false},
		{api.Pte{Time: 5}, 4, false},
		{api.Pte{Time: 5}, 5, false},
		{api.Pte{Time: 5}, 6, true},
		{api.Pte{Time: 5}, math.MinInt, false},
		{api.Pte{Time: 5}, math.MinInt + 5, false},
		{api.Pte{Time: 5}, math.MaxInt, true},
		{api.Pte{Time: last}, last - 1, false},
		{api.Pte{Time: last}, last, false},
		{api.Pte{Time: last}, last + 1, true},
		{api.Pte{Time: last}, math.MinInt, false},
		{api.Pte{Time: last}, math.MaxInt, true},
		{api.Pte{Time: last + 1}, math.MaxInt, false},
		{api.Pte{Time: -1}, 0, false},
		{api.Pte{Time: -1}, 5, false},
		{api.Pte{Time: math.MinInt}, 5, false},
		{api.Pte{F: 1}, 5, false},
		{api.Pte{R: 1}, 5, false},
		{api.Pte{F: 1, Time: 4}, 5, false},
		{api.Pte{R: 1, Time: 4}, 5, false},
		{api.Pte{On: true, F: 3, R: 1}, 0, false},
		{api.Pte{On: true, F: 3, R: 1}, 9, false},
		{api.Pte{On: true, F: 3, R: 1, Time: 4}, 9, false},
		{api.Pte{On: true}, 9, false},
	} {
		if got := pte.Quiet(c.p, c.floor); got != c.want {
			t.Errorf("Quiet(%v, %d): %v", c.p, c.floor, got)
		}
	}
}

// Floors about each time, and at the ends of what an int holds.
func TestQuiet(t *testing.T) {
	for _, p := range append(mapped(), unmapped()...) {
		for near := -3; near <= 3; near++ {
			holdQuiet(t, p, p.Time+near)
			holdQuiet(t, p, near)
			holdQuiet(t, p, -p.Time+near)
		}
		for _, floor := range someTimes() {
			holdQuiet(t, p, floor)
		}
	}
}

func TestQuietOfWrongOnes(t *testing.T) {
	for _, p := range wrong() {
		for _, floor := range []int{math.MinInt, -1, 0, 1, 2, last, last + 1, last + 2, math.MaxInt, p.Time} {
			if pte.Quiet(p, floor) {
				t.Fatalf("Quiet(%v, %d)", p, floor)
			}
		}
	}
}

// What is quiet for a floor is so for each that is greater; what maps is never, and allows
// what it has; what does not map allows nothing.
func TestQuietOrMapped(t *testing.T) {
	for _, p := range unmapped() {
		was := false
		for _, floor := range []int{math.MinInt, -1, 0, 1, 2, 63, 600, 1 << 20, last - 1, last, last + 1, math.MaxInt} {
			is := pte.Quiet(p, floor)
			if was && !is {
				t.Fatalf("%v is quiet no more for %d", p, floor)
			}
			was = is
		}
		if !was || pte.Allows(p, 0) {
			t.Fatalf("%v: quiet at last %v", p, was)
		}
	}
	for _, p := range mapped() {
		if pte.Quiet(p, math.MaxInt) || !pte.Allows(p, 0) || !pte.Allows(p, p.R) {
			t.Fatalf("%v", p)
		}
	}
}

// Any numbers at all, near the ranges and far from them, and the same calls again.
func TestManyCalls(t *testing.T) {
	x := uint64(14)
	next := func() uint64 {
		x = x*6364136223846793005 + 1442695040888963407
		return x >> 11
	}
	near := func(most int) int {
		switch next() % 16 {
		case 0:
			return int(next()<<11 | next()%2048)
		case 1:
			return -int(next() % 4)
		case 2:
			return most + int(next()%4)
		case 3, 4, 5, 6, 7, 8, 9:
			return 0
		}
		return int(next() % uint64(most+1))
	}
	for range 300000 {
		p := api.Pte{On: next()%2 == 0, F: near(63), R: near(3), Time: near(last)}
		hold(t, p)
		holdRights(t, p, near(3))
		holdRights(t, p, int(next()<<11|next()%2048))
		holdQuiet(t, p, near(last))
		holdQuiet(t, p, p.Time+int(next()%3)-1)
		w := next() << (next() % 12) >> (next() % 40)
		holdWord(t, w)
		holdWord(t, w%512)
		holdWord(t, w/512*512%(1<<packed))
		if pte.Check(p) != pte.Check(p) {
			t.Fatalf("Check(%v): another answer", p)
		}
	}
}

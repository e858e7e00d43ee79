package head_test

import (
	"math"
	"slices"
	"testing"

	"palanquin/api"
	"palanquin/head"
	"palanquin/mem"
)

// length is how many words a frame has.
const length = 36

// packed is how many bits of the first word say something.
const packed = 6

// right is what Check is held against: the chapter's words, kind by kind.
func right(h api.Head) bool {
	switch h.K {
	case 0, 3, 4, 5, 6:
		return h == api.Head{K: h.K}
	case 1:
		if h.Level != 0 && h.Level != 1 {
			return false
		}
		if h.Frozen {
			return h.Time >= 0 && h.Time <= 1<<30
		}
		return h.Time == 0
	case 2:
		return h == api.Head{K: 2} || h == api.Head{K: 2, Level: 1}
	}
	return false
}

// words are those of a head that is right, by multiplying.
func words(h api.Head) [4]uint64 {
	first := h.K + 16*h.Level
	if h.Frozen {
		first += 32
	}
	return [4]uint64{uint64(first), uint64(h.Time)}
}

// headOf is the head that words are of, by looking through all that can be of that time.
func headOf(w [4]uint64) (api.Head, bool) {
	if w[1] > 1<<30 {
		return api.Head{}, false
	}
	for k := range 7 {
		for level := range 2 {
			for _, frozen := range []bool{false, true} {
				h := api.Head{K: k, Level: level, Frozen: frozen, Time: int(w[1])}
				if right(h) && words(h) == w {
					return h, true
				}
			}
		}
	}
	return api.Head{}, false
}

// outside are numbers that lie behind every range.
func outside() []int {
	return []int{math.MinInt, math.MinInt + 1, -1 << 32, -1<<32 + 1, -65536, -64, -16, -7, -2, -1, 1<<30 + 1, 1 << 31, 1<<31 + 1, 1 << 32, 1<<32 + 1, 1<<32 + 2, math.MaxInt - 1, math.MaxInt}
}

func kinds() []int {
	all := outside()
	for k := range 35 {
		all = append(all, k)
	}
	return all
}

func levels() []int { return append(outside(), 0, 1, 2, 3, 4, 16, 17) }

func times() []int {
	return append(outside(), 0, 1, 2, 7, 63, 64, 65535, 65536, 1<<30-1, 1<<30)
}

// some are heads of each kind, all of them right.
func some() []api.Head {
	var all []api.Head
	for _, h := range mixes() {
		if right(h) {
			all = append(all, h)
		}
	}
	return all
}

// wrong are heads of each kind, and of kinds that there are not, that are not right.
func wrong() []api.Head {
	var all []api.Head
	for _, h := range mixes() {
		if !right(h) {
			all = append(all, h)
		}
	}
	return all
}

// mixes are heads of all kinds, levels and times, frozen ones and others.
func mixes() []api.Head {
	var all []api.Head
	for _, k := range kinds() {
		for _, level := range levels() {
			for _, time := range times() {
				all = append(all, api.Head{K: k, Level: level, Time: time}, api.Head{K: k, Level: level, Frozen: true, Time: time})
			}
		}
	}
	return all
}

func made(t *testing.T, frames int) *mem.Mem {
	t.Helper()
	m, e := mem.New(frames)
	if e != api.OK {
		t.Fatalf("New(%d): %d", frames, e)
	}
	return m
}

// full is a memory of that many frames of which no two words are the same, and none is 0.
func full(t *testing.T, frames int) *mem.Mem {
	t.Helper()
	m := made(t, frames)
	for f := range frames {
		for at := range length {
			set(t, m, f, at, uint64(1000*f+at+100))
		}
	}
	return m
}

func set(t *testing.T, m *mem.Mem, f int, at int, w uint64) {
	if e := m.Store(f, at, w); e != api.OK {
		t.Fatalf("Store(%d, %d): %d", f, at, e)
	}
}

// begin makes w the first words of a frame.
func begin(t *testing.T, m *mem.Mem, f int, w [4]uint64) {
	for at := range w {
		set(t, m, f, at, w[at])
	}
}

// look tells all words of a memory.
func look(t *testing.T, m *mem.Mem) [][length]uint64 {
	all := make([][length]uint64, m.Len())
	for f := range all {
		w, e := m.Words(f)
		if e != api.OK || len(w) != length {
			t.Fatalf("Words(%d): %v, %d", f, w, e)
		}
		copy(all[f][:], w)
	}
	return all
}

// same fails if the words of m are others than those.
func same(t *testing.T, m *mem.Mem, want [][length]uint64, what ...any) {
	got := look(t, m)
	if slices.Equal(got, want) {
		return
	}
	for f := range got {
		if got[f] != want[f] {
			t.Errorf("%v: frame %d is %v, not %v", what, f, got[f], want[f])
		}
	}
	t.FailNow()
}

// place is one of a model memory's frames, if it is there.
func place(all [][length]uint64, f int) (*[length]uint64, bool) {
	if f < 0 || f >= len(all) {
		return nil, false
	}
	return &all[f], true
}

// putModel, makeModel, getModel, isModel are what the calls are held against.
func putModel(all [][length]uint64, f int, h api.Head) api.Errno {
	if !right(h) {
		return api.ErrArg
	}
	if len(all) == 0 {
		return api.ErrZero
	}
	p, ok := place(all, f)
	if !ok {
		return api.ErrArg
	}
	w := words(h)
	copy(p[:4], w[:])
	return api.OK
}

func makeModel(all [][length]uint64, f int, h api.Head) api.Errno {
	e := putModel(all, f, h)
	if e == api.OK {
		for at := 4; at < length; at++ {
			all[f][at] = 0
		}
	}
	return e
}

func getModel(all [][length]uint64, f int) (api.Head, api.Errno) {
	if len(all) == 0 {
		return api.Head{}, api.ErrZero
	}
	p, ok := place(all, f)
	if !ok {
		return api.Head{}, api.ErrArg
	}
	h, ok := headOf([4]uint64(p[:4]))
	if !ok {
		return api.Head{}, api.ErrForm
	}
	return h, api.OK
}

func isModel(all [][length]uint64, f int, k int) api.Errno {
	h, e := getModel(all, f)
	if e == api.OK && h.K != k {
		return api.ErrType
	}
	return e
}

// holdWords holds Get and Is of a frame that begins with w against the model.
func holdWords(t *testing.T, m *mem.Mem, f int, w [4]uint64) {
	begin(t, m, f, w)
	want, ok := headOf(w)
	wantE := api.OK
	if !ok {
		wantE = api.ErrForm
	}
	if h, e := head.Get(m, f); h != want || e != wantE {
		t.Fatalf("%v: %v, %d, not %v, %d", w, h, e, want, wantE)
	}
	for k := -1; k <= 8; k++ {
		wantIs := wantE
		if ok && k != want.K {
			wantIs = api.ErrType
		}
		if e := head.Is(m, f, k); e != wantIs {
			t.Fatalf("%v of kind %d: %d, not %d", w, k, e, wantIs)
		}
	}
}

func TestExample(t *testing.T) {
	m := full(t, 2)
	h := api.Head{K: api.OTbl, Level: 1, Frozen: true, Time: 7}
	want := look(t, m)
	want[1][0], want[1][1], want[1][2], want[1][3] = 49, 7, 0, 0
	if e := head.Put(m, 1, h); e != api.OK {
		t.Errorf("Put: %d", e)
	}
	same(t, m, want, "Put")
	if got, e := head.Get(m, 1); got != h || e != api.OK {
		t.Errorf("Get: %v, %d", got, e)
	}
}

// The chapter gives the errors by their numbers.
func TestErrorsNumbers(t *testing.T) {
	m := made(t, 1)
	if e := head.Check(api.Head{K: 7}); e != 1 {
		t.Errorf("Check: %d", e)
	}
	if e := head.Put(m, 0, api.Head{K: 7}); e != 1 {
		t.Errorf("Put: %d", e)
	}
	if e := head.Is(m, 0, 1); e != 4 {
		t.Errorf("Is: %d", e)
	}
	set(t, m, 0, 0, 7)
	if _, e := head.Get(m, 0); e != 12 {
		t.Errorf("Get: %d", e)
	}
	if _, e := head.Get(nil, 0); e != 13 {
		t.Errorf("Get of nil: %d", e)
	}
}

func TestCheckMixes(t *testing.T) {
	count := 0
	for _, h := range mixes() {
		want := api.ErrArg
		if right(h) {
			want = api.OK
			count++
		}
		if e := head.Check(h); e != want {
			t.Fatalf("%v: %d, not %d", h, e, want)
		}
	}
	if count == 0 {
		t.Error("none was right")
	}
}

// What the chapter says, with words of its own for each refusal.
func TestCheckRefuses(t *testing.T) {
	for name, h := range map[string]api.Head{
		"a kind below":                  {K: -1},
		"a kind behind":                 {K: 7},
		"the last kind of 4 bits":       {K: 15},
		"a kind of 5 bits":              {K: 17},
		"none with a level":             {Level: 1},
		"a component with a level":      {K: api.OComp, Level: 1},
		"a thread with a level":         {K: api.OThd, Level: 1},
		"a budget with a level":         {K: api.OTcap, Level: 1},
		"an endpoint with a level":      {K: api.ORcv, Level: 1},
		"a table of level 2":            {K: api.OTbl, Level: 2},
		"a table of a level below":      {K: api.OTbl, Level: -1},
		"mappings of level 2":           {K: api.OPgt, Level: 2},
		"mappings of a level below":     {K: api.OPgt, Level: -1},
		"none, frozen":                  {Frozen: true},
		"mappings, frozen":              {K: api.OPgt, Frozen: true},
		"mappings of level 1, frozen":   {K: api.OPgt, Level: 1, Frozen: true, Time: 1},
		"a component, frozen":           {K: api.OComp, Frozen: true},
		"a thread, frozen":              {K: api.OThd, Frozen: true},
		"a budget, frozen":              {K: api.OTcap, Frozen: true},
		"an endpoint, frozen":           {K: api.ORcv, Frozen: true},
		"none at a time":                {Time: 1},
		"a table at a time":             {K: api.OTbl, Time: 1},
		"a table of level 1 at a time":  {K: api.OTbl, Level: 1, Time: 1},
		"mappings at a time":            {K: api.OPgt, Time: 1},
		"a component at a time":         {K: api.OComp, Time: 1},
		"a thread at a time":            {K: api.OThd, Time: 1},
		"a budget at a time":            {K: api.OTcap, Time: 1},
		"an endpoint at a time":         {K: api.ORcv, Time: 1},
		"a table at a time below":       {K: api.OTbl, Time: -1},
		"frozen at a time below":        {K: api.OTbl, Frozen: true, Time: -1},
		"frozen behind the last time":   {K: api.OTbl, Frozen: true, Time: api.MaxTime + 1},
		"a table that is not, frozen":   {K: 7, Frozen: true, Time: 1},
		"not frozen, at the last time":  {K: api.OTbl, Time: api.MaxTime},
		"frozen, at a time of 33 bits":  {K: api.OTbl, Frozen: true, Time: 1 << 32},
		"of a kind that wraps round":    {K: 1<<32 + 1},
		"of a level that wraps round":   {K: api.OTbl, Level: 1<<32 + 1},
		"of a level of the frozen bit":  {K: api.OTbl, Level: 3},
		"of a kind with the level's":    {K: api.OTbl | 1<<4},
		"of the greatest numbers":       {K: math.MaxInt, Level: math.MaxInt, Frozen: true, Time: math.MaxInt},
		"of the least numbers":          {K: math.MinInt, Level: math.MinInt, Time: math.MinInt},
		"frozen at the least time":      {K: api.OTbl, Frozen: true, Time: math.MinInt},
		"frozen at the greatest number": {K: api.OTbl, Frozen: true, Time: math.MaxInt},
	} {
		if e := head.Check(h); e != api.ErrArg {
			t.Errorf("%s: %d", name, e)
		}
	}
}

// All that can be, but for the times.
func TestCheckAllows(t *testing.T) {
	for _, h := range []api.Head{
		{},
		{K: api.OTbl},
		{K: api.OTbl, Level: 1},
		{K: api.OTbl, Frozen: true},
		{K: api.OTbl, Frozen: true, Time: 1},
		{K: api.OTbl, Frozen: true, Time: api.MaxTime},
		{K: api.OTbl, Level: 1, Frozen: true},
		{K: api.OTbl, Level: 1, Frozen: true, Time: api.MaxTime},
		{K: api.OPgt},
		{K: api.OPgt, Level: 1},
		{K: api.OComp},
		{K: api.OThd},
		{K: api.OTcap},
		{K: api.ORcv},
	} {
		if e := head.Check(h); e != api.OK {
			t.Errorf("%v: %d", h, e)
		}
	}
}

// A head is written alone: the frame's other words, and other frames, stay.
func TestPut(t *testing.T) {
	for _, frames := range []int{1, 2, 64} {
		for _, f := range []int{0, frames / 2, frames - 1} {
			m := full(t, frames)
			want := look(t, m)
			for _, h := range some() {
				w := words(h)
				copy(want[f][:4], w[:])
				if e := head.Put(m, f, h); e != api.OK {
					t.Fatalf("Put(%d, %v): %d", f, h, e)
				}
				same(t, m, want, "Put", f, h)
				if got, e := head.Get(m, f); got != h || e != api.OK {
					t.Fatalf("%v is %v, %d", h, got, e)
				}
			}
		}
	}
}

// A frame that is made is all 0 but for its head, and other frames stay.
func TestMake(t *testing.T) {
	for _, frames := range []int{1, 2, 64} {
		for _, f := range []int{0, frames / 2, frames - 1} {
			for _, h := range some() {
				m := full(t, frames)
				want := look(t, m)
				w := words(h)
				want[f] = [length]uint64{w[0], w[1]}
				for range 2 {
					if e := head.Make(m, f, h); e != api.OK {
						t.Fatalf("Make(%d, %v): %d", f, h, e)
					}
					same(t, m, want, "Make", f, h)
				}
				if got, e := head.Get(m, f); got != h || e != api.OK {
					t.Fatalf("%v is %v, %d", h, got, e)
				}
			}
		}
	}
}

// Each of the words is cleared, if it alone is not 0.
func TestMakeEachWord(t *testing.T) {
	for at := range length {
		m := made(t, 3)
		for f := range 3 {
			set(t, m, f, at, math.MaxUint64)
		}
		want := look(t, m)
		want[1] = [length]uint64{6}
		if e := head.Make(m, 1, api.Head{K: api.ORcv}); e != api.OK {
			t.Fatalf("Make: %d", e)
		}
		same(t, m, want, "Make", at)
	}
}

// A head that is not right is told ahead of the memory and the frame, and nothing changes.
func TestWrongHeads(t *testing.T) {
	m := full(t, 2)
	want := look(t, m)
	for _, h := range wrong() {
		for _, x := range []*mem.Mem{m, nil, {}} {
			for _, f := range []int{0, 1, -1, 2} {
				if e := head.Put(x, f, h); e != api.ErrArg {
					t.Fatalf("Put(%d, %v): %d", f, h, e)
				}
				if e := head.Make(x, f, h); e != api.ErrArg {
					t.Fatalf("Make(%d, %v): %d", f, h, e)
				}
			}
		}
	}
	same(t, m, want, "wrong heads")
}

func frames(count int) []int {
	return append(outside(), count, count+1, 2*count, 64, 65)
}

// Frames that are not there: nothing changes.
func TestNoSuchFrame(t *testing.T) {
	for _, count := range []int{1, 2, 3, 64} {
		m := full(t, count)
		want := look(t, m)
		for _, f := range frames(count) {
			if f >= 0 && f < count {
				continue
			}
			for _, h := range []api.Head{{}, {K: api.ORcv}, {K: api.OTbl, Level: 1, Frozen: true, Time: 7}} {
				if e := head.Put(m, f, h); e != api.ErrArg {
					t.Errorf("Put(%d, %v) of %d: %d", f, h, count, e)
				}
				if e := head.Make(m, f, h); e != api.ErrArg {
					t.Errorf("Make(%d, %v) of %d: %d", f, h, count, e)
				}
			}
			if h, e := head.Get(m, f); h != (api.Head{}) || e != api.ErrArg {
				t.Errorf("Get(%d) of %d: %v, %d", f, count, h, e)
			}
			for _, k := range []int{-1, 0, 1, 7} {
				if e := head.Is(m, f, k); e != api.ErrArg {
					t.Errorf("Is(%d, %d) of %d: %d", f, k, count, e)
				}
			}
		}
		same(t, m, want, "no such frame")
	}
}

// A memory that nobody made is told ahead of a frame that is not there, each time.
func TestNoMemory(t *testing.T) {
	for _, m := range []*mem.Mem{nil, {}} {
		for _, f := range append(frames(1), 0, 1, 63) {
			for range 2 {
				for _, h := range []api.Head{{}, {K: api.ORcv}, {K: api.OTbl, Level: 1, Frozen: true, Time: 7}} {
					if e := head.Put(m, f, h); e != api.ErrZero {
						t.Errorf("Put(%d, %v): %d", f, h, e)
					}
					if e := head.Make(m, f, h); e != api.ErrZero {
						t.Errorf("Make(%d, %v): %d", f, h, e)
					}
				}
				if h, e := head.Get(m, f); h != (api.Head{}) || e != api.ErrZero {
					t.Errorf("Get(%d): %v, %d", f, h, e)
				}
				for _, k := range []int{-1, 0, 1, 7} {
					if e := head.Is(m, f, k); e != api.ErrZero {
						t.Errorf("Is(%d, %d): %d", f, k, e)
					}
				}
			}
		}
		if m.Len() != 0 {
			t.Errorf("%d frames", m.Len())
		}
	}
}

// A frame of a new memory is none's.
func TestNewFrame(t *testing.T) {
	m := made(t, 64)
	for f := range 64 {
		if h, e := head.Get(m, f); h != (api.Head{}) || e != api.OK {
			t.Errorf("Get(%d): %v, %d", f, h, e)
		}
		if e := head.Is(m, f, api.ONone); e != api.OK {
			t.Errorf("Is(%d): %d", f, e)
		}
	}
}

// All first words of some bits more than are packed, with times of all kinds.
func TestGetAllFirstWords(t *testing.T) {
	m := made(t, 2)
	count := 0
	for first := range uint64(1024) {
		for _, time := range []uint64{0, 1, 7, 1<<30 - 1, 1 << 30, 1<<30 + 1, 1 << 32, 1 << 63, math.MaxUint64} {
			w := [4]uint64{first, time}
			holdWords(t, m, 1, w)
			if _, ok := headOf(w); ok && time == 0 {
				count++
			}
		}
	}
	// Six kinds beside OTbl, OPgt once more for its level, and OTbl four times.
	if count != 6+1+4 {
		t.Errorf("%d are right", count)
	}
}

// One bit that is another, of all four words.
func TestGetBits(t *testing.T) {
	m := made(t, 1)
	for _, h := range some() {
		for at := range 4 {
			for bit := range 64 {
				w := words(h)
				w[at] ^= 1 << bit
				holdWords(t, m, 0, w)
				if at != 1 && (at != 0 || bit >= packed) {
					if got, e := head.Get(m, 0); got != (api.Head{}) || e != api.ErrForm {
						t.Fatalf("%v: %v, %d", w, got, e)
					}
				}
			}
		}
	}
}

// A time is held against the limit whole, not by its lower half or as a number with a sign.
func TestGetTimes(t *testing.T) {
	m := made(t, 1)
	for _, first := range []uint64{33, 49} {
		for _, time := range []uint64{0, 1, 1<<30 - 1, 1 << 30} {
			begin(t, m, 0, [4]uint64{first, time})
			want := api.Head{K: api.OTbl, Level: int(first-33) / 16, Frozen: true, Time: int(time)}
			if h, e := head.Get(m, 0); h != want || e != api.OK {
				t.Errorf("%d, %d: %v, %d", first, time, h, e)
			}
		}
		for _, time := range []uint64{1<<30 + 1, 1 << 31, 1<<32 - 1, 1 << 32, 1<<32 + 7, 1 << 62, 1<<63 - 1, 1 << 63, 1<<63 + 7, math.MaxUint64 - 1, math.MaxUint64} {
			begin(t, m, 0, [4]uint64{first, time})
			if h, e := head.Get(m, 0); h != (api.Head{}) || e != api.ErrForm {
				t.Errorf("%d, %d: %v, %d", first, time, h, e)
			}
		}
	}
}

func TestGetRefuses(t *testing.T) {
	m := made(t, 1)
	for name, w := range map[string][4]uint64{
		"kind 7":                          {7},
		"kind 15":                         {15},
		"none with a level":               {16},
		"none, frozen":                    {32},
		"none at a time":                  {0, 1},
		"a table at a time":               {1, 1},
		"a table of level 1 at a time":    {17, 1},
		"mappings at a time":              {18, 1},
		"mappings, frozen":                {34},
		"a component with a level":        {3 | 16},
		"an endpoint, frozen":             {6 | 32, 7},
		"frozen behind the last time":     {33, 1<<30 + 1},
		"the first bit beyond":            {1 | 1<<packed},
		"the last bit beyond":             {1 | 1<<63},
		"a third word":                    {1, 0, 1},
		"a fourth word":                   {1, 0, 0, 1},
		"a third word's last bit":         {49, 7, 1 << 63},
		"a fourth word's last bit":        {49, 7, 0, 1 << 63},
		"a third and a fourth word":       {49, 7, 3, 5},
		"all bits":                        {math.MaxUint64, math.MaxUint64, math.MaxUint64, math.MaxUint64},
		"a third word of a frame of none": {0, 0, 1},
		"a fourth word of such a frame":   {0, 0, 0, 1},
	} {
		begin(t, m, 0, w)
		if h, e := head.Get(m, 0); h != (api.Head{}) || e != api.ErrForm {
			t.Errorf("%s: %v, %d", name, h, e)
		}
		for k := range 17 {
			if e := head.Is(m, 0, k); e != api.ErrForm {
				t.Errorf("%s of kind %d: %d", name, k, e)
			}
		}
	}
}

// What lies behind the head, and in other frames, is not looked at, and nothing is changed.
func TestGetLooksAtItsWordsAlone(t *testing.T) {
	for _, h := range some() {
		m := full(t, 3)
		begin(t, m, 1, words(h))
		want := look(t, m)
		if got, e := head.Get(m, 1); got != h || e != api.OK {
			t.Fatalf("%v is %v, %d", h, got, e)
		}
		if e := head.Is(m, 1, h.K); e != api.OK {
			t.Fatalf("%v: %d", h, e)
		}
		if e := head.Is(m, 1, h.K+1); e != api.ErrType {
			t.Fatalf("%v: %d", h, e)
		}
		if _, e := head.Get(m, 0); e != api.ErrForm {
			t.Fatalf("words of none: %d", e)
		}
		same(t, m, want, "Get, Is", h)
	}
}

// Any number that is not the frame's kind is another kind, be there such a one or not.
func TestIsKinds(t *testing.T) {
	m := made(t, 1)
	for _, h := range some() {
		if e := head.Put(m, 0, h); e != api.OK {
			t.Fatalf("%v: %d", h, e)
		}
		for _, k := range kinds() {
			want := api.ErrType
			if k == h.K {
				want = api.OK
			}
			if e := head.Is(m, 0, k); e != want {
				t.Fatalf("%v of kind %d: %d, not %d", h, k, e, want)
			}
		}
	}
}

// No two heads that are right have the same words.
func TestWordsDiffer(t *testing.T) {
	m := made(t, 1)
	had := map[[4]uint64]api.Head{}
	for _, h := range some() {
		if e := head.Put(m, 0, h); e != api.OK {
			t.Fatalf("%v: %d", h, e)
		}
		w := [4]uint64(look(t, m)[0][:4])
		if other, ok := had[w]; ok && other != h {
			t.Fatalf("%v and %v have the same words", h, other)
		}
		had[w] = h
	}
}

// What is put behind another head leaves nothing of it.
func TestPutOverAnother(t *testing.T) {
	all := []api.Head{{}, {K: api.OTbl}, {K: api.OTbl, Level: 1}, {K: api.OTbl, Level: 1, Frozen: true, Time: api.MaxTime}, {K: api.OPgt, Level: 1}, {K: api.OComp}, {K: api.OThd}, {K: api.OTcap}, {K: api.ORcv}}
	m := full(t, 2)
	want := look(t, m)
	for _, a := range all {
		for _, b := range all {
			for _, h := range []api.Head{a, b} {
				w := words(h)
				copy(want[0][:4], w[:])
				if e := head.Put(m, 0, h); e != api.OK {
					t.Fatalf("%v: %d", h, e)
				}
				same(t, m, want, a, b)
			}
			if got, e := head.Get(m, 0); got != b || e != api.OK {
				t.Fatalf("%v behind %v is %v, %d", b, a, got, e)
			}
		}
	}
}

// Words that are a head's are those that its Put writes: back and there.
func TestPutUndoesGet(t *testing.T) {
	m := made(t, 2)
	count := 0
	for first := range uint64(256) {
		for _, time := range []uint64{0, 1, 7, 1 << 30} {
			begin(t, m, 0, [4]uint64{first, time})
			h, e := head.Get(m, 0)
			if e != api.OK {
				continue
			}
			count++
			if e := head.Make(m, 1, h); e != api.OK || !m.Same(0, 1) {
				t.Fatalf("%d, %d: %v, %d", first, time, h, e)
			}
		}
	}
	if count != 11+2*3 {
		t.Errorf("%d are heads", count)
	}
}

// Two memories have nothing of each other.
func TestTwoMemories(t *testing.T) {
	a, b := full(t, 2), full(t, 2)
	want := look(t, b)
	if e := head.Make(a, 0, api.Head{K: api.OThd}); e != api.OK {
		t.Fatalf("Make: %d", e)
	}
	if e := head.Put(a, 1, api.Head{K: api.OTbl, Frozen: true, Time: 3}); e != api.OK {
		t.Fatalf("Put: %d", e)
	}
	same(t, b, want, "the other")
}

// Any calls in any order, with numbers near the ranges and far from them.
func TestManyCalls(t *testing.T) {
	x := uint64(10)
	next := func(n int) int {
		x = x*6364136223846793005 + 1442695040888963407
		return int(x >> 33 % uint64(n))
	}
	near := func(most int) int {
		switch next(12) {
		case 0:
			return outside()[next(len(outside()))]
		case 1:
			return most + 1
		case 2:
			return -1
		}
		return next(most + 1)
	}
	for _, count := range []int{1, 3, 64} {
		m := full(t, count)
		all := look(t, m)
		for i := range 40000 {
			f, k := near(count-1), near(6)
			h := api.Head{K: k}
			if next(3) == 0 {
				h = api.Head{K: near(2), Level: near(1), Frozen: next(2) == 0}
			}
			if h.Frozen || next(20) == 0 {
				h.Time = near(1 << 30)
			}
			switch next(6) {
			case 0:
				if e, want := head.Put(m, f, h), putModel(all, f, h); e != want {
					t.Fatalf("%d: Put(%d, %v): %d, not %d", i, f, h, e, want)
				}
			case 1:
				if e, want := head.Make(m, f, h), makeModel(all, f, h); e != want {
					t.Fatalf("%d: Make(%d, %v): %d, not %d", i, f, h, e, want)
				}
			case 2:
				g, at, w := next(count), next(length), uint64(next(64))
				set(t, m, g, at, w)
				all[g][at] = w
			default:
				got, e := head.Get(m, f)
				if want, wantE := getModel(all, f); got != want || e != wantE {
					t.Fatalf("%d: Get(%d): %v, %d, not %v, %d", i, f, got, e, want, wantE)
				}
				if e, want := head.Is(m, f, k), isModel(all, f, k); e != want {
					t.Fatalf("%d: Is(%d, %d): %d, not %d", i, f, k, e, want)
				}
			}
			if i%64 == 0 {
				same(t, m, all, i)
			}
		}
		same(t, m, all, "the end")
	}
}

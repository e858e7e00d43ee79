package call_test

import (
	"math"
	"strconv"
	"strings"
	"testing"

	"palanquin/api"
	"palanquin/call"
)

// needed is the chapter's list: each word, and how many numbers its calls need.
const needed = "null 0; type 3; untype 2; tbl 3; pgt 3; comp 5; thd 5; tcap 3; rcv 4; cons 3; decons 2; freeze 1; " +
	"copy 4; drop 2; inv 3; snd 2; kill 1; pcons 3; pdecon 2; map 4; unmap 2; pcopy 5; call 1; ret 0; switch 1; " +
	"give 4; send 1; recv 1; line 3; hand 3"

// count is how many numbers of calls there are, args how many numbers a call is given.
const (
	count = 30
	args  = 5
)

// most is how great each of a call's numbers may be, place by what its lies above N in the
// word, if it is multiplied.
var (
	most  = [args]int{255, 65535, 65535, 255, 255}
	place = [args]uint64{1 << 8, 1 << 16, 1 << 32, 1 << 48, 1 << 56}
)

// named is api's numbers in the chapter's order.
func named() []int {
	return []int{
		api.NNull, api.NType, api.NUntype, api.NTbl, api.NPgt, api.NComp, api.NThd, api.NTcap, api.NRcv, api.NCons,
		api.NDecons, api.NFreeze, api.NCopy, api.NDrop, api.NInv, api.NSnd, api.NKill, api.NPcons, api.NPdecon, api.NMap,
		api.NUnmap, api.NPcopy, api.NCall, api.NRet, api.NSwitch, api.NGive, api.NSend, api.NRecv, api.NLine, api.NHand,
	}
}

// list is what the chapter's list says: words and needs by their numbers.
type list struct {
	words [count]string
	needs [count]int
}

func chapter() *list {
	d := &list{}
	items := strings.Split(needed, "; ")
	for i, n := range named() {
		word, needs, _ := strings.Cut(items[i], " ")
		d.words[n] = word
		d.needs[n], _ = strconv.Atoi(needs)
	}
	return d
}

// right is what Check is held against: the chapter's words.
func (d *list) right(c api.Call) bool {
	if c.N < 0 || c.N > 29 {
		return false
	}
	for i, a := range c.A {
		if i < d.needs[c.N] && (a < 0 || a > most[i]) || i >= d.needs[c.N] && a != 0 {
			return false
		}
	}
	return true
}

// wordOf is that of a call that is right, by multiplying.
func wordOf(c api.Call) uint64 {
	w := uint64(c.N)
	for i, a := range c.A {
		w += uint64(a) * place[i]
	}
	return w
}

// callOf is the call that a word would be of, if it were one's, by dividing.
func (d *list) callOf(w uint64) (api.Call, bool) {
	c := api.Call{N: int(w % 256)}
	for i := range c.A {
		c.A[i] = int(w / place[i] % uint64(most[i]+1))
	}
	if !d.right(c) {
		return api.Call{}, false
	}
	return c, true
}

// far are numbers behind every range: at the ends of what an int holds, and such as come
// back into a range if they are cut to fewer bits.
func far() []int {
	out := []int{
		math.MinInt, math.MinInt + 1, math.MinInt + 3, math.MinInt + 23, math.MinInt + 29, math.MinInt + 255,
		math.MaxInt, math.MaxInt - 1, math.MaxInt - 3, math.MaxInt - 29, math.MaxInt - 255,
		math.MinInt32 - 1, math.MinInt32, math.MaxInt32, math.MaxInt32 + 1, math.MaxUint32, math.MaxUint32 + 1,
		65536, 65537, 65536 + 23, 65536 + 255, 1<<17 - 1,
	}
	for bit := 16; bit < 63; bit++ {
		for _, more := range []int{0, 1, 3, 23, 29} {
			out = append(out, 1<<bit+more, -1<<bit+more, -1<<bit-more)
		}
	}
	return out
}

// someNumbers are those of calls, all of them, and such as are none.
func someNumbers() []int {
	out := far()
	for n := -300; n <= 1100; n++ {
		out = append(out, n)
	}
	return out
}

// someArgs are numbers that a call may be given, at the ends of the ranges and behind them.
func someArgs() []int {
	out := far()
	for bit := range 17 {
		out = append(out, 1<<bit-1, 1<<bit, 1<<bit+1, -1<<bit, -1<<bit-1, -1<<bit+1)
	}
	return append(out, -65, -3, 3, 5, 23, 100, 128, 254, 255, 256, 257, 300, 511, 65534, 65535, 65536, 65537)
}

// holdCall holds Check and Put of c, and Get of its word, against the model.
func holdCall(t *testing.T, d *list, c api.Call) {
	t.Helper()
	e := call.Check(c)
	w, f := call.Put(c)
	if !d.right(c) {
		if e != api.ErrArg || w != 0 || f != api.ErrArg {
			t.Fatalf("of %v Check is %d, Put %d, %d: it is not right", c, e, w, f)
		}
		return
	}
	if e != api.OK || w != wordOf(c) || f != api.OK {
		t.Fatalf("of %v Check is %d, Put %d, %d: its word is %d", c, e, w, f, wordOf(c))
	}
	if x, g := call.Get(w); x != c || g != api.OK {
		t.Fatalf("Get of the word of %v is %v, %d", c, x, g)
	}
}

// holdWord holds Get of w, and Put of what it answers, against the model.
func holdWord(t *testing.T, d *list, w uint64) {
	t.Helper()
	c, e := call.Get(w)
	want, so := d.callOf(w)
	if !so {
		if c != (api.Call{}) || e != api.ErrForm {
			t.Fatalf("Get of %x is %v, %d: it is no call's", w, c, e)
		}
		return
	}
	if c != want || e != api.OK {
		t.Fatalf("Get of %x is %v, %d: it is the word of %v", w, c, e, want)
	}
	if back, f := call.Put(c); back != w || f != api.OK {
		t.Fatalf("Put of the call of %x is %x, %d", w, back, f)
	}
}

// full is the call of the number n whose numbers are as great as they may be.
func full(d *list, n int) api.Call {
	c := api.Call{N: n}
	copy(c.A[:d.needs[n]], most[:])
	return c
}

// TestModel: the model's list is whole, its numbers are each in their place.
func TestModel(t *testing.T) {
	items := strings.Split(needed, "; ")
	if len(items) != count || len(named()) != count {
		t.Fatalf("the list has %d items, %d numbers", len(items), len(named()))
	}
	for i, n := range named() {
		if n != i {
			t.Errorf("the number of item %d is %d", i, n)
		}
	}
	if api.MaxCall != count-1 {
		t.Errorf("the last number is %d", api.MaxCall)
	}
}

// TestNeeds (P24.1): how many numbers calls need, none of what is no call's number.
func TestNeeds(t *testing.T) {
	d := chapter()
	for _, n := range someNumbers() {
		want := 0
		if n >= 0 && n < count {
			want = d.needs[n]
		}
		if got := call.Needs(n); got != want {
			t.Errorf("Needs of %d is %d, not %d", n, got, want)
		}
	}
}

// TestWord (P24.1): words by their numbers, the empty one of what is no call's number.
func TestWord(t *testing.T) {
	d := chapter()
	for _, n := range someNumbers() {
		want := ""
		if n >= 0 && n < count {
			want = d.words[n]
		}
		if got := call.Word(n); got != want {
			t.Errorf("Word of %d is %q, not %q", n, got, want)
		}
	}
}

// TestNumber (P24.1): every word leads back to its number.
func TestNumber(t *testing.T) {
	for want, word := range chapter().words {
		if n, ok := call.Number(word); n != want || !ok {
			t.Errorf("Number of %q is %d, %v", word, n, ok)
		}
		if n, ok := call.Number(call.Word(want)); n != want || !ok {
			t.Errorf("Number of the word of %d is %d, %v", want, n, ok)
		}
	}
}

// noWord holds that s leads to no number, but if it is in the list.
func noWord(t *testing.T, d *list, s string) {
	t.Helper()
	want, in := 0, false
	for n, word := range d.words {
		if word == s {
			want, in = n, true
		}
	}
	if n, ok := call.Number(s); n != want || ok != in {
		t.Errorf("Number of %q is %d, %v", s, n, ok)
	}
}

// TestNumberOfNone (P24.1): what is in no list: the empty word, other letters, words of
// which something was taken or to which something was put, several words, numbers.
func TestNumberOfNone(t *testing.T) {
	d := chapter()
	for _, s := range []string{
		"", " ", "  ", "\n", "\t", "\x00", "0", "1", "23", "29", "-1", "#", "ret 0", "null 0", "null; type", "nil", "none",
		"Nnull", "NNull", "NRet", "call.Ret", "config", "set", "sys", "load", "store", "fault", "tick", "flush", "show",
		"ｒｅｔ", "rét", "re\u0301t", "\xff", "ret\xff", "\xffret", strings.Repeat("ret", 20000), strings.Repeat(" ", 70000),
	} {
		noWord(t, d, s)
	}
	for _, word := range d.words {
		noWord(t, d, strings.ToUpper(word))
		noWord(t, d, strings.ToUpper(word[:1])+word[1:])
		for i := range len(word) {
			noWord(t, d, word[:i]+word[i+1:])
			noWord(t, d, word[:i]+strings.ToUpper(word[i:i+1])+word[i+1:])
			noWord(t, d, word[:i])
			noWord(t, d, word[i:])
			noWord(t, d, word[:i]+word[i:i+1]+word[i:])
		}
		for i := range len(word) + 1 {
			for _, more := range []string{" ", "\t", "\n", "\r", "\x00", "_", "-", ".", "s", "e", "0", "\u00a0", "\ufeff"} {
				noWord(t, d, word[:i]+more+word[i:])
			}
		}
		for _, other := range d.words {
			noWord(t, d, word+other)
			noWord(t, d, word+" "+other)
		}
	}
}

// TestNumberOfShort (P24.1): of all words of up to four small letters, those of the list
// alone lead to a number.
func TestNumberOfShort(t *testing.T) {
	in := map[string]int{}
	for n, word := range chapter().words {
		in[word] = n
	}
	found := 0
	var grow func(s string)
	grow = func(s string) {
		n, ok := call.Number(s)
		want, there := in[s]
		if n != want || ok != there {
			t.Errorf("Number of %q is %d, %v", s, n, ok)
		}
		if ok {
			found++
		}
		for letter := 'a'; letter <= 'z' && len(s) < 4; letter++ {
			grow(s + string(letter))
		}
	}
	grow("")
	if found != 22 {
		t.Errorf("%d words of up to four letters were found", found)
	}
}

// TestCheckNumber (P24.2): a call's number is in the list, with nothing given, and with
// such numbers as calls of some number need.
func TestCheckNumber(t *testing.T) {
	d := chapter()
	for _, n := range someNumbers() {
		holdCall(t, d, api.Call{N: n})
		for k := 1; k <= args; k++ {
			c := api.Call{N: n}
			for i := range k {
				c.A[i] = i + 1
			}
			holdCall(t, d, c)
			c.A[k-1] = 0
			holdCall(t, d, c)
		}
	}
}

// TestCheckOne (P24.2): each of a call's numbers alone, at its ends and behind them, beside
// others that are 0 and such as are as great as they may be; what is not needed is 0.
func TestCheckOne(t *testing.T) {
	d := chapter()
	for n := range count {
		for i := range args {
			for _, a := range someArgs() {
				c := api.Call{N: n}
				c.A[i] = a
				holdCall(t, d, c)
				c = full(d, n)
				c.A[i] = a
				holdCall(t, d, c)
			}
		}
	}
}

// TestCheckAll (P24.2): a call's numbers of several kinds together.
func TestCheckAll(t *testing.T) {
	d := chapter()
	few := []int{math.MinInt, -1, 0, 1, 255, 256, 65535, 65536, 1 << 32}
	var lay func(c api.Call, i int)
	lay = func(c api.Call, i int) {
		if i == args {
			holdCall(t, d, c)
			return
		}
		for _, a := range few {
			c.A[i] = a
			lay(c, i+1)
		}
	}
	for n := -1; n <= count; n++ {
		lay(api.Call{N: n}, 0)
	}
}

// TestGetWrong (P24.2): words that are no right call's, one reason each.
func TestGetWrong(t *testing.T) {
	d := chapter()
	for n := count; n < 256; n++ {
		if c, e := call.Get(uint64(n)); c != (api.Call{}) || e != api.ErrForm {
			t.Errorf("Get of the number %d is %v, %d", n, c, e)
		}
	}
	for n := range count {
		w := wordOf(full(d, n))
		for i := d.needs[n]; i < args; i++ {
			for more := place[i]; more != 0 && more <= place[i]*uint64(most[i]); more *= 2 {
				if c, e := call.Get(w + more); c != (api.Call{}) || e != api.ErrForm {
					t.Errorf("Get of %x, of the number %d with A[%d], is %v, %d", w+more, n, i, c, e)
				}
			}
		}
	}
	if c, e := call.Get(math.MaxUint64); c != (api.Call{}) || e != api.ErrForm {
		t.Errorf("Get of the last word is %v, %d", c, e)
	}
}

// TestGetNumbers (P24.2): every first byte, with each bit of the others alone, with two of
// them, with all but one, and with all.
func TestGetNumbers(t *testing.T) {
	d := chapter()
	for n := range uint64(256) {
		holdWord(t, d, n)
		holdWord(t, d, math.MaxUint64-255+n)
		for a := 8; a < 64; a++ {
			holdWord(t, d, n|1<<a)
			holdWord(t, d, (math.MaxUint64-255+n)&^(1<<a))
			for b := a + 1; b < 64; b++ {
				holdWord(t, d, n|1<<a|1<<b)
			}
		}
	}
}

// TestGetParts (P24.2): every number with each part of the word being anything that it can
// be, the small words among them.
func TestGetParts(t *testing.T) {
	d := chapter()
	for w := range uint64(1 << 17) {
		holdWord(t, d, w)
	}
	for n := range uint64(count + 2) {
		for i := range args {
			for a := range uint64(most[i] + 1) {
				holdWord(t, d, n+a*place[i])
			}
		}
	}
}

// TestThereAndBack (P24.3): calls of every number, and words, of numbers without an order.
func TestThereAndBack(t *testing.T) {
	d := chapter()
	seed := uint64(24)
	next := func() uint64 {
		seed ^= seed << 13
		seed ^= seed >> 7
		seed ^= seed << 17
		return seed
	}
	for range 20000 {
		for n := range count {
			c := api.Call{N: n}
			for i := range d.needs[n] {
				c.A[i] = int(next() % uint64(most[i]+1))
			}
			holdCall(t, d, c)
			c.A[next()%args] = int(next()>>47) - 1000
			holdCall(t, d, c)
		}
		w := next()
		holdWord(t, d, w)
		for n := range count {
			holdWord(t, d, w-w%256+uint64(n))
			if needs := d.needs[n]; needs < args {
				holdWord(t, d, w%place[needs]-w%256+uint64(n))
			}
		}
	}
}

// TestBothSame (P5): what was answered ahead is answered again, whatever lay between.
func TestBothSame(t *testing.T) {
	d := chapter()
	for range 3 {
		for n := count - 1; n >= 0; n-- {
			c := full(d, n)
			holdCall(t, d, c)
			c.A[args-1]++
			holdCall(t, d, c)
			noWord(t, d, "nothing")
			noWord(t, d, d.words[n])
			if call.Needs(n) != d.needs[n] || call.Needs(-n-1) != 0 || call.Word(n+count) != "" || call.Word(n) != d.words[n] {
				t.Errorf("Needs or Word of %d changed", n)
			}
		}
	}
}

// TestExamples: those of the chapter, and of the whole.
func TestExamples(t *testing.T) {
	if w, e := call.Put(api.Call{N: api.NRet}); w != 23 || e != api.OK {
		t.Errorf("ret is %d, %d", w, e)
	}
	if w, e := call.Put(api.Call{}); w != 0 || e != api.OK {
		t.Errorf("null is %d, %d", w, e)
	}
	c := api.Call{N: api.NPcopy, A: [5]int{1, 2, 3, 4, 5}}
	if w, e := call.Put(c); w != 0x0504000300020115 || e != api.OK {
		t.Errorf("pcopy is %x, %d", w, e)
	}
}

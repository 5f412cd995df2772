package resume

import (
	"bytes"
	"math"
	"slices"
	"testing"

	"cadenza/api"
	"cadenza/coder"
	"cadenza/dual"
)

const (
	maxK     = 24
	maxRun   = 48
	maxList  = 4000
	maxRest  = 80
	maxBytes = 41000
	maxBits  = 330000
	topSum   = 68719476735
)

// list has a bool for each bit: the plainest form of bits.
type list []bool

// bits puts a list into bytes as layer 2 defines it.
func (l list) bits() api.Bits {
	b := api.Bits{Bytes: make([]byte, (len(l)+7)/8), N: len(l)}
	for i, set := range l {
		if set {
			b.Bytes[i/8] |= 1 << (i % 8)
		}
	}
	return b
}

// listOf undoes list.bits.
func listOf(b api.Bits) list {
	l := make(list, b.N)
	for i := range l {
		l[i] = b.Bytes[i/8]>>(i%8)&1 == 1
	}
	return l
}

// listOfBytes returns all bits of bytes.
func listOfBytes(p []byte) list { return listOf(api.Bits{Bytes: p, N: len(p) * 8}) }

// lowest returns the n lowest bits of a number.
func lowest(v uint64, n int) list {
	l := make(list, n)
	for i := range l {
		l[i] = v%2 == 1
		v /= 2
	}
	return l
}

// number undoes lowest.
func number(l list) uint64 {
	v := uint64(0)
	for i, set := range l {
		if set {
			v += power(i)
		}
	}
	return v
}

// power returns 2^n.
func power(n int) uint64 {
	p := uint64(1)
	for range n {
		p *= 2
	}
	return p
}

func ones(n int) list { return slices.Repeat(list{true}, n) }

func together(lists ...list) list { return slices.Concat(lists...) }

// start returns the first state of the code as layer 8 defines it.
func start() api.Dual { return api.Dual{K0: 10, Sum0: 16384, K1: 10, Sum1: 16384} }

// codeOfOne returns the code of a number in a state as layers 7 and 8 define it.
func codeOfOne(d api.Dual, v uint32) list {
	if uint64(v) < power(d.K0) {
		return together(list{false}, lowest(uint64(v), d.K0))
	}
	rest := uint64(v) - power(d.K0)
	q := rest / power(d.K1)
	if q < maxRun {
		return together(list{true}, ones(int(q)), list{false}, lowest(rest, d.K1))
	}
	return together(list{true}, ones(maxRun), lowest(rest, 32))
}

// readOne returns the number whose code begins a list, and how many bits that has, or an error, as layers 7 and 8 define it.
func readOne(d api.Dual, l list) (uint32, int, api.Errno) {
	if len(l) == 0 {
		return 0, 0, api.ErrShort
	}
	if !l[0] {
		n := 1 + d.K0
		if len(l) < n {
			return 0, 0, api.ErrShort
		}
		return uint32(number(l[1:n])), n, api.OK
	}
	run := 0
	for run < maxRun && 1+run < len(l) && l[1+run] {
		run++
	}
	front, low := 1+run+1, d.K1
	if run == maxRun {
		front, low = 1+maxRun, 32
	}
	if len(l) < front+low {
		return 0, 0, api.ErrShort
	}
	rest := number(l[front : front+low])
	if run < maxRun {
		rest += uint64(run) * power(d.K1)
	} else if rest/power(d.K1) < maxRun {
		return 0, 0, api.ErrForm
	}
	if rest+power(d.K0) > math.MaxUint32 {
		return 0, 0, api.ErrForm
	}
	return uint32(rest + power(d.K0)), front + low, api.OK
}

// pairBehind returns the pair that has learnt a number as layer 8 defines it.
func pairBehind(k int, sum, v uint64) (int, uint64) {
	n := sum + v - sum/16
	if k > 0 && n < power(k+4) {
		return k - 1, n
	}
	if k < maxK && n > power(k+5) {
		return k + 1, n
	}
	return k, n
}

// behindOne returns the state that has learnt a number as layer 8 defines it.
func behindOne(d api.Dual, v uint32) api.Dual {
	x := d
	if uint64(v) >= power(d.K0) {
		x.K1, x.Sum1 = pairBehind(d.K1, d.Sum1, uint64(v)-power(d.K0))
	}
	x.K0, x.Sum0 = pairBehind(d.K0, d.Sum0, uint64(v))
	return x
}

// codeFrom returns the code of numbers from a state on, and the state behind them.
func codeFrom(d api.Dual, l []uint32) (list, api.Dual) {
	var c []list
	for _, v := range l {
		c = append(c, codeOfOne(d, v))
		d = behindOne(d, v)
	}
	return together(c...), d
}

// code returns the code of numbers as layer 9 defines it.
func code(l []uint32) list {
	c, _ := codeFrom(start(), l)
	return c
}

// after returns the state behind numbers as layer 9 defines it.
func after(l []uint32) api.Dual {
	_, d := codeFrom(start(), l)
	return d
}

// filled returns bits filled up with zeros to bytes.
func filled(l list) []byte { return l.bits().Bytes }

// fed returns what the document says that feeding a valid state with allowed bytes gives.
func fed(s api.Resume, b []byte) (api.Resume, []uint32, api.Errno) {
	rest := together(listOf(s.Rest), listOfBytes(b))
	var l []uint32
	for s.Left > 0 {
		v, n, e := readOne(s.Dual, rest)
		if e == api.ErrShort {
			break
		}
		if e != api.OK {
			return api.Resume{}, nil, e
		}
		l, rest = append(l, v), rest[n:]
		s.Left, s.Dual = s.Left-1, behindOne(s.Dual, v)
	}
	if s.Left == 0 && len(rest) >= 8 {
		return api.Resume{}, nil, api.ErrMore
	}
	s.Rest = rest.bits()
	return s, l, api.OK
}

// waiting returns a state.
func waiting(left int, d api.Dual, rest list) api.Resume {
	return api.Resume{Left: left, Dual: d, Rest: rest.bits()}
}

func same(a, b api.Resume) bool {
	return a.Left == b.Left && a.Dual == b.Dual && a.Rest.N == b.Rest.N && bytes.Equal(a.Rest.Bytes, b.Rest.Bytes)
}

// isZero tells whether a state is a zero value.
func isZero(s api.Resume) bool { return same(s, api.Resume{}) }

// chance returns n numbers that look like chance, but are the same for the same seed.
func chance(n int, seed uint64) []uint32 {
	l := make([]uint32, n)
	x := seed
	for i := range l {
		x = x*6364136223846793005 + 1442695040888963407
		l[i] = uint32(x >> 32)
	}
	return l
}

// some returns n bits, of which about one of rare is a zero.
func some(n, rare int, seed uint64) list {
	l := make(list, n)
	for i, x := range chance(n, seed) {
		l[i] = x>>8%uint32(rare) > 0
	}
	return l
}

// mixed returns n numbers whose sizes rise and fall.
func mixed(n int, seed uint64) []uint32 {
	l := chance(n, seed)
	for i := range l {
		l[i] >>= (uint64(i)/(seed%7+1) + seed) % 33
	}
	return l
}

// around returns n numbers less than 2^size.
func around(n, size int, seed uint64) []uint32 {
	l := chance(n, seed)
	for i := range l {
		l[i] >>= 32 - size
	}
	return l
}

func of(n int, v uint32) []uint32 { return slices.Repeat([]uint32{v}, n) }

// short returns lists of some numbers.
func short() [][]uint32 {
	all := [][]uint32{nil, {5}, {5, 2000}, {2000, 5}, {0, 0, 0}, {1 << 10, 1<<10 - 1, 1 << 10}, {math.MaxUint32, 0, math.MaxUint32}}
	for i := range 33 {
		v := uint32(power(i))
		all = append(all, []uint32{v}, []uint32{v - 1}, []uint32{v, v - 1, 0, v - 1, v})
	}
	for n := range 40 {
		all = append(all, mixed(n, uint64(n)), around(n*2, n%33, uint64(n)))
	}
	return all
}

// long returns lists of many numbers, some of them of as many as are allowed.
func long() [][]uint32 {
	return [][]uint32{
		of(maxList, 0), of(maxList, 1), of(maxList, math.MaxUint32), of(maxList-1, 70000), mixed(maxList, 1),
		around(maxList, 32, 3), around(1000, 12, 4), slices.Concat(of(500, math.MaxUint32), of(500, 0), around(1000, 32, 7)),
	}
}

// duals returns states of the code with small, middle and great Ks at both sides.
func duals() []api.Dual {
	all := []api.Dual{start(), {}, {Sum0: topSum, Sum1: topSum}, {K0: maxK, Sum0: topSum, K1: maxK, Sum1: topSum}}
	for _, k := range []int{0, 1, 8, maxK} {
		for _, other := range []int{0, 1, 9, maxK} {
			all = append(all, api.Dual{K0: k, Sum0: power(k + 4), K1: other, Sum1: power(other + 5)})
		}
	}
	return all
}

// firsts returns numbers whose codes in a state are of each kind.
func firsts(d api.Dual) []uint32 {
	return []uint32{0, uint32(power(d.K0) - 1), uint32(power(d.K0)), uint32(power(d.K0) + 3*power(d.K1)), 1 << 31, math.MaxUint32}
}

// states returns valid states.
func states() []api.Resume {
	var all []api.Resume
	for i, d := range duals() {
		for n := range 8 {
			all = append(all, waiting(0, d, some(n, 2, uint64(i))), waiting(0, d, ones(n)))
		}
		for j, v := range firsts(d) {
			c := codeOfOne(d, v)
			for n := range c {
				all = append(all, waiting([]int{1, 2, 7, 300, maxList}[(i+j+n)%5], d, c[:n]))
			}
		}
	}
	return all
}

// fewStates returns some valid states.
func fewStates() []api.Resume {
	var few []api.Resume
	for i, s := range states() {
		if i%41 == 0 {
			few = append(few, s)
		}
	}
	return append(few, waiting(maxList, start(), nil), waiting(0, start(), nil), api.Resume{}, waiting(1, api.Dual{K0: 10, K1: 10}, ones(maxRest)))
}

// badBits returns bits that are not valid, for each of the reasons.
func badBits() []api.Bits {
	return []api.Bits{
		{N: -1},
		{N: math.MinInt},
		{Bytes: make([]byte, 8), N: math.MaxInt},
		{Bytes: make([]byte, maxBits/8+1), N: maxBits + 1},
		{N: 1},
		{Bytes: make([]byte, 1), N: 9},
		{Bytes: make([]byte, 1), N: 0},
		{Bytes: []byte{2}, N: 1},
		{Bytes: []byte{128}, N: 7},
		{Bytes: []byte{255, 255}, N: 15},
	}
}

// badDuals returns states of the code that are not valid, for each of the reasons.
func badDuals() []api.Dual {
	var all []api.Dual
	for _, k := range []int{-1, math.MinInt, maxK + 1, 64, 1 << 32, math.MaxInt} {
		all = append(all, api.Dual{K0: k, Sum0: 16384, K1: 10, Sum1: 16384}, api.Dual{K0: 10, Sum0: 16384, K1: k, Sum1: 16384})
	}
	for _, sum := range []uint64{topSum + 1, 1 << 63, math.MaxUint64} {
		all = append(all, api.Dual{K0: 10, Sum0: sum, K1: 10, Sum1: 16384}, api.Dual{K0: 10, Sum0: 16384, K1: 10, Sum1: sum})
	}
	return all
}

// badStates returns states that are not valid, for each of the reasons.
func badStates() []api.Resume {
	var all []api.Resume
	for _, left := range []int{-1, -2, -maxList, -1 << 32, math.MinInt, maxList + 1, maxList + 2, 1 << 32, math.MaxInt} {
		all = append(all, waiting(left, start(), nil), waiting(left, start(), list{true, false, true}))
	}
	for _, left := range []int{0, 1, 5, maxList} {
		for _, d := range badDuals() {
			all = append(all, waiting(left, d, nil), waiting(left, d, ones(5)))
		}
		for _, b := range badBits() {
			all = append(all, api.Resume{Left: left, Dual: start(), Rest: b}, api.Resume{Left: left, Dual: api.Dual{K0: maxK, K1: maxK}, Rest: b})
		}
	}
	for i, d := range duals() {
		for _, n := range []int{8, 9, 16, maxRest, 1000, maxBits} {
			all = append(all, waiting(0, d, make(list, n)), waiting(0, d, ones(n)))
		}
		for _, left := range []int{1, 2, maxList} {
			for _, v := range firsts(d) {
				c := codeOfOne(d, v)
				all = append(all, waiting(left, d, c), waiting(left, d, together(c, some(i+1, 2, 5))))
			}
			for _, w := range wrong(d) {
				all = append(all, waiting(left, d, w), waiting(left, d, together(w, ones(i))))
			}
		}
	}
	return all
}

// wrong returns bits that look like a code in a state, but have another form.
func wrong(d api.Dual) []list {
	return []list{
		// A run that has its greatest length, and a number that would have a shorter one.
		together(ones(1+maxRun), make(list, 32)),
		together(ones(1+maxRun), lowest(47<<d.K1, 32)),
		// A number that is too great with what it is less.
		together(ones(1+maxRun), lowest(math.MaxUint32-power(d.K0)+1, 32)),
		ones(1 + maxRun + 32),
	}
}

// feeds checks what Feed returns.
func feeds(t *testing.T, s api.Resume, b []byte, want api.Resume, numbers []uint32) {
	t.Helper()
	if x, l, e := Feed(s, b); e != api.OK || !same(x, want) || !slices.Equal(l, numbers) {
		t.Fatal(s, len(b), x, want, len(l), len(numbers), e)
	}
}

// fails checks that Feed returns an error, and nothing else.
func fails(t *testing.T, s api.Resume, b []byte, err api.Errno) {
	t.Helper()
	if x, l, e := Feed(s, b); e != err || !isZero(x) || len(l) != 0 {
		t.Fatal(s.Left, s.Dual, s.Rest.N, len(b), x, len(l), e, err)
	}
}

func TestExamples(t *testing.T) {
	s, e := Start(1)
	if e != api.OK || !same(s, waiting(1, start(), nil)) {
		t.Fatal(s, e)
	}
	eight := waiting(1, start(), list{false, true, false, true, false, false, false, false})
	feeds(t, s, []byte{10}, eight, nil)
	feeds(t, eight, []byte{0}, waiting(0, api.Dual{K0: 9, Sum0: 15365, K1: 10, Sum1: 16384}, make(list, 5)), []uint32{5})
	feeds(t, s, []byte{10, 0}, waiting(0, api.Dual{K0: 9, Sum0: 15365, K1: 10, Sum1: 16384}, make(list, 5)), []uint32{5})
	fails(t, s, []byte{10, 0, 0}, api.ErrMore)
}

func TestStart(t *testing.T) {
	for n := range maxList + 1 {
		if s, e := Start(n); e != api.OK || !same(s, waiting(n, start(), nil)) || Check(s) != api.OK {
			t.Fatal(n, s, e)
		}
	}
	for _, n := range []int{-1, -2, -maxList, -1 << 32, math.MinInt} {
		if s, e := Start(n); e != api.ErrArg || !isZero(s) {
			t.Error(n, s, e)
		}
	}
	for _, n := range []int{maxList + 1, maxList + 2, maxBits, 1 << 32, math.MaxInt} {
		if s, e := Start(n); e != api.ErrMany || !isZero(s) {
			t.Error(n, s, e)
		}
	}
}

func TestCheck(t *testing.T) {
	longest := 0
	for _, s := range states() {
		if e := Check(s); e != api.OK {
			t.Error(s, e)
		}
		longest = max(longest, s.Rest.N)
	}
	for i, s := range badStates() {
		if e := Check(s); e != api.ErrBad {
			t.Error(i, s.Left, s.Dual, s.Rest.N, e)
		}
	}
	if longest != maxRest {
		t.Error(longest)
	}
}

// Bits of any kind are a rest if, and only if, no number, and none of another form, begins them.
func TestCheckOfAnyRest(t *testing.T) {
	seen := map[api.Errno]int{}
	for seed := range uint64(100) {
		l := some(130, 1+int(seed*2), seed)
		for _, d := range duals() {
			for n := 0; n <= len(l); n += 3 {
				_, _, e := readOne(d, l[:n])
				seen[e]++
				want := api.ErrBad
				if e == api.ErrShort {
					want = api.OK
				}
				if got := Check(waiting(3, d, l[:n])); got != want {
					t.Fatal(seed, d, n, got, want)
				}
			}
		}
	}
	if len(seen) != 3 || seen[api.OK] == 0 || seen[api.ErrShort] == 0 || seen[api.ErrForm] == 0 {
		t.Error(seen)
	}
}

// pieces returns some bytes of several lengths.
func pieces(seed uint64) [][]byte {
	all := [][]byte{nil, {}, {0}, {255}, {10}, {0, 255}, {255, 0}, bytes.Repeat([]byte{255}, 6), bytes.Repeat([]byte{255}, 11), make([]byte, 30)}
	for n := range 12 {
		all = append(all, filled(some(n*16, 1+int(seed+uint64(n))%9, seed)))
	}
	return all
}

func TestFeedIsAsTheDocumentSays(t *testing.T) {
	seen := map[api.Errno]int{}
	for i, s := range states() {
		if i%3 > 0 {
			continue
		}
		for _, b := range pieces(uint64(i)) {
			want, numbers, err := fed(s, b)
			seen[err]++
			if err != api.OK {
				fails(t, s, b, err)
				continue
			}
			feeds(t, s, b, want, numbers)
		}
	}
	if len(seen) != 3 || seen[api.OK] == 0 || seen[api.ErrForm] == 0 || seen[api.ErrMore] == 0 {
		t.Error(seen)
	}
}

// Numbers that are waited for come from their code, whatever the bits in front of it are.
func TestFeedGivesTheNumbers(t *testing.T) {
	for i, s := range fewStates() {
		if s.Left == 0 {
			continue
		}
		for seed := range uint64(12) {
			want := mixed(min(s.Left, int(seed*seed)+1), seed+uint64(i))
			// The first number is one whose code begins with the bits that are there.
			first, ok := begun(s)
			if !ok {
				t.Fatal(s)
			}
			want[0] = first
			c, d := codeFrom(s.Dual, want)
			s.Left = len(want)
			b := filled(c[s.Rest.N:])
			over := (8 - (len(c)-s.Rest.N)%8) % 8
			feeds(t, s, b, waiting(0, d, make(list, over)), want)
		}
	}
}

// begun returns a number whose code begins with the bits of a state.
func begun(s api.Resume) (uint32, bool) {
	rest := listOf(s.Rest)
	// Ones may be all but the last bit of the code of the last number.
	for _, v := range append(firsts(s.Dual), 1<<31-1+1<<s.Dual.K0) {
		if c := codeOfOne(s.Dual, v); len(c) > len(rest) && slices.Equal(c[:len(rest)], rest) {
			return v, true
		}
	}
	return 0, false
}

func TestNoBytes(t *testing.T) {
	for _, s := range states() {
		feeds(t, s, nil, s, nil)
		feeds(t, s, []byte{}, s, nil)
	}
}

// A state that waits for nothing takes no byte.
func TestNothingIsWaitedFor(t *testing.T) {
	for _, d := range duals() {
		for n := range 8 {
			s := waiting(0, d, some(n, 2, uint64(n)))
			feeds(t, s, nil, s, nil)
			for _, b := range [][]byte{{0}, {255}, {1, 2}, make([]byte, 1000), bytes.Repeat([]byte{255}, maxBytes)} {
				fails(t, s, b, api.ErrMore)
			}
		}
	}
}

// Behind the last number at most 7 bits are left; one more is told, and so are more of them.
func TestMoreBehindTheLastNumber(t *testing.T) {
	for i, l := range short() {
		c := code(l)
		for behind := range 30 {
			b := together(c, some(behind, 2, uint64(i)))
			s, _ := Start(len(l))
			if len(b)%8 > 0 {
				continue
			}
			if behind < 8 {
				feeds(t, s, filled(b), waiting(0, after(l), b[len(c):]), l)
			} else {
				fails(t, s, filled(b), api.ErrMore)
			}
		}
	}
}

// Which number has another form does not matter, if it is waited for; one behind the last one is told as more.
func TestFeedTellsTheForm(t *testing.T) {
	for _, l := range short() {
		c, d := code(l), after(l)
		for _, w := range wrong(d) {
			b := filled(together(c, w, make(list, 20)))
			for _, more := range []int{1, 2, 5, maxList - len(l)} {
				s, _ := Start(len(l) + more)
				fails(t, s, b, api.ErrForm)
			}
			s, _ := Start(len(l))
			fails(t, s, b, api.ErrMore)
			// Its last bit is not there yet.
			if s.Left = len(l) + 1; (len(c)+len(w)-1)%8 == 0 {
				feeds(t, s, filled(together(c, w[:len(w)-1])), waiting(1, d, w[:len(w)-1]), l)
			}
		}
	}
}

// Bits that are there already belong to the number that has another form.
func TestFeedTellsTheFormBehindARest(t *testing.T) {
	for _, d := range duals() {
		for _, w := range wrong(d) {
			for n := range w {
				s := waiting(2, d, w[:n])
				fails(t, s, filled(together(w[n:], ones(n%20))), api.ErrForm)
			}
		}
	}
}

// A state that is not valid is told first, whatever the bytes are.
func TestFeedRefusesBadStates(t *testing.T) {
	for _, s := range badStates() {
		for _, b := range [][]byte{nil, {0}, bytes.Repeat([]byte{255}, 30), make([]byte, maxBytes), make([]byte, maxBytes+1)} {
			fails(t, s, b, api.ErrBad)
		}
	}
}

// Too many bytes are told before what is wrong with them.
func TestFeedRefusesManyBytes(t *testing.T) {
	for _, n := range []int{maxBytes + 1, maxBytes + 2, 41250, 41251, 50000, 1 << 20} {
		for _, b := range [][]byte{make([]byte, n), bytes.Repeat([]byte{255}, n)} {
			for _, s := range fewStates() {
				fails(t, s, b, api.ErrMany)
			}
		}
	}
}

// As many bytes as are allowed may come behind as many bits as may wait.
func TestFeedUpToTheLimits(t *testing.T) {
	greatest := of(maxList, math.MaxUint32)
	c := code(greatest)
	s := waiting(maxList, start(), c[:maxRest])
	feeds(t, s, filled(c[maxRest:]), waiting(0, after(greatest), nil), greatest)
	for _, b := range [][]byte{filled(together(c, make(list, maxBytes*8-len(c)))), make([]byte, maxBytes), bytes.Repeat([]byte{128}, maxBytes)} {
		if len(b) != maxBytes {
			t.Fatal(len(b))
		}
		for _, s := range []api.Resume{waiting(maxList, start(), nil), waiting(1, api.Dual{K0: 10, K1: 10}, ones(maxRest)), waiting(0, start(), ones(7))} {
			_, _, err := fed(s, b)
			if err == api.OK || err == api.ErrMany {
				t.Fatal(s, err)
			}
			fails(t, s, b, err)
		}
	}
}

// P10.3: the bytes of a code of numbers give these, and nothing is waited for.
func TestTheCodeOfNumbersGivesThese(t *testing.T) {
	for _, l := range append(short(), long()...) {
		b, e := coder.Encode(l)
		if e != api.OK {
			t.Fatal(e)
		}
		s, _ := Start(len(l))
		d, _ := coder.After(l)
		x, m, e := Feed(s, b.Bytes)
		if e != api.OK || !slices.Equal(m, l) || x.Left != 0 || x.Dual != d || x.Rest.N != len(b.Bytes)*8-b.N || Check(x) != api.OK {
			t.Fatal(len(l), x, len(m), e)
		}
	}
}

// inPieces feeds a state with bytes, piece by piece, up to the first error.
func inPieces(t *testing.T, s api.Resume, b []byte, size func(i int) int) (api.Resume, []uint32, api.Errno) {
	t.Helper()
	var all []uint32
	for i := 0; len(b) > 0; i++ {
		n := min(size(i), len(b))
		x, l, e := Feed(s, b[:n])
		if e != api.OK {
			if !isZero(x) || len(l) != 0 {
				t.Fatal(x, l, e)
			}
			return api.Resume{}, nil, e
		}
		if Check(x) != api.OK || x.Left != s.Left-len(l) {
			t.Fatal(x, len(l))
		}
		s, b, all = x, b[n:], append(all, l...)
	}
	return s, all, api.OK
}

// sizes returns ways to cut bytes into pieces.
func sizes() []func(i int) int {
	equal := func(n int) func(int) int { return func(int) int { return n } }
	chances := chance(100, 8)
	return []func(i int) int{
		equal(1), equal(2), equal(3), equal(7), equal(100), equal(maxBytes),
		func(i int) int { return i % 4 },
		func(i int) int { return i * i },
		func(i int) int { return int(chances[i%100] % 13) },
		func(i int) int { return int(chances[i%100] % 2) },
	}
}

// P10.3: pieces do not matter, for the codes of numbers, in front of other bits, and with too few of them.
func TestPiecesDoNotMatter(t *testing.T) {
	for i, l := range append(short(), around(1000, 20, 1), of(1000, 0)) {
		c := code(l)
		for _, left := range []int{len(l), len(l) + 1, max(0, len(l)-1)} {
			s, _ := Start(left)
			for _, b := range [][]byte{filled(c), filled(together(c, some(60, 3, uint64(i)))), filled(c[:len(c)/2]), filled(together(c, ones(100)))} {
				sameInPieces(t, s, b)
			}
		}
	}
}

// sameInPieces checks that a state and bytes give the same in all ways to cut them.
func sameInPieces(t *testing.T, s api.Resume, b []byte) api.Errno {
	t.Helper()
	x, l, e := Feed(s, b)
	for i, size := range sizes() {
		y, m, f := inPieces(t, s, b, size)
		if f != e || !same(x, y) || !slices.Equal(l, m) {
			t.Fatal(s, len(b), i, x, y, len(l), len(m), e, f)
		}
	}
	return e
}

func TestPiecesDoNotMatterForAnyBytes(t *testing.T) {
	seen := map[api.Errno]int{}
	for i, s := range states() {
		if i%11 == 0 {
			for seed := range uint64(6) {
				seen[sameInPieces(t, s, filled(some(int(seed*100), 1+int(seed*seed*3), seed+uint64(i))))]++
			}
		}
	}
	if len(seen) != 3 || seen[api.OK] == 0 || seen[api.ErrForm] == 0 || seen[api.ErrMore] == 0 {
		t.Error(seen)
	}
}

// Pieces of a whole that would be too many bytes at once are not.
func TestPiecesOfTooManyBytes(t *testing.T) {
	l := of(maxList, math.MaxUint32)
	c := code(l)
	b := together(c, make(list, 8*2000))
	s, _ := Start(maxList)
	fails(t, s, filled(b), api.ErrMany)
	x, m, e := Feed(s, filled(c))
	if e != api.OK || x.Left != 0 || !slices.Equal(m, l) {
		t.Fatal(x, len(m), e)
	}
	fails(t, x, filled(b[len(c):]), api.ErrMore)
}

// P10.3: the state is valid, and may be fed on, also with what does not come from a list.
func TestTheStateIsValid(t *testing.T) {
	for i, s := range states() {
		for _, b := range pieces(uint64(i))[2:9] {
			x, l, e := Feed(s, b)
			if e == api.OK && (Check(x) != api.OK || x.Left != s.Left-len(l) || dual.Check(x.Dual) != api.OK || x.Rest.N > maxRest) {
				t.Fatal(s, b, x, l)
			}
		}
	}
}

// R2: arguments stay as they are, behind the length of a slice, too.
func TestArgumentsAreOnlyRead(t *testing.T) {
	behind := bytes.Repeat([]byte{171}, 40)
	for i, s := range fewStates() {
		for _, b := range pieces(uint64(i)) {
			rest, piece := slices.Concat(s.Rest.Bytes, behind), slices.Concat(b, behind)
			x := s
			x.Rest.Bytes = rest[:len(s.Rest.Bytes)]
			Check(x)
			Feed(x, piece[:len(b)])
			if !bytes.Equal(rest, slices.Concat(s.Rest.Bytes, behind)) || !bytes.Equal(piece, slices.Concat(b, behind)) {
				t.Fatal(s, b, rest, piece)
			}
		}
	}
}

// scribble changes all memory that results have.
func scribble(s api.Resume, l []uint32) {
	all := s.Rest.Bytes[:cap(s.Rest.Bytes)]
	for i := range all {
		all[i] ^= 255
	}
	numbers := l[:cap(l)]
	for i := range numbers {
		numbers[i] ^= math.MaxUint32
	}
}

// R2: what is done with one result changes neither arguments nor other results, and nothing is kept.
func TestResultsShareNoMemory(t *testing.T) {
	for i, s := range fewStates() {
		for _, b := range pieces(uint64(i)) {
			want, numbers, err := fed(s, b)
			if err != api.OK {
				continue
			}
			kept, piece := bytes.Clone(s.Rest.Bytes), bytes.Clone(b)
			x, l, _ := Feed(s, b)
			y, m, _ := Feed(s, b)
			scribble(x, l)
			if !bytes.Equal(s.Rest.Bytes, kept) || !bytes.Equal(b, piece) || !same(y, want) || !slices.Equal(m, numbers) {
				t.Fatal(s, b, y, m)
			}
			feeds(t, s, b, want, numbers)
		}
	}
}

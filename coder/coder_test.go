package coder

import (
	"bytes"
	"math"
	"slices"
	"testing"

	"cadenza/api"
	"cadenza/dual"
)

const (
	maxK     = 24
	maxRun   = 48
	maxList  = 4000
	maxCode  = 81
	maxBits  = 330000
	maxBytes = maxBits / 8
)

// list has a bool for each bit: the plainest form of bits.
type list []bool

// bits puts a list into bytes as layer 2 defines it.
func (l list) bits() api.Bits {
	b := api.Bits{Bytes: make([]byte, (len(l)+7)/8), N: len(l)}
	for i, set := range l {
		if set {
			b.Bytes[i/8] |= 1 << (i % 8)
		}
	}
	return b
}

// lowest returns the n lowest bits of a number.
func lowest(v uint64, n int) list {
	l := make(list, n)
	for i := range l {
		l[i] = v%2 == 1
		v /= 2
	}
	return l
}

// power returns 2^n.
func power(n int) uint64 {
	p := uint64(1)
	for range n {
		p *= 2
	}
	return p
}

func ones(n int) list { return slices.Repeat(list{true}, n) }

func together(lists ...list) list { return slices.Concat(lists...) }

// start returns the first state as layer 8 defines it.
func start() api.Dual { return api.Dual{K0: 10, Sum0: 16384, K1: 10, Sum1: 16384} }

// codeOfOne returns the code of a number in a state as layers 7 and 8 define it.
func codeOfOne(d api.Dual, v uint32) list {
	if uint64(v) < power(d.K0) {
		return together(list{false}, lowest(uint64(v), d.K0))
	}
	rest := uint64(v) - power(d.K0)
	q := rest / power(d.K1)
	if q < maxRun {
		return together(list{true}, ones(int(q)), list{false}, lowest(rest, d.K1))
	}
	return together(list{true}, ones(maxRun), lowest(rest, 32))
}

// pairBehind returns the pair that has learnt a number as layer 8 defines it.
func pairBehind(k int, sum, v uint64) (int, uint64) {
	n := sum + v - sum/16
	if k > 0 && n < power(k+4) {
		return k - 1, n
	}
	if k < maxK && n > power(k+5) {
		return k + 1, n
	}
	return k, n
}

// behindOne returns the state that has learnt a number as layer 8 defines it.
func behindOne(d api.Dual, v uint32) api.Dual {
	x := d
	if uint64(v) >= power(d.K0) {
		x.K1, x.Sum1 = pairBehind(d.K1, d.Sum1, uint64(v)-power(d.K0))
	}
	x.K0, x.Sum0 = pairBehind(d.K0, d.Sum0, uint64(v))
	return x
}

// codes returns the code of each number of a list as the document defines it, and the states behind them.
func codes(l []uint32) ([]list, []api.Dual) {
	d := start()
	each, behind := make([]list, len(l)), make([]api.Dual, len(l))
	for i, v := range l {
		each[i] = codeOfOne(d, v)
		d = behindOne(d, v)
		behind[i] = d
	}
	return each, behind
}

// code returns the code of numbers as the document defines it.
func code(l []uint32) list {
	each, _ := codes(l)
	return together(each...)
}

// after returns the state behind numbers as the document defines it.
func after(l []uint32) api.Dual {
	_, behind := codes(l)
	if len(l) == 0 {
		return start()
	}
	return behind[len(l)-1]
}

func same(a, b api.Bits) bool { return a.N == b.N && bytes.Equal(a.Bytes, b.Bytes) }

// chance returns n numbers that look like chance, but are the same for the same seed.
func chance(n int, seed uint64) []uint32 {
	l := make([]uint32, n)
	x := seed
	for i := range l {
		x = x*6364136223846793005 + 1442695040888963407
		l[i] = uint32(x >> 32)
	}
	return l
}

// some returns n bits, of which about one of rare is a zero.
func some(n, rare int, seed uint64) list {
	l := make(list, n)
	for i, x := range chance(n, seed) {
		l[i] = x>>8%uint32(rare) > 0
	}
	return l
}

// mixed returns n numbers whose sizes rise and fall.
func mixed(n int, seed uint64) []uint32 {
	l := chance(n, seed)
	for i := range l {
		l[i] >>= (uint64(i)/(seed%7+1) + seed) % 33
	}
	return l
}

// around returns n numbers less than 2^size.
func around(n, size int, seed uint64) []uint32 {
	l := chance(n, seed)
	for i := range l {
		l[i] >>= 32 - size
	}
	return l
}

func of(n int, v uint32) []uint32 { return slices.Repeat([]uint32{v}, n) }

// short returns lists of some numbers.
func short() [][]uint32 {
	all := [][]uint32{nil, {}, {5, 2000}, {2000, 5}, {0, 0, 0}, {1 << 10, 1<<10 - 1, 1 << 10}, {math.MaxUint32, 0, math.MaxUint32}}
	for i := range 33 {
		v := uint32(power(i))
		all = append(all, []uint32{v}, []uint32{v - 1}, []uint32{0, v, 7}, []uint32{v, v - 1, 0, v - 1, v})
	}
	for n := range 40 {
		all = append(all, mixed(n, uint64(n)), around(n*3, n%33, uint64(n)))
	}
	return all
}

// long returns lists of many numbers, some of them of as many as are allowed.
func long() [][]uint32 {
	return [][]uint32{
		of(maxList, 0), of(maxList, 1), of(maxList, math.MaxUint32), of(maxList-1, 70000), mixed(maxList, 1), mixed(maxList, 6),
		around(maxList, 32, 3), around(2049, 12, 4), around(2048, 4, 5), around(1000, 1, 6),
		slices.Concat(of(1500, math.MaxUint32), of(1500, 0), around(1000, 32, 7)),
	}
}

func lists() [][]uint32 { return append(short(), long()...) }

// badBits returns bits that are not valid, for each of the reasons.
func badBits() []api.Bits {
	return []api.Bits{
		{N: -1},
		{N: math.MinInt},
		{Bytes: make([]byte, 8), N: math.MaxInt},
		{Bytes: make([]byte, maxBytes+1), N: maxBits + 1},
		{N: 1},
		{Bytes: make([]byte, 1), N: 9},
		{Bytes: make([]byte, 2), N: 8},
		{Bytes: []byte{2}, N: 1},
		{Bytes: []byte{255, 255}, N: 15},
		{Bytes: []byte{0, 0, 0, 128}, N: 31},
	}
}

// decodes checks what Decode returns.
func decodes(t *testing.T, b api.Bits, n int, want []uint32, length int) {
	t.Helper()
	if l, at, e := Decode(b, n); e != api.OK || at != length || !slices.Equal(l, want) {
		t.Fatal(b.N, n, len(l), len(want), at, length, e)
	}
}

// decodeFails checks that Decode returns an error, and nothing else.
func decodeFails(t *testing.T, b api.Bits, n int, err api.Errno) {
	t.Helper()
	if l, at, e := Decode(b, n); e != err || at != 0 || len(l) != 0 {
		t.Fatal(b.N, n, len(l), at, e, err)
	}
}

func TestExamples(t *testing.T) {
	// A zero, 5 in 10 bits, a one, a one and a zero, and 1,488 - 1,024 in 10 bits.
	want := together(list{false}, lowest(5, 10), list{true, true, false}, lowest(464, 10))
	b, e := Encode([]uint32{5, 2000})
	if e != api.OK || b.N != 24 || !same(b, want.bits()) {
		t.Error(b, e)
	}
	decodes(t, want.bits(), 2, []uint32{5, 2000}, 24)
	if d, e := After([]uint32{5}); e != api.OK || d != (api.Dual{K0: 9, Sum0: 15365, K1: 10, Sum1: 16384}) {
		t.Error(d, e)
	}
	// The second pair learns 1,488: 16,384 + 1,488 - 1,024; the first one 2,000: 15,365 + 2,000 - 960, which is more than 2^14.
	if d, e := After([]uint32{5, 2000}); e != api.OK || d != (api.Dual{K0: 10, Sum0: 16405, K1: 10, Sum1: 16848}) {
		t.Error(d, e)
	}
}

func TestNoNumbers(t *testing.T) {
	for _, l := range [][]uint32{nil, {}} {
		if b, e := Encode(l); e != api.OK || b.N != 0 || len(b.Bytes) != 0 {
			t.Error(b, e)
		}
		if d, e := After(l); e != api.OK || d != dual.Start() {
			t.Error(d, e)
		}
	}
	for _, b := range []api.Bits{{}, {Bytes: []byte{}}, ones(100).bits(), make(list, maxBits).bits()} {
		decodes(t, b, 0, nil, 0)
	}
}

func TestEncode(t *testing.T) {
	for _, l := range lists() {
		if b, e := Encode(l); e != api.OK || !same(b, code(l).bits()) {
			t.Error(len(l), b.N, e)
		}
	}
}

func TestAfter(t *testing.T) {
	for _, l := range lists() {
		if d, e := After(l); e != api.OK || d != after(l) {
			t.Error(len(l), d, e)
		}
	}
}

func TestDecode(t *testing.T) {
	for i, l := range lists() {
		c := code(l)
		decodes(t, c.bits(), len(l), l, len(c))
		for _, behind := range []list{{false}, {true}, ones(200), make(list, 200), some(i%90, 2, uint64(i))} {
			decodes(t, together(c, behind).bits(), len(l), l, len(c))
		}
	}
}

func TestDecodeFewerNumbers(t *testing.T) {
	for _, l := range short() {
		each, _ := codes(l)
		length := 0
		for n := range l {
			decodes(t, code(l).bits(), n, l[:n], length)
			length += len(each[n])
		}
	}
}

func TestTooManyNumbers(t *testing.T) {
	for _, n := range []int{maxList + 1, maxList + 2, 2 * maxList, 100000} {
		for _, v := range []uint32{0, 5, math.MaxUint32} {
			if b, e := Encode(of(n, v)); e != api.ErrMany || b.N != 0 || len(b.Bytes) != 0 {
				t.Error(n, v, b.N, e)
			}
			if d, e := After(of(n, v)); e != api.ErrMany || d != (api.Dual{}) {
				t.Error(n, v, d, e)
			}
		}
	}
	for _, n := range []int{maxList + 1, maxList + 2, maxBits, 1 << 32, math.MaxInt} {
		// Some of these have no number, or one of another form, at the beginning.
		for _, b := range []api.Bits{{}, make(list, 20).bits(), ones(maxBits).bits(), code(of(maxList, 0)).bits(), make(list, maxBits).bits()} {
			decodeFails(t, b, n, api.ErrMany)
		}
	}
}

func TestDecodeRefusesNegativeNumbers(t *testing.T) {
	for _, n := range []int{-1, -2, -maxList, -1 << 32, math.MinInt} {
		for _, b := range []api.Bits{{}, make(list, 20).bits(), ones(200).bits(), make(list, maxBits).bits()} {
			decodeFails(t, b, n, api.ErrArg)
		}
	}
}

// Bits that are not valid are told first, also if no number is asked for, or not a possible number of them.
func TestDecodeRefusesBadBits(t *testing.T) {
	for _, b := range badBits() {
		for _, n := range []int{math.MinInt, -1, 0, 1, 2, maxList, maxList + 1, math.MaxInt} {
			decodeFails(t, b, n, api.ErrBad)
		}
	}
}

// Of the code of numbers some bits are missing.
func TestDecodeIsShort(t *testing.T) {
	for _, l := range short() {
		c := code(l)
		for there := 0; there < len(c); there += 1 + len(c)/100 {
			decodeFails(t, c[:there].bits(), len(l), api.ErrShort)
		}
		if len(c) > 0 {
			decodeFails(t, c[:len(c)-1].bits(), len(l), api.ErrShort)
		}
		// No number begins where the bits end.
		decodeFails(t, c.bits(), len(l)+1, api.ErrShort)
		decodeFails(t, c.bits(), maxList, api.ErrShort)
	}
	for _, l := range long() {
		c := code(l)
		decodeFails(t, c[:len(c)-1].bits(), len(l), api.ErrShort)
		decodeFails(t, c[:len(c)/2].bits(), len(l), api.ErrShort)
	}
}

// A number that has another form is told if it is asked for, and if no number before it has an error.
func TestDecodeTellsTheForm(t *testing.T) {
	for _, l := range short() {
		c, d := code(l), after(l)
		wrong := []list{
			// A run that has its greatest length, and a number that would have a shorter one.
			together(ones(1+maxRun), make(list, 32)),
			together(ones(1+maxRun), lowest(47<<d.K1, 32)),
			// A number that is too great with what it is less.
			together(ones(1+maxRun), lowest(math.MaxUint32-power(d.K0)+1, 32)),
			ones(1 + maxRun + 32),
		}
		for _, w := range wrong {
			b := together(c, w, make(list, 100)).bits()
			decodeFails(t, b, len(l)+1, api.ErrForm)
			decodeFails(t, b, len(l)+5, api.ErrForm)
			decodeFails(t, b, maxList, api.ErrForm)
			decodes(t, b, len(l), l, len(c))
			decodeFails(t, together(c, w[:len(w)-1]).bits(), len(l)+1, api.ErrShort)
		}
	}
}

// The greatest lists and bits have room for each other.
func TestDecodeUpToTheLimits(t *testing.T) {
	l := of(maxList, math.MaxUint32)
	c := code(l)
	if len(c) != maxList*maxCode {
		t.Fatal(len(c))
	}
	decodes(t, c.bits(), maxList, l, len(c))
	decodes(t, together(c, ones(maxBits-len(c))).bits(), maxList, l, len(c))
}

// P9.3: decoded is what was coded, also with other bits behind.
func TestDecodedIsWhatWasCoded(t *testing.T) {
	for i, l := range lists() {
		b, _ := Encode(l)
		decodes(t, b, len(l), l, b.N)
		more := together(code(l), some(90, 1+i%4, uint64(i))).bits()
		decodes(t, more, len(l), l, b.N)
	}
}

// P9.3: the code of numbers begins with the code of the first ones of them, and the state behind these is where the others begin.
func TestTheCodeBeginsWithThatOfTheFirstOnes(t *testing.T) {
	for _, l := range short() {
		whole := code(l)
		_, behind := codes(l)
		for n := range l {
			b, _ := Encode(l[:n+1])
			if d, e := After(l[:n+1]); e != api.OK || d != behind[n] || !same(b, whole[:b.N].bits()) {
				t.Fatal(len(l), n, d, e)
			}
		}
	}
}

// P9.3: what is decoded has just the bits that were read as its code, whatever the bits are; and where there is none, they are too few, or have another form.
func TestThereIsOneCodeForEachList(t *testing.T) {
	seen := map[api.Errno]int{}
	for seed := range uint64(400) {
		l := some(int(seed*3), 1+int(seed%50), seed)
		for _, n := range []int{1, 2, 5, 30, 100} {
			m, at, e := Decode(l.bits(), n)
			seen[e]++
			if e == api.OK && (len(m) != n || !slices.Equal(code(m), l[:at])) {
				t.Fatal(seed, n, m, at)
			}
			if e == api.ErrShort && len(l) >= n*maxCode {
				t.Fatal(seed, n)
			}
		}
	}
	if len(seen) != 3 || seen[api.OK] == 0 || seen[api.ErrShort] == 0 || seen[api.ErrForm] == 0 {
		t.Error(seen)
	}
}

func TestLengthsOfCodes(t *testing.T) {
	for _, l := range lists() {
		if b, e := Encode(l); e != api.OK || b.N > maxCode*len(l) || b.N > maxBits {
			t.Error(len(l), b.N, e)
		}
	}
	if b, e := Encode(of(maxList, math.MaxUint32)); e != api.OK || b.N != maxCode*maxList {
		t.Error(b.N, e)
	}
}

func TestZerosHaveFewBits(t *testing.T) {
	before := 0
	for n := range maxList + 1 {
		if n > 600 && n < maxList {
			continue
		}
		b, e := Encode(of(n, 0))
		if e != api.OK || b.N > 11*n || n > 0 && n <= 600 && b.N-before > 11 {
			t.Fatal(n, b.N, e)
		}
		before = b.N
		d, e := After(of(n, 0))
		if e != api.OK || n >= 500 && d.K0 != 0 {
			t.Fatal(n, d, e)
		}
	}
}

// R2: arguments stay as they are, behind the length of a slice, too.
func TestArgumentsAreOnlyRead(t *testing.T) {
	for _, l := range short() {
		whole := slices.Concat(l, of(40, 171))
		before := slices.Clone(whole)
		Encode(whole[:len(l)])
		After(whole[:len(l)])
		if !slices.Equal(whole, before) {
			t.Fatal(len(l), whole)
		}
		b := code(l).bits()
		n := len(b.Bytes)
		room := append(bytes.Clone(b.Bytes), bytes.Repeat([]byte{171}, 40)...)
		kept := bytes.Clone(room)
		Decode(api.Bits{Bytes: room[:n], N: b.N}, len(l))
		Decode(api.Bits{Bytes: room[:n], N: b.N}, len(l)+1)
		if !bytes.Equal(room, kept) {
			t.Fatal(len(l), room)
		}
	}
}

// R2: what is done with one result changes neither arguments nor other results, and nothing is kept.
func TestResultsShareNoMemory(t *testing.T) {
	for _, l := range short() {
		given, want := slices.Clone(l), code(l).bits()
		first, _ := Encode(given)
		second, _ := Encode(given)
		all := first.Bytes[:cap(first.Bytes)]
		for i := range all {
			all[i] ^= 255
		}
		third, e := Encode(given)
		if e != api.OK || !slices.Equal(given, l) || !same(second, want) || !same(third, want) {
			t.Fatal(len(l), e)
		}
		b := code(l).bits()
		m, _, _ := Decode(b, len(l))
		other, _, _ := Decode(b, len(l))
		values := m[:cap(m)]
		for i := range values {
			values[i] ^= 255
		}
		decodes(t, b, len(l), l, b.N)
		if !same(b, want) || !slices.Equal(other, l) {
			t.Fatal(len(l))
		}
	}
}

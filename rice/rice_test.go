package rice

import (
	"bytes"
	"math"
	"slices"
	"testing"

	"cadenza/api"
	"cadenza/bits"
)

const (
	maxK     = 24
	maxRun   = 48
	maxCode  = 80
	maxBits  = 330000
	maxBytes = maxBits / 8
)

// list has a bool for each bit: the plainest form of bits.
type list []bool

// bits puts a list into bytes as layer 2 defines it.
func (l list) bits() api.Bits {
	b := api.Bits{Bytes: make([]byte, (len(l)+7)/8), N: len(l)}
	for i, set := range l {
		if set {
			b.Bytes[i/8] |= 1 << (i % 8)
		}
	}
	return b
}

// listOf undoes list.bits.
func listOf(b api.Bits) list {
	l := make(list, b.N)
	for i := range l {
		l[i] = b.Bytes[i/8]>>(i%8)&1 == 1
	}
	return l
}

// lowest returns the n lowest bits of a number.
func lowest(v uint32, n int) list {
	l := make(list, n)
	for i := range l {
		l[i] = v%2 == 1
		v /= 2
	}
	return l
}

// code returns the code of a number as the document defines it.
func code(v uint32, k int) list {
	q := uint64(v) / (uint64(1) << k)
	if q < maxRun {
		return together(ones(int(q)), list{false}, lowest(v, k))
	}
	return together(ones(maxRun), lowest(v, 32))
}

func ones(n int) list { return slices.Repeat(list{true}, n) }

func together(lists ...list) list { return slices.Concat(lists...) }

func same(a, b api.Bits) bool { return a.N == b.N && bytes.Equal(a.Bytes, b.Bytes) }

// chance returns n numbers that look like chance, but are the same for the same seed.
func chance(n int, seed uint64) []uint32 {
	l := make([]uint32, n)
	x := seed
	for i := range l {
		x = x*6364136223846793005 + 1442695040888963407
		l[i] = uint32(x >> 32)
	}
	return l
}

// some returns n bits, of which about one of rare is a zero.
func some(n, rare int, seed uint64) list {
	l := make(list, n)
	for i, x := range chance(n, seed) {
		l[i] = x>>8%uint32(rare) > 0
	}
	return l
}

// wild returns bits with long runs of both kinds, and others between them.
func wild(seed uint64) list {
	var l list
	for i, x := range chance(60, seed) {
		x >>= 16
		switch i % 3 {
		case 0:
			l = together(l, ones(int(x%100)))
		case 1:
			l = together(l, make(list, x%40))
		default:
			l = together(l, some(int(x%20), 2, uint64(x)))
		}
	}
	return l
}

// numbers returns numbers, in order, where codes with a parameter may change: small ones, those around powers of two and around each run, and others.
func numbers(k int) []uint32 {
	l := []uint32{0, 1, 2, 3, 5, 9, 1000, math.MaxUint32 - 1, math.MaxUint32}
	around := func(v uint64) {
		for _, x := range []uint64{v - 1, v, v + 1} {
			if x <= math.MaxUint32 {
				l = append(l, uint32(x))
			}
		}
	}
	for n := range 32 {
		around(1 << n)
	}
	for q := uint64(1); q <= maxRun+2; q++ {
		around(q << k)
	}
	for i, x := range chance(64, uint64(k)) {
		l = append(l, x>>(i%32))
	}
	slices.Sort(l)
	return slices.Compact(l)
}

// each calls a function with all parameters, and numbers for them.
func each(f func(v uint32, k int)) {
	for k := range maxK + 1 {
		for _, v := range numbers(k) {
			f(v, k)
		}
	}
}

// fronts returns lists of all numbers of bits in the last byte, and of many bytes.
func fronts() []list {
	var all []list
	for n := range 9 {
		all = append(all, make(list, n), ones(n), some(n, 2, uint64(n)))
	}
	return append(all, some(1003, 2, 1))
}

// badParameters are none.
func badParameters() []int {
	return []int{-1, -2, -24, -32, -64, math.MinInt, math.MinInt + 1, maxK + 1, maxK + 2, 31, 32, 48, 63, 64, 65, 256, 1 << 32, 1<<32 + 1, math.MaxInt - 1, math.MaxInt}
}

// badBits returns bits that are not valid, for each of the reasons.
func badBits() map[string]api.Bits {
	return map[string]api.Bits{
		"N negative":     {N: -1},
		"N least":        {N: math.MinInt},
		"N greatest":     {Bytes: make([]byte, 8), N: math.MaxInt},
		"a bit too many": {Bytes: make([]byte, maxBytes+1), N: maxBits + 1},
		"no byte of one": {N: 1},
		"a byte missing": {Bytes: []byte{1}, N: 9},
		"a byte more":    {Bytes: []byte{1, 0}, N: 8},
		"next bit":       {Bytes: []byte{2}, N: 1},
		"all bits":       {Bytes: []byte{255, 255}, N: 15},
	}
}

func TestExamples(t *testing.T) {
	for _, c := range []struct {
		v    uint32
		k    int
		want api.Bits
	}{
		// One, one, zero, and one, zero: the lowest bit of 9 comes first.
		{9, 2, api.Bits{Bytes: []byte{1 + 2 + 8}, N: 5}},
		{47, 0, api.Bits{Bytes: []byte{255, 255, 255, 255, 255, 127}, N: 48}},
		{48, 0, api.Bits{Bytes: []byte{255, 255, 255, 255, 255, 255, 48, 0, 0, 0}, N: 80}},
		{0, 0, api.Bits{Bytes: []byte{0}, N: 1}},
		{5, 10, api.Bits{Bytes: []byte{10, 0}, N: 11}},
		{math.MaxUint32, 24, api.Bits{Bytes: bytes.Repeat([]byte{255}, 10), N: 80}},
	} {
		if b, e := Write(api.Bits{}, c.v, c.k); e != api.OK || !same(b, c.want) {
			t.Error(c.v, c.k, b, e)
		}
		if v, next, e := Read(c.want, 0, c.k); e != api.OK || v != c.v || next != c.want.N {
			t.Error(c.v, c.k, v, next, e)
		}
		if length, e := Length(c.v, c.k); e != api.OK || length != c.want.N {
			t.Error(c.v, c.k, length, e)
		}
	}
}

func TestLength(t *testing.T) {
	each(func(v uint32, k int) {
		if length, e := Length(v, k); e != api.OK || length != len(code(v, k)) {
			t.Error(v, k, length, e)
		}
	})
	for _, k := range badParameters() {
		for _, v := range numbers(0) {
			if length, e := Length(v, k); e != api.ErrArg || length != 0 {
				t.Error(v, k, length, e)
			}
		}
	}
}

func TestWrite(t *testing.T) {
	for _, front := range fronts() {
		each(func(v uint32, k int) {
			if b, e := Write(front.bits(), v, k); e != api.OK || !same(b, together(front, code(v, k)).bits()) {
				t.Fatal(len(front), v, k, b, e)
			}
		})
	}
}

func TestWriteRefuses(t *testing.T) {
	full := make(list, maxBits).bits()
	for _, b := range []api.Bits{{}, some(20, 2, 1).bits(), full} {
		for _, k := range badParameters() {
			for _, v := range []uint32{0, 1, 47, 48, math.MaxUint32} {
				if r, e := Write(b, v, k); e != api.ErrArg || !same(r, api.Bits{}) {
					t.Error(b.N, v, k, r.N, e)
				}
			}
		}
	}
	for k := range maxK + 1 {
		for _, v := range []uint32{0, 1, 47, 48, math.MaxUint32} {
			if r, e := Write(full, v, k); e != api.ErrFull || !same(r, api.Bits{}) {
				t.Error(v, k, r.N, e)
			}
		}
	}
}

// The bits may be full in the run, and behind it.
func TestWriteUpToTheLimit(t *testing.T) {
	l := some(maxBits, 3, 7)
	for k := range maxK + 1 {
		for _, v := range []uint32{0, 1, 1<<k - 1, 1 << k, 47<<k + 1, 48<<k - 1, 48 << k, math.MaxUint32} {
			c := code(v, k)
			front := l[:maxBits-len(c)]
			if b, e := Write(front.bits(), v, k); e != api.OK || !same(b, together(front, c).bits()) {
				t.Error(v, k, b.N, e)
			}
			for _, missing := range []int{1, len(c) / 2, len(c)} {
				if missing == 0 {
					continue
				}
				front = l[:maxBits-len(c)+missing]
				if b, e := Write(front.bits(), v, k); e != api.ErrFull || !same(b, api.Bits{}) {
					t.Error(v, k, missing, b.N, e)
				}
			}
		}
	}
}

func TestRead(t *testing.T) {
	for _, front := range fronts() {
		each(func(v uint32, k int) {
			for _, behind := range []list{nil, {false}, ones(60)} {
				c := code(v, k)
				got, next, e := Read(together(front, c, behind).bits(), len(front), k)
				if e != api.OK || got != v || next != len(front)+len(c) {
					t.Fatal(len(front), v, k, len(behind), got, next, e)
				}
			}
		})
	}
}

func TestReadUpToTheLimit(t *testing.T) {
	for k := range maxK + 1 {
		for _, v := range []uint32{0, 1, 1<<k - 1, 48<<k - 1, 48 << k, math.MaxUint32} {
			c := code(v, k)
			front := make(list, maxBits-len(c))
			if got, next, e := Read(together(front, c).bits(), len(front), k); e != api.OK || got != v || next != maxBits {
				t.Error(v, k, got, next, e)
			}
		}
	}
}

// Of each code some bits are missing.
func TestReadIsShort(t *testing.T) {
	for k := range maxK + 1 {
		for _, v := range []uint32{0, 1, 9, 1<<k - 1, 1 << k, 47 << k, 48<<k - 1, 48 << k, 1 << 31, math.MaxUint32} {
			c := code(v, k)
			for _, front := range []list{nil, ones(3), make(list, 8), some(1003, 2, 1)} {
				for there := range c {
					b := together(front, c[:there]).bits()
					if got, next, e := Read(b, len(front), k); e != api.ErrShort || got != 0 || next != 0 {
						t.Fatal(len(front), v, k, there, got, next, e)
					}
				}
			}
		}
	}
}

func TestReadBehindTheEndIsShort(t *testing.T) {
	for _, b := range []api.Bits{{}, {Bytes: []byte{}}, {Bytes: []byte{0}, N: 1}, {Bytes: []byte{0, 0}, N: 15}, make(list, maxBits).bits()} {
		for k := range maxK + 1 {
			for _, at := range []int{b.N, b.N + 1, b.N + 7, b.N + 80, 1 << 32, math.MaxInt - 80, math.MaxInt - 48, math.MaxInt - 1, math.MaxInt} {
				if v, next, e := Read(b, at, k); e != api.ErrShort || v != 0 || next != 0 {
					t.Error(b.N, at, k, v, next, e)
				}
			}
		}
	}
}

// Numbers that have a shorter run are not read behind that of MaxRun, but only if all of their bits are there.
func TestReadTellsTheForm(t *testing.T) {
	for k := range maxK + 1 {
		for _, v := range numbers(k) {
			if v>>k >= maxRun {
				continue
			}
			for _, front := range []list{nil, ones(3), some(77, 2, 1)} {
				c := together(ones(maxRun), lowest(v, 32))
				for _, behind := range []list{nil, make(list, 40), ones(40)} {
					b := together(front, c, behind).bits()
					if got, next, e := Read(b, len(front), k); e != api.ErrForm || got != 0 || next != 0 {
						t.Fatal(len(front), v, k, got, next, e)
					}
				}
				b := together(front, c[:len(c)-1]).bits()
				if got, next, e := Read(b, len(front), k); e != api.ErrShort || got != 0 || next != 0 {
					t.Fatal(len(front), v, k, got, next, e)
				}
			}
		}
	}
}

func TestReadRefuses(t *testing.T) {
	notForm := together(ones(maxRun), make(list, 32)).bits()
	for _, b := range []api.Bits{{}, {Bytes: []byte{0}, N: 1}, ones(100).bits(), make(list, 100).bits(), notForm} {
		for _, at := range []int{-1, -2, -8, -48, -100, math.MinInt, math.MinInt + 47} {
			for _, k := range append(badParameters(), 0, 1, 23, 24) {
				if v, next, e := Read(b, at, k); e != api.ErrArg || v != 0 || next != 0 {
					t.Error(b.N, at, k, v, next, e)
				}
			}
		}
		for _, at := range []int{0, 1, b.N, b.N + 1, math.MaxInt} {
			for _, k := range badParameters() {
				if v, next, e := Read(b, at, k); e != api.ErrArg || v != 0 || next != 0 {
					t.Error(b.N, at, k, v, next, e)
				}
			}
		}
	}
}

// Bits that are not valid are told before all else.
func TestBadBitsAreToldFirst(t *testing.T) {
	for name, b := range badBits() {
		for _, k := range append(badParameters(), 0, 1, 23, 24) {
			for _, v := range []uint32{0, 1, 47, 48, math.MaxUint32} {
				if r, e := Write(b, v, k); e != api.ErrBad || !same(r, api.Bits{}) {
					t.Error(name, v, k, r, e)
				}
			}
			for _, at := range []int{0, 1, 7, 100, 1 << 40, math.MaxInt, -1, math.MinInt} {
				if v, next, e := Read(b, at, k); e != api.ErrBad || v != 0 || next != 0 {
					t.Error(name, at, k, v, next, e)
				}
			}
		}
	}
}

// begins tells whether a list begins another one.
func begins(l, other list) bool { return len(l) <= len(other) && slices.Equal(l, other[:len(l)]) }

func TestNoCodeBeginsAnother(t *testing.T) {
	for k := range maxK + 1 {
		var codes []list
		for _, v := range numbers(k) {
			b, _ := Write(api.Bits{}, v, k)
			codes = append(codes, listOf(b))
		}
		for i, l := range codes {
			for j, m := range codes {
				if begins(l, m) != (i == j) {
					t.Fatal(k, i, j)
				}
			}
		}
	}
}

// What is read has just the code that was read, whatever the bits are; and where there is none, they are too few, or have another form.
func TestThereIsOneCodeForEachNumber(t *testing.T) {
	seen := map[api.Errno]int{}
	for seed := range uint64(30) {
		l := together(some(1000, 1+int(seed*seed), seed), wild(seed))
		for k := range maxK + 1 {
			for at := int(seed) % 7; at <= len(l); at += 13 {
				v, next, e := Read(l.bits(), at, k)
				seen[e]++
				if e == api.OK && !slices.Equal(code(v, k), l[at:next]) {
					t.Fatal(seed, k, at, v, next)
				}
				if e == api.ErrShort && at+maxCode <= len(l) {
					t.Fatal(seed, k, at)
				}
				if e == api.ErrForm && !begins(ones(maxRun), l[at:]) {
					t.Fatal(seed, k, at)
				}
			}
		}
	}
	if len(seen) != 3 || seen[api.OK] == 0 || seen[api.ErrShort] == 0 || seen[api.ErrForm] == 0 {
		t.Error(seen)
	}
}

func TestLengthsOfCodes(t *testing.T) {
	for k := range maxK + 1 {
		before := 0
		for _, v := range numbers(k) {
			length, e := Length(v, k)
			b, _ := Write(api.Bits{}, v, k)
			if e != api.OK || length != b.N || length < k+1 || length > maxCode || length < before {
				t.Error(v, k, length, b.N, before, e)
			}
			if v < 1<<k && length != k+1 {
				t.Error(v, k, length)
			}
			before = length
		}
		if before != maxCode {
			t.Error(k, before)
		}
	}
}

// Codes behind each other are read as the numbers, also with parameters that change.
func TestCodesBehindEachOther(t *testing.T) {
	for seed := range uint64(30) {
		front := some(int(seed), 2, seed)
		b, l := front.bits(), chance(300, seed)
		parameter := func(i int) int { return (i*7 + int(seed)) % (maxK + 1) }
		for i := range l {
			l[i] >>= i % 33
			var e api.Errno
			if b, e = Write(b, l[i], parameter(i)); e != api.OK {
				t.Fatal(seed, i, e)
			}
		}
		at := len(front)
		for i, want := range l {
			v, next, e := Read(b, at, parameter(i))
			length, _ := Length(want, parameter(i))
			if e != api.OK || v != want || next != at+length {
				t.Fatal(seed, i, want, v, next, e)
			}
			at = next
		}
		if before, _ := bits.Cut(b, 0, len(front)); at != b.N || !same(before, front.bits()) {
			t.Fatal(seed, at, b.N)
		}
	}
}

// R2: arguments stay as they are, behind the length of a slice, too.
func TestArgumentsAreOnlyRead(t *testing.T) {
	for n := range 100 {
		l := some(n, 5, 3).bits()
		whole := append(bytes.Clone(l.Bytes), bytes.Repeat([]byte{171}, 40)...)
		before := bytes.Clone(whole)
		b := api.Bits{Bytes: whole[:len(l.Bytes)], N: n}
		for _, k := range []int{-1, 0, 1, 8, 24, 25} {
			for at := range n + 2 {
				Read(b, at, k)
			}
			for _, v := range []uint32{0, 5, 48, 1 << 20, math.MaxUint32} {
				Write(b, v, k)
			}
		}
		if !bytes.Equal(whole, before) {
			t.Fatal(n, whole)
		}
	}
}

// scribble changes all memory that bits have.
func scribble(b api.Bits) {
	all := b.Bytes[:cap(b.Bytes)]
	for i := range all {
		all[i] ^= 255
	}
}

// R2: what is done with one result changes neither arguments nor other results, and nothing is kept.
func TestResultsShareNoMemory(t *testing.T) {
	for n := range 40 {
		want, a := some(n, 2, 9).bits(), some(n, 2, 9).bits()
		for _, k := range []int{0, 1, 8, 24} {
			for _, v := range []uint32{0, 5, 48, 1 << 20, math.MaxUint32} {
				first, _ := Write(a, v, k)
				second, _ := Write(a, v, k)
				whole := together(some(n, 2, 9), code(v, k)).bits()
				scribble(first)
				third, _ := Write(a, v, k)
				if !same(a, want) || !same(second, whole) || !same(third, whole) {
					t.Fatal(n, v, k, a, second, third)
				}
			}
		}
	}
}

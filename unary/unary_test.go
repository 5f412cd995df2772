package unary

import (
	"bytes"
	"math"
	"slices"
	"testing"

	"cadenza/api"
	"cadenza/bits"
	"cadenza/crc32"
	"cadenza/crc64"
	"cadenza/fold"
	"cadenza/le"
)

const (
	maxRun   = 48
	maxBits  = 330000
	maxBytes = maxBits / 8
)

// list has a bool for each bit: the plainest form of bits.
type list []bool

// bits puts a list into bytes as layer 2 defines it.
func (l list) bits() api.Bits {
	b := api.Bits{Bytes: make([]byte, (len(l)+7)/8), N: len(l)}
	for i, set := range l {
		if set {
			b.Bytes[i/8] |= 1 << (i % 8)
		}
	}
	return b
}

// run returns the run of a number as the document defines it.
func run(n int) list {
	l := ones(n)
	if n < maxRun {
		l = append(l, false)
	}
	return l
}

func ones(n int) list { return slices.Repeat(list{true}, n) }

// numbers returns n numbers that look like chance, less than a limit, but are the same for the same seed.
func numbers(n, limit int, seed uint64) []int {
	l := make([]int, n)
	x := seed
	for i := range l {
		x = x*6364136223846793005 + 1442695040888963407
		l[i] = int(x>>33) % limit
	}
	return l
}

// some returns n bits, of which about one of rare is a zero.
func some(n, rare int, seed uint64) list {
	l := make(list, n)
	for i, x := range numbers(n, rare, seed) {
		l[i] = x > 0
	}
	return l
}

func together(lists ...list) list { return slices.Concat(lists...) }

func same(a, b api.Bits) bool { return a.N == b.N && bytes.Equal(a.Bytes, b.Bytes) }

// fronts returns lists of all numbers of bits in the last byte, and of many bytes.
func fronts() []list {
	var all []list
	for n := range 25 {
		all = append(all, make(list, n), ones(n), some(n, 2, uint64(n)))
	}
	return append(all, some(1003, 2, 1), some(5000, 5, 2))
}

// badNumbers have no runs.
func badNumbers() []int {
	return []int{-1, -2, -48, -64, math.MinInt, math.MinInt + 1, maxRun + 1, maxRun + 2, 63, 64, 65, 256, 1 << 32, math.MaxInt - 1, math.MaxInt}
}

// badBits returns bits that are not valid, for each of the reasons.
func badBits() map[string]api.Bits {
	return map[string]api.Bits{
		"N negative":     {N: -1},
		"N least":        {N: math.MinInt},
		"N greatest":     {Bytes: make([]byte, 8), N: math.MaxInt},
		"a bit too many": {Bytes: make([]byte, maxBytes+1), N: maxBits + 1},
		"no byte of one": {N: 1},
		"a byte missing": {Bytes: []byte{1}, N: 9},
		"a byte more":    {Bytes: []byte{1, 0}, N: 8},
		"next bit":       {Bytes: []byte{2}, N: 1},
		"all bits":       {Bytes: []byte{255, 255}, N: 15},
	}
}

func TestExamples(t *testing.T) {
	for _, c := range []struct {
		n    int
		want api.Bits
	}{
		{0, api.Bits{Bytes: []byte{0}, N: 1}},
		{3, api.Bits{Bytes: []byte{7}, N: 4}},
		{47, api.Bits{Bytes: []byte{255, 255, 255, 255, 255, 127}, N: 48}},
		{48, api.Bits{Bytes: []byte{255, 255, 255, 255, 255, 255}, N: 48}},
	} {
		if b, e := Write(api.Bits{}, c.n); e != api.OK || !same(b, c.want) {
			t.Error(c.n, b, e)
		}
		if n, next, e := Read(c.want, 0); e != api.OK || n != c.n || next != c.want.N {
			t.Error(c.n, n, next, e)
		}
		if length, e := Length(c.n); e != api.OK || length != c.want.N {
			t.Error(c.n, length, e)
		}
	}
}

func TestLength(t *testing.T) {
	for n := range maxRun + 1 {
		if length, e := Length(n); e != api.OK || length != len(run(n)) {
			t.Error(n, length, e)
		}
	}
	for _, n := range badNumbers() {
		if length, e := Length(n); e != api.ErrArg || length != 0 {
			t.Error(n, length, e)
		}
	}
}

func TestWrite(t *testing.T) {
	for _, front := range fronts() {
		for n := range maxRun + 1 {
			if b, e := Write(front.bits(), n); e != api.OK || !same(b, together(front, run(n)).bits()) {
				t.Fatal(len(front), n, b, e)
			}
		}
	}
}

func TestWriteRefuses(t *testing.T) {
	full := make(list, maxBits).bits()
	for _, n := range badNumbers() {
		for _, b := range []api.Bits{{}, some(20, 2, 1).bits(), full} {
			if r, e := Write(b, n); e != api.ErrArg || !same(r, api.Bits{}) {
				t.Error(b.N, n, r.N, e)
			}
		}
	}
	for n := range maxRun + 1 {
		if r, e := Write(full, n); e != api.ErrFull || !same(r, api.Bits{}) {
			t.Error(n, r.N, e)
		}
	}
}

func TestWriteUpToTheLimit(t *testing.T) {
	l := some(maxBits, 3, 7)
	for n := range maxRun + 1 {
		front := l[:maxBits-len(run(n))]
		if b, e := Write(front.bits(), n); e != api.OK || !same(b, together(front, run(n)).bits()) {
			t.Error(n, b.N, e)
		}
		front = l[:len(front)+1]
		if b, e := Write(front.bits(), n); e != api.ErrFull || !same(b, api.Bits{}) {
			t.Error(n, b.N, e)
		}
	}
}

func TestRead(t *testing.T) {
	for _, front := range fronts() {
		for n := range maxRun + 1 {
			for _, behind := range []list{nil, {false}, {true}, ones(60), make(list, 9)} {
				b := together(front, run(n), behind).bits()
				got, next, e := Read(b, len(front))
				if e != api.OK || got != n || next != len(front)+len(run(n)) {
					t.Fatal(len(front), n, len(behind), got, next, e)
				}
			}
		}
	}
}

func TestReadUpToTheLimit(t *testing.T) {
	for n := range maxRun + 1 {
		front := make(list, maxBits-len(run(n)))
		if got, next, e := Read(together(front, run(n)).bits(), len(front)); e != api.OK || got != n || next != maxBits {
			t.Error(n, got, next, e)
		}
	}
}

// Of each run some bits are missing.
func TestReadIsShort(t *testing.T) {
	for _, front := range fronts() {
		for n := range maxRun + 1 {
			for there := range run(n) {
				b := together(front, run(n)[:there]).bits()
				if got, next, e := Read(b, len(front)); e != api.ErrShort || got != 0 || next != 0 {
					t.Fatal(len(front), n, there, got, next, e)
				}
			}
		}
	}
	for _, b := range []api.Bits{{}, {Bytes: []byte{}}, {Bytes: []byte{0}, N: 1}, {Bytes: []byte{0, 0}, N: 15}, make(list, maxBits).bits()} {
		for _, more := range []int{0, 1, 2, 7, 8, 64, 1 << 32} {
			if n, next, e := Read(b, b.N+more); e != api.ErrShort || n != 0 || next != 0 {
				t.Error(b.N, more, n, next, e)
			}
		}
		for less := range 100 {
			if n, next, e := Read(b, math.MaxInt-less); e != api.ErrShort || n != 0 || next != 0 {
				t.Error(b.N, less, n, next, e)
			}
		}
	}
}

func TestReadRefuses(t *testing.T) {
	for _, b := range []api.Bits{{}, {Bytes: []byte{0}, N: 1}, ones(100).bits(), make(list, 100).bits()} {
		for _, at := range []int{-1, -2, -8, -48, -100, math.MinInt, math.MinInt + 47} {
			if n, next, e := Read(b, at); e != api.ErrArg || n != 0 || next != 0 {
				t.Error(b.N, at, n, next, e)
			}
		}
	}
}

// Bits that are not valid are told before all else.
func TestBadBitsAreToldFirst(t *testing.T) {
	for name, b := range badBits() {
		for _, n := range append(badNumbers(), 0, 1, 47, 48) {
			if r, e := Write(b, n); e != api.ErrBad || !same(r, api.Bits{}) {
				t.Error(name, n, r, e)
			}
		}
		for _, at := range []int{0, 1, 7, 100, 1 << 40, math.MaxInt, -1, math.MinInt} {
			if n, next, e := Read(b, at); e != api.ErrBad || n != 0 || next != 0 {
				t.Error(name, at, n, next, e)
			}
		}
	}
}

// begins tells whether a list begins another one.
func begins(l, other list) bool { return len(l) <= len(other) && slices.Equal(l, other[:len(l)]) }

func TestNoRunBeginsAnother(t *testing.T) {
	var runs []list
	for n := range maxRun + 1 {
		b, _ := Write(api.Bits{}, n)
		var l list
		for i := range b.N {
			l = append(l, b.Bytes[i/8]>>(i%8)&1 == 1)
		}
		runs = append(runs, l)
	}
	for i, l := range runs {
		for j, m := range runs {
			if begins(l, m) != (i == j) {
				t.Error(i, j)
			}
		}
	}
}

// readAll reads runs from an index on until the bits are short.
func readAll(b api.Bits, at int) (l []int, end int) {
	for {
		n, next, e := Read(b, at)
		if e != api.OK {
			return l, at
		}
		l = append(l, n)
		at = next
	}
}

func writeAll(t *testing.T, b api.Bits, l []int) api.Bits {
	t.Helper()
	for _, n := range l {
		var e api.Errno
		if b, e = Write(b, n); e != api.OK {
			t.Fatal(n, e)
		}
	}
	return b
}

func TestRunsBehindEachOtherAreReadAsTheNumbers(t *testing.T) {
	for seed := range uint64(60) {
		front := some(int(seed), 2, seed)
		l := append(numbers(200, maxRun+1, seed), 48, 48, 47, 48, 0, 0, 47, 47, 48)
		b := writeAll(t, front.bits(), l)
		if got, end := readAll(b, len(front)); !slices.Equal(got, l) || end != b.N {
			t.Fatal(seed, got, end)
		}
	}
}

// All bits are the runs that are read from them, and fewer than MaxRun ones: there is no other way to read them.
func TestBitsAreReadInOneWay(t *testing.T) {
	for seed := range uint64(60) {
		whole := some(3000, 1+int(seed), seed)
		l, end := readAll(whole.bits(), 0)
		rest := whole[end:]
		if len(rest) >= maxRun || slices.Contains(rest, false) {
			t.Fatal(seed, end, rest)
		}
		b := writeAll(t, api.Bits{}, l)
		if !same(b, whole[:end].bits()) {
			t.Fatal(seed, end)
		}
	}
}

func TestFromEachIndexThereIsARun(t *testing.T) {
	for _, l := range []list{nil, {true}, {false}, ones(47), ones(48), ones(49), ones(400), make(list, 400), some(3000, 2, 1), some(3000, 40, 2), some(3000, 200, 3)} {
		b := l.bits()
		for at := range len(l) + 1 {
			n := 0
			for n < maxRun && at+n < len(l) && l[at+n] {
				n++
			}
			want, next, short := n, at+len(run(n)), api.OK
			if next > len(l) {
				want, next, short = 0, 0, api.ErrShort
			}
			if got, end, e := Read(b, at); e != short || got != want || end != next {
				t.Fatal(len(l), at, got, end, e)
			}
		}
	}
}

func TestGreaterNumbersHaveLongerRuns(t *testing.T) {
	before := 0
	for n := range maxRun + 1 {
		length, _ := Length(n)
		b, _ := Write(api.Bits{}, n)
		if longer := length > before; longer != (n < maxRun) || b.N != length {
			t.Error(n, before, length, b.N)
		}
		before = length
	}
	if before != maxRun {
		t.Error(before)
	}
}

// R2: arguments stay as they are, behind the length of a slice, too.
func TestArgumentsAreOnlyRead(t *testing.T) {
	for n := range 70 {
		l := some(n, 5, 3).bits()
		whole := append(bytes.Clone(l.Bytes), bytes.Repeat([]byte{171}, 40)...)
		before := bytes.Clone(whole)
		b := api.Bits{Bytes: whole[:len(l.Bytes)], N: n}
		for m := range maxRun + 1 {
			Write(b, m)
			Read(b, m)
		}
		if !bytes.Equal(whole, before) {
			t.Fatal(n, whole)
		}
	}
}

// scribble changes all memory that bits have.
func scribble(b api.Bits) {
	all := b.Bytes[:cap(b.Bytes)]
	for i := range all {
		all[i] ^= 255
	}
}

// R2: what is done with one result changes neither arguments nor other results, and nothing is kept.
func TestResultsShareNoMemory(t *testing.T) {
	for n := range 70 {
		want := some(n, 2, 9).bits()
		a := some(n, 2, 9).bits()
		for m := range maxRun + 1 {
			first, _ := Write(a, m)
			second, _ := Write(a, m)
			whole := together(some(n, 2, 9), run(m)).bits()
			scribble(first)
			third, _ := Write(a, m)
			if !same(a, want) || !same(second, whole) || !same(third, whole) {
				t.Fatal(n, m, a, second, third)
			}
		}
	}
}

// N1: signed numbers are folded, their runs are bits, the bytes of bits are numbers and have sums, in parts too, and all of it leads back.
func TestLayersAgree(t *testing.T) {
	for seed := range uint64(40) {
		var l []int
		for _, n := range numbers(30, maxRun+1, seed) {
			x := int32(n - maxRun/2)
			l = append(l, int(fold.Fold(x)))
			if fold.Back(uint32(l[len(l)-1])) != x {
				t.Fatal(x)
			}
		}
		b := writeAll(t, api.Bits{}, l)
		var words, again api.Bits
		state32, state64 := ^uint32(0), uint64(0)
		for at := 0; at < b.N; at += 64 {
			n := min(64, b.N-at)
			v, _ := bits.Get(b, at, n)
			p, _ := le.Bytes(v, (n+7)/8)
			state32, _ = crc32.Next(state32, p)
			state64, _ = crc64.Next(state64, p)
			part, _ := bits.Of(p)
			words, _ = bits.Join(words, part)
			v, _ = le.Value(p)
			again, _ = bits.Put(again, v, n)
		}
		if whole, _ := bits.Align(b); !same(words, whole) || !same(again, b) {
			t.Fatal(seed, words, again, b)
		}
		sum32, _ := crc32.Sum(b.Bytes)
		sum64, _ := crc64.Sum(b.Bytes)
		if ^state32 != sum32 || state64 != sum64 {
			t.Fatal(seed, state32, sum32, state64, sum64)
		}
		if got, end := readAll(again, 0); !slices.Equal(got, l) || end != b.N {
			t.Fatal(seed, got, end)
		}
	}
}

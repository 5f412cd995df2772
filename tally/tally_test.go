package tally

import (
	"bytes"
	"math"
	"slices"
	"testing"

	"cadenza/api"
	"cadenza/bits"
	"cadenza/block"
	"cadenza/coder"
	"cadenza/dual"
	"cadenza/resume"
	"cadenza/rice"
)

const (
	maxK    = 24
	maxRun  = 48
	maxList = 4000
	most    = 81
	sumSize = 4
)

// power returns 2^n.
func power(n int) uint64 {
	p := uint64(1)
	for range n {
		p *= 2
	}
	return p
}

// start returns the first state as layer 8 defines it.
func start() api.Dual { return api.Dual{K0: 10, Sum0: 16384, K1: 10, Sum1: 16384} }

// lengthOfOne returns how many bits the code of a number has in a state as layers 7 and 8 define it.
func lengthOfOne(d api.Dual, v uint32) int {
	if uint64(v) < power(d.K0) {
		return 1 + d.K0
	}
	q := (uint64(v) - power(d.K0)) / power(d.K1)
	if q < maxRun {
		return 1 + int(q) + 1 + d.K1
	}
	return 1 + maxRun + 32
}

// pairBehind returns the pair that has learnt a number as layer 8 defines it.
func pairBehind(k int, sum, v uint64) (int, uint64) {
	n := sum + v - sum/16
	if k > 0 && n < power(k+4) {
		return k - 1, n
	}
	if k < maxK && n > power(k+5) {
		return k + 1, n
	}
	return k, n
}

// behindOne returns the state that has learnt a number as layer 8 defines it.
func behindOne(d api.Dual, v uint32) api.Dual {
	x := d
	if uint64(v) >= power(d.K0) {
		x.K1, x.Sum1 = pairBehind(d.K1, d.Sum1, uint64(v)-power(d.K0))
	}
	x.K0, x.Sum0 = pairBehind(d.K0, d.Sum0, uint64(v))
	return x
}

// lengthsFrom returns how many bits each number has in its code, from a state on.
func lengthsFrom(d api.Dual, l []uint32) []int {
	each := make([]int, len(l))
	for i, v := range l {
		each[i] = lengthOfOne(d, v)
		d = behindOne(d, v)
	}
	return each
}

// after returns the state behind numbers as the document defines it.
func after(l []uint32) api.Dual {
	d := start()
	for _, v := range l {
		d = behindOne(d, v)
	}
	return d
}

func sum(l []int) int {
	n := 0
	for _, x := range l {
		n += x
	}
	return n
}

// size returns how many bytes the block of n bits has as layer 11 defines it.
func size(n int) int {
	for n%8 != 0 {
		n++
	}
	return n/8 + sumSize
}

// fitting returns how many numbers, at most, that have some lengths, have a block of at most some bytes.
func fitting(each []int, room int) int {
	count, length := 0, 0
	for i, n := range each {
		length += n
		if size(length) <= room {
			count = i + 1
		}
	}
	return count
}

// chance returns n numbers that look like chance, but are the same for the same seed.
func chance(n int, seed uint64) []uint32 {
	l := make([]uint32, n)
	x := seed
	for i := range l {
		x = x*6364136223846793005 + 1442695040888963407
		l[i] = uint32(x >> 32)
	}
	return l
}

// mixed returns n numbers whose sizes rise and fall.
func mixed(n int, seed uint64) []uint32 {
	l := chance(n, seed)
	for i := range l {
		l[i] >>= (uint64(i)/(seed%7+1) + seed) % 33
	}
	return l
}

// around returns n numbers less than 2^size.
func around(n, size int, seed uint64) []uint32 {
	l := chance(n, seed)
	for i := range l {
		l[i] >>= 32 - size
	}
	return l
}

func of(n int, v uint32) []uint32 { return slices.Repeat([]uint32{v}, n) }

// short returns lists of some numbers.
func short() [][]uint32 {
	all := [][]uint32{nil, {}, {5, 2000}, {2000, 5}, {0, 0, 0}, {1 << 10, 1<<10 - 1, 1 << 10}, {math.MaxUint32, 0, math.MaxUint32}}
	for i := range 33 {
		v := uint32(power(i))
		all = append(all, []uint32{v}, []uint32{v - 1}, []uint32{0, v, 7}, []uint32{v, v - 1, 0, v - 1, v})
	}
	for n := range 40 {
		all = append(all, mixed(n, uint64(n)), around(n*3, n%33, uint64(n)))
	}
	return all
}

// long returns lists of many numbers, some of them of as many as are allowed.
func long() [][]uint32 {
	return [][]uint32{
		of(maxList, 0), of(maxList, 1), of(maxList, math.MaxUint32), of(maxList-1, 70000), mixed(maxList, 1), mixed(maxList, 6),
		around(maxList, 32, 3), around(2049, 12, 4), around(2048, 4, 5), around(1000, 1, 6),
		slices.Concat(of(1500, math.MaxUint32), of(1500, 0), around(1000, 32, 7)),
	}
}

// edges returns lists whose last number is one at which the length of a code changes, in the state behind the others.
func edges() [][]uint32 {
	var all [][]uint32
	for _, l := range [][]uint32{nil, {5}, {0, 0, 7, 9000}, of(600, 0), of(300, 1<<20), of(300, math.MaxUint32), mixed(100, 3), mixed(101, 5), around(80, 12, 9)} {
		d := after(l)
		first := power(d.K0)
		values := []uint64{0, first - 1, first, math.MaxUint32}
		for _, q := range []uint64{1, 2, maxRun - 1, maxRun, maxRun + 1} {
			values = append(values, first+q*power(d.K1)-1, first+q*power(d.K1))
		}
		for _, v := range values {
			if v <= math.MaxUint32 {
				all = append(all, slices.Concat(l, []uint32{uint32(v)}))
			}
		}
	}
	return all
}

func lists() [][]uint32 { return slices.Concat(short(), edges(), long()) }

// fits checks what Fits returns.
func fits(t *testing.T, l []uint32, room, want int) {
	t.Helper()
	if n, e := Fits(l, room); e != api.OK || n != want {
		t.Fatal(len(l), room, n, want, e)
	}
}

// fitsFails checks that Fits returns an error, and nothing else.
func fitsFails(t *testing.T, l []uint32, room int, err api.Errno) {
	t.Helper()
	if n, e := Fits(l, room); e != err || n != 0 {
		t.Fatal(len(l), room, n, e, err)
	}
}

func TestExamples(t *testing.T) {
	l := []uint32{5, 2000}
	if each, e := Each(l); e != api.OK || !slices.Equal(each, []int{11, 13}) {
		t.Error(each, e)
	}
	if n, e := Length(l); e != api.OK || n != 24 {
		t.Error(n, e)
	}
	if n, e := Bytes(l); e != api.OK || n != 7 {
		t.Error(n, e)
	}
	for room, want := range map[int]int{4: 0, 5: 0, 6: 1, 7: 2, 8: 2, 1000: 2} {
		fits(t, l, room, want)
	}
}

func TestNoNumbers(t *testing.T) {
	for _, l := range [][]uint32{nil, {}} {
		if each, e := Each(l); e != api.OK || len(each) != 0 {
			t.Error(each, e)
		}
		if n, e := Length(l); e != api.OK || n != 0 {
			t.Error(n, e)
		}
		if n, e := Bytes(l); e != api.OK || n != sumSize {
			t.Error(n, e)
		}
		for _, room := range []int{4, 5, 6, 41254, 41255, math.MaxInt} {
			fits(t, l, room, 0)
		}
	}
}

func TestEach(t *testing.T) {
	for _, l := range lists() {
		if each, e := Each(l); e != api.OK || !slices.Equal(each, lengthsFrom(start(), l)) {
			t.Error(len(l), each, e)
		}
	}
}

func TestLength(t *testing.T) {
	for _, l := range lists() {
		if n, e := Length(l); e != api.OK || n != sum(lengthsFrom(start(), l)) {
			t.Error(len(l), n, e)
		}
	}
}

func TestBytes(t *testing.T) {
	for _, l := range lists() {
		if n, e := Bytes(l); e != api.OK || n != size(sum(lengthsFrom(start(), l))) {
			t.Error(len(l), n, e)
		}
	}
}

// A block has a byte more as soon as its code has a bit more than fills the others.
func TestBytesOfAllRemainders(t *testing.T) {
	seen := map[int]bool{}
	for n := range 600 {
		l := of(n, 0)
		length := sum(lengthsFrom(start(), l))
		seen[length%8] = true
		if got, e := Bytes(l); e != api.OK || got != size(length) {
			t.Fatal(n, got, e)
		}
	}
	if len(seen) != 8 {
		t.Error(seen)
	}
}

func TestTooManyNumbers(t *testing.T) {
	for _, n := range []int{maxList + 1, maxList + 2, 2 * maxList, 100000} {
		for _, v := range []uint32{0, 5, math.MaxUint32} {
			l := of(n, v)
			if each, e := Each(l); e != api.ErrMany || len(each) != 0 {
				t.Error(n, v, len(each), e)
			}
			if n, e := Length(l); e != api.ErrMany || n != 0 {
				t.Error(len(l), v, n, e)
			}
			if n, e := Bytes(l); e != api.ErrMany || n != 0 {
				t.Error(len(l), v, n, e)
			}
			// A list that is too long is told first, also if the bytes are too few.
			for _, room := range []int{math.MinInt, -1, 0, 3, 4, 1000, 41254, math.MaxInt} {
				fitsFails(t, l, room, api.ErrMany)
			}
		}
	}
}

func TestMost(t *testing.T) {
	want := 0
	for n := range maxList + 1 {
		if got, e := Most(n); e != api.OK || got != want {
			t.Fatal(n, got, want, e)
		}
		want += most
	}
}

func TestMostRefusesOtherNumbers(t *testing.T) {
	for _, n := range []int{-1, -2, -81, -maxList, -1 << 32, math.MinInt, math.MinInt + 1, maxList + 1, maxList + 2, 330000, 1 << 32, 1 << 58, math.MaxInt/81 + 1, math.MaxInt} {
		if got, e := Most(n); e != api.ErrArg || got != 0 {
			t.Error(n, got, e)
		}
	}
}

// P12.2: some numbers have as many bits as Most says.
func TestMostIsTheGreatest(t *testing.T) {
	for n := range maxList + 1 {
		if n > 50 && n%97 > 0 && n < maxList-2 {
			continue
		}
		m, e := Most(n)
		if length, f := Length(of(n, math.MaxUint32)); e != api.OK || f != api.OK || length != m {
			t.Fatal(n, length, m, e, f)
		}
	}
	for _, l := range lists() {
		m, e := Most(len(l))
		if length, f := Length(l); e != api.OK || f != api.OK || length > m {
			t.Fatal(len(l), length, m, e, f)
		}
	}
}

func TestFits(t *testing.T) {
	for _, l := range slices.Concat(short(), edges(), [][]uint32{around(1000, 1, 6), of(900, 0)}) {
		each := lengthsFrom(start(), l)
		for room := sumSize; room <= size(sum(each))+2; room++ {
			fits(t, l, room, fitting(each, room))
		}
	}
}

func TestFitsManyNumbers(t *testing.T) {
	for _, l := range long() {
		each := lengthsFrom(start(), l)
		whole := size(sum(each))
		for room := sumSize; room < whole; room += 1 + whole/100 {
			fits(t, l, room, fitting(each, room))
		}
		fits(t, l, whole-1, fitting(each, whole-1))
		fits(t, l, whole, len(l))
	}
}

// All numbers fit more bytes than a block may have.
func TestFitsGreatRooms(t *testing.T) {
	for _, l := range lists() {
		for _, room := range []int{41254, 41255, 100000, 1 << 31, 1 << 32, 1 << 61, 1<<61 + 4, math.MaxInt - 3, math.MaxInt} {
			fits(t, l, room, len(l))
		}
	}
}

func TestFitsRefusesFewBytes(t *testing.T) {
	for _, l := range lists() {
		for _, room := range []int{3, 2, 1, 0, -1, -4, -1 << 32, math.MinInt, math.MinInt + 4} {
			fitsFails(t, l, room, api.ErrArg)
		}
	}
}

// P12.4: counted without coding they are as long as the codes.
func TestCountsAreAsLongAsTheCodes(t *testing.T) {
	for _, l := range lists() {
		b, e := coder.Encode(l)
		if e != api.OK {
			t.Fatal(e)
		}
		if n, e := Length(l); e != api.OK || n != b.N {
			t.Fatal(len(l), n, b.N, e)
		}
		p, e := block.Pack(b)
		if e != api.OK {
			t.Fatal(e)
		}
		if n, e := Bytes(l); e != api.OK || n != len(p) {
			t.Fatal(len(l), n, len(p), e)
		}
		each, e := Each(l)
		if e != api.OK || len(each) != len(l) {
			t.Fatal(len(l), len(each), e)
		}
		at, d := 0, dual.Start()
		for i, v := range l {
			x, next, behind, e := dual.Read(b, at, d)
			if e != api.OK || x != v || next-at != each[i] {
				t.Fatal(len(l), i, v, x, next-at, each[i], e)
			}
			at, d = next, behind
			if i > 300 {
				break
			}
		}
	}
}

// P12.4: the length of a list is that of its first numbers, and of the others from the state behind them on.
func TestLengthsOfParts(t *testing.T) {
	for _, l := range lists() {
		whole, _ := Each(l)
		all, _ := Length(l)
		for at := 0; at <= len(l); at += 1 + len(l)/20 {
			first, e := Each(l[:at])
			if e != api.OK || !slices.Equal(first, whole[:at]) {
				t.Fatal(len(l), at, e)
			}
			length, e := Length(l[:at])
			if e != api.OK {
				t.Fatal(len(l), at, e)
			}
			d, _ := coder.After(l[:at])
			for _, v := range l[at:] {
				n, _ := dual.Length(d, v)
				length += n
				d, _ = dual.Learn(d, v)
			}
			if length != all {
				t.Fatal(len(l), at, length, all)
			}
		}
	}
}

// P12.4: each number has from 1 to 81 bits.
func TestLengthsOfNumbers(t *testing.T) {
	least, greatest := most, 1
	for _, l := range lists() {
		each, e := Each(l)
		if e != api.OK {
			t.Fatal(len(l), e)
		}
		for i, n := range each {
			if n < 1 || n > most {
				t.Fatal(len(l), i, n)
			}
			least, greatest = min(least, n), max(greatest, n)
		}
	}
	if least != 1 || greatest != most {
		t.Error(least, greatest)
	}
}

// P12.4: as many numbers as Fits says fit, and one more does not.
func TestAsManyFit(t *testing.T) {
	for _, l := range lists() {
		whole, _ := Bytes(l)
		for room := sumSize; room <= whole+1; room += 1 + whole/40 {
			n, e := Fits(l, room)
			if e != api.OK || n < 0 || n > len(l) {
				t.Fatal(len(l), room, n, e)
			}
			if some, e := Bytes(l[:n]); e != api.OK || some > room {
				t.Fatal(len(l), room, n, some, e)
			}
			if n == len(l) {
				continue
			}
			if more, e := Bytes(l[:n+1]); e != api.OK || more <= room {
				t.Fatal(len(l), room, n, more, e)
			}
		}
	}
}

// What numbers fit does not depend on the numbers behind these, also if those are as many as are allowed.
func TestFitsOnlyTheFirstNumbersCount(t *testing.T) {
	for _, l := range short() {
		whole, _ := Bytes(l)
		for _, v := range []uint32{0, 1 << 10, math.MaxUint32} {
			more := slices.Concat(l, of(maxList-len(l), v))
			for room := sumSize; room < whole; room += 1 + whole/10 {
				n, e := Fits(l, room)
				if e != api.OK || n >= len(l) {
					t.Fatal(len(l), room, n, e)
				}
				fits(t, more, room, n)
			}
		}
	}
}

// R2: arguments stay as they are, behind the length of a slice, too.
func TestArgumentsAreOnlyRead(t *testing.T) {
	for _, l := range lists() {
		whole := slices.Concat(l, of(40, 171))
		before := slices.Clone(whole)
		given := whole[:len(l)]
		Each(given)
		Length(given)
		Bytes(given)
		for _, room := range []int{0, 4, 9, 1000, math.MaxInt} {
			Fits(given, room)
		}
		if !slices.Equal(whole, before) {
			t.Fatal(len(l))
		}
	}
}

// R2: what is done with one result changes neither arguments nor other results, and nothing is kept.
func TestResultsShareNoMemory(t *testing.T) {
	for _, l := range short() {
		given, want := slices.Clone(l), lengthsFrom(start(), l)
		first, _ := Each(given)
		second, _ := Each(given)
		all := first[:cap(first)]
		for i := range all {
			all[i] = -1
		}
		third, e := Each(given)
		if e != api.OK || !slices.Equal(given, l) || !slices.Equal(second, want) || !slices.Equal(third, want) {
			t.Fatal(len(l), e)
		}
		if n, e := Length(given); e != api.OK || n != sum(want) {
			t.Fatal(len(l), n, e)
		}
	}
}

// pieces cuts bytes into pieces of some sizes, one after the other.
func pieces(p []byte, seed uint64) [][]byte {
	var all [][]byte
	for _, x := range chance(len(p), seed) {
		n := min(int(x%7), len(p))
		all = append(all, p[:n])
		p = p[n:]
	}
	return append(all, p)
}

// codedOneByOne returns the code of numbers, and the state behind them, put together from levels, low bits and Rice codes.
func codedOneByOne(t *testing.T, l []uint32) (api.Bits, api.Dual) {
	t.Helper()
	var b api.Bits
	d := dual.Start()
	for _, v := range l {
		if uint64(v) < power(d.K0) {
			b, _ = bits.Put(b, 0, 1)
			b, _ = bits.Put(b, uint64(v), d.K0)
		} else {
			b, _ = bits.Put(b, 1, 1)
			b, _ = rice.Write(b, v-uint32(power(d.K0)), d.K1)
		}
		x, e := dual.Learn(d, v)
		if e != api.OK {
			t.Fatal(v, e)
		}
		d = x
	}
	return b, d
}

// N2: codes, states, pieces, blocks and counts agree, and what is decoded is what was coded.
func TestLayersAgree(t *testing.T) {
	for seed, l := range slices.Concat(short(), edges()) {
		b, d := codedOneByOne(t, l)
		if c, e := coder.Encode(l); e != api.OK || c.N != b.N || !bytes.Equal(c.Bytes, b.Bytes) {
			t.Fatal(len(l), c.N, b.N, e)
		}
		if x, e := coder.After(l); e != api.OK || x != d {
			t.Fatal(len(l), x, d, e)
		}
		p, e := block.Pack(b)
		if n, f := Bytes(l); e != api.OK || f != api.OK || n != len(p) {
			t.Fatal(len(l), n, len(p), e, f)
		}
		u, e := block.Unpack(p)
		if e != api.OK {
			t.Fatal(len(l), e)
		}
		n, _ := Length(l)
		if m, at, e := coder.Decode(u, len(l)); e != api.OK || at != n || !slices.Equal(m, l) {
			t.Fatal(len(l), len(m), at, n, e)
		}
		s, e := resume.Start(len(l))
		if e != api.OK {
			t.Fatal(len(l), e)
		}
		var got []uint32
		for _, piece := range pieces(u.Bytes, uint64(seed)) {
			x, some, e := resume.Feed(s, piece)
			if e != api.OK {
				t.Fatal(len(l), e)
			}
			s, got = x, append(got, some...)
		}
		if !slices.Equal(got, l) || s.Left != 0 || s.Dual != d || s.Rest.N != u.N-n {
			t.Fatal(len(l), len(got), s)
		}
	}
}

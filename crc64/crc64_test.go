package crc64

import (
	"bytes"
	"hash/crc64"
	"math"
	"math/bits"
	"slices"
	"testing"

	"cadenza/api"
)

// states are states to begin with, the usual one among them.
var states = []uint64{0, 1, 2, 1 << 63, 0x42f0e1eba9ea3693, 0x123456789abcdef0, 0xdeadbeefcafe, math.MaxUint64 - 1, math.MaxUint64}

// some returns n bytes that look like chance, but are the same for the same seed.
func some(n int, seed uint32) []byte {
	b := make([]byte, n)
	for i := range b {
		seed = seed*1664525 + 1013904223
		b[i] = byte(seed >> 24)
	}
	return b
}

// inputs are bytes of many lengths, and with many values.
func inputs() [][]byte {
	l := [][]byte{nil, {}, []byte("123456789"), []byte("cadenza"), bytes.Repeat([]byte{255}, 40), make([]byte, 40)}
	for i := range 256 {
		l = append(l, []byte{byte(i)}, []byte{0, byte(i)}, []byte{byte(i), 0}, []byte{77, byte(i), 255})
	}
	for n := range 70 {
		l = append(l, some(n, uint32(n)))
	}
	return append(l, some(1000, 5), some(4096, 6))
}

// wantStep is a step as the document defines it.
func wantStep(state uint64, bit byte) uint64 {
	if bit == 1 {
		state ^= 0x8000000000000000
	}
	highest := state / 0x8000000000000000
	state *= 2
	if highest == 1 {
		state ^= 0x42f0e1eba9ea3693
	}
	return state
}

// wantBehind is the state behind bytes as the document defines it, bit by bit.
func wantBehind(state uint64, b []byte) uint64 {
	for _, c := range b {
		for i := range 8 {
			state = wantStep(state, c>>(7-i)&1)
		}
	}
	return state
}

// libraryBehind is the state behind bytes by the library, whose bits are in the other order, and whose states have all bits changed.
func libraryBehind(state uint64, b []byte) uint64 {
	turned := bytes.Clone(b)
	for i, c := range turned {
		turned[i] = bits.Reverse8(c)
	}
	return bits.Reverse64(^crc64.Update(^bits.Reverse64(state), crc64.MakeTable(crc64.ECMA), turned))
}

func mustNext(t *testing.T, state uint64, b []byte) uint64 {
	t.Helper()
	n, e := Next(state, b)
	if e != api.OK {
		t.Fatal(len(b), e)
	}
	return n
}

func mustSum(t *testing.T, b []byte) uint64 {
	t.Helper()
	n, e := Sum(b)
	if e != api.OK {
		t.Fatal(len(b), e)
	}
	return n
}

func TestExamples(t *testing.T) {
	if n, e := Sum(nil); e != api.OK || n != 0 {
		t.Error(n, e)
	}
	if n, e := Sum([]byte{1}); e != api.OK || n != 0x42f0e1eba9ea3693 {
		t.Error(n, e)
	}
	if n, e := Sum([]byte("123456789")); e != api.OK || n != 0x6c40df5f0b497347 {
		t.Error(n, e)
	}
}

func TestTable(t *testing.T) {
	l := Table()
	if len(l) != 256 {
		t.Fatal(len(l))
	}
	for i, n := range l {
		if n != wantBehind(0, []byte{byte(i)}) || n != mustSum(t, []byte{byte(i)}) {
			t.Error(i, n)
		}
	}
}

func TestTableIsNewEachTime(t *testing.T) {
	want, changed := Table(), Table()
	all := changed[:cap(changed)]
	for i := range all {
		all[i] = ^all[i]
	}
	if l := Table(); !slices.Equal(l, want) || l[1] != 0x42f0e1eba9ea3693 {
		t.Error(l)
	}
	if n, e := Sum([]byte("123456789")); e != api.OK || n != 0x6c40df5f0b497347 {
		t.Error(n, e)
	}
}

func TestNext(t *testing.T) {
	for _, b := range inputs() {
		for _, state := range states {
			n, e := Next(state, b)
			if e != api.OK || n != wantBehind(state, b) || n != libraryBehind(state, b) {
				t.Fatal(state, b, n, e)
			}
		}
	}
}

func TestSum(t *testing.T) {
	for _, b := range inputs() {
		n, e := Sum(b)
		if e != api.OK || n != wantBehind(0, b) || n != libraryBehind(0, b) {
			t.Fatal(b, n, e)
		}
	}
}

// Each bit of a state counts.
func TestNextFromEachBit(t *testing.T) {
	for i := range 64 {
		for c := range 256 {
			state, b := uint64(1)<<i, []byte{byte(c)}
			if n := mustNext(t, state, b); n != wantBehind(state, b) {
				t.Fatal(i, c, n)
			}
		}
	}
}

func TestNoBytesKeepTheState(t *testing.T) {
	for _, state := range states {
		for _, b := range [][]byte{nil, {}, make([]byte, 0, 9)} {
			if n, e := Next(state, b); e != api.OK || n != state {
				t.Error(state, n, e)
			}
		}
	}
}

func TestUpToTheLimit(t *testing.T) {
	for _, n := range []int{99999, 100000} {
		b := some(n, 3)
		if s, e := Sum(b); e != api.OK || s != wantBehind(0, b) {
			t.Error(n, s, e)
		}
		for _, state := range states {
			if s, e := Next(state, b); e != api.OK || s != wantBehind(state, b) {
				t.Error(n, state, s, e)
			}
		}
	}
}

func TestTooMany(t *testing.T) {
	for _, n := range []int{100001, 100002, 250000} {
		if s, e := Sum(some(n, 3)); e != api.ErrMany || s != 0 {
			t.Error(n, s, e)
		}
		for _, state := range states {
			if s, e := Next(state, some(n, 3)); e != api.ErrMany || s != 0 {
				t.Error(n, state, s, e)
			}
		}
	}
}

// Only how many bytes there are counts, not how many would have room.
func TestRoomIsNotCounted(t *testing.T) {
	b := append(make([]byte, 0, 200000), "123456789"...)
	if n, e := Sum(b); e != api.OK || n != 0x6c40df5f0b497347 {
		t.Error(n, e)
	}
}

func TestPartsAreTheWhole(t *testing.T) {
	b := some(60, 8)
	for _, state := range states {
		whole := mustNext(t, state, b)
		for i := range len(b) + 1 {
			for j := i; j <= len(b); j++ {
				parts := mustNext(t, mustNext(t, mustNext(t, state, b[:i]), b[i:j]), b[j:])
				if parts != whole {
					t.Fatal(state, i, j, parts, whole)
				}
			}
		}
	}
	if n := mustNext(t, mustSum(t, b[:7]), b[7:]); n != mustSum(t, b) {
		t.Error(n)
	}
}

// Each part may have MaxFile bytes: more of them together are no error.
func TestPartsMayBeMoreThanTheLimit(t *testing.T) {
	b := some(250000, 8)
	state := uint64(0)
	for part := range slices.Chunk(b, 100000) {
		state = mustNext(t, state, part)
	}
	if state != wantBehind(0, b) {
		t.Error(state)
	}
}

// both returns the changes of two strings together.
func both(a, b []byte) []byte {
	c := bytes.Clone(a)
	for i := range b {
		c[i] ^= b[i]
	}
	return c
}

func TestSumIsLinear(t *testing.T) {
	for _, n := range []int{0, 1, 2, 3, 7, 8, 9, 63, 64, 65, 500, 100000} {
		for seed := range uint32(6) {
			a, b := some(n, seed), some(n, seed+100)
			x, y := mustSum(t, a), mustSum(t, b)
			if z := mustSum(t, both(a, b)); z != x^y {
				t.Fatal(n, seed, x, y, z)
			}
		}
	}
	l := Table()
	for a := range 256 {
		for b := range 256 {
			if l[a^b] != l[a]^l[b] {
				t.Fatal(a, b)
			}
		}
	}
}

func TestStateAddsWhatItIsBehindZeros(t *testing.T) {
	for _, n := range []int{0, 1, 2, 7, 8, 9, 64, 500, 100000} {
		b, zeros := some(n, 12), make([]byte, n)
		for _, state := range states {
			want := mustSum(t, b) ^ mustNext(t, state, zeros)
			if s := mustNext(t, state, b); s != want {
				t.Fatal(n, state, s, want)
			}
		}
	}
}

func TestZerosInFrontDoNotChangeTheSum(t *testing.T) {
	for _, b := range inputs() {
		want := mustSum(t, b)
		for _, n := range []int{1, 2, 7, 8, 9, 100} {
			if s := mustSum(t, append(make([]byte, n), b...)); s != want {
				t.Fatal(n, b, s, want)
			}
		}
	}
	if s := mustSum(t, make([]byte, 100000)); s != 0 {
		t.Error(s)
	}
	// Behind them they do.
	if s := mustSum(t, []byte{1, 0}); s == mustSum(t, []byte{1}) {
		t.Error(s)
	}
}

// change returns bytes with changes from a bit on, the highest one of each byte first: those where a pattern has ones, as far as there are bits.
func change(b []byte, at int, pattern uint64) []byte {
	c := bytes.Clone(b)
	for i := range 64 {
		if bit := at + i; bit < 8*len(b) && pattern>>i&1 == 1 {
			c[bit/8] ^= 0x80 >> (bit % 8)
		}
	}
	return c
}

// changes returns, for each bit of bytes, how the sum changes with it.
func changes(t *testing.T, b []byte) []uint64 {
	t.Helper()
	var l []uint64
	sum := mustSum(t, b)
	for bit := range 8 * len(b) {
		l = append(l, mustSum(t, change(b, bit, 1))^sum)
	}
	return l
}

// independent tells whether no number of some, at least one, changes together are 0.
func independent(numbers []uint64) bool {
	var basis []uint64
	for _, n := range numbers {
		for _, b := range basis {
			n = min(n, n^b)
		}
		if n == 0 {
			return false
		}
		basis = append(basis, n)
	}
	return true
}

// Sums are linear, so that all strings of a length have sums of their own if the changes of one bit each are independent of each other.
func TestShortStringsHaveSumsOfTheirOwn(t *testing.T) {
	for n := range 9 {
		if !independent(changes(t, some(n, 5))) {
			t.Error(n)
		}
	}
	// With more bits than a sum has there is one that tells nothing new: strings of 9 bytes share sums.
	if independent(changes(t, some(9, 5))) {
		t.Error("72 changes cannot be independent")
	}
	seen := map[uint64]bool{}
	for i := range 65536 {
		seen[mustSum(t, []byte{byte(i >> 8), byte(i)})] = true
	}
	if len(seen) != 65536 {
		t.Error(len(seen))
	}
}

func TestBurstsChangeTheSum(t *testing.T) {
	patterns := []uint64{1, 3, 5, 1<<63 | 1, 0x42f0e1eba9ea3693, 0xc96c5795d7870f42, 0x92d8af2baf0e1e85, 1 << 63, 0xaaaaaaaaaaaaaaaa, 0x5555555555555555, math.MaxUint64}
	for seed := range uint32(100) {
		pattern := uint64(0)
		for _, c := range some(8, seed) {
			pattern = pattern<<8 | uint64(c)
		}
		patterns = append(patterns, pattern)
	}
	for _, n := range []int{1, 2, 3, 7, 8, 9, 17} {
		b := some(n, 21)
		sum := mustSum(t, b)
		for at := range 8 * n {
			for _, p := range patterns {
				changed := change(b, at, p)
				if !bytes.Equal(changed, b) && mustSum(t, changed) == sum {
					t.Fatal(n, at, p)
				}
			}
		}
	}
}

// All bursts of 64 bits are found if those of one bit each are independent of each other.
func TestAllBurstsChangeTheSum(t *testing.T) {
	l := changes(t, some(24, 33))
	for at := range len(l) - 63 {
		if !independent(l[at : at+64]) {
			t.Error(at)
		}
	}
}

// A burst that is the divisor itself, of 65 bits, is not found: no more than 64 are promised.
func TestBurstOf65BitsMayKeepTheSum(t *testing.T) {
	b := some(20, 2)
	divisor := []byte{1, 0x42, 0xf0, 0xe1, 0xeb, 0xa9, 0xea, 0x36, 0x93}
	if s := mustSum(t, append(both(b[:9], divisor), b[9:]...)); s != mustSum(t, b) {
		t.Error(s)
	}
}

func TestBurstsInManyBytesChangeTheSum(t *testing.T) {
	b := some(100000, 33)
	sum := mustSum(t, b)
	for _, at := range []int{0, 1, 63, 399999, 800000 - 65, 800000 - 64, 800000 - 1} {
		for _, p := range []uint64{1, 1<<63 | 1, 0xc96c5795d7870f42 | 1, math.MaxUint64} {
			if mustSum(t, change(b, at, p)) == sum {
				t.Error(at, p)
			}
		}
	}
}

// R2: arguments stay as they are, behind the length of a slice, too.
func TestArgumentsAreOnlyRead(t *testing.T) {
	whole := some(100, 2)
	before := bytes.Clone(whole)
	for n := range len(whole) + 1 {
		Next(0, whole[:n])
		Next(math.MaxUint64, whole[:n])
		Sum(whole[:n])
	}
	if !bytes.Equal(whole, before) {
		t.Error(whole)
	}
}

// R2: nothing is kept from call to call, also not by one that is refused.
func TestNothingIsKept(t *testing.T) {
	b := some(50, 4)
	want := mustSum(t, b)
	Next(want, b)
	Sum(make([]byte, 100001))
	Table()
	if n := mustSum(t, b); n != want {
		t.Error(n, want)
	}
}

package crc32

import (
	"bytes"
	"hash/crc32"
	"math"
	"slices"
	"testing"

	"cadenza/api"
)

// states are first states to begin with, the usual one among them.
var states = []uint32{0, 1, 2, 0x80000000, 0xedb88320, 0x12345678, 0xdeadbeef, math.MaxUint32 - 1, math.MaxUint32}

// some returns n bytes that look like chance, but are the same for the same seed.
func some(n int, seed uint32) []byte {
	b := make([]byte, n)
	for i := range b {
		seed = seed*1664525 + 1013904223
		b[i] = byte(seed >> 24)
	}
	return b
}

// inputs are bytes of many lengths, and with many values.
func inputs() [][]byte {
	l := [][]byte{nil, {}, []byte("123456789"), []byte("cadenza"), bytes.Repeat([]byte{255}, 40), make([]byte, 40)}
	for i := range 256 {
		l = append(l, []byte{byte(i)}, []byte{0, byte(i)}, []byte{byte(i), 0}, []byte{77, byte(i), 255})
	}
	for n := range 70 {
		l = append(l, some(n, uint32(n)))
	}
	return append(l, some(1000, 5), some(4096, 6))
}

// wantStep is a step as the document defines it.
func wantStep(state uint32, bit byte) uint32 {
	if bit == 1 {
		state ^= 1
	}
	lowest := state % 2
	state /= 2
	if lowest == 1 {
		state ^= 3988292384
	}
	return state
}

// wantBehind is the state behind bytes as the document defines it, bit by bit.
func wantBehind(state uint32, b []byte) uint32 {
	for _, c := range b {
		for i := range 8 {
			state = wantStep(state, c>>i&1)
		}
	}
	return state
}

func mustNext(t *testing.T, state uint32, b []byte) uint32 {
	t.Helper()
	n, e := Next(state, b)
	if e != api.OK {
		t.Fatal(len(b), e)
	}
	return n
}

func mustSum(t *testing.T, b []byte) uint32 {
	t.Helper()
	n, e := Sum(b)
	if e != api.OK {
		t.Fatal(len(b), e)
	}
	return n
}

func TestExamples(t *testing.T) {
	if n, e := Sum(nil); e != api.OK || n != 0 {
		t.Error(n, e)
	}
	if n, e := Sum([]byte("123456789")); e != api.OK || n != 3421780262 {
		t.Error(n, e)
	}
	if l := Table(); !slices.Equal(l[:3], []uint32{0, 1996959894, 3993919788}) {
		t.Error(l[:3])
	}
}

func TestTable(t *testing.T) {
	l := Table()
	if len(l) != 256 {
		t.Fatal(len(l))
	}
	for i, n := range l {
		if n != wantBehind(0, []byte{byte(i)}) || n != crc32.IEEETable[i] {
			t.Error(i, n)
		}
		if mustNext(t, 0, []byte{byte(i)}) != n {
			t.Error(i, n)
		}
	}
}

func TestTableIsNewEachTime(t *testing.T) {
	want, changed := Table(), Table()
	all := changed[:cap(changed)]
	for i := range all {
		all[i] = ^all[i]
	}
	if l := Table(); !slices.Equal(l, want) || l[1] != 1996959894 {
		t.Error(l)
	}
	if n, e := Sum([]byte("123456789")); e != api.OK || n != 0xcbf43926 {
		t.Error(n, e)
	}
}

func TestNext(t *testing.T) {
	for _, b := range inputs() {
		for _, state := range states {
			n, e := Next(state, b)
			if e != api.OK || n != wantBehind(state, b) {
				t.Fatal(state, b, n, e)
			}
			// The library's states have all bits changed.
			if ^n != crc32.Update(^state, crc32.IEEETable, b) {
				t.Fatal(state, b, n)
			}
		}
	}
}

func TestSum(t *testing.T) {
	for _, b := range inputs() {
		n, e := Sum(b)
		if e != api.OK || n != ^wantBehind(4294967295, b) || n != crc32.ChecksumIEEE(b) {
			t.Fatal(b, n, e)
		}
	}
}

func TestNoBytesKeepTheState(t *testing.T) {
	for _, state := range states {
		for _, b := range [][]byte{nil, {}, make([]byte, 0, 9)} {
			if n, e := Next(state, b); e != api.OK || n != state {
				t.Error(state, n, e)
			}
		}
	}
}

func TestUpToTheLimit(t *testing.T) {
	for _, n := range []int{99999, 100000} {
		b := some(n, 3)
		if s, e := Sum(b); e != api.OK || s != crc32.ChecksumIEEE(b) {
			t.Error(n, s, e)
		}
		for _, state := range states {
			if s, e := Next(state, b); e != api.OK || s != wantBehind(state, b) {
				t.Error(n, state, s, e)
			}
		}
	}
}

func TestTooMany(t *testing.T) {
	for _, n := range []int{100001, 100002, 250000} {
		if s, e := Sum(some(n, 3)); e != api.ErrMany || s != 0 {
			t.Error(n, s, e)
		}
		for _, state := range states {
			if s, e := Next(state, some(n, 3)); e != api.ErrMany || s != 0 {
				t.Error(n, state, s, e)
			}
		}
	}
}

// Only how many bytes there are counts, not how many would have room.
func TestRoomIsNotCounted(t *testing.T) {
	b := append(make([]byte, 0, 200000), "123456789"...)
	if n, e := Sum(b); e != api.OK || n != 0xcbf43926 {
		t.Error(n, e)
	}
}

func TestPartsAreTheWhole(t *testing.T) {
	b := some(60, 8)
	for _, state := range states {
		whole := mustNext(t, state, b)
		for i := range len(b) + 1 {
			for j := i; j <= len(b); j++ {
				parts := mustNext(t, mustNext(t, mustNext(t, state, b[:i]), b[i:j]), b[j:])
				if parts != whole {
					t.Fatal(state, i, j, parts, whole)
				}
			}
		}
	}
	if n := ^mustNext(t, mustNext(t, math.MaxUint32, b[:7]), b[7:]); n != mustSum(t, b) {
		t.Error(n)
	}
}

// Each part may have MaxFile bytes: more of them together are no error.
func TestPartsMayBeMoreThanTheLimit(t *testing.T) {
	b := some(250000, 8)
	state := uint32(math.MaxUint32)
	for part := range slices.Chunk(b, 100000) {
		state = mustNext(t, state, part)
	}
	if ^state != crc32.ChecksumIEEE(b) {
		t.Error(state)
	}
}

// both returns the changes of two strings together.
func both(a, b []byte) []byte {
	c := bytes.Clone(a)
	for i := range b {
		c[i] ^= b[i]
	}
	return c
}

func TestChangesAddUp(t *testing.T) {
	for _, n := range []int{0, 1, 2, 3, 4, 5, 8, 31, 32, 33, 500, 100000} {
		for seed := range uint32(6) {
			a, b := some(n, seed), some(n, seed+100)
			x, y := mustNext(t, 0, a), mustNext(t, 0, b)
			if z := mustNext(t, 0, both(a, b)); z != x^y {
				t.Fatal(n, seed, x, y, z)
			}
		}
	}
	for a := range 256 {
		for b := range 256 {
			x, y := mustNext(t, 0, []byte{byte(a)}), mustNext(t, 0, []byte{byte(b)})
			if z := mustNext(t, 0, []byte{byte(a ^ b)}); z != x^y {
				t.Fatal(a, b, x, y, z)
			}
		}
	}
}

// change returns bytes with changes from a bit on: those where a pattern has ones, as far as there are bits.
func change(b []byte, at int, pattern uint32) []byte {
	c := bytes.Clone(b)
	for i := range 32 {
		if bit := at + i; bit < 8*len(b) && pattern>>i&1 == 1 {
			c[bit/8] ^= 1 << (bit % 8)
		}
	}
	return c
}

func TestBurstsChangeTheSum(t *testing.T) {
	patterns := []uint32{1, 3, 5, 0x80000001, 0xedb88320, 0xdb710641, 0x04c11db7, 0x82608edb, 0x80000000, 0xaaaaaaaa, 0x55555555, math.MaxUint32}
	for seed := range uint32(100) {
		b := some(4, seed)
		patterns = append(patterns, uint32(b[0])|uint32(b[1])<<8|uint32(b[2])<<16|uint32(b[3])<<24)
	}
	for _, n := range []int{1, 2, 3, 4, 5, 9, 17} {
		b := some(n, 21)
		sum := mustSum(t, b)
		for at := range 8 * n {
			for _, p := range patterns {
				changed := change(b, at, p)
				if !bytes.Equal(changed, b) && mustSum(t, changed) == sum {
					t.Fatal(n, at, p)
				}
			}
		}
	}
}

// independent tells whether no number of some, at least one, changes together are 0.
func independent(numbers []uint32) bool {
	var basis []uint32
	for _, n := range numbers {
		for _, b := range basis {
			n = min(n, n^b)
		}
		if n == 0 {
			return false
		}
		basis = append(basis, n)
	}
	return true
}

// Changes add up, so that all bursts of 32 bits are found if those of one bit each are independent of each other.
func TestAllBurstsChangeTheSum(t *testing.T) {
	const n = 24
	b := some(n, 33)
	sum := mustSum(t, b)
	var changes []uint32
	for bit := range 8 * n {
		changes = append(changes, mustSum(t, change(b, bit, 1))^sum)
	}
	for at := range len(changes) - 31 {
		if !independent(changes[at : at+32]) {
			t.Error(at)
		}
	}
	// With more bits than a sum has there is one that tells nothing new.
	if independent(changes[:33]) {
		t.Error("33 changes cannot be independent")
	}
}

func TestBurstsInManyBytesChangeTheSum(t *testing.T) {
	b := some(100000, 33)
	sum := mustSum(t, b)
	for _, at := range []int{0, 1, 31, 399999, 800000 - 33, 800000 - 32, 800000 - 1} {
		for _, p := range []uint32{1, 0x80000001, 0xdb710641, math.MaxUint32} {
			if mustSum(t, change(b, at, p)) == sum {
				t.Error(at, p)
			}
		}
	}
}

// R2: arguments stay as they are, behind the length of a slice, too.
func TestArgumentsAreOnlyRead(t *testing.T) {
	whole := some(100, 2)
	before := bytes.Clone(whole)
	for n := range len(whole) + 1 {
		Next(0, whole[:n])
		Next(math.MaxUint32, whole[:n])
		Sum(whole[:n])
	}
	if !bytes.Equal(whole, before) {
		t.Error(whole)
	}
}

// R2: nothing is kept from call to call, also not by one that is refused.
func TestNothingIsKept(t *testing.T) {
	b := some(50, 4)
	want := mustSum(t, b)
	Next(want, b)
	Sum(make([]byte, 100001))
	Table()
	if n := mustSum(t, b); n != want {
		t.Error(n, want)
	}
}

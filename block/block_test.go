package block

import (
	"bytes"
	"hash/crc32"
	"math"
	"slices"
	"testing"

	"cadenza/api"
)

const (
	maxBits  = 330000
	maxBytes = 41250
	maxBlock = 41254
)

// list has a bool for each bit: the plainest form of bits.
type list []bool

// bits puts a list into bytes as layer 2 defines it.
func (l list) bits() api.Bits {
	b := api.Bits{Bytes: make([]byte, (len(l)+7)/8), N: len(l)}
	for i, set := range l {
		if set {
			b.Bytes[i/8] |= 1 << (i % 8)
		}
	}
	return b
}

func ones(n int) list { return slices.Repeat(list{true}, n) }

// sumOfBits returns the sum of bytes as layer 3 defines it, bit by bit.
func sumOfBits(p []byte) uint32 {
	state := uint32(math.MaxUint32)
	for _, c := range p {
		for i := range 8 {
			state ^= uint32(c >> i & 1)
			odd := state%2 == 1
			state /= 2
			if odd {
				state ^= 3988292384
			}
		}
	}
	return math.MaxUint32 - state
}

// block returns the block of whole bytes as the document defines it.
func block(p []byte) []byte {
	sum := sumOfBits(p)
	return slices.Concat(p, []byte{byte(sum), byte(sum >> 8), byte(sum >> 16), byte(sum >> 24)})
}

// chance returns n bytes that look like chance, but are the same for the same seed.
func chance(n int, seed uint64) []byte {
	p := make([]byte, n)
	x := seed
	for i := range p {
		x = x*6364136223846793005 + 1442695040888963407
		p[i] = byte(x >> 40)
	}
	return p
}

// some returns n bits, of which about one of rare is a zero.
func some(n, rare int, seed uint64) list {
	l := make(list, n)
	for i, x := range chance(n, seed) {
		l[i] = int(x)%rare > 0
	}
	return l
}

func same(a, b api.Bits) bool { return a.N == b.N && bytes.Equal(a.Bytes, b.Bytes) }

// lists are bits of many lengths, with many values.
func lists() []list {
	all := []list{nil, {}}
	for n := range 300 {
		all = append(all, make(list, n), ones(n), some(n, 2, uint64(n)), some(n, 1+n%9, uint64(n+1)))
	}
	for n := maxBits - 20; n <= maxBits; n += 1 + n%5 {
		all = append(all, some(n, 3, uint64(n)))
	}
	return append(all, make(list, maxBits), ones(maxBits), ones(maxBits-1), some(1000, 2, 8), some(32768, 4, 9), some(100001, 2, 10))
}

// contents are bytes of many lengths, with many values.
func contents() [][]byte {
	all := [][]byte{nil, {}, []byte("123456789"), []byte("cadenza")}
	for i := range 256 {
		all = append(all, []byte{byte(i)}, []byte{byte(i), 0}, []byte{0, byte(i), 7})
	}
	for n := range 80 {
		all = append(all, make([]byte, n), bytes.Repeat([]byte{255}, n), chance(n, uint64(n)))
	}
	return append(all, chance(1000, 1), chance(4096, 2), chance(maxBytes-1, 3), chance(maxBytes, 4), make([]byte, maxBytes))
}

// badBits returns bits that are not valid, for each of the reasons.
func badBits() []api.Bits {
	return []api.Bits{
		{N: -1},
		{N: math.MinInt},
		{Bytes: make([]byte, 8), N: math.MaxInt},
		{Bytes: make([]byte, maxBytes+1), N: maxBits + 1},
		{Bytes: make([]byte, maxBytes), N: maxBits + 1},
		{N: 1},
		{Bytes: make([]byte, 1)},
		{Bytes: make([]byte, 1), N: 9},
		{Bytes: make([]byte, 2), N: 8},
		{Bytes: []byte{2}, N: 1},
		{Bytes: []byte{255, 255}, N: 15},
		{Bytes: []byte{0, 0, 0, 128}, N: 31},
	}
}

// packs checks what Pack returns.
func packs(t *testing.T, b api.Bits, want []byte) {
	t.Helper()
	if p, e := Pack(b); e != api.OK || !bytes.Equal(p, want) {
		t.Fatal(b.N, len(p), len(want), e)
	}
}

// unpacks checks that Unpack returns all bits of bytes.
func unpacks(t *testing.T, p, content []byte) {
	t.Helper()
	if b, e := Unpack(p); e != api.OK || !same(b, api.Bits{Bytes: content, N: len(content) * 8}) {
		t.Fatal(len(p), b.N, e)
	}
}

// unpackFails checks that Unpack returns an error, and nothing else.
func unpackFails(t *testing.T, p []byte, err api.Errno) {
	t.Helper()
	if b, e := Unpack(p); e != err || b.N != 0 || len(b.Bytes) != 0 {
		t.Fatal(len(p), b.N, len(b.Bytes), e, err)
	}
}

func TestExamples(t *testing.T) {
	packs(t, api.Bits{}, []byte{0, 0, 0, 0})
	packs(t, api.Bits{Bytes: []byte{0}, N: 8}, []byte{0, 141, 239, 2, 210})
	unpacks(t, []byte{0, 0, 0, 0}, nil)
	unpacks(t, []byte{0, 141, 239, 2, 210}, []byte{0})
	// The sum of these bytes is 0xcbf43926, as the document's example of layer 3 says.
	packs(t, api.Bits{Bytes: []byte("123456789"), N: 72}, []byte("123456789\x26\x39\xf4\xcb"))
}

// The sum that the tests compare with is the usual one.
func TestTheSumIsTheUsualOne(t *testing.T) {
	for _, p := range contents() {
		if sumOfBits(p) != crc32.ChecksumIEEE(p) {
			t.Error(len(p))
		}
	}
}

func TestSize(t *testing.T) {
	want := 4
	for n := range maxBits + 1 {
		if n%8 == 1 {
			want++
		}
		if size, e := Size(n); e != api.OK || size != want {
			t.Fatal(n, size, want, e)
		}
	}
	if want != maxBlock {
		t.Error(want)
	}
}

func TestSizeRefusesOtherNumbers(t *testing.T) {
	for _, n := range []int{-1, -2, -7, -8, -32, -maxBits, math.MinInt, math.MinInt + 1, maxBits + 1, maxBits + 8, 1 << 32, math.MaxInt - 7, math.MaxInt} {
		if size, e := Size(n); e != api.ErrArg || size != 0 {
			t.Error(n, size, e)
		}
	}
}

func TestPack(t *testing.T) {
	for _, l := range lists() {
		b := l.bits()
		packs(t, b, block(b.Bytes))
		if size, e := Size(len(l)); e != api.OK || size != len(block(b.Bytes)) {
			t.Error(len(l), size, e)
		}
	}
	for _, p := range contents() {
		packs(t, api.Bits{Bytes: p, N: len(p) * 8}, block(p))
	}
}

func TestPackRefusesBadBits(t *testing.T) {
	for _, b := range badBits() {
		if p, e := Pack(b); e != api.ErrBad || len(p) != 0 {
			t.Error(b.N, p, e)
		}
	}
}

func TestUnpack(t *testing.T) {
	for _, p := range contents() {
		unpacks(t, block(p), p)
	}
}

func TestUnpackIsShort(t *testing.T) {
	unpackFails(t, nil, api.ErrShort)
	unpackFails(t, []byte{}, api.ErrShort)
	for n := range 4 {
		unpackFails(t, make([]byte, n), api.ErrShort)
		unpackFails(t, bytes.Repeat([]byte{255}, n), api.ErrShort)
		// What is behind the length does not count.
		unpackFails(t, make([]byte, n, 100), api.ErrShort)
	}
	for i := range 256 {
		unpackFails(t, []byte{byte(i)}, api.ErrShort)
	}
}

// Too many bytes are told first, whether or not the last four are the sum of the others.
func TestUnpackRefusesTooManyBytes(t *testing.T) {
	for _, n := range []int{maxBlock + 1, maxBlock + 2, maxBlock + 8, 2 * maxBlock, 100000, 100004, 100005, 200000} {
		unpackFails(t, block(chance(n-4, uint64(n))), api.ErrMany)
		unpackFails(t, chance(n, uint64(n)), api.ErrMany)
		unpackFails(t, make([]byte, n), api.ErrMany)
	}
}

func TestUnpackRefusesOtherSums(t *testing.T) {
	for _, p := range contents() {
		if len(p) == 0 {
			continue
		}
		sum := sumOfBits(p)
		others := []uint32{0, ^sum, sum + 1, sum - 1, sum ^ 1<<31, sumOfBits(p[:len(p)-1]), sumOfBits(p[1:]), sumOfBits(block(p)), sum<<24 | sum>>8, sum << 1}
		for _, o := range others {
			if o == sum {
				continue
			}
			unpackFails(t, slices.Concat(p, []byte{byte(o), byte(o >> 8), byte(o >> 16), byte(o >> 24)}), api.ErrSum)
		}
		back := []byte{byte(sum >> 24), byte(sum >> 16), byte(sum >> 8), byte(sum)}
		if whole := slices.Concat(p, back); !bytes.Equal(whole, block(p)) {
			unpackFails(t, whole, api.ErrSum)
		}
	}
	for _, p := range [][]byte{{1, 0, 0, 0}, {0, 0, 0, 1}, {0, 0, 0, 128}, {255, 255, 255, 255}} {
		unpackFails(t, p, api.ErrSum)
	}
	unpackFails(t, make([]byte, maxBlock), api.ErrSum)
	unpackFails(t, chance(maxBlock, 5), api.ErrSum)
}

// A block that has lost or got bytes is one only if its last four are the sum of the others.
func TestUnpackOfOtherLengths(t *testing.T) {
	for n := range 60 {
		whole := slices.Concat(block(chance(n, uint64(n+1))), chance(9, 7))
		for end := range whole {
			p := whole[:end]
			switch {
			case end < 4:
				unpackFails(t, p, api.ErrShort)
			case bytes.Equal(block(p[:end-4]), p):
				unpacks(t, p, p[:end-4])
			default:
				unpackFails(t, p, api.ErrSum)
			}
		}
	}
}

// P11.3: what was packed is unpacked, filled up.
func TestWhatWasPackedIsUnpacked(t *testing.T) {
	for _, l := range lists() {
		p, e := Pack(l.bits())
		if e != api.OK {
			t.Fatal(len(l), e)
		}
		full := slices.Concat(l, make(list, (8-len(l)%8)%8))
		if b, e := Unpack(p); e != api.OK || !same(b, full.bits()) {
			t.Fatal(len(l), b.N, e)
		}
	}
}

// P11.3: what is unpacked, and packed again, is the same block.
func TestWhatIsUnpackedIsPackedAgain(t *testing.T) {
	for _, p := range contents() {
		b, e := Unpack(block(p))
		if e != api.OK {
			t.Fatal(len(p), e)
		}
		packs(t, b, block(p))
	}
}

// changed returns bytes of which the bits from at on, at most 32, are turned where a pattern has ones.
func changed(p []byte, at int, pattern uint32) []byte {
	c := bytes.Clone(p)
	for i := range 32 {
		if pattern>>i&1 == 1 {
			c[(at+i)/8] ^= 1 << ((at + i) % 8)
		}
	}
	return c
}

// P11.3: a change within 32 bits that stand side by side is found, wherever they are.
func TestChangesAreFound(t *testing.T) {
	patterns := []uint32{1, 1 << 31, 3, 0x80000001, 0xedb88320, 0x04c11db7, 0xffff, math.MaxUint32, 0xff, 0xff00, 0x01010101, 0x82608edb}
	for i := range 12 {
		c := chance(4, uint64(i+100))
		patterns = append(patterns, uint32(c[0])|uint32(c[1])<<8|uint32(c[2])<<16|uint32(c[3])<<24|1)
	}
	for _, n := range []int{0, 1, 2, 3, 4, 7, 20, 33} {
		p := block(chance(n, uint64(n)))
		for at := range len(p)*8 - 31 {
			for _, x := range patterns {
				unpackFails(t, changed(p, at, x), api.ErrSum)
			}
		}
	}
}

func TestEachChangedBitIsFound(t *testing.T) {
	for n := range 70 {
		p := block(chance(n, uint64(n)))
		for i := range len(p) * 8 {
			c := bytes.Clone(p)
			c[i/8] ^= 1 << (i % 8)
			unpackFails(t, c, api.ErrSum)
		}
	}
}

func TestChangesInGreatBlocksAreFound(t *testing.T) {
	p := block(chance(maxBytes, 1))
	last := len(p)*8 - 32
	for _, at := range []int{0, 1, 31, 32, 1000, last / 2, last - 33, last - 32, last - 31, last - 17, last - 8, last - 1, last} {
		for _, x := range []uint32{1, 1 << 31, 0xedb88320, 0x80000001, math.MaxUint32} {
			unpackFails(t, changed(p, at, x), api.ErrSum)
		}
	}
}

// remainder returns by what a block's last four bytes differ from the sum of the others.
func remainder(p []byte) uint32 {
	last := p[len(p)-4:]
	return sumOfBits(p[:len(p)-4]) ^ (uint32(last[0]) | uint32(last[1])<<8 | uint32(last[2])<<16 | uint32(last[3])<<24)
}

// independent tells whether no choice of one or more of some numbers has the exclusive or 0.
func independent(numbers []uint32) bool {
	for i, n := range numbers {
		if n == 0 {
			return false
		}
		lowest := n & -n
		for j := i + 1; j < len(numbers); j++ {
			if numbers[j]&lowest != 0 {
				numbers[j] ^= n
			}
		}
	}
	return true
}

// P11.3: what a change adds to the remainder is what its bits add, so that all changes of 32 bits are found if what these add is independent.
func TestAllChangesOf32BitsAreFound(t *testing.T) {
	for _, n := range []int{0, 1, 5, 30} {
		p := block(make([]byte, n))
		for at := range len(p)*8 - 31 {
			adds := make([]uint32, 32)
			for i := range adds {
				adds[i] = remainder(changed(p, at, 1<<i))
			}
			if !independent(adds) {
				t.Error(n, at)
			}
		}
	}
}

// R2: arguments stay as they are, behind the length of a slice, too.
func TestArgumentsAreOnlyRead(t *testing.T) {
	for _, l := range lists()[:600] {
		b := l.bits()
		n := len(b.Bytes)
		room := append(bytes.Clone(b.Bytes), bytes.Repeat([]byte{171}, 40)...)
		kept := bytes.Clone(room)
		Pack(api.Bits{Bytes: room[:n], N: b.N})
		if !bytes.Equal(room, kept) {
			t.Fatal(len(l), room)
		}
		p := block(b.Bytes)
		for _, whole := range [][]byte{p, changed(p, 0, 1)} {
			room := append(bytes.Clone(whole), bytes.Repeat([]byte{171}, 40)...)
			kept := bytes.Clone(room)
			Unpack(room[:len(p)])
			if !bytes.Equal(room, kept) {
				t.Fatal(len(l), room)
			}
		}
	}
}

// R2: what is done with one result changes neither arguments nor other results, and nothing is kept.
func TestResultsShareNoMemory(t *testing.T) {
	turn := func(p []byte) {
		all := p[:cap(p)]
		for i := range all {
			all[i] ^= 255
		}
	}
	for _, l := range lists()[:600] {
		b := l.bits()
		want := block(b.Bytes)
		first, _ := Pack(b)
		second, _ := Pack(b)
		turn(first)
		if !same(b, l.bits()) || !bytes.Equal(second, want) {
			t.Fatal(len(l))
		}
		packs(t, b, want)
		p := bytes.Clone(want)
		one, _ := Unpack(p)
		other, _ := Unpack(p)
		turn(one.Bytes)
		if !bytes.Equal(p, want) || !bytes.Equal(other.Bytes, b.Bytes) {
			t.Fatal(len(l))
		}
		unpacks(t, p, b.Bytes)
	}
}

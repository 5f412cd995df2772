package le

import (
	"bytes"
	"math"
	"math/big"
	"testing"

	"cadenza/api"
)

var badWidths = []int{math.MinInt, -8, -1, 0, 9, 16, 64, math.MaxInt}

// power returns 256 to the power of a width, which is too much for a uint64 with the width 8.
func power(w int) *big.Int { return new(big.Int).Lsh(big.NewInt(1), uint(8*w)) }

// numbers returns numbers at and beside the borders of all widths, and some others.
func numbers() []uint64 {
	l := []uint64{0, 1, 2, 258, 44100, 0x0102030405060708, 0x8070605040302010, math.MaxUint64 - 1, math.MaxUint64}
	for shift := 7; shift < 64; shift++ {
		p := uint64(1) << shift
		l = append(l, p-1, p, p+1)
	}
	return l
}

// signedNumbers returns signed numbers at and beside the borders of all widths.
func signedNumbers() []int64 {
	l := []int64{0, 1, -1, 2, -2, 100, -100, math.MaxInt64, math.MinInt64, math.MinInt64 + 1}
	for shift := 7; shift < 63; shift++ {
		p := int64(1) << shift
		l = append(l, p-1, p, p+1, -p-1, -p, -p+1)
	}
	return l
}

func numberFits(n uint64, w int) bool {
	return new(big.Int).SetUint64(n).Cmp(power(w)) < 0
}

func signedFits(x int64, w int) bool {
	half := new(big.Int).Rsh(power(w), 1)
	b := big.NewInt(x)
	return b.Cmp(half) < 0 && b.Cmp(new(big.Int).Neg(half)) >= 0
}

// wantBytes divides by 256 again and again.
func wantBytes(n uint64, w int) []byte {
	var b []byte
	for range w {
		b = append(b, byte(n%256))
		n /= 256
	}
	return b
}

// wantComplement is the two's complement as the document defines it, of a number that fits.
func wantComplement(x int64, w int) uint64 {
	b := big.NewInt(x)
	if x < 0 {
		b.Add(b, power(w))
	}
	return b.Uint64()
}

func TestExamples(t *testing.T) {
	for w, want := range map[int][]byte{2: {2, 1}, 3: {2, 1, 0}} {
		if b, e := Bytes(258, w); e != api.OK || !bytes.Equal(b, want) {
			t.Error(w, b, e)
		}
	}
	for w, want := range map[int]uint64{1: 254, 3: 16777214} {
		if n, e := Unsigned(-2, w); e != api.OK || n != want {
			t.Error(w, n, e)
		}
	}
}

func TestBytes(t *testing.T) {
	for _, n := range numbers() {
		for w := 1; w <= 8; w++ {
			b, e := Bytes(n, w)
			if !numberFits(n, w) {
				if e != api.ErrRange || len(b) != 0 {
					t.Error(n, w, b, e)
				}
				continue
			}
			if e != api.OK || !bytes.Equal(b, wantBytes(n, w)) {
				t.Error(n, w, b, e)
			}
		}
	}
}

func TestValue(t *testing.T) {
	for _, c := range []struct {
		b    []byte
		want uint64
	}{
		{[]byte{0}, 0},
		{[]byte{255}, 255},
		{[]byte{2, 1}, 258},
		{[]byte{2, 1, 0}, 258},
		{[]byte{0, 0, 1}, 65536},
		{[]byte{0x44, 0xac, 0, 0}, 44100},
		{[]byte{8, 7, 6, 5, 4, 3, 2, 1}, 0x0102030405060708},
		{bytes.Repeat([]byte{255}, 8), math.MaxUint64},
	} {
		if n, e := Value(c.b); e != api.OK || n != c.want {
			t.Error(c.b, n, e)
		}
	}
	for _, b := range [][]byte{nil, {}, make([]byte, 9), bytes.Repeat([]byte{1}, 100)} {
		if n, e := Value(b); e != api.ErrArg || n != 0 {
			t.Error(b, n, e)
		}
	}
}

func TestAt(t *testing.T) {
	b := []byte{1, 2, 3, 4, 5, 250, 251, 252, 253, 254, 255}
	for at := range len(b) + 3 {
		for w := 1; w <= 8; w++ {
			n, e := At(b, at, w)
			if at+w > len(b) {
				if e != api.ErrShort || n != 0 {
					t.Error(at, w, n, e)
				}
				continue
			}
			want, _ := Value(b[at : at+w])
			if e != api.OK || n != want {
				t.Error(at, w, n, e)
			}
		}
	}
}

func TestAtRefuses(t *testing.T) {
	b := []byte{1, 2, 3, 4}
	for _, c := range []struct {
		b     []byte
		at, w int
		want  api.Errno
	}{
		{b, -1, 1, api.ErrArg},
		{b, math.MinInt, 8, api.ErrArg},
		{b, -1, 0, api.ErrArg},
		{b, -1, 5, api.ErrArg},
		{b, 9, 9, api.ErrArg},
		{b, 4, 0, api.ErrArg},
		{b, 4, 1, api.ErrShort},
		{b, 3, 2, api.ErrShort},
		{b, 0, 5, api.ErrShort},
		{b, math.MaxInt, 1, api.ErrShort},
		{b, math.MaxInt - 7, 8, api.ErrShort},
		{nil, 0, 1, api.ErrShort},
		{nil, math.MaxInt, 8, api.ErrShort},
		{b[:2], 1, 2, api.ErrShort},
	} {
		if n, e := At(c.b, c.at, c.w); e != c.want || n != 0 {
			t.Error(c.b, c.at, c.w, n, e)
		}
	}
}

func TestUnsigned(t *testing.T) {
	for _, x := range signedNumbers() {
		for w := 1; w <= 8; w++ {
			n, e := Unsigned(x, w)
			if !signedFits(x, w) {
				if e != api.ErrRange || n != 0 {
					t.Error(x, w, n, e)
				}
				continue
			}
			if e != api.OK || n != wantComplement(x, w) {
				t.Error(x, w, n, e)
			}
		}
	}
}

func TestSigned(t *testing.T) {
	for _, c := range []struct {
		n    uint64
		w    int
		want int64
	}{
		{0, 1, 0},
		{127, 1, 127},
		{128, 1, -128},
		{255, 1, -1},
		{128, 2, 128},
		{0x7fff, 2, 32767},
		{0x8000, 2, -32768},
		{0x800000, 3, -8388608},
		{16777214, 3, -2},
		{0x80000000, 4, math.MinInt32},
		{0x80000000, 5, 0x80000000},
		{math.MaxInt64, 8, math.MaxInt64},
		{1 << 63, 8, math.MinInt64},
		{math.MaxUint64, 8, -1},
	} {
		if x, e := Signed(c.n, c.w); e != api.OK || x != c.want {
			t.Error(c.n, c.w, x, e)
		}
	}
	for _, n := range numbers() {
		for w := 1; w <= 8; w++ {
			x, e := Signed(n, w)
			if !numberFits(n, w) {
				if e != api.ErrRange || x != 0 {
					t.Error(n, w, x, e)
				}
				continue
			}
			if e != api.OK || !signedFits(x, w) || wantComplement(x, w) != n {
				t.Error(n, w, x, e)
			}
		}
	}
}

// A wrong width is told before all else, whether the number fits or not.
func TestBadWidths(t *testing.T) {
	for _, w := range badWidths {
		for _, n := range []uint64{0, 1, 256, math.MaxUint64} {
			if b, e := Bytes(n, w); e != api.ErrArg || len(b) != 0 {
				t.Error(n, w, b, e)
			}
			if x, e := Signed(n, w); e != api.ErrArg || x != 0 {
				t.Error(n, w, x, e)
			}
			if m, e := Unsigned(int64(n), w); e != api.ErrArg || m != 0 {
				t.Error(n, w, m, e)
			}
		}
		for _, at := range []int{math.MinInt, -1, 0, 3, math.MaxInt} {
			if n, e := At([]byte{1, 2, 3}, at, w); e != api.ErrArg || n != 0 {
				t.Error(at, w, n, e)
			}
		}
	}
}

func TestReadIsWhatWasWritten(t *testing.T) {
	for _, n := range numbers() {
		for w := 1; w <= 8; w++ {
			b, e := Bytes(n, w)
			if e != api.OK {
				continue
			}
			if m, e := Value(b); e != api.OK || m != n {
				t.Error(n, w, m, e)
			}
			framed := append(append([]byte{9, 9}, b...), 9)
			if m, e := At(framed, 2, w); e != api.OK || m != n {
				t.Error(n, w, m, e)
			}
			again, e := Bytes(n, 8)
			if e != api.OK || !bytes.Equal(again, append(bytes.Clone(b), make([]byte, 8-w)...)) {
				t.Error(n, w, again, e)
			}
		}
	}
}

func TestWrittenIsWhatWasRead(t *testing.T) {
	for w := 1; w <= 8; w++ {
		for _, seed := range []byte{0, 1, 127, 128, 255} {
			b := make([]byte, w)
			for i := range b {
				b[i] = seed * byte(3*i+1)
			}
			n, e := Value(b)
			if e != api.OK {
				t.Fatal(b, e)
			}
			if again, e := Bytes(n, w); e != api.OK || !bytes.Equal(again, b) {
				t.Error(b, again, e)
			}
		}
	}
}

// With one and two bytes all numbers are tried: complements are a bijection.
func TestComplementsAreABijection(t *testing.T) {
	for w := 1; w <= 2; w++ {
		count := int64(1) << (8 * w)
		seen := map[int64]bool{}
		for n := range uint64(count) {
			x, e := Signed(n, w)
			if e != api.OK || seen[x] || x < -count/2 || x >= count/2 {
				t.Fatal(n, w, x, e)
			}
			seen[x] = true
			if m, e := Unsigned(x, w); e != api.OK || m != n {
				t.Fatal(n, w, x, m, e)
			}
		}
	}
	for _, x := range signedNumbers() {
		for w := 1; w <= 8; w++ {
			n, e := Unsigned(x, w)
			if e != api.OK {
				continue
			}
			if y, e := Signed(n, w); e != api.OK || y != x {
				t.Error(x, w, n, y, e)
			}
		}
	}
}

func TestComplementsKeepSums(t *testing.T) {
	for w := 1; w <= 8; w++ {
		for _, x := range signedNumbers() {
			for _, y := range signedNumbers() {
				sum := new(big.Int).Add(big.NewInt(x), big.NewInt(y))
				if !signedFits(x, w) || !signedFits(y, w) || !sum.IsInt64() || !signedFits(sum.Int64(), w) {
					continue
				}
				a, _ := Unsigned(x, w)
				b, _ := Unsigned(y, w)
				c, e := Unsigned(sum.Int64(), w)
				total := new(big.Int).Add(new(big.Int).SetUint64(a), new(big.Int).SetUint64(b))
				if e != api.OK || total.Mod(total, power(w)).Uint64() != c {
					t.Fatal(x, y, w, a, b, c, e)
				}
			}
		}
	}
}

// R2: arguments stay as they are, behind the length of a slice, too.
func TestArgumentsAreOnlyRead(t *testing.T) {
	whole := []byte{1, 2, 3, 4, 5, 6, 7, 8, 9, 10}
	before := bytes.Clone(whole)
	for n := range len(whole) + 1 {
		Value(whole[:n])
		for at := -1; at <= n; at++ {
			for w := 0; w <= 9; w++ {
				At(whole[:n], at, w)
			}
		}
	}
	if !bytes.Equal(whole, before) {
		t.Error(whole)
	}
}

// R2: what one call returned does not change what the next one returns.
func TestResultsShareNoMemory(t *testing.T) {
	first, _ := Bytes(258, 4)
	second, _ := Bytes(258, 4)
	for i := range first[:cap(first)] {
		first[:cap(first)][i] = 77
	}
	third, _ := Bytes(258, 4)
	want := []byte{2, 1, 0, 0}
	if !bytes.Equal(second, want) || !bytes.Equal(third, want) {
		t.Error(second, third)
	}
}

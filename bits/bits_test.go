package bits

import (
	"bytes"
	"math"
	"math/big"
	"slices"
	"strconv"
	"testing"

	"cadenza/api"
)

const mostBytes = api.MaxBits / 8

var (
	sizes    = []int{0, 1, 2, 3, 7, 8, 9, 13, 15, 16, 17, 23, 24, 31, 33, 63, 64, 65, 71, 100}
	badSizes = []int{math.MinInt, -64, -8, -1, 65, 66, 72, 128, math.MaxInt}
)

// list has a bool for each bit: the plainest form of bits.
type list []bool

// some returns n bits, other ones for each seed.
func some(n int, seed uint32) list {
	l := make(list, n)
	x := seed*2654435761 + 12345
	for i := range l {
		x = x*1664525 + 1013904223
		l[i] = x>>31 == 1
	}
	return l
}

func ones(n int) list {
	l := make(list, n)
	for i := range l {
		l[i] = true
	}
	return l
}

// bits puts a list into bytes as the document defines it.
func (l list) bits() api.Bits {
	b := api.Bits{Bytes: make([]byte, (len(l)+7)/8), N: len(l)}
	for i, set := range l {
		if set {
			b.Bytes[i/8] += byte(math.Pow(2, float64(i%8)))
		}
	}
	return b
}

// number is the number whose lowest bits a list has.
func (l list) number() uint64 {
	n := new(big.Int)
	for i, set := range l {
		if set {
			n.Add(n, new(big.Int).Lsh(big.NewInt(1), uint(i)))
		}
	}
	return n.Uint64()
}

// lowest returns the n lowest bits of a number.
func lowest(v uint64, n int) list {
	l := make(list, n)
	for i := range l {
		l[i] = v%2 == 1
		v /= 2
	}
	return l
}

func together(lists ...list) list { return slices.Concat(lists...) }

func same(a, b api.Bits) bool { return a.N == b.N && bytes.Equal(a.Bytes, b.Bytes) }

func show(b api.Bits) string { return strconv.Itoa(b.N) + " bits" }

// lists returns lists of all sizes: zeros, ones, and others.
func lists() []list {
	var all []list
	for i, n := range sizes {
		all = append(all, make(list, n), ones(n), some(n, uint32(i)))
	}
	return all
}

// badBits returns bits that are not valid, for each of the reasons.
func badBits() map[string]api.Bits {
	return map[string]api.Bits{
		"N negative":                {N: -1},
		"N least":                   {N: math.MinInt},
		"N negative with a byte":    {Bytes: []byte{0}, N: -8},
		"N negative, rounded to 0":  {Bytes: []byte{}, N: -7},
		"N greatest":                {N: math.MaxInt},
		"N greatest with bytes":     {Bytes: make([]byte, 8), N: math.MaxInt},
		"a bit too many":            {Bytes: make([]byte, mostBytes+1), N: api.MaxBits + 1},
		"a byte too many":           {Bytes: make([]byte, mostBytes+1), N: api.MaxBits + 8},
		"no byte of one":            {N: 1},
		"no byte of one, the whole": {Bytes: []byte{}, N: 8},
		"a byte missing":            {Bytes: []byte{1}, N: 9},
		"a byte more than none":     {Bytes: []byte{0}, N: 0},
		"a byte more":               {Bytes: []byte{1, 0}, N: 8},
		"a byte more than started":  {Bytes: []byte{1, 0}, N: 7},
		"next bit":                  {Bytes: []byte{2}, N: 1},
		"highest bit":               {Bytes: []byte{128}, N: 7},
		"highest bit, few used":     {Bytes: []byte{128}, N: 1},
		"next bit of another byte":  {Bytes: []byte{255, 8}, N: 11},
		"all bits":                  {Bytes: []byte{255, 255}, N: 15},
	}
}

func TestExamples(t *testing.T) {
	b, e := Put(api.Bits{}, 5, 3)
	if e != api.OK {
		t.Fatal(e)
	}
	b, e = Put(b, 6, 4)
	if e != api.OK || !same(b, api.Bits{Bytes: []byte{53}, N: 7}) {
		t.Error(b, e)
	}
	if v, e := Get(b, 2, 4); e != api.OK || v != 13 {
		t.Error(v, e)
	}
}

func TestCheck(t *testing.T) {
	for _, l := range lists() {
		if e := Check(l.bits()); e != api.OK {
			t.Error(len(l), e)
		}
	}
	for _, n := range []int{api.MaxBits, api.MaxBits - 1, api.MaxBits - 8} {
		if e := Check(ones(n).bits()); e != api.OK {
			t.Error(n, e)
		}
	}
	if e := Check(api.Bits{Bytes: []byte{}}); e != api.OK {
		t.Error(e)
	}
	for name, b := range badBits() {
		if e := Check(b); e != api.ErrBad {
			t.Error(name, e)
		}
	}
}

// Bits that are not valid are told before all else.
func TestBadBitsAreToldFirst(t *testing.T) {
	good := some(11, 1).bits()
	for name, b := range badBits() {
		results := map[string]func() (api.Bits, api.Errno){
			"put":            func() (api.Bits, api.Errno) { return Put(b, 1, 1) },
			"put wrong size": func() (api.Bits, api.Errno) { return Put(b, 1, -1) },
			"put too great":  func() (api.Bits, api.Errno) { return Put(b, 2, 1) },
			"join first":     func() (api.Bits, api.Errno) { return Join(b, good) },
			"join second":    func() (api.Bits, api.Errno) { return Join(good, b) },
			"join both":      func() (api.Bits, api.Errno) { return Join(b, b) },
			"cut":            func() (api.Bits, api.Errno) { return Cut(b, 0, 0) },
			"cut wrong":      func() (api.Bits, api.Errno) { return Cut(b, -1, 0) },
			"align":          func() (api.Bits, api.Errno) { return Align(b) },
		}
		for call, result := range results {
			if r, e := result(); e != api.ErrBad || !same(r, api.Bits{}) {
				t.Error(name, call, show(r), e)
			}
		}
		for _, x := range [][2]int{{0, 0}, {-1, 0}, {0, 65}, {400000, 1}} {
			if v, e := Get(b, x[0], x[1]); e != api.ErrBad || v != 0 {
				t.Error(name, x, v, e)
			}
		}
	}
}

// The second bits of Join are checked before their number is.
func TestBadBitsAreToldBeforeFull(t *testing.T) {
	full := make(list, api.MaxBits).bits()
	if b, e := Join(full, api.Bits{Bytes: []byte{2}, N: 1}); e != api.ErrBad || !same(b, api.Bits{}) {
		t.Error(show(b), e)
	}
}

func TestPut(t *testing.T) {
	for i, l := range lists() {
		for n := 0; n <= 64; n++ {
			for _, more := range []list{make(list, n), ones(n), some(n, uint32(i*100+n))} {
				b, e := Put(l.bits(), more.number(), n)
				if e != api.OK || !same(b, together(l, more).bits()) {
					t.Fatal(l, n, b, e)
				}
			}
		}
	}
}

func TestPutRefuses(t *testing.T) {
	b := some(13, 3).bits()
	full := ones(api.MaxBits).bits()
	nearly := ones(api.MaxBits - 3).bits()
	for _, c := range []struct {
		b    api.Bits
		v    uint64
		n    int
		want api.Errno
	}{
		{b, 0, -1, api.ErrArg},
		{b, 0, 65, api.ErrArg},
		{b, 1, 0, api.ErrRange},
		{b, math.MaxUint64, 0, api.ErrRange},
		{b, 2, 1, api.ErrRange},
		{b, 255, 7, api.ErrRange},
		{b, 256, 8, api.ErrRange},
		{b, 1 << 63, 63, api.ErrRange},
		{b, math.MaxUint64, 63, api.ErrRange},
		{full, 0, 65, api.ErrArg},
		{full, 2, 1, api.ErrRange},
		{full, 1, 0, api.ErrRange},
		{full, 0, 1, api.ErrFull},
		{full, 0, 64, api.ErrFull},
		{nearly, 0, 4, api.ErrFull},
		{nearly, 15, 4, api.ErrFull},
	} {
		if r, e := Put(c.b, c.v, c.n); e != c.want || !same(r, api.Bits{}) {
			t.Error(show(c.b), c.v, c.n, show(r), e)
		}
	}
	for n := range 64 {
		if r, e := Put(b, uint64(1)<<n, n); e != api.ErrRange || !same(r, api.Bits{}) {
			t.Error(n, r, e)
		}
	}
}

func TestPutUpToTheLimit(t *testing.T) {
	full := ones(api.MaxBits).bits()
	if r, e := Put(full, 0, 0); e != api.OK || !same(r, full) {
		t.Error(show(r), e)
	}
	for _, n := range []int{1, 3, 8, 17, 64} {
		r, e := Put(ones(api.MaxBits-n).bits(), ones(n).number(), n)
		if e != api.OK || !same(r, full) {
			t.Error(n, show(r), e)
		}
	}
}

func TestGet(t *testing.T) {
	l := some(150, 8)
	for _, l := range []list{l, ones(150), l[:9], l[:8], l[:1], nil} {
		b := l.bits()
		for at := range len(l) + 2 {
			for n := 0; n <= 64; n++ {
				v, e := Get(b, at, n)
				if at+n > len(l) {
					if e != api.ErrShort || v != 0 {
						t.Fatal(len(l), at, n, v, e)
					}
					continue
				}
				if e != api.OK || v != l[at:at+n].number() {
					t.Fatal(len(l), at, n, v, e)
				}
			}
		}
	}
}

func TestGetRefuses(t *testing.T) {
	b := some(20, 1).bits()
	for _, c := range []struct {
		at, n int
		want  api.Errno
	}{
		{-1, 0, api.ErrArg},
		{-1, 1, api.ErrArg},
		{math.MinInt, 64, api.ErrArg},
		{0, -1, api.ErrArg},
		{0, 65, api.ErrArg},
		{100, 65, api.ErrArg},
		{100, -1, api.ErrArg},
		{20, 1, api.ErrShort},
		{21, 0, api.ErrShort},
		{19, 2, api.ErrShort},
		{0, 21, api.ErrShort},
		{0, 64, api.ErrShort},
		{math.MaxInt, 0, api.ErrShort},
		{math.MaxInt, 1, api.ErrShort},
		{math.MaxInt - 63, 64, api.ErrShort},
	} {
		if v, e := Get(b, c.at, c.n); e != c.want || v != 0 {
			t.Error(c.at, c.n, v, e)
		}
	}
	for _, n := range badSizes {
		if v, e := Get(b, 3, n); e != api.ErrArg || v != 0 {
			t.Error(n, v, e)
		}
		if r, e := Put(b, math.MaxUint64, n); e != api.ErrArg || !same(r, api.Bits{}) {
			t.Error(n, r, e)
		}
	}
	if v, e := Get(b, 20, 0); e != api.OK || v != 0 {
		t.Error(v, e)
	}
}

func TestJoin(t *testing.T) {
	for _, l := range lists() {
		for _, m := range lists() {
			if b, e := Join(l.bits(), m.bits()); e != api.OK || !same(b, together(l, m).bits()) {
				t.Fatal(l, m, b, e)
			}
		}
	}
}

func TestJoinUpToTheLimit(t *testing.T) {
	l := some(api.MaxBits, 5)
	for _, at := range []int{0, 1, 7, 8, 9, 100003, api.MaxBits - 8, api.MaxBits - 1, api.MaxBits} {
		b, e := Join(l[:at].bits(), l[at:].bits())
		if e != api.OK || !same(b, l.bits()) {
			t.Error(at, show(b), e)
		}
		if b, e := Join(l[:at].bits(), make(list, api.MaxBits-at+1).bits()); at > 0 && (e != api.ErrFull || !same(b, api.Bits{})) {
			t.Error(at, show(b), e)
		}
	}
	if b, e := Join(l.bits(), l.bits()); e != api.ErrFull || !same(b, api.Bits{}) {
		t.Error(show(b), e)
	}
}

func TestCut(t *testing.T) {
	for _, l := range []list{some(75, 2), ones(75), ones(16), some(8, 1), nil} {
		b := l.bits()
		for from := range len(l) + 1 {
			for to := from; to <= len(l); to++ {
				if c, e := Cut(b, from, to); e != api.OK || !same(c, l[from:to].bits()) {
					t.Fatal(len(l), from, to, c, e)
				}
			}
		}
	}
}

func TestCutRefuses(t *testing.T) {
	b := some(20, 1).bits()
	for _, x := range [][2]int{
		{-1, 0}, {-1, 20}, {0, -1}, {-2, -1}, {0, 21}, {20, 21}, {21, 21}, {21, 20}, {1, 0}, {20, 19}, {24, 24},
		{math.MinInt, math.MaxInt}, {math.MaxInt, math.MinInt}, {math.MaxInt, math.MaxInt}, {0, math.MaxInt}, {math.MinInt, 0},
	} {
		if c, e := Cut(b, x[0], x[1]); e != api.ErrArg || !same(c, api.Bits{}) {
			t.Error(x, c, e)
		}
	}
}

func TestOf(t *testing.T) {
	for _, n := range []int{0, 1, 2, 9, mostBytes - 1, mostBytes} {
		p := some(8*n, 4).bits().Bytes
		b, e := Of(p)
		if e != api.OK || !same(b, api.Bits{Bytes: p, N: 8 * n}) || Check(b) != api.OK {
			t.Error(n, show(b), e)
		}
	}
	if b, e := Of(nil); e != api.OK || !same(b, api.Bits{}) {
		t.Error(b, e)
	}
	for _, n := range []int{mostBytes + 1, 2 * mostBytes} {
		if b, e := Of(make([]byte, n)); e != api.ErrMany || !same(b, api.Bits{}) {
			t.Error(n, show(b), e)
		}
	}
}

func TestAlign(t *testing.T) {
	all := append(lists(), ones(api.MaxBits), ones(api.MaxBits-1), ones(api.MaxBits-7))
	for _, l := range all {
		want := together(l, make(list, (8-len(l)%8)%8))
		a, e := Align(l.bits())
		if e != api.OK || !same(a, want.bits()) || Check(a) != api.OK {
			t.Error(len(l), show(a), e)
		}
		// Filled up bits are those of their bytes.
		if b, e := Of(l.bits().Bytes); e != api.OK || !same(a, b) {
			t.Error(len(l), show(b), e)
		}
	}
}

func TestWhatWasPutIsGotAndTheRestStays(t *testing.T) {
	for i, l := range lists() {
		for n := 0; n <= 64; n++ {
			v := some(n, uint32(i+n)).number()
			b, e := Put(l.bits(), v, n)
			if e != api.OK {
				t.Fatal(e)
			}
			// More behind it does not change it.
			b, e = Put(b, 5, 3)
			if e != api.OK {
				t.Fatal(e)
			}
			if got, e := Get(b, len(l), n); e != api.OK || got != v {
				t.Fatal(len(l), n, got, e)
			}
			if before, e := Cut(b, 0, len(l)); e != api.OK || !same(before, l.bits()) {
				t.Fatal(len(l), n, before, e)
			}
		}
	}
}

func TestNumbersInARowAreOneNumber(t *testing.T) {
	front := some(5, 1).bits()
	for n := 0; n <= 64; n++ {
		for m := 0; n+m <= 64; m++ {
			v, w := some(n, uint32(n)).number(), some(m, uint32(m+100)).number()
			b, _ := Put(front, v, n)
			b, _ = Put(b, w, m)
			// With 64 bits in front there are none behind: w is 0, and stays 0.
			once, e := Put(front, v+w<<n, n+m)
			if e != api.OK || !same(b, once) {
				t.Fatal(n, m, once, e)
			}
		}
	}
}

func TestCutAndJoinedIsTheSame(t *testing.T) {
	b := some(77, 6).bits()
	for i := range 78 {
		for j := i; j <= 77; j++ {
			x, _ := Cut(b, 0, i)
			y, _ := Cut(b, i, j)
			z, _ := Cut(b, j, 77)
			xy, _ := Join(x, y)
			yz, _ := Join(y, z)
			left, e := Join(xy, z)
			if e != api.OK || !same(left, b) {
				t.Fatal(i, j, left, e)
			}
			right, e := Join(x, yz)
			if e != api.OK || !same(right, b) {
				t.Fatal(i, j, right, e)
			}
		}
	}
}

// R2: arguments stay as they are, behind the length of a slice, too.
func TestArgumentsAreOnlyRead(t *testing.T) {
	for n := range 65 {
		l := some(n, 2).bits()
		whole := append(bytes.Clone(l.Bytes), bytes.Repeat([]byte{171}, 40)...)
		before := bytes.Clone(whole)
		b := api.Bits{Bytes: whole[:len(l.Bytes)], N: n}
		Check(b)
		Put(b, 0, 5)
		Put(b, math.MaxUint64, 64)
		Get(b, 0, n)
		Join(b, b)
		Cut(b, n/2, n)
		Of(b.Bytes)
		Align(b)
		if !bytes.Equal(whole, before) {
			t.Fatal(n, whole)
		}
	}
}

// scribble changes all memory that bits have.
func scribble(b api.Bits) {
	all := b.Bytes[:cap(b.Bytes)]
	for i := range all {
		all[i] ^= 255
	}
}

// R2: results share no memory with arguments.
func TestResultsShareNoMemory(t *testing.T) {
	for _, n := range []int{8, 13, 64} {
		want := some(n, 9).bits()
		a, empty := some(n, 9).bits(), api.Bits{Bytes: make([]byte, 0, 8)}
		for _, call := range []func() (api.Bits, api.Errno){
			func() (api.Bits, api.Errno) { return Put(a, 0, 0) },
			func() (api.Bits, api.Errno) { return Put(a, 1, 1) },
			func() (api.Bits, api.Errno) { return Join(a, empty) },
			func() (api.Bits, api.Errno) { return Join(empty, a) },
			func() (api.Bits, api.Errno) { return Join(a, a) },
			func() (api.Bits, api.Errno) { return Cut(a, 0, n) },
			func() (api.Bits, api.Errno) { return Cut(a, 0, 8) },
			func() (api.Bits, api.Errno) { return Of(a.Bytes) },
			func() (api.Bits, api.Errno) { return Align(a) },
		} {
			first, _ := call()
			second, _ := call()
			before := bytes.Clone(second.Bytes)
			scribble(first)
			if !same(a, want) || !bytes.Equal(second.Bytes, before) {
				t.Fatal(n, a, second)
			}
		}
	}
}

// The memory of a result tells nothing that is not in it: what is appended to it does not depend on the call.
func TestResultsHaveNoBitsBehind(t *testing.T) {
	for _, l := range lists() {
		b, _ := Join(l.bits(), ones(3).bits())
		for _, c := range b.Bytes[len(b.Bytes):cap(b.Bytes)] {
			if c != 0 {
				t.Fatal(len(l), b.Bytes[:cap(b.Bytes)])
			}
		}
	}
}

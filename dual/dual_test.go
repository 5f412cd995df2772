package dual

import (
	"bytes"
	"math"
	"slices"
	"testing"

	"cadenza/api"
	"cadenza/rice"
)

const (
	maxK     = 24
	maxRun   = 48
	topSum   = 68719476735
	maxCode  = 81
	maxBits  = 330000
	maxBytes = maxBits / 8
)

// list has a bool for each bit: the plainest form of bits.
type list []bool

// bits puts a list into bytes as layer 2 defines it.
func (l list) bits() api.Bits {
	b := api.Bits{Bytes: make([]byte, (len(l)+7)/8), N: len(l)}
	for i, set := range l {
		if set {
			b.Bytes[i/8] |= 1 << (i % 8)
		}
	}
	return b
}

// listOf undoes list.bits.
func listOf(b api.Bits) list {
	l := make(list, b.N)
	for i := range l {
		l[i] = b.Bytes[i/8]>>(i%8)&1 == 1
	}
	return l
}

// lowest returns the n lowest bits of a number.
func lowest(v uint64, n int) list {
	l := make(list, n)
	for i := range l {
		l[i] = v%2 == 1
		v /= 2
	}
	return l
}

// power returns 2^n.
func power(n int) uint64 {
	p := uint64(1)
	for range n {
		p *= 2
	}
	return p
}

// riceCode returns the Rice code of a number, which here may be one of more than 32 bits, as layer 7 defines it.
func riceCode(v uint64, k int) list {
	q := v / power(k)
	if q < maxRun {
		return together(ones(int(q)), list{false}, lowest(v, k))
	}
	return together(ones(maxRun), lowest(v, 32))
}

// code returns the code of a number as the document defines it.
func code(d api.Dual, v uint32) list {
	if uint64(v) < power(d.K0) {
		return together(list{false}, lowest(uint64(v), d.K0))
	}
	return together(list{true}, riceCode(uint64(v)-power(d.K0), d.K1))
}

// pairBehind returns the pair that has learnt a number as the document defines it.
func pairBehind(k int, sum, v uint64) (int, uint64) {
	n := sum + v - sum/16
	if k > 0 && n < power(k+4) {
		return k - 1, n
	}
	if k < maxK && n > power(k+5) {
		return k + 1, n
	}
	return k, n
}

// stateBehind returns the state that has learnt a number as the document defines it.
func stateBehind(d api.Dual, v uint32) api.Dual {
	x := d
	if uint64(v) >= power(d.K0) {
		x.K1, x.Sum1 = pairBehind(d.K1, d.Sum1, uint64(v)-power(d.K0))
	}
	x.K0, x.Sum0 = pairBehind(d.K0, d.Sum0, uint64(v))
	return x
}

func ones(n int) list { return slices.Repeat(list{true}, n) }

func together(lists ...list) list { return slices.Concat(lists...) }

func same(a, b api.Bits) bool { return a.N == b.N && bytes.Equal(a.Bytes, b.Bytes) }

// chance returns n numbers that look like chance, but are the same for the same seed.
func chance(n int, seed uint64) []uint32 {
	l := make([]uint32, n)
	x := seed
	for i := range l {
		x = x*6364136223846793005 + 1442695040888963407
		l[i] = uint32(x >> 32)
	}
	return l
}

// some returns n bits, of which about one of rare is a zero.
func some(n, rare int, seed uint64) list {
	l := make(list, n)
	for i, x := range chance(n, seed) {
		l[i] = x>>8%uint32(rare) > 0
	}
	return l
}

// wild returns bits with long runs of both kinds, and others between them.
func wild(seed uint64) list {
	var l list
	for i, x := range chance(60, seed) {
		x >>= 16
		switch i % 3 {
		case 0:
			l = together(l, ones(int(x%100)))
		case 1:
			l = together(l, make(list, x%40))
		default:
			l = together(l, some(int(x%20), 2, uint64(x)))
		}
	}
	return l
}

// sums returns sums around those where a K changes, and the least and the greatest ones.
func sums(k int) []uint64 {
	l := []uint64{0, 1, 15, 16, 17, 1000, topSum - 16, topSum - 1, topSum}
	for _, p := range []uint64{power(k + 4), power(k + 5)} {
		for d := range uint64(3) {
			l = append(l, p-d, p+d)
			// These are about 16/15 of the others: a number that is learnt takes a part away.
			l = append(l, p+p/15-d, p+p/15+d)
		}
	}
	return l
}

// states returns valid states: those with each pair of a K and a sum at each side, and with all pairs of Ks.
func states() []api.Dual {
	var all []api.Dual
	for k := range maxK + 1 {
		for i, sum := range sums(k) {
			other := (k*5 + i*7) % (maxK + 1)
			otherSum := sums(other)[(i*3+k)%len(sums(other))]
			all = append(all, api.Dual{K0: k, Sum0: sum, K1: other, Sum1: otherSum}, api.Dual{K0: other, Sum0: otherSum, K1: k, Sum1: sum})
		}
		for other := range maxK + 1 {
			all = append(all, api.Dual{K0: k, Sum0: power(k+4) + 3, K1: other, Sum1: power(other+5) - 3})
		}
	}
	return all
}

// fewStates returns states with small, middle and great Ks at both sides.
func fewStates() []api.Dual {
	all := []api.Dual{Start(), {K0: 10, Sum0: 15365, K1: 9, Sum1: 16336}}
	for _, k := range []int{0, 1, 8, 23, maxK} {
		for _, other := range []int{0, 1, 9, maxK} {
			all = append(all, api.Dual{K0: k, Sum0: power(k + 4), K1: other, Sum1: power(other + 5)})
		}
	}
	return append(all, api.Dual{}, api.Dual{Sum0: topSum, Sum1: topSum}, api.Dual{K0: maxK, Sum0: topSum, K1: maxK, Sum1: topSum})
}

// numbers returns numbers, in order, where codes in a state may change: small ones, those around 2^K0, and around each run behind it, and others.
func numbers(d api.Dual) []uint32 {
	l := []uint32{0, 1, 2, 3, 5, 9, 1000, 2000, 1 << 31, math.MaxUint32 - 1, math.MaxUint32}
	around := func(v uint64) {
		for _, x := range []uint64{v - 1, v, v + 1} {
			if x <= math.MaxUint32 {
				l = append(l, uint32(x))
			}
		}
	}
	around(power(d.K0))
	for q := range uint64(maxRun + 2) {
		if q < 3 || q > maxRun-3 {
			around(power(d.K0) + q*power(d.K1))
		}
	}
	for i, x := range chance(16, uint64(d.K0)) {
		l = append(l, x>>(i*2))
	}
	slices.Sort(l)
	return slices.Compact(l)
}

// fronts returns lists of all numbers of bits in the last byte, and of many bytes.
func fronts() []list {
	var all []list
	for n := range 9 {
		all = append(all, make(list, n), ones(n), some(n, 2, uint64(n)))
	}
	return append(all, some(1003, 2, 1))
}

// badStates returns states that are not valid, for each of the reasons.
func badStates() []api.Dual {
	var all []api.Dual
	for _, k := range []int{-1, -2, -24, -64, math.MinInt, maxK + 1, maxK + 2, 32, 63, 64, 256, 1 << 32, 1<<32 + 1, math.MaxInt} {
		for _, good := range []int{0, 10, maxK} {
			all = append(all, api.Dual{K0: k, Sum0: 16384, K1: good, Sum1: 16384}, api.Dual{K0: good, Sum0: 16384, K1: k, Sum1: 16384})
		}
		all = append(all, api.Dual{K0: k, K1: k}, api.Dual{K0: k, Sum0: math.MaxUint64, K1: k, Sum1: topSum + 1})
	}
	for _, sum := range []uint64{topSum + 1, topSum + 2, 1 << 37, 1 << 63, math.MaxUint64} {
		for _, k := range []int{0, 10, maxK} {
			all = append(all, api.Dual{K0: k, Sum0: sum, K1: k, Sum1: 16384}, api.Dual{K0: k, Sum0: 16384, K1: k, Sum1: sum}, api.Dual{K0: k, Sum0: sum, K1: k, Sum1: sum})
		}
	}
	return all
}

// badBits returns bits that are not valid, for each of the reasons.
func badBits() map[string]api.Bits {
	return map[string]api.Bits{
		"N negative":     {N: -1},
		"N least":        {N: math.MinInt},
		"N greatest":     {Bytes: make([]byte, 8), N: math.MaxInt},
		"a bit too many": {Bytes: make([]byte, maxBytes+1), N: maxBits + 1},
		"no byte of one": {N: 1},
		"a byte missing": {Bytes: []byte{1}, N: 9},
		"a byte more":    {Bytes: []byte{1, 0}, N: 8},
		"next bit":       {Bytes: []byte{2}, N: 1},
		"all bits":       {Bytes: []byte{255, 255}, N: 15},
	}
}

// writes checks what Write returns.
func writes(t *testing.T, b api.Bits, d api.Dual, v uint32, want api.Bits, behind api.Dual, err api.Errno) {
	t.Helper()
	if r, x, e := Write(b, d, v); e != err || x != behind || !same(r, want) {
		t.Fatal(b.N, d, v, r.N, x, e)
	}
}

// reads checks what Read returns.
func reads(t *testing.T, b api.Bits, at int, d api.Dual, want uint32, next int, behind api.Dual, err api.Errno) {
	t.Helper()
	if v, n, x, e := Read(b, at, d); e != err || x != behind || v != want || n != next {
		t.Fatal(b.N, at, d, v, n, x, e)
	}
}

// readFails checks that Read returns an error, and nothing else.
func readFails(t *testing.T, b api.Bits, at int, d api.Dual, err api.Errno) {
	t.Helper()
	reads(t, b, at, d, 0, 0, api.Dual{}, err)
}

func TestExamples(t *testing.T) {
	for _, c := range []struct {
		d      api.Dual
		v      uint32
		want   api.Bits
		behind api.Dual
	}{
		// A zero, and 5 in 10 bits.
		{Start(), 5, api.Bits{Bytes: []byte{10, 0}, N: 11}, api.Dual{K0: 9, Sum0: 15365, K1: 10, Sum1: 16384}},
		// A one, a zero, and 976 in 10 bits.
		{Start(), 2000, api.Bits{Bytes: []byte{1 + 976<<2&255, 976 >> 6}, N: 12}, api.Dual{K0: 10, Sum0: 17360, K1: 9, Sum1: 16336}},
		{api.Dual{}, 0, api.Bits{Bytes: []byte{0}, N: 1}, api.Dual{}},
		{api.Dual{}, 1, api.Bits{Bytes: []byte{1}, N: 2}, api.Dual{Sum0: 1}},
		{api.Dual{}, 33, api.Bits{Bytes: []byte{255, 255, 255, 255, 1}, N: 34}, api.Dual{K0: 1, Sum0: 33, Sum1: 32}},
		{api.Dual{K0: 24, K1: 24}, math.MaxUint32, api.Bits{Bytes: []byte{255, 255, 255, 255, 255, 255, 255, 255, 255, 253, 1}, N: 81},
			api.Dual{K0: 24, Sum0: 1<<32 - 1, K1: 24, Sum1: 1<<32 - 1<<24 - 1}},
	} {
		writes(t, api.Bits{}, c.d, c.v, c.want, c.behind, api.OK)
		reads(t, c.want, 0, c.d, c.v, c.want.N, c.behind, api.OK)
		if length, e := Length(c.d, c.v); e != api.OK || length != c.want.N {
			t.Error(c.d, c.v, length, e)
		}
		if x, e := Learn(c.d, c.v); e != api.OK || x != c.behind {
			t.Error(c.d, c.v, x, e)
		}
	}
}

func TestStart(t *testing.T) {
	if d := Start(); d != (api.Dual{K0: 10, K1: 10, Sum0: 16384, Sum1: 16384}) || Check(d) != api.OK {
		t.Error(d)
	}
}

func TestCheck(t *testing.T) {
	for _, d := range states() {
		if e := Check(d); e != api.OK {
			t.Error(d, e)
		}
	}
	for _, d := range badStates() {
		if e := Check(d); e != api.ErrBad {
			t.Error(d, e)
		}
	}
}

func TestLearn(t *testing.T) {
	for _, d := range states() {
		for _, v := range numbers(d) {
			if x, e := Learn(d, v); e != api.OK || x != stateBehind(d, v) {
				t.Fatal(d, v, x, e)
			}
		}
	}
}

// A sum is greater than, at, and less than the limits of its K by the number that is learnt.
func TestLearnAroundTheLimits(t *testing.T) {
	for k := range maxK + 1 {
		for _, limit := range []uint64{power(k + 4), power(k + 5)} {
			for _, sum := range []uint64{limit, limit - limit/16, limit + limit/16, limit/2 + 7} {
				for d := range uint64(7) {
					v := limit + d - 3 - (sum - sum/16)
					if v > math.MaxUint32 {
						continue
					}
					low := api.Dual{K0: maxK, Sum0: topSum, K1: k, Sum1: sum}
					high := uint32(v) + 1<<maxK
					if x, _ := Learn(low, high); x != stateBehind(low, high) || x.Sum1 != limit+d-3 {
						t.Error(low, high, x)
					}
					one := api.Dual{K0: k, Sum0: sum}
					if x, _ := Learn(one, uint32(v)); x != stateBehind(one, uint32(v)) || x.Sum0 != limit+d-3 {
						t.Error(one, v, x)
					}
				}
			}
		}
	}
}

func TestLength(t *testing.T) {
	for _, d := range states() {
		for _, v := range numbers(d) {
			if length, e := Length(d, v); e != api.OK || length != len(code(d, v)) {
				t.Fatal(d, v, length, e)
			}
		}
	}
}

func TestWriteAndRead(t *testing.T) {
	for i, d := range states() {
		front := fronts()[i%len(fronts())]
		behind := some(i%70, 1+i%3, uint64(i))
		for _, v := range numbers(d) {
			c := code(d, v)
			writes(t, front.bits(), d, v, together(front, c).bits(), stateBehind(d, v), api.OK)
			reads(t, together(front, c, behind).bits(), len(front), d, v, len(front)+len(c), stateBehind(d, v), api.OK)
		}
	}
}

func TestWriteAndReadBehindAllFronts(t *testing.T) {
	for _, front := range fronts() {
		for _, d := range fewStates() {
			for _, v := range numbers(d) {
				c := code(d, v)
				writes(t, front.bits(), d, v, together(front, c).bits(), stateBehind(d, v), api.OK)
				reads(t, together(front, c).bits(), len(front), d, v, len(front)+len(c), stateBehind(d, v), api.OK)
			}
		}
	}
}

func TestBadStatesAreRefused(t *testing.T) {
	full := make(list, maxBits).bits()
	for _, d := range badStates() {
		for _, v := range []uint32{0, 5, 1 << 24, math.MaxUint32} {
			if x, e := Learn(d, v); e != api.ErrBad || x != (api.Dual{}) {
				t.Error(d, v, x, e)
			}
			if length, e := Length(d, v); e != api.ErrBad || length != 0 {
				t.Error(d, v, length, e)
			}
			for _, b := range []api.Bits{{}, some(20, 2, 1).bits(), full} {
				writes(t, b, d, v, api.Bits{}, api.Dual{}, api.ErrBad)
			}
		}
		for _, b := range []api.Bits{{}, some(20, 2, 1).bits(), ones(100).bits(), full} {
			for _, at := range []int{math.MinInt, -1, 0, 1, b.N, b.N + 1, math.MaxInt} {
				readFails(t, b, at, d, api.ErrBad)
			}
		}
	}
}

// Bits that are not valid are told too if the state is, or is not, and whatever the index is.
func TestBadBitsAreRefused(t *testing.T) {
	for _, b := range badBits() {
		for _, d := range append(fewStates(), badStates()...) {
			writes(t, b, d, 5, api.Bits{}, api.Dual{}, api.ErrBad)
			writes(t, b, d, math.MaxUint32, api.Bits{}, api.Dual{}, api.ErrBad)
			for _, at := range []int{math.MinInt, -1, 0, 1, 100, math.MaxInt} {
				readFails(t, b, at, d, api.ErrBad)
			}
		}
	}
}

// The bits may be full at the first bit of a code, and at each other one.
func TestWriteUpToTheLimit(t *testing.T) {
	l := some(maxBits, 3, 7)
	for _, d := range fewStates() {
		for _, v := range []uint32{0, 1<<d.K0 - 1, 1 << d.K0, 1<<d.K0 + 3<<d.K1, math.MaxUint32} {
			c := code(d, v)
			front := l[:maxBits-len(c)]
			writes(t, front.bits(), d, v, together(front, c).bits(), stateBehind(d, v), api.OK)
			for _, missing := range []int{1, (len(c) + 1) / 2, len(c)} {
				writes(t, l[:maxBits-len(c)+missing].bits(), d, v, api.Bits{}, api.Dual{}, api.ErrFull)
			}
		}
	}
}

func TestReadUpToTheLimit(t *testing.T) {
	for _, d := range fewStates() {
		for _, v := range []uint32{0, 1<<d.K0 - 1, 1 << d.K0, math.MaxUint32} {
			c := code(d, v)
			front := make(list, maxBits-len(c))
			reads(t, together(front, c).bits(), len(front), d, v, maxBits, stateBehind(d, v), api.OK)
		}
	}
}

// Of each code some bits are missing.
func TestReadIsShort(t *testing.T) {
	for _, d := range fewStates() {
		for _, v := range []uint32{0, 1<<d.K0 - 1, 1 << d.K0, 1<<d.K0 + 3<<d.K1, math.MaxUint32} {
			c := code(d, v)
			for _, front := range []list{nil, ones(3), make(list, 8), some(1003, 2, 1)} {
				for there := range c {
					readFails(t, together(front, c[:there]).bits(), len(front), d, api.ErrShort)
				}
			}
		}
	}
}

func TestReadBehindTheEndIsShort(t *testing.T) {
	for _, b := range []api.Bits{{}, {Bytes: []byte{}}, {Bytes: []byte{0}, N: 1}, ones(15).bits(), make(list, maxBits).bits()} {
		for _, d := range fewStates() {
			for _, at := range []int{b.N, b.N + 1, b.N + 81, 1 << 32, math.MaxInt - 81, math.MaxInt - 24, math.MaxInt - 1, math.MaxInt} {
				readFails(t, b, at, d, api.ErrShort)
			}
		}
	}
}

func TestReadRefusesIndexes(t *testing.T) {
	for _, b := range []api.Bits{{}, {Bytes: []byte{0}, N: 1}, ones(100).bits(), make(list, 100).bits()} {
		for _, d := range fewStates() {
			for _, at := range []int{-1, -2, -8, -81, -100, math.MinInt, math.MinInt + 80} {
				readFails(t, b, at, d, api.ErrArg)
			}
		}
	}
}

// What is left may be as great as the greatest number less 2^K0, and no greater; but that is told only if all bits of the code are there.
func TestReadTellsNumbersThatAreTooGreat(t *testing.T) {
	for k0 := range maxK + 1 {
		for k1 := range maxK + 1 {
			d := api.Dual{K0: k0, Sum0: power(k0 + 4), K1: k1, Sum1: power(k1 + 5)}
			greatest := uint64(math.MaxUint32) - power(k0)
			for _, front := range []list{nil, some(77, 2, 1)} {
				for _, rest := range []uint64{greatest - 1, greatest} {
					c := together(list{true}, riceCode(rest, k1))
					v := uint32(rest + power(k0))
					reads(t, together(front, c).bits(), len(front), d, v, len(front)+len(c), stateBehind(d, v), api.OK)
				}
				for _, rest := range []uint64{greatest + 1, greatest + 2, math.MaxUint32 - 1, math.MaxUint32} {
					if rest > math.MaxUint32 || rest <= greatest {
						continue
					}
					c := together(list{true}, riceCode(rest, k1))
					readFails(t, together(front, c).bits(), len(front), d, api.ErrForm)
					readFails(t, together(front, c, ones(40)).bits(), len(front), d, api.ErrForm)
					readFails(t, together(front, c[:len(c)-1]).bits(), len(front), d, api.ErrShort)
				}
			}
		}
	}
}

// Errors of the Rice code of what is left are those of its own layer.
func TestReadTellsTheFormOfWhatIsLeft(t *testing.T) {
	for k0 := range maxK + 1 {
		for k1 := range maxK + 1 {
			d := api.Dual{K0: k0, Sum0: 5, K1: k1, Sum1: 7}
			for _, v := range []uint32{0, 1, 47, 47 << k1, 48<<k1 - 1} {
				c := together(list{true}, ones(maxRun), lowest(uint64(v), 32))
				if _, _, e := rice.Read(c[1:].bits(), 0, k1); e != api.ErrForm {
					t.Fatal(k1, v, e)
				}
				readFails(t, c.bits(), 0, d, api.ErrForm)
				readFails(t, together(ones(5), c, ones(9)).bits(), 5, d, api.ErrForm)
				readFails(t, c[:len(c)-1].bits(), 0, d, api.ErrShort)
			}
		}
	}
}

// P8.4: learning keeps a state valid, changes a K by at most 1, and the first pair does not depend on the other one.
func TestConsequencesOfLearning(t *testing.T) {
	near := func(a, b int) bool { return a-b >= -1 && a-b <= 1 }
	all := states()
	for i, d := range all {
		other := all[(i*13+5)%len(all)]
		for _, v := range numbers(d) {
			x, _ := Learn(d, v)
			if Check(x) != api.OK || !near(x.K0, d.K0) || !near(x.K1, d.K1) {
				t.Fatal(d, v, x)
			}
			if v < 1<<d.K0 && (x.K1 != d.K1 || x.Sum1 != d.Sum1) {
				t.Fatal(d, v, x)
			}
			y, _ := Learn(api.Dual{K0: d.K0, Sum0: d.Sum0, K1: other.K1, Sum1: other.Sum1}, v)
			if y.K0 != x.K0 || y.Sum0 != x.Sum0 {
				t.Fatal(d, v, x, y)
			}
		}
	}
}

// The greatest numbers do not make a sum too great, however many they are, and zeros make the first K small.
func TestLearningAgainAndAgain(t *testing.T) {
	d := Start()
	for range 2000 {
		d, _ = Learn(d, math.MaxUint32)
		if Check(d) != api.OK {
			t.Fatal(d)
		}
	}
	if d.K0 != maxK || d.K1 != maxK || d.Sum0 < topSum-15 {
		t.Error(d)
	}
	second := d
	for range 2000 {
		d, _ = Learn(d, 0)
	}
	// Less than 16 has no part that is taken away.
	if d != (api.Dual{K0: 0, Sum0: 15, K1: second.K1, Sum1: second.Sum1}) {
		t.Error(d)
	}
}

// begins tells whether a list begins another one.
func begins(l, other list) bool { return len(l) <= len(other) && slices.Equal(l, other[:len(l)]) }

func TestNoCodeBeginsAnother(t *testing.T) {
	for i, d := range states() {
		if i%5 > 0 {
			continue
		}
		var codes []list
		for _, v := range numbers(d) {
			b, _, _ := Write(api.Bits{}, d, v)
			codes = append(codes, listOf(b))
		}
		for i, l := range codes {
			for j, m := range codes {
				if begins(l, m) != (i == j) {
					t.Fatal(d, i, j)
				}
			}
		}
	}
}

// What is read has just the code that was read, whatever the bits are; and where there is none, they are too few, or have another form.
func TestThereIsOneCodeForEachNumber(t *testing.T) {
	seen := map[api.Errno]int{}
	for seed := range uint64(30) {
		l := together(some(500, 1+int(seed*seed), seed), wild(seed))
		for _, d := range fewStates() {
			for at := int(seed) % 7; at <= len(l); at += 13 {
				v, next, x, e := Read(l.bits(), at, d)
				seen[e]++
				if e == api.OK && (!slices.Equal(code(d, v), l[at:next]) || x != stateBehind(d, v)) {
					t.Fatal(seed, d, at, v, next, x)
				}
				if e == api.ErrShort && at+maxCode <= len(l) {
					t.Fatal(seed, d, at)
				}
				if e == api.ErrForm && !begins(ones(maxRun+1), l[at:]) {
					t.Fatal(seed, d, at)
				}
			}
		}
	}
	if len(seen) != 3 || seen[api.OK] == 0 || seen[api.ErrShort] == 0 || seen[api.ErrForm] == 0 {
		t.Error(seen)
	}
}

func TestLengthsOfCodes(t *testing.T) {
	longest := 0
	for _, d := range states() {
		for _, v := range numbers(d) {
			length, e := Length(d, v)
			b, _, _ := Write(api.Bits{}, d, v)
			if e != api.OK || length != b.N || length > maxCode {
				t.Fatal(d, v, length, b.N, e)
			}
			longest = max(longest, length)
		}
	}
	if longest != maxCode {
		t.Error(longest)
	}
}

// Codes behind each other are read as the numbers, and both sides learn the same.
func TestCodesBehindEachOther(t *testing.T) {
	for seed := range uint64(30) {
		front := some(int(seed), 2, seed)
		start := fewStates()[int(seed)%len(fewStates())]
		b, d, l := front.bits(), start, chance(300, seed)
		var learnt []api.Dual
		want := front
		for i := range l {
			l[i] >>= (i / 5) % 33
			want = together(want, code(d, l[i]))
			plain := stateBehind(d, l[i])
			var e api.Errno
			if b, d, e = Write(b, d, l[i]); e != api.OK || d != plain {
				t.Fatal(seed, i, d, e)
			}
			learnt = append(learnt, d)
		}
		if !same(b, want.bits()) {
			t.Fatal(seed, b.N, len(want))
		}
		at, d := len(front), start
		for i, want := range l {
			length, _ := Length(d, want)
			reads(t, b, at, d, want, at+length, learnt[i], api.OK)
			at, d = at+length, learnt[i]
		}
		if at != b.N {
			t.Fatal(seed, at, b.N)
		}
	}
}

// R2: arguments stay as they are, behind the length of a slice, too.
func TestArgumentsAreOnlyRead(t *testing.T) {
	for n := range 100 {
		l := some(n, 5, 3).bits()
		whole := append(bytes.Clone(l.Bytes), bytes.Repeat([]byte{171}, 40)...)
		before := bytes.Clone(whole)
		b := api.Bits{Bytes: whole[:len(l.Bytes)], N: n}
		for _, d := range append(fewStates(), badStates()[:5]...) {
			for at := range n + 2 {
				Read(b, at, d)
			}
			for _, v := range []uint32{0, 5, 1 << 20, math.MaxUint32} {
				Write(b, d, v)
			}
		}
		if !bytes.Equal(whole, before) {
			t.Fatal(n, whole)
		}
	}
}

// scribble changes all memory that bits have.
func scribble(b api.Bits) {
	all := b.Bytes[:cap(b.Bytes)]
	for i := range all {
		all[i] ^= 255
	}
}

// R2: what is done with one result changes neither arguments nor other results, and nothing is kept.
func TestResultsShareNoMemory(t *testing.T) {
	for n := range 40 {
		want, a := some(n, 2, 9).bits(), some(n, 2, 9).bits()
		for _, d := range fewStates() {
			for _, v := range []uint32{0, 5, 1 << 20, math.MaxUint32} {
				first, _, _ := Write(a, d, v)
				second, _, _ := Write(a, d, v)
				whole := together(some(n, 2, 9), code(d, v)).bits()
				scribble(first)
				third, x, e := Write(a, d, v)
				if !same(a, want) || !same(second, whole) || !same(third, whole) || x != stateBehind(d, v) || e != api.OK {
					t.Fatal(n, d, v, a, second, third)
				}
			}
		}
	}
}

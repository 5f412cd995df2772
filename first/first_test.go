package first

import (
	"math"
	"slices"
	"testing"

	"cadenza/api"
)

const maxSamples = 4000

// shiftOf returns the shift for some bits as the document defines it.
func shiftOf(bits int) int { return map[int]int{8: 4, 16: 5, 24: 5}[bits] }

func allBits() []int { return []int{8, 16, 24} }

// otherBits returns numbers of bits that there are not.
func otherBits() []int {
	l := []int{math.MinInt, math.MinInt + 1, -1 << 32, 1<<32 + 8, 1<<32 + 16, 1 << 62, math.MaxInt}
	for bits := -300; bits <= 300; bits++ {
		if !slices.Contains(allBits(), bits) {
			l = append(l, bits)
		}
	}
	return l
}

// power returns 2^n.
func power(n int) int64 {
	p := int64(1)
	for range n {
		p *= 2
	}
	return p
}

// down returns a number divided by another one that is greater than 0, and rounded down.
func down(x, by int64) int64 {
	q := x / by
	if q*by > x {
		q--
	}
	return q
}

// modulo returns the int32 that is a number modulo 2^32.
func modulo(x int64) int32 {
	x -= down(x, power(32)) * power(32)
	if x >= power(31) {
		x -= power(32)
	}
	return int32(x)
}

// wantGuess returns the guess behind a number as the document defines it.
func wantGuess(bits int, last int32) int64 {
	p := power(shiftOf(bits))
	return down((p-1)*int64(last), p)
}

// wantForward returns what the shift leaves of a list as the document defines it.
func wantForward(bits int, l []int32) []int32 {
	var left []int32
	for i, x := range l {
		before := int32(0)
		if i > 0 {
			before = l[i-1]
		}
		left = append(left, modulo(int64(x)-wantGuess(bits, before)))
	}
	return left
}

// wantBack returns the list from what is left as the document defines it.
func wantBack(bits int, left []int32) []int32 {
	var l []int32
	for i, y := range left {
		before := int32(0)
		if i > 0 {
			before = l[i-1]
		}
		l = append(l, modulo(int64(y)+wantGuess(bits, before)))
	}
	return l
}

// chance returns n numbers that look like chance, but are the same for the same seed.
func chance(n int, seed uint64) []int32 {
	l := make([]int32, n)
	x := seed
	for i := range l {
		x = x*6364136223846793005 + 1442695040888963407
		l[i] = int32(x >> 32)
	}
	return l
}

// sized returns n numbers that look like chance, of some bits.
func sized(n, bits int, seed uint64) []int32 {
	l := chance(n, seed)
	for i := range l {
		l[i] >>= 32 - bits
	}
	return l
}

// mixed returns n numbers whose sizes rise and fall.
func mixed(n int, seed uint64) []int32 {
	l := chance(n, seed)
	for i := range l {
		l[i] >>= (uint64(i)/(seed%7+1) + seed) % 32
	}
	return l
}

func of(n int, x int32) []int32 { return slices.Repeat([]int32{x}, n) }

// numbers returns all numbers of few bits, those around each power of two, and some that look like chance.
func numbers() []int32 {
	l := chance(20000, 3)
	for x := int32(-1 << 13); x <= 1<<13; x++ {
		l = append(l, x)
	}
	for i := 13; i <= 31; i++ {
		for near := int64(-40); near <= 40; near++ {
			for _, sign := range []int64{-1, 1} {
				if x := sign * (power(i) + near); x >= math.MinInt32 && x <= math.MaxInt32 {
					l = append(l, int32(x))
				}
			}
		}
	}
	return l
}

// short returns lists of some numbers.
func short() [][]int32 {
	all := [][]int32{
		nil, {}, {100, 100, 50}, {-100, -100, 50}, {0, 0, 0}, {1, -1, 1, -1}, {math.MinInt32}, {math.MaxInt32},
		{math.MinInt32, math.MaxInt32, math.MinInt32}, {math.MaxInt32, math.MinInt32, math.MaxInt32},
		{math.MinInt32, math.MinInt32, 0, math.MaxInt32, math.MaxInt32, 0, math.MinInt32, 1, math.MaxInt32, -1},
	}
	for n := range 40 {
		all = append(all, chance(n, uint64(n)), mixed(n, uint64(n)), sized(n, n%32+1, uint64(n)))
	}
	return all
}

// lists returns short lists and long ones, some of them of as many numbers as are allowed.
func lists() [][]int32 {
	return append(short(),
		chance(maxSamples, 1), mixed(maxSamples, 2), mixed(maxSamples-1, 3), sized(maxSamples, 8, 4), sized(1000, 16, 5), sized(1001, 24, 6),
		of(maxSamples, 0), of(maxSamples, math.MinInt32), of(maxSamples, math.MaxInt32))
}

// forward returns what Forward returns, which must be no error.
func forward(t *testing.T, bits int, l []int32) []int32 {
	t.Helper()
	left, e := Forward(bits, l)
	if e != api.OK || len(left) != len(l) {
		t.Fatal(bits, len(l), len(left), e)
	}
	return left
}

// back returns what Back returns, which must be no error.
func back(t *testing.T, bits int, left []int32) []int32 {
	t.Helper()
	l, e := Back(bits, left)
	if e != api.OK || len(l) != len(left) {
		t.Fatal(bits, len(left), len(l), e)
	}
	return l
}

func TestExamples(t *testing.T) {
	for last, want := range map[int32]int32{100: 96, -100: -97, 1: 0} {
		if x, e := Guess(16, last); e != api.OK || x != want {
			t.Error(last, x, want, e)
		}
	}
	if left := forward(t, 16, []int32{100, 100, 50}); !slices.Equal(left, []int32{100, 4, -46}) {
		t.Error(left)
	}
	if l := back(t, 16, []int32{100, 4, -46}); !slices.Equal(l, []int32{100, 100, 50}) {
		t.Error(l)
	}
}

func TestShift(t *testing.T) {
	for bits, want := range map[int]int{8: 4, 16: 5, 24: 5} {
		if s, e := Shift(bits); e != api.OK || s != want {
			t.Error(bits, s, e)
		}
	}
}

func TestGuess(t *testing.T) {
	for _, bits := range allBits() {
		for _, last := range numbers() {
			if x, e := Guess(bits, last); e != api.OK || int64(x) != wantGuess(bits, last) {
				t.Fatal(bits, last, x, e)
			}
		}
	}
}

// Guesses written out: of the least and the greatest number, and of those around 0 and around multiples of 2^s, of which the negative ones are rounded down, too.
func TestGuessesWrittenOut(t *testing.T) {
	for _, c := range []struct {
		bits       int
		last, want int32
	}{
		{8, 0, 0}, {8, 1, 0}, {8, 2, 1}, {8, 15, 14}, {8, 16, 15}, {8, 17, 15}, {8, 127, 119},
		{8, -1, -1}, {8, -2, -2}, {8, -15, -15}, {8, -16, -15}, {8, -17, -16}, {8, -128, -120},
		{8, math.MaxInt32, 2013265919}, {8, math.MinInt32, -2013265920},
		{16, 0, 0}, {16, 1, 0}, {16, 31, 30}, {16, 32, 31}, {16, 33, 31}, {16, 32767, 31743},
		{16, -1, -1}, {16, -31, -31}, {16, -32, -31}, {16, -33, -32}, {16, -32768, -31744},
		{16, math.MaxInt32, 2080374783}, {16, math.MinInt32, -2080374784},
		{24, 8388607, 8126463}, {24, -8388608, -8126464}, {24, 33, 31}, {24, -33, -32},
		{24, math.MaxInt32, 2080374783}, {24, math.MinInt32, -2080374784},
	} {
		if x, e := Guess(c.bits, c.last); e != api.OK || x != c.want {
			t.Error(c, x, e)
		}
	}
}

func TestForward(t *testing.T) {
	for _, bits := range allBits() {
		for _, l := range lists() {
			if left := forward(t, bits, l); !slices.Equal(left, wantForward(bits, l)) {
				t.Fatal(bits, len(l), left)
			}
		}
	}
}

func TestBack(t *testing.T) {
	for _, bits := range allBits() {
		for _, left := range lists() {
			if l := back(t, bits, left); !slices.Equal(l, wantBack(bits, left)) {
				t.Fatal(bits, len(left), l)
			}
		}
	}
}

// Differences and sums that do not fit an int32 are taken modulo 2^32.
func TestModulo(t *testing.T) {
	l, left := []int32{math.MinInt32, math.MaxInt32, math.MinInt32}, []int32{math.MinInt32, -67108865, 67108865}
	if x := forward(t, 16, l); !slices.Equal(x, left) {
		t.Error(x)
	}
	if x := back(t, 16, left); !slices.Equal(x, l) {
		t.Error(x)
	}
	l, left = []int32{math.MaxInt32, math.MinInt32}, []int32{math.MaxInt32, 134217729}
	if x := forward(t, 8, l); !slices.Equal(x, left) {
		t.Error(x)
	}
	if x := back(t, 8, left); !slices.Equal(x, l) {
		t.Error(x)
	}
}

func TestNoNumbers(t *testing.T) {
	for _, bits := range allBits() {
		for _, l := range [][]int32{nil, {}, make([]int32, 0, maxSamples+1)} {
			forward(t, bits, l)
			back(t, bits, l)
		}
	}
}

// fails checks that Forward and Back return an error, and nothing else.
func fails(t *testing.T, bits int, l []int32, err api.Errno) {
	t.Helper()
	if left, e := Forward(bits, l); e != err || len(left) != 0 {
		t.Fatal(bits, len(l), len(left), e, err)
	}
	if list, e := Back(bits, l); e != err || len(list) != 0 {
		t.Fatal(bits, len(l), len(list), e, err)
	}
}

func TestOtherBits(t *testing.T) {
	for _, bits := range otherBits() {
		if s, e := Shift(bits); e != api.ErrArg || s != 0 {
			t.Error(bits, s, e)
		}
		for _, last := range []int32{0, 1, -1, 100, math.MinInt32, math.MaxInt32} {
			if x, e := Guess(bits, last); e != api.ErrArg || x != 0 {
				t.Error(bits, last, x, e)
			}
		}
		// R1: bits that there are not are told first, also of a list that is too long.
		for _, l := range [][]int32{nil, {}, {100, 100, 50}, of(maxSamples, 7), of(maxSamples+1, 7)} {
			fails(t, bits, l, api.ErrArg)
		}
	}
}

func TestTooManyNumbers(t *testing.T) {
	for _, bits := range allBits() {
		for _, n := range []int{maxSamples + 1, maxSamples + 2, 2 * maxSamples, 1 << 20} {
			for _, x := range []int32{0, 5, math.MinInt32, math.MaxInt32} {
				fails(t, bits, of(n, x), api.ErrMany)
			}
		}
	}
}

// Only how many numbers there are counts, not how many would have room.
func TestRoomIsNotCounted(t *testing.T) {
	l := append(make([]int32, 0, 2*maxSamples), 100, 100, 50)
	if left := forward(t, 24, l); !slices.Equal(left, []int32{100, 4, -46}) {
		t.Error(left)
	}
	l = append(make([]int32, 0, 2*maxSamples), 100, 4, -46)
	if list := back(t, 24, l); !slices.Equal(list, []int32{100, 100, 50}) {
		t.Error(list)
	}
}

// P13.3: undone it gives the samples, and the other way about.
func TestUndone(t *testing.T) {
	for _, bits := range allBits() {
		for _, l := range lists() {
			if again := back(t, bits, forward(t, bits, l)); !slices.Equal(again, l) {
				t.Fatal(bits, len(l), again)
			}
			if again := forward(t, bits, back(t, bits, l)); !slices.Equal(again, l) {
				t.Fatal(bits, len(l), again)
			}
		}
	}
}

// P13.3: what is left of the first numbers are the first ones of what is left.
func TestFirstNumbers(t *testing.T) {
	for _, bits := range allBits() {
		for _, l := range lists() {
			left, list := forward(t, bits, l), back(t, bits, l)
			for n := 0; n <= len(l); n += 1 + len(l)/50 {
				if some := forward(t, bits, l[:n]); !slices.Equal(some, left[:n]) {
					t.Fatal(bits, len(l), n, some)
				}
				if some := back(t, bits, l[:n]); !slices.Equal(some, list[:n]) {
					t.Fatal(bits, len(l), n, some)
				}
			}
		}
	}
}

// away returns a number that is not less than 0, divided by another one, and rounded away from 0.
func away(x, by int64) int64 {
	q := x / by
	if q*by < x {
		q++
	}
	return q
}

// P13.3: a guess lies between 0 and the number, and not far from it.
func TestGuessesAreNear(t *testing.T) {
	for _, bits := range allBits() {
		p := power(shiftOf(bits))
		for _, last := range numbers() {
			x, e := Guess(bits, last)
			if e != api.OK || x < min(0, last) || x > max(0, last) {
				t.Fatal(bits, last, x, e)
			}
			distance, size := max(int64(x)-int64(last), int64(last)-int64(x)), max(int64(last), -int64(last))
			if distance > away(size, p) {
				t.Fatal(bits, last, x, distance)
			}
		}
	}
}

// P13.3: of a number that stands again and again as little is left each time.
func TestOfTheSameNumberTheSameIsLeft(t *testing.T) {
	for _, bits := range allBits() {
		p := power(shiftOf(bits))
		for _, x := range []int32{0, 1, -1, 15, 16, 17, -15, -16, -17, 31, 32, 33, -31, -32, -33, 100, -100, 32767, -32768, math.MaxInt32, math.MinInt32} {
			left := forward(t, bits, of(50, x))
			if left[0] != x {
				t.Fatal(bits, x, left[0])
			}
			size := max(int64(x), -int64(x))
			for i, y := range left[1:] {
				if y != left[1] || max(int64(y), -int64(y)) > away(size, p) {
					t.Fatal(bits, x, i, y)
				}
			}
		}
	}
}

// Results depend on the number of bits only through the shift.
func TestSameShiftSameResults(t *testing.T) {
	for _, l := range lists() {
		if !slices.Equal(forward(t, 16, l), forward(t, 24, l)) || !slices.Equal(back(t, 16, l), back(t, 24, l)) {
			t.Fatal(len(l))
		}
	}
}

// Forward and Back use just the guesses that Guess returns.
func TestGuessesAreUsed(t *testing.T) {
	for _, bits := range allBits() {
		for _, l := range short() {
			left, list := forward(t, bits, l), back(t, bits, l)
			last, lastBack := int32(0), int32(0)
			for i, x := range l {
				g, _ := Guess(bits, last)
				h, _ := Guess(bits, lastBack)
				if left[i] != x-g || list[i] != x+h {
					t.Fatal(bits, i, x, left[i], list[i])
				}
				last, lastBack = x, list[i]
			}
		}
	}
}

// R2: arguments stay as they are, behind the length of a slice, too.
func TestArgumentsAreOnlyRead(t *testing.T) {
	for _, bits := range append(allBits(), 0, 32) {
		for _, l := range append(lists(), of(maxSamples+1, 9)) {
			whole := slices.Concat(l, of(40, 171))
			before := slices.Clone(whole)
			Forward(bits, whole[:len(l)])
			Back(bits, whole[:len(l)])
			if !slices.Equal(whole, before) {
				t.Fatal(bits, len(l))
			}
		}
	}
}

// R2: what is done with one result changes neither arguments nor other results, and nothing is kept.
func TestResultsShareNoMemory(t *testing.T) {
	for _, f := range []func(int, []int32) ([]int32, api.Errno){Forward, Back} {
		for _, l := range lists() {
			given := slices.Clone(l)
			first, _ := f(16, given)
			second, _ := f(16, given)
			want := slices.Clone(second)
			all := first[:cap(first)]
			for i := range all {
				all[i] = ^all[i]
			}
			f(8, mixed(100, 9))
			f(16, of(maxSamples+1, 9))
			third, e := f(16, given)
			if e != api.OK || !slices.Equal(given, l) || !slices.Equal(second, want) || !slices.Equal(third, want) {
				t.Fatal(len(l), e)
			}
		}
	}
}

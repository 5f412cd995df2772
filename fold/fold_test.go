package fold

import (
	"math"
	"slices"
	"testing"

	"cadenza/api"
)

const maxList = 4000

// signed returns numbers of all sizes: all with few bits, those around each power of two, and some that look like chance.
func signed() []int32 {
	var l []int32
	for x := int32(-1 << 15); x <= 1<<15; x++ {
		l = append(l, x)
	}
	for i := 15; i <= 31; i++ {
		for near := -20; near <= 20; near++ {
			for _, sign := range []int{-1, 1} {
				if x := sign * (1<<i + near); x >= math.MinInt32 && x <= math.MaxInt32 {
					l = append(l, int32(x))
				}
			}
		}
	}
	for _, n := range some(50000, 3) {
		l = append(l, int32(n))
	}
	return l
}

// some returns n numbers that look like chance, but are the same for the same seed.
func some(n int, seed uint32) []uint32 {
	l := make([]uint32, n)
	x := uint64(seed)
	for i := range l {
		x = x*6364136223846793005 + 1442695040888963407
		l[i] = uint32(x >> 32)
	}
	return l
}

// numbers returns numbers to be unfolded: all with few bits, those around each power of two, and some that look like chance.
func numbers() []uint32 {
	var l []uint32
	for n := range uint32(1 << 16) {
		l = append(l, n)
	}
	for i := 16; i <= 32; i++ {
		for near := -20; near <= 20; near++ {
			if n := 1<<i + near; n <= math.MaxUint32 {
				l = append(l, uint32(n))
			}
		}
	}
	return append(l, some(50000, 4)...)
}

// wantFold folds as the document defines it, with room for all that comes up.
func wantFold(x int64) int64 {
	if x >= 0 {
		return 2 * x
	}
	return -2*x - 1
}

// wantBack unfolds as the document defines it, with room for all that comes up.
func wantBack(n int64) int64 {
	if n%2 == 0 {
		return n / 2
	}
	return -(n + 1) / 2
}

// size is the absolute value.
func size(x int32) int64 { return max(int64(x), -int64(x)) }

func TestExamples(t *testing.T) {
	for _, c := range []struct {
		x int32
		n uint32
	}{
		{0, 0},
		{-1, 1},
		{1, 2},
		{-2, 3},
		{2, 4},
		{2147483647, 4294967294},
		{-2147483648, 4294967295},
	} {
		if n := Fold(c.x); n != c.n {
			t.Error(c.x, n)
		}
		if x := Back(c.n); x != c.x {
			t.Error(c.n, x)
		}
	}
}

func TestFold(t *testing.T) {
	for _, x := range signed() {
		if n := Fold(x); int64(n) != wantFold(int64(x)) {
			t.Fatal(x, n)
		}
	}
}

func TestBack(t *testing.T) {
	for _, n := range numbers() {
		if x := Back(n); int64(x) != wantBack(int64(n)) {
			t.Fatal(n, x)
		}
	}
}

// lists returns a list of each length up to some, and of those up to the limit.
func lists() [][]uint32 {
	l := [][]uint32{nil, {}, make([]uint32, maxList), slices.Repeat([]uint32{math.MaxUint32}, maxList)}
	for n := range 70 {
		l = append(l, some(n, uint32(n)))
	}
	return append(l, some(1000, 5), some(maxList-1, 6), some(maxList, 7))
}

// asSigned returns numbers with the same bits.
func asSigned(l []uint32) []int32 {
	var s []int32
	for _, n := range l {
		s = append(s, int32(n))
	}
	return s
}

func TestAll(t *testing.T) {
	for _, l := range lists() {
		s := asSigned(l)
		folded, e := All(s)
		if e != api.OK || len(folded) != len(s) {
			t.Fatal(len(s), len(folded), e)
		}
		for i, n := range folded {
			if int64(n) != wantFold(int64(s[i])) {
				t.Fatal(len(s), i, s[i], n)
			}
		}
	}
	if l, e := All([]int32{0, -1, 1, -2, 2, -2147483648}); e != api.OK || !slices.Equal(l, []uint32{0, 1, 2, 3, 4, 4294967295}) {
		t.Error(l, e)
	}
}

func TestUndo(t *testing.T) {
	for _, l := range lists() {
		s, e := Undo(l)
		if e != api.OK || len(s) != len(l) {
			t.Fatal(len(l), len(s), e)
		}
		for i, x := range s {
			if int64(x) != wantBack(int64(l[i])) {
				t.Fatal(len(l), i, l[i], x)
			}
		}
	}
	if s, e := Undo([]uint32{0, 1, 2, 3, 4, 4294967295}); e != api.OK || !slices.Equal(s, []int32{0, -1, 1, -2, 2, -2147483648}) {
		t.Error(s, e)
	}
}

func TestTooMany(t *testing.T) {
	for _, n := range []int{maxList + 1, maxList + 2, 2 * maxList, 1 << 20} {
		if l, e := All(make([]int32, n)); e != api.ErrMany || len(l) != 0 {
			t.Error(n, len(l), e)
		}
		if s, e := Undo(make([]uint32, n)); e != api.ErrMany || len(s) != 0 {
			t.Error(n, len(s), e)
		}
	}
}

// Only how many numbers there are counts, not how many would have room.
func TestRoomIsNotCounted(t *testing.T) {
	if l, e := All(append(make([]int32, 0, 2*maxList), -3, 3)); e != api.OK || !slices.Equal(l, []uint32{5, 6}) {
		t.Error(l, e)
	}
	if s, e := Undo(append(make([]uint32, 0, 2*maxList), 5, 6)); e != api.OK || !slices.Equal(s, []int32{-3, 3}) {
		t.Error(s, e)
	}
}

func TestFoldedAndUnfoldedIsTheSame(t *testing.T) {
	for _, x := range signed() {
		if y := Back(Fold(x)); y != x {
			t.Fatal(x, y)
		}
	}
	for _, n := range numbers() {
		if m := Fold(Back(n)); m != n {
			t.Fatal(n, m)
		}
	}
	for _, l := range lists() {
		s, _ := Undo(l)
		if again, e := All(s); e != api.OK || !slices.Equal(again, l) {
			t.Fatal(len(l), e)
		}
		s = asSigned(l)
		folded, _ := All(s)
		if again, e := Undo(folded); e != api.OK || !slices.Equal(again, s) {
			t.Fatal(len(s), e)
		}
	}
}

// bySize orders numbers by their sizes, the negative one of two of the same size first.
func bySize(x, y int32) int {
	if size(x) != size(y) {
		return int(size(x) - size(y))
	}
	return int(int64(x) - int64(y))
}

func TestLessSizeIsFoldedToLess(t *testing.T) {
	l := signed()
	slices.SortFunc(l, bySize)
	l = slices.Compact(l)
	for i, x := range l[1:] {
		if Fold(l[i]) >= Fold(x) {
			t.Fatal(l[i], x)
		}
	}
}

// Numbers from -2^(k - 1) to 2^(k - 1) - 1 are just those that are folded to less than 2^k.
func TestBitsStayBits(t *testing.T) {
	l := signed()
	for k := 1; k <= 32; k++ {
		half := int64(1) << (k - 1)
		for _, x := range l {
			within := int64(x) >= -half && int64(x) <= half-1
			if less := int64(Fold(x)) < 2*half; less != within {
				t.Fatal(k, x, less)
			}
		}
		for _, x := range []int64{-half, half - 1} {
			if n := int64(Fold(int32(x))); n >= 2*half {
				t.Error(k, x, n)
			}
		}
	}
}

// R2: arguments stay as they are, behind the length of a slice, too.
func TestArgumentsAreOnlyRead(t *testing.T) {
	l := some(100, 2)
	whole, before := asSigned(l), asSigned(l)
	wholeFolded, beforeFolded := slices.Clone(l), slices.Clone(l)
	for n := range len(whole) + 1 {
		All(whole[:n])
		Undo(wholeFolded[:n])
	}
	if !slices.Equal(whole, before) || !slices.Equal(wholeFolded, beforeFolded) {
		t.Error(whole, wholeFolded)
	}
}

// changeAll changes all memory that a slice has.
func changeAll[N int32 | uint32](l []N) {
	all := l[:cap(l)]
	for i := range all {
		all[i] = ^all[i]
	}
}

// R2: what is done with one result changes neither arguments nor other results, and nothing is kept.
func TestResultsShareNoMemory(t *testing.T) {
	for _, n := range []int{0, 1, 9, maxList} {
		l := some(n, 8)
		s := asSigned(l)
		first, _ := All(s)
		second, _ := All(s)
		folded := slices.Clone(second)
		changeAll(first)
		third, _ := All(s)
		if !slices.Equal(s, asSigned(l)) || !slices.Equal(second, folded) || !slices.Equal(third, folded) {
			t.Error(n, s, second, third)
		}
		firstBack, _ := Undo(l)
		secondBack, _ := Undo(l)
		unfolded := slices.Clone(secondBack)
		changeAll(firstBack)
		thirdBack, _ := Undo(l)
		if !slices.Equal(l, some(n, 8)) || !slices.Equal(secondBack, unfolded) || !slices.Equal(thirdBack, unfolded) {
			t.Error(n, l, secondBack, thirdBack)
		}
	}
}

package tests

import (
	"math"
	"math/bits"
	"testing"

	"loop.example/g00350/impl"
)

// wordOf is the document's rule for small words, written apart from the
// program: 2 n and 1, modulo 65536.
func wordOf(n int) int {
	return ((2*n+1)%65536 + 65536) % 65536
}

// edgeSmalls are numbers at and about the bounds, 0, and where sums and
// products begin to go beyond the bounds.
func edgeSmalls() []int {
	return []int{
		impl.MinSmall, impl.MinSmall + 1, impl.MinSmall + 2, -8193, -8192, -8191,
		-5462, -5461, -129, -128, -127, -3, -2, -1, 0, 1, 2, 3, 127, 128, 129,
		5461, 5462, 8191, 8192, 8193, impl.MaxSmall - 2, impl.MaxSmall - 1, impl.MaxSmall,
	}
}

// noWords are numbers that are no words at all.
func noWords() []int {
	return []int{
		math.MinInt, math.MinInt + 1, -1 << 32, -65537, -65536, -65535, -32768, -3, -2, -1,
		65536, 65537, 65538, 131071, 131072, 1 << 32, 1<<32 + 1, math.MaxInt - 1, math.MaxInt,
	}
}

// addrWords are words of the kind of an address.
func addrWords() []int {
	return []int{0, 2, 14, 32766, 32768, 32770, 65532, 65534}
}

type taggedSum struct {
	name   string
	words  func(a int, b int) (int, bool, bool)
	number func(a int, b int) int
}

func taggedSums() []taggedSum {
	return []taggedSum{
		{"AddTagged", impl.AddTagged, func(a int, b int) int { return a + b }},
		{"SubTagged", impl.SubTagged, func(a int, b int) int { return a - b }},
		{"MulTagged", impl.MulTagged, func(a int, b int) int { return a * b }},
	}
}

func TestTagBounds(t *testing.T) {
	if impl.WordMask != 65535 || impl.MinSmall != -16384 || impl.MaxSmall != 16383 {
		t.Error(impl.WordMask, impl.MinSmall, impl.MaxSmall)
	}
}

func TestTagSmallKnown(t *testing.T) {
	known := []struct{ n, w int }{
		{0, 1}, {1, 3}, {5, 11}, {-1, 65535}, {-3, 65531}, {16383, 32767}, {-16384, 32769},
	}
	for _, k := range known {
		if w, ok := impl.TagSmall(k.n); w != k.w || !ok {
			t.Errorf("TagSmall(%d) = %d %v, not %d true", k.n, w, ok, k.w)
		}
		if n, ok := impl.UntagSmall(k.w); n != k.n || !ok {
			t.Errorf("UntagSmall(%d) = %d %v, not %d true", k.w, n, ok, k.n)
		}
	}
}

func TestTagSmallComesBack(t *testing.T) {
	for n := impl.MinSmall; n <= impl.MaxSmall; n++ {
		w, ok := impl.TagSmall(n)
		if w != wordOf(n) || !ok {
			t.Fatalf("TagSmall(%d) = %d %v, not %d true", n, w, ok, wordOf(n))
		}
		if back, ok := impl.UntagSmall(w); back != n || !ok {
			t.Fatalf("UntagSmall(%d) = %d %v, not %d true", w, back, ok, n)
		}
		if !impl.IsSmall(w) {
			t.Fatalf("IsSmall(%d) is false", w)
		}
	}
}

func TestTagAddrComesBack(t *testing.T) {
	for a := 0; a <= 32767; a++ {
		w, ok := impl.TagAddr(a)
		if w != 2*a || !ok {
			t.Fatalf("TagAddr(%d) = %d %v, not %d true", a, w, ok, 2*a)
		}
		if back, ok := impl.UntagAddr(w); back != a || !ok {
			t.Fatalf("UntagAddr(%d) = %d %v, not %d true", w, back, ok, a)
		}
		if impl.IsSmall(w) {
			t.Fatalf("IsSmall(%d) is true", w)
		}
	}
}

func TestEachWordHasOneKind(t *testing.T) {
	for w := 0; w <= impl.WordMask; w++ {
		n, small := impl.UntagSmall(w)
		a, addr := impl.UntagAddr(w)
		odd := w%2 == 1
		if small != odd || addr == odd || impl.IsSmall(w) != odd {
			t.Fatalf("word %d: small %v, address %v, IsSmall %v", w, small, addr, impl.IsSmall(w))
		}
		if odd && a != 0 || !odd && n != 0 {
			t.Fatalf("word %d: number %d, address %d", w, n, a)
		}
	}
}

func checkSum(t *testing.T, s taggedSum, a int, b int) {
	number := s.number(a, b)
	wantFits := number >= -16384 && number <= 16383
	want := 0
	if wantFits {
		want = wordOf(number)
	}
	w, fits, ok := s.words(wordOf(a), wordOf(b))
	if w != want || fits != wantFits || !ok {
		t.Fatalf("%s of %d and %d = %d %v %v, not %d %v true", s.name, a, b, w, fits, ok, want, wantFits)
	}
}

func checkLess(t *testing.T, a int, b int) {
	if less, ok := impl.LessTagged(wordOf(a), wordOf(b)); less != (a < b) || !ok {
		t.Fatalf("LessTagged of %d and %d = %v %v", a, b, less, ok)
	}
}

func TestSumsOfAllWithEdges(t *testing.T) {
	sums := taggedSums()
	for _, edge := range edgeSmalls() {
		for n := impl.MinSmall; n <= impl.MaxSmall; n++ {
			for _, s := range sums {
				checkSum(t, s, n, edge)
				checkSum(t, s, edge, n)
			}
			checkLess(t, n, edge)
			checkLess(t, edge, n)
		}
	}
}

func TestSumsOfManyPairs(t *testing.T) {
	sums := taggedSums()
	for a := impl.MinSmall; a <= impl.MaxSmall; a += 61 {
		for b := impl.MinSmall; b <= impl.MaxSmall; b += 67 {
			for _, s := range sums {
				checkSum(t, s, a, b)
			}
			checkLess(t, a, b)
		}
	}
}

func TestSumsAtTheBounds(t *testing.T) {
	known := []struct {
		sum, a, b, w int
		fits         bool
	}{
		{0, 16382, 1, 32767, true}, {0, 16383, 1, 0, false}, {0, 16383, 16383, 0, false},
		{0, -16383, -1, 32769, true}, {0, -16384, -1, 0, false}, {0, -16384, -16384, 0, false},
		{0, -16384, 16383, 65535, true}, {0, 16383, -16383, 1, true},
		{1, 16382, -1, 32767, true}, {1, 16383, -1, 0, false}, {1, -16383, 1, 32769, true},
		{1, -16384, 1, 0, false}, {1, 0, -16384, 0, false}, {1, -1, -16384, 32767, true},
		{1, -16384, -16384, 1, true}, {1, 16383, -16384, 0, false},
		{2, 127, 129, 32767, true}, {2, 128, 128, 0, false}, {2, 128, -128, 32769, true},
		{2, -16384, -1, 0, false}, {2, -16383, -1, 32767, true}, {2, 5462, -3, 0, false},
		{2, 5461, 3, 32767, true}, {2, -16384, -16384, 0, false}, {2, 0, -16384, 1, true},
	}
	sums := taggedSums()
	for _, k := range known {
		s := sums[k.sum]
		w, fits, ok := s.words(wordOf(k.a), wordOf(k.b))
		if w != k.w || fits != k.fits || !ok {
			t.Errorf("%s of %d and %d = %d %v %v, not %d %v true", s.name, k.a, k.b, w, fits, ok, k.w, k.fits)
		}
	}
}

func TestLessAtTheBounds(t *testing.T) {
	checkLess(t, impl.MinSmall, impl.MaxSmall)
	checkLess(t, impl.MaxSmall, impl.MinSmall)
	checkLess(t, impl.MinSmall, impl.MinSmall)
	checkLess(t, impl.MaxSmall, impl.MaxSmall)
	checkLess(t, -1, 0)
	checkLess(t, 0, -1)
}

func TestBitsOfEachWord(t *testing.T) {
	for w := 0; w <= impl.WordMask; w++ {
		if n, ok := impl.CountOnes(w); n != bits.OnesCount(uint(w)) || !ok {
			t.Fatalf("CountOnes(%d) = %d %v", w, n, ok)
		}
		if w == 0 {
			continue
		}
		if n, ok := impl.LowestOne(w); n != bits.TrailingZeros(uint(w)) || !ok {
			t.Fatalf("LowestOne(%d) = %d %v", w, n, ok)
		}
	}
}

func TestBitsAtTheEdges(t *testing.T) {
	if n, ok := impl.CountOnes(0); n != 0 || !ok {
		t.Error("CountOnes of 0:", n, ok)
	}
	if n, ok := impl.CountOnes(impl.WordMask); n != 16 || !ok {
		t.Error("CountOnes of WordMask:", n, ok)
	}
	if n, ok := impl.LowestOne(0); n != 0 || ok {
		t.Error("LowestOne of 0:", n, ok)
	}
	if n, ok := impl.LowestOne(1); n != 0 || !ok {
		t.Error("LowestOne of 1:", n, ok)
	}
	if n, ok := impl.LowestOne(32768); n != 15 || !ok {
		t.Error("LowestOne of 32768:", n, ok)
	}
	if n, ok := impl.LowestOne(impl.WordMask); n != 0 || !ok {
		t.Error("LowestOne of WordMask:", n, ok)
	}
}

func TestTagRefusesNumbersBeyond(t *testing.T) {
	smalls := append(noWords(), 16384, 16385, 32767, 65535, -16385, -16386)
	for _, n := range smalls {
		if n >= impl.MinSmall && n <= impl.MaxSmall {
			continue
		}
		if w, ok := impl.TagSmall(n); w != 0 || ok {
			t.Errorf("TagSmall(%d) = %d %v", n, w, ok)
		}
	}
	for _, a := range append(noWords(), 32768, 32769, 65535) {
		if w, ok := impl.TagAddr(a); w != 0 || ok {
			t.Errorf("TagAddr(%d) = %d %v", a, w, ok)
		}
	}
}

func TestNoWordsAreRefused(t *testing.T) {
	for _, w := range noWords() {
		if impl.IsSmall(w) {
			t.Errorf("IsSmall(%d) is true", w)
		}
		asked := []struct {
			name string
			of   func(w int) (int, bool)
		}{
			{"UntagSmall", impl.UntagSmall}, {"UntagAddr", impl.UntagAddr},
			{"CountOnes", impl.CountOnes}, {"LowestOne", impl.LowestOne},
		}
		for _, f := range asked {
			if n, ok := f.of(w); n != 0 || ok {
				t.Errorf("%s(%d) = %d %v", f.name, w, n, ok)
			}
		}
	}
}

func TestWrongKindIsRefused(t *testing.T) {
	for _, w := range addrWords() {
		if n, ok := impl.UntagSmall(w); n != 0 || ok || impl.IsSmall(w) {
			t.Errorf("UntagSmall(%d) = %d %v", w, n, ok)
		}
	}
	for _, n := range edgeSmalls() {
		if a, ok := impl.UntagAddr(wordOf(n)); a != 0 || ok {
			t.Errorf("UntagAddr(%d) = %d %v", wordOf(n), a, ok)
		}
	}
}

func checkRefused(t *testing.T, a int, b int) {
	t.Helper()
	for _, s := range taggedSums() {
		if w, fits, ok := s.words(a, b); w != 0 || fits || ok {
			t.Errorf("%s(%d, %d) = %d %v %v", s.name, a, b, w, fits, ok)
		}
	}
	if less, ok := impl.LessTagged(a, b); less || ok {
		t.Errorf("LessTagged(%d, %d) = %v %v", a, b, less, ok)
	}
}

func TestSumsRefuseWhatIsNotSmall(t *testing.T) {
	wrong := append(noWords(), addrWords()...)
	for _, w := range wrong {
		for _, n := range edgeSmalls() {
			checkRefused(t, w, wordOf(n))
			checkRefused(t, wordOf(n), w)
		}
		for _, v := range wrong {
			checkRefused(t, w, v)
		}
	}
}

package tests

import (
	"math"
	"slices"
	"testing"

	"loop.example/g00350/impl"
)

// someDivisors are the bounds, powers of 2 with those beside them, and
// ordinary ones.
func someDivisors() []int {
	divisors := []int{
		3, 5, 6, 7, 9, 10, 11, 12, 13, 25, 60, 100, 125, 365, 641, 1000, 3600,
		10000, 21845, 21846, 32749, 43691, 50000, 65521, 65533, 65534, 65535,
	}
	for k := range 16 {
		divisors = append(divisors, 1<<k, 1<<k+1)
		if k > 1 {
			divisors = append(divisors, 1<<k-1)
		}
	}
	return divisors
}

// oddMagics are good ones that divide by nothing, or not by what they tell.
func oddMagics() []impl.Magic {
	return []impl.Magic{
		{By: 1, Mul: 0, Shift: 0}, {By: 1, Mul: 0, Shift: 32}, {By: 65535, Mul: 0, Shift: 0},
		{By: 1, Mul: 131071, Shift: 0}, {By: 1, Mul: 131071, Shift: 32}, {By: 65535, Mul: 131071, Shift: 0},
		{By: 65535, Mul: 131071, Shift: 32}, {By: 3, Mul: 43690, Shift: 17}, {By: 3, Mul: 21846, Shift: 16},
		{By: 7, Mul: 37450, Shift: 18}, {By: 10, Mul: 6554, Shift: 16}, {By: 2, Mul: 1, Shift: 0},
		{By: 65535, Mul: 65537, Shift: 32}, {By: 65535, Mul: 65539, Shift: 32}, {By: 1, Mul: 65535, Shift: 16},
	}
}

// wrongMagics have at least one field out of its bounds.
func wrongMagics() []impl.Magic {
	wrong := []impl.Magic{
		{}, {By: -1, Mul: -1, Shift: -1},
		{By: math.MinInt, Mul: math.MinInt, Shift: math.MinInt},
		{By: math.MaxInt, Mul: math.MaxInt, Shift: math.MaxInt},
	}
	for _, by := range []int{math.MinInt, math.MinInt + 1, -65536, -65535, -3, -1, 0, 65536, 65537, 1 << 32, math.MaxInt} {
		wrong = append(wrong, impl.Magic{By: by, Mul: 43691, Shift: 17})
	}
	for _, mul := range []int{math.MinInt, math.MinInt + 1, -131071, -1, 131072, 131073, 1<<32 + 43691, math.MaxInt} {
		wrong = append(wrong, impl.Magic{By: 3, Mul: mul, Shift: 17})
	}
	for _, shift := range []int{math.MinInt, math.MinInt + 1, -17, -1, 33, 34, 64, 65, 1<<32 + 17, math.MaxInt} {
		wrong = append(wrong, impl.Magic{By: 3, Mul: 43691, Shift: shift})
	}
	return wrong
}

// excessAt is how far a power of 2 lies below the next multiple of by, told
// apart from the program by what is left.
func excessAt(by int, shift int) int {
	return (by - (1<<shift)%by) % by
}

func TestMagicForKnown(t *testing.T) {
	known := []impl.Magic{
		{By: 1, Mul: 65536, Shift: 16}, {By: 2, Mul: 32768, Shift: 16}, {By: 3, Mul: 43691, Shift: 17},
		{By: 4, Mul: 16384, Shift: 16}, {By: 5, Mul: 52429, Shift: 18}, {By: 7, Mul: 74899, Shift: 19},
		{By: 10, Mul: 52429, Shift: 19}, {By: 32768, Mul: 2, Shift: 16}, {By: 65535, Mul: 32769, Shift: 31},
		{By: 255, Mul: 32897, Shift: 23}, {By: 641, Mul: 104695, Shift: 26},
	}
	for _, k := range known {
		if m, ok := impl.MagicFor(k.By); m != k || !ok {
			t.Errorf("MagicFor(%d) = %v %v, not %v true", k.By, m, ok, k)
		}
	}
}

func TestMagicForHasTheLeastShift(t *testing.T) {
	for by := 1; by <= 65535; by++ {
		m, ok := impl.MagicFor(by)
		if !ok || m.By != by || m.Shift < 16 || !impl.GoodMagic(m) {
			t.Fatalf("MagicFor(%d) = %v %v", by, m, ok)
		}
		if m.Mul*by-1<<m.Shift != excessAt(by, m.Shift) {
			t.Fatalf("MagicFor(%d) = %v: Mul is not the power divided, up", by, m)
		}
		if excessAt(by, m.Shift) > 1<<(m.Shift-16) {
			t.Fatalf("MagicFor(%d) = %v: the excess is beyond its bound", by, m)
		}
		for l := 16; l < m.Shift; l++ {
			if excessAt(by, l) <= 1<<(l-16) {
				t.Fatalf("MagicFor(%d) = %v: the shift %d is enough", by, m, l)
			}
		}
	}
}

// The quotient by a magic never falls where n rises: it is right for all n
// where it is right on both sides of each multiple, and at the ends.
func TestMagicForDividesRightly(t *testing.T) {
	for by := 1; by <= 65535; by++ {
		m, _ := impl.MagicFor(by)
		for n := 0; n <= 65535; n += by {
			checkDivided(t, m, n)
			if n > 0 {
				checkDivided(t, m, n-1)
			}
		}
		checkDivided(t, m, 65535)
	}
}

func checkDivided(t *testing.T, m impl.Magic, n int) {
	t.Helper()
	if q, ok := impl.DivBy(m, n); q != n/m.By || !ok {
		t.Fatalf("DivBy(%v, %d) = %d %v, not %d true", m, n, q, ok, n/m.By)
	}
	if r, ok := impl.ModBy(m, n); r != n%m.By || !ok {
		t.Fatalf("ModBy(%v, %d) = %d %v, not %d true", m, n, r, ok, n%m.By)
	}
}

func TestDivisionOfAllNumbers(t *testing.T) {
	for _, by := range someDivisors() {
		m, _ := impl.MagicFor(by)
		for n := 0; n <= 65535; n++ {
			checkDivided(t, m, n)
		}
		if right, ok := impl.IsRight(m); !right || !ok {
			t.Errorf("IsRight(%v) = %v %v", m, right, ok)
		}
	}
}

func TestDivSignedOnBothSides(t *testing.T) {
	for _, by := range someDivisors() {
		m, _ := impl.MagicFor(by)
		for n := -32768; n <= 32767; n++ {
			if q, ok := impl.DivSigned(m, n); q != n/by || !ok {
				t.Fatalf("DivSigned(%v, %d) = %d %v, not %d true", m, n, q, ok, n/by)
			}
		}
	}
}

func TestDivSignedKnown(t *testing.T) {
	known := []struct {
		by, n, q int
	}{
		{1, -32768, -32768}, {1, 32767, 32767}, {1, -1, -1}, {3, -7, -2}, {3, -2, 0}, {3, -3, -1},
		{3, 0, 0}, {7, 32767, 4681}, {7, -32768, -4681}, {32768, -32768, -1}, {32768, 32767, 0},
		{65535, -32768, 0}, {65535, 32767, 0},
	}
	for _, k := range known {
		m, _ := impl.MagicFor(k.by)
		if q, ok := impl.DivSigned(m, k.n); q != k.q || !ok {
			t.Errorf("DivSigned by %d of %d = %d %v, not %d true", k.by, k.n, q, ok, k.q)
		}
	}
}

// What a magic answers hangs on its fields alone, right or not.
func TestOddMagicsMultiplyAndShift(t *testing.T) {
	for _, m := range oddMagics() {
		if !impl.GoodMagic(m) {
			t.Errorf("GoodMagic(%v) is false", m)
		}
		for _, n := range []int{0, 1, 2, 3, 5, 7, 12345, 32767, 32768, 43690, 65533, 65534, 65535} {
			q := n * m.Mul / (1 << m.Shift)
			if got, ok := impl.DivBy(m, n); got != q || !ok {
				t.Errorf("DivBy(%v, %d) = %d %v, not %d true", m, n, got, ok, q)
			}
			if got, ok := impl.ModBy(m, n); got != n-m.By*q || !ok {
				t.Errorf("ModBy(%v, %d) = %d %v, not %d true", m, n, got, ok, n-m.By*q)
			}
			if n > 32768 {
				continue
			}
			if got, ok := impl.DivSigned(m, -n); got != -q || !ok {
				t.Errorf("DivSigned(%v, %d) = %d %v, not %d true", m, -n, got, ok, -q)
			}
		}
	}
}

func TestOddMagicsKnown(t *testing.T) {
	widest := impl.Magic{By: 65535, Mul: 131071, Shift: 0}
	if q, ok := impl.DivBy(widest, 65535); q != 8589737985 || !ok {
		t.Error("DivBy:", q, ok)
	}
	if r, ok := impl.ModBy(widest, 65535); r != -562928478781440 || !ok {
		t.Error("ModBy:", r, ok)
	}
	if q, ok := impl.DivSigned(widest, -32768); q != -4294934528 || !ok {
		t.Error("DivSigned:", q, ok)
	}
	if q, ok := impl.DivBy(impl.Magic{By: 1, Mul: 131071, Shift: 32}, 65535); q != 1 || !ok {
		t.Error("DivBy by the greatest shift:", q, ok)
	}
}

func isRightByAll(m impl.Magic) bool {
	for n := 0; n <= 65535; n++ {
		if n*m.Mul/(1<<m.Shift) != n/m.By {
			return false
		}
	}
	return true
}

func checkRight(t *testing.T, m impl.Magic) {
	t.Helper()
	if right, ok := impl.IsRight(m); right != isRightByAll(m) || !ok {
		t.Errorf("IsRight(%v) = %v %v, not %v true", m, right, ok, isRightByAll(m))
	}
}

func TestIsRightKnown(t *testing.T) {
	known := []struct {
		m     impl.Magic
		right bool
	}{
		{impl.Magic{By: 1, Mul: 1, Shift: 0}, true},
		{impl.Magic{By: 1, Mul: 65536, Shift: 16}, true},
		{impl.Magic{By: 1, Mul: 2, Shift: 0}, false},
		{impl.Magic{By: 1, Mul: 0, Shift: 0}, false},
		{impl.Magic{By: 3, Mul: 43691, Shift: 17}, true},
		{impl.Magic{By: 3, Mul: 43690, Shift: 17}, false},
		{impl.Magic{By: 3, Mul: 43692, Shift: 17}, false},
		{impl.Magic{By: 3, Mul: 87382, Shift: 18}, true},
		{impl.Magic{By: 65535, Mul: 65538, Shift: 32}, true},
		// These two fail at the last number, and at the last but one, alone.
		{impl.Magic{By: 65535, Mul: 65537, Shift: 32}, false},
		{impl.Magic{By: 65535, Mul: 65539, Shift: 32}, false},
	}
	for _, k := range known {
		if right, ok := impl.IsRight(k.m); right != k.right || !ok {
			t.Errorf("IsRight(%v) = %v %v, not %v true", k.m, right, ok, k.right)
		}
	}
}

func TestIsRightOfMany(t *testing.T) {
	for _, m := range oddMagics() {
		checkRight(t, m)
	}
	for _, by := range someDivisors() {
		for shift := 0; shift <= 32; shift++ {
			for mul := (1 << shift) / by; mul <= (1<<shift)/by+2; mul++ {
				if mul <= 131071 {
					checkRight(t, impl.Magic{By: by, Mul: mul, Shift: shift})
				}
			}
		}
	}
}

func TestGoodMagicAtTheBounds(t *testing.T) {
	for _, by := range []int{1, 2, 65534, 65535} {
		for _, mul := range []int{0, 1, 131070, 131071} {
			for _, shift := range []int{0, 1, 31, 32} {
				if m := (impl.Magic{By: by, Mul: mul, Shift: shift}); !impl.GoodMagic(m) {
					t.Errorf("GoodMagic(%v) is false", m)
				}
			}
		}
	}
}

func TestMagicForRefusesOthers(t *testing.T) {
	for _, by := range append(noWords(), 0) {
		if m, ok := impl.MagicFor(by); m != (impl.Magic{}) || ok {
			t.Errorf("MagicFor(%d) = %v %v", by, m, ok)
		}
	}
}

func checkDivisionRefused(t *testing.T, m impl.Magic, n int) {
	t.Helper()
	if q, ok := impl.DivBy(m, n); q != 0 || ok {
		t.Errorf("DivBy(%v, %d) = %d %v", m, n, q, ok)
	}
	if r, ok := impl.ModBy(m, n); r != 0 || ok {
		t.Errorf("ModBy(%v, %d) = %d %v", m, n, r, ok)
	}
}

func TestWrongMagicsAreRefused(t *testing.T) {
	for _, m := range wrongMagics() {
		if impl.GoodMagic(m) {
			t.Errorf("GoodMagic(%v) is true", m)
		}
		if right, ok := impl.IsRight(m); right || ok {
			t.Errorf("IsRight(%v) = %v %v", m, right, ok)
		}
		for _, n := range append(noWords(), 0, 1, 7, 32767, 65535) {
			checkDivisionRefused(t, m, n)
		}
		for _, n := range append(noWords(), 0, 1, -1, 7, 32767, -32768) {
			if q, ok := impl.DivSigned(m, n); q != 0 || ok {
				t.Errorf("DivSigned(%v, %d) = %d %v", m, n, q, ok)
			}
		}
	}
}

func TestDivisionRefusesNumbersBeyond(t *testing.T) {
	signed := []int{
		math.MinInt, math.MinInt + 1, -1 << 32, -65536, -65535, -32770, -32769,
		32768, 32769, 65535, 65536, 1 << 32, math.MaxInt - 1, math.MaxInt,
	}
	for _, by := range someDivisors() {
		m, _ := impl.MagicFor(by)
		for _, n := range noWords() {
			checkDivisionRefused(t, m, n)
		}
		for _, n := range signed {
			if q, ok := impl.DivSigned(m, n); q != 0 || ok {
				t.Errorf("DivSigned(%v, %d) = %d %v", m, n, q, ok)
			}
		}
	}
}

func TestPlanMulKnown(t *testing.T) {
	known := []struct {
		by   int
		plan []int
	}{
		{0, nil}, {1, []int{1}}, {2, []int{2}}, {3, []int{-1, 3}}, {4, []int{3}}, {5, []int{1, 3}},
		{6, []int{-2, 4}}, {7, []int{-1, 4}}, {10, []int{2, 4}}, {11, []int{-1, -3, 5}},
		{13, []int{1, -3, 5}}, {100, []int{3, -6, 8}}, {21845, []int{1, 3, 5, 7, 9, 11, 13, 15}},
		{32768, []int{16}}, {43690, []int{2, 4, 6, 8, 10, 12, 14, 16}},
		{43691, []int{-1, -3, -5, -7, -9, -11, -13, -15, 17}}, {65535, []int{-1, 17}},
	}
	for _, k := range known {
		if plan, ok := impl.PlanMul(k.by); !slices.Equal(plan, k.plan) || !ok {
			t.Errorf("PlanMul(%d) = %v %v, not %v true", k.by, plan, ok, k.plan)
		}
	}
}

// planSum tells what a row comes to, and whether its places rise with a 0
// between each two: there is but one such row for a number.
func planSum(plan []int) (int, bool) {
	sum, last := 0, -1
	for _, p := range plan {
		place, digit := p, 1
		if p < 0 {
			place, digit = -p, -1
		}
		if place < last+2 || place > 20 {
			return 0, false
		}
		sum += digit * int(math.Pow(2, float64(place-1)))
		last = place
	}
	return sum, true
}

func TestPlanMulIsTheRow(t *testing.T) {
	for by := 0; by <= 65535; by++ {
		plan, ok := impl.PlanMul(by)
		sum, apart := planSum(plan)
		if !ok || sum != by || !apart {
			t.Fatalf("PlanMul(%d) = %v %v: it comes to %d, apart %v", by, plan, ok, sum, apart)
		}
	}
}

func TestDoPlanMultiplies(t *testing.T) {
	numbers := []int{-65535, -65534, -32768, -1000, -6, -1, 0, 1, 2, 3, 7, 255, 256, 12345, 32767, 65534, 65535}
	for by := 0; by <= 65535; by++ {
		plan, _ := impl.PlanMul(by)
		for _, n := range numbers {
			if product, ok := impl.DoPlan(plan, n); product != n*by || !ok {
				t.Fatalf("DoPlan(%v, %d) = %d %v, not %d true", plan, n, product, ok, n*by)
			}
		}
	}
}

// twenty is the longest row that DoPlan takes.
func twenty(place int) []int {
	return slices.Repeat([]int{place}, 20)
}

func TestDoPlanKnown(t *testing.T) {
	known := []struct {
		plan []int
		n    int
		sum  int
	}{
		{nil, 65535, 0}, {[]int{}, -65535, 0}, {[]int{1}, 65535, 65535}, {[]int{-1}, 65535, -65535},
		{[]int{1}, -65535, -65535}, {[]int{-1}, -65535, 65535}, {[]int{20}, 1, 524288},
		{[]int{-20}, 1, -524288}, {[]int{20}, -65535, -34359214080}, {[]int{-20}, 65535, -34359214080},
		{[]int{20}, 0, 0}, {[]int{3, 3}, 5, 40}, {[]int{4, -1}, -6, -42}, {[]int{2, 1, -2}, 9, 9},
		{twenty(20), 65535, 687184281600}, {twenty(-20), 65535, -687184281600},
		{twenty(20), -65535, -687184281600}, {twenty(1), 3, 60}, {twenty(-1), 3, -60},
		{[]int{1, 2, 3, 4, 5, 6, 7, 8, 9, 10, 11, 12, 13, 14, 15, 16, 17, 18, 19, 20}, 1, 1048575},
		{[]int{-1, -2, -3, -4, -5, -6, -7, -8, -9, -10, -11, -12, -13, -14, -15, -16, -17, -18, -19, -20}, 2, -2097150},
	}
	for _, k := range known {
		if sum, ok := impl.DoPlan(k.plan, k.n); sum != k.sum || !ok {
			t.Errorf("DoPlan(%v, %d) = %d %v, not %d true", k.plan, k.n, sum, ok, k.sum)
		}
	}
}

func TestPlanMulRefusesNumbersBeyond(t *testing.T) {
	for _, by := range noWords() {
		if plan, ok := impl.PlanMul(by); len(plan) != 0 || ok {
			t.Errorf("PlanMul(%d) = %v %v", by, plan, ok)
		}
	}
}

func TestDoPlanRefuses(t *testing.T) {
	check := func(plan []int, n int) {
		if sum, ok := impl.DoPlan(plan, n); sum != 0 || ok {
			t.Errorf("DoPlan(%v, %d) = %d %v", plan, n, sum, ok)
		}
	}
	for _, n := range []int{math.MinInt, math.MinInt + 1, -1 << 32, -65537, -65536, 65536, 65537, 1 << 32, math.MaxInt} {
		check(nil, n)
		check([]int{1}, n)
		check([]int{-1, 4}, n)
		check([]int{0}, n)
	}
	for _, p := range []int{0, -21, 21, -22, 22, -64, 64, 1 << 32, math.MinInt, math.MinInt + 1, math.MaxInt} {
		for _, n := range []int{-65535, 0, 1, 65535} {
			check([]int{p}, n)
			check([]int{1, p}, n)
			check([]int{p, 1}, n)
			check([]int{1, p, 3}, n)
		}
	}
	check(append(twenty(1), 1), 1)
	check(append(twenty(20), -20), 65535)
	check(append(twenty(1), 0), 0)
	check(slices.Repeat([]int{2}, 1000), 0)
}

// What lies behind the row would be refused if it were looked at.
func TestDoPlanLeavesTheRow(t *testing.T) {
	memory := append([]int{-1, 4, -7, 9}, slices.Repeat([]int{99}, 30)...)
	before := slices.Clone(memory)
	if sum, ok := impl.DoPlan(memory[:4], 5); sum != 5*(256-64+8-1) || !ok {
		t.Error("DoPlan:", sum, ok)
	}
	if sum, ok := impl.DoPlan(memory[:0], 5); sum != 0 || !ok {
		t.Error("DoPlan of none:", sum, ok)
	}
	impl.DoPlan(memory, 5)
	impl.DoPlan(memory[:5], 5)
	impl.DoPlan(memory[:4], 65536)
	if !slices.Equal(memory, before) {
		t.Error("DoPlan wrote into the row:", memory)
	}
}

func TestPlanMulIsNewMemory(t *testing.T) {
	for _, by := range []int{1, 7, 21845, 43691, 65535} {
		first, _ := impl.PlanMul(by)
		want := slices.Clone(first)
		second, _ := impl.PlanMul(by)
		spoil(first)
		if !slices.Equal(second, want) {
			t.Errorf("PlanMul(%d) shares memory with the call ahead of it", by)
		}
		if third, _ := impl.PlanMul(by); !slices.Equal(third, want) {
			t.Errorf("PlanMul(%d) keeps what it handed out", by)
		}
	}
}

// spoil writes into all that a row reaches, what lies behind it too.
func spoil(row []int) {
	row = row[:cap(row)]
	for i := range row {
		row[i] = -77
	}
}

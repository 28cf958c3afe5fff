package tests

import (
	"math"
	"slices"
	"strconv"
	"strings"
	"testing"

	"loop.example/g00350/impl"
)

func emptyRange() impl.Range { return impl.Range{Empty: true} }

func allWords() impl.Range { return impl.Range{Hi: 65535} }

func justWord(n int) impl.Range { return impl.Range{Lo: n, Hi: n} }

func fromTo(lo int, hi int) impl.Range { return impl.Range{Lo: lo, Hi: hi} }

func sameRange(r impl.Range) []impl.Range {
	return slices.Repeat([]impl.Range{r}, impl.MaxVars)
}

// rangeAs reads a range: e for Empty, * for all words, a word for just it, two
// with .. between.
func rangeAs(t *testing.T, text string) impl.Range {
	t.Helper()
	switch text {
	case "e":
		return emptyRange()
	case "*":
		return allWords()
	}
	low, high, found := strings.Cut(text, "..")
	if !found {
		high = low
	}
	lo, errLo := strconv.Atoi(low)
	hi, errHi := strconv.Atoi(high)
	if errLo != nil || errHi != nil {
		t.Fatal("no range:", text)
	}
	return fromTo(lo, hi)
}

// rangesAs reads the ranges of the names a to d; all others have all words.
func rangesAs(t *testing.T, text string) []impl.Range {
	t.Helper()
	ranges := sameRange(allWords())
	for name, part := range strings.Fields(text) {
		ranges[name] = rangeAs(t, part)
	}
	return ranges
}

func rangeText(r impl.Range) string {
	switch {
	case r == emptyRange():
		return "e"
	case r == allWords():
		return "*"
	case r == justWord(r.Lo):
		return strconv.Itoa(r.Lo)
	}
	return strconv.Itoa(r.Lo) + ".." + strconv.Itoa(r.Hi)
}

// rangesText tells the ranges of the names a to d of each block.
func rangesText(ranges [][]impl.Range) string {
	var blocks []string
	for _, names := range ranges {
		var texts []string
		for _, r := range names[:4] {
			texts = append(texts, rangeText(r))
		}
		blocks = append(blocks, strings.Join(texts, " "))
	}
	return strings.Join(blocks, "|")
}

func edgeWords() []int {
	return []int{0, 1, 2, 3, 4, 254, 255, 256, 257, 32767, 32768, 65532, 65533, 65534, 65535}
}

// edgeRanges are Empty, and all from an edge to an edge.
func edgeRanges() []impl.Range {
	ranges := []impl.Range{emptyRange()}
	for _, lo := range edgeWords() {
		for _, hi := range edgeWords() {
			if lo <= hi {
				ranges = append(ranges, fromTo(lo, hi))
			}
		}
	}
	return ranges
}

func wrongRanges() []impl.Range {
	wrong := []impl.Range{
		{Empty: true, Lo: 1}, {Empty: true, Hi: 1}, {Empty: true, Lo: 1, Hi: 1}, {Empty: true, Lo: 3, Hi: 5},
		{Empty: true, Hi: 65535}, {Empty: true, Lo: 65535}, {Empty: true, Lo: 65535, Hi: 65535},
		{Lo: 1}, {Lo: 65535}, {Lo: 6, Hi: 5}, {Lo: 65535, Hi: 65534}, {Lo: 65535, Hi: 1},
	}
	for _, n := range noWords() {
		wrong = append(wrong,
			impl.Range{Lo: n}, impl.Range{Hi: n}, impl.Range{Lo: n, Hi: n}, impl.Range{Lo: n, Hi: 65535},
			impl.Range{Lo: 65535, Hi: n}, impl.Range{Lo: -n, Hi: n}, impl.Range{Empty: true, Lo: n},
			impl.Range{Empty: true, Hi: n}, impl.Range{Empty: true, Lo: n, Hi: n})
	}
	return wrong
}

func (d *lots) oneRange() impl.Range {
	a, b := d.word(), d.word()
	switch d.below(5) {
	case 0:
		return justWord(a)
	case 1:
		return justWord(d.below(2))
	case 2:
		return allWords()
	case 3:
		return fromTo(d.below(2), 1+d.below(20))
	}
	return fromTo(min(a, b), max(a, b))
}

func (d *lots) ranges() []impl.Range {
	var ranges []impl.Range
	for range impl.MaxVars {
		ranges = append(ranges, d.oneRange())
	}
	return ranges
}

// wordsIn draws words that are in the ranges, often at their ends.
func (d *lots) wordsIn(ranges []impl.Range) []int {
	var words []int
	for _, r := range ranges {
		switch d.below(4) {
		case 0:
			words = append(words, r.Lo)
		case 1:
			words = append(words, r.Hi)
		default:
			words = append(words, r.Lo+d.below(r.Hi-r.Lo+1))
		}
	}
	return words
}

// wordsOf has all words of a short range, and some of a long one, its ends
// among them.
func wordsOf(r impl.Range) []int {
	if r.Empty {
		return nil
	}
	if r.Hi-r.Lo > 4 {
		return []int{r.Lo, r.Lo + 1, (r.Lo + r.Hi) / 2, r.Hi - 1, r.Hi}
	}
	var words []int
	for w := r.Lo; w <= r.Hi; w++ {
		words = append(words, w)
	}
	return words
}

// leastRange has all these numbers, which are words, or, where one is not, all
// words.
func leastRange(numbers []int) impl.Range {
	if len(numbers) == 0 {
		return emptyRange()
	}
	r := fromTo(slices.Min(numbers), slices.Max(numbers))
	if r.Lo < 0 || r.Hi > 65535 {
		return allWords()
	}
	return r
}

func joinRangesApart(a impl.Range, b impl.Range) impl.Range {
	return leastRange(append(wordsOf(a), wordsOf(b)...))
}

func widenApart(a impl.Range, b impl.Range) impl.Range {
	switch {
	case a.Empty:
		return b
	case b.Empty:
		return a
	case b.Lo >= a.Lo && b.Hi <= a.Hi:
		return a
	case b.Lo >= a.Lo:
		return fromTo(a.Lo, 65535)
	case b.Hi <= a.Hi:
		return fromTo(0, a.Hi)
	}
	return allWords()
}

// pairRangeApart reckons with the words themselves, not with the ends alone.
func pairRangeApart(op int, a impl.Range, b impl.Range) impl.Range {
	var made []int
	for _, x := range wordsOf(a) {
		for _, y := range wordsOf(b) {
			switch op {
			case impl.OpAdd:
				made = append(made, x+y)
			case impl.OpSub:
				made = append(made, x-y)
			case impl.OpMul:
				made = append(made, x*y)
			case impl.OpLess:
				made = append(made, pairOf(op, x, y))
			}
		}
	}
	if op != impl.OpEqual || a.Empty || b.Empty {
		return leastRange(made)
	}
	if a.Hi < b.Lo || b.Hi < a.Lo {
		return justWord(0)
	}
	return fromTo(0, 1)
}

func stepRangesApart(l []impl.Instr, ranges []impl.Range) []impl.Range {
	ranges = slices.Clone(ranges)
	for _, i := range l {
		switch i.Op {
		case impl.OpOut:
		case impl.OpConst:
			ranges[i.Dst] = justWord(i.N)
		case impl.OpCopy:
			ranges[i.Dst] = ranges[i.A]
		default:
			ranges[i.Dst] = pairRangeApart(i.Op, ranges[i.A], ranges[i.B])
		}
	}
	return ranges
}

// flowRangesApart goes round by the document's words, apart from the program.
func flowRangesApart(f []impl.Block, first []impl.Range) ([][]impl.Range, int) {
	var ranges [][]impl.Range
	for range f {
		ranges = append(ranges, sameRange(emptyRange()))
	}
	ranges[0] = slices.Clone(first)
	for rounds := 0; ; rounds++ {
		changed := false
		for at, b := range f {
			if ranges[at][0].Empty {
				continue
			}
			behind := stepRangesApart(b.Code, ranges[at])
			lo, hi := behind[b.Test].Lo, behind[b.Test].Hi
			if b.Then >= 0 && hi > 0 {
				changed = comeApart(ranges[b.Then], behind) || changed
			}
			behind[b.Test] = justWord(0)
			if b.Else >= 0 && lo < 1 {
				changed = comeApart(ranges[b.Else], behind) || changed
			}
		}
		if !changed {
			return ranges, rounds
		}
	}
}

func comeApart(there []impl.Range, what []impl.Range) bool {
	before := slices.Clone(there)
	for name, r := range what {
		there[name] = widenApart(there[name], joinRangesApart(there[name], r))
	}
	return !slices.Equal(there, before)
}

func sameRanges(a [][]impl.Range, b [][]impl.Range) bool {
	return slices.EqualFunc(a, b, slices.Equal[[]impl.Range])
}

func checkRanges(t *testing.T, f []impl.Block, first []impl.Range) {
	t.Helper()
	want, wantRounds := flowRangesApart(f, first)
	if ranges, rounds, ok := impl.FlowRanges(f, first); !sameRanges(ranges, want) || rounds != wantRounds || !ok {
		t.Errorf("FlowRanges(%v, %v) = %v %d %v, not %v %d", f, first, ranges, rounds, ok, want, wantRounds)
	}
}

// checkWordsIn goes through a flow and asks the ranges at each block: promise
// 6. It tells how many blocks were gone through.
func checkWordsIn(t *testing.T, f []impl.Block, first []impl.Range, vars []int) int {
	t.Helper()
	ranges, _, okRanges := impl.FlowRanges(f, first)
	path, okPath := impl.PathOf(f, vars, impl.MaxFuel)
	_, _, _, ahead, _ := runFlowApart(f, vars, impl.MaxFuel)
	if !okRanges || !okPath || len(ranges) != len(f) || len(path) != len(ahead) {
		t.Errorf("in %v from %v the ranges are %v %v, the path %v %v", f, vars, ranges, okRanges, path, okPath)
		return 0
	}
	for step, at := range path {
		for name, w := range ahead[step] {
			if has, ok := impl.HasWord(ranges[at][name], w); !has || !ok {
				t.Errorf("in %v from %v, step %d comes to block %d with %v, but the ranges are %v", f, vars, step, at, ahead[step], ranges[at])
				return step
			}
		}
	}
	return len(path)
}

func checkStepRanges(t *testing.T, l []impl.Instr, ranges []impl.Range) {
	t.Helper()
	if behind, ok := impl.StepRanges(l, ranges); !slices.Equal(behind, stepRangesApart(l, ranges)) || !ok {
		t.Errorf("StepRanges(%v, %v) = %v %v, not %v", l, ranges, behind, ok, stepRangesApart(l, ranges))
	}
}

func checkPairRefused(t *testing.T, a impl.Range, b impl.Range) {
	t.Helper()
	functions := []func(impl.Range, impl.Range) (impl.Range, bool){
		impl.JoinRanges, impl.MeetRanges, impl.WidenRange, impl.AddRanges, impl.MulRanges,
	}
	for at, function := range functions {
		if r, ok := function(a, b); r != (impl.Range{}) || ok {
			t.Errorf("function %d of %v and %v = %v %v", at, a, b, r, ok)
		}
	}
}

func checkStepRangesRefused(t *testing.T, l []impl.Instr, ranges []impl.Range) {
	t.Helper()
	if behind, ok := impl.StepRanges(l, ranges); len(behind) != 0 || ok {
		t.Errorf("StepRanges(%v, %v) = %v %v", l, ranges, behind, ok)
	}
}

func checkRangesRefused(t *testing.T, f []impl.Block, first []impl.Range) {
	t.Helper()
	if ranges, rounds, ok := impl.FlowRanges(f, first); len(ranges) != 0 || rounds != 0 || ok {
		t.Errorf("FlowRanges(%v, %v) = %v %d %v", f, first, ranges, rounds, ok)
	}
}

func TestGoodRangeAtTheBounds(t *testing.T) {
	for _, r := range append(edgeRanges(), impl.Range{}, allWords()) {
		if !impl.GoodRange(r) {
			t.Errorf("not GoodRange(%v)", r)
		}
	}
	for _, r := range wrongRanges() {
		if impl.GoodRange(r) {
			t.Errorf("GoodRange(%v)", r)
		}
	}
}

func TestHasWordAtTheBounds(t *testing.T) {
	known := []struct {
		r    impl.Range
		w    int
		want bool
	}{
		{fromTo(3, 5), 2, false}, {fromTo(3, 5), 3, true}, {fromTo(3, 5), 4, true},
		{fromTo(3, 5), 5, true}, {fromTo(3, 5), 6, false},
		{fromTo(3, 5), 0, false}, {fromTo(3, 5), 65535, false},
		{justWord(7), 6, false}, {justWord(7), 7, true}, {justWord(7), 8, false},
		{justWord(0), 0, true}, {justWord(0), 1, false}, {justWord(0), 65535, false},
		{justWord(65535), 65535, true}, {justWord(65535), 65534, false}, {justWord(65535), 0, false},
		{allWords(), 0, true}, {allWords(), 32768, true}, {allWords(), 65535, true},
		{emptyRange(), 0, false}, {emptyRange(), 1, false}, {emptyRange(), 65535, false},
	}
	for _, k := range known {
		if has, ok := impl.HasWord(k.r, k.w); has != k.want || !ok {
			t.Errorf("HasWord(%v, %d) = %v %v", k.r, k.w, has, ok)
		}
	}
	for _, r := range []impl.Range{emptyRange(), allWords(), fromTo(1, 65534), fromTo(300, 40000)} {
		for w := range 65536 {
			want := !r.Empty && w >= r.Lo && w <= r.Hi
			if has, ok := impl.HasWord(r, w); has != want || !ok {
				t.Fatalf("HasWord(%v, %d) = %v %v", r, w, has, ok)
			}
		}
	}
}

func TestJoinMeetAndWidenKnown(t *testing.T) {
	known := []struct{ a, b, join, meet, widen string }{
		// One over the other, beside it, apart.
		{"3..9", "5..12", "3..12", "5..9", "3..65535"},
		{"5..12", "3..9", "3..12", "5..9", "0..12"},
		{"3..5", "5..9", "3..9", "5", "3..65535"},
		{"5..9", "3..5", "3..9", "5", "0..9"},
		{"3..5", "6..9", "3..9", "e", "3..65535"},
		{"6..9", "3..5", "3..9", "e", "0..9"},
		{"3..5", "8..9", "3..9", "e", "3..65535"},
		{"8..9", "3..5", "3..9", "e", "0..9"},
		// One in the other, at an end of it, the same.
		{"3..9", "5..7", "3..9", "5..7", "3..9"},
		{"5..7", "3..9", "3..9", "5..7", "*"},
		{"3..9", "3..7", "3..9", "3..7", "3..9"},
		{"3..7", "3..9", "3..9", "3..7", "3..65535"},
		{"3..9", "7..9", "3..9", "7..9", "3..9"},
		{"7..9", "3..9", "3..9", "7..9", "0..9"},
		{"3..9", "3..9", "3..9", "3..9", "3..9"},
		{"4", "4", "4", "4", "4"},
		{"4", "5", "4..5", "e", "4..65535"},
		{"5", "4", "4..5", "e", "0..5"},
		// At the ends of the words.
		{"0", "65535", "*", "e", "*"},
		{"65535", "0", "*", "e", "*"},
		{"0", "1", "0..1", "e", "*"},
		{"65535", "65534", "65534..65535", "e", "*"},
		{"*", "*", "*", "*", "*"},
		{"*", "7", "*", "7", "*"},
		{"7", "*", "*", "7", "*"},
		// Empty ones.
		{"e", "e", "e", "e", "e"},
		{"e", "3..9", "3..9", "e", "3..9"},
		{"3..9", "e", "3..9", "e", "3..9"},
		{"e", "0", "0", "e", "0"},
		{"0", "e", "0", "e", "0"},
		{"e", "7", "7", "e", "7"},
		{"e", "*", "*", "e", "*"},
		{"*", "e", "*", "e", "*"},
	}
	for _, k := range known {
		a, b := rangeAs(t, k.a), rangeAs(t, k.b)
		if r, ok := impl.JoinRanges(a, b); rangeText(r) != k.join || !ok {
			t.Errorf("JoinRanges(%s, %s) = %v %v, not %s", k.a, k.b, r, ok, k.join)
		}
		if r, ok := impl.MeetRanges(a, b); rangeText(r) != k.meet || !ok {
			t.Errorf("MeetRanges(%s, %s) = %v %v, not %s", k.a, k.b, r, ok, k.meet)
		}
		if r, ok := impl.WidenRange(a, b); rangeText(r) != k.widen || !ok {
			t.Errorf("WidenRange(%s, %s) = %v %v, not %s", k.a, k.b, r, ok, k.widen)
		}
	}
}

// checkMeet asks at the ends, and beside them: what is in both, is in it.
func checkMeet(t *testing.T, a impl.Range, b impl.Range) {
	t.Helper()
	r, ok := impl.MeetRanges(a, b)
	if !ok || !impl.GoodRange(r) {
		t.Errorf("MeetRanges(%v, %v) = %v %v", a, b, r, ok)
		return
	}
	for _, edge := range []int{a.Lo, a.Hi, b.Lo, b.Hi, r.Lo, r.Hi} {
		for w := max(edge-1, 0); w <= min(edge+1, 65535); w++ {
			inA, _ := impl.HasWord(a, w)
			inB, _ := impl.HasWord(b, w)
			if in, _ := impl.HasWord(r, w); in != (inA && inB) {
				t.Errorf("MeetRanges(%v, %v) = %v: %d is in it %v, in the two %v %v", a, b, r, w, in, inA, inB)
			}
		}
	}
}

func TestRangesOfAllEdges(t *testing.T) {
	for _, a := range edgeRanges() {
		for _, b := range edgeRanges() {
			if r, ok := impl.JoinRanges(a, b); r != joinRangesApart(a, b) || !ok {
				t.Errorf("JoinRanges(%v, %v) = %v %v", a, b, r, ok)
			}
			if r, ok := impl.WidenRange(a, b); r != widenApart(a, b) || !ok {
				t.Errorf("WidenRange(%v, %v) = %v %v", a, b, r, ok)
			}
			if r, ok := impl.AddRanges(a, b); r != pairRangeApart(impl.OpAdd, a, b) || !ok {
				t.Errorf("AddRanges(%v, %v) = %v %v", a, b, r, ok)
			}
			if r, ok := impl.MulRanges(a, b); r != pairRangeApart(impl.OpMul, a, b) || !ok {
				t.Errorf("MulRanges(%v, %v) = %v %v", a, b, r, ok)
			}
			checkMeet(t, a, b)
			for op := impl.OpAdd; op <= impl.OpEqual; op++ {
				ranges := sameRange(justWord(9))
				ranges[3], ranges[5] = a, b
				checkStepRanges(t, []impl.Instr{{Op: op, Dst: lastName, A: 3, B: 5}}, ranges)
			}
		}
		if t.Failed() {
			return
		}
	}
}

func TestAddAndMulRangesKnown(t *testing.T) {
	known := []struct{ a, b, sum, product string }{
		{"1..5", "10..20", "11..25", "10..100"},
		{"0", "0", "0", "0"},
		{"0..1", "0..1", "0..2", "0..1"},
		{"3", "4", "7", "12"},
		{"0", "*", "*", "0"},
		{"0", "7..65535", "7..65535", "0"},
		{"1", "7..65535", "*", "7..65535"},
		{"1", "*", "*", "*"},
		{"0..2", "5..6", "5..8", "0..12"},
		// Just WordMask, and one beyond.
		{"1..5", "10..65530", "11..65535", "*"},
		{"1..5", "10..65531", "*", "*"},
		{"65535", "0", "65535", "0"},
		{"65535", "1", "*", "65535"},
		{"65534", "1", "65535", "65534"},
		{"32768", "32767", "65535", "*"},
		{"32768", "32768", "*", "*"},
		{"2..255", "3..257", "5..512", "6..65535"},
		{"2..256", "3..256", "5..512", "*"},
		{"2..255", "3..258", "5..513", "*"},
		{"3", "21845", "21848", "65535"},
		{"2", "32768", "32770", "*"},
		{"0..1", "65535", "*", "*"},
		{"0..1", "1..65535", "*", "*"},
		{"0..1", "5..65534", "5..65535", "0..65534"},
		{"*", "*", "*", "*"},
		{"e", "e", "e", "e"},
		{"e", "3..9", "e", "e"},
		{"e", "0", "e", "e"},
		{"e", "*", "e", "e"},
	}
	for _, k := range known {
		a, b := rangeAs(t, k.a), rangeAs(t, k.b)
		for range 2 {
			if r, ok := impl.AddRanges(a, b); rangeText(r) != k.sum || !ok {
				t.Errorf("AddRanges(%v, %v) = %v %v, not %s", a, b, r, ok, k.sum)
			}
			if r, ok := impl.MulRanges(a, b); rangeText(r) != k.product || !ok {
				t.Errorf("MulRanges(%v, %v) = %v %v, not %s", a, b, r, ok, k.product)
			}
			a, b = b, a
		}
	}
}

func TestStepRangesKnown(t *testing.T) {
	known := []struct{ text, a, b, c string }{
		{"c=0", "*", "*", "0"},
		{"c=65535", "e", "e", "65535"},
		{"c=a", "3..9", "1", "3..9"},
		{"c=a", "e", "1", "e"},
		{"c=5;c=a", "*", "1", "*"},
		{"c=a+b", "1..5", "10..20", "11..25"},
		{"c=a+b", "1..5", "10..65531", "*"},
		{"c=a*b", "1..5", "10..20", "10..100"},
		{"c=a*b", "1..5", "10..20000", "*"},
		// A difference that is just 0, and one below it.
		{"c=a-b", "5..9", "2..5", "0..7"},
		{"c=a-b", "5..9", "2..6", "*"},
		{"c=a-b", "4..9", "2..5", "*"},
		{"c=a-b", "5", "5", "0"},
		{"c=a-b", "5", "6", "*"},
		{"c=a-b", "*", "0", "*"},
		{"c=a-b", "65535", "*", "*"},
		{"c=a-b", "65535", "1..65535", "0..65534"},
		{"c=a-b", "65535", "0", "65535"},
		{"c=a-b", "0", "1", "*"},
		// Words that say it beforehand, or don't.
		{"c=a<b", "3..5", "6..9", "1"},
		{"c=a<b", "3..5", "5..9", "0..1"},
		{"c=a<b", "3..5", "4..9", "0..1"},
		{"c=a<b", "5..9", "3..5", "0"},
		{"c=a<b", "6..9", "3..5", "0"},
		{"c=a<b", "5..9", "3..6", "0..1"},
		{"c=a<b", "4..9", "3..5", "0..1"},
		{"c=a<b", "5", "5", "0"},
		{"c=a<b", "5", "6", "1"},
		{"c=a<b", "0", "*", "0..1"},
		{"c=a<b", "0", "1..65535", "1"},
		{"c=a<b", "*", "0", "0"},
		{"c=a<b", "65535", "*", "0"},
		{"c=a<b", "*", "65535", "0..1"},
		{"c=a<b", "0..65534", "65535", "1"},
		{"c=a<b", "*", "*", "0..1"},
		{"c=a~b", "3..5", "6..9", "0"},
		{"c=a~b", "6..9", "3..5", "0"},
		{"c=a~b", "3..5", "5..9", "0..1"},
		{"c=a~b", "5..9", "3..5", "0..1"},
		{"c=a~b", "3..9", "5..6", "0..1"},
		{"c=a~b", "4", "5", "0"},
		// That two words are the same is told by OpEqual of none beforehand.
		{"c=a~b", "5", "5", "0..1"},
		{"c=a~b", "*", "*", "0..1"},
		// Ranges are of one name each: that two are the same is not in them.
		{"c=a-a", "3..5", "1", "*"},
		{"c=a-a", "5", "1", "0"},
		{"c=a<a", "3..5", "1", "0..1"},
		{"c=a<a", "5", "1", "0"},
		{"c=a~a", "3..5", "1", "0..1"},
		{"c=a+a", "3..5", "1", "6..10"},
		{"c=a*a", "3..5", "1", "9..25"},
		// Empty ones, on either side.
		{"c=a+b", "e", "1", "e"}, {"c=a+b", "1", "e", "e"}, {"c=a+b", "e", "e", "e"},
		{"c=a-b", "e", "1", "e"}, {"c=a-b", "1", "e", "e"}, {"c=a-b", "e", "0", "e"}, {"c=a-b", "0", "e", "e"},
		{"c=a*b", "e", "0", "e"}, {"c=a*b", "0", "e", "e"},
		{"c=a<b", "e", "1", "e"}, {"c=a<b", "1", "e", "e"}, {"c=a<b", "e", "e", "e"},
		{"c=a~b", "e", "1", "e"}, {"c=a~b", "1", "e", "e"}, {"c=a~b", "e", "0", "e"},
		{"c=b", "e", "1", "1"},
		// Step by step.
		{"c=a;c=c+c;c=c*b", "3..5", "10", "60..100"},
		{"c=a;!c", "3..5", "1", "3..5"},
		{"c=a;a=b", "3..5", "1", "3..5"},
		{"c=a+b;c=7", "e", "1", "7"},
	}
	for _, k := range known {
		ranges := sameRange(fromTo(70, 77))
		ranges[0], ranges[1] = rangeAs(t, k.a), rangeAs(t, k.b)
		behind, ok := impl.StepRanges(readAs(t, k.text), ranges)
		if len(behind) != impl.MaxVars || !ok {
			t.Errorf("StepRanges(%q, %v) = %v %v", k.text, ranges, behind, ok)
		} else if rangeText(behind[2]) != k.c || behind[lastName] != fromTo(70, 77) {
			t.Errorf("StepRanges(%q, %v) = %v %v: c is to have %s", k.text, ranges, behind, ok, k.c)
		}
		checkStepRanges(t, readAs(t, k.text), ranges)
	}
}

func TestStepRangesOfNoStepAndOfMaxCode(t *testing.T) {
	for _, l := range [][]impl.Instr{nil, {}} {
		for _, r := range []impl.Range{emptyRange(), allWords(), justWord(0), fromTo(3, 5)} {
			if behind, ok := impl.StepRanges(l, sameRange(r)); !slices.Equal(behind, sameRange(r)) || !ok {
				t.Error("StepRanges of no step:", behind, ok)
			}
		}
	}
	chain := slices.Repeat(readAs(t, "h=h+a"), impl.MaxCode)
	ranges := rangesAs(t, "1..2 7 7 7")
	for _, k := range []struct{ first, behind string }{{"5", "35..65"}, {"60000..65475", "60030..65535"}, {"60000..65476", "*"}} {
		ranges[lastName] = rangeAs(t, k.first)
		if behind, ok := impl.StepRanges(chain, ranges); !ok || rangeText(behind[lastName]) != k.behind {
			t.Errorf("StepRanges of MaxCode steps from %s = %v %v, not %s", k.first, behind, ok, k.behind)
		}
		checkStepRanges(t, chain, ranges)
	}
	for _, i := range oneOfEach() {
		for _, r := range []impl.Range{emptyRange(), allWords(), justWord(0), justWord(65535), fromTo(3, 5)} {
			ranges := sameRange(fromTo(1, 4))
			ranges[i.A] = r
			checkStepRanges(t, []impl.Instr{i}, ranges)
			ranges[i.A], ranges[i.B] = fromTo(4, 6), r
			checkStepRanges(t, []impl.Instr{i}, ranges)
		}
	}
}

// What StepRanges tells of the words behind code is so behind each run of it.
func TestStepRangesHoldBehindRuns(t *testing.T) {
	d := &lots{state: 6}
	for round := range 3000 {
		l := d.closeCode(round % (impl.MaxCode + 1))
		if round%3 == 0 {
			l = d.code(round % (impl.MaxCode + 1))
		}
		ranges := d.ranges()
		checkStepRanges(t, l, ranges)
		behind, _ := impl.StepRanges(l, ranges)
		for range 3 {
			_, words, _ := impl.RunCode(l, d.wordsIn(ranges))
			for name, w := range words {
				if has, ok := impl.HasWord(behind[name], w); !has || !ok {
					t.Fatalf("StepRanges(%v, %v) = %v, but a run has %v", l, ranges, behind, words)
				}
			}
		}
		// Code in two parts has the ranges that it has whole.
		cut := d.below(len(l) + 1)
		half, _ := impl.StepRanges(l[:cut], ranges)
		if whole, ok := impl.StepRanges(l[cut:], half); !slices.Equal(whole, behind) || !ok {
			t.Fatalf("StepRanges of %v cut at %d = %v, whole %v", l, cut, whole, behind)
		}
	}
}

type knownRanges struct {
	rows   []string
	first  string
	ranges string
	rounds int
}

func checkKnownRanges(t *testing.T, known []knownRanges) {
	t.Helper()
	d := &lots{state: 66}
	for _, k := range known {
		f, first := flowAs(t, k.rows...), rangesAs(t, k.first)
		ranges, rounds, ok := impl.FlowRanges(f, first)
		if !ok || rangesText(ranges) != k.ranges || rounds != k.rounds {
			t.Errorf("FlowRanges(%q, %s) = %q %d %v, not %q %d", k.rows, k.first, rangesText(ranges), rounds, ok, k.ranges, k.rounds)
		}
		checkRanges(t, f, first)
		for range 10 {
			checkWordsIn(t, f, first, d.wordsIn(first))
		}
	}
}

func TestFlowRangesByTheTest(t *testing.T) {
	fork := []string{". a 1 2", ". a -1 -1", ". a -1 -1"}
	checkKnownRanges(t, []knownRanges{
		{[]string{". a -1 -1"}, "* * * *", "* * * *", 0},
		{[]string{"a=5 a -1 -1"}, "1 2..3 3 *", "1 2..3 3 *", 0},
		{fork, "* 3 * 1", "* 3 * 1|* 3 * 1|0 3 * 1", 1},
		{fork, "0..9 3 * 1", "0..9 3 * 1|0..9 3 * 1|0 3 * 1", 1},
		{fork, "0..1 3 * 1", "0..1 3 * 1|0..1 3 * 1|0 3 * 1", 1},
		// Not to Else where Lo is above 0, not to Then where it is just 0.
		{fork, "1..9 3 * 1", "1..9 3 * 1|1..9 3 * 1|e e e e", 1},
		{fork, "1 3 * 1", "1 3 * 1|1 3 * 1|e e e e", 1},
		{fork, "65535 3 * 1", "65535 3 * 1|65535 3 * 1|e e e e", 1},
		{fork, "1..65535 3 * 1", "1..65535 3 * 1|1..65535 3 * 1|e e e e", 1},
		{fork, "0 3 * 1", "0 3 * 1|e e e e|0 3 * 1", 1},
		// Test is asked behind the Code.
		{[]string{"a=0 a 1 2", ". a -1 -1", ". a -1 -1"}, "1 3 * 1", "1 3 * 1|e e e e|0 3 * 1", 1},
		{[]string{"a=2 a 1 2", ". a -1 -1", ". a -1 -1"}, "0 3 * 1", "0 3 * 1|2 3 * 1|e e e e", 1},
		{[]string{"c=b-b c 1 2", ". a -1 -1", ". a -1 -1"}, "0 3 * 1", "0 3 * 1|e e e e|0 3 0 1", 1},
		{[]string{"c=a<b c 1 2", ". a -1 -1", ". a -1 -1"}, "0..3 3 9 1", "0..3 3 9 1|0..3 3 0..1 1|0..3 3 0 1", 1},
		{[]string{"c=a<b c 1 2", ". a -1 -1", ". a -1 -1"}, "0..2 3 9 1", "0..2 3 9 1|0..2 3 1 1|e e e e", 1},
		// Of Test alone it is told, and at the other way alone.
		{[]string{"b=a a 1 2", ". a -1 -1", ". a -1 -1"}, "0..9 3 * 1", "0..9 3 * 1|0..9 0..9 * 1|0 0..9 * 1", 1},
		// Both ways to one place: what comes by Then has the 0 already.
		{[]string{". a 1 1", ". a -1 -1"}, "0..9 3 * 1", "0..9 3 * 1|0..9 3 * 1", 1},
		{[]string{". a 1 1", ". a -1 -1"}, "4..9 3 * 1", "4..9 3 * 1|4..9 3 * 1", 1},
		{[]string{". a 1 1", ". a -1 -1"}, "0 3 * 1", "0 3 * 1|0 3 * 1", 1},
		// One way leads out.
		{[]string{". a 1 -1", ". a -1 -1"}, "0 3 * 1", "0 3 * 1|e e e e", 0},
		{[]string{". a -1 1", ". a -1 -1"}, "1 3 * 1", "1 3 * 1|e e e e", 0},
		{[]string{". a -1 1", ". a -1 -1"}, "0..4 3 * 1", "0..4 3 * 1|0 3 * 1", 1},
		// Blocks that are not come to.
		{[]string{". a -1 -1", ". a 1 0"}, "0..4 3 * 1", "0..4 3 * 1|e e e e", 0},
	})
}

func TestFlowRangesInRounds(t *testing.T) {
	checkKnownRanges(t, []knownRanges{
		// What comes on two ways is joined, and widened.
		{[]string{". a 1 2", "b=5 a 3 3", "b=5 a 3 3", ". a -1 -1"}, "0..1 * * *",
			"0..1 * * *|0..1 * * *|0 * * *|0..1 5 * *", 1},
		{[]string{". a 1 2", "b=5 a 3 3", "b=7 a 3 3", ". a -1 -1"}, "0..1 * * *",
			"0..1 * * *|0..1 * * *|0 * * *|0..1 5..65535 * *", 1},
		{[]string{". a 1 2", "b=7 a 3 3", "b=5 a 3 3", ". a -1 -1"}, "0..1 * * *",
			"0..1 * * *|0..1 * * *|0 * * *|0..1 0..7 * *", 1},
		// In a round each block has what those ahead of it brought in it.
		{[]string{"a=1 a 1 1", "a=a+a a 2 2", "a=a+a a 3 3", ". a -1 -1"}, "* 2 2 2",
			"* 2 2 2|1 2 2 2|2 2 2 2|4 2 2 2", 1},
		{[]string{"a=1 a 2 2", ". a 3 3", "a=a+a a 1 1", ". a -1 -1"}, "* 2 2 2",
			"* 2 2 2|2 2 2 2|1 2 2 2|2 2 2 2", 2},
		// Round and round, and nothing changes.
		{[]string{". a 0 0"}, "* * * *", "* * * *", 0},
		{[]string{". a 0 0"}, "3..9 * * *", "3..9 * * *", 0},
		{[]string{"a=a*b a 0 -1"}, "1 1 * *", "1 1 * *", 0},
		{[]string{". a 0 0"}, "0..9 1 * *", "0..9 1 * *", 0},
		// What goes on to the block itself does not change what goes elsewhere.
		{[]string{"b=b+c a 0 1", ". a -1 -1"}, "0..3 0..9 1 7", "0..3 * 1 7|0 * 1 7", 2},
		{[]string{"b=b+c a 0 1", ". a -1 -1"}, "0..3 2..9 1 7", "0..3 * 1 7|0 * 1 7", 2},
		// Up to a bound, and down to one.
		{[]string{"a=0 a 1 1", "b=1;a=a+b;c=a<d c 1 2", ". a -1 -1"}, "* * * 10",
			"* * * 10|* * * 10|* 1 0 10", 2},
		{[]string{"b=1 b 1 1", "c=b<a c 2 3", "a=a-b b 1 1", ". a -1 -1"}, "10 * * 5",
			"10 * * 5|* 1 * 5|* 1 0..1 5|* 1 0 5", 3},
		{[]string{"b=1;a=a-b a 0 1", ". a -1 -1"}, "1..5 * * *", "* * * *|0 1 * *", 2},
		// Bounds that hold while others go.
		{[]string{"b=b+c d 0 -1"}, "3..9 2..9 1 1", "3..9 * 1 1", 2},
		{[]string{"b=b+c d 0 -1"}, "3..9 65535 0 1", "3..9 65535 0 1", 0},
		{[]string{"b=b*c d 0 -1"}, "3..9 1 3 1", "3..9 * 3 1", 2},
		{[]string{"a=b d 0 -1"}, "7 5 * 1", "0..7 5 * 1", 1},
		{[]string{"a=b d 0 -1"}, "5 7 * 1", "5..65535 7 * 1", 1},
	})
}

// Blocks in a row against the order of the rounds: one is come to in a round.
func TestFlowRangesOfMaxBlocks(t *testing.T) {
	var back, on []impl.Block
	for at := range impl.MaxBlocks {
		back = append(back, impl.Block{Code: readAs(t, "a=a+b"), Test: 1, Then: at - 1, Else: -1})
		on = append(on, impl.Block{Code: readAs(t, "a=a+b"), Test: 1, Then: at + 1, Else: -1})
	}
	back[0].Then, back[1].Then, on[impl.MaxBlocks-1].Then = impl.MaxBlocks-1, -1, -1
	first := rangesAs(t, "0..65528 1 * *")
	ranges, rounds, ok := impl.FlowRanges(back, first)
	if !ok || rounds != 6 || ranges[7][0] != fromTo(1, 65529) || ranges[1][0] != fromTo(7, 65535) {
		t.Error(ranges, rounds, ok)
	}
	checkRanges(t, back, first)
	ranges, rounds, ok = impl.FlowRanges(on, first)
	if !ok || rounds != 1 || ranges[1][0] != fromTo(1, 65529) || ranges[7][0] != fromTo(7, 65535) {
		t.Error(ranges, rounds, ok)
	}
	checkRanges(t, on, first)
	first[0].Hi++
	ranges, _, ok = impl.FlowRanges(on, first)
	if !ok || ranges[6][0] != fromTo(6, 65535) || ranges[7][0] != allWords() {
		t.Error(ranges, ok)
	}
	checkRanges(t, on, first)
	for _, vars := range [][]int{{0, 1, 0, 0, 0, 0, 0, 0}, {65529, 1, 0, 0, 0, 0, 0, 65535}} {
		if n := checkWordsIn(t, on, first, vars); n != impl.MaxBlocks {
			t.Error("blocks gone through:", n)
		}
	}
}

// Each name takes what the one ahead of it has, so that a bound that goes is
// handed on by one name a round.
func TestFlowRangesOfManyRounds(t *testing.T) {
	f := []impl.Block{{Code: readAs(t, "h=g;g=f;f=e;e=d;d=c;c=b;b=a;a=a+a"), Test: 0, Then: 0, Else: -1}}
	first := sameRange(justWord(1))
	ranges, rounds, ok := impl.FlowRanges(f, first)
	if !ok || rounds < impl.MaxVars || !slices.Equal(ranges[0], sameRange(allWords())) {
		t.Error(ranges, rounds, ok)
	}
	checkRanges(t, f, first)
	checkWordsIn(t, f, first, slices.Repeat([]int{1}, impl.MaxVars))
	for at := range impl.MaxBlocks - 1 {
		f = append(f, impl.Block{Code: f[0].Code, Test: lastName, Then: at, Else: at})
	}
	f[0].Then, f[0].Else = impl.MaxBlocks-1, impl.MaxBlocks-1
	checkRanges(t, f, first)
	checkWordsIn(t, f, first, slices.Repeat([]int{1}, impl.MaxVars))
}

func TestFlowRangesOfMaxCode(t *testing.T) {
	l := slices.Repeat(readAs(t, "h=h+a"), impl.MaxCode)
	f := []impl.Block{{Code: l, Test: lastName, Then: 1, Else: -1}, {Test: 0, Then: -1, Else: -1}}
	first := rangesAs(t, "1..2 * * *")
	for _, k := range []struct{ first, behind string }{{"5", "35..65"}, {"60000..65475", "60030..65535"}, {"60000..65476", "*"}} {
		first[lastName] = rangeAs(t, k.first)
		if ranges, rounds, ok := impl.FlowRanges(f, first); !ok || rounds != 1 || rangeText(ranges[1][lastName]) != k.behind {
			t.Error(k.first, ranges, rounds, ok)
		}
		checkRanges(t, f, first)
	}
	long := slices.Repeat([]impl.Block{{Code: l, Test: lastName, Then: 0, Else: impl.MaxBlocks - 1}}, impl.MaxBlocks)
	checkRanges(t, long, first)
	checkWordsIn(t, long, first, []int{2, 0, 0, 0, 0, 0, 0, 65476})
}

// Promise 6, beside ranges made apart.
func TestFlowRangesOfManyFlows(t *testing.T) {
	d := &lots{state: 666}
	gone, lost, told := 0, 0, 0
	for round := range 6000 {
		f := d.flow(1+round%impl.MaxBlocks, round%6)
		first := d.ranges()
		checkRanges(t, f, first)
		for range 4 {
			gone += checkWordsIn(t, f, first, d.wordsIn(first))
		}
		ranges, _, _ := impl.FlowRanges(f, first)
		for at := 1; at < len(f) && len(ranges) == len(f); at++ {
			if ranges[at][0].Empty {
				lost++
			} else if ranges[at][0] != allWords() {
				told++
			}
		}
		if t.Failed() {
			return
		}
	}
	if gone < 24000*2 || lost < 1000 || told < 1000 {
		t.Error("too few flows of which something is told:", gone, lost, told)
	}
}

// All flows of two blocks over a few codes, with one Test, from ranges of each
// kind, at all words of these.
func TestFlowRangesOfShortFlows(t *testing.T) {
	var blocks []impl.Block
	for _, text := range []string{"", "a=0", "b=a", "a=a+b", "a=a-b", "a=a<b"} {
		for then := -1; then < 2; then++ {
			for other := -1; other < 2; other++ {
				blocks = append(blocks, impl.Block{Code: readAs(t, text), Then: then, Else: other})
			}
		}
	}
	some := []impl.Range{justWord(0), fromTo(0, 1), fromTo(65534, 65535)}
	for _, block := range blocks {
		for _, second := range blocks {
			for _, a := range some {
				for _, b := range some {
					f, first := []impl.Block{block, second}, sameRange(justWord(0))
					first[0], first[1] = a, b
					checkRanges(t, f, first)
					checkAllWordsIn(t, f, first)
				}
			}
		}
		if t.Failed() {
			return
		}
	}
}

func checkAllWordsIn(t *testing.T, f []impl.Block, first []impl.Range) {
	t.Helper()
	ranges, _, _ := impl.FlowRanges(f, first)
	for _, a := range wordsOf(first[0]) {
		for _, b := range wordsOf(first[1]) {
			// Short runs, since there are so many; drawn flows have long ones.
			_, _, path, ahead, _ := runFlowApart(f, []int{a, b, 0, 0, 0, 0, 0, 0}, 20)
			for step, at := range path {
				inA, _ := impl.HasWord(ranges[at][0], ahead[step][0])
				inB, _ := impl.HasWord(ranges[at][1], ahead[step][1])
				if !inA || !inB {
					t.Fatalf("%v comes to block %d with %v, but the ranges are %v", f, at, ahead[step], ranges[at])
				}
			}
		}
	}
}

func TestWrongRangesAreRefused(t *testing.T) {
	good := []impl.Range{emptyRange(), allWords(), justWord(0), justWord(65535), fromTo(3, 5)}
	codes := [][]impl.Instr{nil, readAs(t, "a=5;h=a;b=c+d")}
	flows := [][]impl.Block{flowAs(t, ". a -1 -1"), flowAs(t, "a=1;h=0 a 1 -1", "b=2 a 0 1")}
	for _, r := range wrongRanges() {
		for _, other := range append(good, wrongRanges()...) {
			checkPairRefused(t, r, other)
			checkPairRefused(t, other, r)
		}
		for _, w := range []int{0, 1, 5, 65535, -1, 65536, math.MinInt, math.MaxInt} {
			if has, ok := impl.HasWord(r, w); has || ok {
				t.Errorf("HasWord(%v, %d) = %v %v", r, w, has, ok)
			}
		}
		for name := range impl.MaxVars {
			ranges := sameRange(allWords())
			ranges[name] = r
			for _, l := range codes {
				checkStepRangesRefused(t, l, ranges)
			}
			for _, f := range flows {
				checkRangesRefused(t, f, ranges)
			}
		}
	}
	for _, r := range good {
		for _, w := range noWords() {
			if has, ok := impl.HasWord(r, w); has || ok {
				t.Errorf("HasWord(%v, %d) = %v %v", r, w, has, ok)
			}
		}
	}
	for _, count := range []int{0, 1, 7, 9, 16, 1000} {
		for _, r := range []impl.Range{{}, allWords()} {
			checkStepRangesRefused(t, codes[1], slices.Repeat([]impl.Range{r}, count))
			checkRangesRefused(t, flows[1], slices.Repeat([]impl.Range{r}, count))
		}
	}
	checkStepRangesRefused(t, nil, nil)
	checkRangesRefused(t, flows[0], nil)
}

func TestFlowRangesRefusesEmptyOnes(t *testing.T) {
	for _, f := range [][]impl.Block{flowAs(t, ". a -1 -1"), flowAs(t, "a=1;b=1;c=1;d=1;e=1;f=1;g=1;h=1 a 1 -1", "b=2 a 0 1")} {
		for name := range impl.MaxVars {
			first := sameRange(allWords())
			first[name] = emptyRange()
			checkRangesRefused(t, f, first)
		}
		checkRangesRefused(t, f, sameRange(emptyRange()))
	}
}

func TestRangesRefuseWrongCodeAndFlows(t *testing.T) {
	first := sameRange(allWords())
	checkStepRangesRefused(t, slices.Repeat(readAs(t, "a=1"), impl.MaxCode+1), first)
	for _, i := range append(wrongInstrs(), impl.Instr{}) {
		checkStepRangesRefused(t, []impl.Instr{i}, first)
		checkStepRangesRefused(t, append(readAs(t, "a=1;b=a"), i), first)
	}
	for _, f := range wrongFlows(t) {
		checkRangesRefused(t, f, first)
	}
	checkRangesRefused(t, nil, nil)
}

// Promise 19: nothing is written into what is handed in, nor behind it.
func TestRangesAreLeft(t *testing.T) {
	d := &lots{state: 6666}
	for range 300 {
		blocks := 1 + d.below(impl.MaxBlocks)
		memory := append(d.flow(blocks, 6), slices.Repeat([]impl.Block{{Test: 99, Then: -9}}, 3)...)
		codes := make([][]impl.Instr, blocks)
		for at := range codes {
			codes[at] = append(memory[at].Code, slices.Repeat([]impl.Instr{{Op: 99}}, 40)...)
			memory[at].Code = codes[at][:len(memory[at].Code)]
		}
		ranges := append(d.ranges(), emptyRange(), impl.Range{Empty: true, Lo: 9})
		before, beforeRanges := cloneFlow(memory), slices.Clone(ranges)
		var beforeCodes [][]impl.Instr
		for _, l := range codes {
			beforeCodes = append(beforeCodes, slices.Clone(l))
		}
		f := memory[:blocks]
		checkRanges(t, f, ranges[:impl.MaxVars])
		checkStepRanges(t, f[0].Code, ranges[:impl.MaxVars])
		checkRangesRefused(t, memory[:blocks+1], ranges[:impl.MaxVars])
		checkRangesRefused(t, f, ranges)
		checkStepRangesRefused(t, f[0].Code, ranges)
		if !sameFlow(memory, before) || !slices.Equal(ranges, beforeRanges) ||
			!slices.EqualFunc(codes, beforeCodes, slices.Equal[[]impl.Instr]) {
			t.Fatal("something was written into what was handed in:", memory, ranges)
		}
	}
}

func spoilRanges(ranges []impl.Range) {
	ranges = ranges[:cap(ranges)]
	for name := range ranges {
		ranges[name] = impl.Range{Empty: true, Lo: -77, Hi: -78}
	}
}

func TestRangeAnswersAreNewMemory(t *testing.T) {
	flows := [][]impl.Block{
		flowAs(t, ". a -1 -1"), flowAs(t, ". a 1 1", ". a 2 2", "!a;!b a -1 -1"), flowAs(t, ". a -1 -1", ". a 1 1"),
		flowAs(t, "a=1;!a a 1 2", "b=1;!b b 3 1", ". a 0 0", "a=0;!a a 0 -1"),
	}
	for _, f := range flows {
		before, given := cloneFlow(f), sameRange(fromTo(3, 4))
		for range 2 {
			behind, _ := impl.StepRanges(f[0].Code, given)
			spoilRanges(behind)
			want, _ := flowRangesApart(f, given)
			ranges, _, _ := impl.FlowRanges(f, given)
			for at := range ranges {
				spoilRanges(ranges[at])
				if !sameRanges(ranges[at+1:], want[at+1:]) {
					t.Errorf("the ranges of block %d share memory with others", at)
				}
			}
			clear(ranges[:cap(ranges)])
			if !sameFlow(f, before) || !slices.Equal(given, sameRange(fromTo(3, 4))) {
				t.Error("an answer shares memory with what was handed in:", f, given)
			}
			checkStepRanges(t, f[0].Code, given)
			checkRanges(t, f, given)
		}
	}
}

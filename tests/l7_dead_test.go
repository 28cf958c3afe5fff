package tests

import (
	"math"
	"slices"
	"strconv"
	"strings"
	"testing"

	"loop.example/g00350/impl"
)

// liveAs reads names by their letters.
func liveAs(letters string) []int {
	var names []int
	for _, letter := range letters {
		names = append(names, int(letter-'a'))
	}
	return names
}

func lettersOf(names []int) string {
	var letters strings.Builder
	for _, name := range names {
		letters.WriteRune(rune('a' + name))
	}
	return letters.String()
}

func liveText(lists [][]int) string {
	var texts []string
	for _, names := range lists {
		texts = append(texts, lettersOf(names))
	}
	return strings.Join(texts, "|")
}

// numbersText has a comma behind each number.
func numbersText(lists [][]int) string {
	var texts []string
	for _, numbers := range lists {
		text := ""
		for _, number := range numbers {
			text += strconv.Itoa(number) + ","
		}
		texts = append(texts, text)
	}
	return strings.Join(texts, "|")
}

// nameBits are names as bits, apart from the program's sets.
type nameBits uint

const allBits = nameBits(1<<impl.MaxVars - 1)

func (b nameBits) names() []int {
	var names []int
	for name := range impl.MaxVars {
		if b>>name&1 == 1 {
			names = append(names, name)
		}
	}
	return names
}

func bitsOf(names []int) nameBits {
	var b nameBits
	for _, name := range names {
		b |= 1 << name
	}
	return b
}

// backApart goes back over code by the document's words.
func backApart(l []impl.Instr, live nameBits, strong bool) nameBits {
	for at := len(l) - 1; at >= 0; at-- {
		dst, a, b := nameBits(1)<<l[at].Dst, nameBits(1)<<l[at].A, nameBits(1)<<l[at].B
		switch op := l[at].Op; {
		case op == impl.OpOut:
			live |= a
		case strong && live&dst == 0:
		case op == impl.OpConst:
			live &^= dst
		case op == impl.OpCopy:
			live = live&^dst | a
		default:
			live = live&^dst | a | b
		}
	}
	return live
}

func behindApart(b impl.Block, ahead []nameBits) nameBits {
	var live nameBits
	if b.Then != -1 {
		live |= ahead[b.Then]
	}
	if b.Else != -1 {
		live |= ahead[b.Else]
	}
	if b.Then != b.Else {
		live |= 1 << b.Test
	}
	return live
}

// aheadApart makes all anew from what is ahead of each block.
func aheadApart(f []impl.Block, ahead []nameBits, strong bool) []nameBits {
	var fresh []nameBits
	for _, b := range f {
		fresh = append(fresh, backApart(b.Code, behindApart(b, ahead), strong))
	}
	return fresh
}

func liveApart(f []impl.Block, strong bool) []nameBits {
	ahead := make([]nameBits, len(f))
	for {
		fresh := aheadApart(f, ahead, strong)
		if slices.Equal(fresh, ahead) {
			return ahead
		}
		ahead = fresh
	}
}

func listsOf(ahead []nameBits) [][]int {
	var lists [][]int
	for _, b := range ahead {
		lists = append(lists, b.names())
	}
	return lists
}

func sameLists(a [][]int, b [][]int) bool {
	return slices.EqualFunc(a, b, slices.Equal[[]int])
}

// deadApart asks each step by itself, behind which the code goes on.
func deadApart(f []impl.Block) ([][]int, []impl.Block) {
	ahead, kept := liveApart(f, true), cloneFlow(f)
	dead := make([][]int, len(f))
	for at, b := range f {
		kept[at].Code = nil
		for number, i := range b.Code {
			behind := backApart(b.Code[number+1:], behindApart(b, ahead), true)
			if i.Op != impl.OpOut && behind>>i.Dst&1 == 0 {
				dead[at] = append(dead[at], number)
			} else {
				kept[at].Code = append(kept[at].Code, i)
			}
		}
	}
	return dead, kept
}

func foldApart(f []impl.Block, vars []impl.Fact) []impl.Block {
	ahead, folded := factsApart(f, vars, true), cloneFlow(f)
	for at, b := range f {
		if ahead[at][0].Top {
			continue
		}
		for number, i := range b.Code {
			x := stepApart(b.Code[:number+1], ahead[at])[i.Dst]
			if i.Op != impl.OpOut && x.Known {
				folded[at].Code[number] = impl.Instr{Op: impl.OpConst, Dst: i.Dst, N: x.N}
			}
		}
		test := stepApart(b.Code, ahead[at])[b.Test]
		if test.Known && test.N != 0 {
			folded[at].Else = b.Then
		}
		if test.Known && test.N == 0 {
			folded[at].Then = b.Else
		}
	}
	return folded
}

// lostApart marks what is reached once for each block, which is enough.
func lostApart(f []impl.Block) ([]impl.Block, []int) {
	reached := make([]bool, len(f)+1)
	reached[0] = true
	for range f {
		for at, b := range f {
			if reached[at] {
				reached[(b.Then+len(f)+1)%(len(f)+1)] = true
				reached[(b.Else+len(f)+1)%(len(f)+1)] = true
			}
		}
	}
	var kept []impl.Block
	var numbers []int
	for at, b := range cloneFlow(f) {
		if reached[at] {
			numbers, kept = append(numbers, len(kept)), append(kept, b)
		} else {
			numbers = append(numbers, -1)
		}
	}
	anew := append(slices.Clone(numbers), -1)
	for at, b := range kept {
		kept[at].Then, kept[at].Else = anew[(b.Then+len(f)+1)%(len(f)+1)], anew[(b.Else+len(f)+1)%(len(f)+1)]
	}
	return kept, numbers
}

func checkBack(t *testing.T, l []impl.Instr, live nameBits) {
	t.Helper()
	want := backApart(l, live, true).names()
	if names, ok := impl.BackStep(l, live.names()); !slices.Equal(names, want) || !ok {
		t.Errorf("BackStep(%v, %v) = %v %v, not %v", l, live.names(), names, ok, want)
	}
}

func checkLive(t *testing.T, f []impl.Block) {
	t.Helper()
	strong, plain := listsOf(liveApart(f, true)), listsOf(liveApart(f, false))
	if lists, ok := impl.StrongLive(f); !sameLists(lists, strong) || !ok {
		t.Errorf("StrongLive(%v) = %v %v, not %v", f, lists, ok, strong)
	}
	if lists, ok := impl.PlainLive(f); !sameLists(lists, plain) || !ok {
		t.Errorf("PlainLive(%v) = %v %v, not %v", f, lists, ok, plain)
	}
}

func checkDead(t *testing.T, f []impl.Block) {
	t.Helper()
	wantDead, wantKept := deadApart(f)
	if dead, ok := impl.DeadAt(f); !sameLists(dead, wantDead) || !ok {
		t.Errorf("DeadAt(%v) = %v %v, not %v", f, dead, ok, wantDead)
	}
	if kept, ok := impl.DropDead(f); !sameFlow(kept, wantKept) || !ok {
		t.Errorf("DropDead(%v) = %v %v, not %v", f, kept, ok, wantKept)
	}
}

func checkFold(t *testing.T, f []impl.Block, vars []impl.Fact) {
	t.Helper()
	want := foldApart(f, vars)
	if folded, ok := impl.FoldFlow(f, vars); !sameFlow(folded, want) || !ok {
		t.Errorf("FoldFlow(%v, %v) = %v %v, not %v", f, vars, folded, ok, want)
	}
}

func checkLost(t *testing.T, f []impl.Block) {
	t.Helper()
	wantKept, wantNumbers := lostApart(f)
	if kept, numbers, ok := impl.DropLost(f); !sameFlow(kept, wantKept) || !slices.Equal(numbers, wantNumbers) || !ok {
		t.Errorf("DropLost(%v) = %v %v %v, not %v %v", f, kept, numbers, ok, wantKept, wantNumbers)
	}
}

// checkTellsSame asks that another flow tells the same on the same way, where
// block at of the first one is block numbers[at] of the other: promise 7.
func checkTellsSame(t *testing.T, f []impl.Block, other []impl.Block, numbers []int, vars []int, fuel int) {
	t.Helper()
	told, _, count, ended := impl.RunFlow(f, vars, fuel)
	otherTold, _, otherCount, otherEnded := impl.RunFlow(other, vars, fuel)
	if !slices.Equal(told, otherTold) || count != otherCount || ended != otherEnded {
		t.Errorf("%v from %v with fuel %d tells %v in %d %v, but %v tells %v in %d %v",
			f, vars, fuel, told, count, ended, other, otherTold, otherCount, otherEnded)
	}
	path, ok := impl.PathOf(f, vars, fuel)
	for step, at := range path {
		path[step] = numbers[at]
	}
	if otherPath, otherOk := impl.PathOf(other, vars, fuel); !slices.Equal(path, otherPath) || !ok || !otherOk {
		t.Errorf("%v from %v with fuel %d goes %v %v, but %v goes %v %v", f, vars, fuel, path, ok, other, otherPath, otherOk)
	}
	// What runs that do not end tell is not answered: it is asked apart.
	soFar, _, _, _, _ := runFlowApart(f, vars, fuel)
	otherSoFar, _, _, _, _ := runFlowApart(other, vars, fuel)
	if !slices.Equal(soFar, otherSoFar) {
		t.Errorf("%v from %v with fuel %d tells %v so far, but %v tells %v", f, vars, fuel, soFar, other, otherSoFar)
	}
}

func sameNumbers(f []impl.Block) []int {
	var numbers []int
	for at := range f {
		numbers = append(numbers, at)
	}
	return numbers
}

func checkDropDeadRuns(t *testing.T, f []impl.Block, vars []int, fuel int) {
	t.Helper()
	kept, ok := impl.DropDead(f)
	if !ok || !impl.GoodFlow(kept) || len(kept) != len(f) {
		t.Errorf("DropDead(%v) = %v %v", f, kept, ok)
		return
	}
	checkTellsSame(t, f, kept, sameNumbers(f), vars, fuel)
}

// checkFoldRuns is for words for which the facts hold. Folding leaves the
// words in the end, too.
func checkFoldRuns(t *testing.T, f []impl.Block, facts []impl.Fact, vars []int, fuel int) {
	t.Helper()
	folded, ok := impl.FoldFlow(f, facts)
	if !ok || !impl.GoodFlow(folded) || len(folded) != len(f) {
		t.Errorf("FoldFlow(%v, %v) = %v %v", f, facts, folded, ok)
		return
	}
	checkTellsSame(t, f, folded, sameNumbers(f), vars, fuel)
	_, words, _, _ := impl.RunFlow(f, vars, fuel)
	if _, same, _, _ := impl.RunFlow(folded, vars, fuel); !slices.Equal(words, same) {
		t.Errorf("%v from %v leaves %v, but %v leaves %v", f, vars, words, folded, same)
	}
}

func checkDropLostRuns(t *testing.T, f []impl.Block, vars []int, fuel int) {
	t.Helper()
	kept, numbers, ok := impl.DropLost(f)
	if !ok || !impl.GoodFlow(kept) || len(numbers) != len(f) {
		t.Errorf("DropLost(%v) = %v %v %v", f, kept, numbers, ok)
		return
	}
	checkTellsSame(t, f, kept, numbers, vars, fuel)
	_, words, _, _ := impl.RunFlow(f, vars, fuel)
	if _, same, _, _ := impl.RunFlow(kept, vars, fuel); !slices.Equal(words, same) {
		t.Errorf("%v from %v leaves %v, but %v leaves %v", f, vars, words, kept, same)
	}
}

// checkNotNeeded asks that the first words of names that are not needed ahead
// of block 0 change nothing that is told, and no way.
func checkNotNeeded(t *testing.T, f []impl.Block, vars []int, others []int, fuel int) {
	t.Helper()
	live, ok := impl.StrongLive(f)
	if !ok {
		t.Errorf("StrongLive(%v) is refused", f)
		return
	}
	changed := slices.Clone(others)
	for _, name := range live[0] {
		changed[name] = vars[name]
	}
	told, _, path, _, _ := runFlowApart(f, vars, fuel)
	toldChanged, _, pathChanged, _, _ := runFlowApart(f, changed, fuel)
	if !slices.Equal(told, toldChanged) || !slices.Equal(path, pathChanged) {
		t.Errorf("%v needs %v, but tells %v on %v from %v, and %v on %v from %v",
			f, live[0], told, path, vars, toldChanged, pathChanged, changed)
	}
}

func checkBackRefused(t *testing.T, l []impl.Instr, live []int) {
	t.Helper()
	if names, ok := impl.BackStep(l, live); len(names) != 0 || ok {
		t.Errorf("BackStep(%v, %v) = %v %v", l, live, names, ok)
	}
}

func checkFoldRefused(t *testing.T, f []impl.Block, vars []impl.Fact) {
	t.Helper()
	if folded, ok := impl.FoldFlow(f, vars); len(folded) != 0 || ok {
		t.Errorf("FoldFlow(%v, %v) = %v %v", f, vars, folded, ok)
	}
}

// checkDeadRefused asks all functions of the chapter that take a flow.
func checkDeadRefused(t *testing.T, f []impl.Block) {
	t.Helper()
	for at, function := range []func([]impl.Block) ([][]int, bool){impl.StrongLive, impl.PlainLive, impl.DeadAt} {
		if lists, ok := function(f); len(lists) != 0 || ok {
			t.Errorf("function %d of %v = %v %v", at, f, lists, ok)
		}
	}
	if kept, ok := impl.DropDead(f); len(kept) != 0 || ok {
		t.Errorf("DropDead(%v) = %v %v", f, kept, ok)
	}
	if kept, numbers, ok := impl.DropLost(f); len(kept) != 0 || len(numbers) != 0 || ok {
		t.Errorf("DropLost(%v) = %v %v %v", f, kept, numbers, ok)
	}
	checkFoldRefused(t, f, anyFacts())
}

func TestBackStepKnown(t *testing.T) {
	known := []struct{ text, behind, ahead string }{
		{"", "", ""}, {"", "c", "c"}, {"", "abcdefgh", "abcdefgh"},
		// Dst needed, and not.
		{"a=5", "a", ""}, {"a=5", "ab", "b"}, {"a=5", "b", "b"}, {"a=5", "", ""},
		{"h=5", "abcdefgh", "abcdefg"},
		{"a=b", "a", "b"}, {"a=b", "ab", "b"}, {"a=b", "b", "b"}, {"a=b", "c", "c"}, {"a=b", "", ""},
		{"a=b+c", "a", "bc"}, {"a=b+c", "ad", "bcd"}, {"a=b+c", "d", "d"}, {"a=b+c", "bc", "bc"}, {"a=b+c", "", ""},
		{"a=b-c", "a", "bc"}, {"a=b-c", "d", "d"}, {"a=b*c", "a", "bc"}, {"a=b*c", "d", "d"},
		{"a=b<c", "a", "bc"}, {"a=b<c", "d", "d"}, {"a=b~c", "a", "bc"}, {"a=b~c", "d", "d"},
		{"a=b+b", "a", "b"}, {"d=g*h", "abcdef", "abcefgh"},
		// A or B is Dst.
		{"a=a", "a", "a"}, {"a=a", "", ""}, {"a=a", "b", "b"},
		{"a=a+b", "a", "ab"}, {"a=a+b", "b", "b"}, {"a=b+a", "a", "ab"}, {"a=b-a", "b", "b"},
		{"a=a*a", "a", "a"}, {"a=a~a", "", ""}, {"h=h<a", "h", "ah"},
		// OpOut needs A, whatever is needed behind it, and sets nothing: its Dst is 0.
		{"!a", "", "a"}, {"!a", "a", "a"}, {"!h", "", "h"}, {"!b", "a", "ab"}, {"!b", "c", "bc"},
		// Rows: what feeds only what is not needed is not needed either.
		{"b=a;c=b;d=c", "d", "a"}, {"b=a;c=b;d=c", "", ""}, {"b=a;c=b;d=c", "e", "e"}, {"b=a;c=b;d=c", "bd", "a"},
		{"c=a+b;d=c*c", "e", "e"}, {"c=a+b;d=c*c", "c", "ab"}, {"c=a+b;d=c*e", "d", "abe"},
		{"b=a;b=c", "b", "c"}, {"b=a;b=5", "b", ""}, {"b=a;b=b", "b", "a"},
		{"a=b;!a", "", "b"}, {"!a;a=b", "", "a"}, {"!a;a=b", "a", "ab"}, {"c=a+b;c=5;!c", "", ""},
		{"a=b;b=a", "a", "b"}, {"a=b;b=a", "b", "b"}, {"a=b;b=c", "ab", "bc"}, {"b=c;a=b", "ab", "c"},
		{"!a;!b;!c;!d;!e;!f;!g;!h", "", "abcdefgh"}, {"a=1;b=1;c=1;d=1;e=1;f=1;g=1;h=1", "abcdefgh", ""},
	}
	for _, k := range known {
		l := readAs(t, k.text)
		if names, ok := impl.BackStep(l, liveAs(k.behind)); lettersOf(names) != k.ahead || !ok {
			t.Errorf("BackStep(%q, %q) = %q %v, not %q", k.text, k.behind, lettersOf(names), ok, k.ahead)
		}
		checkBack(t, l, bitsOf(liveAs(k.behind)))
	}
}

// Each kind of step, behind which each list of names is needed.
func TestBackStepOfEachStep(t *testing.T) {
	for live := range allBits + 1 {
		for _, i := range oneOfEach() {
			checkBack(t, []impl.Instr{i}, live)
		}
		checkBack(t, nil, live)
		checkBack(t, []impl.Instr{}, live)
	}
	for op := impl.OpAdd; op <= impl.OpEqual; op++ {
		for dst := range 3 {
			for a := range 3 {
				for b := range 3 {
					for live := range nameBits(8) {
						checkBack(t, []impl.Instr{{Op: op, Dst: dst, A: a, B: b}}, live)
					}
				}
			}
		}
	}
}

func TestBackStepAtMaxCode(t *testing.T) {
	row := slices.Repeat(readAs(t, "h=h+a"), impl.MaxCode)
	known := []struct {
		l             []impl.Instr
		behind, ahead string
	}{
		{row, "h", "ah"}, {row, "", ""}, {row, "bc", "bc"},
		{append(readAs(t, "h=3"), row[1:]...), "h", "a"},
		{append(slices.Clone(row[1:]), readAs(t, "h=3")...), "h", ""},
		{append(slices.Clone(row[1:]), readAs(t, "!h")...), "", "ah"},
		{slices.Repeat(readAs(t, "b=a;c=b;d=c"), impl.MaxCode/3), "d", "a"},
		{slices.Repeat(readAs(t, "d=c;c=b;b=a"), impl.MaxCode/3), "d", "a"},
	}
	for _, k := range known {
		if names, ok := impl.BackStep(k.l, liveAs(k.behind)); lettersOf(names) != k.ahead || !ok || len(k.l) != impl.MaxCode {
			t.Errorf("BackStep(%v, %q) = %q %v, not %q", k.l, k.behind, lettersOf(names), ok, k.ahead)
		}
	}
}

// Code in two parts needs what it needs whole, and what is not needed ahead of
// it changes neither what is told nor what is needed behind it.
func TestBackStepOfMany(t *testing.T) {
	d := &lots{state: 77}
	for round := range 4000 {
		l := d.code(round % (impl.MaxCode + 1))
		if round%2 == 0 {
			l = d.closeCode(round % (impl.MaxCode + 1))
		}
		live := nameBits(d.below(int(allBits) + 1))
		checkBack(t, l, live)
		ahead, _ := impl.BackStep(l, live.names())
		cut := d.below(len(l) + 1)
		half, _ := impl.BackStep(l[cut:], live.names())
		if whole, ok := impl.BackStep(l[:cut], half); !slices.Equal(whole, ahead) || !ok {
			t.Fatalf("BackStep of %v cut at %d = %v, whole %v", l, cut, whole, ahead)
		}
		vars, changed := d.words(), d.words()
		for _, name := range ahead {
			changed[name] = vars[name]
		}
		told, words, _ := impl.RunCode(l, vars)
		toldChanged, wordsChanged, _ := impl.RunCode(l, changed)
		for _, name := range live.names() {
			if words[name] != wordsChanged[name] || !slices.Equal(told, toldChanged) {
				t.Fatalf("BackStep(%v, %v) = %v, but words for other names tell %v and leave %v, not %v and %v",
					l, live.names(), ahead, toldChanged, wordsChanged, told, words)
			}
		}
	}
}

func TestLiveAndDeadKnown(t *testing.T) {
	known := []struct {
		rows   []string
		strong string
		plain  string
		dead   string
	}{
		{[]string{". a -1 -1"}, "", "", ""},
		{[]string{"!a a -1 -1"}, "a", "a", ""},
		{[]string{"!a;!b;!c;!d;!e;!f;!g;!h a -1 -1"}, "abcdefgh", "abcdefgh", ""},
		// A step that feeds only itself round a loop.
		{[]string{"c=c+c;!a a 0 -1"}, "a", "ac", "0,"},
		{[]string{"c=1 a 1 1", "c=c+c;a=a-b;!a a 1 -1"}, "ab|ab", "ab|abc", "0,|0,"},
		{[]string{"c=c+c c 0 0"}, "", "c", "0,"},
		{[]string{"c=c+c c 0 -1"}, "c", "c", ""},
		{[]string{"c=c+c;!a a 0 1", "!c a -1 -1"}, "ac|c", "ac|c", "|"},
		// Steps that only feed each other, in a row, round a loop, from block to block.
		{[]string{"b=a;c=b;d=c;e=d a -1 -1"}, "", "a", "0,1,2,3,"},
		{[]string{"b=a;c=b;!b;d=c a -1 -1"}, "a", "a", "1,3,"},
		{[]string{"b=c;c=b;!a d 0 -1"}, "ad", "acd", "0,1,"},
		{[]string{"b=c d 1 -1", "c=b d 0 -1"}, "d|d", "cd|bd", "0,|0,"},
		{[]string{"b=c d 1 2", "c=b d 0 -1", "!b a -1 -1"}, "cd|bd|b", "cd|bd|b", "||"},
		{[]string{"b=a a 1 1", "c=b a 2 2", "d=c a -1 -1"}, "||", "a|b|c", "0,|0,|0,"},
		{[]string{"b=a a 1 1", "c=b a 2 2", "d=c;!d a -1 -1"}, "a|b|c", "a|b|c", "||"},
		// Set anew ahead of any look.
		{[]string{"a=1;a=2;!a a -1 -1"}, "", "", "0,"},
		{[]string{"a=b;a=c;!a a -1 -1"}, "c", "bc", "0,"},
		{[]string{"a=b a 1 1", "a=5;!a a -1 -1"}, "|", "b|", "0,|"},
		// Test where Then and Else are alike, and where they are unlike.
		{[]string{". a 1 1", ". a -1 -1"}, "|", "|", "|"},
		{[]string{". a 1 2", ". a -1 -1", ". a -1 -1"}, "a||", "a||", "||"},
		{[]string{". a 1 -1", ". a -1 -1"}, "a|", "a|", "|"},
		{[]string{". a -1 1", ". a -1 -1"}, "a|", "a|", "|"},
		{[]string{". h 0 0"}, "", "", ""},
		{[]string{". h 0 -1"}, "h", "h", ""},
		{[]string{". h -1 0"}, "h", "h", ""},
		// Test is looked at behind the Code.
		{[]string{"h=1 h 0 -1"}, "", "", ""},
		{[]string{"h=a h 0 -1"}, "a", "a", ""},
		{[]string{"h=a h -1 -1"}, "", "a", "0,"},
		{[]string{"h=a h 0 0"}, "", "a", "0,"},
		{[]string{"h=a;h=b+c h 0 -1"}, "bc", "abc", "0,"},
		// What one way alone needs is needed.
		{[]string{"b=5;c=6 a 1 2", "!b a -1 -1", "!c a -1 -1"}, "a|b|c", "a|b|c", "||"},
		{[]string{"b=5;c=6 a 1 -1", "!b a -1 -1"}, "a|b", "a|b", "1,|"},
		{[]string{"b=5;c=6 a -1 1", "!b a -1 -1"}, "a|b", "a|b", "1,|"},
		// Blocks that are not come to need what they need.
		{[]string{". a -1 -1", "!b;c=d a 1 1"}, "|b", "|bd", "|1,"},
		{[]string{"a=1 a -1 1", "!b;c=d a 1 1"}, "b|b", "bd|bd", "|1,"},
		// OpOut stays, however little is needed behind it; its Dst is not a.
		{[]string{"!b;!c;a=1 a -1 -1"}, "bc", "bc", "2,"},
		{[]string{"a=1;!b;!a a -1 -1"}, "b", "b", ""},
	}
	for _, k := range known {
		f := flowAs(t, k.rows...)
		if lists, ok := impl.StrongLive(f); liveText(lists) != k.strong || len(lists) != len(f) || !ok {
			t.Errorf("StrongLive(%q) = %q %v, not %q", k.rows, liveText(lists), ok, k.strong)
		}
		if lists, ok := impl.PlainLive(f); liveText(lists) != k.plain || len(lists) != len(f) || !ok {
			t.Errorf("PlainLive(%q) = %q %v, not %q", k.rows, liveText(lists), ok, k.plain)
		}
		if lists, ok := impl.DeadAt(f); numbersText(lists) != k.dead || len(lists) != len(f) || !ok {
			t.Errorf("DeadAt(%q) = %q %v, not %q", k.rows, numbersText(lists), ok, k.dead)
		}
		checkLive(t, f)
		checkDead(t, f)
		for _, vars := range [][]int{zeroWords(), {1, 2, 3, 4, 5, 6, 7, 8}, {300, 1, 65535, 0, 0, 0, 0, 1}} {
			checkDropDeadRuns(t, f, vars, impl.MaxFuel)
			checkNotNeeded(t, f, vars, []int{9, 9, 9, 9, 9, 9, 9, 9}, impl.MaxFuel)
			checkNotNeeded(t, f, vars, zeroWords(), impl.MaxFuel)
		}
	}
}

func TestDropDeadKnown(t *testing.T) {
	known := []struct{ rows, kept []string }{
		{[]string{". a -1 -1"}, []string{". a -1 -1"}},
		// Nothing dead: all stays.
		{[]string{"b=a;!b b 1 0", "a=b-a;!a a 0 -1"}, []string{"b=a;!b b 1 0", "a=b-a;!a a 0 -1"}},
		// All dead: no step is left, and the way stays.
		{[]string{"b=a;c=b h 1 0", "c=b+c a -1 -1"}, []string{". h 1 0", ". a -1 -1"}},
		{[]string{"b=a;c=b;!b;d=c g 0 0"}, []string{"b=a;!b g 0 0"}},
		{[]string{"a=1;b=2;c=b+b;d=c+c a 1 1", "c=c+c;!a a 1 -1"}, []string{"a=1 a 1 1", "!a a 1 -1"}},
		{[]string{"a=7;!b;!b;c=1;!c;c=2 c -1 -1"}, []string{"!b;!b;c=1;!c c -1 -1"}},
		// A block that is not come to is looked at alike.
		{[]string{"!a a -1 -1", "b=1;!a h 1 0"}, []string{"!a a -1 -1", "!a h 1 0"}},
	}
	for _, k := range known {
		f, want := flowAs(t, k.rows...), flowAs(t, k.kept...)
		if kept, ok := impl.DropDead(f); !sameFlow(kept, want) || !ok {
			t.Errorf("DropDead(%q) = %v %v, not %q", k.rows, kept, ok, k.kept)
		}
		checkDead(t, f)
	}
}

// What is needed goes on by one block a round at least, along the order of the
// blocks and against it.
func TestLiveOfMaxBlocks(t *testing.T) {
	var on, back []impl.Block
	for at := range impl.MaxBlocks {
		on = append(on, impl.Block{Test: 1, Then: at + 1, Else: at + 1})
		back = append(back, impl.Block{Test: 1, Then: at - 1, Else: at - 1})
	}
	last := impl.MaxBlocks - 1
	on[last] = impl.Block{Code: readAs(t, "!h"), Then: -1, Else: -1}
	back[0].Then, back[0].Else = last, last
	back[1] = impl.Block{Code: readAs(t, "!h"), Then: -1, Else: -1}
	for _, f := range [][]impl.Block{on, back} {
		f[0].Code = readAs(t, "h=a;g=h")
		lists, ok := impl.StrongLive(f)
		if liveText(lists) != "a|h|h|h|h|h|h|h" || !ok {
			t.Error(liveText(lists), ok)
		}
		dead, ok := impl.DeadAt(f)
		if numbersText(dead) != "1,|||||||" || !ok {
			t.Error(numbersText(dead), ok)
		}
		checkLive(t, f)
		checkDead(t, f)
		checkLost(t, f)
		checkFold(t, f, anyFacts())
		checkDropDeadRuns(t, f, []int{1, 2, 3, 4, 5, 6, 7, 8}, impl.MaxFuel)
	}
}

// Each name feeds the next one, so that a name more is needed each time round.
func TestLiveOfManyRounds(t *testing.T) {
	row := readAs(t, "h=g;g=f;f=e;e=d;d=c;c=b;b=a")
	for blocks := 2; blocks <= impl.MaxBlocks; blocks++ {
		f := make([]impl.Block, blocks)
		for at := range f {
			f[at] = impl.Block{Test: 0, Then: (at + 1) % blocks, Else: (at + 1) % blocks}
		}
		f[blocks-1].Code = row
		dead, ok := impl.DeadAt(f)
		if len(dead) != blocks || len(dead[blocks-1]) != len(row) || !ok {
			t.Error("rounds in which nothing is told:", dead, ok)
		}
		checkLive(t, f)
		f[0].Code = readAs(t, "!h")
		lists, ok := impl.StrongLive(f)
		if lettersOf(lists[0]) != "abcdefgh" || lettersOf(lists[blocks-1]) != "abcdefg" || !ok {
			t.Error(liveText(lists), ok)
		}
		checkLive(t, f)
		checkDead(t, f)
		checkDropDeadRuns(t, f, []int{1, 2, 3, 4, 5, 6, 7, 8}, impl.MaxFuel)
	}
}

func TestDeadOfMaxCode(t *testing.T) {
	row := slices.Repeat(readAs(t, "h=h+a"), impl.MaxCode)
	f := slices.Repeat([]impl.Block{{Code: row, Test: 1, Then: impl.MaxBlocks - 1, Else: -1}}, impl.MaxBlocks)
	kept, ok := impl.DropDead(f)
	if !ok || slices.ContainsFunc(kept, func(b impl.Block) bool { return len(b.Code) != 0 }) {
		t.Error("a row that feeds only itself:", kept, ok)
	}
	checkDead(t, f)
	checkDropDeadRuns(t, f, []int{1, 2, 3, 4, 5, 6, 7, 8}, impl.MaxFuel)
	f[impl.MaxBlocks-1].Test = lastName
	if kept, ok := impl.DropDead(f); !sameFlow(kept, f) || !ok {
		t.Error("a row on which a test hangs:", kept, ok)
	}
	for _, text := range []string{"!a", "h=5", "b=1;h=b"} {
		l := append(slices.Clone(row[:impl.MaxCode-2]), readAs(t, text)...)
		f := []impl.Block{{Code: l, Test: lastName, Then: 0, Else: -1}}
		checkLive(t, f)
		checkDead(t, f)
		checkDropDeadRuns(t, f, []int{1, 2, 3, 4, 5, 6, 7, 8}, impl.MaxFuel)
	}
}

func TestFoldFlowKnown(t *testing.T) {
	given := []impl.Fact{knownFact(0), knownFact(3), {}, {}, {}, {}, {}, knownFact(65535)}
	known := []struct{ rows, folded []string }{
		{[]string{". c -1 -1"}, []string{". c -1 -1"}},
		// Each step whose Dst is Known behind it, of each kind.
		{[]string{"c=7;d=b;e=b+b;f=a-b;g=b*b c -1 -1"}, []string{"c=7;d=3;e=6;f=65533;g=9 c -1 -1"}},
		{[]string{"c=a<b;d=b<a;e=b~b;f=a~b;g=h+b c -1 -1"}, []string{"c=1;d=0;e=1;f=0;g=2 c -1 -1"}},
		{[]string{"c=a*d;d=d*a;b=b;a=a+b c -1 -1"}, []string{"c=0;d=0;b=3;a=3 c -1 -1"}},
		// Where it is not Known the step stays.
		{[]string{"d=c;e=c+b;f=c*b;g=c-c;b=c;e=b+b c -1 -1"}, []string{"d=c;e=c+b;f=c*b;g=c-c;b=c;e=b+b c -1 -1"}},
		{[]string{"a=c;d=a;a=1;e=a c -1 -1"}, []string{"a=c;d=a;a=1;e=1 c -1 -1"}},
		// OpOut stays, though a, which its Dst would be, is Known.
		{[]string{"!a;!b;!c c -1 -1"}, []string{"!a;!b;!c c -1 -1"}},
		{[]string{"c=5;!c;d=c c 0 0"}, []string{"c=5;!c;d=5 c 0 0"}},
		// A Known Test goes both ways where it goes.
		{[]string{". b 1 2", ". c -1 -1", ". c -1 -1"}, []string{". b 1 1", ". c -1 -1", ". c -1 -1"}},
		{[]string{". a 1 2", ". c -1 -1", ". c -1 -1"}, []string{". a 2 2", ". c -1 -1", ". c -1 -1"}},
		{[]string{". h 1 2", ". c -1 -1", ". c -1 -1"}, []string{". h 1 1", ". c -1 -1", ". c -1 -1"}},
		{[]string{". c 1 2", ". c -1 -1", ". c -1 -1"}, []string{". c 1 2", ". c -1 -1", ". c -1 -1"}},
		{[]string{". a 0 -1"}, []string{". a -1 -1"}},
		{[]string{". b 0 -1"}, []string{". b 0 0"}},
		{[]string{". b -1 0"}, []string{". b -1 -1"}},
		{[]string{". a -1 0"}, []string{". a 0 0"}},
		// It is asked behind the Code.
		{[]string{"a=1 a 0 -1"}, []string{"a=1 a 0 0"}},
		{[]string{"a=b a 1 -1", ". c -1 -1"}, []string{"a=3 a 1 1", ". c -1 -1"}},
		{[]string{"a=c a 1 -1", ". c -1 -1"}, []string{"a=c a 1 -1", ". c -1 -1"}},
		{[]string{"c=a c 1 -1", ". c -1 -1"}, []string{"c=0 c -1 -1", ". c -1 -1"}},
		// Blocks that are not come to stay, their tests too.
		{[]string{". b 2 1", "d=b;c=1 c 0 2", "d=b;c=1 c 0 2"}, []string{". b 2 2", "d=b;c=1 c 0 2", "d=3;c=1 c 0 0"}},
		{[]string{". c -1 -1", "a=1;d=a a 0 1"}, []string{". c -1 -1", "a=1;d=a a 0 1"}},
		// What is Known on all ways that can be gone.
		{[]string{"a=1 a 1 2", "d=a c 3 3", "a=2 c 3 3", "e=a+a c -1 -1"}, []string{"a=1 a 1 1", "d=1 c 3 3", "a=2 c 3 3", "e=2 c -1 -1"}},
		{[]string{"a=1 c 1 2", "d=a c 3 3", "a=2 c 3 3", "e=a+a c -1 -1"}, []string{"a=1 c 1 2", "d=1 c 3 3", "a=2 c 3 3", "e=a+a c -1 -1"}},
		{[]string{"b=b+a c 0 1", "!b c -1 -1"}, []string{"b=3 c 0 1", "!b c -1 -1"}},
		{[]string{"b=b+h c 0 1", "!b c -1 -1"}, []string{"b=b+h c 0 1", "!b c -1 -1"}},
	}
	for _, k := range known {
		f, want := flowAs(t, k.rows...), flowAs(t, k.folded...)
		if folded, ok := impl.FoldFlow(f, given); !sameFlow(folded, want) || !ok {
			t.Errorf("FoldFlow(%q) = %v %v, not %q", k.rows, folded, ok, k.folded)
		}
		checkFold(t, f, given)
		for _, n := range []int{0, 1, 7, 65535} {
			checkFoldRuns(t, f, given, []int{0, 3, n, n, 1, 2, 3, 65535}, impl.MaxFuel)
		}
	}
}

func TestFoldFlowAtTheBounds(t *testing.T) {
	row := append(readAs(t, "h=65535"), slices.Repeat(readAs(t, "h=h+a"), impl.MaxCode-1)...)
	f := slices.Repeat([]impl.Block{{Code: row, Test: lastName, Then: -1, Else: 0}}, impl.MaxBlocks)
	for at := range f {
		f[at].Then = at + 1
	}
	f[impl.MaxBlocks-1].Then = -1
	given := anyFacts()
	given[0] = knownFact(2)
	folded, ok := impl.FoldFlow(f, given)
	if !ok || len(folded) != impl.MaxBlocks {
		t.Fatal(folded, ok)
	}
	for at, b := range folded {
		for number, i := range b.Code {
			if i != (impl.Instr{Op: impl.OpConst, Dst: lastName, N: (65535 + 2*number) % 65536}) {
				t.Error("block", at, "step", number, i)
			}
		}
		if len(b.Code) != impl.MaxCode || b.Test != lastName || b.Then != f[at].Then || b.Else != f[at].Then {
			t.Error("block", at, b)
		}
	}
	checkFold(t, f, given)
	checkFold(t, f, anyFacts())
	checkFoldRuns(t, f, given, []int{2, 0, 0, 0, 0, 0, 0, 0}, impl.MaxFuel)
	all := []impl.Block{{Code: readAs(t, "!a;!b"), Test: 3, Then: -1, Else: 0}}
	for _, x := range []impl.Fact{anyFact(), knownFact(0), knownFact(65535)} {
		checkFold(t, all, slices.Repeat([]impl.Fact{x}, impl.MaxVars))
		checkFoldRuns(t, all, slices.Repeat([]impl.Fact{x}, impl.MaxVars), slices.Repeat([]int{x.N}, impl.MaxVars), impl.MaxFuel)
	}
}

func TestDropLostKnown(t *testing.T) {
	known := []struct {
		rows, kept []string
		numbers    []int
	}{
		{[]string{"!a a -1 -1"}, []string{"!a a -1 -1"}, []int{0}},
		{[]string{"!a h 0 0"}, []string{"!a h 0 0"}, []int{0}},
		// All are reached.
		{[]string{"!a a 1 2", "!b b 0 -1", "!c c 2 1"}, []string{"!a a 1 2", "!b b 0 -1", "!c c 2 1"}, []int{0, 1, 2}},
		{[]string{". a 2 2", "!b a -1 -1", "!c a 1 1"}, []string{". a 2 2", "!b a -1 -1", "!c a 1 1"}, []int{0, 1, 2}},
		// Some are not.
		{[]string{"!a a -1 -1", "!b a 0 1"}, []string{"!a a -1 -1"}, []int{0, -1}},
		{[]string{". a 2 -1", "!b a 0 2", "!c h 0 2"}, []string{". a 1 -1", "!c h 0 1"}, []int{0, -1, 1}},
		{[]string{". a 3 3", "!b a 2 2", "!c a 1 3", "!d a 0 -1"}, []string{". a 1 1", "!d a 0 -1"}, []int{0, -1, -1, 1}},
		{[]string{". a 1 3", "!b a 3 -1", "!c a 1 1", "!d a 1 3"}, []string{". a 1 2", "!b a 2 -1", "!d a 1 2"}, []int{0, 1, -1, 2}},
		{[]string{". a 1 1", "!b a 0 0", "!c a 3 3", "!d a 2 2"}, []string{". a 1 1", "!b a 0 0"}, []int{0, 1, -1, -1}},
		// One is reached by Else alone, or by Then alone.
		{[]string{". a -1 2", "!b a -1 -1", "!c a -1 -1"}, []string{". a -1 1", "!c a -1 -1"}, []int{0, -1, 1}},
		{[]string{". a 2 -1", "!b a -1 -1", "!c a -1 -1"}, []string{". a 1 -1", "!c a -1 -1"}, []int{0, -1, 1}},
		{[]string{". a 1 1", "!b a 0 3", "!c a -1 -1", "!d a -1 -1"}, []string{". a 1 1", "!b a 0 2", "!d a -1 -1"}, []int{0, 1, -1, 2}},
		// Tests are not asked, and steps stay, dead ones too.
		{[]string{"a=1;b=2 a 1 2", "!b a -1 -1", "!c a -1 -1"}, []string{"a=1;b=2 a 1 2", "!b a -1 -1", "!c a -1 -1"}, []int{0, 1, 2}},
	}
	for _, k := range known {
		f, want := flowAs(t, k.rows...), flowAs(t, k.kept...)
		if kept, numbers, ok := impl.DropLost(f); !sameFlow(kept, want) || !slices.Equal(numbers, k.numbers) || !ok {
			t.Errorf("DropLost(%q) = %v %v %v, not %q %v", k.rows, kept, numbers, ok, k.kept, k.numbers)
		}
		checkLost(t, f)
		for _, vars := range [][]int{zeroWords(), {1, 2, 3, 4, 5, 6, 7, 8}} {
			checkDropLostRuns(t, f, vars, impl.MaxFuel)
		}
	}
}

func TestDropLostOfMaxBlocks(t *testing.T) {
	end := impl.Block{Test: lastName, Then: -1, Else: -1}
	for to := range impl.MaxBlocks {
		for _, then := range []bool{false, true} {
			f := slices.Repeat([]impl.Block{end}, impl.MaxBlocks)
			if f[0].Else = to; then {
				f[0].Then, f[0].Else = to, -1
			}
			kept, numbers, ok := impl.DropLost(f)
			if len(kept) != 1+min(to, 1) || len(numbers) != impl.MaxBlocks || numbers[0] != 0 || numbers[to] != min(to, 1) || !ok {
				t.Errorf("DropLost(%v) = %v %v %v", f, kept, numbers, ok)
			}
			checkLost(t, f)
			checkDropLostRuns(t, f, zeroWords(), impl.MaxFuel)
			checkDropLostRuns(t, f, slices.Repeat([]int{1}, impl.MaxVars), impl.MaxFuel)
		}
	}
	row := slices.Repeat(readAs(t, "!h"), impl.MaxCode)
	f := slices.Repeat([]impl.Block{{Code: row, Test: lastName, Then: 0, Else: -1}}, impl.MaxBlocks)
	for at := range f {
		f[at].Then = (at + 3) % impl.MaxBlocks
	}
	if kept, numbers, ok := impl.DropLost(f); !sameFlow(kept, f) || !slices.Equal(numbers, sameNumbers(f)) || !ok {
		t.Error("all are reached:", kept, numbers, ok)
	}
}

// checkLeast asks all lists of the names a and b that hold of two blocks: the
// ones told are among them, and in each of them.
func checkLeast(t *testing.T, f []impl.Block, lists [][]int, strong bool) {
	t.Helper()
	told := []nameBits{bitsOf(lists[0]), bitsOf(lists[1])}
	if !slices.Equal(aheadApart(f, told, strong), told) {
		t.Errorf("lists that do not hold of %v: %v", f, lists)
	}
	for first := range nameBits(4) {
		for second := range nameBits(4) {
			other := []nameBits{first, second}
			if slices.Equal(aheadApart(f, other, strong), other) && (told[0]&^first != 0 || told[1]&^second != 0) {
				t.Errorf("%v hold of %v, and are not the least: %v", lists, f, other)
			}
		}
	}
}

// All flows of two blocks over a few codes with the names a and b, the first
// one with Test a.
func TestDeadOfShortFlows(t *testing.T) {
	var blocks []impl.Block
	for _, text := range []string{"", "!a", "b=1", "a=b", "b=a", "a=a-b", "b=b+b"} {
		for then := -1; then < 2; then++ {
			for other := -1; other < 2; other++ {
				blocks = append(blocks, impl.Block{Code: readAs(t, text), Then: then, Else: other})
			}
		}
	}
	some := [][]int{{0, 1, 0, 0, 0, 0, 0, 0}, {1, 1, 0, 0, 0, 0, 0, 0}, {3, 0, 0, 0, 0, 0, 0, 0}}
	for _, first := range blocks {
		for _, second := range blocks {
			for test := range 2 {
				second.Test = test
				f := []impl.Block{first, second}
				checkLive(t, f)
				checkDead(t, f)
				checkLost(t, f)
				strong, _ := impl.StrongLive(f)
				plain, _ := impl.PlainLive(f)
				if t.Failed() {
					return
				}
				checkLeast(t, f, strong, true)
				checkLeast(t, f, plain, false)
				for _, vars := range some {
					// Short runs, since there are so many; drawn flows have long ones.
					checkDropDeadRuns(t, f, vars, 9)
					checkNotNeeded(t, f, vars, zeroWords(), 9)
				}
			}
		}
	}
}

// Promise 7 of what is dropped, beside lists made apart.
func TestDropDeadOfManyFlows(t *testing.T) {
	d := &lots{state: 777}
	dropped, unlike, ended := 0, 0, 0
	for round := range 2500 {
		f := d.flow(1+round%impl.MaxBlocks, 1+round%9)
		if round%3 == 0 {
			f[d.below(len(f))].Code = d.code(d.below(impl.MaxCode + 1))
		}
		checkLive(t, f)
		checkDead(t, f)
		kept, _ := impl.DropDead(f)
		strong, _ := impl.StrongLive(f)
		plain, _ := impl.PlainLive(f)
		for range 4 {
			vars := d.words()
			for _, fuel := range []int{d.below(20), impl.MaxFuel} {
				checkDropDeadRuns(t, f, vars, fuel)
				checkNotNeeded(t, f, vars, d.words(), fuel)
			}
			if _, _, _, ok := impl.RunFlow(f, vars, impl.MaxFuel); ok && !sameFlow(f, kept) {
				ended++
			}
		}
		checkDroppedAgain(t, kept, strong)
		if t.Failed() {
			return
		}
		if !sameLists(strong, plain) {
			unlike++
		}
		for at := range f {
			dropped += len(f[at].Code) - len(kept[at].Code)
			if bitsOf(strong[at])&^bitsOf(plain[at]) != 0 {
				t.Errorf("of %v StrongLive tells %v, PlainLive but %v", f, strong, plain)
			}
		}
	}
	if dropped < 2500 || unlike < 500 || ended < 1000 {
		t.Error("too few flows in which something is dead:", dropped, unlike, ended)
	}
}

// checkDroppedAgain asks that nothing is dead in what is left, and that it
// needs what the flow itself needed.
func checkDroppedAgain(t *testing.T, kept []impl.Block, strong [][]int) {
	t.Helper()
	if again, ok := impl.DropDead(kept); !sameFlow(again, kept) || !ok {
		t.Errorf("DropDead of what it left, %v, = %v %v", kept, again, ok)
	}
	if lists, ok := impl.StrongLive(kept); !sameLists(lists, strong) || !ok {
		t.Errorf("StrongLive of what DropDead left, %v, = %v %v, not %v", kept, lists, ok, strong)
	}
}

// Promise 7 of what is folded, and of what is lost by that, beside flows made
// apart.
func TestFoldFlowOfManyFlows(t *testing.T) {
	d := &lots{state: 7777}
	changed, lost := 0, 0
	for round := range 2500 {
		f := d.flow(1+round%impl.MaxBlocks, round%7)
		facts := d.facts()
		if round%4 == 0 {
			facts = anyFacts()
		}
		checkFold(t, f, facts)
		checkLost(t, f)
		folded, _ := impl.FoldFlow(f, facts)
		kept, numbers, _ := impl.DropLost(folded)
		checkFoldedFacts(t, f, facts, folded, numbers)
		checkLost(t, folded)
		for range 3 {
			vars := d.wordsBy(facts)
			for _, fuel := range []int{d.below(20), impl.MaxFuel} {
				checkFoldRuns(t, f, facts, vars, fuel)
				checkDropLostRuns(t, f, vars, fuel)
				checkDropLostRuns(t, folded, vars, fuel)
				dropped, _ := impl.DropDead(kept)
				checkTellsSame(t, f, dropped, numbers, vars, fuel)
			}
		}
		if t.Failed() {
			return
		}
		if !sameFlow(f, folded) {
			changed++
		}
		lost += len(folded) - len(kept)
	}
	if changed < 1000 || lost < 1000 {
		t.Error("too few flows in which something is folded:", changed, lost)
	}
}

// checkFoldedFacts asks that a folded flow folds no more, that what is known
// of it on its ways is known whatever its tests, and that the blocks that are
// not come to are those that it loses.
func checkFoldedFacts(t *testing.T, f []impl.Block, facts []impl.Fact, folded []impl.Block, numbers []int) {
	t.Helper()
	if again, ok := impl.FoldFlow(folded, facts); !sameFlow(again, folded) || !ok {
		t.Errorf("FoldFlow of what it made of %v, %v, = %v %v", f, folded, again, ok)
	}
	way, _ := impl.WayFacts(f, facts)
	if plain, ok := impl.PlainFacts(folded, facts); !sameFacts(plain, way) || !ok {
		t.Errorf("PlainFacts of %v, folded of %v, = %v %v, not %v", folded, f, plain, ok, way)
	}
	for at, number := range numbers {
		if way[at][0].Top != (number == -1) {
			t.Errorf("block %d of %v has the facts %v, and, folded, the new number %d", at, f, way[at], number)
		}
	}
}

func TestDeadRefusesWrongFlows(t *testing.T) {
	for _, f := range wrongFlows(t) {
		checkDeadRefused(t, f)
	}
	checkFoldRefused(t, nil, nil)
}

func TestBackStepRefusesWrongCode(t *testing.T) {
	lists := [][]int{nil, {}, {0}, {lastName}, allBits.names()}
	for _, live := range lists {
		for _, i := range append(wrongInstrs(), impl.Instr{}) {
			checkBackRefused(t, []impl.Instr{i}, live)
			checkBackRefused(t, append(readAs(t, "a=1;!b"), i), live)
			checkBackRefused(t, append([]impl.Instr{i}, readAs(t, "a=1;!b")...), live)
		}
		checkBackRefused(t, slices.Repeat(readAs(t, "!a"), impl.MaxCode+1), live)
		checkBackRefused(t, make([]impl.Instr, 1000), live)
	}
}

func TestBackStepRefusesWrongNames(t *testing.T) {
	codes := [][]impl.Instr{nil, readAs(t, "!a"), readAs(t, "a=1;b=1;c=1;d=1;e=1;f=1;g=1;h=1"), slices.Repeat(readAs(t, "b=a"), impl.MaxCode)}
	wrong := [][]int{
		// Not rising, or twice.
		{1, 0}, {7, 0}, {0, 2, 1}, {2, 0, 1}, {7, 6, 5, 4, 3, 2, 1, 0}, {0, 1, 2, 3, 4, 5, 7, 6},
		{0, 0}, {7, 7}, {0, 1, 1}, {0, 0, 1}, {0, 1, 2, 3, 4, 5, 6, 7, 7}, {0, 1, 0}, make([]int, 1000),
		// More than there are.
		{0, 1, 2, 3, 4, 5, 6, 7, 8}, {-1, 0, 1, 2, 3, 4, 5, 6, 7},
	}
	for _, name := range []int{math.MinInt, -1 << 32, -65536, -2, -1, impl.MaxVars, 9, 64, 65536, 1 << 32, 1<<32 + 1, math.MaxInt} {
		wrong = append(wrong, []int{name}, []int{name, 3}, []int{3, name}, []int{0, name, 7}, []int{name, name})
	}
	wrong = append(wrong, []int{math.MinInt, math.MaxInt}, []int{math.MaxInt, math.MinInt})
	for _, live := range wrong {
		for _, l := range codes {
			checkBackRefused(t, l, live)
		}
	}
}

func TestFoldFlowRefusesWrongFacts(t *testing.T) {
	flows := [][]impl.Block{flowAs(t, ". a -1 -1"), flowAs(t, "a=1;b=1;c=1;d=1;e=1;f=1;g=1;h=1 a 1 -1", "b=2 a 0 1")}
	for _, f := range flows {
		for _, x := range append(wrongFacts(), topFact()) {
			for name := range impl.MaxVars {
				facts := anyFacts()
				facts[name] = x
				checkFoldRefused(t, f, facts)
			}
		}
		checkFoldRefused(t, f, topFacts())
		checkFoldRefused(t, f, nil)
		for _, count := range []int{0, 1, 7, 9, 16, 1000} {
			checkFoldRefused(t, f, make([]impl.Fact, count))
		}
	}
}

// Promise 19: nothing is written into what is handed in, nor behind it.
func TestDeadLeavesWhatIsHandedIn(t *testing.T) {
	d := &lots{state: 77777}
	for range 300 {
		blocks := 1 + d.below(impl.MaxBlocks)
		memory := append(d.flow(blocks, 6), slices.Repeat([]impl.Block{{Test: 99, Then: -9}}, 3)...)
		var codes, beforeCodes [][]impl.Instr
		for at := range blocks {
			code := append(memory[at].Code, slices.Repeat([]impl.Instr{{Op: 99}}, 40)...)
			memory[at].Code = code[:len(memory[at].Code)]
			codes, beforeCodes = append(codes, code), append(beforeCodes, slices.Clone(code))
		}
		facts := append(d.facts(), topFact(), impl.Fact{Top: true, N: 9})
		names := nameBits(d.below(int(allBits) + 1)).names()
		live := append(slices.Clone(names), 3, 3, -1, 99)
		before, beforeFacts, beforeLive := cloneFlow(memory), slices.Clone(facts), slices.Clone(live)
		f := memory[:blocks]
		checkLive(t, f)
		checkDead(t, f)
		checkLost(t, f)
		checkFold(t, f, facts[:impl.MaxVars])
		want := backApart(f[0].Code, bitsOf(names), true).names()
		if ahead, ok := impl.BackStep(f[0].Code, live[:len(names)]); !slices.Equal(ahead, want) || !ok {
			t.Errorf("BackStep(%v, %v) = %v %v, not %v", f[0].Code, names, ahead, ok, want)
		}
		checkDeadRefused(t, memory[:blocks+1])
		checkFoldRefused(t, f, facts)
		checkBackRefused(t, f[0].Code, live)
		if !sameFlow(memory, before) || !slices.Equal(facts, beforeFacts) || !slices.Equal(live, beforeLive) ||
			!slices.EqualFunc(codes, beforeCodes, slices.Equal[[]impl.Instr]) {
			t.Fatal("something was written into what was handed in:", memory, facts, live)
		}
	}
}

// checkListsApart spoils list by list, and asks that all others stay as they
// are; then the list of lists.
func checkListsApart(t *testing.T, lists [][]int) {
	t.Helper()
	var want [][]int
	for _, list := range lists {
		want = append(want, slices.Clone(list))
	}
	for at := range lists {
		spoil(lists[at])
		if !sameLists(lists[at+1:], want[at+1:]) {
			t.Errorf("list %d shares memory with others", at)
		}
	}
	clear(lists[:cap(lists)])
}

func checkCodesApart(t *testing.T, f []impl.Block) {
	t.Helper()
	want := cloneFlow(f)
	for at := range f {
		code := f[at].Code[:cap(f[at].Code)]
		for number := range code {
			code[number] = impl.Instr{Op: 99, Dst: -77, A: -77, B: -77, N: -77}
		}
		if !sameFlow(f[at+1:], want[at+1:]) {
			t.Errorf("the code of block %d shares memory with others", at)
		}
	}
	clear(f[:cap(f)])
}

func TestDeadAnswersAreNewMemory(t *testing.T) {
	one := readAs(t, "!a;!b")
	flows := [][]impl.Block{
		flowAs(t, ". a -1 -1"), flowAs(t, ". a 1 1", ". a 2 2", "!a;!b a -1 -1"), flowAs(t, "!a a -1 -1", "!b;!a a 1 1"),
		flowAs(t, "a=1;!a a 1 2", "b=1;!b b 3 1", "c=a;!c a 0 0", "a=0;!a;d=a a 0 -1"),
		// Code of no step with room behind it, and one code in two blocks.
		{{Code: make([]impl.Instr, 0, 9), Then: 1, Else: 2}, {Code: one, Then: -1, Else: -1}, {Code: one, Then: -1, Else: 0}},
	}
	for _, f := range flows {
		before, given, live := cloneFlow(f), slices.Repeat([]impl.Fact{knownFact(3)}, impl.MaxVars), allBits.names()
		for range 2 {
			for _, function := range []func([]impl.Block) ([][]int, bool){impl.StrongLive, impl.PlainLive, impl.DeadAt} {
				lists, _ := function(f)
				checkListsApart(t, lists)
			}
			kept, _ := impl.DropDead(f)
			checkCodesApart(t, kept)
			folded, _ := impl.FoldFlow(f, given)
			checkCodesApart(t, folded)
			left, numbers, _ := impl.DropLost(f)
			wantLeft, _ := lostApart(f)
			spoil(numbers)
			if !sameFlow(left, wantLeft) {
				t.Error("the numbers of DropLost share memory with the flow:", left)
			}
			checkCodesApart(t, left)
			ahead, _ := impl.BackStep(f[0].Code, live)
			spoil(ahead)
			if !sameFlow(f, before) || !slices.Equal(live, allBits.names()) ||
				!slices.Equal(given, slices.Repeat([]impl.Fact{knownFact(3)}, impl.MaxVars)) || spoiltBehind(f[0].Code) {
				t.Error("an answer shares memory with what was handed in:", f, given, live)
			}
			checkLive(t, f)
			checkDead(t, f)
			checkLost(t, f)
			checkFold(t, f, given)
		}
	}
}

func spoiltBehind(l []impl.Instr) bool {
	return slices.ContainsFunc(l[:cap(l)], func(i impl.Instr) bool { return i.Op == 99 })
}

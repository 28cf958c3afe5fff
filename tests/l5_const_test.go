package tests

import (
	"math"
	"slices"
	"strconv"
	"strings"
	"testing"

	"loop.example/g00350/impl"
)

// flowAs reads a flow from rows, a block each: its code (. for none), the
// letter of Test, Then and Else, with blanks between.
func flowAs(t *testing.T, rows ...string) []impl.Block {
	t.Helper()
	var f []impl.Block
	for _, row := range rows {
		parts := strings.Fields(row)
		then, errThen := strconv.Atoi(parts[2])
		other, errOther := strconv.Atoi(parts[3])
		if errThen != nil || errOther != nil {
			t.Fatal("no block:", row)
		}
		code := readAs(t, strings.TrimPrefix(parts[0], "."))
		f = append(f, impl.Block{Code: code, Test: int(parts[1][0] - 'a'), Then: then, Else: other})
	}
	return f
}

// flow draws code that is close, so that tests come out known now and then.
func (d *lots) flow(blocks int, steps int) []impl.Block {
	var f []impl.Block
	for range blocks {
		b := impl.Block{Code: d.closeCode(d.below(steps + 1)), Test: d.below(4)}
		b.Then, b.Else = d.below(blocks+1)-1, d.below(blocks+1)-1
		f = append(f, b)
	}
	return f
}

func anyFact() impl.Fact { return impl.Fact{} }

func topFact() impl.Fact { return impl.Fact{Top: true} }

func knownFact(n int) impl.Fact { return impl.Fact{Known: true, N: n} }

func anyFacts() []impl.Fact { return make([]impl.Fact, impl.MaxVars) }

func topFacts() []impl.Fact { return slices.Repeat([]impl.Fact{topFact()}, impl.MaxVars) }

func (d *lots) facts() []impl.Fact {
	facts := anyFacts()
	for name := range facts {
		switch d.below(4) {
		case 0:
			facts[name] = knownFact(d.word())
		case 1:
			facts[name] = knownFact(d.below(2))
		}
	}
	return facts
}

// wordsBy draws words for which the facts hold.
func (d *lots) wordsBy(facts []impl.Fact) []int {
	words := d.words()
	for name, x := range facts {
		if x.Known {
			words[name] = x.N
		}
	}
	return words
}

// wrongFacts are not good ones.
func wrongFacts() []impl.Fact {
	wrong := []impl.Fact{
		{Top: true, Known: true}, {Top: true, Known: true, N: 5}, {Top: true, N: 1}, {Top: true, N: -1},
		{Top: true, N: 65535}, {Top: true, N: math.MaxInt}, {Top: true, N: math.MinInt},
		{N: 1}, {N: 65535},
	}
	for _, n := range noWords() {
		wrong = append(wrong, impl.Fact{N: n}, impl.Fact{Known: true, N: n})
	}
	return wrong
}

// runFlowApart goes through a flow by the document's words, apart from the
// program: the words ahead of each block, too, and whether it ended.
func runFlowApart(f []impl.Block, vars []int, fuel int) (told []int, words []int, path []int, ahead [][]int, ended bool) {
	words = slices.Clone(vars)
	for at := 0; at != -1; {
		if len(path) == fuel {
			return told, words, path, ahead, false
		}
		path, ahead = append(path, at), append(ahead, words)
		more, next := runApart(f[at].Code, words)
		told, words = append(told, more...), next
		if words[f[at].Test] == 0 {
			at = f[at].Else
		} else {
			at = f[at].Then
		}
	}
	return told, words, path, ahead, true
}

func checkFlow(t *testing.T, f []impl.Block, vars []int, fuel int) {
	t.Helper()
	wantTold, wantWords, wantPath, _, ended := runFlowApart(f, vars, fuel)
	count := len(wantPath)
	if !ended {
		wantTold, wantWords, count = nil, nil, 0
	}
	told, words, n, ok := impl.RunFlow(f, vars, fuel)
	if !slices.Equal(told, wantTold) || !slices.Equal(words, wantWords) || n != count || ok != ended {
		t.Errorf("RunFlow(%v, %v, %d) = %v %v %d %v, not %v %v %d %v", f, vars, fuel, told, words, n, ok, wantTold, wantWords, count, ended)
	}
	if path, ok := impl.PathOf(f, vars, fuel); !slices.Equal(path, wantPath) || !ok {
		t.Errorf("PathOf(%v, %v, %d) = %v %v, not %v", f, vars, fuel, path, ok, wantPath)
	}
}

// joinApart goes by the sets of words that facts stand for.
func joinApart(a impl.Fact, b impl.Fact) impl.Fact {
	if a.Top {
		return b
	}
	if b.Top {
		return a
	}
	if a.Known && b.Known && a.N == b.N {
		return knownFact(a.N)
	}
	return anyFact()
}

// stepApart is what is behind code, by the document's words, apart from the
// program.
func stepApart(l []impl.Instr, facts []impl.Fact) []impl.Fact {
	facts = slices.Clone(facts)
	for _, i := range l {
		a, b := facts[i.A], facts[i.B]
		switch {
		case i.Op == impl.OpOut:
		case i.Op == impl.OpConst:
			facts[i.Dst] = knownFact(i.N)
		case i.Op == impl.OpCopy:
			facts[i.Dst] = a
		case a.Known && b.Known:
			facts[i.Dst] = knownFact(pairOf(i.Op, a.N, b.N))
		case i.Op == impl.OpMul && (a.Known && a.N == 0 || b.Known && b.N == 0):
			facts[i.Dst] = knownFact(0)
		default:
			facts[i.Dst] = anyFact()
		}
	}
	return facts
}

// goesApart tells whether a block with these facts ahead of it may go on at
// another one.
func goesApart(b impl.Block, facts []impl.Fact, to int, byTest bool) bool {
	test := stepApart(b.Code, facts)[b.Test]
	if !byTest || !test.Known {
		return b.Then == to || b.Else == to
	}
	if test.N != 0 {
		return b.Then == to
	}
	return b.Else == to
}

// factsApart makes all facts anew from those of the round before, from Top
// upwards, until they stay as they are.
func factsApart(f []impl.Block, vars []impl.Fact, byTest bool) [][]impl.Fact {
	facts := make([][]impl.Fact, len(f))
	for {
		fresh := make([][]impl.Fact, len(f))
		for to := range f {
			fresh[to] = topFacts()
			if to == 0 {
				fresh[to] = slices.Clone(vars)
			}
			for from, b := range f {
				if facts[from] == nil || facts[from][0].Top || !goesApart(b, facts[from], to, byTest) {
					continue
				}
				for name, x := range stepApart(b.Code, facts[from]) {
					fresh[to][name] = joinApart(fresh[to][name], x)
				}
			}
		}
		if sameFacts(facts, fresh) {
			return facts
		}
		facts = fresh
	}
}

func sameFacts(a [][]impl.Fact, b [][]impl.Fact) bool {
	return slices.EqualFunc(a, b, slices.Equal[[]impl.Fact])
}

func checkFacts(t *testing.T, f []impl.Block, vars []impl.Fact) {
	t.Helper()
	if facts, ok := impl.PlainFacts(f, vars); !ok || !sameFacts(facts, factsApart(f, vars, false)) {
		t.Errorf("PlainFacts(%v, %v) = %v %v, not %v", f, vars, facts, ok, factsApart(f, vars, false))
	}
	if facts, ok := impl.WayFacts(f, vars); !ok || !sameFacts(facts, factsApart(f, vars, true)) {
		t.Errorf("WayFacts(%v, %v) = %v %v, not %v", f, vars, facts, ok, factsApart(f, vars, true))
	}
}

// checkHolds goes through a flow and asks the facts at each block: promise 5.
func checkHolds(t *testing.T, f []impl.Block, facts [][]impl.Fact, vars []int) {
	t.Helper()
	path, ok := impl.PathOf(f, vars, impl.MaxFuel)
	_, _, _, ahead, _ := runFlowApart(f, vars, impl.MaxFuel)
	if !ok || len(path) != len(ahead) {
		t.Errorf("PathOf(%v, %v) = %v %v, of %d blocks", f, vars, path, ok, len(ahead))
		return
	}
	for step, at := range path {
		for name, x := range facts[at] {
			if x.Top || x.Known && x.N != ahead[step][name] {
				t.Errorf("in %v from %v, step %d comes to block %d with %v, but the facts are %v", f, vars, step, at, ahead[step], facts[at])
				return
			}
		}
	}
}

func checkBothHold(t *testing.T, f []impl.Block, facts []impl.Fact, vars []int) {
	t.Helper()
	plain, okPlain := impl.PlainFacts(f, facts)
	way, okWay := impl.WayFacts(f, facts)
	if !okPlain || !okWay {
		t.Error("facts refused:", f, facts)
		return
	}
	checkHolds(t, f, plain, vars)
	checkHolds(t, f, way, vars)
}

func checkRunRefused(t *testing.T, f []impl.Block, vars []int, fuel int) {
	t.Helper()
	if told, words, n, ok := impl.RunFlow(f, vars, fuel); len(told) != 0 || len(words) != 0 || n != 0 || ok {
		t.Errorf("RunFlow(%v, %v, %d) = %v %v %d %v", f, vars, fuel, told, words, n, ok)
	}
	if path, ok := impl.PathOf(f, vars, fuel); len(path) != 0 || ok {
		t.Errorf("PathOf(%v, %v, %d) = %v %v", f, vars, fuel, path, ok)
	}
}

func checkFactsRefused(t *testing.T, f []impl.Block, vars []impl.Fact) {
	t.Helper()
	if facts, ok := impl.PlainFacts(f, vars); len(facts) != 0 || ok {
		t.Errorf("PlainFacts(%v, %v) = %v %v", f, vars, facts, ok)
	}
	if facts, ok := impl.WayFacts(f, vars); len(facts) != 0 || ok {
		t.Errorf("WayFacts(%v, %v) = %v %v", f, vars, facts, ok)
	}
}

func checkFlowRefused(t *testing.T, f []impl.Block) {
	t.Helper()
	if impl.GoodFlow(f) {
		t.Errorf("GoodFlow(%v)", f)
	}
	checkRunRefused(t, f, zeroWords(), 10)
	checkRunRefused(t, f, zeroWords(), 0)
	checkFactsRefused(t, f, anyFacts())
}

// countDown goes through its block once for each of the first word of a.
func countDown(t *testing.T) []impl.Block {
	t.Helper()
	return flowAs(t, "b=1;a=a-b;!a a 0 -1")
}

func TestConstBounds(t *testing.T) {
	if impl.MaxBlocks != 8 || impl.MaxFuel != 300 {
		t.Error(impl.MaxBlocks, impl.MaxFuel)
	}
}

func TestGoodFlowAtTheBounds(t *testing.T) {
	good := [][]impl.Block{
		{{Then: -1, Else: -1}}, {{}}, {{Then: -1}}, {{Else: -1}}, {{Test: lastName}},
		{{Code: []impl.Instr{}}},
		{{Code: slices.Repeat(readAs(t, "h=65535"), impl.MaxCode), Test: lastName}},
		make([]impl.Block, impl.MaxBlocks),
		slices.Repeat([]impl.Block{{Then: impl.MaxBlocks - 1, Else: impl.MaxBlocks - 1}}, impl.MaxBlocks),
		slices.Repeat([]impl.Block{{Then: -1, Else: -1, Test: lastName}}, impl.MaxBlocks),
	}
	for _, f := range good {
		if !impl.GoodFlow(f) {
			t.Errorf("not GoodFlow(%v)", f)
		}
		checkFlow(t, f, zeroWords(), impl.MaxFuel)
		checkFacts(t, f, anyFacts())
	}
	for blocks := 1; blocks <= impl.MaxBlocks; blocks++ {
		for next := -1; next < blocks; next++ {
			f := make([]impl.Block, blocks)
			f[blocks-1].Then, f[0].Else = next, next
			if !impl.GoodFlow(f) {
				t.Errorf("not GoodFlow(%v)", f)
			}
		}
		f := make([]impl.Block, blocks)
		f[0].Then = blocks
		checkFlowRefused(t, f)
	}
}

func TestRunFlowKnown(t *testing.T) {
	first := func(words ...int) []int { return append(words, make([]int, impl.MaxVars-len(words))...) }
	known := []struct {
		rows  []string
		vars  []int
		told  []int
		words []int
		path  []int
	}{
		{[]string{". a -1 -1"}, first(7, 8), nil, first(7, 8), []int{0}},
		{[]string{"!a;a=5;!a a -1 -1"}, first(7), []int{7, 5}, first(5), []int{0}},
		// A word other than 0 goes to Then, 0 to Else.
		{[]string{". a 1 2", "!b a -1 -1", "!c a -1 -1"}, first(1, 2, 3), []int{2}, first(1, 2, 3), []int{0, 1}},
		{[]string{". a 1 2", "!b a -1 -1", "!c a -1 -1"}, first(0, 2, 3), []int{3}, first(0, 2, 3), []int{0, 2}},
		{[]string{". a 1 2", "!b a -1 -1", "!c a -1 -1"}, first(65535, 2, 3), []int{2}, first(65535, 2, 3), []int{0, 1}},
		{[]string{". a 1 2", "!b a -1 -1", "!c a -1 -1"}, first(32768, 2, 3), []int{2}, first(32768, 2, 3), []int{0, 1}},
		// Test is asked behind the Code.
		{[]string{"a=0 a 1 2", "!b a -1 -1", "!c a -1 -1"}, first(1, 2, 3), []int{3}, first(0, 2, 3), []int{0, 2}},
		{[]string{"a=1 a 1 2", "!b a -1 -1", "!c a -1 -1"}, first(0, 2, 3), []int{2}, first(1, 2, 3), []int{0, 1}},
		{[]string{". h -1 1", "!a h -1 -1"}, []int{4, 1, 1, 1, 1, 1, 1, 0}, []int{4}, []int{4, 1, 1, 1, 1, 1, 1, 0}, []int{0, 1}},
		{[]string{". h -1 1", "!a h -1 -1"}, []int{4, 0, 0, 0, 0, 0, 0, 1}, nil, []int{4, 0, 0, 0, 0, 0, 0, 1}, []int{0}},
		{[]string{"b=1;a=a-b;!a a 0 -1"}, first(3), []int{2, 1, 0}, first(0, 1), []int{0, 0, 0}},
		{[]string{"c=1;b=b+a;a=a-c a 1 2", "!b a 0 0", "!b;!a a 0 -1"}, first(2), []int{2, 3, 0}, first(0, 3, 1), []int{0, 1, 0, 2}},
		{[]string{". a 7 7", ". a 0 0", "!h a -1 -1", ". a 2 2", ". a 3 3", ". a 4 4", ". a 5 5", ". a 6 6"}, []int{7: 9}, []int{9}, []int{7: 9}, []int{0, 7, 6, 5, 4, 3, 2}},
	}
	for _, k := range known {
		f := flowAs(t, k.rows...)
		checkFlow(t, f, k.vars, impl.MaxFuel)
		told, words, n, ok := impl.RunFlow(f, k.vars, len(k.path))
		if !slices.Equal(told, k.told) || !slices.Equal(words, k.words) || n != len(k.path) || !ok {
			t.Errorf("RunFlow(%v, %v) = %v %v %d %v, not %v %v", k.rows, k.vars, told, words, n, ok, k.told, k.words)
		}
		if path, ok := impl.PathOf(f, k.vars, len(k.path)); !slices.Equal(path, k.path) || !ok {
			t.Errorf("PathOf(%v, %v) = %v %v, not %v", k.rows, k.vars, path, ok, k.path)
		}
		checkRunOut(t, f, k.vars, len(k.path)-1)
	}
}

// checkRunOut is for a fuel that ends ahead of the flow: then nothing is told
// but the way so far.
func checkRunOut(t *testing.T, f []impl.Block, vars []int, fuel int) {
	t.Helper()
	if told, words, n, ok := impl.RunFlow(f, vars, fuel); len(told) != 0 || len(words) != 0 || n != 0 || ok {
		t.Errorf("RunFlow(%v, %v, %d) = %v %v %d %v, with too little fuel", f, vars, fuel, told, words, n, ok)
	}
	if path, ok := impl.PathOf(f, vars, fuel); len(path) != fuel || !ok {
		t.Errorf("PathOf(%v, %v, %d) = %v %v, with too little fuel", f, vars, fuel, path, ok)
	}
}

func TestFuelAtTheBounds(t *testing.T) {
	f := countDown(t)
	vars := zeroWords()
	for _, rounds := range []int{1, 2, 299, 300} {
		vars[0] = rounds
		told, words, n, ok := impl.RunFlow(f, vars, rounds)
		if len(told) != rounds || !slices.Equal(words, []int{0, 1, 0, 0, 0, 0, 0, 0}) || n != rounds || !ok {
			t.Errorf("RunFlow of %d rounds with as much fuel = %v %v %d %v", rounds, told, words, n, ok)
		}
		checkRunOut(t, f, vars, rounds-1)
		checkRunOut(t, f, vars, 0)
		for fuel := range impl.MaxFuel + 1 {
			checkFlow(t, f, vars, fuel)
		}
	}
	vars[0] = 301
	checkRunOut(t, f, vars, impl.MaxFuel)
	vars[0] = 0
	checkRunOut(t, f, vars, impl.MaxFuel)
	round := flowAs(t, ". a 1 1", "!a;!b a 0 0")
	for _, fuel := range []int{0, 1, 2, 3, 299, 300} {
		checkRunOut(t, round, vars, fuel)
		checkFlow(t, round, vars, fuel)
	}
}

func TestRunFlowTellsMuch(t *testing.T) {
	f := []impl.Block{{Code: append(readAs(t, "b=1;a=a-b"), slices.Repeat(readAs(t, "!a"), impl.MaxCode-2)...), Then: 0, Else: -1}}
	told, _, n, ok := impl.RunFlow(f, []int{7: 0, 0: impl.MaxFuel}, impl.MaxFuel)
	if len(told) != impl.MaxFuel*(impl.MaxCode-2) || n != impl.MaxFuel || !ok {
		t.Error(len(told), n, ok)
	}
}

func TestRunFlowOfMany(t *testing.T) {
	d := &lots{state: 5}
	ended := 0
	for round := range 3000 {
		f := d.flow(1+round%impl.MaxBlocks, round%7)
		vars := d.words()
		for _, fuel := range []int{0, 1, d.below(20), impl.MaxFuel - 1, impl.MaxFuel} {
			checkFlow(t, f, vars, fuel)
		}
		if _, _, n, ok := impl.RunFlow(f, vars, impl.MaxFuel); ok && n > 1 {
			ended++
		}
		if t.Failed() {
			return
		}
	}
	if ended < 500 {
		t.Error("too few flows of more than a block end:", ended)
	}
}

func TestGoodFactAndJoinFactsKnown(t *testing.T) {
	for _, x := range []impl.Fact{{}, {Top: true}, {Known: true}, {Known: true, N: 1}, {Known: true, N: 65535}} {
		if !impl.GoodFact(x) {
			t.Errorf("not GoodFact(%v)", x)
		}
	}
	known := []struct{ a, b, both impl.Fact }{
		{topFact(), topFact(), topFact()},
		{topFact(), anyFact(), anyFact()},
		{topFact(), knownFact(0), knownFact(0)},
		{topFact(), knownFact(65535), knownFact(65535)},
		{knownFact(0), knownFact(0), knownFact(0)},
		{knownFact(65535), knownFact(65535), knownFact(65535)},
		{knownFact(0), knownFact(1), anyFact()},
		{knownFact(0), knownFact(65535), anyFact()},
		{knownFact(0), anyFact(), anyFact()},
		{knownFact(7), anyFact(), anyFact()},
		{anyFact(), anyFact(), anyFact()},
	}
	for _, k := range known {
		if x, ok := impl.JoinFacts(k.a, k.b); x != k.both || !ok {
			t.Errorf("JoinFacts(%v, %v) = %v %v, not %v", k.a, k.b, x, ok, k.both)
		}
		if x, ok := impl.JoinFacts(k.b, k.a); x != k.both || !ok {
			t.Errorf("JoinFacts(%v, %v) = %v %v, not %v", k.b, k.a, x, ok, k.both)
		}
	}
}

func TestStepFactsKnown(t *testing.T) {
	known := []struct {
		text string
		a, b impl.Fact
		c    impl.Fact
	}{
		{"c=0", anyFact(), anyFact(), knownFact(0)},
		{"c=65535", anyFact(), anyFact(), knownFact(65535)},
		{"c=a", knownFact(65535), anyFact(), knownFact(65535)},
		{"c=5;c=a", anyFact(), knownFact(4), anyFact()},
		{"c=a+b", knownFact(65535), knownFact(1), knownFact(0)},
		{"c=a-b", knownFact(0), knownFact(1), knownFact(65535)},
		{"c=a*b", knownFact(65535), knownFact(65535), knownFact(1)},
		{"c=a<b", knownFact(0), knownFact(65535), knownFact(1)},
		{"c=a<b", knownFact(65535), knownFact(0), knownFact(0)},
		{"c=a~b", knownFact(65535), knownFact(65535), knownFact(1)},
		{"c=a~b", knownFact(0), knownFact(65535), knownFact(0)},
		// OpMul alone knows what it tells by one of both, and by 0 alone.
		{"c=a*b", knownFact(0), anyFact(), knownFact(0)},
		{"c=a*b", anyFact(), knownFact(0), knownFact(0)},
		{"c=a*b", knownFact(0), knownFact(9), knownFact(0)},
		{"c=a*b", knownFact(1), anyFact(), anyFact()},
		{"c=a*b", anyFact(), knownFact(1), anyFact()},
		{"c=a*b", anyFact(), anyFact(), anyFact()},
		{"c=a+b", knownFact(0), anyFact(), anyFact()},
		{"c=a+b", anyFact(), knownFact(0), anyFact()},
		{"c=a-b", anyFact(), knownFact(0), anyFact()},
		{"c=a<b", anyFact(), knownFact(0), anyFact()},
		{"c=a~b", knownFact(0), anyFact(), anyFact()},
		// Facts are of one name each: that two are the same is not one.
		{"c=a-a", anyFact(), anyFact(), anyFact()},
		{"c=a~a", anyFact(), anyFact(), anyFact()},
		{"c=a<a", anyFact(), anyFact(), anyFact()},
		{"c=a-a", knownFact(5), anyFact(), knownFact(0)},
		{"c=5;c=a+b", knownFact(5), anyFact(), anyFact()},
		{"c=a;c=c+c;c=c*c", knownFact(5), anyFact(), knownFact(100)},
		{"c=a;!c", knownFact(5), anyFact(), knownFact(5)},
		{"c=a;a=b", knownFact(5), anyFact(), knownFact(5)},
	}
	for _, k := range known {
		facts := anyFacts()
		facts[0], facts[1], facts[lastName] = k.a, k.b, knownFact(77)
		behind, ok := impl.StepFacts(readAs(t, k.text), facts)
		if len(behind) != impl.MaxVars || !ok {
			t.Errorf("StepFacts(%q, %v) = %v %v", k.text, facts, behind, ok)
		} else if behind[2] != k.c || behind[lastName] != knownFact(77) {
			t.Errorf("StepFacts(%q, %v) = %v %v: c is to have %v", k.text, facts, behind, ok, k.c)
		}
	}
}

func checkStepFacts(t *testing.T, l []impl.Instr, facts []impl.Fact) {
	t.Helper()
	if behind, ok := impl.StepFacts(l, facts); !slices.Equal(behind, stepApart(l, facts)) || !ok {
		t.Errorf("StepFacts(%v, %v) = %v %v, not %v", l, facts, behind, ok, stepApart(l, facts))
	}
}

func TestStepFactsOfEachStep(t *testing.T) {
	some := []impl.Fact{anyFact(), knownFact(0), knownFact(1), knownFact(2), knownFact(65535)}
	for _, i := range oneOfEach() {
		for _, a := range some {
			for _, b := range some {
				facts := anyFacts()
				facts[i.A], facts[i.B] = a, b
				checkStepFacts(t, []impl.Instr{i}, facts)
			}
		}
	}
	for _, l := range [][]impl.Instr{nil, {}} {
		for _, x := range some {
			facts := slices.Repeat([]impl.Fact{x}, impl.MaxVars)
			if behind, ok := impl.StepFacts(l, facts); !slices.Equal(behind, facts) || !ok {
				t.Error("StepFacts of no step:", behind, ok)
			}
		}
	}
	chain := slices.Repeat(readAs(t, "h=h+a"), impl.MaxCode)
	behind, ok := impl.StepFacts(chain, []impl.Fact{0: knownFact(2), lastName: knownFact(65535)})
	if !slices.Equal(behind, []impl.Fact{0: knownFact(2), lastName: knownFact(59)}) || !ok {
		t.Error("StepFacts of MaxCode steps:", behind, ok)
	}
}

// What StepFacts knows behind code is so behind each run of it.
func TestStepFactsHoldBehindRuns(t *testing.T) {
	d := &lots{state: 55}
	for round := range 3000 {
		l := d.closeCode(round % (impl.MaxCode + 1))
		if round%3 == 0 {
			l = d.code(round % (impl.MaxCode + 1))
		}
		facts := d.facts()
		checkStepFacts(t, l, facts)
		behind, _ := impl.StepFacts(l, facts)
		_, words, _ := impl.RunCode(l, d.wordsBy(facts))
		for name, x := range behind {
			if x.Known && x.N != words[name] {
				t.Fatalf("StepFacts(%v, %v) = %v, but a run has %v", l, facts, behind, words)
			}
		}
		// Code in two parts knows what it knows whole.
		cut := d.below(len(l) + 1)
		half, _ := impl.StepFacts(l[:cut], facts)
		if whole, ok := impl.StepFacts(l[cut:], half); !slices.Equal(whole, behind) || !ok {
			t.Fatalf("StepFacts of %v cut at %d = %v, whole %v", l, cut, whole, behind)
		}
	}
}

// factsText tells the facts of the names a to d: t for Top, . for neither.
func factsText(facts [][]impl.Fact) string {
	var blocks []string
	for _, names := range facts {
		var texts []string
		for _, x := range names[:4] {
			switch {
			case x.Top:
				texts = append(texts, "t")
			case x.Known:
				texts = append(texts, strconv.Itoa(x.N))
			default:
				texts = append(texts, ".")
			}
		}
		blocks = append(blocks, strings.Join(texts, " "))
	}
	return strings.Join(blocks, "|")
}

func TestFactsKnown(t *testing.T) {
	known := []struct {
		rows  []string
		plain string
		way   string
	}{
		{[]string{". a -1 -1"}, ". . . .", ". . . ."},
		{[]string{"a=5 a -1 -1"}, ". . . .", ". . . ."},
		// A Known test goes one way, any other one both.
		{[]string{"a=1;b=2 a 1 2", "c=a+b a 3 3", "c=9 a 3 3", "!c a -1 -1"},
			". . . .|1 2 . .|1 2 . .|1 2 . .", ". . . .|1 2 . .|t t t t|1 2 3 ."},
		{[]string{"a=0;b=2 a 1 2", "c=a+b a 3 3", "c=9 a 3 3", "!c a -1 -1"},
			". . . .|0 2 . .|0 2 . .|0 2 . .", ". . . .|t t t t|0 2 . .|0 2 9 ."},
		{[]string{"b=2 a 1 2", "c=a+b a 3 3", "c=9 a 3 3", "!c a -1 -1"},
			". . . .|. 2 . .|. 2 . .|. 2 . .", ". . . .|. 2 . .|. 2 . .|. 2 . ."},
		{[]string{"a=65535 a 1 2", ". a -1 -1", ". a -1 -1"}, ". . . .|65535 . . .|65535 . . .", ". . . .|65535 . . .|t t t t"},
		{[]string{"a=0 a 1 2", ". a -1 -1", ". a -1 -1"}, ". . . .|0 . . .|0 . . .", ". . . .|t t t t|0 . . ."},
		// That a test was 0 is not known behind Else.
		{[]string{". a 1 2", ". a -1 -1", ". a -1 -1"}, ". . . .|. . . .|. . . .", ". . . .|. . . .|. . . ."},
		// Both ways bring one word, or two.
		{[]string{". a 1 2", "b=5;c=6;d=1 a 3 3", "b=5;c=7 a 3 3", ". a -1 -1"},
			". . . .|. . . .|. . . .|. 5 . .", ". . . .|. . . .|. . . .|. 5 . ."},
		// A round that does not change what it began with.
		{[]string{"a=1;b=0 a 1 1", "c=a;b=b+a d 1 2", "!c a -1 -1"},
			". . . .|1 . . .|1 . 1 .", ". . . .|1 . . .|1 . 1 ."},
		{[]string{"a=1 a 1 1", "b=a-a;a=a+b d 1 2", ". a -1 -1"},
			". . . .|1 . . .|1 0 . .", ". . . .|1 . . .|1 0 . ."},
		// What is known shows a way not to be gone, and by that stays known.
		{[]string{"a=1 a 1 1", "b=a d 2 4", ". b 1 3", "a=2 b 1 1", "!a a -1 -1"},
			". . . .|. . . .|. . . .|. . . .|. . . .", ". . . .|1 . . .|1 1 . .|t t t t|1 1 . ."},
		// Block 0 has what is given joined with what comes.
		{[]string{"b=5 c 0 1", ". a -1 -1"}, ". . . .|. 5 . .", ". . . .|. 5 . ."},
		// A block that is not come to tells nothing where it leads.
		{[]string{"a=1 a 2 2", "a=2;b=2 a 2 2", "!a a -1 -1"}, ". . . .|t t t t|1 . . .", ". . . .|t t t t|1 . . ."},
		{[]string{"a=1 a -1 1", "a=2 b 2 1", "!a a -1 -1"}, ". . . .|. . . .|2 . . .", ". . . .|t t t t|t t t t"},
		{[]string{". a -1 -1", ". a 1 1"}, ". . . .|t t t t", ". . . .|t t t t"},
	}
	for _, k := range known {
		f := flowAs(t, k.rows...)
		plain, okPlain := impl.PlainFacts(f, anyFacts())
		way, okWay := impl.WayFacts(f, anyFacts())
		if !okPlain || factsText(plain) != k.plain {
			t.Errorf("PlainFacts(%q) = %q %v, not %q", k.rows, factsText(plain), okPlain, k.plain)
		}
		if !okWay || factsText(way) != k.way {
			t.Errorf("WayFacts(%q) = %q %v, not %q", k.rows, factsText(way), okWay, k.way)
		}
		checkFacts(t, f, anyFacts())
		checkBothHold(t, f, anyFacts(), []int{1, 2, 3, 4, 5, 6, 7, 8})
		checkBothHold(t, f, anyFacts(), zeroWords())
	}
}

func TestFactsAtTheBeginning(t *testing.T) {
	given := []impl.Fact{knownFact(0), knownFact(65535), {}, knownFact(3), {}, {}, {}, knownFact(1)}
	known := []struct {
		rows  []string
		plain string
		way   string
	}{
		{[]string{". a -1 -1"}, "0 65535 . 3", "0 65535 . 3"},
		// What comes round to block 0 is the same, another one, or not known.
		{[]string{". c 0 -1"}, "0 65535 . 3", "0 65535 . 3"},
		{[]string{"a=0;b=1;d=c c 0 1", ". a -1 -1"}, "0 . . .|0 1 . .", "0 . . .|0 1 . ."},
		{[]string{"a=5 a -1 0"}, ". 65535 . 3", "0 65535 . 3"},
		{[]string{". a 1 2", ". a -1 -1", ". a -1 -1"}, "0 65535 . 3|0 65535 . 3|0 65535 . 3", "0 65535 . 3|t t t t|0 65535 . 3"},
		{[]string{". h 1 2", ". a -1 -1", ". a -1 -1"}, "0 65535 . 3|0 65535 . 3|0 65535 . 3", "0 65535 . 3|0 65535 . 3|t t t t"},
		// A test that is known at first and no longer when one comes again.
		{[]string{". a 1 2", "!b a -1 -1", "a=c;c=0 c -1 0"}, ". 65535 . 3|. 65535 . 3|. 65535 . 3", ". 65535 . 3|. 65535 . 3|. 65535 . 3"},
	}
	for _, k := range known {
		f := flowAs(t, k.rows...)
		plain, okPlain := impl.PlainFacts(f, given)
		way, okWay := impl.WayFacts(f, given)
		if !okPlain || factsText(plain) != k.plain {
			t.Errorf("PlainFacts(%q) = %q %v, not %q", k.rows, factsText(plain), okPlain, k.plain)
		}
		if !okWay || factsText(way) != k.way {
			t.Errorf("WayFacts(%q) = %q %v, not %q", k.rows, factsText(way), okWay, k.way)
		}
		checkFacts(t, f, given)
		checkBothHold(t, f, given, []int{0, 65535, 2, 3, 4, 5, 6, 1})
	}
}

// Facts that must go round again and again: each name takes what the one ahead
// of it had, so that what is not known goes on by one name a round, against
// the order of the blocks.
func TestFactsOfManyRounds(t *testing.T) {
	var f []impl.Block
	for at := range impl.MaxBlocks {
		f = append(f, impl.Block{Code: nil, Test: 0, Then: at - 1, Else: -1})
	}
	f[0].Then = impl.MaxBlocks - 1
	f[1].Code, f[1].Then, f[1].Else = readAs(t, "h=g;g=f;f=e;e=d;d=c;c=b;b=a"), impl.MaxBlocks-1, -1
	given := slices.Repeat([]impl.Fact{knownFact(1)}, impl.MaxVars)
	checkFacts(t, f, given)
	given[0] = anyFact()
	checkFacts(t, f, given)
	given[0], given[1] = knownFact(1), knownFact(2)
	checkFacts(t, f, given)
	way, ok := impl.WayFacts(f, given)
	if !ok || way[1][lastName] != anyFact() || way[1][1] != anyFact() || way[1][0] != knownFact(1) || way[0][lastName] != knownFact(1) {
		t.Error(way, ok)
	}
	checkBothHold(t, f, given, []int{1, 2, 1, 1, 1, 1, 1, 1})
}

func TestFactsOfMaxCode(t *testing.T) {
	l := append(readAs(t, "a=1"), slices.Repeat(readAs(t, "h=h+a"), impl.MaxCode-1)...)
	f := slices.Repeat([]impl.Block{{Code: l, Test: 0, Then: -1, Else: 0}}, impl.MaxBlocks)
	for at := range f {
		f[at].Then = at + 1
	}
	f[impl.MaxBlocks-1].Then = -1
	given := anyFacts()
	given[lastName] = knownFact(65535)
	checkFacts(t, f, given)
	way, ok := impl.WayFacts(f, given)
	if !ok || way[impl.MaxBlocks-1][lastName] != knownFact(7*29-1) {
		t.Error(way, ok)
	}
	checkBothHold(t, f, given, []int{0, 0, 0, 0, 0, 0, 0, 65535})
}

// Promise 5, and both kinds of facts beside those made apart.
func TestFactsOfManyFlows(t *testing.T) {
	d := &lots{state: 555}
	unlike, lost := 0, 0
	for round := range 6000 {
		f := d.flow(1+round%impl.MaxBlocks, round%6)
		facts := d.facts()
		if round%4 == 0 {
			facts = anyFacts()
		}
		checkFacts(t, f, facts)
		for range 3 {
			checkBothHold(t, f, facts, d.wordsBy(facts))
		}
		plain, _ := impl.PlainFacts(f, facts)
		way, _ := impl.WayFacts(f, facts)
		if !sameFacts(plain, way) {
			unlike++
		}
		for at := range f {
			if way[at][0].Top && !plain[at][0].Top {
				lost++
			}
			if plain[at][0].Top && !way[at][0].Top {
				t.Errorf("WayFacts comes to block %d of %v, where PlainFacts does not", at, f)
			}
		}
		if t.Failed() {
			return
		}
	}
	if unlike < 1000 || lost < 1000 {
		t.Error("too few flows in which the test tells something:", unlike, lost)
	}
}

// All flows of two blocks over a few codes, with one Test, from facts of each
// kind.
func TestFactsOfShortFlows(t *testing.T) {
	var blocks []impl.Block
	for _, text := range []string{"", "a=0", "a=1", "b=a", "a=a*b", "a=a~b"} {
		for then := -1; then < 2; then++ {
			for other := -1; other < 2; other++ {
				blocks = append(blocks, impl.Block{Code: readAs(t, text), Then: then, Else: other})
			}
		}
	}
	some := []impl.Fact{anyFact(), knownFact(0), knownFact(1)}
	for _, first := range blocks {
		for _, second := range blocks {
			for _, a := range some {
				for _, b := range some {
					f, facts := []impl.Block{first, second}, anyFacts()
					facts[0], facts[1] = a, b
					checkFacts(t, f, facts)
					checkBothHold(t, f, facts, []int{a.N, b.N, 0, 0, 0, 0, 0, 0})
				}
			}
		}
	}
}

// wrongBlocks are none of a flow of three.
func wrongBlocks(t *testing.T) []impl.Block {
	t.Helper()
	var wrong []impl.Block
	for _, i := range wrongInstrs() {
		wrong = append(wrong, impl.Block{Code: []impl.Instr{i}, Then: -1, Else: -1})
	}
	wrong = append(wrong,
		impl.Block{Code: []impl.Instr{{}}, Then: -1, Else: -1},
		impl.Block{Code: slices.Repeat(readAs(t, "a=1"), impl.MaxCode+1), Then: -1, Else: -1})
	for _, name := range []int{math.MinInt, -1 << 32, -2, -1, impl.MaxVars, impl.MaxVars + 1, 1 << 32, math.MaxInt} {
		wrong = append(wrong, impl.Block{Test: name, Then: -1, Else: -1})
	}
	for _, at := range []int{math.MinInt, -1 << 32, -3, -2, 3, 4, impl.MaxBlocks, 1 << 32, math.MaxInt} {
		wrong = append(wrong, impl.Block{Then: at, Else: -1}, impl.Block{Then: -1, Else: at}, impl.Block{Then: at, Else: at})
	}
	return wrong
}

func wrongFlows(t *testing.T) [][]impl.Block {
	t.Helper()
	end := impl.Block{Then: -1, Else: -1}
	wrong := [][]impl.Block{
		nil, {}, make([]impl.Block, impl.MaxBlocks+1), make([]impl.Block, 1000),
		{{Then: 1, Else: -1}}, {{Then: -1, Else: 1}},
	}
	for _, b := range wrongBlocks(t) {
		wrong = append(wrong, []impl.Block{b, end, end}, []impl.Block{end, b, end}, []impl.Block{end, end, b})
	}
	return wrong
}

func TestWrongFlowsAreRefused(t *testing.T) {
	for _, f := range wrongFlows(t) {
		checkFlowRefused(t, f)
	}
}

func TestRunFlowRefusesWrongWordsAndFuel(t *testing.T) {
	for _, f := range [][]impl.Block{flowAs(t, ". a -1 -1"), countDown(t), flowAs(t, "a=5;!h a 1 1", ". h 0 -1")} {
		for _, fuel := range []int{math.MinInt, -1 << 32, -301, -2, -1, 301, 302, 65536, 1 << 32, math.MaxInt} {
			checkRunRefused(t, f, zeroWords(), fuel)
		}
		for _, words := range []int{0, 1, 7, 9, 16, 1000} {
			checkRunRefused(t, f, make([]int, words), 10)
		}
		checkRunRefused(t, f, nil, 10)
		for _, w := range noWords() {
			for name := range impl.MaxVars {
				vars := zeroWords()
				vars[name] = w
				checkRunRefused(t, f, vars, 10)
				checkRunRefused(t, f, vars, 0)
			}
		}
	}
}

func TestWrongFactsAreRefused(t *testing.T) {
	codes := [][]impl.Instr{nil, readAs(t, "a=5;h=a;b=c+d")}
	flows := [][]impl.Block{flowAs(t, ". a -1 -1"), flowAs(t, "a=1;h=0 a 1 -1", "b=2 a 0 1")}
	refused := func(facts []impl.Fact) {
		t.Helper()
		for _, l := range codes {
			if behind, ok := impl.StepFacts(l, facts); len(behind) != 0 || ok {
				t.Errorf("StepFacts(%v, %v) = %v %v", l, facts, behind, ok)
			}
		}
		for _, f := range flows {
			checkFactsRefused(t, f, facts)
		}
	}
	for _, x := range wrongFacts() {
		if impl.GoodFact(x) {
			t.Errorf("GoodFact(%v)", x)
		}
		for _, other := range append(wrongFacts(), anyFact(), topFact(), knownFact(0), knownFact(65535), x) {
			if both, ok := impl.JoinFacts(x, other); both != (impl.Fact{}) || ok {
				t.Errorf("JoinFacts(%v, %v) = %v %v", x, other, both, ok)
			}
			if both, ok := impl.JoinFacts(other, x); both != (impl.Fact{}) || ok {
				t.Errorf("JoinFacts(%v, %v) = %v %v", other, x, both, ok)
			}
		}
	}
	for _, x := range append(wrongFacts(), topFact()) {
		for name := range impl.MaxVars {
			facts := anyFacts()
			facts[name] = x
			refused(facts)
		}
	}
	refused(topFacts())
	refused(nil)
	for _, facts := range []int{0, 1, 7, 9, 16, 1000} {
		refused(make([]impl.Fact, facts))
	}
	for _, i := range wrongInstrs() {
		if behind, ok := impl.StepFacts([]impl.Instr{i}, anyFacts()); len(behind) != 0 || ok {
			t.Errorf("StepFacts([%v]) = %v %v", i, behind, ok)
		}
	}
	if behind, ok := impl.StepFacts(slices.Repeat(readAs(t, "a=1"), impl.MaxCode+1), anyFacts()); len(behind) != 0 || ok {
		t.Error("StepFacts of more than MaxCode steps:", behind, ok)
	}
}

func sameFlow(a []impl.Block, b []impl.Block) bool {
	return slices.EqualFunc(a, b, func(x impl.Block, y impl.Block) bool {
		return slices.Equal(x.Code, y.Code) && x.Test == y.Test && x.Then == y.Then && x.Else == y.Else
	})
}

func cloneFlow(f []impl.Block) []impl.Block {
	f = slices.Clone(f)
	for at := range f {
		f[at].Code = slices.Clone(f[at].Code)
	}
	return f
}

// Promise 19: nothing is written into what is handed in, nor behind it.
func TestFlowsAreLeft(t *testing.T) {
	d := &lots{state: 5555}
	for range 300 {
		blocks := 1 + d.below(impl.MaxBlocks)
		memory := append(d.flow(blocks, 6), slices.Repeat([]impl.Block{{Test: 99, Then: -9}}, 3)...)
		codes := make([][]impl.Instr, blocks)
		for at := range codes {
			codes[at] = append(memory[at].Code, slices.Repeat([]impl.Instr{{Op: 99}}, 40)...)
			memory[at].Code = codes[at][:len(memory[at].Code)]
		}
		facts := append(d.facts(), topFact(), impl.Fact{Top: true, N: 9})
		words := append(d.wordsBy(facts[:impl.MaxVars]), -1, -2)
		before, beforeFacts, beforeWords := cloneFlow(memory), slices.Clone(facts), slices.Clone(words)
		var beforeCodes [][]impl.Instr
		for _, l := range codes {
			beforeCodes = append(beforeCodes, slices.Clone(l))
		}
		f := memory[:blocks]
		checkFlow(t, f, words[:impl.MaxVars], d.below(impl.MaxFuel+1))
		checkFacts(t, f, facts[:impl.MaxVars])
		checkStepFacts(t, f[0].Code, facts[:impl.MaxVars])
		checkFlowRefused(t, memory[:blocks+1])
		checkRunRefused(t, f, words, 10)
		checkFactsRefused(t, f, facts)
		if !sameFlow(memory, before) || !slices.Equal(facts, beforeFacts) || !slices.Equal(words, beforeWords) ||
			!slices.EqualFunc(codes, beforeCodes, slices.Equal[[]impl.Instr]) {
			t.Fatal("something was written into what was handed in:", memory, facts, words)
		}
	}
}

func spoilFacts(facts []impl.Fact) {
	facts = facts[:cap(facts)]
	for name := range facts {
		facts[name] = impl.Fact{Top: true, Known: true, N: -77}
	}
}

// checkApart spoils list by list, and asks that all others stay as they are;
// then the list of lists.
func checkApart(t *testing.T, facts [][]impl.Fact, want [][]impl.Fact) {
	t.Helper()
	for at := range facts {
		spoilFacts(facts[at])
		if !sameFacts(facts[at+1:], want[at+1:]) {
			t.Errorf("the facts of block %d share memory with others", at)
		}
	}
	clear(facts[:cap(facts)])
}

func TestFlowAnswersAreNewMemory(t *testing.T) {
	flows := [][]impl.Block{
		flowAs(t, ". a -1 -1"), flowAs(t, ". a 1 1", ". a 2 2", "!a;!b a -1 -1"),
		flowAs(t, "a=1;!a a 1 2", "b=1;!b b 3 1", ". a 0 0", "a=0;!a a 0 -1"),
	}
	for _, f := range flows {
		before := cloneFlow(f)
		vars, given := []int{1, 2, 3, 4, 5, 6, 7, 8}, slices.Repeat([]impl.Fact{knownFact(3)}, impl.MaxVars)
		for range 2 {
			told, words, _, _ := impl.RunFlow(f, vars, impl.MaxFuel)
			wantWords := slices.Clone(words)
			spoil(told)
			if !slices.Equal(words, wantWords) {
				t.Error("RunFlow's lists share memory:", words)
			}
			spoil(words)
			path, _ := impl.PathOf(f, vars, impl.MaxFuel)
			spoil(path)
			behind, _ := impl.StepFacts(f[0].Code, given)
			spoilFacts(behind)
			plain, _ := impl.PlainFacts(f, given)
			checkApart(t, plain, factsApart(f, given, false))
			way, _ := impl.WayFacts(f, given)
			checkApart(t, way, factsApart(f, given, true))
			if !sameFlow(f, before) || !slices.Equal(vars, []int{1, 2, 3, 4, 5, 6, 7, 8}) ||
				!slices.Equal(given, slices.Repeat([]impl.Fact{knownFact(3)}, impl.MaxVars)) {
				t.Error("an answer shares memory with what was handed in:", f, vars, given)
			}
			checkFlow(t, f, vars, impl.MaxFuel)
			checkFacts(t, f, given)
		}
	}
}

package tests

import (
	"math"
	"slices"
	"strconv"
	"strings"
	"testing"

	"loop.example/g00350/impl"
)

// plainSteps are the steps that have no N, by their signs.
func plainSteps() map[string]int {
	return map[string]int{
		"+": impl.SAdd, "-": impl.SSub, "*": impl.SMul, "<": impl.SLess,
		"dup": impl.SDup, "drop": impl.SDrop, "out": impl.SOut,
	}
}

// stackStepAs reads a number as SPush, a letter as SLoad of that local, one
// with = ahead as SStore.
func stackStepAs(t *testing.T, text string) impl.SStep {
	t.Helper()
	if op, ok := plainSteps()[text]; ok {
		return impl.SStep{Op: op}
	}
	if n, err := strconv.Atoi(text); err == nil {
		return impl.SStep{Op: impl.SPush, N: n}
	}
	local, isStore := strings.CutPrefix(text, "=")
	if len(local) != 1 {
		t.Fatalf("no step: %q", text)
	}
	if isStore {
		return impl.SStep{Op: impl.SStore, N: int(local[0]) - 'a'}
	}
	return impl.SStep{Op: impl.SLoad, N: int(local[0]) - 'a'}
}

func stackStepsAs(t *testing.T, text string) []impl.SStep {
	t.Helper()
	var l []impl.SStep
	for _, part := range strings.Fields(text) {
		l = append(l, stackStepAs(t, part))
	}
	return l
}

func stackStepsText(l []impl.SStep) string {
	var texts []string
	for _, s := range l {
		text := "(" + strconv.Itoa(s.Op) + " " + strconv.Itoa(s.N) + ")"
		for sign, op := range plainSteps() {
			if s == (impl.SStep{Op: op}) {
				text = sign
			}
		}
		switch {
		case s.Op == impl.SPush:
			text = strconv.Itoa(s.N)
		case s.Op == impl.SLoad && s.N >= 0 && s.N < 3:
			text = lettersOf([]int{s.N})
		case s.Op == impl.SStore && s.N >= 0 && s.N < 3:
			text = "=" + lettersOf([]int{s.N})
		}
		texts = append(texts, text)
	}
	return strings.Join(texts, " ")
}

// mapsAs reads lists with | between, a Const as # and the word, a name as its
// letter.
func mapsAs(t *testing.T, text string) [][]impl.Loc {
	t.Helper()
	var maps [][]impl.Loc
	for _, part := range strings.Split(text, "|") {
		var locs []impl.Loc
		for _, loc := range strings.Fields(part) {
			if word, ok := strings.CutPrefix(loc, "#"); ok {
				locs = append(locs, impl.Loc{Const: true, N: numbersAs(t, word)[0]})
			} else {
				locs = append(locs, impl.Loc{N: int(loc[0]) - 'a'})
			}
		}
		maps = append(maps, locs)
	}
	return maps
}

func frameOf(locals []int, stack []int, told []int) impl.Frame {
	return impl.Frame{Locals: locals, Stack: stack, Told: told}
}

func sameFrame(a impl.Frame, b impl.Frame) bool {
	return slices.Equal(a.Locals, b.Locals) && slices.Equal(a.Stack, b.Stack) && slices.Equal(a.Told, b.Told)
}

func cloneFrame(f impl.Frame) impl.Frame {
	return frameOf(slices.Clone(f.Locals), slices.Clone(f.Stack), slices.Clone(f.Told))
}

func isNoFrame(f impl.Frame) bool {
	return len(f.Locals) == 0 && len(f.Stack) == 0 && len(f.Told) == 0
}

func sameTranslated(a impl.Translated, b impl.Translated) bool {
	return slices.Equal(a.Code, b.Code) && slices.Equal(a.At, b.At) &&
		slices.EqualFunc(a.Maps, b.Maps, func(x []impl.Loc, y []impl.Loc) bool { return slices.Equal(x, y) })
}

func cloneTranslated(tr impl.Translated) impl.Translated {
	tr.Code, tr.At, tr.Maps = slices.Clone(tr.Code), slices.Clone(tr.At), slices.Clone(tr.Maps)
	for k, locs := range tr.Maps {
		tr.Maps[k] = slices.Clone(locs)
	}
	return tr
}

func isNoTranslated(tr impl.Translated) bool {
	return len(tr.Code) == 0 && len(tr.At) == 0 && len(tr.Maps) == 0
}

// depthApart has for each Op how many have to be there, and how many more
// there are then.
func depthApart(op int) (int, int) {
	changes := map[int][2]int{
		impl.SPush: {0, 1}, impl.SLoad: {0, 1}, impl.SStore: {1, -1},
		impl.SAdd: {2, -1}, impl.SSub: {2, -1}, impl.SMul: {2, -1}, impl.SLess: {2, -1},
		impl.SDup: {1, 1}, impl.SDrop: {1, -1}, impl.SOut: {1, -1},
	}
	return changes[op][0], changes[op][1]
}

func isStepApart(s impl.SStep) bool {
	most := 0
	switch s.Op {
	case impl.SPush:
		most = 65535
	case impl.SLoad, impl.SStore:
		most = 2
	}
	return s.Op >= 1 && s.Op <= 10 && s.N >= 0 && s.N <= most
}

func depthsApart(l []impl.SStep) ([]int, bool) {
	depths := []int{0}
	for k, s := range l {
		need, more := depthApart(s.Op)
		if k == 20 || !isStepApart(s) || depths[k] < need || depths[k]+more > 4 {
			return nil, false
		}
		depths = append(depths, depths[k]+more)
	}
	return depths, true
}

// stackPairApart is what SAdd to SLess are in chapter 3.
func stackPairApart(op int) int {
	return map[int]int{impl.SAdd: impl.OpAdd, impl.SSub: impl.OpSub, impl.SMul: impl.OpMul, impl.SLess: impl.OpLess}[op]
}

// runStepsApart is for good code, and a frame that is as it asks.
func runStepsApart(l []impl.SStep, f impl.Frame, from int, to int) (impl.Frame, bool) {
	f = cloneFrame(f)
	for _, s := range l[from:to] {
		on := len(f.Stack)
		switch s.Op {
		case impl.SPush:
			f.Stack = append(f.Stack, s.N)
		case impl.SLoad:
			f.Stack = append(f.Stack, f.Locals[s.N])
		case impl.SDup:
			f.Stack = append(f.Stack, f.Stack[on-1])
		case impl.SStore:
			f.Locals[s.N], f.Stack = f.Stack[on-1], f.Stack[:on-1]
		case impl.SDrop:
			f.Stack = f.Stack[:on-1]
		case impl.SOut:
			f.Told, f.Stack = append(f.Told, f.Stack[on-1]), f.Stack[:on-1]
		default:
			f.Stack = append(f.Stack[:on-2], pairOf(stackPairApart(s.Op), f.Stack[on-2], f.Stack[on-1]))
		}
	}
	if len(f.Told) > 100 {
		return impl.Frame{}, false
	}
	return f, true
}

// locNamedApart is the name of what is at a place of the list, and the code that
// makes it one.
func locNamedApart(locs []impl.Loc, at int) (int, []impl.Instr) {
	if locs[at].Const {
		return 3 + at, []impl.Instr{{Op: impl.OpConst, Dst: 3 + at, N: locs[at].N}}
	}
	return locs[at].N, nil
}

// storedApart is what a store of the uppermost one makes, and the list then.
func storedApart(locs []impl.Loc, local int) ([]impl.Instr, []impl.Loc) {
	var code []impl.Instr
	var left []impl.Loc
	stored := locs[len(locs)-1]
	for at, loc := range locs[:len(locs)-1] {
		if !loc.Const && loc.N == local {
			code = append(code, impl.Instr{Op: impl.OpCopy, Dst: 3 + at, A: local})
			loc = impl.Loc{N: 3 + at}
		}
		left = append(left, loc)
	}
	if stored.Const {
		code = append(code, impl.Instr{Op: impl.OpConst, Dst: local, N: stored.N})
	} else if stored.N != local {
		code = append(code, impl.Instr{Op: impl.OpCopy, Dst: local, A: stored.N})
	}
	return code, left
}

// laidApart is what one step makes of a list, and the code of it.
func laidApart(locs []impl.Loc, s impl.SStep) ([]impl.Instr, []impl.Loc) {
	top := len(locs) - 1
	switch s.Op {
	case impl.SPush:
		return nil, append(slices.Clone(locs), impl.Loc{Const: true, N: s.N})
	case impl.SLoad:
		return nil, append(slices.Clone(locs), impl.Loc{N: s.N})
	case impl.SDup:
		return nil, append(slices.Clone(locs), locs[top])
	case impl.SDrop:
		return nil, slices.Clone(locs[:top])
	case impl.SStore:
		return storedApart(locs, s.N)
	case impl.SOut:
		name, code := locNamedApart(locs, top)
		return append(code, impl.Instr{Op: impl.OpOut, A: name}), slices.Clone(locs[:top])
	}
	lower, code := locNamedApart(locs, top-1)
	upper, more := locNamedApart(locs, top)
	code = append(append(code, more...), impl.Instr{Op: stackPairApart(s.Op), Dst: 3 + top - 1, A: lower, B: upper})
	return code, append(slices.Clone(locs[:top-1]), impl.Loc{N: 3 + top - 1})
}

// translateApart is for good code.
func translateApart(l []impl.SStep) impl.Translated {
	tr := impl.Translated{At: []int{0}, Maps: [][]impl.Loc{nil}}
	for k, s := range l {
		code, locs := laidApart(tr.Maps[k], s)
		tr.Code = append(tr.Code, code...)
		tr.At = append(tr.At, len(tr.Code))
		tr.Maps = append(tr.Maps, locs)
	}
	return tr
}

// someStackSteps are all steps but SPush, and SPush of some words.
func someStackSteps(words ...int) []impl.SStep {
	var l []impl.SStep
	for _, n := range words {
		l = append(l, impl.SStep{Op: impl.SPush, N: n})
	}
	for local := range impl.MaxLocals {
		l = append(l, impl.SStep{Op: impl.SLoad, N: local}, impl.SStep{Op: impl.SStore, N: local})
	}
	for op := impl.SAdd; op <= impl.SOut; op++ {
		l = append(l, impl.SStep{Op: op})
	}
	return l
}

// isMadeApart tells whether some step makes a list of the one ahead of it, and
// this code: all steps are tried, SPush with the words that are on the list.
func isMadeApart(before []impl.Loc, after []impl.Loc, code []impl.Instr) bool {
	words := []int{0}
	for _, loc := range after {
		words = append(words, loc.N)
	}
	for _, s := range someStackSteps(words...) {
		need, more := depthApart(s.Op)
		if !isStepApart(s) || len(before) < need || len(before)+more > 4 {
			continue
		}
		laid, left := laidApart(before, s)
		if slices.Equal(laid, code) && slices.Equal(left, after) {
			return true
		}
	}
	return false
}

// isToldApart goes from list to list: by each one, and the code between, the
// step is known as far as it counts.
func isToldApart(tr impl.Translated) bool {
	last := len(tr.Maps) - 1
	if last < 0 || last > 20 || len(tr.At) != last+1 || len(tr.Maps[0]) > 0 || tr.At[0] != 0 || tr.At[last] != len(tr.Code) {
		return false
	}
	for k := range last {
		if tr.At[k] > tr.At[k+1] || tr.At[k+1] > len(tr.Code) || !isMadeApart(tr.Maps[k], tr.Maps[k+1], tr.Code[tr.At[k]:tr.At[k+1]]) {
			return false
		}
	}
	return true
}

func leftApart(tr impl.Translated, k int, vars []int, told []int) impl.Frame {
	f := frameOf(slices.Clone(vars[:3]), nil, slices.Clone(told))
	for _, loc := range tr.Maps[k] {
		word := loc.N
		if !loc.Const {
			word = vars[loc.N]
		}
		f.Stack = append(f.Stack, word)
	}
	return f
}

// eachGoodSteps calls for all good code of these steps, of a length, behind
// code that is good.
func eachGoodSteps(kinds []impl.SStep, length int, ahead []impl.SStep, call func(l []impl.SStep)) {
	if length == 0 {
		call(slices.Clone(ahead))
		return
	}
	for _, s := range kinds {
		longer := append(slices.Clone(ahead), s)
		if _, ok := depthsApart(longer); ok {
			eachGoodSteps(kinds, length-1, longer, call)
		}
	}
}

// stackStep draws a step that may stand where so many are on the stack; of
// those that put none on one in so many. The first local is drawn most, so that
// it is often stored to while it is on the stack.
func (d *lots) stackStep(depth int, rarely int) impl.SStep {
	for {
		s := impl.SStep{Op: 1 + d.below(10)}
		switch s.Op {
		case impl.SPush:
			s.N = d.word()
		case impl.SLoad, impl.SStore:
			s.N = d.below(1 + d.below(impl.MaxLocals))
		}
		need, more := depthApart(s.Op)
		if depth >= need && depth+more <= impl.MaxStack && (more > 0 || d.below(rarely) == 0) {
			return s
		}
	}
}

func (d *lots) stackSteps(count int) []impl.SStep {
	var l []impl.SStep
	depth, rarely := 0, 1+d.below(3)
	for range count {
		s := d.stackStep(depth, rarely)
		_, more := depthApart(s.Op)
		l, depth = append(l, s), depth+more
	}
	return l
}

func (d *lots) manyWords(count int) []int {
	words := make([]int, count)
	for at := range words {
		words[at] = d.word()
	}
	return words
}

func (d *lots) frame(depth int, told int) impl.Frame {
	return frameOf(d.manyWords(impl.MaxLocals), d.manyWords(depth), d.manyWords(told))
}

func checkDepths(t *testing.T, l []impl.SStep, want []int) {
	t.Helper()
	if depths, ok := impl.DepthsOf(l); !slices.Equal(depths, want) || !ok {
		t.Errorf("DepthsOf(%s) = %v %v, not %v", stackStepsText(l), depths, ok, want)
	}
	if !impl.GoodSteps(l) {
		t.Errorf("GoodSteps(%s) is false", stackStepsText(l))
	}
}

func checkTranslated(t *testing.T, l []impl.SStep, want impl.Translated) {
	t.Helper()
	tr, ok := impl.Translate(l)
	if !sameTranslated(tr, want) || !ok || !impl.GoodCode(tr.Code) {
		t.Errorf("Translate(%s) = %v %v, not %v", stackStepsText(l), tr, ok, want)
	}
}

// checkStackCode is for good code. It asks also that code is not longer than
// the steps that it was made of: so it is always good.
func checkStackCode(t *testing.T, l []impl.SStep) {
	t.Helper()
	depths, ok := depthsApart(l)
	if !ok {
		t.Fatal("no good code:", stackStepsText(l))
	}
	checkDepths(t, l, depths)
	want := translateApart(l)
	checkTranslated(t, l, want)
	if len(want.Code) > len(l) {
		t.Errorf("%s is translated to %d steps", stackStepsText(l), len(want.Code))
	}
}

func checkRanSteps(t *testing.T, l []impl.SStep, f impl.Frame, from int, to int, want impl.Frame) {
	t.Helper()
	if after, ok := impl.RunSteps(l, f, from, to); !sameFrame(after, want) || !ok || !impl.GoodFrame(after) {
		t.Errorf("RunSteps(%s, %v, %d, %d) = %v %v, not %v", stackStepsText(l), f, from, to, after, ok, want)
	}
}

func checkRunStepsRefused(t *testing.T, l []impl.SStep, f impl.Frame, from int, to int) {
	t.Helper()
	if after, ok := impl.RunSteps(l, f, from, to); !isNoFrame(after) || ok {
		t.Errorf("RunSteps(%s, %v, %d, %d) = %v %v", stackStepsText(l), f, from, to, after, ok)
	}
}

func checkRunSteps(t *testing.T, l []impl.SStep, f impl.Frame, from int, to int) {
	t.Helper()
	if want, ok := runStepsApart(l, f, from, to); ok {
		checkRanSteps(t, l, f, from, to, want)
	} else {
		checkRunStepsRefused(t, l, f, from, to)
	}
}

func checkRunToRefused(t *testing.T, l []impl.SStep, f impl.Frame, k int) {
	t.Helper()
	if after, ok := impl.RunTo(l, f, k); !isNoFrame(after) || ok {
		t.Errorf("RunTo(%s, %v, %d) = %v %v", stackStepsText(l), f, k, after, ok)
	}
}

func checkEntered(t *testing.T, f impl.Frame) {
	t.Helper()
	want := make([]int, impl.MaxVars)
	for local, word := range f.Locals {
		want[local] = word
	}
	for at, word := range f.Stack {
		want[3+at] = word
	}
	if vars, ok := impl.EnterAt(f); !slices.Equal(vars, want) || !ok {
		t.Errorf("EnterAt(%v) = %v %v, not %v", f, vars, ok, want)
	}
	if !impl.GoodFrame(f) {
		t.Errorf("GoodFrame(%v) is false", f)
	}
}

func checkLeft(t *testing.T, tr impl.Translated, k int, vars []int, told []int) {
	t.Helper()
	want := leftApart(tr, k, vars, told)
	if f, ok := impl.LeaveAt(tr, k, vars, told); !sameFrame(f, want) || !ok || !impl.GoodFrame(f) {
		t.Errorf("LeaveAt(%v, %d, %v, %v) = %v %v, not %v", tr, k, vars, told, f, ok, want)
	}
}

func checkLeaveRefused(t *testing.T, tr impl.Translated, k int, vars []int, told []int) {
	t.Helper()
	if f, ok := impl.LeaveAt(tr, k, vars, told); !isNoFrame(f) || ok {
		t.Errorf("LeaveAt(%v, %d, %v, %v) = %v %v", tr, k, vars, told, f, ok)
	}
}

// checkLeftAtEach asks for promise 13: at each step and in the end the register
// code has come to the frame that the stack has, and where it is gone on from
// there by the stack all comes to the same. The parts that RunTo is told to be
// made of are asked for, too.
func checkLeftAtEach(t *testing.T, l []impl.SStep, f impl.Frame) {
	t.Helper()
	tr, _ := impl.Translate(l)
	first, _ := impl.EnterAt(f)
	for k := range len(l) + 1 {
		checkRunSteps(t, l, f, 0, k)
		want, ok := runStepsApart(l, f, 0, k)
		if !ok {
			checkRunToRefused(t, l, f, k)
			continue
		}
		after, ok := impl.RunTo(l, f, k)
		byStack, okStack := impl.RunSteps(l, f, 0, k)
		if !sameFrame(after, want) || !sameFrame(after, byStack) || !ok || !okStack {
			t.Errorf("RunTo(%s, %v, %d) = %v %v, RunSteps %v %v, not %v", stackStepsText(l), f, k, after, ok, byStack, okStack, want)
			return
		}
		told, vars, _ := impl.RunCode(tr.Code[:tr.At[k]], first)
		checkLeft(t, tr, k, vars, append(slices.Clone(f.Told), told...))
		checkRunSteps(t, l, after, k, len(l))
	}
}

// checkStepsRefused is for what is no good code.
func checkStepsRefused(t *testing.T, l []impl.SStep) {
	t.Helper()
	if impl.GoodSteps(l) {
		t.Errorf("GoodSteps(%s)", stackStepsText(l))
	}
	if depths, ok := impl.DepthsOf(l); len(depths) != 0 || ok {
		t.Errorf("DepthsOf(%s) = %v %v", stackStepsText(l), depths, ok)
	}
	if tr, ok := impl.Translate(l); !isNoTranslated(tr) || ok {
		t.Errorf("Translate(%s) = %v %v", stackStepsText(l), tr, ok)
	}
	for k := -1; k <= min(len(l), 25)+1; k++ {
		for depth := range impl.MaxStack + 1 {
			f := frameOf([]int{1, 2, 3}, []int{4, 5, 6, 7}[:depth], nil)
			checkRunStepsRefused(t, l, f, k, k)
			checkRunStepsRefused(t, l, f, 0, k)
			checkRunStepsRefused(t, l, f, k, len(l))
			checkRunToRefused(t, l, f, k)
		}
	}
}

// checkFrameRefused is for what is no good frame.
func checkFrameRefused(t *testing.T, f impl.Frame) {
	t.Helper()
	if impl.GoodFrame(f) {
		t.Errorf("GoodFrame(%v)", f)
	}
	if vars, ok := impl.EnterAt(f); len(vars) != 0 || ok {
		t.Errorf("EnterAt(%v) = %v %v", f, vars, ok)
	}
	for _, text := range []string{"", "1 2 3 4", "a b c a out out out out", "dup", "drop", "1 =a"} {
		l := stackStepsAs(t, text)
		for from := range len(l) + 1 {
			for to := from; to <= len(l); to++ {
				checkRunStepsRefused(t, l, f, from, to)
			}
			checkRunToRefused(t, l, f, from)
		}
	}
}

func TestStackCodeBounds(t *testing.T) {
	if impl.MaxStack != 4 || impl.MaxLocals != 3 || impl.MaxSteps != 20 {
		t.Error(impl.MaxStack, impl.MaxLocals, impl.MaxSteps)
	}
	ops := []int{impl.SPush, impl.SLoad, impl.SStore, impl.SAdd, impl.SSub, impl.SMul, impl.SLess, impl.SDup, impl.SDrop, impl.SOut}
	if !slices.Equal(ops, []int{1, 2, 3, 4, 5, 6, 7, 8, 9, 10}) {
		t.Error(ops)
	}
}

func TestDepthsOfKnown(t *testing.T) {
	known := []struct {
		steps, depths string
	}{
		{"", "0"}, {"5", "0 1"}, {"a", "0 1"}, {"0 65535", "0 1 2"}, {"c dup", "0 1 2"}, {"5 drop", "0 1 0"}, {"5 out", "0 1 0"}, {"5 =c", "0 1 0"},
		{"1 2 +", "0 1 2 1"}, {"1 2 -", "0 1 2 1"}, {"1 2 *", "0 1 2 1"}, {"1 2 <", "0 1 2 1"}, {"1 dup <", "0 1 2 1"},
		{"1 2 3 4", "0 1 2 3 4"}, {"a dup dup dup", "0 1 2 3 4"}, {"1 2 3 4 + + +", "0 1 2 3 4 3 2 1"},
		{"1 2 3 4 drop out =a drop", "0 1 2 3 4 3 2 1 0"}, {"1 2 3 4 + dup", "0 1 2 3 4 3 4"},
		{"1 2 3 4 drop drop drop drop 1 2 3 4 out out out out", "0 1 2 3 4 3 2 1 0 1 2 3 4 3 2 1 0"},
		{"a out b out c out 1 =a 2 =b 3 =c", "0 1 0 1 0 1 0 1 0 1 0 1 0"},
	}
	for _, k := range known {
		l := stackStepsAs(t, k.steps)
		checkDepths(t, l, numbersAs(t, k.depths))
		checkStackCode(t, l)
	}
	for _, text := range []string{
		"dup", "drop", "out", "=a", "+", "-", "*", "<", "1 +", "1 -", "1 *", "1 <", "a +", "1 drop drop", "1 out out", "1 =b =b", "1 out dup", "1 2 + +", "1 2 * < 3",
		"1 2 3 4 5", "a b c a b", "1 2 3 4 dup", "a dup dup dup dup", "1 2 3 4 drop 5 6", "1 2 3 4 + + + + 1", "dup 1", "drop 1", "1 drop =a 1",
	} {
		checkStepsRefused(t, stackStepsAs(t, text))
	}
}

// All code of up to three steps of any kind, good or not.
func TestGoodStepsOfShortCode(t *testing.T) {
	kinds := append(someStackSteps(0, 65535), impl.SStep{}, impl.SStep{Op: 11}, impl.SStep{Op: impl.SPush, N: 65536}, impl.SStep{Op: impl.SLoad, N: 3}, impl.SStep{Op: impl.SStore, N: -1}, impl.SStep{Op: impl.SDup, N: 1})
	good := [4]int{}
	for length := range 4 {
		startsBelow(len(kinds), length, func(numbers []int) {
			var l []impl.SStep
			for _, number := range numbers {
				l = append(l, kinds[number])
			}
			depths, ok := depthsApart(l)
			got, gotOk := impl.DepthsOf(l)
			if !slices.Equal(got, depths) || gotOk != ok || impl.GoodSteps(l) != ok {
				t.Fatalf("DepthsOf(%s) = %v %v, not %v %v", stackStepsText(l), got, gotOk, depths, ok)
			}
			if tr, gotOk := impl.Translate(l); gotOk != ok || !ok && !isNoTranslated(tr) {
				t.Fatalf("Translate(%s) = %v %v", stackStepsText(l), tr, gotOk)
			}
			good[length] += oneWhere(ok)
		})
	}
	// Five put one on an empty stack. Then six put one on, and five take it
	// off; with two on the stack there are the four pairs beside.
	if good != [4]int{1, 5, 5 * (6 + 5), 5*6*(6+5+4) + 5*5*5} {
		t.Error(good)
	}
}

func TestTranslateKnown(t *testing.T) {
	known := []struct {
		steps, code, at, maps string
	}{
		{"", "", "0", ""},
		// SPush, SLoad, SDup and SDrop make no code.
		{"5", "", "0 0", "|#5"},
		{"0", "", "0 0", "|#0"},
		{"65535", "", "0 0", "|#65535"},
		{"a", "", "0 0", "|a"},
		{"c", "", "0 0", "|c"},
		{"5 dup", "", "0 0 0", "|#5|#5 #5"},
		{"b dup dup", "", "0 0 0 0", "|b|b b|b b b"},
		{"1 2 + dup", "d=1;e=2;d=d+e", "0 0 0 3 3", "|#1|#1 #2|d|d d"},
		{"c 1 2 + dup", "e=1;f=2;e=e+f", "0 0 0 0 3 3", "|c|c #1|c #1 #2|c e|c e e"},
		{"5 drop", "", "0 0 0", "|#5|"},
		{"a drop", "", "0 0 0", "|a|"},
		{"1 2 + drop", "d=1;e=2;d=d+e", "0 0 0 3 3", "|#1|#1 #2|d|"},
		{"a 5 drop b", "", "0 0 0 0 0", "|a|a #5|a|a b"},
		// SOut.
		{"7 out", "d=7;!d", "0 0 2", "|#7|"},
		{"c out", "!c", "0 0 1", "|c|"},
		{"a b + out", "d=a+b;!d", "0 0 0 1 2", "|a|a b|d|"},
		{"a 7 out", "e=7;!e", "0 0 0 2", "|a|a #7|a"},
		{"7 b out", "!b", "0 0 0 1", "|#7|#7 b|#7"},
		{"a b + dup out", "d=a+b;!d", "0 0 0 1 1 2", "|a|a b|d|d d|d"},
		{"1 2 3 4 out", "g=4;!g", "0 0 0 0 0 2", "|#1|#1 #2|#1 #2 #3|#1 #2 #3 #4|#1 #2 #3"},
		{"7 dup out out", "e=7;!e;d=7;!d", "0 0 0 2 4", "|#7|#7 #7|#7|"},
		// SAdd and so on: a Const below, above, in both and in none.
		{"1 2 +", "d=1;e=2;d=d+e", "0 0 0 3", "|#1|#1 #2|d"},
		{"1 b -", "d=1;d=d-b", "0 0 0 2", "|#1|#1 b|d"},
		{"a 2 *", "e=2;d=a*e", "0 0 0 2", "|a|a #2|d"},
		{"a b <", "d=a<b", "0 0 0 1", "|a|a b|d"},
		{"b b -", "d=b-b", "0 0 0 1", "|b|b b|d"},
		{"7 dup <", "d=7;e=7;d=d<e", "0 0 0 3", "|#7|#7 #7|d"},
		{"c a 2 -", "f=2;e=a-f", "0 0 0 0 2", "|c|c a|c a #2|c e"},
		{"0 1 2 3 *", "f=2;g=3;f=f*g", "0 0 0 0 0 3", "|#0|#0 #1|#0 #1 #2|#0 #1 #2 #3|#0 #1 f"},
		{"1 2 3 4 + + +", "f=3;g=4;f=f+g;e=2;e=e+f;d=1;d=d+e", "0 0 0 0 0 3 5 7", "|#1|#1 #2|#1 #2 #3|#1 #2 #3 #4|#1 #2 f|#1 e|d"},
		{"1 2 + 3 4 * -", "d=1;e=2;d=d+e;e=3;f=4;e=e*f;d=d-e", "0 0 0 3 3 3 6 7", "|#1|#1 #2|d|d #3|d #3 #4|d e|d"},
		{"a b + dup dup dup - < *", "d=a+b;f=d-d;e=d<f;d=d*e", "0 0 0 1 1 1 1 2 3 4", "|a|a b|d|d d|d d d|d d d d|d d f|d e|d"},
		{"a b + dup 1 -", "d=a+b;f=1;e=d-f", "0 0 0 1 1 1 3", "|a|a b|d|d d|d d #1|d e"},
		// SStore of a Const, of a name and of the local itself.
		{"5 =a", "a=5", "0 0 1", "|#5|"},
		{"0 =c", "c=0", "0 0 1", "|#0|"},
		{"b =a", "a=b", "0 0 1", "|b|"},
		{"a =c", "c=a", "0 0 1", "|a|"},
		{"a =a", "", "0 0 0", "|a|"},
		{"c =c", "", "0 0 0", "|c|"},
		{"a b + =c", "d=a+b;c=d", "0 0 0 1 2", "|a|a b|d|"},
		{"a b + dup =a", "d=a+b;a=d", "0 0 0 1 1 2", "|a|a b|d|d d|d"},
		{"b a 1 + =c", "f=1;e=a+f;c=e", "0 0 0 0 2 3", "|b|b a|b a #1|b e|b"},
		// A local that is on the stack still.
		{"a 5 =a", "d=a;a=5", "0 0 0 2", "|a|a #5|d"},
		{"a b =a", "d=a;a=b", "0 0 0 2", "|a|a b|d"},
		{"c 5 =c", "d=c;c=5", "0 0 0 2", "|c|c #5|d"},
		{"a 5 =b", "b=5", "0 0 0 1", "|a|a #5|a"},
		{"a b =c", "c=b", "0 0 0 1", "|a|a b|a"},
		{"7 a 5 =a", "e=a;a=5", "0 0 0 0 2", "|#7|#7 a|#7 a #5|#7 e"},
		{"a 2 =a a + out", "d=a;a=2;d=d+a;!d", "0 0 0 2 2 3 4", "|a|a #2|d|d a|d|"},
		{"a dup 7 =a", "d=a;e=a;a=7", "0 0 0 0 3", "|a|a a|a a #7|d e"},
		{"a a a 7 =a", "d=a;e=a;f=a;a=7", "0 0 0 0 0 4", "|a|a a|a a a|a a a #7|d e f"},
		{"a b a 9 =a", "d=a;f=a;a=9", "0 0 0 0 0 3", "|a|a b|a b a|a b a #9|d b f"},
		{"a b a 9 =b", "e=b;b=9", "0 0 0 0 0 2", "|a|a b|a b a|a b a #9|a e a"},
		{"a b a 9 =c", "c=9", "0 0 0 0 0 1", "|a|a b|a b a|a b a #9|a b a"},
		// Also where the local itself is stored, which else makes no code.
		{"a a =a", "d=a", "0 0 0 1", "|a|a a|d"},
		{"a dup dup dup =a", "d=a;e=a;f=a", "0 0 0 0 0 3", "|a|a a|a a a|a a a a|d e f"},
		{"b a =a", "", "0 0 0 0", "|b|b a|b"},
		// What was copied once is not the local any more.
		{"a 5 =a 6 =a", "d=a;a=5;a=6", "0 0 0 2 2 3", "|a|a #5|d|d #6|d"},
		{"a 5 =a =a", "d=a;a=5;a=d", "0 0 0 2 3", "|a|a #5|d|"},
		{"a 5 =a dup 6 =a", "d=a;a=5;a=6", "0 0 0 2 2 2 3", "|a|a #5|d|d d|d d #6|d d"},
		{"a 5 =a a 6 =a", "d=a;a=5;e=a;a=6", "0 0 0 2 2 2 4", "|a|a #5|d|d a|d a #6|d e"},
		{"a b =a =b", "d=a;a=b;b=d", "0 0 0 2 3", "|a|a b|d|"},
		// A Const is no local that has its number.
		{"0 5 =a", "a=5", "0 0 0 1", "|#0|#0 #5|#0"},
		{"1 b =b", "", "0 0 0 0", "|#1|#1 b|#1"},
		{"0 =a", "a=0", "0 0 1", "|#0|"},
		{"2 =c", "c=2", "0 0 1", "|#2|"},
		{"3 4 =a", "a=4", "0 0 0 1", "|#3|#3 #4|#3"},
		// A local that is counted down.
		{"a out a 1 - =a", "!a;e=1;d=a-e;a=d", "0 0 1 1 1 3 4", "|a||a|a #1|d|"},
	}
	for _, k := range known {
		l := stackStepsAs(t, k.steps)
		checkTranslated(t, l, impl.Translated{Code: readAs(t, k.code), At: numbersAs(t, k.at), Maps: mapsAs(t, k.maps)})
		checkStackCode(t, l)
		checkLeftAtEach(t, l, frameOf([]int{1000, 200, 65535}, nil, []int{5}))
	}
}

// All good code of up to three steps of all kinds, and longer code of fewer
// kinds. Words and locals have numbers in common.
func TestTranslateOfShortCode(t *testing.T) {
	frames := []impl.Frame{frameOf([]int{65535, 3, 40000}, nil, nil), frameOf([]int{1, 0, 2}, nil, []int{65535, 0})}
	check := func(l []impl.SStep) {
		checkStackCode(t, l)
		for _, f := range frames {
			checkLeftAtEach(t, l, f)
		}
		if t.Failed() {
			t.FailNow()
		}
	}
	for length := range 4 {
		eachGoodSteps(someStackSteps(0, 1, 65535), length, nil, check)
	}
	few := stackStepsAs(t, "0 a b =a =b - dup drop out")
	for length := 4; length < 6; length++ {
		eachGoodSteps(few, length, nil, check)
	}
	eachGoodSteps(few, 6, nil, func(l []impl.SStep) { checkStackCode(t, l) })
}

// Promise 13, of drawn code up to MaxSteps.
func TestLeftAtAnyStep(t *testing.T) {
	d := &lots{state: 1992}
	met := map[string]int{}
	for round := range 3000 {
		l := d.stackSteps(round % (impl.MaxSteps + 1))
		checkStackCode(t, l)
		for range 2 {
			checkLeftAtEach(t, l, d.frame(0, d.below(100)))
		}
		tr, _ := impl.Translate(l)
		for k, locs := range tr.Maps {
			met["full"] += oneWhere(len(locs) == impl.MaxStack)
			for below, loc := range locs {
				met["Const"] += oneWhere(loc.Const)
				met["local"] += oneWhere(!loc.Const && loc.N < 3)
				met["own place"] += oneWhere(!loc.Const && loc.N == 3+below)
				met["other place"] += oneWhere(!loc.Const && loc.N > 2 && loc.N < 3+below)
			}
			met["no code"] += oneWhere(k > 0 && tr.At[k] == tr.At[k-1])
			met["copy to a place"] += oneWhere(k > 0 && tr.At[k] > tr.At[k-1] && tr.Code[tr.At[k-1]].Op == impl.OpCopy && tr.Code[tr.At[k-1]].Dst > 2)
			met["two copies"] += oneWhere(k > 0 && tr.At[k] >= tr.At[k-1]+2 && tr.Code[tr.At[k-1]].Op == impl.OpCopy && tr.Code[tr.At[k-1]+1].Op == impl.OpCopy)
		}
		if t.Failed() {
			return
		}
	}
	for _, what := range []string{"full", "Const", "local", "own place", "other place", "no code", "copy to a place", "two copies"} {
		if met[what] < 100 {
			t.Error("only", met[what], "times", what)
		}
	}
}

// Code that is made of good stack code is never too long: what comes nearest
// to the bounds has as many steps as the stack code.
func TestTranslateAtMaxSteps(t *testing.T) {
	longest := 0
	for _, text := range []string{
		"1 out", "1 =a", "1 drop", "a =a", "1 2 + out", "1 dup out out", "1 dup dup dup out out out out", "a a a 7 =a out out out", "a dup dup dup =a + + =b", "1 2 3 4 + + + out", "a 5 =a b 6 =b out out",
	} {
		part := stackStepsAs(t, text)
		l := slices.Repeat(part, 20)[:impl.MaxSteps]
		checkStackCode(t, l)
		checkLeftAtEach(t, l, frameOf([]int{65535, 0, 7}, nil, nil))
		checkStepsRefused(t, slices.Repeat(part, 20)[:impl.MaxSteps+1])
		tr, _ := impl.Translate(l)
		longest = max(longest, len(tr.Code))
	}
	if longest != impl.MaxSteps {
		t.Error("the longest code has", longest, "steps")
	}
	for _, count := range []int{22, 30, 31, 100, 100000} {
		checkStepsRefused(t, slices.Repeat(stackStepsAs(t, "1 drop"), count)[:count])
	}
}

// stackReach is a list that steps come to, and those with the longest code.
type stackReach struct {
	locs  []impl.Loc
	code  int
	steps []impl.SStep
}

// reachedBy goes on by each step from what was reached by one step less.
func reachedBy(reached []stackReach, kinds []impl.SStep) []stackReach {
	var next []stackReach
	for _, r := range reached {
		for _, s := range kinds {
			need, more := depthApart(s.Op)
			if len(r.locs) < need || len(r.locs)+more > impl.MaxStack {
				continue
			}
			code, locs := laidApart(r.locs, s)
			longer := stackReach{locs: locs, code: r.code + len(code), steps: append(slices.Clone(r.steps), s)}
			at := slices.IndexFunc(next, func(other stackReach) bool { return slices.Equal(other.locs, locs) })
			if at == -1 {
				next = append(next, longer)
			} else if next[at].code < longer.code {
				next[at] = longer
			}
		}
	}
	return next
}

// Whatever the steps: what is laid hangs on the list alone, so the longest code
// to each list that can be reached is the longest there is. That MaxCode is not
// met so is why no good stack code is refused.
func TestTranslateIsNeverTooLong(t *testing.T) {
	reached := []stackReach{{}}
	for count := 1; count <= impl.MaxSteps; count++ {
		reached = reachedBy(reached, someStackSteps(9))
		longest := 0
		for _, r := range reached {
			longest = max(longest, r.code)
			checkStackCode(t, r.steps)
		}
		if longest > count || longest > impl.MaxCode {
			t.Errorf("%d steps are translated to %d", count, longest)
		}
		if t.Failed() {
			return
		}
	}
}

func TestRunStepsKnown(t *testing.T) {
	known := []struct {
		steps               string
		from, to            int
		stack               string
		locals, after, told string
	}{
		{"", 0, 0, "", "1 2 3", "", ""},
		{"5", 0, 1, "", "1 2 3", "5", ""},
		{"65535", 0, 1, "", "1 2 3", "65535", ""},
		{"a", 0, 1, "", "1 2 3", "1", ""},
		{"c b", 0, 2, "", "1 2 3", "3 2", ""},
		{"5 =a", 0, 2, "", "5 2 3", "", ""},
		{"5 =c", 0, 2, "", "1 2 5", "", ""},
		{"c =a a", 0, 3, "", "3 2 3", "3", ""},
		{"a 5 =a", 0, 3, "", "5 2 3", "1", ""},
		{"7 2 +", 0, 3, "", "1 2 3", "9", ""},
		{"7 2 -", 0, 3, "", "1 2 3", "5", ""},
		{"2 7 -", 0, 3, "", "1 2 3", "65531", ""},
		{"7 2 *", 0, 3, "", "1 2 3", "14", ""},
		{"7 2 <", 0, 3, "", "1 2 3", "0", ""},
		{"2 7 <", 0, 3, "", "1 2 3", "1", ""},
		{"7 7 <", 0, 3, "", "1 2 3", "0", ""},
		{"65535 1 +", 0, 3, "", "1 2 3", "0", ""},
		{"65535 65535 +", 0, 3, "", "1 2 3", "65534", ""},
		{"0 1 -", 0, 3, "", "1 2 3", "65535", ""},
		{"0 65535 -", 0, 3, "", "1 2 3", "1", ""},
		{"256 256 *", 0, 3, "", "1 2 3", "0", ""},
		{"65535 65535 *", 0, 3, "", "1 2 3", "1", ""},
		{"65535 0 <", 0, 3, "", "1 2 3", "0", ""},
		{"0 65535 <", 0, 3, "", "1 2 3", "1", ""},
		{"32767 32768 <", 0, 3, "", "1 2 3", "1", ""},
		{"5 dup", 0, 2, "", "1 2 3", "5 5", ""},
		{"5 6 dup", 0, 3, "", "1 2 3", "5 6 6", ""},
		{"5 6 drop", 0, 3, "", "1 2 3", "5", ""},
		{"5 6 out", 0, 3, "", "1 2 3", "5", "6"},
		{"5 6 out out", 0, 4, "", "1 2 3", "", "6 5"},
		{"1 2 3 4 - - -", 0, 7, "", "1 2 3", "65534", ""},
		// From the midst to the midst, with words that are not those of the
		// steps ahead.
		{"1 2 - out", 1, 1, "9", "1 2 3", "9", ""},
		{"1 2 - out", 1, 2, "9", "1 2 3", "9 2", ""},
		{"1 2 - out", 1, 3, "9", "1 2 3", "7", ""},
		{"1 2 - out", 2, 3, "9 4", "1 2 3", "5", ""},
		{"1 2 - out", 3, 4, "9", "1 2 3", "", "9"},
		{"1 2 - out", 4, 4, "", "1 2 3", "", ""},
		{"1 2 3 4 =a", 4, 4, "6 7 8 9", "1 2 3", "6 7 8 9", ""},
		{"1 2 3 4 =a", 4, 5, "6 7 8 9", "9 2 3", "6 7 8", ""},
		{"1 2 3 4", 4, 4, "6 7 8 9", "1 2 3", "6 7 8 9", ""},
	}
	for _, k := range known {
		for _, told := range [][]int{nil, {65535}, {0, 4, 0}} {
			l, f := stackStepsAs(t, k.steps), frameOf([]int{1, 2, 3}, numbersAs(t, k.stack), told)
			want := frameOf(numbersAs(t, k.locals), numbersAs(t, k.after), append(slices.Clone(told), numbersAs(t, k.told)...))
			checkRanSteps(t, l, f, k.from, k.to, want)
			checkRunSteps(t, l, f, k.from, k.to)
		}
	}
}

func TestRunStepsOfPairs(t *testing.T) {
	some := []int{0, 1, 2, 3, 255, 256, 257, 32766, 32767, 32768, 32769, 65533, 65534, 65535}
	for op := impl.SAdd; op <= impl.SLess; op++ {
		for _, a := range some {
			for _, b := range some {
				want := frameOf([]int{a, b, 5}, []int{pairOf(stackPairApart(op), a, b)}, nil)
				l := []impl.SStep{{Op: impl.SPush, N: a}, {Op: impl.SPush, N: b}, {Op: op}}
				checkRanSteps(t, l, frameOf([]int{a, b, 5}, nil, nil), 0, 3, want)
				checkRanSteps(t, l, frameOf([]int{a, b, 5}, []int{a, b}, nil), 2, 3, want)
				l[0], l[1] = impl.SStep{Op: impl.SLoad, N: 0}, impl.SStep{Op: impl.SLoad, N: 1}
				checkRanSteps(t, l, frameOf([]int{a, b, 5}, nil, nil), 0, 3, want)
				checkLeftAtEach(t, l, frameOf([]int{a, b, 5}, nil, nil))
			}
		}
	}
}

// In parts and whole, from each step to each other one.
func TestRunStepsInParts(t *testing.T) {
	d := &lots{state: 13}
	for round := range 400 {
		l := d.stackSteps(round % (impl.MaxSteps + 1))
		depths, _ := depthsApart(l)
		for from := range len(l) + 1 {
			f := d.frame(depths[from], d.below(101))
			for to := from; to <= len(l); to++ {
				checkRunSteps(t, l, f, from, to)
				half, okHalf := impl.RunSteps(l, f, from, (from+to)/2)
				inParts, okParts := impl.RunSteps(l, half, (from+to)/2, to)
				whole, ok := impl.RunSteps(l, f, from, to)
				if !sameFrame(inParts, whole) || ok != (okHalf && okParts) {
					t.Fatalf("RunSteps(%s, %v) from %d to %d: %v %v in parts, %v %v whole", stackStepsText(l), f, from, to, inParts, okParts, whole, ok)
				}
			}
			for to := -1; to < from; to++ {
				checkRunStepsRefused(t, l, f, from, to)
			}
			checkRunStepsRefused(t, l, f, from, len(l)+1)
			for depth := range impl.MaxStack + 1 {
				if depth != depths[from] {
					checkRunStepsRefused(t, l, d.frame(depth, 0), from, from)
					checkRunStepsRefused(t, l, d.frame(depth, 0), from, len(l))
				}
			}
		}
	}
}

// 100 are told, and one more.
func TestStackCodeTellsAtMost100(t *testing.T) {
	d := &lots{state: 100}
	for outs := range 11 {
		l := slices.Repeat(stackStepsAs(t, "a out"), outs)
		for _, told := range []int{100 - outs, 101 - outs, 100} {
			if told > 100 {
				continue
			}
			f := d.frame(0, told)
			checkLeftAtEach(t, l, f)
			after, ok := impl.RunSteps(l, f, 0, len(l))
			left, okLeft := impl.RunTo(l, f, len(l))
			if want := told+outs <= 100; ok != want || okLeft != want || want && (len(after.Told) != told+outs || len(left.Told) != told+outs) {
				t.Error(outs, told, after, ok, left, okLeft)
			}
			if told+outs <= 100 || outs == 0 {
				continue
			}
			// Left ahead of the one that is too many it does well.
			last := 2 * (100 - told)
			checkRunSteps(t, l, f, 0, last+1)
			checkRunStepsRefused(t, l, f, 0, last+2)
			checkRunToRefused(t, l, f, last+2)
			if left, ok := impl.RunTo(l, f, last+1); len(left.Told) != 100 || !slices.Equal(left.Stack, f.Locals[:1]) || !ok {
				t.Error(outs, told, left, ok)
			}
		}
	}
}

func TestGoodFrameKnown(t *testing.T) {
	for depth := range impl.MaxStack + 1 {
		for _, told := range []int{0, 1, 99, 100} {
			for _, word := range []int{0, 1, 32768, 65535} {
				checkEntered(t, frameOf(slices.Repeat([]int{word}, 3), slices.Repeat([]int{word}, depth), slices.Repeat([]int{word}, told)))
			}
		}
	}
	d := &lots{state: 4}
	for range 200 {
		checkEntered(t, d.frame(d.below(5), d.below(101)))
	}
	known := []struct {
		stack string
		vars  string
	}{
		{"", "7 8 9 0 0 0 0 0"}, {"1", "7 8 9 1 0 0 0 0"}, {"1 65535", "7 8 9 1 65535 0 0 0"}, {"4 3 2", "7 8 9 4 3 2 0 0"}, {"4 3 2 1", "7 8 9 4 3 2 1 0"},
	}
	for _, k := range known {
		f := frameOf([]int{7, 8, 9}, numbersAs(t, k.stack), []int{77})
		if vars, ok := impl.EnterAt(f); !slices.Equal(vars, numbersAs(t, k.vars)) || !ok {
			t.Errorf("EnterAt(%v) = %v %v", f, vars, ok)
		}
	}
}

func TestFramesAreRefused(t *testing.T) {
	good := frameOf([]int{1, 2, 3}, nil, nil)
	for _, count := range []int{0, 1, 2, 4, 8, 1000} {
		checkFrameRefused(t, frameOf(make([]int, count), nil, nil))
		checkFrameRefused(t, frameOf(make([]int, count), []int{1, 2}, []int{3}))
	}
	for _, count := range []int{5, 6, 20, 1000} {
		checkFrameRefused(t, frameOf(good.Locals, make([]int, count), nil))
	}
	for _, count := range []int{101, 102, 1000, 100000} {
		checkFrameRefused(t, frameOf(good.Locals, nil, make([]int, count)))
	}
	for _, word := range noWords() {
		for at := range impl.MaxLocals {
			f := cloneFrame(good)
			f.Locals[at] = word
			checkFrameRefused(t, f)
		}
		for depth := 1; depth <= impl.MaxStack; depth++ {
			for at := range depth {
				f := frameOf(good.Locals, make([]int, depth), nil)
				f.Stack[at] = word
				checkFrameRefused(t, f)
			}
		}
		for _, told := range []int{1, 2, 50, 100} {
			for _, at := range []int{0, told / 2, told - 1} {
				f := frameOf(good.Locals, nil, make([]int, told))
				f.Told[at] = word
				checkFrameRefused(t, f)
			}
		}
	}
	checkFrameRefused(t, impl.Frame{})
}

// wrongStackSteps have something that no step has.
func wrongStackSteps() []impl.SStep {
	var wrong []impl.SStep
	for _, op := range []int{math.MinInt, math.MinInt + 1, -1 << 32, -10, -2, -1, 0, 11, 12, 100, 1<<32 + 1, 1<<32 + 4, math.MaxInt - 1, math.MaxInt} {
		wrong = append(wrong, impl.SStep{Op: op}, impl.SStep{Op: op, N: 1})
	}
	for _, n := range noWords() {
		wrong = append(wrong, impl.SStep{Op: impl.SPush, N: n})
	}
	for _, n := range append(noWords(), 3, 4, 7, 65535, 1<<32) {
		wrong = append(wrong, impl.SStep{Op: impl.SLoad, N: n}, impl.SStep{Op: impl.SStore, N: n})
	}
	for op := impl.SAdd; op <= impl.SOut; op++ {
		for _, n := range append(noWords(), 1, 2, 3, 65535) {
			wrong = append(wrong, impl.SStep{Op: op, N: n})
		}
	}
	return wrong
}

func TestStackCodeRefusesWrongSteps(t *testing.T) {
	for _, wrong := range wrongStackSteps() {
		checkStepsRefused(t, []impl.SStep{wrong})
		// Where two are on the stack each Op but for its N would do.
		around := stackStepsAs(t, "1 2 drop")
		for at := range len(around) + 1 {
			checkStepsRefused(t, slices.Insert(slices.Clone(around), at, wrong))
		}
		long := slices.Repeat(stackStepsAs(t, "1 out"), 10)
		for _, at := range []int{0, 10, 19} {
			l := slices.Clone(long)
			l[at] = wrong
			checkStepsRefused(t, l)
		}
	}
}

// Drawn good code of which one step is another one, or is gone, or one more.
func TestStackCodeRefusesChangedCode(t *testing.T) {
	d := &lots{state: 55}
	is := [2]int{}
	for range 4000 {
		l := d.stackSteps(1 + d.below(impl.MaxSteps))
		at := d.below(len(l))
		s := impl.SStep{Op: d.below(12), N: d.below(5) - 1}
		switch d.below(3) {
		case 0:
			l[at] = s
		case 1:
			l = slices.Delete(l, at, at+1)
		case 2:
			l = slices.Insert(l, at, s)
		}
		_, ok := depthsApart(l)
		if ok {
			checkStackCode(t, l)
			checkLeftAtEach(t, l, d.frame(0, 3))
		} else {
			checkStepsRefused(t, l)
		}
		is[oneWhere(ok)]++
		if t.Failed() {
			return
		}
	}
	if min(is[0], is[1]) < 400 {
		t.Error(is)
	}
}

func TestRunStepsRefusesWrongPlaces(t *testing.T) {
	for _, text := range []string{"", "1", "a b + out", "1 drop", "1 2 3 4"} {
		l := stackStepsAs(t, text)
		depths, _ := depthsApart(l)
		for _, wrong := range append(farNumbers(), -2, -1, len(l)+1, len(l)+2, 20, 21) {
			for depth := range impl.MaxStack + 1 {
				f := frameOf([]int{1, 2, 3}, make([]int, depth), nil)
				for right := range len(l) + 1 {
					checkRunStepsRefused(t, l, f, wrong, right)
					checkRunStepsRefused(t, l, f, right, wrong)
				}
				checkRunStepsRefused(t, l, f, wrong, wrong)
				checkRunToRefused(t, l, f, wrong)
			}
		}
		// A frame with another depth, though it would do for the steps.
		for from, right := range depths {
			for depth := range impl.MaxStack + 1 {
				f := frameOf([]int{1, 2, 3}, make([]int, depth), nil)
				if depth != right {
					checkRunStepsRefused(t, l, f, from, from)
					checkRunStepsRefused(t, l, f, from, len(l))
				}
				if depth != 0 {
					checkRunToRefused(t, l, f, from)
				}
			}
		}
	}
}

// LeaveAt of words that no run has come to: it goes by Maps alone.
func TestLeaveAtKnown(t *testing.T) {
	tr, ok := impl.Translate(stackStepsAs(t, "a 2 =a a + 65535 b out out dup 0 c"))
	if !ok {
		t.Fatal(tr)
	}
	vars := []int{10, 11, 12, 13, 14, 15, 16, 17}
	stacks := []string{"", "10", "10 2", "13", "13 10", "13", "13 65535", "13 65535 11", "13 65535", "13", "13 13", "13 13 0", "13 13 0 12"}
	if len(tr.Maps) != len(stacks) {
		t.Fatal(tr)
	}
	for k, stack := range stacks {
		for _, told := range [][]int{nil, {5}, {65535, 0, 1}, make([]int, 100)} {
			want := frameOf([]int{10, 11, 12}, numbersAs(t, stack), told)
			if f, ok := impl.LeaveAt(tr, k, vars, told); !sameFrame(f, want) || !ok {
				t.Errorf("LeaveAt at %d: %v %v, not %v", k, f, ok, want)
			}
			checkLeft(t, tr, k, vars, told)
		}
	}
	none, _ := impl.Translate(nil)
	checkLeft(t, none, 0, vars, nil)
	checkLeft(t, impl.Translated{At: []int{0}, Maps: [][]impl.Loc{nil}}, 0, vars, []int{1})
	checkLeft(t, impl.Translated{Code: []impl.Instr{}, At: []int{0}, Maps: [][]impl.Loc{{}}}, 0, vars, []int{})
}

func TestLeaveAtOfManyTranslations(t *testing.T) {
	d := &lots{state: 31}
	for round := range 1000 {
		tr := translateApart(d.stackSteps(round % (impl.MaxSteps + 1)))
		if !isToldApart(tr) {
			t.Fatal("reckoned apart it is not told by Translate:", tr)
		}
		for k := range tr.Maps {
			checkLeft(t, tr, k, d.words(), d.manyWords(d.below(101)))
		}
	}
}

func TestLeaveAtRefusesWrongWordsAndPlaces(t *testing.T) {
	for _, text := range []string{"", "a 2 =a a + out", "1 2 3 4"} {
		l := stackStepsAs(t, text)
		tr := translateApart(l)
		for k := range tr.Maps {
			for _, count := range []int{0, 1, 3, 7, 9, 16, 1000} {
				checkLeaveRefused(t, tr, k, make([]int, count), nil)
			}
			for _, count := range []int{101, 102, 1000, 100000} {
				checkLeaveRefused(t, tr, k, zeroWords(), make([]int, count))
			}
			for _, word := range noWords() {
				for name := range impl.MaxVars {
					vars := zeroWords()
					vars[name] = word
					checkLeaveRefused(t, tr, k, vars, nil)
				}
				for _, count := range []int{1, 2, 100} {
					for _, at := range []int{0, count / 2, count - 1} {
						told := make([]int, count)
						told[at] = word
						checkLeaveRefused(t, tr, k, zeroWords(), told)
					}
				}
			}
		}
		for _, k := range append(farNumbers(), -2, -1, len(l)+1, len(l)+2, 20, 21) {
			checkLeaveRefused(t, tr, k, zeroWords(), nil)
		}
	}
}

// checkNotTold is for what Translate never tells.
func checkNotTold(t *testing.T, tr impl.Translated) {
	t.Helper()
	if isToldApart(tr) {
		t.Errorf("%v may be told by Translate", tr)
	}
	for k := -1; k <= min(len(tr.Maps), 25)+1; k++ {
		checkLeaveRefused(t, tr, k, zeroWords(), nil)
		checkLeaveRefused(t, tr, k, []int{1, 2, 3, 4, 5, 6, 7, 8}, []int{9})
	}
}

func TestLeaveAtRefusesListsOfWrongLengths(t *testing.T) {
	whole := func() impl.Translated { return translateApart(stackStepsAs(t, "a 2 =a a + 7 out out")) }
	checkNotTold(t, impl.Translated{})
	for _, change := range []func(tr *impl.Translated){
		func(tr *impl.Translated) { tr.Code = nil },
		func(tr *impl.Translated) { tr.At = nil },
		func(tr *impl.Translated) { tr.Maps = nil },
		func(tr *impl.Translated) { tr.At, tr.Maps = nil, nil },
		func(tr *impl.Translated) { tr.Code, tr.At = nil, nil },
		func(tr *impl.Translated) { tr.Code, tr.Maps = nil, nil },
		func(tr *impl.Translated) { tr.Code = tr.Code[:len(tr.Code)-1] },
		func(tr *impl.Translated) { tr.Code = tr.Code[1:] },
		func(tr *impl.Translated) { tr.Code = append(tr.Code, tr.Code[0]) },
		func(tr *impl.Translated) { tr.At = tr.At[:len(tr.At)-1] },
		func(tr *impl.Translated) { tr.At = tr.At[1:] },
		func(tr *impl.Translated) { tr.At = append(tr.At, len(tr.Code)) },
		func(tr *impl.Translated) { tr.At = slices.Insert(tr.At, 0, 0) },
		func(tr *impl.Translated) { tr.At = slices.Insert(tr.At, 0, -1) },
		func(tr *impl.Translated) { tr.Maps = tr.Maps[:len(tr.Maps)-1] },
		func(tr *impl.Translated) { tr.Maps = tr.Maps[1:] },
		func(tr *impl.Translated) { tr.Maps = append(tr.Maps, nil) },
		func(tr *impl.Translated) { tr.Maps = slices.Insert(tr.Maps, 0, nil) },
		func(tr *impl.Translated) { tr.At, tr.Maps = append(tr.At, len(tr.Code)), append(tr.Maps, nil) },
		func(tr *impl.Translated) { tr.At, tr.Maps = tr.At[:1], tr.Maps[:1] },
		func(tr *impl.Translated) { tr.At, tr.Maps = tr.At[1:], tr.Maps[1:] },
		func(tr *impl.Translated) { tr.At, tr.Maps = slices.Repeat(tr.At, 3), slices.Repeat(tr.Maps, 3) },
		func(tr *impl.Translated) {
			*tr = impl.Translated{Code: tr.Code[:1], At: []int{0}, Maps: [][]impl.Loc{nil}}
		},
		func(tr *impl.Translated) { *tr = impl.Translated{At: []int{0}, Maps: make([][]impl.Loc, 1000)} },
		func(tr *impl.Translated) {
			*tr = impl.Translated{At: make([]int, 1000), Maps: make([][]impl.Loc, 1000)}
		},
		func(tr *impl.Translated) { *tr = impl.Translated{At: make([]int, 2), Maps: make([][]impl.Loc, 2)} },
	} {
		tr := whole()
		change(&tr)
		checkNotTold(t, tr)
	}
	for k := range whole().Maps {
		for _, change := range []func(tr *impl.Translated){
			func(tr *impl.Translated) { tr.Maps[k] = append(tr.Maps[k], impl.Loc{N: 2}) },
			func(tr *impl.Translated) { tr.Maps[k] = make([]impl.Loc, 5) },
			func(tr *impl.Translated) { tr.Maps[k] = make([]impl.Loc, 1000) },
			func(tr *impl.Translated) { tr.Maps[k] = slices.Insert(tr.Maps[k], 0, impl.Loc{Const: true, N: 9}) },
		} {
			tr := whole()
			change(&tr)
			checkNotTold(t, tr)
		}
		if tr := whole(); len(tr.Maps[k]) > 0 {
			tr.Maps[k] = tr.Maps[k][1:]
			checkNotTold(t, tr)
		}
	}
}

// Twenty steps are told, 21 are not, though each is as it may be.
func TestLeaveAtAtMaxSteps(t *testing.T) {
	for _, text := range []string{"1 out", "a drop", "1 =a"} {
		l := slices.Repeat(stackStepsAs(t, text), 11)
		for k := range impl.MaxSteps + 1 {
			checkLeft(t, translateApart(l[:impl.MaxSteps]), k, zeroWords(), nil)
		}
		checkNotTold(t, translateApart(l[:impl.MaxSteps+1]))
		checkNotTold(t, translateApart(l))
	}
	// Five on the stack.
	checkNotTold(t, translateApart(stackStepsAs(t, "1 2 3 4 5")))
	checkNotTold(t, translateApart(stackStepsAs(t, "a b c a b drop")))
}

func TestLeaveAtRefusesWrongNumbers(t *testing.T) {
	whole := func() impl.Translated { return translateApart(stackStepsAs(t, "a 2 =a a + 7 out out")) }
	for at := range whole().At {
		for _, wrong := range append(farNumbers(), -2, -1, len(whole().Code)+1, 30, 31) {
			tr := whole()
			tr.At[at] = wrong
			checkNotTold(t, tr)
		}
	}
	for k := range whole().Maps {
		for below := range whole().Maps[k] {
			for _, wrong := range append(noWords(), 7, 8, 9, 30) {
				tr := whole()
				tr.Maps[k][below] = impl.Loc{N: wrong}
				checkNotTold(t, tr)
			}
			for _, wrong := range noWords() {
				tr := whole()
				tr.Maps[k][below] = impl.Loc{Const: true, N: wrong}
				checkNotTold(t, tr)
			}
		}
	}
	for at := range whole().Code {
		for _, wrong := range wrongInstrs() {
			tr := whole()
			tr.Code[at] = wrong
			checkNotTold(t, tr)
		}
	}
	// Numbers that are none all along.
	for _, n := range noWords() {
		checkNotTold(t, translateApart([]impl.SStep{{Op: impl.SPush, N: n}}))
		checkNotTold(t, translateApart([]impl.SStep{{Op: impl.SPush, N: n}, {Op: impl.SStore, N: 1}}))
	}
	for _, n := range append(noWords(), 3, 4, 7, 8) {
		checkNotTold(t, translateApart([]impl.SStep{{Op: impl.SLoad, N: n}}))
		checkNotTold(t, translateApart([]impl.SStep{{Op: impl.SLoad, N: n}, {Op: impl.SOut}}))
		checkNotTold(t, translateApart([]impl.SStep{{Op: impl.SPush, N: 5}, {Op: impl.SStore, N: n}}))
		checkNotTold(t, translateApart([]impl.SStep{{Op: impl.SLoad, N: 0}, {Op: impl.SStore, N: n}}))
	}
}

func (d *lots) changedInstr(i impl.Instr) impl.Instr {
	by := 1 - 2*d.below(2)
	switch d.below(5) {
	case 0:
		i.Op += by
	case 1:
		i.Dst += by
	case 2:
		i.A += by
	case 3:
		i.B += by
	case 4:
		i.N += by
	}
	return i
}

// changedTranslated changes one thing, or cuts all lists at a step.
func (d *lots) changedTranslated(tr impl.Translated) impl.Translated {
	tr = cloneTranslated(tr)
	k, by := d.below(len(tr.Maps)), 1-2*d.below(2)
	switch d.below(8) {
	case 0:
		if len(tr.Code) > 0 {
			at := d.below(len(tr.Code))
			tr.Code[at] = d.changedInstr(tr.Code[at])
		}
	case 1:
		tr.At[k] += by
	case 2:
		if len(tr.Maps[k]) > 0 {
			tr.Maps[k][d.below(len(tr.Maps[k]))].N += by
		}
	case 3:
		if len(tr.Maps[k]) > 0 {
			at := d.below(len(tr.Maps[k]))
			tr.Maps[k][at].Const = !tr.Maps[k][at].Const
		}
	case 4:
		other := d.below(len(tr.Maps))
		tr.Maps[k], tr.Maps[other] = tr.Maps[other], tr.Maps[k]
	case 5:
		tr.Code, tr.At, tr.Maps = tr.Code[:tr.At[k]], tr.At[:k+1], tr.Maps[:k+1]
	case 6:
		tr.Code = slices.Insert(tr.Code, d.below(len(tr.Code)+1), d.instr())
	case 7:
		tr.Maps[k] = append(tr.Maps[k], impl.Loc{Const: d.below(2) == 0, N: d.below(8)})
	}
	return tr
}

// What is changed by a little may be told of other code: then it is as good as
// what was not changed.
func TestLeaveAtOfChangedTranslations(t *testing.T) {
	d := &lots{state: 2718}
	is := [2]int{}
	for range 20000 {
		tr := translateApart(d.stackSteps(1 + d.below(8)))
		changed := d.changedTranslated(tr)
		isTold := isToldApart(changed)
		if isTold {
			for k := range changed.Maps {
				checkLeft(t, changed, k, d.words(), []int{3})
			}
		} else {
			checkNotTold(t, changed)
		}
		is[oneWhere(isTold && !sameTranslated(tr, changed))]++
		if t.Failed() {
			return
		}
	}
	if is[0] < 5000 || is[1] < 1000 {
		t.Error(is)
	}
}

// behindSteps, behindFrame and behindTranslated have more behind the length of
// each list.
func behindSteps(l []impl.SStep) []impl.SStep {
	return append(slices.Clone(l), impl.SStep{Op: impl.SPush, N: 5}, impl.SStep{Op: -5, N: -5})[:len(l)]
}

func behindFrame(f impl.Frame) impl.Frame {
	return frameOf(behindNumbers(f.Locals), behindNumbers(f.Stack), behindNumbers(f.Told))
}

func behindTranslated(tr impl.Translated) impl.Translated {
	maps := make([][]impl.Loc, 0, len(tr.Maps)+1)
	for _, locs := range tr.Maps {
		maps = append(maps, append(slices.Clone(locs), impl.Loc{N: 1}, impl.Loc{Const: true, N: -5})[:len(locs)])
	}
	return impl.Translated{
		Code: append(slices.Clone(tr.Code), impl.Instr{Op: impl.OpOut}, impl.Instr{Op: -5})[:len(tr.Code)],
		At:   behindNumbers(tr.At),
		Maps: append(maps, []impl.Loc{{N: -5}})[:len(tr.Maps)],
	}
}

// wholeFrame and wholeTranslated are copies, also of what is behind the
// lengths.
func wholeFrame(f impl.Frame) impl.Frame {
	return frameOf(slices.Clone(f.Locals[:cap(f.Locals)]), slices.Clone(f.Stack[:cap(f.Stack)]), slices.Clone(f.Told[:cap(f.Told)]))
}

func wholeTranslated(tr impl.Translated) impl.Translated {
	whole := impl.Translated{Code: slices.Clone(tr.Code[:cap(tr.Code)]), At: slices.Clone(tr.At[:cap(tr.At)])}
	for _, locs := range tr.Maps[:cap(tr.Maps)] {
		whole.Maps = append(whole.Maps, slices.Clone(locs[:cap(locs)]))
	}
	return whole
}

// Promise 19: nothing is written into what is handed in, nor behind it.
func TestStackCodeLeavesWhatIsHandedIn(t *testing.T) {
	d := &lots{state: 1913}
	for round := range 600 {
		l := behindSteps(d.stackSteps(d.below(impl.MaxSteps + 1)))
		tr := behindTranslated(translateApart(l))
		vars, told := behindNumbers(d.words()), behindNumbers(d.manyWords(d.below(102)))
		if round%5 == 0 {
			tr = behindTranslated(d.changedTranslated(tr))
		}
		if round%7 == 0 && len(l) > 0 {
			l[d.below(len(l))].N = -1
		}
		keptSteps, keptTold, keptVars, kept := slices.Clone(l[:cap(l)]), slices.Clone(told[:cap(told)]), slices.Clone(vars[:cap(vars)]), wholeTranslated(tr)
		impl.GoodSteps(l)
		impl.DepthsOf(l)
		impl.Translate(l)
		for k := -1; k <= len(l)+1; k++ {
			for depth := range impl.MaxStack + 2 {
				f := behindFrame(d.frame(depth, d.below(102)))
				keptFrame := wholeFrame(f)
				impl.GoodFrame(f)
				impl.EnterAt(f)
				impl.RunSteps(l, f, 0, k)
				impl.RunSteps(l, f, k, k)
				impl.RunSteps(l, f, k, len(l))
				impl.RunTo(l, f, k)
				if !sameFrame(wholeFrame(f), keptFrame) {
					t.Fatal("something was written into", f)
				}
			}
			impl.LeaveAt(tr, k, vars, told)
		}
		if !slices.Equal(l[:cap(l)], keptSteps) || !slices.Equal(told[:cap(told)], keptTold) || !slices.Equal(vars[:cap(vars)], keptVars) || !sameTranslated(wholeTranslated(tr), kept) {
			t.Fatal("something was written into", stackStepsText(l), tr, vars, told)
		}
	}
}

// Steps, words, code and lists behind a length are not read.
func TestStackCodeReadsNothingBehind(t *testing.T) {
	d := &lots{state: 78}
	for range 300 {
		l := behindSteps(d.stackSteps(d.below(impl.MaxSteps + 1)))
		depths, _ := depthsApart(l)
		tr := behindTranslated(translateApart(l))
		checkStackCode(t, l)
		checkLeftAtEach(t, l, behindFrame(d.frame(0, d.below(101))))
		for k, depth := range depths {
			f := behindFrame(d.frame(depth, d.below(80)))
			checkEntered(t, f)
			checkRunSteps(t, l, f, k, len(l))
			checkLeft(t, tr, k, behindNumbers(d.words()), behindNumbers(d.manyWords(d.below(101))))
		}
	}
	long := slices.Repeat(stackStepsAs(t, "a drop"), 11)
	checkStackCode(t, long[:20])
	checkStepsRefused(t, long[:21])
	locals, stack, told := make([]int, 4), make([]int, 5), make([]int, 101)
	checkEntered(t, frameOf(locals[:3], stack[:4], told[:100]))
	checkFrameRefused(t, frameOf(locals[:2], stack[:4], told[:100]))
	checkFrameRefused(t, frameOf(locals[:3], stack[:5], told[:100]))
	checkFrameRefused(t, frameOf(locals[:3], stack[:4], told[:101]))
}

func spoilFrame(f impl.Frame) {
	spoil(f.Locals)
	spoil(f.Stack)
	spoil(f.Told)
}

func spoilLocs(locs []impl.Loc) {
	locs = locs[:cap(locs)]
	for at := range locs {
		locs[at] = impl.Loc{Const: true, N: -77}
	}
}

func spoilCode(l []impl.Instr) {
	l = l[:cap(l)]
	for at := range l {
		l[at] = impl.Instr{Op: 99, Dst: -77, A: -77, B: -77, N: -77}
	}
}

// checkMapsApart spoils the lists of an answer one after the other.
func checkMapsApart(t *testing.T, tr impl.Translated) {
	t.Helper()
	kept := cloneTranslated(tr)
	for k := range tr.Maps {
		spoilLocs(tr.Maps[k])
		left := impl.Translated{Code: tr.Code, At: tr.At, Maps: tr.Maps[k+1:]}
		if !sameTranslated(left, impl.Translated{Code: kept.Code, At: kept.At, Maps: kept.Maps[k+1:]}) {
			t.Fatalf("list %d of %v shares memory with others", k, kept)
		}
	}
	spoil(tr.At)
	if !slices.Equal(tr.Code, kept.Code) {
		t.Fatal("At and Code share memory:", kept)
	}
	spoilCode(tr.Code)
	clear(tr.Maps[:cap(tr.Maps)])
}

// checkFrameApart spoils the lists of an answer one after the other.
func checkFrameApart(t *testing.T, f impl.Frame) {
	t.Helper()
	checkListsApart(t, [][]int{f.Locals, f.Stack, f.Told})
}

func TestStackCodeAnswersAreNewMemory(t *testing.T) {
	d := &lots{state: 66}
	for range 300 {
		l := behindSteps(d.stackSteps(d.below(impl.MaxSteps + 1)))
		depths, _ := depthsApart(l)
		tr := behindTranslated(translateApart(l))
		vars, told := behindNumbers(d.words()), behindNumbers(d.manyWords(d.below(101)))
		keptSteps, keptVars, keptTold, kept := slices.Clone(l[:cap(l)]), slices.Clone(vars[:cap(vars)]), slices.Clone(told[:cap(told)]), wholeTranslated(tr)
		for k, depth := range depths {
			for _, f := range []impl.Frame{behindFrame(d.frame(depth, d.below(80))), behindFrame(d.frame(0, d.below(80)))} {
				keptFrame := wholeFrame(f)
				for _, to := range []int{k, len(l)} {
					after, _ := impl.RunSteps(l, f, k, to)
					checkFrameApart(t, after)
				}
				after, _ := impl.RunTo(l, f, k)
				checkFrameApart(t, after)
				entered, _ := impl.EnterAt(f)
				spoil(entered)
				if !sameFrame(wholeFrame(f), keptFrame) {
					t.Fatal("an answer shares memory with the frame", f)
				}
			}
			left, _ := impl.LeaveAt(tr, k, vars, told)
			checkFrameApart(t, left)
		}
		gone, _ := impl.DepthsOf(l)
		spoil(gone)
		told13, _ := impl.Translate(l)
		checkMapsApart(t, told13)
		if !slices.Equal(l[:cap(l)], keptSteps) || !slices.Equal(vars[:cap(vars)], keptVars) || !slices.Equal(told[:cap(told)], keptTold) || !sameTranslated(wholeTranslated(tr), kept) {
			t.Fatal("an answer shares memory with what was handed in:", stackStepsText(l), tr, vars, told)
		}
		checkStackCode(t, l)
	}
}

// One list in several places of what is handed in does no harm.
func TestStackCodeOfSharedLists(t *testing.T) {
	words := []int{1, 2, 3}
	f := frameOf(words, words, words)
	l := stackStepsAs(t, "a b c out 9 =a + =b")
	for from, depth := range []int{0, 1, 2, 3} {
		f.Stack = words[:depth]
		for to := from; to <= len(l); to++ {
			checkRunSteps(t, l, f, from, to)
		}
		checkEntered(t, f)
	}
	vars := []int{1, 2, 3, 4, 5, 6, 7, 8}
	tr := translateApart(stackStepsAs(t, "a b c =a"))
	for k := range tr.Maps {
		checkLeft(t, tr, k, vars, vars)
		left, _ := impl.LeaveAt(tr, k, vars, vars)
		checkFrameApart(t, left)
	}
	if !slices.Equal(words, []int{1, 2, 3}) || !slices.Equal(vars, []int{1, 2, 3, 4, 5, 6, 7, 8}) {
		t.Error(words, vars)
	}
	one := []impl.Loc{{Const: true, N: 7}}
	checkLeft(t, impl.Translated{At: []int{0, 0, 0, 0}, Maps: [][]impl.Loc{nil, one, nil, one}}, 3, vars, nil)
	if !slices.Equal(one, []impl.Loc{{Const: true, N: 7}}) {
		t.Error(one)
	}
}

package tests

import (
	"math"
	"slices"
	"strconv"
	"strings"
	"testing"

	"loop.example/g00350/impl"
)

// programAs reads a block from each row: its steps, and behind | the letter of
// Test, Then and Else.
func programAs(t *testing.T, rows ...string) []impl.TBlock {
	t.Helper()
	var p []impl.TBlock
	for _, row := range rows {
		steps, rest, _ := strings.Cut(row, "|")
		parts := strings.Fields(rest)
		if len(parts) != 3 {
			t.Fatalf("no block: %q", row)
		}
		then, errThen := strconv.Atoi(parts[1])
		other, errOther := strconv.Atoi(parts[2])
		if errThen != nil || errOther != nil {
			t.Fatalf("no block: %q", row)
		}
		p = append(p, impl.TBlock{Steps: stackStepsAs(t, steps), Test: int(parts[0][0]) - 'a', Then: then, Else: other})
	}
	return p
}

func rowText(numbers ...int) string {
	var texts []string
	for _, number := range numbers {
		texts = append(texts, strconv.Itoa(number))
	}
	return strings.Join(texts, " ")
}

func programText(p []impl.TBlock) string {
	var rows []string
	for _, b := range p {
		rows = append(rows, stackStepsText(b.Steps)+" | "+rowText(b.Test, b.Then, b.Else))
	}
	return strings.Join(rows, "; ")
}

// runAs reads the locals, what was told, At, the visits and the counts, with |
// between.
func runAs(t *testing.T, text string) impl.Run {
	t.Helper()
	parts := strings.Split(text, "|")
	if len(parts) != 5 {
		t.Fatalf("no run: %q", text)
	}
	return impl.Run{
		Locals: numbersAs(t, parts[0]),
		Told:   numbersAs(t, parts[1]),
		At:     numbersAs(t, parts[2])[0],
		Visits: numbersAs(t, parts[3])[0],
		Counts: numbersAs(t, parts[4]),
	}
}

func runText(r impl.Run) string {
	return strings.Join([]string{rowText(r.Locals...), rowText(r.Told...), strconv.Itoa(r.At), strconv.Itoa(r.Visits), rowText(r.Counts...)}, " | ")
}

// choicesAs reads s as ByStack, r with a step behind it as ByReg.
func choicesAs(t *testing.T, text string) []impl.Choice {
	t.Helper()
	var l []impl.Choice
	for _, part := range strings.Fields(text) {
		if part == "s" {
			l = append(l, impl.Choice{Tier: impl.ByStack})
			continue
		}
		leave, err := strconv.Atoi(strings.TrimPrefix(part, "r"))
		if err != nil {
			t.Fatalf("no choice: %q", part)
		}
		l = append(l, impl.Choice{Tier: impl.ByReg, Leave: leave})
	}
	return l
}

func sameTierRun(a impl.Run, b impl.Run) bool {
	return slices.Equal(a.Locals, b.Locals) && slices.Equal(a.Told, b.Told) && a.At == b.At && a.Visits == b.Visits && slices.Equal(a.Counts, b.Counts)
}

func isNoTierRun(r impl.Run) bool {
	return sameTierRun(r, impl.Run{})
}

func cloneTierRun(r impl.Run) impl.Run {
	r.Locals, r.Told, r.Counts = slices.Clone(r.Locals), slices.Clone(r.Told), slices.Clone(r.Counts)
	return r
}

func sameProgram(a []impl.TBlock, b []impl.TBlock) bool {
	return slices.EqualFunc(a, b, func(x impl.TBlock, y impl.TBlock) bool {
		return slices.Equal(x.Steps, y.Steps) && x.Test == y.Test && x.Then == y.Then && x.Else == y.Else
	})
}

func cloneProgram(p []impl.TBlock) []impl.TBlock {
	p = slices.Clone(p)
	for at := range p {
		p[at].Steps = slices.Clone(p[at].Steps)
	}
	return p
}

// isWholeApart asks for code that begins and ends with an empty stack.
func isWholeApart(l []impl.SStep) bool {
	depths, ok := depthsApart(l)
	return ok && depths[len(l)] == 0
}

func goodProgramApart(p []impl.TBlock) bool {
	for _, b := range p {
		places := b.Then >= -1 && b.Then < len(p) && b.Else >= -1 && b.Else < len(p)
		if !isWholeApart(b.Steps) || b.Test < 0 || b.Test > 2 || !places {
			return false
		}
	}
	return len(p) > 0 && len(p) < 7
}

// areWordsApart is for lists of bounded lengths.
func areWordsApart(list []int, least int, most int) bool {
	for _, word := range list {
		if word < 0 || word > 65535 {
			return false
		}
	}
	return len(list) >= least && len(list) <= most
}

// goodTierRunApart takes each visit off that a count tells of.
func goodTierRunApart(p []impl.TBlock, r impl.Run) bool {
	if r.Visits < 0 || r.Visits > 40 || r.At < -1 || r.At >= len(p) || len(r.Counts) != len(p) {
		return false
	}
	left := r.Visits
	for _, count := range r.Counts {
		if count < 0 || count > left {
			return false
		}
		left -= count
	}
	return left == 0 && goodProgramApart(p) && areWordsApart(r.Locals, 3, 3) && areWordsApart(r.Told, 0, 100)
}

// inRegApart goes through the code up to a step by names, and comes back to the
// stack's frame there.
func inRegApart(l []impl.SStep, f impl.Frame, leave int) impl.Frame {
	tr := translateApart(l)
	vars := append(slices.Clone(f.Locals), 0, 0, 0, 0, 0)
	told, vars := runApart(tr.Code[:tr.At[leave]], vars)
	return leftApart(tr, leave, vars, append(slices.Clone(f.Told), told...))
}

func isChoiceApart(c impl.Choice, steps int) bool {
	if c.Tier == 0 {
		return c.Leave == 0
	}
	return c.Tier == 1 && c.Leave >= 0 && c.Leave <= steps
}

// visitApart is for good runs.
func visitApart(p []impl.TBlock, r impl.Run, c impl.Choice) (impl.Run, bool) {
	if r.At == -1 || r.Visits == 40 || !isChoiceApart(c, len(p[r.At].Steps)) {
		return impl.Run{}, false
	}
	r = cloneTierRun(r)
	b, f := p[r.At], frameOf(r.Locals, nil, r.Told)
	if c.Tier == 1 {
		f = inRegApart(b.Steps, f, c.Leave)
	}
	f, ok := runStepsApart(b.Steps, f, c.Leave, len(b.Steps))
	if !ok {
		return impl.Run{}, false
	}
	r.Locals, r.Told = f.Locals, f.Told
	r.Counts[r.At]++
	r.Visits++
	if r.Locals[b.Test] == 0 {
		r.At = b.Else
	} else {
		r.At = b.Then
	}
	return r, true
}

func startApart(p []impl.TBlock, locals []int) impl.Run {
	return impl.Run{Locals: slices.Clone(locals), Counts: make([]int, len(p))}
}

// playTiersApart asks for each choice what it is, by the run so far.
func playTiersApart(p []impl.TBlock, locals []int, visits int, choice func(r impl.Run) impl.Choice) (impl.Run, bool) {
	r, ok := startApart(p, locals), visits <= 40
	for at := 0; at < visits && ok && r.At != -1; at++ {
		r, ok = visitApart(p, r, choice(r))
	}
	return r, ok
}

func playedApart(p []impl.TBlock, locals []int, l []impl.Choice) (impl.Run, bool) {
	return playTiersApart(p, locals, len(l), func(r impl.Run) impl.Choice { return l[r.Visits] })
}

func plainApart(p []impl.TBlock, locals []int, visits int) (impl.Run, bool) {
	return playTiersApart(p, locals, visits, func(impl.Run) impl.Choice { return impl.Choice{} })
}

func hotApart(p []impl.TBlock, locals []int, visits int, hot int) (impl.Run, int, bool) {
	many := 0
	r, ok := playTiersApart(p, locals, visits, func(r impl.Run) impl.Choice {
		if r.Counts[r.At] >= hot {
			many++
			return impl.Choice{Tier: 1, Leave: len(p[r.At].Steps)}
		}
		return impl.Choice{}
	})
	if !ok {
		return impl.Run{}, 0, false
	}
	return r, many, true
}

func flowOfApart(p []impl.TBlock) []impl.Block {
	var f []impl.Block
	for _, b := range p {
		f = append(f, impl.Block{Code: translateApart(b.Steps).Code, Test: b.Test, Then: b.Then, Else: b.Else})
	}
	return f
}

// checkTierRun asks what came of something for what it should be.
func checkTierRun(t *testing.T, p []impl.TBlock, r impl.Run, ok bool, want impl.Run, wantOk bool, what ...any) {
	t.Helper()
	if !wantOk {
		want = impl.Run{}
	}
	if ok != wantOk || !sameTierRun(r, want) {
		t.Errorf("%v of %s = %s %v, not %s %v", what, programText(p), runText(r), ok, runText(want), wantOk)
	}
}

func checkVisited(t *testing.T, p []impl.TBlock, r impl.Run, c impl.Choice, want impl.Run, wantOk bool) {
	t.Helper()
	after, ok := impl.VisitBlock(p, r, c)
	checkTierRun(t, p, after, ok, want, wantOk, "VisitBlock", r, c)
}

func checkVisit(t *testing.T, p []impl.TBlock, r impl.Run, c impl.Choice) {
	t.Helper()
	want, ok := visitApart(p, r, c)
	checkVisited(t, p, r, c, want, ok)
}

// eachChoice has all choices that there are for so many steps.
func eachChoice(steps int) []impl.Choice {
	l := []impl.Choice{{Tier: impl.ByStack}}
	for leave := range steps + 1 {
		l = append(l, impl.Choice{Tier: impl.ByReg, Leave: leave})
	}
	return l
}

// checkVisits asks each choice for its rule, and all of them for promise 17: each
// comes to the same. It tells whether they tell true.
func checkVisits(t *testing.T, p []impl.TBlock, r impl.Run) bool {
	t.Helper()
	if !impl.GoodRun(p, r) {
		t.Errorf("GoodRun(%s, %s) is false", programText(p), runText(r))
	}
	if r.At == -1 {
		checkVisited(t, p, r, impl.Choice{}, impl.Run{}, false)
		checkVisited(t, p, r, impl.Choice{Tier: impl.ByReg}, impl.Run{}, false)
		return false
	}
	plain, plainOk := impl.VisitBlock(p, r, impl.Choice{})
	if plainOk && !impl.GoodRun(p, plain) {
		t.Errorf("VisitBlock of %s from %s tells %s, which is no good run", programText(p), runText(r), runText(plain))
	}
	for _, c := range eachChoice(len(p[r.At].Steps)) {
		after, ok := impl.VisitBlock(p, r, c)
		want, wantOk := visitApart(p, r, c)
		checkTierRun(t, p, after, ok, want, wantOk, "VisitBlock", r, c)
		checkTierRun(t, p, after, ok, plain, plainOk, "VisitBlock", r, c)
	}
	return plainOk
}

func checkPlayedTiers(t *testing.T, p []impl.TBlock, locals []int, l []impl.Choice) bool {
	t.Helper()
	want, wantOk := playedApart(p, locals, l)
	r, ok := impl.PlayChoices(p, locals, l)
	checkTierRun(t, p, r, ok, want, wantOk, "PlayChoices", locals)
	return ok
}

func checkPlain(t *testing.T, p []impl.TBlock, locals []int, visits int) (impl.Run, bool) {
	t.Helper()
	want, wantOk := plainApart(p, locals, visits)
	r, ok := impl.PlainRun(p, locals, visits)
	checkTierRun(t, p, r, ok, want, wantOk, "PlainRun", visits, locals)
	return r, ok
}

// checkHot asks HotRun for how many were ByReg, and for what PlainRun has.
func checkHot(t *testing.T, p []impl.TBlock, locals []int, visits int, hot int) int {
	t.Helper()
	want, wantMany, wantOk := hotApart(p, locals, visits, hot)
	r, many, ok := impl.HotRun(p, locals, visits, hot)
	checkTierRun(t, p, r, ok, want, wantOk, "HotRun", locals, visits, hot)
	if many != wantMany {
		t.Errorf("HotRun(%s, %v, %d, %d): %d were ByReg, not %d", programText(p), locals, visits, hot, many, wantMany)
	}
	plain, plainOk := impl.PlainRun(p, locals, visits)
	checkTierRun(t, p, r, ok, plain, plainOk, "HotRun", locals, visits, hot)
	return many
}

// checkTierFlow asks the flow for its rule, and for promise 17: it tells what
// PlainRun tells, on the same way.
func checkTierFlow(t *testing.T, p []impl.TBlock, locals []int) {
	t.Helper()
	f, ok := impl.FlowOf(p)
	if !sameFlow(f, flowOfApart(p)) || !ok || !impl.GoodFlow(f) {
		t.Errorf("FlowOf(%s) = %v %v, not %v", programText(p), f, ok, flowOfApart(p))
	}
	plain, plainOk := impl.PlainRun(p, locals, impl.MaxVisits)
	if !plainOk {
		return
	}
	vars := append(slices.Clone(locals), 0, 0, 0, 0, 0)
	path, _ := impl.PathOf(f, vars, impl.MaxVisits)
	if len(path) != plain.Visits || !slices.Equal(plain.Counts, timesIn(path, len(p))) {
		t.Errorf("of %s from %v the flow goes %v, but the run is %s", programText(p), locals, path, runText(plain))
	}
	told, words, count, ended := impl.RunFlow(f, vars, impl.MaxVisits)
	if ended != (plain.At == -1) {
		t.Errorf("of %s from %v the flow ended: %v, but the run is %s", programText(p), locals, ended, runText(plain))
	}
	if ended && (!slices.Equal(told, plain.Told) || !slices.Equal(words[:impl.MaxLocals], plain.Locals) || count != plain.Visits) {
		t.Errorf("of %s from %v the flow tells %v %v %d, but the run is %s", programText(p), locals, told, words, count, runText(plain))
	}
}

func timesIn(path []int, blocks int) []int {
	counts := make([]int, blocks)
	for _, at := range path {
		counts[at]++
	}
	return counts
}

// checkProgram asks all functions for a good program from these locals.
func checkProgram(t *testing.T, p []impl.TBlock, locals []int) {
	t.Helper()
	if !impl.GoodProgram(p) {
		t.Errorf("GoodProgram(%s) is false", programText(p))
	}
	start, ok := impl.StartRun(p, locals)
	checkTierRun(t, p, start, ok, startApart(p, locals), true, "StartRun", locals)
	checkTierFlow(t, p, locals)
	for _, visits := range []int{0, 1, 2, 39, 40} {
		checkPlain(t, p, locals, visits)
	}
	for _, hot := range []int{1, 2, 20} {
		checkHot(t, p, locals, 40, hot)
	}
	for r := start; checkVisits(t, p, r) && r.Visits < 3; {
		r, _ = impl.VisitBlock(p, r, impl.Choice{})
	}
}

func checkStartRefused(t *testing.T, p []impl.TBlock, locals []int) {
	t.Helper()
	r, ok := impl.StartRun(p, locals)
	checkTierRun(t, p, r, ok, impl.Run{}, false, "StartRun", locals)
	for _, visits := range []int{0, 1, 40} {
		checkPlaysRefused(t, p, locals, visits, 1)
	}
}

// checkPlaysRefused asks all that play, with as many choices.
func checkPlaysRefused(t *testing.T, p []impl.TBlock, locals []int, visits int, hot int) {
	t.Helper()
	r, ok := impl.PlainRun(p, locals, visits)
	checkTierRun(t, p, r, ok, impl.Run{}, false, "PlainRun", visits, locals)
	checkHotRefused(t, p, locals, visits, hot)
	if visits >= 0 && visits < 1000 {
		r, ok = impl.PlayChoices(p, locals, make([]impl.Choice, visits))
		checkTierRun(t, p, r, ok, impl.Run{}, false, "PlayChoices", locals)
	}
}

func checkHotRefused(t *testing.T, p []impl.TBlock, locals []int, visits int, hot int) {
	t.Helper()
	r, many, ok := impl.HotRun(p, locals, visits, hot)
	if !isNoTierRun(r) || many != 0 || ok {
		t.Errorf("HotRun(%s, %v, %d, %d) = %s %d %v", programText(p), locals, visits, hot, runText(r), many, ok)
	}
}

// checkTierRunRefused asks with the choices that there may be.
func checkTierRunRefused(t *testing.T, p []impl.TBlock, r impl.Run) {
	t.Helper()
	if impl.GoodRun(p, r) {
		t.Errorf("GoodRun(%s, %s) is true", programText(p), runText(r))
	}
	for _, c := range eachChoice(2) {
		checkVisited(t, p, r, c, impl.Run{}, false)
	}
}

func checkProgramRefused(t *testing.T, p []impl.TBlock) {
	t.Helper()
	if impl.GoodProgram(p) {
		t.Errorf("GoodProgram(%s) is true", programText(p))
	}
	locals := []int{1, 2, 3}
	checkStartRefused(t, p, locals)
	checkTierRunRefused(t, p, startApart(p, locals))
	checkTierRunRefused(t, p, impl.Run{Locals: locals, At: -1, Counts: make([]int, len(p))})
	if f, ok := impl.FlowOf(p); len(f) != 0 || ok {
		t.Errorf("FlowOf(%s) = %v %v", programText(p), f, ok)
	}
}

// wholeSteps draws code that leaves nothing on the stack: much of it is told in
// the end.
func (d *lots) wholeSteps(most int) []impl.SStep {
	l := d.stackSteps(d.below(most - impl.MaxStack + 1))
	depths, _ := depthsApart(l)
	for range depths[len(l)] {
		switch d.below(6) {
		case 0:
			l = append(l, impl.SStep{Op: impl.SDrop})
		case 1:
			l = append(l, impl.SStep{Op: impl.SStore, N: d.below(impl.MaxLocals)})
		default:
			l = append(l, impl.SStep{Op: impl.SOut})
		}
	}
	return l
}

// countedSteps take one off a local, and store nothing else to it.
func (d *lots) countedSteps(local int) []impl.SStep {
	l := d.wholeSteps(16)
	for at, s := range l {
		if s == (impl.SStep{Op: impl.SStore, N: local}) {
			l[at] = impl.SStep{Op: impl.SDrop}
		}
	}
	return append(l, impl.SStep{Op: impl.SLoad, N: local}, impl.SStep{Op: impl.SPush, N: 1}, impl.SStep{Op: impl.SSub}, impl.SStep{Op: impl.SStore, N: local})
}

// program draws blocks of which some count a local down, and go on at
// themselves meanwhile; one in three ends where its test is 0.
func (d *lots) program(blocks int) []impl.TBlock {
	var p []impl.TBlock
	for at := range blocks {
		b := impl.TBlock{Test: d.below(impl.MaxLocals), Then: d.below(blocks+1) - 1, Else: d.below(blocks+1) - 1}
		if d.below(3) == 0 {
			b.Else = -1
		}
		if d.below(3) == 0 {
			b.Steps, b.Then = d.countedSteps(b.Test), at
		} else {
			b.Steps = d.wholeSteps(impl.MaxSteps)
		}
		p = append(p, b)
	}
	return p
}

func (d *lots) someProgram() []impl.TBlock {
	return d.program(1 + d.below(impl.MaxTier))
}

// someLocals are small now and then, so that counting comes to its end.
func (d *lots) someLocals() []int {
	locals := d.manyWords(impl.MaxLocals)
	for at := range locals {
		if d.below(2) == 0 {
			locals[at] = d.below(12)
		}
	}
	return locals
}

// choicesFor draws choices that each fit the block that is come to.
func (d *lots) choicesFor(p []impl.TBlock, locals []int, count int) []impl.Choice {
	var l []impl.Choice
	r := startApart(p, locals)
	for range count {
		c := impl.Choice{Tier: d.below(2)}
		if c.Tier == impl.ByReg && r.At != -1 {
			c.Leave = d.below(len(p[r.At].Steps) + 1)
		}
		l = append(l, c)
		if next, ok := visitApart(p, r, c); ok {
			r = next
		}
	}
	return l
}

// tierRun draws a good run of a program, whether it is come to or not.
func (d *lots) tierRun(p []impl.TBlock) impl.Run {
	r := startApart(p, d.someLocals())
	r.At = d.below(len(p))
	for range d.below(impl.MaxVisits) {
		r.Counts[d.below(len(p))]++
		r.Visits++
	}
	r.Told = d.manyWords(100 - d.below(1+d.below(101)))
	return r
}

func TestTierBounds(t *testing.T) {
	if impl.MaxTier != 6 || impl.MaxVisits != 40 || impl.ByStack != 0 || impl.ByReg != 1 {
		t.Error(impl.MaxTier, impl.MaxVisits, impl.ByStack, impl.ByReg)
	}
}

func TestStartRunKnown(t *testing.T) {
	for _, k := range []struct {
		rows   []string
		locals []int
		run    string
	}{
		{[]string{" | a -1 -1"}, []int{0, 0, 0}, "0 0 0 | | 0 | 0 | 0"},
		{[]string{"a out | b 0 1", " | c -1 -1"}, []int{1, 2, 3}, "1 2 3 | | 0 | 0 | 0 0"},
		{slices.Repeat([]string{"7 =a | a 5 -1"}, 6), []int{65535, 0, 65535}, "65535 0 65535 | | 0 | 0 | 0 0 0 0 0 0"},
	} {
		p := programAs(t, k.rows...)
		r, ok := impl.StartRun(p, k.locals)
		checkTierRun(t, p, r, ok, runAs(t, k.run), true, "StartRun")
	}
}

func TestVisitBlockKnown(t *testing.T) {
	for _, k := range []struct {
		row    string
		run    string
		choice string
		after  string
	}{
		// No step at all.
		{" | a -1 -1", "5 6 7 | | 0 | 0 | 0", "s", "5 6 7 | | -1 | 1 | 1"},
		{" | a -1 -1", "5 6 7 | | 0 | 0 | 0", "r0", "5 6 7 | | -1 | 1 | 1"},
		// Then where the word is other than 0, whichever, otherwise Else.
		{" | a 0 -1", "1 0 0 | | 0 | 0 | 0", "s", "1 0 0 | | 0 | 1 | 1"},
		{" | a 0 -1", "65535 0 0 | | 0 | 0 | 0", "s", "65535 0 0 | | 0 | 1 | 1"},
		{" | a 0 -1", "0 1 1 | | 0 | 0 | 0", "s", "0 1 1 | | -1 | 1 | 1"},
		{" | b -1 0", "1 0 1 | | 0 | 0 | 0", "s", "1 0 1 | | 0 | 1 | 1"},
		{" | c -1 0", "0 0 1 | | 0 | 0 | 0", "s", "0 0 1 | | -1 | 1 | 1"},
		// The test is looked at in the end.
		{"0 =a | a 0 -1", "1 0 0 | | 0 | 0 | 0", "s", "0 0 0 | | -1 | 1 | 1"},
		{"0 =a | a 0 -1", "1 0 0 | | 0 | 0 | 0", "r1", "0 0 0 | | -1 | 1 | 1"},
		{"0 =a | a 0 -1", "1 0 0 | | 0 | 0 | 0", "r2", "0 0 0 | | -1 | 1 | 1"},
		{"9 =b | b 0 -1", "0 0 0 | | 0 | 0 | 0", "r0", "0 9 0 | | 0 | 1 | 1"},
		// More is told, and counted.
		{"a out 8 out | a 0 -1", "3 0 0 | 1 2 | 0 | 5 | 5", "s", "3 0 0 | 1 2 3 8 | 0 | 6 | 6"},
		{"a out 8 out | a 0 -1", "3 0 0 | 1 2 | 0 | 5 | 5", "r0", "3 0 0 | 1 2 3 8 | 0 | 6 | 6"},
		{"a out 8 out | a 0 -1", "3 0 0 | 1 2 | 0 | 5 | 5", "r2", "3 0 0 | 1 2 3 8 | 0 | 6 | 6"},
		{"a out 8 out | a 0 -1", "3 0 0 | 1 2 | 0 | 5 | 5", "r4", "3 0 0 | 1 2 3 8 | 0 | 6 | 6"},
		// Left with a Const on the stack.
		{"7 a out 9 =a out | a 0 -1", "3 0 0 | | 0 | 0 | 0", "r4", "9 0 0 | 3 7 | 0 | 1 | 1"},
		// Left with a local on the stack: ahead of the store, behind it, ahead of
		// the sum.
		{"a 9 =a a + out | a 0 -1", "3 0 0 | | 0 | 0 | 0", "r1", "9 0 0 | 12 | 0 | 1 | 1"},
		{"a 9 =a a + out | a 0 -1", "3 0 0 | | 0 | 0 | 0", "r3", "9 0 0 | 12 | 0 | 1 | 1"},
		{"a 9 =a a + out | a 0 -1", "3 0 0 | | 0 | 0 | 0", "r4", "9 0 0 | 12 | 0 | 1 | 1"},
		{"a 9 =a a + out | a 0 -1", "3 0 0 | | 0 | 0 | 0", "r5", "9 0 0 | 12 | 0 | 1 | 1"},
		// Refused.
		{"a out | a 0 -1", "3 0 0 | | -1 | 0 | 0", "s", ""},
		{"a out | a 0 -1", "3 0 0 | | -1 | 1 | 1", "r0", ""},
		{"a out | a 0 -1", "3 0 0 | | 0 | 39 | 39", "s", "3 0 0 | 3 | 0 | 40 | 40"},
		{"a out | a 0 -1", "3 0 0 | | 0 | 40 | 40", "s", ""},
		{"a out | a 0 -1", "3 0 0 | | 0 | 39 | 39", "r1", "3 0 0 | 3 | 0 | 40 | 40"},
		{"a out | a 0 -1", "3 0 0 | | 0 | 40 | 40", "r1", ""},
		{"a out | a 0 -1", "3 0 0 | | 0 | 0 | 0", "r3", ""},
	} {
		p, r, c := programAs(t, k.row), runAs(t, k.run), choicesAs(t, k.choice)[0]
		want := impl.Run{}
		if k.after != "" {
			want = runAs(t, k.after)
		}
		checkVisited(t, p, r, c, want, k.after != "")
		checkVisits(t, p, r)
	}
}

// Of several blocks the one at At is visited, and counted.
func TestVisitBlockOfSeveralBlocks(t *testing.T) {
	p := programAs(t, "1 out | a 1 2", "2 out b 1 - =b | b 1 2", "3 out 5 =c | c -1 0")
	for _, k := range []struct{ run, after string }{
		{"1 1 0 | | 0 | 0 | 0 0 0", "1 1 0 | 1 | 1 | 1 | 1 0 0"},
		{"0 1 0 | | 0 | 9 | 4 3 2", "0 1 0 | 1 | 2 | 10 | 5 3 2"},
		{"1 2 0 | | 1 | 9 | 4 3 2", "1 1 0 | 2 | 1 | 10 | 4 4 2"},
		{"1 1 0 | | 1 | 9 | 4 3 2", "1 0 0 | 2 | 2 | 10 | 4 4 2"},
		{"1 1 0 | | 2 | 39 | 39 0 0", "1 1 5 | 3 | -1 | 40 | 39 0 1"},
	} {
		for _, c := range choicesAs(t, "s r0 r1 r2") {
			checkVisited(t, p, runAs(t, k.run), c, runAs(t, k.after), true)
		}
		checkVisits(t, p, runAs(t, k.run))
	}
}

// As many as may be told, and one more, ahead of the leave and behind it.
func TestVisitsTellAtMost100(t *testing.T) {
	for _, text := range []string{" | a 0 -1", "1 out | a 0 -1", "a 1 out out | a 0 -1", "1 out 2 out 3 out | b 0 -1", "5 dup dup dup out out out out | c -1 0"} {
		p := programAs(t, text)
		outs := strings.Count(text, "out")
		for told := 95; told <= 100; told++ {
			r := impl.Run{Locals: []int{1, 2, 3}, Told: make([]int, told), Counts: []int{0}}
			if is := checkVisits(t, p, r); is != (told+outs <= 100) {
				t.Errorf("VisitBlock of %s with %d told: %v", text, told, is)
			}
		}
	}
	// Five are told by each visit.
	p := programAs(t, "a out b out c out 4 out 5 out | a 0 -1")
	locals := []int{1, 2, 3}
	if r, ok := checkPlain(t, p, locals, 20); len(r.Told) != 100 || !ok {
		t.Error(runText(r), ok)
	}
	checkPlaysRefused(t, p, locals, 21, 1)
	checkPlaysRefused(t, p, locals, 40, 20)
	for leave := range 11 {
		choices := slices.Repeat([]impl.Choice{{Tier: impl.ByReg, Leave: leave}}, 21)
		if !checkPlayedTiers(t, p, locals, choices[:20]) || checkPlayedTiers(t, p, locals, choices) {
			t.Error("left at", leave)
		}
	}
	for hot := 1; hot <= 20; hot++ {
		if many := checkHot(t, p, locals, 20, hot); many != 20-hot {
			t.Error(hot, many)
		}
		checkHotRefused(t, p, locals, 21, hot)
	}
}

// countDownTold goes through its one block as often as the first local says.
func countDownTold(t *testing.T) []impl.TBlock {
	t.Helper()
	return programAs(t, "a out a 1 - =a | a 0 -1")
}

func TestPlayChoicesKnown(t *testing.T) {
	p := countDownTold(t)
	two := programAs(t, "a out | a 1 -1", "a 1 - =a 9 out | a 0 -1")
	for _, k := range []struct {
		program []impl.TBlock
		locals  []int
		choices string
		run     string
	}{
		{p, []int{3, 1, 2}, "", "3 1 2 | | 0 | 0 | 0"},
		{p, []int{3, 1, 2}, "s", "2 1 2 | 3 | 0 | 1 | 1"},
		{p, []int{3, 1, 2}, "r0 r6", "1 1 2 | 3 2 | 0 | 2 | 2"},
		{p, []int{3, 1, 2}, "r1 s r3", "0 1 2 | 3 2 1 | -1 | 3 | 3"},
		// Those that are left over are not looked at.
		{p, []int{3, 1, 2}, "r5 r4 r3 s s", "0 1 2 | 3 2 1 | -1 | 3 | 3"},
		{p, []int{1, 1, 2}, "s r7 r-1 r100", "0 1 2 | 1 | -1 | 1 | 1"},
		{p, []int{1, 1, 2}, strings.Repeat("s ", 40), "0 1 2 | 1 | -1 | 1 | 1"},
		// Refused, first, in the midst and last.
		{p, []int{3, 1, 2}, "r7 s s", ""},
		{p, []int{3, 1, 2}, "s r7 s", ""},
		{p, []int{3, 1, 2}, "s s r-1", ""},
		{p, []int{3, 1, 2}, "s r-1 s s s", ""},
		{p, []int{1, 1, 2}, strings.Repeat("s ", 41), ""},
		{p, []int{1, 1, 2}, strings.Repeat("s ", 1000), ""},
		{two, []int{2, 0, 0}, "s r5", "1 0 0 | 2 9 | 0 | 2 | 1 1"},
		{two, []int{2, 0, 0}, "r2 r6", "1 0 0 | 2 9 | 0 | 2 | 1 1"},
		{two, []int{2, 0, 0}, "r3 r6", ""},
		{two, []int{2, 0, 0}, "r2 r7", ""},
		{two, []int{2, 0, 0}, "s s s s s", "0 0 0 | 2 9 1 9 | -1 | 4 | 2 2"},
		{two, []int{0, 0, 0}, "r1 r1 r1", "0 0 0 | 0 | -1 | 1 | 1 0"},
	} {
		r, ok := impl.PlayChoices(k.program, k.locals, choicesAs(t, k.choices))
		want := impl.Run{}
		if k.run != "" {
			want = runAs(t, k.run)
		}
		checkTierRun(t, k.program, r, ok, want, k.run != "", "PlayChoices", k.choices)
		checkPlayedTiers(t, k.program, k.locals, choicesAs(t, k.choices))
	}
}

func TestPlaysAtMaxVisits(t *testing.T) {
	p := programAs(t, "a 1 + =a | a 0 0")
	for leave := range 5 {
		choices := slices.Repeat([]impl.Choice{{Tier: impl.ByReg, Leave: leave}}, impl.MaxVisits+1)
		r, ok := impl.PlayChoices(p, []int{0, 0, 0}, choices[:impl.MaxVisits])
		checkTierRun(t, p, r, ok, runAs(t, "40 0 0 | | 0 | 40 | 40"), true, "PlayChoices")
		if checkPlayedTiers(t, p, []int{0, 0, 0}, choices) {
			t.Error("41 choices are played")
		}
		checkVisited(t, p, r, choices[0], impl.Run{}, false)
	}
	for visits := range impl.MaxVisits + 1 {
		r, ok := checkPlain(t, p, []int{0, 5, 5}, visits)
		want := impl.Run{Locals: []int{visits, 5, 5}, Visits: visits, Counts: []int{visits}}
		checkTierRun(t, p, r, ok, want, true, "PlainRun")
	}
	// What ends ahead of that is refused as well.
	for _, q := range [][]impl.TBlock{p, programAs(t, " | a -1 -1")} {
		for _, visits := range append(farNumbers(), -2, -1, 41, 42) {
			checkPlaysRefused(t, q, []int{0, 0, 0}, visits, 1)
		}
	}
}

func TestPlainRunKnown(t *testing.T) {
	p := programAs(t, "a out | a 1 2", "a 1 - =a b 2 + =b | a 0 2", "b out c out | c 2 -1")
	for _, k := range []struct {
		locals []int
		visits int
		run    string
	}{
		{[]int{2, 7, 0}, 0, "2 7 0 | | 0 | 0 | 0 0 0"},
		{[]int{2, 7, 0}, 1, "2 7 0 | 2 | 1 | 1 | 1 0 0"},
		{[]int{2, 7, 0}, 2, "1 9 0 | 2 | 0 | 2 | 1 1 0"},
		{[]int{2, 7, 0}, 4, "0 11 0 | 2 1 | 2 | 4 | 2 2 0"},
		{[]int{2, 7, 0}, 5, "0 11 0 | 2 1 11 0 | -1 | 5 | 2 2 1"},
		{[]int{2, 7, 0}, 6, "0 11 0 | 2 1 11 0 | -1 | 5 | 2 2 1"},
		{[]int{2, 7, 0}, 40, "0 11 0 | 2 1 11 0 | -1 | 5 | 2 2 1"},
		{[]int{0, 7, 0}, 40, "0 7 0 | 0 7 0 | -1 | 2 | 1 0 1"},
		{[]int{0, 7, 1}, 3, "0 7 1 | 0 7 1 7 1 | 2 | 3 | 1 0 2"},
	} {
		r, ok := checkPlain(t, p, k.locals, k.visits)
		checkTierRun(t, p, r, ok, runAs(t, k.run), true, "PlainRun")
	}
	checkProgram(t, p, []int{2, 7, 0})
}

func TestHotRunKnown(t *testing.T) {
	one := programAs(t, "a 1 + =a | a 0 0")
	turns := programAs(t, "a 1 + =a | a 1 1", "b 1 + =b | b 0 0")
	down := countDownTold(t)
	for _, k := range []struct {
		program []impl.TBlock
		locals  []int
		visits  int
		hot     int
		many    int
	}{
		{one, []int{0, 0, 0}, 0, 1, 0}, {one, []int{0, 0, 0}, 1, 1, 0}, {one, []int{0, 0, 0}, 2, 1, 1}, {one, []int{0, 0, 0}, 40, 1, 39},
		{one, []int{0, 0, 0}, 40, 2, 38}, {one, []int{0, 0, 0}, 40, 19, 21}, {one, []int{0, 0, 0}, 40, 20, 20}, {one, []int{0, 0, 0}, 20, 20, 0}, {one, []int{0, 0, 0}, 21, 20, 1},
		// Each block is counted for itself.
		{turns, []int{0, 0, 0}, 40, 1, 38}, {turns, []int{0, 0, 0}, 40, 5, 30}, {turns, []int{0, 0, 0}, 40, 19, 2}, {turns, []int{0, 0, 0}, 40, 20, 0}, {turns, []int{0, 0, 0}, 39, 19, 1}, {turns, []int{0, 0, 0}, 2, 1, 0}, {turns, []int{0, 0, 0}, 3, 1, 1},
		// It ends ahead of the visits.
		{down, []int{3, 0, 0}, 40, 1, 2}, {down, []int{3, 0, 0}, 40, 2, 1}, {down, []int{3, 0, 0}, 40, 3, 0}, {down, []int{10, 0, 0}, 40, 4, 6},
	} {
		if many := checkHot(t, k.program, k.locals, k.visits, k.hot); many != k.many {
			t.Errorf("HotRun(%s, %v, %d, %d): %d were ByReg, not %d", programText(k.program), k.locals, k.visits, k.hot, many, k.many)
		}
	}
	for _, hot := range append(farNumbers(), -20, -2, -1, 0, 21, 22, 40) {
		for _, visits := range []int{0, 1, 20, 40} {
			checkHotRefused(t, one, []int{0, 0, 0}, visits, hot)
		}
	}
	for _, visits := range append(farNumbers(), -1, 41) {
		for _, hot := range []int{0, 1, 20, 21} {
			checkHotRefused(t, one, []int{0, 0, 0}, visits, hot)
		}
	}
}

func TestFlowOfKnown(t *testing.T) {
	for _, k := range []struct {
		rows []string
		flow []string
	}{
		{[]string{" | a -1 -1"}, []string{". a -1 -1"}},
		{[]string{"a out a 1 - =a | a 0 -1"}, []string{"!a;e=1;d=a-e;a=d a 0 -1"}},
		{[]string{"5 =b | b 1 2", "a 2 =a a + out | c 0 -1", "7 drop | a 2 2"}, []string{"b=5 b 1 2", "d=a;a=2;d=d+a;!d c 0 -1", ". a 2 2"}},
		{[]string{"a a a a =a drop drop drop | c -1 0", "1 2 3 4 * - < out | b 1 0"}, []string{"d=a;e=a;f=a c -1 0", "f=3;g=4;f=f*g;e=2;e=e-f;d=1;d=d<e;!d b 1 0"}},
	} {
		p := programAs(t, k.rows...)
		want := flowAs(t, k.flow...)
		if f, ok := impl.FlowOf(p); !sameFlow(f, want) || !ok {
			t.Errorf("FlowOf(%s) = %v %v, not %v", programText(p), f, ok, want)
		}
		for _, locals := range [][]int{{0, 0, 0}, {3, 1, 0}, {65535, 65535, 65535}} {
			checkProgram(t, p, locals)
		}
	}
}

// A flow goes on where a run has to stop: there is room for more to be told.
func TestFlowOfTellsMore(t *testing.T) {
	p := programAs(t, "a out b out c out a 1 - =a | a 0 -1")
	f, _ := impl.FlowOf(p)
	for _, k := range []struct {
		count int
		is    bool
	}{{33, true}, {34, false}, {41, false}} {
		told, _, count, ok := impl.RunFlow(f, append([]int{k.count, 7, 7}, 0, 0, 0, 0, 0), impl.MaxFuel)
		if len(told) != 3*k.count || count != k.count || !ok {
			t.Error(k.count, told, count, ok)
		}
		if _, is := checkPlain(t, p, []int{k.count, 7, 7}, 40); is != k.is {
			t.Error(k.count, is)
		}
	}
}

func TestGoodProgramKnown(t *testing.T) {
	long := strings.TrimSpace(strings.Repeat("a out ", 10))
	last := " | a -1 -1"
	for _, rows := range [][]string{
		{" | a -1 -1"}, {" | a 0 0"}, {" | c -1 0"}, {" | b 0 -1"}, {long + last}, {"1 2 3 4 out out out out | a 0 0"},
		slices.Repeat([]string{" | a 5 5"}, 6), slices.Repeat([]string{long + " | c -1 5"}, 6), slices.Repeat([]string{last}, 6),
	} {
		checkProgram(t, programAs(t, rows...), []int{1, 0, 65535})
	}
	for _, rows := range [][]string{
		// Code that is not good, or leaves something on the stack.
		{"out | a 0 0"}, {"+ | a 0 0"}, {"1 + out | a 0 0"}, {"1 2 3 4 5 out out out out out | a 0 0"}, {"1 | a 0 0"}, {"a b drop | a 0 0"}, {"1 2 3 4 out out out | a 0 0"}, {long + " a | a 0 0"}, {long + " a out | a 0 0"},
		// Letters and places that are none.
		{" | d 0 0"}, {" | h 0 0"}, {" | a 1 0"}, {" | a 0 1"}, {" | a -2 0"}, {" | a 0 -2"}, {" | a 6 -1"},
		// In one block out of several.
		{last, "1 | a 0 0"}, {"1 | a 0 0", last}, {last, " | a 2 0"}, {last, " | a 0 2", last, " | a -1 4"}, {last, last, " | d -1 -1"}, append(slices.Repeat([]string{last}, 5), "a | a 0 0"), append(slices.Repeat([]string{last}, 5), " | a 6 0"),
	} {
		checkProgramRefused(t, programAs(t, rows...))
	}
	for _, count := range []int{0, 7, 8, 1000} {
		checkProgramRefused(t, make([]impl.TBlock, count))
		checkProgramRefused(t, slices.Repeat(programAs(t, last), count))
	}
	checkProgramRefused(t, nil)
}

// Each field of a program with other numbers.
func TestProgramsRefuseWrongNumbers(t *testing.T) {
	good := programAs(t, "1 =a | a 1 2", "a b + out 5 =c | b 0 -1", "7 dup drop out | c -1 2")
	numbers := append(farNumbers(), -11, -9, -2, -1, 0, 1, 2, 3, 4, 5, 6, 9, 10, 11, 40, 65535, 65536)
	is := [2]int{}
	for at := range good {
		for _, n := range numbers {
			for field := range 5 {
				p := cloneProgram(good)
				b := &p[at]
				*[]*int{&b.Test, &b.Then, &b.Else, &b.Steps[0].Op, &b.Steps[len(b.Steps)-1].N}[field] = n
				want := goodProgramApart(p)
				is[oneWhere(want)]++
				if want {
					checkProgram(t, p, []int{1, 0, 2})
				} else {
					checkProgramRefused(t, p)
				}
			}
		}
	}
	if min(is[0], is[1]) < 40 {
		t.Error(is)
	}
	for _, wrong := range wrongStackSteps() {
		checkProgramRefused(t, []impl.TBlock{{Steps: []impl.SStep{{Op: impl.SPush}, {Op: impl.SPush}, wrong, {Op: impl.SDrop}}, Then: -1, Else: -1}})
	}
}

func TestGoodRunKnown(t *testing.T) {
	p := programAs(t, "1 out | a 1 1", "2 out | a 0 -1")
	full := strings.Repeat("7 ", 100)
	for _, text := range []string{
		"1 2 3 | | 0 | 0 | 0 0", "1 2 3 | | 1 | 0 | 0 0", "1 2 3 | | -1 | 0 | 0 0", "1 2 3 | | -1 | 40 | 40 0", "1 2 3 | | -1 | 40 | 0 40", "0 65535 0 | 0 65535 | 1 | 40 | 20 20", "1 2 3 | | 0 | 3 | 3 0", "1 2 3 | | 0 | 3 | 1 2", "1 2 3 | " + full + " | 0 | 1 | 1 0", "1 2 3 | " + full + " | -1 | 1 | 0 1",
	} {
		checkVisits(t, p, runAs(t, text))
	}
	for _, text := range []string{
		// Locals.
		" | | 0 | 0 | 0 0", "1 2 | | 0 | 0 | 0 0", "1 2 3 4 | | 0 | 0 | 0 0", "1 2 -1 | | 0 | 0 | 0 0", "65536 2 1 | | 0 | 0 | 0 0",
		// Told.
		"1 2 3 | -1 | 0 | 0 | 0 0", "1 2 3 | 5 65536 | 0 | 0 | 0 0", "1 2 3 | " + full + " 7 | 0 | 0 | 0 0", "1 2 3 | " + full + " 7 | -1 | 0 | 0 0",
		// At.
		"1 2 3 | | 2 | 0 | 0 0", "1 2 3 | | -2 | 0 | 0 0", "1 2 3 | | 6 | 0 | 0 0",
		// Visits and counts.
		"1 2 3 | | 0 | 41 | 41 0", "1 2 3 | | 0 | 41 | 40 1", "1 2 3 | | 0 | 41 | 20 21", "1 2 3 | | 0 | -1 | -1 0", "1 2 3 | | 0 | 1 | 0 0", "1 2 3 | | 0 | 0 | 1 0", "1 2 3 | | 0 | 0 | 1 -1", "1 2 3 | | 0 | 1 | 2 -1", "1 2 3 | | 0 | 0 | -1 1", "1 2 3 | | 0 | 40 | 41 -1", "1 2 3 | | 0 | 2 | 2", "1 2 3 | | 0 | 0 | 0", "1 2 3 | | 0 | 0 | ", "1 2 3 | | 0 | 0 | 0 0 0", "1 2 3 | | 0 | 2 | 1 1 0", "1 2 3 | | -1 | 5 | 4 0", "1 2 3 | | 0 | 40 | 40 40",
	} {
		checkTierRunRefused(t, p, runAs(t, text))
	}
	checkTierRunRefused(t, p, impl.Run{})
}

// Each number of a run as another one: sums that go round among them.
func TestRunsRefuseWrongNumbers(t *testing.T) {
	p := programAs(t, "1 out | a 1 2", "2 out 5 =b | b 0 -1", "7 out | c -1 2")
	good := runAs(t, "1 2 3 | 4 5 6 | 1 | 9 | 4 3 2")
	checkVisits(t, p, good)
	is := [2]int{}
	for _, n := range append(noWords(), append(farNumbers(), 0, 1, 2, 3, 4, 9, 10, 39, 40, 41, 65534, 65535)...) {
		for field := range 11 {
			r := cloneTierRun(good)
			switch {
			case field < 3:
				r.Locals[field] = n
			case field < 6:
				r.Told[field-3] = n
			case field < 9:
				r.Counts[field-6] = n
			case field == 9:
				r.At = n
			case field == 10:
				r.Visits = n
			}
			want := goodTierRunApart(p, r)
			is[oneWhere(want)]++
			if want {
				checkVisits(t, p, r)
			} else {
				checkTierRunRefused(t, p, r)
			}
		}
	}
	if min(is[0], is[1]) < 30 {
		t.Error(is)
	}
	for _, counts := range [][]int{
		{math.MaxInt, math.MaxInt, 11}, {math.MinInt, math.MinInt, 9}, {math.MaxInt, math.MinInt, 10}, {1 << 62, 1 << 62, 9}, {1 << 32, -1 << 32, 9}, {10, -1, 0}, {-1, 10, 0}, {0, 10, -1},
	} {
		r := cloneTierRun(good)
		r.Counts = counts
		checkTierRunRefused(t, p, r)
	}
}

func TestVisitsRefuseWrongChoices(t *testing.T) {
	p := programAs(t, "1 =a a out | a 0 -1", " | a -1 -1")
	r := runAs(t, "1 2 3 | | 0 | 0 | 0 0")
	numbers := append(farNumbers(), -40, -3, -2, -1, 0, 1, 2, 3, 4, 5, 6, 20, 21)
	for _, tier := range numbers {
		for _, leave := range numbers {
			c := impl.Choice{Tier: tier, Leave: leave}
			for r.At = range p {
				checkVisit(t, p, r, c)
			}
			want := isChoiceApart(c, 4)
			if is := checkPlayedTiers(t, p, r.Locals, []impl.Choice{{}, c, {}}); is != want {
				t.Error("PlayChoices with", c, is)
			}
		}
	}
}

func TestPlaysRefuseWrongLocals(t *testing.T) {
	p := countDownTold(t)
	for _, locals := range [][]int{nil, {}, {1}, {1, 2}, {1, 2, 3, 4}, {1, 2, 3, 0, 0, 0, 0, 0}, make([]int, 1000)} {
		checkStartRefused(t, p, locals)
	}
	for _, word := range noWords() {
		for at := range 3 {
			locals := []int{1, 2, 3}
			locals[at] = word
			checkStartRefused(t, p, locals)
		}
	}
	checkProgram(t, p, []int{0, 0, 0})
	checkProgram(t, p, []int{65535, 65535, 65535})
}

// All code of up to four steps out of twelve that leaves nothing on the
// stack, in each tier.
func TestTiersOfAllShortCode(t *testing.T) {
	is := [2]int{}
	for length := range 5 {
		eachGoodSteps(stackStepsAs(t, "7 0 a b =a =b + - < dup drop out"), length, nil, func(l []impl.SStep) {
			p := []impl.TBlock{{Steps: l, Test: 0, Then: 0, Else: -1}}
			is[oneWhere(isWholeApart(l))]++
			if !isWholeApart(l) {
				checkProgramRefused(t, p)
				return
			}
			for _, locals := range [][]int{{3, 9, 5}, {0, 1, 0}} {
				checkProgram(t, p, locals)
			}
			if t.Failed() {
				t.FailNow()
			}
		})
	}
	if min(is[0], is[1]) < 500 {
		t.Error(is)
	}
}

// Two blocks, with each Test, Then and Else.
func TestTiersOfAllWays(t *testing.T) {
	first, second := stackStepsAs(t, "a 1 - =a 1 out"), stackStepsAs(t, "b 1 - =b a b < =c 2 out")
	count := 0
	startsBelow(3, 6, func(starts []int) {
		p := []impl.TBlock{
			{Steps: first, Test: starts[0], Then: starts[1] - 1, Else: starts[2] - 1},
			{Steps: second, Test: starts[3], Then: starts[4] - 1, Else: starts[5] - 1},
		}
		checkProgram(t, p, []int{2, 3, 1})
		count++
		if t.Failed() {
			t.FailNow()
		}
	})
	if count != 729 {
		t.Error(count)
	}
}

// Promise 17: whatever is run in which tier, and left when, comes to the same.
func TestManyPlaysInAllTiers(t *testing.T) {
	d := &lots{state: 1992}
	met := map[string]int{}
	for range 3000 {
		p, locals, visits := d.someProgram(), d.someLocals(), d.below(impl.MaxVisits+1)
		choices := d.choicesFor(p, locals, visits)
		played := checkPlayedTiers(t, p, locals, choices)
		r, ok := impl.PlayChoices(p, locals, choices)
		plain, plainOk := checkPlain(t, p, locals, visits)
		checkTierRun(t, p, r, ok, plain, plainOk, "PlayChoices")
		many := checkHot(t, p, locals, visits, 1+d.below(20))
		met["played"] += oneWhere(played)
		met["no room"] += oneWhere(!played)
		met["ended"] += oneWhere(played && r.At == -1)
		met["left over"] += oneWhere(played && r.Visits < visits)
		met["not ended"] += oneWhere(played && r.At != -1)
		met["long"] += oneWhere(played && r.Visits > 20)
		met["told much"] += oneWhere(len(r.Told) > 50)
		met["hot"] += oneWhere(many > 0)
		if t.Failed() {
			return
		}
	}
	for _, what := range []string{"played", "no room", "ended", "left over", "not ended", "long", "told much", "hot"} {
		if met[what] < 80 {
			t.Error("only", met[what], "times", what, met)
		}
	}
}

func TestHotRunsOfManyPrograms(t *testing.T) {
	d := &lots{state: 2017}
	for range 100 {
		p, locals := d.someProgram(), d.someLocals()
		for hot := 1; hot <= 20; hot++ {
			checkHot(t, p, locals, impl.MaxVisits, hot)
		}
		if t.Failed() {
			return
		}
	}
}

func TestFlowsOfManyPrograms(t *testing.T) {
	d := &lots{state: 2018}
	met := [2]int{}
	for range 4000 {
		p, locals := d.someProgram(), d.someLocals()
		checkTierFlow(t, p, locals)
		r, ok := impl.PlainRun(p, locals, impl.MaxVisits)
		met[oneWhere(ok && r.At == -1 && r.Visits > 3)]++
		if t.Failed() {
			return
		}
	}
	if met[1] < 300 {
		t.Error(met)
	}
}

// Left at each step of each block, from runs that are good, come to or not.
func TestVisitsOfManyRuns(t *testing.T) {
	d := &lots{state: 2019}
	met := [2]int{}
	for range 2000 {
		p := d.someProgram()
		r := d.tierRun(p)
		met[oneWhere(checkVisits(t, p, r))]++
		if t.Failed() {
			return
		}
	}
	if met[0] < 50 || met[1] < 1000 {
		t.Error(met)
	}
}

// behindProgram and behindRun have more behind the length of each list.
func behindProgram(p []impl.TBlock) []impl.TBlock {
	more := make([]impl.TBlock, 0, len(p)+2)
	for _, b := range p {
		b.Steps = behindSteps(b.Steps)
		more = append(more, b)
	}
	return append(more, impl.TBlock{Then: -1, Else: -1}, impl.TBlock{Test: -5})[:len(p)]
}

func behindRun(r impl.Run) impl.Run {
	r.Locals, r.Told, r.Counts = behindNumbers(r.Locals), behindNumbers(r.Told), behindNumbers(r.Counts)
	return r
}

func behindChoices(l []impl.Choice) []impl.Choice {
	return append(slices.Clone(l), impl.Choice{}, impl.Choice{Tier: -5, Leave: -5})[:len(l)]
}

// wholeProgram and wholeRun are copies, also of what is behind the lengths.
func wholeProgram(p []impl.TBlock) []impl.TBlock {
	p = slices.Clone(p[:cap(p)])
	for at, b := range p {
		p[at].Steps = slices.Clone(b.Steps[:cap(b.Steps)])
	}
	return p
}

func wholeRun(r impl.Run) impl.Run {
	r.Locals, r.Told, r.Counts = slices.Clone(r.Locals[:cap(r.Locals)]), slices.Clone(r.Told[:cap(r.Told)]), slices.Clone(r.Counts[:cap(r.Counts)])
	return r
}

// checkTierRunApart spoils the lists of an answer one after the other.
func checkTierRunApart(t *testing.T, r impl.Run) {
	t.Helper()
	checkListsApart(t, [][]int{r.Locals, r.Told, r.Counts})
}

// Promise 19: nothing is written into what is handed in, nor behind it; and what
// is behind it is not read; each list of an answer is new memory.
func TestTiersLeaveWhatIsHandedIn(t *testing.T) {
	d := &lots{state: 1917}
	for round := range 500 {
		p, locals := behindProgram(d.someProgram()), behindNumbers(d.someLocals())
		choices := behindChoices(d.choicesFor(p, locals, d.below(impl.MaxVisits+1)))
		r := behindRun(d.tierRun(p))
		switch round % 8 {
		case 0:
			p[d.below(len(p))].Test = -1
		case 1:
			locals[d.below(3)] = -1
		case 2:
			r.Counts[d.below(len(p))]++
		}
		keptProgram, keptLocals, keptChoices, kept := wholeProgram(p), slices.Clone(locals[:cap(locals)]), slices.Clone(choices[:cap(choices)]), wholeRun(r)
		impl.GoodProgram(p)
		impl.GoodRun(p, r)
		for range 2 {
			started, _ := impl.StartRun(p, locals)
			checkTierRunApart(t, started)
			played, _ := impl.PlayChoices(p, locals, choices)
			checkTierRunApart(t, played)
			plain, _ := impl.PlainRun(p, locals, d.below(42))
			checkTierRunApart(t, plain)
			hot, _, _ := impl.HotRun(p, locals, d.below(42), d.below(22))
			checkTierRunApart(t, hot)
			for _, c := range eachChoice(21) {
				visited, _ := impl.VisitBlock(p, r, c)
				checkTierRunApart(t, visited)
			}
			f, _ := impl.FlowOf(p)
			checkCodesApart(t, f)
		}
		if !sameProgram(wholeProgram(p), keptProgram) || !slices.Equal(locals[:cap(locals)], keptLocals) || !slices.Equal(choices[:cap(choices)], keptChoices) || !sameTierRun(wholeRun(r), kept) {
			t.Fatal("something was written into", programText(p), locals, choices, runText(r))
		}
		if t.Failed() {
			return
		}
	}
}

func TestTiersReadNothingBehind(t *testing.T) {
	d := &lots{state: 77}
	for range 200 {
		p, locals := behindProgram(d.someProgram()), behindNumbers(d.someLocals())
		checkProgram(t, p, locals)
		checkVisits(t, p, behindRun(d.tierRun(p)))
		checkPlayedTiers(t, p, locals, behindChoices(d.choicesFor(p, locals, d.below(impl.MaxVisits+1))))
		if t.Failed() {
			return
		}
	}
	p := slices.Repeat(programAs(t, "1 out | a 0 -1"), 7)
	checkProgramRefused(t, p)
	checkProgram(t, p[:6], []int{1, 2, 3})
	checkProgramRefused(t, p[:0])
	p[0].Then = 3
	checkProgramRefused(t, p[:3])
	checkProgram(t, p[:4], []int{1, 2, 3})
	locals, counts, told := make([]int, 4), make([]int, 5), make([]int, 101)
	checkVisits(t, p[:4], impl.Run{Locals: locals[:3], Told: told[:100], Counts: counts[:4]})
	checkTierRunRefused(t, p[:4], impl.Run{Locals: locals[:2], Told: told[:100], Counts: counts[:4]})
	checkTierRunRefused(t, p[:4], impl.Run{Locals: locals[:3], Told: told, Counts: counts[:4]})
	checkTierRunRefused(t, p[:4], impl.Run{Locals: locals[:3], Told: told[:100], Counts: counts[:3]})
	l := make([]impl.Choice, 41)
	if !checkPlayedTiers(t, programAs(t, " | a 0 0"), locals[:3], l[:40]) || checkPlayedTiers(t, programAs(t, " | a 0 0"), locals[:3], l) {
		t.Error("40 and 41 choices")
	}
}

// One list in several places of what is handed in does no harm.
func TestTiersOfSharedLists(t *testing.T) {
	words := []int{1, 2, 3}
	steps := stackStepsAs(t, "a out b 1 + =b")
	p := slices.Repeat([]impl.TBlock{{Steps: steps, Then: 1, Else: -1}}, 3)
	r := impl.Run{Locals: words, Told: words, Visits: 6, Counts: words}
	checkVisits(t, p, r)
	for _, c := range eachChoice(len(steps)) {
		after, _ := impl.VisitBlock(p, r, c)
		checkTierRunApart(t, after)
	}
	checkProgram(t, p, words)
	f, _ := impl.FlowOf(p)
	checkCodesApart(t, f)
	if !slices.Equal(words, []int{1, 2, 3}) || !slices.Equal(steps, stackStepsAs(t, "a out b 1 + =b")) {
		t.Error(words, steps)
	}
}

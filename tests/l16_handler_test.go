package tests

import (
	"slices"
	"strconv"
	"strings"
	"testing"

	"loop.example/g00350/impl"
)

// cellLetters are those of XOut to XLoop: o, r, s, c, f, l.
const cellLetters = "-orscfl"

// cellsAs reads a letter for each cell, with its N behind it where that is not
// 0.
func cellsAs(t *testing.T, text string) []impl.XCell {
	t.Helper()
	var cells []impl.XCell
	for _, part := range strings.Fields(text) {
		kind := strings.Index(cellLetters, part[:1])
		if kind < 1 {
			t.Fatalf("no cell: %q", part)
		}
		cells = append(cells, impl.XCell{Kind: kind, N: numbersAs(t, part[1:]+" 0")[0]})
	}
	return cells
}

func cellsText(cells []impl.XCell) string {
	var texts []string
	for _, c := range cells[:min(len(cells), 50)] {
		text := "(" + strconv.Itoa(c.Kind) + ")"
		if c.Kind >= 1 && c.Kind < len(cellLetters) {
			text = cellLetters[c.Kind:][:1]
		}
		if c.N != 0 {
			text += strconv.Itoa(c.N)
		}
		texts = append(texts, text)
	}
	return strings.Join(texts, " ")
}

const lineWords = "- out raise again jump set next"

// linedAs reads steps and guards with | between, and ; between two of them: of
// a step its word and the numbers that it has, jumps with To alone; of a guard
// From, To, Kind and At.
func linedAs(t *testing.T, text string) impl.Lined {
	t.Helper()
	steps, guards, _ := strings.Cut(text, "|")
	var l impl.Lined
	for part := range strings.SplitSeq(steps, ";") {
		word, rest, _ := strings.Cut(strings.TrimSpace(part), " ")
		if word == "" {
			continue
		}
		op := slices.Index(strings.Fields(lineWords), word)
		n := append(numbersAs(t, rest), 0, 0)
		switch {
		case op < 1:
			t.Fatalf("no step: %q", part)
		case op == impl.LJump:
			l.Steps = append(l.Steps, impl.LStep{Op: op, To: n[0]})
		default:
			l.Steps = append(l.Steps, impl.LStep{Op: op, N: n[0], To: n[1]})
		}
	}
	for part := range strings.SplitSeq(guards, ";") {
		if n := numbersAs(t, part); len(n) == 4 {
			l.Guards = append(l.Guards, impl.Guard{From: n[0], To: n[1], Kind: n[2], At: n[3]})
		} else if len(n) > 0 {
			t.Fatalf("no guard: %q", part)
		}
	}
	return l
}

func linedText(l impl.Lined) string {
	var steps, guards []string
	for _, s := range l.Steps[:min(len(l.Steps), 130)] {
		text := "(" + strconv.Itoa(s.Op) + ")"
		if words := strings.Fields(lineWords); s.Op >= 1 && s.Op < len(words) {
			text = words[s.Op]
		}
		steps = append(steps, text+" "+strconv.Itoa(s.N)+" "+strconv.Itoa(s.To))
	}
	for _, g := range l.Guards[:min(len(l.Guards), 30)] {
		guards = append(guards, namesText([]int{g.From, g.To, g.Kind, g.At}, " "))
	}
	return strings.Join(steps, "; ") + " | " + strings.Join(guards, "; ")
}

func sameLined(a impl.Lined, b impl.Lined) bool {
	return slices.Equal(a.Steps, b.Steps) && slices.Equal(a.Guards, b.Guards)
}

func isNoLined(l impl.Lined) bool {
	return len(l.Steps) == 0 && len(l.Guards) == 0
}

func cloneLined(l impl.Lined) impl.Lined {
	return impl.Lined{Steps: slices.Clone(l.Steps), Guards: slices.Clone(l.Guards)}
}

// underApart tells of how many trees a cell is, and -1 where it is no cell.
func underApart(c impl.XCell) int {
	bounds := map[int][3]int{impl.XOut: {0, 99, 0}, impl.XRaise: {1, 9, 0}, impl.XSeq: {0, 0, 2}, impl.XCatch: {0, 9, 2}, impl.XFinally: {0, 0, 2}, impl.XLoop: {0, 5, 1}}
	b, known := bounds[c.Kind]
	if !known || c.N < b[0] || c.N > b[1] {
		return -1
	}
	return b[2]
}

// spanApart tells how many cells the tree at the front has, 0 where it is none:
// it counts those that still lack.
func spanApart(cells []impl.XCell) int {
	lack := 1
	for at, c := range cells {
		under := underApart(c)
		if under < 0 {
			return 0
		}
		if lack += under - 1; lack == 0 {
			return at + 1
		}
	}
	return 0
}

func goodCellsApart(cells []impl.XCell) bool {
	if len(cells) > 30 || len(cells) == 0 || spanApart(cells) != len(cells) {
		return false
	}
	for at := range cells {
		loops := 0
		for from := 0; from <= at; from++ {
			if cells[from].Kind == impl.XLoop && at < from+spanApart(cells[from:]) {
				loops++
			}
		}
		if loops > 3 {
			return false
		}
	}
	return true
}

// bothApart cuts what is behind a tree's first cell into its two trees.
func bothApart(cells []impl.XCell) ([]impl.XCell, []impl.XCell) {
	end := 1 + spanApart(cells[1:])
	return cells[1:end], cells[end:]
}

// evalApart has what a good tree tells, and the code that it raises. Nothing of
// it hangs on what was done ahead: so a body is asked once, and told often.
func evalApart(cells []impl.XCell) ([]int, int) {
	n := cells[0].N
	switch cells[0].Kind {
	case impl.XOut:
		return []int{n}, 0
	case impl.XRaise:
		return nil, n
	case impl.XLoop:
		told, code := evalApart(cells[1:])
		switch {
		case n == 0:
			return nil, 0
		case code != 0:
			return told, code
		}
		return slices.Repeat(told, n), 0
	}
	first, second := bothApart(cells)
	told, code := evalApart(first)
	toldThen, codeThen := evalApart(second)
	both := slices.Concat(told, toldThen)
	switch cells[0].Kind {
	case impl.XSeq:
		if code == 0 {
			return both, codeThen
		}
	case impl.XCatch:
		if code != 0 && (n == 0 || n == code) {
			return both, codeThen
		}
	case impl.XFinally:
		if codeThen == 0 {
			codeThen = code
		}
		return both, codeThen
	}
	return told, code
}

// mayApart has a bit for each code that a good tree may raise.
func mayApart(cells []impl.XCell) int {
	n := cells[0].N
	switch cells[0].Kind {
	case impl.XOut:
		return 0
	case impl.XRaise:
		return 1 << n
	case impl.XLoop:
		return mayApart(cells[1:]) * min(n, 1)
	}
	first, second := bothApart(cells)
	body, then := mayApart(first), mayApart(second)
	if cells[0].Kind != impl.XCatch {
		return body | then
	}
	caught := 1 << n
	if n == 0 {
		caught = 1<<10 - 1
	}
	if body&caught == 0 {
		return body
	}
	return body&^caught | then
}

func codesApart(cells []impl.XCell) []int {
	var codes []int
	for code := 1; code <= 9; code++ {
		if mayApart(cells)>>code%2 == 1 {
			codes = append(codes, code)
		}
	}
	return codes
}

// linePart is a piece of a line: its steps count from its own first one, its
// guards and loops from its own, too; what lies ahead of it is below that.
type linePart struct {
	steps  []impl.LStep
	guards []impl.Guard
	loops  int
}

func stepPart(s impl.LStep) linePart {
	return linePart{steps: []impl.LStep{s}}
}

// inRow lays parts one behind the other.
func inRow(parts ...linePart) linePart {
	var all linePart
	for _, p := range parts {
		ahead := len(all.steps)
		numbers := map[int]int{impl.LAgain: len(all.guards), impl.LSet: all.loops, impl.LNext: all.loops}
		places := map[int]int{impl.LJump: ahead}
		for _, s := range p.steps {
			all.steps = append(all.steps, impl.LStep{Op: s.Op, N: s.N + numbers[s.Op], To: s.To + places[s.Op]})
		}
		for _, g := range p.guards {
			all.guards = append(all.guards, impl.Guard{From: g.From + ahead, To: g.To + ahead, Kind: g.Kind, At: g.At + ahead})
		}
		all.loops += p.loops
	}
	return all
}

func linePartOf(cells []impl.XCell) linePart {
	n := cells[0].N
	switch cells[0].Kind {
	case impl.XOut:
		return stepPart(impl.LStep{Op: impl.LOut, N: n})
	case impl.XRaise:
		return stepPart(impl.LStep{Op: impl.LRaise, N: n})
	case impl.XLoop:
		body := linePartOf(cells[1:])
		long := len(body.steps)
		head := linePart{loops: 1, steps: []impl.LStep{{Op: impl.LSet, N: 20}, {Op: impl.LNext, N: 20, To: n}, {Op: impl.LJump, To: long + 4}}}
		return inRow(head, body, stepPart(impl.LStep{Op: impl.LJump, To: -long - 2}))
	}
	first, second := bothApart(cells)
	body, then := linePartOf(first), linePartOf(second)
	switch cells[0].Kind {
	case impl.XCatch:
		guard := linePart{guards: []impl.Guard{{From: -len(body.steps), Kind: n, At: 1}}}
		return inRow(body, guard, stepPart(impl.LStep{Op: impl.LJump, To: len(then.steps) + 1}), then)
	case impl.XFinally:
		guard := linePart{guards: []impl.Guard{{From: -len(body.steps), At: len(then.steps) + 1}}}
		jump := stepPart(impl.LStep{Op: impl.LJump, To: len(then.steps) + 2})
		again := stepPart(impl.LStep{Op: impl.LAgain, N: -1 - 2*len(then.guards)})
		return inRow(body, guard, then, jump, then, again)
	}
	return inRow(body, then)
}

// lineApart tells, too, how many loops there are: they have a register each.
func lineApart(cells []impl.XCell) (impl.Lined, int) {
	all := linePartOf(cells)
	return impl.Lined{Steps: all.steps, Guards: all.guards}, all.loops
}

// goodLinedApart asks for each field by bounds: those of N, and those of To.
func goodLinedApart(l impl.Lined) bool {
	end := len(l.Steps)
	bounds := map[int][4]int{impl.LOut: {0, 99, 0, 0}, impl.LRaise: {1, 9, 0, 0}, impl.LAgain: {0, 39, 0, 0}, impl.LJump: {0, 0, 0, end}, impl.LSet: {0, 39, 0, 0}, impl.LNext: {0, 39, 0, 9}}
	for _, s := range l.Steps {
		b, known := bounds[s.Op]
		if !known || s.N < b[0] || s.N > b[1] || s.To < b[2] || s.To > b[3] {
			return false
		}
	}
	for _, g := range l.Guards {
		if min(g.From, g.To, g.At, g.Kind) < 0 || max(g.From, g.To, g.At) > end || g.Kind > 9 || g.To < g.From {
			return false
		}
	}
	return end <= 120 && len(l.Guards) <= 20
}

// guardApart goes from the back: so the first one counts.
func guardApart(l impl.Lined, at int, code int) (int, bool) {
	number, found := 0, false
	for k, g := range slices.Backward(l.Guards) {
		if at >= g.From && at <= g.To-1 && (g.Kind == code || g.Kind == 0) {
			number, found = k, true
		}
	}
	return number, found
}

// linedRun is what a run of a line came to.
type linedRun struct {
	told  []int
	code  int
	steps int
}

// runLinedApart is for a good line; the registers are in a map.
func runLinedApart(l impl.Lined, fuel int) (linedRun, bool) {
	var r linedRun
	registers := map[int]int{}
	for at := 0; at < len(l.Steps); {
		if r.steps++; r.steps > fuel {
			return linedRun{}, false
		}
		s := l.Steps[at]
		goesOn, code := at+1, 0
		if s.Op == impl.LOut {
			if r.told = append(r.told, s.N); len(r.told) > 200 {
				return linedRun{}, false
			}
		} else if s.Op == impl.LRaise {
			code = s.N
		} else if s.Op == impl.LAgain {
			code = registers[s.N]
		} else if s.Op == impl.LJump {
			goesOn = s.To
		} else if s.Op == impl.LSet {
			delete(registers, s.N)
		} else if registers[s.N] != s.To {
			registers[s.N], goesOn = registers[s.N]+1, at+2
		}
		if code != 0 {
			guard, caught := guardApart(l, at, code)
			if !caught {
				r.code = code
				return r, true
			}
			registers[guard], goesOn = code, l.Guards[guard].At
		}
		at = goesOn
	}
	return r, true
}

// cells draws a tree of about so many cells, within so many loops: the codes are
// mostly below an end, and raised the oftener the more often is.
func (d *lots) cells(size int, loops int, codes int, often int) []impl.XCell {
	if size < 2 || size == 2 && loops == 3 {
		if d.below(10) < often {
			return []impl.XCell{{Kind: impl.XRaise, N: 1 + d.below(codes)}}
		}
		return []impl.XCell{{Kind: impl.XOut, N: d.below(100)}}
	}
	if kind := d.below(10); size == 2 || kind < 2 && loops < 3 {
		return append([]impl.XCell{{Kind: impl.XLoop, N: d.below(6)}}, d.cells(size-1, loops+1, codes, often)...)
	}
	first := 1 + d.below(size-2)
	c := impl.XCell{Kind: []int{impl.XSeq, impl.XSeq, impl.XCatch, impl.XCatch, impl.XFinally}[d.below(5)]}
	if c.Kind == impl.XCatch {
		c.N = d.below(codes + 1)
	}
	return slices.Concat([]impl.XCell{c}, d.cells(first, loops, codes, often), d.cells(size-1-first, loops, codes, often))
}

func (d *lots) someCells() []impl.XCell {
	return d.cells([]int{30, 12, 1 + d.below(30), 1 + d.below(12)}[d.below(4)], 0, []int{2, 3, 9}[d.below(3)], 1+d.below(7))
}

// lined draws a good line: its steps lead mostly on, and few of the registers
// are asked for.
func (d *lots) lined(steps int, guards int) impl.Lined {
	var l impl.Lined
	place := func() int { return d.below(steps + 1) }
	register := func() int {
		if guards == 0 || d.below(4) == 0 {
			return []int{20, 21, 38, 39}[d.below(4)]
		}
		return d.below(min(20, guards+1))
	}
	for at := range steps {
		ahead := min(steps, at+1+d.below(3))
		s := []impl.LStep{{Op: impl.LOut, N: d.below(100)}, {Op: impl.LRaise, N: 1 + d.below(3)}, {Op: impl.LAgain, N: register()}, {Op: impl.LJump, To: []int{place(), ahead, ahead}[d.below(3)]}, {Op: impl.LSet, N: register()}, {Op: impl.LNext, N: register(), To: d.below(10)}, {Op: impl.LRaise, N: 1 + d.below(9)}}
		l.Steps = append(l.Steps, s[d.below(len(s))])
	}
	for range guards {
		from, to := place(), place()
		l.Guards = append(l.Guards, impl.Guard{From: min(from, to), To: max(from, to), Kind: d.below(4), At: place()})
	}
	return l
}

func (d *lots) someLined() impl.Lined {
	switch d.below(8) {
	case 0:
		return d.lined(impl.MaxLine, d.below(21))
	case 1:
		l, _ := lineApart(d.cells(1+d.below(20), 0, 3, 3))
		if goodLinedApart(l) {
			return l
		}
	}
	return d.lined(d.below(15), d.below(6))
}

func checkEvaluated(t *testing.T, cells []impl.XCell, want []int, wantCode int) {
	t.Helper()
	told, code, ok := impl.EvalTree(cells)
	if !slices.Equal(told, want) || code != wantCode || !ok {
		t.Errorf("EvalTree(%s) = %v %d %v, not %v %d", cellsText(cells), told, code, ok, want, wantCode)
	}
}

func checkEvalRefused(t *testing.T, cells []impl.XCell) {
	t.Helper()
	if told, code, ok := impl.EvalTree(cells); len(told) != 0 || code != 0 || ok {
		t.Errorf("EvalTree(%s) = %v %d %v", cellsText(cells), told, code, ok)
	}
}

func checkLined(t *testing.T, cells []impl.XCell, want impl.Lined) {
	t.Helper()
	l, ok := impl.LineTree(cells)
	if !sameLined(l, want) || !ok || !impl.GoodLined(l) {
		t.Errorf("LineTree(%s) = %s %v, not %s", cellsText(cells), linedText(l), ok, linedText(want))
	}
}

func checkLineRefused(t *testing.T, cells []impl.XCell) {
	t.Helper()
	if l, ok := impl.LineTree(cells); !isNoLined(l) || ok {
		t.Errorf("LineTree(%s) = %s %v", cellsText(cells), linedText(l), ok)
	}
}

func checkMay(t *testing.T, cells []impl.XCell, want []int) {
	t.Helper()
	if codes, ok := impl.MayRaise(cells); !slices.Equal(codes, want) || !ok {
		t.Errorf("MayRaise(%s) = %v %v, not %v", cellsText(cells), codes, ok, want)
	}
}

func checkGoodCells(t *testing.T, cells []impl.XCell, want bool) {
	t.Helper()
	if is := impl.GoodTree2(cells); is != want || goodCellsApart(cells) != want {
		t.Errorf("GoodTree2(%s) = %v, apart %v, not %v", cellsText(cells), is, goodCellsApart(cells), want)
	}
}

// checkCellsRefused asks all functions of the chapter that take a tree.
func checkCellsRefused(t *testing.T, cells []impl.XCell) {
	t.Helper()
	checkGoodCells(t, cells, false)
	checkEvalRefused(t, cells)
	checkLineRefused(t, cells)
	if codes, ok := impl.MayRaise(cells); len(codes) != 0 || ok {
		t.Errorf("MayRaise(%s) = %v %v", cellsText(cells), codes, ok)
	}
}

func checkLineRan(t *testing.T, l impl.Lined, fuel int, want linedRun) {
	t.Helper()
	told, code, steps, ok := impl.RunLined(l, fuel)
	if !slices.Equal(told, want.told) || code != want.code || steps != want.steps || !ok {
		t.Errorf("RunLined(%s, %d) = %v %d %d %v, not %v", linedText(l), fuel, told, code, steps, ok, want)
	}
}

func checkLineRunRefused(t *testing.T, l impl.Lined, fuel int) {
	t.Helper()
	if told, code, steps, ok := impl.RunLined(l, fuel); len(told) != 0 || code != 0 || steps != 0 || ok {
		t.Errorf("RunLined(%s, %d) = %v %d %d %v", linedText(l), fuel, told, code, steps, ok)
	}
}

// checkLineRun asks for fuel that just suffices, and for one fewer, too; it
// tells whether it came to an end.
func checkLineRun(t *testing.T, l impl.Lined) bool {
	t.Helper()
	want, ok := runLinedApart(l, 2000)
	if !ok {
		checkLineRunRefused(t, l, 2000)
		return false
	}
	checkLineRan(t, l, 2000, want)
	checkLineRan(t, l, want.steps, want)
	if want.steps > 0 {
		checkLineRunRefused(t, l, want.steps-1)
	}
	return true
}

func checkGuard(t *testing.T, l impl.Lined, at int, code int, want int, wantOk bool) {
	t.Helper()
	if guard, ok := impl.GuardAt(l, at, code); guard != want || ok != wantOk {
		t.Errorf("GuardAt(%s, %d, %d) = %d %v, not %d %v", linedText(l), at, code, guard, ok, want, wantOk)
	}
}

// checkGuards asks for each step and code, and for those right beside them.
func checkGuards(t *testing.T, l impl.Lined) {
	t.Helper()
	for at := -1; at <= len(l.Steps); at++ {
		for code := -1; code <= 10; code++ {
			if at < 0 || at == len(l.Steps) || code < 1 || code > 9 {
				checkGuard(t, l, at, code, 0, false)
				continue
			}
			want, found := guardApart(l, at, code)
			checkGuard(t, l, at, code, want, found)
		}
	}
}

func checkGoodLined(t *testing.T, l impl.Lined, want bool) {
	t.Helper()
	if is := impl.GoodLined(l); is != want || goodLinedApart(l) != want {
		t.Errorf("GoodLined(%s) = %v, apart %v, not %v", linedText(l), is, goodLinedApart(l), want)
	}
}

// checkLinedRefused asks all functions of the chapter that take a line.
func checkLinedRefused(t *testing.T, l impl.Lined) {
	t.Helper()
	checkGoodLined(t, l, false)
	for _, fuel := range []int{0, 1, 2000} {
		checkLineRunRefused(t, l, fuel)
	}
	for code := range 11 {
		checkGuard(t, l, 0, code, 0, false)
		checkGuard(t, l, len(l.Steps)-1, code, 0, false)
	}
}

// checkTree asks for all that a good tree tells of itself, and for promise 16:
// it tells whether that could be asked, with a line and fuel and room enough.
func checkTree(t *testing.T, cells []impl.XCell) bool {
	t.Helper()
	checkGoodCells(t, cells, true)
	may := codesApart(cells)
	checkMay(t, cells, may)
	told, code := evalApart(cells)
	hasRoom := len(told) <= 200
	if hasRoom {
		checkEvaluated(t, cells, told, code)
	} else {
		checkEvalRefused(t, cells)
	}
	if code != 0 && !slices.Contains(may, code) {
		t.Errorf("%s raises %d, which is not among %v", cellsText(cells), code, may)
	}
	l, loops := lineApart(cells)
	if len(l.Steps) > 120 || len(l.Guards) > 20 || loops > 20 {
		checkLineRefused(t, cells)
		return false
	}
	checkLined(t, cells, l)
	return checkLineIsTree(t, cells) && hasRoom
}

// checkLineIsTree holds what the program itself tells of the line against what
// it tells of the tree.
func checkLineIsTree(t *testing.T, cells []impl.XCell) bool {
	t.Helper()
	l, _ := impl.LineTree(cells)
	told, code, ok := impl.EvalTree(cells)
	lineTold, lineCode, _, lineOk := impl.RunLined(l, 2000)
	if lineOk && (!ok || !slices.Equal(told, lineTold) || code != lineCode) {
		t.Errorf("%s tells %v and raises %d, its line %s %v and %d", cellsText(cells), told, code, linedText(l), lineTold, lineCode)
	}
	return checkLineRun(t, l) == lineOk && lineOk
}

func TestHandlerBounds(t *testing.T) {
	if impl.MaxTree2 != 30 || impl.MaxLine != 120 {
		t.Error(impl.MaxTree2, impl.MaxLine)
	}
	kinds := []int{impl.XOut, impl.XRaise, impl.XSeq, impl.XCatch, impl.XFinally, impl.XLoop}
	ops := []int{impl.LOut, impl.LRaise, impl.LAgain, impl.LJump, impl.LSet, impl.LNext}
	if !slices.Equal(kinds, []int{1, 2, 3, 4, 5, 6}) || !slices.Equal(ops, []int{1, 2, 3, 4, 5, 6}) {
		t.Error(kinds, ops)
	}
}

func TestEvalTreeKnown(t *testing.T) {
	for _, k := range []struct {
		tree string
		told string
		code int
	}{
		{"o", "0", 0}, {"o99", "99", 0}, {"r1", "", 1}, {"r9", "", 9},
		{"s o1 o2", "1 2", 0}, {"s r3 o2", "", 3}, {"s o1 r3", "1", 3}, {"s r3 r4", "", 3}, {"s s o1 o2 s o3 o4", "1 2 3 4", 0}, {"s s o1 r2 s o3 r4", "1", 2},
		// A body that raises N, another code, none, and any with N 0.
		{"c2 r2 o5", "5", 0}, {"c2 r3 o5", "", 3}, {"c2 o1 o5", "1", 0}, {"c r2 o5", "5", 0}, {"c r9 o5", "5", 0}, {"c o1 o5", "1", 0}, {"c9 r9 o5", "5", 0},
		{"c2 s o1 s r2 o3 o5", "1 5", 0}, {"s c2 s r2 o3 o5 o6", "5 6", 0}, {"s c2 r3 o5 o6", "", 3},
		// A handler that raises itself, the same code and another one.
		{"c2 r2 r2", "", 2}, {"c2 r2 r4", "", 4}, {"c r2 r2", "", 2}, {"c2 r2 s o1 r4", "1", 4}, {"c4 c2 r2 r4 o8", "8", 0}, {"c2 c2 r2 r2 o8", "8", 0}, {"c2 c4 r2 o7 o8", "8", 0}, {"c2 o1 r3", "1", 0},
		{"c5 c4 c3 r5 o1 o2 o3", "3", 0}, {"c5 c c3 r5 o1 o2 o3", "2", 0}, {"c3 c3 c3 r3 r3 r3 o9", "9", 0},
		// The body raises and the last part doesn't, the last part alone, both, neither.
		{"f r2 o5", "5", 2}, {"f o1 r3", "1", 3}, {"f r2 r3", "", 3}, {"f r3 r3", "", 3}, {"f o1 o5", "1 5", 0}, {"f s o1 r2 s o3 r4", "1 3", 4},
		{"s f r2 o5 o6", "5", 2}, {"s f o1 o5 o6", "1 5 6", 0}, {"f f r1 o1 o2", "1 2", 1}, {"f o1 f r2 o3", "1 3", 2}, {"f f r1 r2 r3", "", 3}, {"f r1 f r2 o5", "5", 2}, {"f r1 f o4 o5", "4 5", 1},
		// What is caught within a last part leaves what the body raised.
		{"f r1 c2 r2 o5", "5", 1}, {"f r1 c r2 o5", "5", 1}, {"f r1 c2 o4 o5", "4", 1}, {"f r1 c o4 o5", "4", 1}, {"f r1 c1 r2 o5", "", 2}, {"f r1 f o2 o3", "2 3", 1}, {"f r1 c2 f r2 o3 o4", "3 4", 1}, {"f r1 f c2 r2 o3 o4", "3 4", 1},
		// What a last part raises counts for who stands around.
		{"c2 f r2 o5 o6", "5 6", 0}, {"c2 f r2 r3 o6", "", 3}, {"c3 f r2 r3 o6", "6", 0}, {"c f r2 r3 o6", "6", 0}, {"c2 f s o1 r2 o7 o9", "1 7 9", 0}, {"c2 r2 f r3 o4", "4", 3},
		// 0 times, once, 5 times; three within one another.
		{"l o1", "", 0}, {"l r1", "", 0}, {"l1 o1", "1", 0}, {"l2 o1", "1 1", 0}, {"l5 o7", "7 7 7 7 7", 0}, {"l2 l3 o1", "1 1 1 1 1 1", 0}, {"l2 l2 l2 o1", "1 1 1 1 1 1 1 1", 0}, {"l2 l l2 o1", "", 0}, {"l2 s o1 l2 o2", "1 2 2 1 2 2", 0},
		{"s l2 l2 l2 o1 l1 l1 l1 o2", "1 1 1 1 1 1 1 1 2", 0},
		// A code is raised in a loop's midst: of its rounds none is left.
		{"l3 s o1 s r2 o3", "1", 2}, {"l5 r2", "", 2}, {"c2 l3 s o1 r2 o9", "1 9", 0}, {"l2 c2 s o1 r2 o9", "1 9 1 9", 0}, {"l2 s o1 c2 l3 r2 o9", "1 9 1 9", 0}, {"f l3 s o1 r2 o9", "1 9", 2}, {"l2 f o1 o2", "1 2 1 2", 0}, {"l2 f r1 o2", "2", 1}, {"l2 c f r1 o2 o3", "2 3 2 3", 0}, {"l3 s l2 o1 r4", "1 1", 4},
	} {
		cells := cellsAs(t, k.tree)
		checkEvaluated(t, cells, numbersAs(t, k.told), k.code)
		if !checkTree(t, cells) {
			t.Error(k.tree, "has no line that tells as much")
		}
	}
}

// Exactly 200 told, and one more; where the 201st one is told does not matter.
func TestEvalTreeRoom(t *testing.T) {
	eight := "s s s o1 o2 s o3 o4 s s o5 o6 s o7 o8"
	var want []int
	for range 25 {
		want = append(want, 1, 2, 3, 4, 5, 6, 7, 8)
	}
	for _, tree := range []string{"l5 l5 " + eight, "c l5 l5 " + eight + " o9", "f l5 l5 " + eight + " l o9", "s l o9 l5 l5 " + eight, "c r1 l5 l5 " + eight} {
		checkEvaluated(t, cellsAs(t, tree), want, 0)
		if !checkTree(t, cellsAs(t, tree)) {
			t.Error(tree)
		}
	}
	for _, tree := range []string{"s l5 l5 " + eight + " r3", "f l5 l5 " + eight + " r3", "f r3 l5 l5 " + eight} {
		checkEvaluated(t, cellsAs(t, tree), want, 3)
		if !checkTree(t, cellsAs(t, tree)) {
			t.Error(tree)
		}
	}
	for _, tree := range []string{"s o9 l5 l5 " + eight, "s l5 l5 " + eight + " o9", "f l5 l5 " + eight + " o9", "c s l5 l5 " + eight + " r1 o9", "c s s l5 l5 " + eight + " o9 r1 o1", "s s l5 l5 " + eight + " o9 r1", "l5 l5 l5 " + eight, "c s l5 l5 l5 " + eight + " r1 o1", "c f r3 l5 l5 l2 " + eight + " o5"} {
		cells := cellsAs(t, tree)
		checkEvalRefused(t, cells)
		checkTree(t, cells)
		l, ok := impl.LineTree(cells)
		if !ok {
			t.Error(tree, "has no line")
		}
		checkLineRunRefused(t, l, 2000)
		checkMay(t, cells, codesApart(cells))
	}
}

func TestLineTreeKnown(t *testing.T) {
	for _, k := range []struct{ tree, line string }{
		{"o", "out 0"}, {"o99", "out 99"}, {"r9", "raise 9"},
		{"s o1 r2", "out 1; raise 2"}, {"s s o1 o2 s o3 o4", "out 1; out 2; out 3; out 4"},
		// The body, a jump behind the handler, the handler.
		{"c o1 o2", "out 1; jump 3; out 2 | 0 1 0 2"}, {"c7 r1 o2", "raise 1; jump 3; out 2 | 0 1 7 2"}, {"c3 s o1 r2 s o3 o4", "out 1; raise 2; jump 5; out 3; out 4 | 0 2 3 3"},
		{"s o9 c3 o1 o2", "out 9; out 1; jump 4; out 2 | 1 2 3 3"}, {"s c3 o1 o2 o9", "out 1; jump 3; out 2; out 9 | 0 1 3 2"},
		// The last part twice, the second one with LAgain of the guard's number.
		{"f o1 o2", "out 1; out 2; jump 5; out 2; again 0 | 0 1 0 3"}, {"f s o1 r2 s o3 o4", "out 1; raise 2; out 3; out 4; jump 8; out 3; out 4; again 0 | 0 2 0 5"},
		{"s o9 f o1 r2", "out 9; out 1; raise 2; jump 6; raise 2; again 0 | 1 2 0 4"},
		{"s f o1 o2 f o3 o4", "out 1; out 2; jump 5; out 2; again 0; out 3; out 4; jump 10; out 4; again 1 | 0 1 0 3; 5 6 0 8"},
		// Guards: behind those of the body, ahead of those of the handler.
		{"c1 c2 r3 o4 c5 r6 o7", "raise 3; jump 3; out 4; jump 7; raise 6; jump 7; out 7 | 0 1 2 2; 0 3 1 4; 4 5 5 6"},
		// And ahead of those of the last parts, which are laid twice, too.
		{"f c2 r3 o4 c5 r6 o7", "raise 3; jump 3; out 4; raise 6; jump 6; out 7; jump 11; raise 6; jump 10; out 7; again 1 | 0 1 2 2; 0 3 0 7; 3 4 5 5; 7 8 5 9"},
		{"f o1 f o2 o3", "out 1; out 2; out 3; jump 6; out 3; again 1; jump 13; out 2; out 3; jump 12; out 3; again 2; again 0 | 0 1 0 7; 1 2 0 4; 7 8 0 10"},
		{"f f o1 o2 o3", "out 1; out 2; jump 5; out 2; again 0; out 3; jump 9; out 3; again 1 | 0 1 0 3; 0 5 0 7"},
		{"c2 f s o1 r2 o7 o9", "out 1; raise 2; out 7; jump 6; out 7; again 0; jump 8; out 9 | 0 2 0 4; 0 6 2 7"},
		// LSet, LNext, a jump behind all, the body, a jump to the LNext.
		{"l o1", "set 20; next 20 0; jump 5; out 1; jump 1"}, {"l5 s o1 o2", "set 20; next 20 5; jump 6; out 1; out 2; jump 1"}, {"s o9 l3 r1", "out 9; set 20; next 20 3; jump 6; raise 1; jump 2"},
		// Registers in the order in which the LSets are laid.
		{"l2 l3 o1", "set 20; next 20 2; jump 9; set 21; next 21 3; jump 8; out 1; jump 4; jump 1"},
		{"s l2 o1 l3 o2", "set 20; next 20 2; jump 5; out 1; jump 1; set 21; next 21 3; jump 10; out 2; jump 6"},
		{"s l1 l2 o1 l3 o2", "set 20; next 20 1; jump 9; set 21; next 21 2; jump 8; out 1; jump 4; jump 1; set 22; next 22 3; jump 14; out 2; jump 10"},
		{"f l1 o1 l2 o2", "set 20; next 20 1; jump 5; out 1; jump 1; set 21; next 21 2; jump 10; out 2; jump 6; jump 17; set 22; next 22 2; jump 16; out 2; jump 12; again 0 | 0 5 0 11"},
		{"l4 c3 r3 o2", "set 20; next 20 4; jump 7; raise 3; jump 6; out 2; jump 1 | 3 4 3 5"},
		{"c3 l4 r3 l1 o2", "set 20; next 20 4; jump 5; raise 3; jump 1; jump 11; set 21; next 21 1; jump 11; out 2; jump 7 | 0 5 3 6"},
	} {
		cells, want := cellsAs(t, k.tree), linedAs(t, k.line)
		checkLined(t, cells, want)
		checkGuards(t, want)
		checkTree(t, cells)
	}
}

// chainOf lays a piece of a tree so often, and ends it with another.
func chainOf(piece string, count int, last string) string {
	return strings.Repeat(piece+" ", count) + last
}

func TestLineTreeLimits(t *testing.T) {
	// Each f o has what is behind it twice, and three steps more.
	most := "s o1 f o2 s o3 f o4 f o5 s o6 f o7 s s s o1 o2 o3 o4"
	more := "f o2 f o3 s o4 f o5 s o6 f o7 s s s o1 o2 o3 o4"
	twice := "f o1 f o2 "
	for _, k := range []struct {
		tree                 string
		steps, guards, loops int
	}{
		{most, 120, 15, 0}, {more, 121, 15, 0},
		{"s o8 " + twice + "c1 c2 c3 c4 r4 o1 o2 o3 o4", 46, 19, 0},
		{"c8 " + twice + "c1 c2 c3 c4 r4 o1 o2 o3 o4 o5", 47, 20, 0},
		{"c8 c9 " + twice + "c1 c2 c3 c4 r4 o1 o2 o3 o4 o5 o6", 49, 21, 0},
		{"f " + twice + "c1 c2 c3 c4 r4 o1 o2 o3 o4 o5", 49, 20, 0},
		{"f f " + twice + "c1 c2 c3 c4 r4 o1 o2 o3 o4 o5 o6", 53, 21, 0},
		{twice + "s l1 l1 l1 o1 l1 l1 o1", 97, 3, 20},
		{"s " + twice + "s l1 l1 l1 o1 l1 l1 o1 l1 o1", 102, 3, 21},
		{"s l1 o1 " + twice + "s l1 l1 l1 o1 l1 l1 o1", 102, 3, 21},
		{"s o1 f o2 " + twice + "s s s o1 o2 o3 o4 ", 54, 7, 0},
		{chainOf("f o1", 4, "o2"), 61, 15, 0}, {chainOf("f o1", 5, "o2"), 125, 31, 0}, {chainOf("f o1", 14, "o2"), 65533, 16383, 0},
		{chainOf("f", 14, strings.Repeat("o1 ", 15)), 57, 14, 0}, {chainOf("c", 14, strings.Repeat("o1 ", 15)), 29, 14, 0}, {chainOf("s", 14, strings.Repeat("o1 ", 15)), 15, 0, 0},
	} {
		cells := cellsAs(t, k.tree)
		l, loops := lineApart(cells)
		if len(l.Steps) != k.steps || len(l.Guards) != k.guards || loops != k.loops {
			t.Error(k.tree, "has", len(l.Steps), "steps", len(l.Guards), "guards", loops, "loops")
		}
		checkTree(t, cells)
		if _, ok := impl.LineTree(cells); ok != (k.steps <= 120 && k.guards <= 20 && k.loops <= 20) {
			t.Error(k.tree, ok)
		}
	}
}

// A line that is good, of a tree for which there is room, with too little fuel.
func TestLinesThatGoOnTooLong(t *testing.T) {
	cells := cellsAs(t, chainOf("l5 l5 l5", 1, chainOf("c r1", 13, "o7")))
	checkEvaluated(t, cells, slices.Repeat([]int{7}, 125), 0)
	l, ok := impl.LineTree(cells)
	if !ok {
		t.Fatal("no line")
	}
	checkLineRunRefused(t, l, 2000)
	if checkTree(t, cells) {
		t.Error("2000 steps suffice")
	}
	if r, ok := runLinedApart(l, 100000); !ok || r.steps < 2001 || len(r.told) != 125 || r.code != 0 {
		t.Error(r, ok)
	}
}

// times is text that has another one so often.
func times(text string, count int) string {
	return strings.Repeat(text+"; ", count)
}

func TestRunLinedKnown(t *testing.T) {
	for _, k := range []struct {
		line  string
		told  string
		code  int
		steps int
	}{
		{"", "", 0, 0}, {"| 0 0 0 0; 0 0 5 0", "", 0, 0}, {"out 7", "7", 0, 1}, {"out 7; out 7; out 0", "7 7 0", 0, 3}, {"raise 4", "", 4, 1}, {"out 1; raise 4; out 2", "1", 4, 2},
		// Jumps on, back and to the end.
		{"jump 2; out 1; out 2", "2", 0, 2}, {"jump 1", "", 0, 1}, {"out 1; jump 3; out 2", "1", 0, 2}, {"jump 2; jump 3; jump 1; out 5", "5", 0, 4}, {"jump 1; out 1", "1", 0, 2},
		// Guards: of any code and of one, at steps, at the end.
		{"raise 4; out 1; out 2 | 0 1 0 2", "2", 0, 2}, {"raise 4; out 1; out 2 | 0 1 4 1", "1 2", 0, 3}, {"raise 4; out 1 | 0 1 5 1", "", 4, 1}, {"raise 4; out 1 | 0 1 0 2", "", 0, 1}, {"raise 4; out 1 | 0 2 4 2", "", 0, 1},
		{"out 1; raise 9; out 2 | 1 2 9 2", "1 2", 0, 3}, {"out 1; raise 9; out 2 | 0 1 9 2", "1", 9, 2}, {"out 1; raise 9; out 2 | 2 3 9 2", "1", 9, 2}, {"out 1; raise 9; out 2 | 0 3 0 3", "1", 0, 2},
		// Of two around a step the first in the list, though the other be narrower.
		{"raise 4; out 1; out 2 | 0 3 0 2; 0 1 0 1", "2", 0, 2}, {"raise 4; out 1; out 2 | 0 1 0 1; 0 3 0 2", "1 2", 0, 3}, {"raise 4; out 1; out 2 | 0 3 5 2; 0 1 4 1", "1 2", 0, 3}, {"raise 4; out 1; out 2 | 0 3 0 2; 0 1 4 1", "2", 0, 2}, {"raise 4; out 1; out 2 | 0 1 4 1; 0 1 4 2", "1 2", 0, 3},
		// Guards around no step.
		{"raise 4; out 1 | 0 0 0 1", "", 4, 1}, {"raise 4; out 1 | 1 1 0 1; 2 2 0 1", "", 4, 1}, {"raise 4; out 1; out 2 | 0 0 0 1; 0 1 0 2", "2", 0, 2},
		// A handler within what its own guard is for.
		{"raise 4; raise 5; out 1 | 0 2 4 1", "", 5, 2}, {"next 20 3; jump 4; out 1; raise 4 | 0 4 0 0", "1 1 1", 0, 11}, {"raise 4; raise 5; out 1 | 0 2 4 1; 1 2 5 2", "1", 0, 3}, {"raise 4; out 8 | 0 2 0 1", "8", 0, 2},
		// LAgain: with 0, with a code, of this guard's register and of another's.
		{"again 0; out 1", "1", 0, 2}, {"again 39; out 1", "1", 0, 2}, {"raise 4; again 0; out 1 | 0 1 0 1", "", 4, 2}, {"raise 4; again 1; out 1 | 0 1 0 1", "1", 0, 3}, {"raise 4; again 1; out 1 | 0 1 5 1; 0 1 4 1", "", 4, 2}, {"raise 4; again 0; out 1 | 0 1 5 1; 0 1 4 1", "1", 0, 3},
		{"raise 4; again 0; out 1 | 0 1 0 1; 1 2 4 2", "1", 0, 3}, {"raise 4; raise 6; again 1; again 0; out 1 | 0 1 0 1; 1 2 0 2; 2 3 6 3", "", 4, 4}, {"raise 4; raise 6; again 0; again 1; out 1 | 0 1 0 1; 1 2 0 2; 2 3 4 3", "", 6, 4},
		// What is caught later takes the register.
		{"raise 4; next 20 1; jump 4; raise 5; again 0 | 0 4 0 1", "", 5, 6},
		// LSet and LNext, also of a guard's register.
		{"next 20 0; out 1; out 2", "1 2", 0, 3}, {"next 20 1; out 1; out 2", "2", 0, 2}, {"next 20 9; out 1; out 2", "2", 0, 2}, {"next 39 0; out 1", "1", 0, 2}, {"next 0 1; out 1; next 0 1; out 3; next 0 2; out 5", "3", 0, 4},
		{"next 20 1; out 1; set 20; next 20 1; out 4; out 5", "5", 0, 4}, {"next 20 1; out 1; set 21; next 20 1; out 4; out 5", "4 5", 0, 5}, {"set 20; next 20 3; jump 5; out 7; jump 1", "7 7 7", 0, 12},
		{"raise 4; set 0; again 0; out 1 | 0 1 0 1", "1", 0, 4}, {"raise 4; next 0 4; out 1; again 0 | 0 1 0 1", "1", 4, 4}, {"raise 4; next 0 5; out 1; again 0 | 0 1 0 1", "", 5, 3}, {"again 5; next 5 8; out 1; again 5", "", 1, 3},
		// An LNext that is the last step may lead beyond the end.
		{"next 20 0", "", 0, 1}, {"next 20 1", "", 0, 1}, {"out 1; next 20 9", "1", 0, 2},
		// A register of which LNext made a number above all codes: any code's guard is for it.
		{"raise 9; next 0 1; jump 3; again 0; out 1 | 0 1 9 1", "", 10, 3}, {"raise 9; next 0 1; jump 3; again 0; out 1 | 0 1 9 1; 3 4 1 4; 3 4 9 4", "", 10, 3}, {"raise 9; next 0 1; jump 3; again 0; out 1 | 0 1 9 1; 3 4 0 4", "1", 0, 4},
	} {
		l, want := linedAs(t, k.line), linedRun{numbersAs(t, k.told), k.code, k.steps}
		checkGoodLined(t, l, true)
		checkGuards(t, l)
		for fuel := range k.steps {
			checkLineRunRefused(t, l, fuel)
		}
		for _, fuel := range []int{k.steps, k.steps + 1, 50, 1999, 2000} {
			checkLineRan(t, l, fuel, want)
		}
		checkLineRun(t, l)
	}
}

// Lines that come to no end, whatever the fuel.
func TestRunLinedForEver(t *testing.T) {
	for _, line := range []string{"jump 0", "out 1; jump 1", "raise 4 | 0 1 0 0", "raise 4 | 0 1 4 0; 0 0 0 1", "set 20; next 20 1; jump 0; jump 0", "next 20 0; jump 0; jump 0", "raise 4; again 0 | 0 1 0 1; 1 2 0 1", "next 20 9; jump 0; jump 0"} {
		l := linedAs(t, line)
		checkGoodLined(t, l, true)
		for _, fuel := range []int{0, 1, 2, 10, 1999, 2000} {
			if want, ok := runLinedApart(l, fuel); ok {
				checkLineRan(t, l, fuel, want)
			} else {
				checkLineRunRefused(t, l, fuel)
			}
		}
	}
	checkLineRunRefused(t, linedAs(t, "jump 0"), 2000)
	checkLineRunRefused(t, linedAs(t, "raise 4 | 0 1 0 0"), 2000)
}

// Exactly 200 told, and one more; and exactly 2000 steps.
func TestRunLinedRoom(t *testing.T) {
	// Nine rounds of 22, and what is told ahead of them and behind.
	rounds := func(ahead int, behind int) impl.Lined {
		return linedAs(t, times("out 1", ahead)+"set 20; next 20 9; jump "+strconv.Itoa(ahead+26)+"; "+times("out 2", 22)+"jump "+strconv.Itoa(ahead+1)+"; "+times("out 3", behind))
	}
	for _, k := range []struct {
		ahead, behind int
		ok            bool
	}{{2, 0, true}, {0, 2, true}, {1, 1, true}, {0, 0, true}, {3, 0, false}, {0, 3, false}, {2, 1, false}, {1, 2, false}, {20, 20, false}} {
		l := rounds(k.ahead, k.behind)
		want := slices.Concat(slices.Repeat([]int{1}, k.ahead), slices.Repeat([]int{2}, 198), slices.Repeat([]int{3}, k.behind))
		steps := k.ahead + 1 + 9*24 + 2 + k.behind
		if k.ok {
			checkLineRan(t, l, 2000, linedRun{told: want, steps: steps})
			checkLineRan(t, l, steps, linedRun{told: want, steps: steps})
		} else {
			checkLineRunRefused(t, l, 2000)
			checkLineRunRefused(t, l, steps)
		}
		checkLineRunRefused(t, l, steps-1)
		checkLineRun(t, l)
		// What is raised behind the last one changes nothing.
		l.Steps = append(l.Steps, impl.LStep{Op: impl.LRaise, N: 7})
		if k.ok {
			checkLineRan(t, l, 2000, linedRun{told: want, code: 7, steps: steps + 1})
		} else {
			checkLineRunRefused(t, l, 2000)
		}
	}
	// Nine rounds of nine, and steps ahead of them.
	for _, k := range []struct{ ahead, steps int }{{0, 1992}, {7, 1999}, {8, 2000}, {9, 2001}, {10, 2002}} {
		text := times("set 0", k.ahead) + "set 20; next 20 9; jump " + strconv.Itoa(k.ahead+30) + "; set 21; next 21 9; jump " + strconv.Itoa(k.ahead+29) + "; "
		text += times("set 1", 22) + "jump " + strconv.Itoa(k.ahead+4) + "; jump " + strconv.Itoa(k.ahead+1)
		l := linedAs(t, text)
		checkGoodLined(t, l, true)
		if r, ok := runLinedApart(l, 5000); !ok || r.steps != k.steps {
			t.Error(k, r)
		}
		if k.steps <= 2000 {
			checkLineRan(t, l, 2000, linedRun{steps: k.steps})
		} else {
			checkLineRunRefused(t, l, 2000)
		}
		checkLineRun(t, l)
	}
}

func TestGuardAtKnown(t *testing.T) {
	l := linedAs(t, "out 0; out 1; out 2; out 3; out 4; out 5 | 1 3 2 5; 2 4 0 0; 2 4 7 1; 5 5 0 0; 0 6 9 6; 6 6 0 6")
	for _, k := range []struct{ at, code, guard int }{
		{0, 2, -1}, {1, 2, 0}, {2, 2, 0}, {3, 2, 1}, {4, 2, -1}, {5, 2, -1},
		{1, 7, -1}, {2, 7, 1}, {3, 7, 1}, {4, 7, -1}, {0, 9, 4}, {1, 9, 4}, {2, 9, 1}, {3, 9, 1}, {4, 9, 4}, {5, 9, 4}, {5, 1, -1}, {1, 1, -1}, {2, 1, 1},
	} {
		checkGuard(t, l, k.at, k.code, max(k.guard, 0), k.guard >= 0)
	}
	checkGuards(t, l)
	for _, n := range append(farNumbers(), -2, -1, 6, 7, 120) {
		checkGuard(t, l, n, 2, 0, false)
		checkGuard(t, l, n, 9, 0, false)
	}
	for _, n := range append(farNumbers(), -9, -2, -1, 0, 10, 11, 39) {
		checkGuard(t, l, 2, n, 0, false)
		checkGuard(t, l, 0, n, 0, false)
	}
	for _, line := range []string{"", "| 0 0 0 0", "out 1", "out 1 | 0 0 0 0; 1 1 0 0"} {
		checkGuards(t, linedAs(t, line))
	}
}

func TestMayRaiseKnown(t *testing.T) {
	for _, k := range []struct{ tree, codes string }{
		{"o5", ""}, {"r1", "1"}, {"r9", "9"}, {"s r1 o1", "1"}, {"s o1 r1", "1"}, {"s r3 r1", "1 3"}, {"s r1 r1", "1"}, {"s o1 o2", ""},
		{"f r3 o1", "3"}, {"f o1 r3", "3"}, {"f r3 r2", "2 3"}, {"f o1 o2", ""},
		// The body may raise N; it may not; it may raise others.
		{"c2 r2 o1", ""}, {"c2 r2 r5", "5"}, {"c2 r2 r2", "2"}, {"c2 r3 r5", "3"}, {"c2 s r2 r3 r5", "3 5"}, {"c2 o1 r5", ""}, {"c2 s r1 r3 r5", "1 3"}, {"c9 s r9 r8 s r9 r1", "1 8 9"},
		// Of any code.
		{"c r2 o1", ""}, {"c r2 r5", "5"}, {"c o1 r5", ""}, {"c s r1 r2 r5", "5"}, {"c s r1 r2 r1", "1"}, {"c s o1 o2 r5", ""}, {"c c r1 o1 r5", ""}, {"c c3 r1 o1 r5", "5"},
		// Looked at by its parts alone: though the second one is never come to.
		{"c2 s r1 r2 r5", "1 5"}, {"s r1 c2 r2 r3", "1 3"},
		{"l r1", ""}, {"l1 r1", "1"}, {"l5 s r4 r1", "1 4"}, {"c1 l r1 r5", ""}, {"c1 l1 r1 r5", "5"}, {"c l r1 r5", ""}, {"l2 l r1", ""}, {"l l2 r1", ""}, {"l2 l2 l2 r1", "1"},
		{"s s s s r9 r8 s r7 r6 s s r5 r4 s r3 r2 r1", "1 2 3 4 5 6 7 8 9"}, {"c5 s s s s r9 r8 s r7 r6 s s r5 r4 s r3 r2 r1 o1", "1 2 3 4 6 7 8 9"}, {"c s s s s r9 r8 s r7 r6 s s r5 r4 s r3 r2 r1 o1", ""},
	} {
		cells := cellsAs(t, k.tree)
		checkMay(t, cells, numbersAs(t, k.codes))
		checkTree(t, cells)
	}
}

func TestGoodTree2Known(t *testing.T) {
	deep := chainOf("s o1", 14, "o1")
	for _, tree := range []string{"o", "o99", "r1", "r9", "s o o", "c o o", "c9 o o", "f o o", "l o", "l5 o", "l5 l5 l5 o", "s l1 l1 l1 o l1 l1 l1 o", "l1 s l1 l1 o l1 l1 o", "c l1 l1 l1 o l1 l1 l1 o", "f l1 l1 l1 o l1 l1 l1 o", deep, "l1 " + deep, "s o1 " + chainOf("s o1", 12, "l1 l o1")} {
		checkTree(t, cellsAs(t, tree))
	}
	for _, tree := range []string{
		"", "s", "c", "f", "l", "s o", "c o", "f o", "s s o o", "s o s o", "f f f o o o", "l l", "l s o",
		"o o", "r1 o", "o r1", "s o o o", "l o o", "c o o r1", "o l", "s o o s",
		"o100", "r", "r10", "s1 o o", "s-1 o o", "c10 o o", "c-1 o o", "f1 o o", "f-1 o o", "l6 o", "l-1 o", "o-1", "r-1", "s o100 o", "s o o100", "l r", "c o r10",
		// Four loops within one another, of whatever lies between.
		"l1 l1 l1 l1 o", "l l l l o", "l1 l1 l1 s o l1 o", "l1 s o l1 c l1 f o l1 o o", "l1 c o l1 l1 l1 o", "l1 f o l1 l1 l1 o", "s o l1 l1 l1 l1 o", "l1 l1 l1 l1 l1 o", "s l1 l1 l1 o l1 l1 l1 l1 o",
		// 31 cells, and many more.
		chainOf("s o1", 15, "o1"), "l1 l " + deep, chainOf("s o1", 5000, "o1"), chainOf("l1", 100000, "o1"), chainOf("s", 100000, "o1"),
	} {
		checkCellsRefused(t, cellsAs(t, tree))
	}
	if len(cellsAs(t, deep)) != 29 {
		t.Error(deep)
	}
	checkCellsRefused(t, nil)
	checkCellsRefused(t, []impl.XCell{{}})
	checkCellsRefused(t, make([]impl.XCell, 30))
	checkCellsRefused(t, make([]impl.XCell, 100000))
}

// Each cell of a tree with another Kind, and with another N.
func TestTreesRefuseWrongCells(t *testing.T) {
	cells := cellsAs(t, "s c1 l5 s o r1 f c o99 r9 l c9 o1 o2 o3")
	checkTree(t, cells)
	for at, c := range cells {
		for _, kind := range append(farNumbers(), -6, -1, 0, 7, 8) {
			wrong := slices.Clone(cells)
			wrong[at].Kind = kind
			checkCellsRefused(t, wrong)
		}
		for _, n := range append(farNumbers(), -100, -10, -2, -1, 0, 1, 5, 6, 9, 10, 11, 99, 100, 101) {
			changed := slices.Clone(cells)
			changed[at].N = n
			most := map[int]int{impl.XOut: 99, impl.XRaise: 9, impl.XCatch: 9, impl.XLoop: 5}[c.Kind]
			if n < 0 || n > most || n == 0 && c.Kind == impl.XRaise {
				checkCellsRefused(t, changed)
			} else {
				checkTree(t, changed)
			}
		}
		// Cells that lack, and cells that are left over.
		checkCellsRefused(t, cells[:at])
		checkCellsRefused(t, append(slices.Clone(cells), cells[at]))
	}
}

// Lists of cells of which most are no tree.
func TestGoodTree2OfAllSmallLists(t *testing.T) {
	menu := cellsAs(t, "o r1 s c2 f l1 l")
	menu = append(menu, impl.XCell{}, impl.XCell{Kind: impl.XSeq, N: 1})
	is := [2]int{}
	for length := range 6 {
		startsBelow(len(menu), length, func(starts []int) {
			var cells []impl.XCell
			for _, at := range starts {
				cells = append(cells, menu[at])
			}
			want := goodCellsApart(cells)
			is[oneWhere(want)]++
			if impl.GoodTree2(cells) != want {
				t.Errorf("GoodTree2(%s) is not %v", cellsText(cells), want)
			}
		})
	}
	if is[0] < 50000 || is[1] < 500 {
		t.Error(is)
	}
}

// eachTree calls for all trees of so many cells, with inner cells and leaves of
// given ones. XOuts tell where they stand.
func eachTree(size int, inner []impl.XCell, leaves []impl.XCell, call func(cells []impl.XCell)) {
	known := [][][]impl.XCell{nil}
	for count := 1; count <= size; count++ {
		var trees [][]impl.XCell
		if count == 1 {
			for _, leaf := range leaves {
				trees = append(trees, []impl.XCell{leaf})
			}
		}
		for _, c := range inner {
			if underApart(c) == 1 {
				for _, body := range known[count-1] {
					trees = append(trees, slices.Concat([]impl.XCell{c}, body))
				}
				continue
			}
			for long := 1; long < count-1; long++ {
				for _, first := range known[long] {
					for _, second := range known[count-1-long] {
						trees = append(trees, slices.Concat([]impl.XCell{c}, first, second))
					}
				}
			}
		}
		known = append(known, trees)
	}
	for _, cells := range known[size] {
		for at := range cells {
			if cells[at].Kind == impl.XOut {
				cells[at].N = at
			}
		}
		call(cells)
	}
}

// All small trees: what they tell and may raise, their lines, and promise 16.
func TestAllSmallTrees(t *testing.T) {
	for _, k := range []struct {
		size, least   int
		inner, leaves string
	}{
		{1, 3, "s c c1 f l l2", "o r1 r2"}, {2, 6, "s c c1 f l l2", "o r1 r2"}, {3, 40, "s c c1 f l l2", "o r1 r2"}, {4, 200, "s c c1 f l l2", "o r1 r2"}, {5, 1500, "s c c1 f l l2", "o r1 r2"}, {6, 10000, "s c c1 f l l2", "o r1 r2"},
		{7, 4000, "s c1 f l2", "o r1"}, {9, 3000, "c f", "o r1"},
	} {
		count := 0
		eachTree(k.size, cellsAs(t, k.inner), cellsAs(t, k.leaves), func(cells []impl.XCell) {
			if !goodCellsApart(cells) {
				checkCellsRefused(t, cells)
				return
			}
			if checkTree(t, cells) {
				count++
			}
			if t.Failed() {
				t.FailNow()
			}
		})
		if count < k.least {
			t.Error("only", count, "trees of", k.size)
		}
	}
}

// Promise 16 of many drawn trees.
func TestManyTrees(t *testing.T) {
	d := &lots{state: 1961}
	met := map[string]int{}
	for range 25000 {
		cells := d.someCells()
		if d.below(40) == 0 {
			cells = append(cellsAs(t, "l5 l5"), d.cells(28, 2, 3, 1)...)
		}
		asked := checkTree(t, cells)
		told, code, ok := impl.EvalTree(cells)
		l, lineOk := impl.LineTree(cells)
		met["asked"] += oneWhere(asked)
		met["raised"] += oneWhere(asked && code != 0)
		met["told and raised"] += oneWhere(asked && code != 0 && len(told) > 0)
		met["told much"] += oneWhere(asked && len(told) > 20)
		met["of all cells"] += oneWhere(asked && len(cells) >= 28)
		met["many guards"] += oneWhere(asked && len(l.Guards) > 8)
		met["no room"] += oneWhere(!ok)
		met["no line"] += oneWhere(!lineOk)
		if t.Failed() {
			return
		}
	}
	for _, what := range []string{"asked", "raised", "told and raised", "told much", "of all cells", "many guards", "no room", "no line"} {
		if met[what] < 150 {
			t.Error("only", met[what], "times", what, met)
		}
	}
}

// Trees of which one cell is another, or has gone, or came: mostly they are none.
func TestGoodTree2OfChangedTrees(t *testing.T) {
	d := &lots{state: 1964}
	is := [2]int{}
	for range 20000 {
		cells := d.someCells()
		at := d.below(len(cells))
		switch d.below(5) {
		case 0:
			cells[at].Kind = d.below(8)
		case 1:
			cells[at].N += d.below(13) - 6
		case 2:
			cells = slices.Delete(cells, at, at+1)
		case 3:
			cells = slices.Insert(cells, at, impl.XCell{Kind: impl.XLoop, N: d.below(7)})
		case 4:
			cells[at], cells[0] = cells[0], cells[at]
		}
		want := goodCellsApart(cells)
		is[oneWhere(want)]++
		if want {
			checkGoodCells(t, cells, true)
		} else {
			checkCellsRefused(t, cells)
		}
		if t.Failed() {
			return
		}
	}
	if min(is[0], is[1]) < 4000 {
		t.Error(is)
	}
}

// All lines of three steps out of twelve, with one guard of any code or of 2.
func TestAllSmallLines(t *testing.T) {
	steps := linedAs(t, "out 1; raise 1; raise 2; again 0; jump 0; jump 1; jump 2; jump 3; set 0; next 0 0; next 0 1; next 20 2").Steps
	is := [2]int{}
	startsBelow(len(steps), 3, func(starts []int) {
		l := impl.Lined{Guards: make([]impl.Guard, 1)}
		for _, at := range starts {
			l.Steps = append(l.Steps, steps[at])
		}
		for from := range 4 {
			for to := from; to < 4; to++ {
				for at := range 4 {
					l.Guards[0] = impl.Guard{From: from, To: to, Kind: from % 2 * 2, At: at}
					want, ok := runLinedApart(l, 30)
					is[oneWhere(ok)]++
					if told, code, done, has := impl.RunLined(l, 30); has != ok || !slices.Equal(told, want.told) || code != want.code || done != want.steps {
						t.Errorf("RunLined(%s, 30) = %v %d %d %v, not %v %v", linedText(l), told, code, done, has, want, ok)
					}
				}
			}
		}
		if t.Failed() {
			t.FailNow()
		}
	})
	if min(is[0], is[1]) < 10000 {
		t.Error(is)
	}
}

func TestManyLines(t *testing.T) {
	d := &lots{state: 1978}
	met := map[string]int{}
	for round := range 15000 {
		l := d.someLined()
		checkGoodLined(t, l, true)
		ended := checkLineRun(t, l)
		_, code, steps, _ := impl.RunLined(l, 2000)
		met["ended"] += oneWhere(ended)
		met["raised"] += oneWhere(code != 0)
		met["long"] += oneWhere(steps > 20)
		met["not ended"] += oneWhere(!ended)
		if round%10 == 0 {
			checkGuards(t, l)
		}
		if t.Failed() {
			return
		}
	}
	for _, what := range []string{"ended", "raised", "long", "not ended"} {
		if met[what] < 150 {
			t.Error("only", met[what], "times", what, met)
		}
	}
}

// fullLined has each kind of step and several guards.
func fullLined(t *testing.T) impl.Lined {
	t.Helper()
	l := linedAs(t, "out 5; raise 3; again 0; jump 5; set 20; next 20 4; jump 8; out 99 | 0 2 0 2; 1 8 9 8; 0 0 3 0")
	checkGoodLined(t, l, true)
	return l
}

func TestLinesRefuseWrongSteps(t *testing.T) {
	numbers := append(farNumbers(), -100, -9, -2, -1, 0, 1, 4, 8, 9, 10, 19, 20, 39, 40, 98, 99, 100, 119, 120, 121)
	count := fullLined(t)
	for at, s := range count.Steps {
		for _, n := range numbers {
			for _, changed := range []impl.LStep{{Op: n, N: s.N, To: s.To}, {Op: s.Op, N: n, To: s.To}, {Op: s.Op, N: s.N, To: n}, {Op: s.Op, N: n, To: n}, {Op: n}} {
				l := fullLined(t)
				l.Steps[at] = changed
				if goodLinedApart(l) {
					checkGoodLined(t, l, true)
					checkLineRun(t, l)
				} else {
					checkLinedRefused(t, l)
				}
			}
		}
	}
	// The edges that the document names, one by one.
	for _, k := range []struct{ good, wrong string }{
		{"out 0", "out -1"}, {"out 99", "out 100"}, {"raise 1", "raise 0"}, {"raise 9", "raise 10"}, {"again 0", "again -1"}, {"again 39", "again 40"}, {"set 0", "set -1"}, {"set 39", "set 40"}, {"next 0 0", "next -1 0"}, {"next 39 0", "next 40 0"}, {"next 0 0", "next 0 -1"}, {"next 0 9", "next 0 10"},
		{"jump 0", "jump -1"}, {"jump 1", "jump 2"}, {"out 1; out 1; jump 3", "out 1; out 1; jump 4"}, {"out 0", "out 0 1"}, {"raise 1", "raise 1 1"}, {"again 0", "again 0 1"}, {"set 0", "set 0 1"}, {"out 0", "out 0 -1"},
	} {
		checkGoodLined(t, linedAs(t, k.good), true)
		checkLinedRefused(t, linedAs(t, k.wrong))
	}
	checkGoodLined(t, impl.Lined{Steps: []impl.LStep{{Op: impl.LJump}}}, true)
	for _, n := range append(farNumbers(), -1, 1, 20) {
		checkLinedRefused(t, impl.Lined{Steps: []impl.LStep{{Op: impl.LJump, N: n}}})
	}
	for _, op := range append(farNumbers(), -1, 0, 7, 8) {
		checkLinedRefused(t, impl.Lined{Steps: []impl.LStep{{Op: op}}})
		checkLinedRefused(t, impl.Lined{Steps: []impl.LStep{{Op: impl.LOut}, {Op: op, N: 1, To: 1}}})
	}
}

func TestLinesRefuseWrongGuards(t *testing.T) {
	numbers := append(farNumbers(), -9, -2, -1, 0, 1, 2, 7, 8, 9, 10, 20, 120)
	for at, g := range fullLined(t).Guards {
		for _, n := range numbers {
			for _, changed := range []impl.Guard{{From: n, To: g.To, Kind: g.Kind, At: g.At}, {From: g.From, To: n, Kind: g.Kind, At: g.At}, {From: g.From, To: g.To, Kind: n, At: g.At}, {From: g.From, To: g.To, Kind: g.Kind, At: n}, {From: n, To: n, Kind: g.Kind, At: g.At}} {
				l := fullLined(t)
				l.Guards[at] = changed
				if goodLinedApart(l) {
					checkGoodLined(t, l, true)
					checkLineRun(t, l)
				} else {
					checkLinedRefused(t, l)
				}
			}
		}
	}
	for _, k := range []struct{ good, wrong string }{
		{"out 1 | 0 0 0 0", "out 1 | -1 0 0 0"}, {"out 1 | 1 1 0 0", "out 1 | 2 2 0 0"}, {"out 1 | 0 1 0 0", "out 1 | 0 2 0 0"}, {"out 1 | 0 1 0 1", "out 1 | 0 1 0 2"}, {"out 1 | 0 1 0 0", "out 1 | 0 1 0 -1"}, {"out 1 | 1 1 0 1", "out 1 | 1 0 0 1"}, {"out 1 | 0 1 9 0", "out 1 | 0 1 10 0"}, {"out 1 | 0 1 0 0", "out 1 | 0 1 -1 0"},
		{"| 0 0 0 0", "| 0 1 0 0"}, {"| 0 0 9 0", "| 0 0 0 1"}, {"| 0 0 1 0", "| 1 1 0 0"}, {"out 1; out 2 | 1 1 0 0", "out 1; out 2 | 2 1 0 0"},
	} {
		checkGoodLined(t, linedAs(t, k.good), true)
		checkLinedRefused(t, linedAs(t, k.wrong))
	}
}

// Just as many steps and guards as may be, and one more of each.
func TestLinesRefuseTooMany(t *testing.T) {
	out := impl.LStep{Op: impl.LOut, N: 1}
	for _, steps := range []int{0, 1, 119, 120, 121, 122, 1000, 100000} {
		for _, guards := range []int{0, 1, 19, 20, 21, 22, 1000, 100000} {
			l := impl.Lined{Steps: slices.Repeat([]impl.LStep{out}, steps), Guards: make([]impl.Guard, guards)}
			if steps > 120 || guards > 20 {
				checkLinedRefused(t, l)
				continue
			}
			checkGoodLined(t, l, true)
			checkLineRan(t, l, steps, linedRun{told: slices.Repeat([]int{1}, steps), steps: steps})
			checkGuards(t, l)
		}
	}
	// The twentieth guard counts.
	l := impl.Lined{Steps: []impl.LStep{{Op: impl.LRaise, N: 5}, out}, Guards: make([]impl.Guard, 20)}
	l.Guards[19] = impl.Guard{To: 1, Kind: 5, At: 1}
	checkLineRan(t, l, 2, linedRun{told: []int{1}, steps: 2})
	checkGuard(t, l, 0, 5, 19, true)
	l.Steps = append(l.Steps, impl.LStep{Op: impl.LAgain, N: 19})
	checkLineRan(t, l, 3, linedRun{told: []int{1}, code: 5, steps: 3})
	l = impl.Lined{Steps: slices.Repeat([]impl.LStep{{Op: impl.LJump, To: 120}}, 120)}
	checkLineRan(t, l, 1, linedRun{steps: 1})
	l.Steps[119].To = 121
	checkLinedRefused(t, l)
}

func TestRunLinedRefusesWrongFuel(t *testing.T) {
	lines := []impl.Lined{{}, linedAs(t, "out 1"), linedAs(t, "raise 1"), linedAs(t, "jump 0"), fullLined(t)}
	for _, l := range lines {
		for _, fuel := range append(farNumbers(), -2, -1, 2001, 2002, 4000) {
			checkLineRunRefused(t, l, fuel)
		}
		checkLineRun(t, l)
	}
	checkLineRan(t, impl.Lined{}, 0, linedRun{})
	checkLineRan(t, impl.Lined{}, 2000, linedRun{})
	checkLineRunRefused(t, lines[1], 0)
	checkLineRunRefused(t, lines[2], 0)
}

func TestGoodLinedOfChangedLines(t *testing.T) {
	d := &lots{state: 1992}
	is := [2]int{}
	for range 20000 {
		l := d.someLined()
		if len(l.Steps) == 0 || len(l.Guards) == 0 {
			continue
		}
		s, g := &l.Steps[d.below(len(l.Steps))], &l.Guards[d.below(len(l.Guards))]
		field := []*int{&s.Op, &s.N, &s.To, &s.To, &g.From, &g.To, &g.Kind, &g.At}[d.below(8)]
		*field += d.below(9) - 4
		want := goodLinedApart(l)
		is[oneWhere(want)]++
		if want {
			checkGoodLined(t, l, true)
			checkLineRun(t, l)
		} else {
			checkLinedRefused(t, l)
		}
		if t.Failed() {
			return
		}
	}
	if min(is[0], is[1]) < 3000 {
		t.Error(is)
	}
}

// behindCells has more behind the length.
func behindCells(cells []impl.XCell) []impl.XCell {
	return append(slices.Clone(cells), impl.XCell{Kind: impl.XOut, N: 7}, impl.XCell{Kind: impl.XOut}, impl.XCell{Kind: -5, N: -5})[:len(cells)]
}

func behindLined(l impl.Lined) impl.Lined {
	return impl.Lined{
		Steps:  append(slices.Clone(l.Steps), impl.LStep{Op: impl.LOut, N: 7}, impl.LStep{Op: -5, N: -5})[:len(l.Steps)],
		Guards: append(slices.Clone(l.Guards), impl.Guard{To: len(l.Steps)}, impl.Guard{From: -5})[:len(l.Guards)],
	}
}

// wholeLined is a copy, also of what is behind the lengths.
func wholeLined(l impl.Lined) impl.Lined {
	return impl.Lined{Steps: slices.Clone(l.Steps[:cap(l.Steps)]), Guards: slices.Clone(l.Guards[:cap(l.Guards)])}
}

// spoilLined writes into all that a line has, also behind the lengths.
func spoilLined(l impl.Lined) {
	for at := range l.Steps[:cap(l.Steps)] {
		l.Steps[:cap(l.Steps)][at] = impl.LStep{Op: -77, N: -77, To: -77}
	}
	for at := range l.Guards[:cap(l.Guards)] {
		l.Guards[:cap(l.Guards)][at] = impl.Guard{From: -77, To: -77, Kind: -77, At: -77}
	}
}

// Promise 19: nothing is written into what is handed in, nor behind it; and what
// is behind it is not read.
func TestHandlersLeaveWhatIsHandedIn(t *testing.T) {
	d := &lots{state: 19}
	for round := range 3000 {
		cells, l := behindCells(d.someCells()), behindLined(d.someLined())
		switch round % 8 {
		case 0:
			cells[d.below(len(cells))].N = 1000
		case 1:
			// The cells that lack are behind the length.
			cells = cells[:d.below(len(cells))]
		}
		keptCells, kept := slices.Clone(cells[:cap(cells)]), wholeLined(l)
		if goodCellsApart(cells) {
			checkTree(t, cells)
		} else {
			checkCellsRefused(t, cells)
		}
		checkGoodLined(t, l, true)
		checkLineRun(t, l)
		if round%10 == 0 {
			checkGuards(t, l)
		}
		if !slices.Equal(cells[:cap(cells)], keptCells) || !sameLined(wholeLined(l), kept) {
			t.Fatal("something was written into", cellsText(cells), linedText(l))
		}
		if t.Failed() {
			return
		}
	}
	l := linedAs(t, "raise 3; out 1; out 2 | 0 0 0 0; 0 1 3 2")
	l.Guards = l.Guards[:1]
	checkLineRan(t, l, 5, linedRun{code: 3, steps: 1})
	checkGuard(t, l, 0, 3, 0, false)
	l.Steps = l.Steps[:1]
	checkGuard(t, l, 1, 3, 0, false)
	l = linedAs(t, "jump 2; out 1; out 2")
	l.Steps = l.Steps[:2]
	checkLineRan(t, l, 5, linedRun{steps: 1})
	l.Steps = l.Steps[:1]
	checkLinedRefused(t, l)
}

func TestHandlerAnswersAreNewMemory(t *testing.T) {
	d := &lots{state: 116}
	for range 2000 {
		cells, l := behindCells(d.someCells()), behindLined(d.someLined())
		keptCells, kept := slices.Clone(cells[:cap(cells)]), wholeLined(l)
		for range 2 {
			told, _, _ := impl.EvalTree(cells)
			spoil(told)
			codes, _ := impl.MayRaise(cells)
			spoil(codes)
			lineTold, _, _, _ := impl.RunLined(l, 2000)
			spoil(lineTold)
			made, _ := impl.LineTree(cells)
			spoilLined(made)
		}
		if !slices.Equal(cells[:cap(cells)], keptCells) || !sameLined(wholeLined(l), kept) {
			t.Fatal("an answer shares memory with what was handed in:", cellsText(cells), linedText(l))
		}
		checkTree(t, cells)
		checkLineRun(t, l)
		if t.Failed() {
			return
		}
	}
}

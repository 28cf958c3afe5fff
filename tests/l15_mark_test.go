package tests

import (
	"slices"
	"strconv"
	"strings"
	"testing"

	"loop.example/g00350/impl"
)

const colorLetters = "WGB"

// cellAs reads F for a Free cell, otherwise W, G or B for its Color, and its
// links with a comma between.
func cellAs(t *testing.T, text string) impl.Cell {
	t.Helper()
	if text == "F" {
		return impl.Cell{Links: []int{-1, -1}, Free: true}
	}
	color := strings.Index(colorLetters, text[:1])
	if color < 0 {
		t.Fatalf("no cell: %q", text)
	}
	return impl.Cell{Links: namesAs(t, text[1:]), Color: color}
}

// markerAs reads the cells, the roots and, where it is Marking, that word, with
// | between.
func markerAs(t *testing.T, text string) impl.Marker {
	t.Helper()
	parts := append(strings.Split(text, "|"), "")
	m := impl.Marker{Roots: namesAs(t, parts[1]), Marking: strings.TrimSpace(parts[2]) == "marking"}
	for _, part := range strings.Fields(parts[0]) {
		m.Cells = append(m.Cells, cellAs(t, part))
	}
	return m
}

func cellText(c impl.Cell) string {
	color := strconv.Itoa(c.Color)
	if c.Color >= 0 && c.Color < len(colorLetters) {
		color = colorLetters[c.Color:][:1]
	}
	if c.Free && c.Color == impl.White && slices.Equal(c.Links, []int{-1, -1}) {
		return "F"
	}
	return []string{"", "Free "}[oneWhere(c.Free)] + color + namesText(c.Links, ",")
}

func markerText(m impl.Marker) string {
	var texts []string
	for _, c := range m.Cells[:min(len(m.Cells), 20)] {
		texts = append(texts, cellText(c))
	}
	return strings.Join(texts, " ") + " | " + namesText(m.Roots, " ") + []string{"", " | marking"}[oneWhere(m.Marking)]
}

// markStepAs reads a kind, and the numbers that it has a use for.
func markStepAs(t *testing.T, text string) impl.MarkStep {
	t.Helper()
	kind, rest, _ := strings.Cut(text, " ")
	numbers := append(namesAs(t, rest), 0, 0, 0)
	switch kind {
	case "begin":
		return impl.MarkStep{Kind: impl.MarkBegin}
	case "scan":
		return impl.MarkStep{Kind: impl.MarkScan, At: numbers[0]}
	case "write":
		return impl.MarkStep{Kind: impl.MarkWrite, At: numbers[0], K: numbers[1], To: numbers[2]}
	case "take":
		return impl.MarkStep{Kind: impl.MarkTake, K: numbers[0]}
	case "sweep":
		return impl.MarkStep{Kind: impl.MarkSweep}
	}
	t.Fatalf("no step: %q", text)
	return impl.MarkStep{}
}

// markStepsAs reads steps with ; between.
func markStepsAs(t *testing.T, text string) []impl.MarkStep {
	t.Helper()
	var l []impl.MarkStep
	for part := range strings.SplitSeq(text, ";") {
		if part = strings.TrimSpace(part); part != "" {
			l = append(l, markStepAs(t, part))
		}
	}
	return l
}

func sameCell(a impl.Cell, b impl.Cell) bool {
	return a.Color == b.Color && a.Free == b.Free && slices.Equal(a.Links, b.Links)
}

func sameMarker(a impl.Marker, b impl.Marker) bool {
	return slices.EqualFunc(a.Cells, b.Cells, sameCell) && slices.Equal(a.Roots, b.Roots) && a.Marking == b.Marking
}

func isNoMarker(m impl.Marker) bool {
	return sameMarker(m, impl.Marker{})
}

func cloneMarker(m impl.Marker) impl.Marker {
	m = impl.Marker{Cells: slices.Clone(m.Cells), Roots: slices.Clone(m.Roots), Marking: m.Marking}
	for at, c := range m.Cells {
		m.Cells[at].Links = slices.Clone(c.Links)
	}
	return m
}

// firstMarker is what NewMarker tells, written out.
func firstMarker(cells int) impl.Marker {
	m := impl.Marker{Roots: []int{0, -1}}
	for at := range cells {
		m.Cells = append(m.Cells, impl.Cell{Links: []int{-1, -1}, Free: at > 0})
	}
	return m
}

func isCellApart(m impl.Marker, at int) bool { return at >= 0 && at < len(m.Cells) }

// goodMarkerApart asks sentence by sentence of the chapter.
func goodMarkerApart(m impl.Marker) bool {
	if len(m.Cells) < 2 || len(m.Cells) > 10 || len(m.Roots) != 2 {
		return false
	}
	all := slices.Clone(m.Roots)
	for _, c := range m.Cells {
		if len(c.Links) != 2 || c.Color != 0 && c.Color != 1 && c.Color != 2 {
			return false
		}
		if c.Free && (c.Links[0] != -1 || c.Links[1] != -1 || c.Color != 0) || !m.Marking && c.Color != 0 {
			return false
		}
		all = append(all, c.Links...)
	}
	for _, end := range all {
		if end != -1 && (!isCellApart(m, end) || m.Cells[end].Free) {
			return false
		}
	}
	if !m.Marking {
		return true
	}
	for _, root := range m.Roots {
		if root != -1 && m.Cells[root].Color == impl.White {
			return false
		}
	}
	for _, c := range m.Cells {
		for _, to := range c.Links {
			if c.Color == impl.Black && to != -1 && m.Cells[to].Color == impl.White {
				return false
			}
		}
	}
	return true
}

// closeApart adds to cells those their links lead to, over all cells until no
// more comes.
func closeApart(m impl.Marker, from []int, mayBe func(c impl.Cell) bool) []int {
	in := make([]bool, len(m.Cells))
	come := func(ends []int) bool {
		more := false
		for _, end := range ends {
			if end != -1 && !in[end] && mayBe(m.Cells[end]) {
				in[end], more = true, true
			}
		}
		return more
	}
	for more := come(from); more; {
		more = false
		for at, c := range m.Cells {
			more = in[at] && come(c.Links) || more
		}
	}
	var cells []int
	for at, is := range in {
		if is {
			cells = append(cells, at)
		}
	}
	return cells
}

func liveCellsApart(m impl.Marker) []int {
	return closeApart(m, m.Roots, func(impl.Cell) bool { return true })
}

func cellsApart(m impl.Marker, is func(c impl.Cell) bool) []int {
	var cells []int
	for at, c := range m.Cells {
		if is(c) {
			cells = append(cells, at)
		}
	}
	return cells
}

func coloredApart(m impl.Marker, color int) []int {
	return cellsApart(m, func(c impl.Cell) bool { return c.Color == color })
}

func freeApart(m impl.Marker) []int {
	return cellsApart(m, func(c impl.Cell) bool { return c.Free })
}

func greyApart(m impl.Marker) []int { return coloredApart(m, impl.Grey) }

// sweptApart keeps some cells, White, and has all others Free.
func sweptApart(m impl.Marker, kept []int) impl.Marker {
	m = cloneMarker(m)
	for at, c := range m.Cells {
		m.Cells[at] = impl.Cell{Links: []int{-1, -1}, Free: true}
		if slices.Contains(kept, at) {
			m.Cells[at] = impl.Cell{Links: c.Links}
		}
	}
	m.Marking = false
	return m
}

// finishApart is for a good marker, and scans nothing: what is Black is kept,
// and all to which Grey ones (or, where it is not Marking, the roots) lead by
// White ones; of these each one is scanned once.
func finishApart(m impl.Marker) (impl.Marker, int) {
	if !m.Marking {
		live := liveCellsApart(m)
		return sweptApart(m, live), len(live)
	}
	scanned := closeApart(m, greyApart(m), func(c impl.Cell) bool { return c.Color != impl.Black })
	return sweptApart(m, append(coloredApart(m, impl.Black), scanned...)), len(scanned)
}

// stepMarkerApart is for a good marker.
func stepMarkerApart(m impl.Marker, s impl.MarkStep) (impl.Marker, bool) {
	m = cloneMarker(m)
	live := liveCellsApart(m)
	isK, isToOk := s.K == 0 || s.K == 1, s.To == -1 || slices.Contains(live, s.To)
	var shaded []int
	did := false
	switch s.Kind {
	case impl.MarkBegin:
		if did = s.At == 0 && s.K == 0 && s.To == 0 && !m.Marking; did {
			m.Marking, shaded = true, m.Roots
		}
	case impl.MarkScan:
		if did = s.K == 0 && s.To == 0 && slices.Contains(greyApart(m), s.At); did {
			m.Cells[s.At].Color, shaded = impl.Black, m.Cells[s.At].Links
		}
	case impl.MarkWrite:
		if did = isK && isToOk && s.At == -1; did {
			m.Roots[s.K], shaded = s.To, []int{s.To}
		} else if did = isK && isToOk && slices.Contains(live, s.At); did {
			m.Cells[s.At].Links[s.K], shaded = s.To, []int{s.To}
		}
	case impl.MarkTake:
		free := freeApart(m)
		if did = isK && s.At == 0 && s.To == 0 && len(free) > 0; did {
			m.Cells[free[0]].Free = false
			m.Roots[s.K], shaded = free[0], free[:1]
		}
	case impl.MarkSweep:
		if did = s.At == 0 && s.K == 0 && s.To == 0 && m.Marking && len(greyApart(m)) == 0; did {
			m = sweptApart(m, coloredApart(m, impl.Black))
		}
	}
	for _, cell := range shaded {
		if m.Marking && cell != -1 && m.Cells[cell].Color == impl.White {
			m.Cells[cell].Color = impl.Grey
		}
	}
	if !did {
		return impl.Marker{}, false
	}
	return m, true
}

// playMarkerApart goes on from a marker that is good.
func playMarkerApart(m impl.Marker, l []impl.MarkStep) (impl.Marker, []bool) {
	var done []bool
	for _, s := range l {
		after, did := stepMarkerApart(m, s)
		if did {
			m = after
		}
		done = append(done, did)
	}
	return m, done
}

// marker draws a good marker, whose links lead to nothing the more often the
// less rarely is, and of which the fewer cells are Free the less freely is.
func (d *lots) marker(cells int, rarely int, freely int) impl.Marker {
	taken := slices.Sorted(slices.Values(d.order(cells)[:cells-d.below(min(cells, freely)+1)]))
	end := func() int {
		if len(taken) == 0 || d.below(rarely) == 0 {
			return -1
		}
		return taken[d.below(len(taken))]
	}
	m := impl.Marker{Roots: []int{end(), end()}, Marking: d.below(4) > 0}
	for at := range cells {
		c := impl.Cell{Links: []int{-1, -1}, Free: !slices.Contains(taken, at)}
		if !c.Free {
			c.Links = []int{end(), end()}
			c.Color = d.below(3) * oneWhere(m.Marking)
		}
		m.Cells = append(m.Cells, c)
	}
	return d.mendedMarker(m)
}

// mendedMarker leaves nothing White right behind a root or a Black cell.
func (d *lots) mendedMarker(m impl.Marker) impl.Marker {
	for _, root := range m.Roots {
		if m.Marking && root != -1 && m.Cells[root].Color == impl.White {
			m.Cells[root].Color = 1 + d.below(2)
		}
	}
	for range m.Cells {
		for at, c := range m.Cells {
			for _, to := range c.Links {
				if c.Color == impl.Black && to != -1 && m.Cells[to].Color == impl.White {
					m.Cells[[]int{at, to, to}[d.below(3)]].Color = impl.Grey
				}
			}
		}
	}
	return m
}

func (d *lots) someMarker() impl.Marker {
	return d.marker([]int{2, 3, 2 + d.below(9), impl.MaxCells}[d.below(4)], 1+d.below(5), d.below(5))
}

// liveByOneRoot counts what each of the roots reaches alone.
func liveByOneRoot(m impl.Marker) int {
	count := 0
	for _, root := range m.Roots {
		m.Roots = []int{root}
		count += len(liveCellsApart(m))
	}
	return count
}

// mostLive has of some steps mostly the one behind which the most is reached by
// each root: by steps that are only drawn too little is, so that no row of cells
// comes to be.
func (d *lots) mostLive(m impl.Marker, l ...impl.MarkStep) impl.MarkStep {
	if d.below(8) == 0 {
		return l[d.below(len(l))]
	}
	livesBehind := func(s impl.MarkStep) int {
		after, _ := stepMarkerApart(m, s)
		return liveByOneRoot(after)
	}
	return slices.MaxFunc(l, func(a impl.MarkStep, b impl.MarkStep) int { return livesBehind(a) - livesBehind(b) })
}

func (d *lots) writeStep(from []int, to []int) impl.MarkStep {
	return impl.MarkStep{Kind: impl.MarkWrite, At: d.oneOf(from), K: d.below(2), To: d.oneOf(to)}
}

// markStep draws a step that can mostly be done; a write of a Black cell to a
// White one oftener than by chance.
func (d *lots) markStep(m impl.Marker) impl.MarkStep {
	live, grey := liveCellsApart(m), greyApart(m)
	liveOrNone := append(slices.Clone(live), -1)
	black, white := slices.Clone(live), slices.Clone(live)
	black = slices.DeleteFunc(black, func(at int) bool { return m.Cells[at].Color != impl.Black })
	white = slices.DeleteFunc(white, func(at int) bool { return m.Cells[at].Color != impl.White })
	switch kind := d.below(16); {
	case kind < 1 && !m.Marking && d.below(8) < len(live):
		return impl.MarkStep{Kind: impl.MarkBegin}
	case kind < 2 && m.Marking && len(grey) == 0:
		return impl.MarkStep{Kind: impl.MarkSweep}
	case kind < 4 && len(grey) > 0:
		return impl.MarkStep{Kind: impl.MarkScan, At: d.oneOf(grey)}
	case kind < 6 && len(freeApart(m)) > 0:
		return d.mostLive(m, impl.MarkStep{Kind: impl.MarkTake}, impl.MarkStep{Kind: impl.MarkTake, K: 1})
	case kind < 9 && len(black) > 0 && len(white) > 0:
		return d.writeStep(black, white)
	case kind < 15:
		return d.mostLive(m, d.writeStep(liveOrNone, liveOrNone), d.writeStep(liveOrNone, liveOrNone), d.writeStep(live, liveOrNone), d.writeStep(live, live))
	}
	return []impl.MarkStep{{Kind: impl.MarkBegin}, {Kind: impl.MarkSweep}, {Kind: d.below(7), At: d.below(12) - 1, K: d.below(4) - 1, To: d.below(13) - 2}}[d.below(3)]
}

// markSteps draws a row of steps from NewMarker on.
func (d *lots) markSteps(cells int, count int) []impl.MarkStep {
	var l []impl.MarkStep
	m := firstMarker(cells)
	for range count {
		s := d.markStep(m)
		if after, did := stepMarkerApart(m, s); did {
			m = after
		}
		l = append(l, s)
	}
	return l
}

func checkCells(t *testing.T, what string, m impl.Marker, tell func(m impl.Marker) ([]int, bool), want []int) {
	t.Helper()
	if cells, ok := tell(m); !slices.Equal(cells, want) || !ok {
		t.Errorf("%s(%s) = %v %v, not %v", what, markerText(m), cells, ok, want)
	}
}

func checkLiveCells(t *testing.T, m impl.Marker, want []int) {
	t.Helper()
	checkCells(t, "LiveIn", m, impl.LiveIn, want)
}

func checkGreyCells(t *testing.T, m impl.Marker, want []int) {
	t.Helper()
	checkCells(t, "GreyIn", m, impl.GreyIn, want)
}

func checkFinished(t *testing.T, m impl.Marker, want impl.Marker, wantScans int) {
	t.Helper()
	after, scans, ok := impl.FinishMark(m)
	if !sameMarker(after, want) || scans != wantScans || !ok || !impl.GoodMarker(after) {
		t.Errorf("FinishMark(%s) = %s %d %v, not %s %d", markerText(m), markerText(after), scans, ok, markerText(want), wantScans)
	}
}

// checkFinish asks for promise 15, too: what is reached stays as it is, and
// what is not goes by the whole marking behind this one.
func checkFinish(t *testing.T, m impl.Marker) {
	t.Helper()
	want, scans := finishApart(m)
	checkFinished(t, m, want, scans)
	after, _, _ := impl.FinishMark(m)
	checkNothingReachedIsFreed(t, "FinishMark", m, after)
	again, _, _ := impl.FinishMark(after)
	checkNothingReachedIsFreed(t, "FinishMark twice", m, again)
	if !sameMarker(again, sweptApart(m, liveCellsApart(m))) {
		t.Errorf("FinishMark twice (%s) = %s, not all else is Free", markerText(m), markerText(again))
	}
}

func checkNothingReachedIsFreed(t *testing.T, what string, m impl.Marker, after impl.Marker) {
	t.Helper()
	before, _ := impl.LiveIn(m)
	live, ok := impl.LiveIn(after)
	if !ok || !slices.Equal(live, before) || !slices.Equal(after.Roots, m.Roots) {
		t.Errorf("%s: %s to %s: %v were reached, %v are", what, markerText(m), markerText(after), before, live)
		return
	}
	for _, cell := range liveCellsApart(m) {
		if after.Cells[cell].Free || !slices.Equal(after.Cells[cell].Links, m.Cells[cell].Links) {
			t.Errorf("%s: %s to %s: cell %d was reached", what, markerText(m), markerText(after), cell)
		}
	}
}

// checkMarker asks for all that a good marker tells of itself.
func checkMarker(t *testing.T, m impl.Marker) {
	t.Helper()
	if !impl.GoodMarker(m) || !goodMarkerApart(m) {
		t.Errorf("GoodMarker(%s) = %v, apart %v", markerText(m), impl.GoodMarker(m), goodMarkerApart(m))
		return
	}
	checkLiveCells(t, m, liveCellsApart(m))
	checkGreyCells(t, m, greyApart(m))
	checkFinish(t, m)
}

func checkMarkRefused(t *testing.T, m impl.Marker, s impl.MarkStep) {
	t.Helper()
	if after, ok := impl.StepMarker(m, s); !isNoMarker(after) || ok {
		t.Errorf("StepMarker(%s, %v) = %s %v", markerText(m), s, markerText(after), ok)
	}
}

func checkMarkTo(t *testing.T, m impl.Marker, s impl.MarkStep, want impl.Marker) {
	t.Helper()
	if after, ok := impl.StepMarker(m, s); !sameMarker(after, want) || !ok || !impl.GoodMarker(after) {
		t.Errorf("StepMarker(%s, %v) = %s %v, not %s", markerText(m), s, markerText(after), ok, markerText(want))
	}
}

// checkMark has the marker behind the step, or the one ahead of it where that is
// refused. Behind a sweep it asks for promise 15.
func checkMark(t *testing.T, m impl.Marker, s impl.MarkStep) (impl.Marker, bool) {
	t.Helper()
	want, did := stepMarkerApart(m, s)
	if !did {
		checkMarkRefused(t, m, s)
		return m, false
	}
	checkMarkTo(t, m, s, want)
	if s.Kind == impl.MarkSweep {
		after, _ := impl.StepMarker(m, s)
		checkNothingReachedIsFreed(t, "MarkSweep", m, after)
	}
	return want, true
}

func checkMarkPlayed(t *testing.T, cells int, l []impl.MarkStep, want impl.Marker, wantDone []bool) {
	t.Helper()
	m, done, ok := impl.PlayMarker(cells, l)
	if !sameMarker(m, want) || !slices.Equal(done, wantDone) || !ok || !impl.GoodMarker(m) {
		t.Errorf("PlayMarker(%d, %v) = %s %v %v, not %s %v", cells, l, markerText(m), done, ok, markerText(want), wantDone)
	}
}

// checkMarkRow holds PlayMarker against the steps apart and one by one.
func checkMarkRow(t *testing.T, cells int, l []impl.MarkStep) {
	t.Helper()
	m := firstMarker(cells)
	var done []bool
	for _, s := range l {
		after, did := checkMark(t, m, s)
		m, done = after, append(done, did)
	}
	checkMarkPlayed(t, cells, l, m, done)
}

func checkPlayMarkerRefused(t *testing.T, cells int, l []impl.MarkStep) {
	t.Helper()
	if m, done, ok := impl.PlayMarker(cells, l); !isNoMarker(m) || len(done) != 0 || ok {
		t.Errorf("PlayMarker(%d, %d steps) = %s %v %v", cells, len(l), markerText(m), done, ok)
	}
}

// markMenu has all steps with cells from -1 up to one beyond the last.
func markMenu(cells int) []impl.MarkStep {
	l := []impl.MarkStep{{Kind: impl.MarkBegin}, {Kind: impl.MarkSweep}, {Kind: impl.MarkTake}, {Kind: impl.MarkTake, K: 1}}
	for at := -1; at <= cells; at++ {
		l = append(l, impl.MarkStep{Kind: impl.MarkScan, At: at})
		for to := -1; to <= cells; to++ {
			l = append(l, impl.MarkStep{Kind: impl.MarkWrite, At: at, To: to}, impl.MarkStep{Kind: impl.MarkWrite, At: at, K: 1, To: to})
		}
	}
	return l
}

// checkMarkerRefused asks all functions of the chapter.
func checkMarkerRefused(t *testing.T, m impl.Marker) {
	t.Helper()
	if impl.GoodMarker(m) || goodMarkerApart(m) {
		t.Errorf("GoodMarker(%s) = %v, apart %v", markerText(m), impl.GoodMarker(m), goodMarkerApart(m))
	}
	for what, tell := range map[string]func(impl.Marker) ([]int, bool){"LiveIn": impl.LiveIn, "GreyIn": impl.GreyIn} {
		if cells, ok := tell(m); len(cells) != 0 || ok {
			t.Errorf("%s(%s) = %v %v", what, markerText(m), cells, ok)
		}
	}
	if after, scans, ok := impl.FinishMark(m); !isNoMarker(after) || scans != 0 || ok {
		t.Errorf("FinishMark(%s) = %s %d %v", markerText(m), markerText(after), scans, ok)
	}
	for _, s := range markMenu(2) {
		checkMarkRefused(t, m, s)
	}
}

func TestMarkBounds(t *testing.T) {
	if impl.MaxCells != 10 || impl.MaxMarkSteps != 80 {
		t.Error(impl.MaxCells, impl.MaxMarkSteps)
	}
	colors := []int{impl.White, impl.Grey, impl.Black}
	kinds := []int{impl.MarkBegin, impl.MarkScan, impl.MarkWrite, impl.MarkTake, impl.MarkSweep}
	if !slices.Equal(colors, []int{0, 1, 2}) || !slices.Equal(kinds, []int{1, 2, 3, 4, 5}) {
		t.Error(colors, kinds)
	}
}

func TestNewMarker(t *testing.T) {
	for cells := 2; cells <= 10; cells++ {
		for range 2 {
			m, ok := impl.NewMarker(cells)
			if !sameMarker(m, firstMarker(cells)) || !ok {
				t.Error(cells, markerText(m), ok)
			}
			checkMarker(t, m)
			checkLiveCells(t, m, []int{0})
			checkGreyCells(t, m, nil)
			// What is written into an answer is not in the next one.
			checkMarkerApart(t, m)
		}
	}
	for _, cells := range append(farNumbers(), -2, -1, 0, 1, 11, 12, 80) {
		if m, ok := impl.NewMarker(cells); !isNoMarker(m) || ok {
			t.Error(cells, markerText(m), ok)
		}
		checkPlayMarkerRefused(t, cells, nil)
		checkPlayMarkerRefused(t, cells, markStepsAs(t, "take 1; begin; scan 0"))
	}
}

func TestGoodMarkerKnown(t *testing.T) {
	for _, text := range []string{
		// Not Marking: all White, whatever leads where.
		"W-,- F | 0 -", "W-,- W-,- | 0 -", "W1,0 W1,1 | 1 0", "W1,1 W0,0 F | - -", "F W-,1 | 1 1", "F F | - -", "W9,8 F F F F F F F W-,0 W9,9 | 9 8", "F F F F F F F F F F | - -", "W0,0 W0,0 W0,0 W0,0 W0,0 W0,0 W0,0 W0,0 W0,0 W0,0 | - 9",
		// Marking: roots Grey, Black, and to nothing.
		"G-,- F | 0 - | marking", "B-,- F | 0 - | marking", "G-,- B-,- | 1 0 | marking", "W-,- F | - - | marking", "F F | - - | marking", "B-,- W-,- | - 0 | marking",
		// Black ones lead to Grey ones, Black ones, themselves and nothing.
		"B1,0 G-,- | 0 - | marking", "B1,- B-,0 | 0 - | marking", "B0,0 F | - - | marking", "B-,1 G-,- | - - | marking",
		// White ones lead anywhere, and Grey ones to White ones.
		"W1,2 G0,0 B1,2 W3,0 F | 1 2 | marking", "G1,1 W0,1 | 0 0 | marking", "W0,0 W1,0 | - - | marking",
	} {
		checkMarker(t, markerAs(t, text))
	}
	for _, text := range []string{
		// Fewer than 2 cells.
		"| - -", "W-,- | 0 -", "F | - -", "G-,- | 0 - | marking", "| - - | marking",
		// More than MaxCells.
		"F F F F F F F F F F F | - -", "W-,- F F F F F F F F F W-,- | 0 -", "G-,- F F F F F F F F F F | 0 - | marking",
		// Links and roots to cells that are not there, to Free ones, and below -1.
		"W2,- W-,- | 0 -", "W-,- W-,2 | 0 -", "W1,- F | 0 -", "W-,- W0,2 F | 0 -", "W-2,- W-,- | 0 -", "W-,- W-,-2 | 0 -", "W10,- F F F F F F F F F | 0 -",
		"W-,- W-,- | 2 -", "W-,- W-,- | - 2", "W-,- F | 1 -", "W-,- F | 0 1", "W-,- W-,- | -2 0", "W-,- W-,- | 0 -2", "F F F F F F F F F F | 10 -",
		"G2,- W-,- | 0 - | marking", "G1,- F | 0 - | marking", "G-,-2 W-,- | 0 - | marking", "G-,- W-,- | 2 0 | marking", "G-,- F | 0 1 | marking", "G-,- F | -2 0 | marking",
		// Links and roots fewer or more than two.
		"W W-,- | 1 -", "W- W-,- | 1 -", "W-,-,- W-,- | 1 -", "W-,- W-,-,- | 0 -", "W-,- W0 | 0 -", "W-,- F |", "W-,- F | 0", "W-,- F | 0 - -", "W-,- F | 0 0 0",
		// Not White where it is not Marking.
		"G-,- F | 0 -", "B-,- F | 0 -", "W-,- G-,- | 0 -", "W-,- B-,- | 0 -", "B0,1 B0,1 | 0 1",
		// A root that is White, and a Black one with a link to a White one, while Marking.
		"W-,- F | 0 - | marking", "W-,- F | - 0 | marking", "G-,- W-,- | 0 1 | marking", "W-,- B-,- | 0 1 | marking",
		"B1,- W-,- | 0 - | marking", "B-,1 W-,- | 0 - | marking", "G-,- W-,- B0,1 | 0 - | marking", "W-,- B0,- | - - | marking",
	} {
		checkMarkerRefused(t, markerAs(t, text))
	}
}

// Free cells with a link, or another Color than White.
func TestFreeCellsAreBare(t *testing.T) {
	for _, text := range []string{"G-,- F W-,- | 0 - | marking", "W-,- F W-,- | 0 -", "B-,- F G-,- | 0 - | marking", "F F W2,2 | - -"} {
		checkMarker(t, markerAs(t, text))
		for _, color := range append(farNumbers(), -2, -1, 1, 2, 3, 4) {
			m := markerAs(t, text)
			m.Cells[1].Color = color
			checkMarkerRefused(t, m)
		}
		for _, links := range []string{"0 -", "- 0", "1 -", "- 1", "1 1", "2 2", "3 -", "- 3", "-2 -", "", "-", "- - -"} {
			m := markerAs(t, text)
			m.Cells[1].Links = namesAs(t, links)
			checkMarkerRefused(t, m)
		}
	}
}

// eachCell calls for all cells with links and a Color from -1 up to an end.
func eachCell(end int, lastColor int, call func(c impl.Cell)) {
	eachEnds(end+1, 2, func(links []int) {
		for color := -1; color <= lastColor; color++ {
			call(impl.Cell{Links: links, Color: color})
			call(impl.Cell{Links: links, Color: color, Free: true})
		}
	})
}

// Markers of two cells, with links, colors and roots of all kinds, most of them
// wrong.
func TestGoodMarkerOfAllSmallMarkers(t *testing.T) {
	is := [2]int{}
	var cells []impl.Cell
	eachCell(2, 3, func(c impl.Cell) { cells = append(cells, c) })
	eachEnds(3, 2, func(roots []int) {
		for _, first := range cells {
			for _, second := range cells {
				for _, marking := range []bool{false, true} {
					m := impl.Marker{Cells: []impl.Cell{first, second}, Roots: roots, Marking: marking}
					want := goodMarkerApart(m)
					if impl.GoodMarker(m) != want {
						t.Fatalf("GoodMarker(%s) is not %v", markerText(m), want)
					}
					is[oneWhere(want)]++
				}
			}
		}
	})
	if is[0] < 500000 || is[1] < 1500 {
		t.Error(is)
	}
}

// eachGoodMarker calls for all good markers of so many cells with given roots.
func eachGoodMarker(cells int, roots []int, call func(m impl.Marker)) {
	var each func(list []impl.Cell)
	each = func(list []impl.Cell) {
		if len(list) < cells {
			each(append(slices.Clone(list), impl.Cell{Links: []int{-1, -1}, Free: true}))
			eachEnds(cells, 2, func(links []int) {
				for color := range 3 {
					each(append(slices.Clone(list), impl.Cell{Links: links, Color: color}))
				}
			})
			return
		}
		for _, marking := range []bool{false, true} {
			if m := (impl.Marker{Cells: list, Roots: roots, Marking: marking}); goodMarkerApart(m) {
				call(m)
			}
		}
	}
	each(nil)
}

// All good markers of two cells: what they tell, and each step of each of them.
func TestAllMarkersOfTwoCells(t *testing.T) {
	count := 0
	eachEnds(2, 2, func(roots []int) {
		eachGoodMarker(2, roots, func(m impl.Marker) {
			checkMarker(t, m)
			for _, s := range markMenu(2) {
				checkMark(t, m, s)
			}
			if count++; t.Failed() {
				t.FailNow()
			}
		})
	})
	if count < 1500 {
		t.Error("only", count, "markers")
	}
}

// All good markers of three cells with a root to none or to the first one: what
// they tell, and each step but for writes, which are some of those there are.
func TestAllMarkersOfThreeCells(t *testing.T) {
	count := 0
	menu := markMenu(3)
	for _, roots := range [][]int{{-1, -1}, {-1, 0}} {
		eachGoodMarker(3, roots, func(m impl.Marker) {
			count++
			for at, s := range menu {
				if s.Kind != impl.MarkWrite || (at+count)%13 == 0 {
					checkMark(t, m, s)
				}
			}
			if count%4 == 0 {
				checkMarker(t, m)
			}
			if t.Failed() {
				t.FailNow()
			}
		})
	}
	if count < 20000 {
		t.Error("only", count, "markers")
	}
}

func TestManyMarkers(t *testing.T) {
	d := &lots{state: 1978}
	is := [2]int{}
	for range 8000 {
		m := d.someMarker()
		checkMarker(t, m)
		is[oneWhere(m.Marking)]++
		if t.Failed() {
			return
		}
	}
	if min(is[0], is[1]) < 1000 {
		t.Error(is)
	}
}

type knownMark struct{ before, step, after string }

// checkKnownMarks is also for steps that are refused, which have nothing behind
// them.
func checkKnownMarks(t *testing.T, known []knownMark) {
	t.Helper()
	for _, k := range known {
		m, s := markerAs(t, k.before), markStepAs(t, k.step)
		checkMarker(t, m)
		if k.after == "" {
			checkMarkRefused(t, m, s)
		} else {
			checkMarkTo(t, m, s, markerAs(t, k.after))
		}
		checkMark(t, m, s)
	}
}

func TestMarkBeginKnown(t *testing.T) {
	checkKnownMarks(t, []knownMark{
		// Both roots lead somewhere.
		{"W-,- W-,- | 0 1", "begin", "G-,- G-,- | 0 1 | marking"}, {"W-,- W-,- W-,- | 2 1", "begin", "W-,- G-,- G-,- | 2 1 | marking"}, {"W1,2 W2,0 W0,1 W-,- | 0 3", "begin", "G1,2 W2,0 W0,1 G-,- | 0 3 | marking"},
		// One leads to nothing, and both.
		{"W-,- F | 0 -", "begin", "G-,- F | 0 - | marking"}, {"W1,- W-,- | - 1", "begin", "W1,- G-,- | - 1 | marking"}, {"W1,- W-,- | - -", "begin", "W1,- W-,- | - - | marking"}, {"F F | - -", "begin", "F F | - - | marking"},
		// Both lead to one cell.
		{"W0,1 W-,- F | 1 1", "begin", "W0,1 G-,- F | 1 1 | marking"}, {"W0,0 F | 0 0", "begin", "G0,0 F | 0 0 | marking"},
		// Where it is Marking already.
		{"G-,- F | 0 - | marking", "begin", ""}, {"B-,- W-,- | 0 - | marking", "begin", ""}, {"W-,- F | - - | marking", "begin", ""}, {"B1,- G-,- | 0 1 | marking", "begin", ""},
	})
}

func TestMarkScanKnown(t *testing.T) {
	checkKnownMarks(t, []knownMark{
		// Links to White, Grey and Black ones.
		{"G1,2 W-,- W-,- | 0 - | marking", "scan 0", "B1,2 G-,- G-,- | 0 - | marking"}, {"G1,2 W-,- G-,- | 0 - | marking", "scan 0", "B1,2 G-,- G-,- | 0 - | marking"}, {"G1,2 W-,- B-,- | 0 - | marking", "scan 0", "B1,2 G-,- B-,- | 0 - | marking"},
		{"G1,2 B-,- W-,- | 0 - | marking", "scan 0", "B1,2 B-,- G-,- | 0 - | marking"}, {"G1,2 G-,- B-,- | 0 - | marking", "scan 0", "B1,2 G-,- B-,- | 0 - | marking"}, {"G1,1 W-,- | 0 - | marking", "scan 0", "B1,1 G-,- | 0 - | marking"}, {"G1,2 B-,- B-,- | 0 1 | marking", "scan 0", "B1,2 B-,- B-,- | 0 1 | marking"},
		// To itself, and to nothing.
		{"G0,0 F | 0 - | marking", "scan 0", "B0,0 F | 0 - | marking"}, {"G0,1 W-,- | 0 - | marking", "scan 0", "B0,1 G-,- | 0 - | marking"}, {"G-,- W-,- | 0 - | marking", "scan 0", "B-,- W-,- | 0 - | marking"}, {"G-,1 W-,- | 0 - | marking", "scan 0", "B-,1 G-,- | 0 - | marking"}, {"G1,- W-,- | 0 - | marking", "scan 0", "B1,- G-,- | 0 - | marking"},
		// What is behind those to which its links lead stays as it is.
		{"G1,- W2,- W3,- W-,- | 0 - | marking", "scan 0", "B1,- G2,- W3,- W-,- | 0 - | marking"}, {"B1,- G2,- W3,- W-,- | 0 - | marking", "scan 1", "B1,- B2,- G3,- W-,- | 0 - | marking"},
		// Any of several Grey ones, not the first one alone.
		{"G2,- G3,- W-,- W-,- | 0 1 | marking", "scan 1", "G2,- B3,- W-,- G-,- | 0 1 | marking"}, {"G-,- G-,- G-,- | 0 1 | marking", "scan 2", "G-,- G-,- B-,- | 0 1 | marking"},
		// One that is not reached.
		{"B-,- G2,- W-,- | 0 - | marking", "scan 1", "B-,- B2,- G-,- | 0 - | marking"},
		// The last one of as many as there may be.
		{"F F F F F F F F F G-,9 | 9 - | marking", "scan 9", "F F F F F F F F F B-,9 | 9 - | marking"},
		// A cell that is White, Black, Free, or none.
		{"G1,- W-,- | 0 - | marking", "scan 1", ""}, {"G-,- B-,- | 0 1 | marking", "scan 1", ""}, {"G-,- F | 0 - | marking", "scan 1", ""}, {"G-,- W-,- | 0 - | marking", "scan 2", ""}, {"G-,- W-,- | 0 - | marking", "scan -", ""},
		// Where it is not Marking.
		{"W1,- W-,- | 0 -", "scan 0", ""}, {"W1,- W-,- | 0 -", "scan 1", ""}, {"W1,- W-,- | - - | marking", "scan 0", ""},
	})
}

func TestMarkWriteKnown(t *testing.T) {
	checkKnownMarks(t, []knownMark{
		// A Black cell to a White one, by each link: that one becomes Grey, the Black one stays so.
		{"B-,- G2,- W-,- | 0 1 | marking", "write 0 0 2", "B2,- G2,- G-,- | 0 1 | marking"}, {"B-,- G2,- W-,- | 0 1 | marking", "write 0 1 2", "B-,2 G2,- G-,- | 0 1 | marking"},
		// What leads there goes then: it is found all the same.
		{"B2,- G2,- G-,- | 0 1 | marking", "write 1 0 -", "B2,- G-,- G-,- | 0 1 | marking"},
		// A Black one to a Grey and a Black one, to itself, and to nothing.
		{"B-,- G-,- | 0 1 | marking", "write 0 0 1", "B1,- G-,- | 0 1 | marking"}, {"B-,- B-,- | 0 1 | marking", "write 0 1 1", "B-,1 B-,- | 0 1 | marking"}, {"B-,- F | 0 - | marking", "write 0 1 0", "B-,0 F | 0 - | marking"}, {"B1,1 G-,- | 0 1 | marking", "write 0 0 -", "B-,1 G-,- | 0 1 | marking"}, {"B1,1 G-,- | 0 1 | marking", "write 0 1 -", "B1,- G-,- | 0 1 | marking"},
		// A Grey and a White one to a White one: it becomes Grey, too.
		{"G1,- W-,- | 0 - | marking", "write 0 1 1", "G1,1 G-,- | 0 - | marking"}, {"G1,2 W-,- W-,- | 0 - | marking", "write 1 0 2", "G1,2 W2,- G-,- | 0 - | marking"}, {"G1,- W-,- | 0 - | marking", "write 1 0 1", "G1,- G1,- | 0 - | marking"}, {"G1,- W-,- | 0 - | marking", "write 0 0 1", "G1,- G-,- | 0 - | marking"},
		// A Grey and a White one to a Grey and a Black one.
		{"G1,- W-,- | 0 - | marking", "write 1 0 0", "G1,- W0,- | 0 - | marking"}, {"G-,- B-,- | 0 1 | marking", "write 0 0 1", "G1,- B-,- | 0 1 | marking"}, {"G1,- W-,- B-,- | 0 2 | marking", "write 1 1 2", "G1,- W-,2 B-,- | 0 2 | marking"},
		// What At led to stays as it is, though nothing leads to it.
		{"G1,- W2,- W-,- | 0 - | marking", "write 0 0 -", "G-,- W2,- W-,- | 0 - | marking"}, {"G1,- W2,- W-,- | 0 - | marking", "write 0 0 2", "G2,- W2,- G-,- | 0 - | marking"},
		// Where it is not Marking all stays White.
		{"W-,- W-,- | 0 1", "write 0 0 1", "W1,- W-,- | 0 1"}, {"W-,- W-,- | 0 1", "write 1 1 1", "W-,- W-,1 | 0 1"}, {"W1,1 W0,- | 0 -", "write 0 1 -", "W1,- W0,- | 0 -"}, {"W1,1 W0,- | 0 -", "write 1 0 0", "W1,1 W0,- | 0 -"}, {"W1,- W2,- W-,- | 0 -", "write 0 0 2", "W2,- W2,- W-,- | 0 -"},
	})
}

func TestMarkWriteOfRoots(t *testing.T) {
	checkKnownMarks(t, []knownMark{
		// Each root, to a White, a Grey and a Black one.
		{"G1,- W-,- | 0 - | marking", "write - 0 1", "G1,- G-,- | 1 - | marking"}, {"G1,- W-,- | 0 - | marking", "write - 1 1", "G1,- G-,- | 0 1 | marking"}, {"G1,- W-,- | - 0 | marking", "write - 0 1", "G1,- G-,- | 1 0 | marking"}, {"G1,- W-,- | - 0 | marking", "write - 1 1", "G1,- G-,- | - 1 | marking"},
		{"G-,- B-,- | 0 1 | marking", "write - 1 0", "G-,- B-,- | 0 0 | marking"}, {"G-,- B-,- | 0 1 | marking", "write - 0 1", "G-,- B-,- | 1 1 | marking"}, {"G-,- B-,- | 0 1 | marking", "write - 1 1", "G-,- B-,- | 0 1 | marking"},
		// To nothing: what it led to stays as it is.
		{"G-,- B-,- | 0 1 | marking", "write - 0 -", "G-,- B-,- | - 1 | marking"}, {"G-,- B-,- | 0 1 | marking", "write - 1 -", "G-,- B-,- | 0 - | marking"}, {"B-,- F | - - | marking", "write - 1 -", "B-,- F | - - | marking"}, {"F F | - -", "write - 0 -", "F F | - -"},
		// Where it is not Marking.
		{"W1,- W-,- | 0 -", "write - 1 1", "W1,- W-,- | 0 1"}, {"W1,- W-,- | 0 -", "write - 0 1", "W1,- W-,- | 1 -"}, {"W1,- W-,- | 0 1", "write - 0 -", "W1,- W-,- | - 1"}, {"W-,- W-,- | 0 1", "write - 0 1", "W-,- W-,- | 1 1"},
		// To a cell that is not live, or is none.
		{"G-,- W-,- | 0 - | marking", "write - 0 1", ""}, {"G-,- G-,- | 0 - | marking", "write - 1 1", ""}, {"G-,- F | 0 - | marking", "write - 1 1", ""}, {"W-,- W0,- | 0 -", "write - 1 1", ""}, {"W-,- F | 0 -", "write - 0 1", ""}, {"W-,- F | 0 -", "write - 0 2", ""}, {"W0,- F | - -", "write - 0 0", ""}, {"F F | - -", "write - 0 0", ""},
	})
}

func TestMarkWriteRefused(t *testing.T) {
	// Of these 2 and 3 are not live, though 2 leads to what is, and 4 is Free.
	for _, text := range []string{"W1,- W-,- W0,3 W1,- F | 0 -", "G1,- W-,- W0,3 W1,- F | 0 - | marking", "B1,- G-,- G0,3 B1,- F | 0 - | marking", "B1,- B-,- B0,3 B1,- F | 1 0 | marking"} {
		m := markerAs(t, text)
		checkMarker(t, m)
		for k := range 2 {
			for other := -1; other < 6; other++ {
				for _, cell := range append(farNumbers(), -3, -2, 2, 3, 4, 5, 9, 10) {
					checkMarkRefused(t, m, impl.MarkStep{Kind: impl.MarkWrite, At: other, K: k, To: cell})
					checkMarkRefused(t, m, impl.MarkStep{Kind: impl.MarkWrite, At: cell, K: k, To: other})
				}
			}
		}
		for at := -1; at < 2; at++ {
			for to := -1; to < 2; to++ {
				for k := range 2 {
					if _, did := checkMark(t, m, impl.MarkStep{Kind: impl.MarkWrite, At: at, K: k, To: to}); !did {
						t.Error(markerText(m), at, k, to)
					}
				}
				for _, k := range append(farNumbers(), -2, -1, 2, 3) {
					checkMarkRefused(t, m, impl.MarkStep{Kind: impl.MarkWrite, At: at, K: k, To: to})
				}
			}
		}
	}
}

func TestMarkTakeKnown(t *testing.T) {
	checkKnownMarks(t, []knownMark{
		// The first Free one, of each root; where it is not Marking it stays White.
		{"W-,- F F | 0 -", "take 0", "W-,- W-,- F | 1 -"}, {"W-,- F F | 0 -", "take 1", "W-,- W-,- F | 0 1"}, {"F W-,- F | 1 -", "take 1", "W-,- W-,- F | 1 0"}, {"F F | - -", "take 0", "W-,- F | 0 -"}, {"F F | - -", "take 1", "W-,- F | - 0"},
		// While Marking it becomes Grey.
		{"G-,- F F | 0 - | marking", "take 0", "G-,- G-,- F | 1 - | marking"}, {"B-,- F F | 0 - | marking", "take 1", "B-,- G-,- F | 0 1 | marking"}, {"F B1,- F | 1 1 | marking", "take 1", "G-,- B1,- F | 1 0 | marking"}, {"W1,1 W0,0 F | - - | marking", "take 1", "W1,1 W0,0 G-,- | - 2 | marking"},
		{"W9,9 W9,9 W9,9 W9,9 W9,9 W9,9 W9,9 W9,9 F B-,- | 9 9 | marking", "take 0", "W9,9 W9,9 W9,9 W9,9 W9,9 W9,9 W9,9 W9,9 G-,- B-,- | 8 9 | marking"}, {"F F F F F F F F F F | - - | marking", "take 1", "G-,- F F F F F F F F F | - 0 | marking"},
		// Where none is Free, though some are not reached.
		{"W-,- W-,- | 0 -", "take 0", ""}, {"W-,- W-,- | 0 1", "take 1", ""}, {"W-,- W-,- | - -", "take 0", ""}, {"B-,- W-,- | 0 - | marking", "take 1", ""}, {"G-,- B-,- | 0 1 | marking", "take 0", ""}, {"W0,0 W0,0 W0,0 W0,0 W0,0 W0,0 W0,0 W0,0 W0,0 W0,0 | - -", "take 0", ""},
		// Of no root.
		{"W-,- F | 0 -", "take 2", ""}, {"W-,- F | 0 -", "take -", ""}, {"G-,- F | 0 - | marking", "take 2", ""},
	})
}

func TestMarkSweepKnown(t *testing.T) {
	checkKnownMarks(t, []knownMark{
		// With a Grey cell there, reached or not.
		{"G-,- F | 0 - | marking", "sweep", ""}, {"B-,- G-,- | 0 - | marking", "sweep", ""}, {"B-,- W-,- G-,- | 0 2 | marking", "sweep", ""}, {"F F F F F F F F F G-,- | - - | marking", "sweep", ""},
		// With none: White ones go, Black ones stay, reached or not.
		{"B-,- W-,- | 0 - | marking", "sweep", "W-,- F | 0 -"}, {"W-,- B1,1 | 1 - | marking", "sweep", "F W1,1 | 1 -"}, {"B1,- B-,0 | 0 - | marking", "sweep", "W1,- W-,0 | 0 -"}, {"B-,- B0,1 | 0 - | marking", "sweep", "W-,- W0,1 | 0 -"}, {"B-,- B1,0 W-,- | - - | marking", "sweep", "W-,- W1,0 F | - -"},
		// White ones that lead to Black ones, to themselves, and to one another in a ring.
		{"B-,- W0,0 W-,0 | 0 - | marking", "sweep", "W-,- F F | 0 -"}, {"B-,- W2,0 W3,- W1,3 | 0 - | marking", "sweep", "W-,- F F F | 0 -"}, {"W1,- W0,- | - - | marking", "sweep", "F F | - -"}, {"W0,0 B-,- W2,1 | - 1 | marking", "sweep", "F W-,- F | - 1"},
		// Nothing White, nothing at all, and Free ones among them.
		{"B0,- F | 0 0 | marking", "sweep", "W0,- F | 0 0"}, {"F F | - - | marking", "sweep", "F F | - -"}, {"F W3,- F B3,- F | - 3 | marking", "sweep", "F F F W3,- F | - 3"},
		{"B1,2 B3,4 B5,6 B7,8 B9,0 B-,- B-,- B-,- B-,- B-,- | 0 - | marking", "sweep", "W1,2 W3,4 W5,6 W7,8 W9,0 W-,- W-,- W-,- W-,- W-,- | 0 -"},
		{"W1,2 W3,4 W5,6 W7,8 W9,0 W-,- W-,- W-,- W-,- W-,- | - - | marking", "sweep", "F F F F F F F F F F | - -"},
		// Where it is not Marking.
		{"W-,- F | 0 -", "sweep", ""}, {"W-,- W-,- | 0 -", "sweep", ""}, {"F F | - -", "sweep", ""},
	})
}

func TestLiveAndGreyKnown(t *testing.T) {
	for _, k := range []struct{ text, live, grey string }{
		// Roots to nothing, to one, to two, to one both.
		{"F F | - -", "", ""}, {"W0,0 W1,1 | - -", "", ""}, {"W-,- F | 0 -", "0", ""}, {"W-,- W-,- | - 1", "1", ""}, {"W-,- W-,- W-,- | 2 0", "0 2", ""}, {"W-,- W-,- | 1 1", "1", ""},
		// Rings, of one, two, three and of all; entered elsewhere; not reached.
		{"W0,0 F | 0 -", "0", ""}, {"W1,- W0,- | 0 -", "0 1", ""}, {"W-,1 W-,0 | - 1", "0 1", ""}, {"W1,- W2,- W0,- F | 1 -", "0 1 2", ""}, {"W1,- W2,- W1,- W0,- | 0 -", "0 1 2", ""}, {"W-,- W2,- W1,- | 0 -", "0", ""},
		{"W1,- W2,- W3,- W4,- W5,- W6,- W7,- W8,- W9,- W0,- | 5 -", "0 1 2 3 4 5 6 7 8 9", ""}, {"W-,9 W-,0 W-,1 W-,2 W-,3 W-,4 W-,5 W-,6 W-,7 W-,8 | - 4", "0 1 2 3 4 5 6 7 8 9", ""}, {"W1,2 W2,3 W3,4 W4,0 W0,1 W6,7 W7,8 W8,9 W9,5 W5,6 | 7 -", "5 6 7 8 9", ""},
		// Two ways to one cell.
		{"W1,2 W3,- W-,3 W-,- | 0 -", "0 1 2 3", ""}, {"W1,1 W-,- | 0 1", "0 1", ""}, {"W2,- W-,2 W-,- | 0 1", "0 1 2", ""}, {"W2,- W-,2 W-,- | 1 -", "1 2", ""},
		// Rows, by each link and by both in turn, against the order of the numbers.
		{"W1,- W-,2 W3,- W-,4 W-,- | 0 -", "0 1 2 3 4", ""}, {"W-,- W0,- W-,1 W2,- W-,3 | - 4", "0 1 2 3 4", ""}, {"W-,- W0,- W-,1 W2,- W-,3 | - 2", "0 1 2", ""},
		// Colors do not count for what is live; Grey ones count wherever they are.
		{"G1,- W2,- B-,- F | 0 - | marking", "0 1 2", "0"}, {"B-,- G-,- W-,- G1,- | 0 - | marking", "0", "1 3"}, {"G1,2 G-,- G-,- | 2 1 | marking", "1 2", "0 1 2"}, {"B1,- G0,1 F | 0 - | marking", "0 1", "1"}, {"F F F F F F F F F G9,9 | - - | marking", "", "9"}, {"B-,- W-,- | 0 - | marking", "0", ""},
	} {
		m := markerAs(t, k.text)
		checkLiveCells(t, m, numbersAs(t, k.live))
		checkGreyCells(t, m, numbersAs(t, k.grey))
		checkMarker(t, m)
	}
}

func TestFinishMarkKnown(t *testing.T) {
	for _, k := range []struct {
		before string
		scans  int
		after  string
	}{
		// Where it is not Marking: each one that is reached is scanned once.
		{"W-,- F | 0 -", 1, "W-,- F | 0 -"}, {"F F | - -", 0, "F F | - -"}, {"W1,0 W0,1 | - -", 0, "F F | - -"}, {"W-,- W-,- | 0 -", 1, "W-,- F | 0 -"}, {"W1,1 W0,1 W0,1 | - 0", 2, "W1,1 W0,1 F | - 0"}, {"W1,2 W3,- W-,3 W-,- W0,4 | 0 -", 4, "W1,2 W3,- W-,3 W-,- F | 0 -"}, {"W-,- W0,- W1,- | 2 2", 3, "W-,- W0,- W1,- | 2 2"},
		{"W1,- W2,- W3,- W4,- W5,- W6,- W7,- W8,- W9,- W0,- | 5 -", 10, "W1,- W2,- W3,- W4,- W5,- W6,- W7,- W8,- W9,- W0,- | 5 -"}, {"W1,- W2,- W3,- W4,- W-,- W6,- W7,- W8,- W9,- W5,- | 2 -", 3, "F F W3,- W4,- W-,- F F F F F | 2 -"},
		// Where it is Marking already: those that are Black are not scanned, and stay, reached or not.
		{"G-,- F | 0 - | marking", 1, "W-,- F | 0 -"}, {"B-,- F | 0 - | marking", 0, "W-,- F | 0 -"}, {"B-,- B-,- W-,- | 0 - | marking", 0, "W-,- W-,- F | 0 -"}, {"B1,- G2,- W3,- W0,- W0,- | 0 - | marking", 3, "W1,- W2,- W3,- W0,- F | 0 -"}, {"W-,- F | - - | marking", 0, "F F | - -"},
		// Several Grey ones; one that is not reached keeps what it leads to.
		{"G2,- G3,- W-,- W-,- | 0 1 | marking", 4, "W2,- W3,- W-,- W-,- | 0 1"}, {"B-,- G2,- W-,- W2,- | 0 - | marking", 2, "W-,- W2,- W-,- F | 0 -"}, {"W-,- W0,- G1,- G-,- | 3 - | marking", 4, "W-,- W0,- W1,- W-,- | 3 -"}, {"G1,2 G2,0 G0,1 | 2 - | marking", 3, "W1,2 W2,0 W0,1 | 2 -"}, {"B-,- W-,- G3,- W2,- F | 0 - | marking", 2, "W-,- F W3,- W2,- F | 0 -"},
	} {
		m := markerAs(t, k.before)
		checkFinished(t, m, markerAs(t, k.after), k.scans)
		checkMarker(t, m)
	}
}

// FinishMark is what it is said to be, step by step.
func TestFinishMarkStepByStep(t *testing.T) {
	d := &lots{state: 1976}
	for range 4000 {
		m := d.someMarker()
		after := m
		if !m.Marking {
			after, _ = impl.StepMarker(m, impl.MarkStep{Kind: impl.MarkBegin})
		}
		scans := 0
		for grey, _ := impl.GreyIn(after); len(grey) > 0; grey, _ = impl.GreyIn(after) {
			after, _ = impl.StepMarker(after, impl.MarkStep{Kind: impl.MarkScan, At: grey[0]})
			scans++
		}
		after, ok := impl.StepMarker(after, impl.MarkStep{Kind: impl.MarkSweep})
		if !ok {
			t.Fatal(markerText(m))
		}
		checkFinished(t, m, after, scans)
	}
}

func TestPlayMarkerKnown(t *testing.T) {
	for _, k := range []struct {
		cells int
		steps string
		after string
		done  string
	}{
		{2, "", "W-,- F | 0 -", ""}, {10, "", "W-,- F F F F F F F F F | 0 -", ""},
		{4, "take 1; write 0 0 1; begin; scan 0; take 1; write 0 1 2; write 0 0 -", "B-,2 G-,- G-,- F | 0 2 | marking", "1 1 1 1 1 1 1"},
		// A link is hidden behind a Black cell and taken away ahead of it.
		{3, "take 1; write 1 0 0; write - 0 -; take 0; write 1 1 2; begin; scan 1; write 2 0 0; write 1 0 -; scan 2; scan 0; sweep", "W-,- W-,2 W0,- | 2 1", "1 1 1 1 1 1 1 1 1 1 1 1"},
		// What is not reached any more stays until the marking behind this one.
		{2, "take 1; begin; scan 1; write - 1 -; scan 0; sweep", "W-,- W-,- | 0 -", "1 1 1 1 1 1"}, {2, "take 1; begin; scan 1; write - 1 -; scan 0; sweep; begin; scan 0; sweep", "W-,- F | 0 -", "1 1 1 1 1 1 1 1 1"},
		// What was taken away ahead of it goes by it, and may be taken anew.
		{2, "take 1; write - 1 -; begin; scan 0; sweep; take 1", "W-,- W-,- | 0 1", "1 1 1 1 1 1"}, {2, "take 0; begin; scan 1; sweep; take 1; take 0", "W-,- W-,- | 1 0", "1 1 1 1 1 0"},
		// A ring that nothing leads to.
		{3, "take 1; take 0; write 1 0 2; write 2 1 1; write - 0 -; write - 1 -; begin; sweep", "F F F | - -", "1 1 1 1 1 1 1 1"}, {3, "write - 0 -; take 1; take 0; begin; scan 2; scan 1; sweep", "F W-,- W-,- | 2 1", "1 1 1 1 1 1 1"},
		// Steps that can't be done, in the midst and at the ends: they change nothing.
		{2, "scan 0; sweep; write 0 0 1; begin; begin; take 2; scan 1; sweep; scan 0; scan 0; sweep; sweep", "W-,- F | 0 -", "0 0 0 1 0 0 0 0 1 0 1 0"}, {2, "take 1; take 0; write 1 2 0; write 1 0 2; write 2 0 1; write 1 1 0; begin; scan 2; scan -; scan 1; take 1; sweep", "G-,- B-,0 | 0 1 | marking", "1 0 0 0 0 1 1 0 0 1 0 0"},
	} {
		var done []bool
		for _, n := range numbersAs(t, k.done) {
			done = append(done, n == 1)
		}
		l := markStepsAs(t, k.steps)
		checkMarkPlayed(t, k.cells, l, markerAs(t, k.after), done)
		checkMarkRow(t, k.cells, l)
	}
}

func TestPlayMarkerAtItsBounds(t *testing.T) {
	d := &lots{state: 80}
	for _, count := range []int{0, 1, 79, 80} {
		for cells := 2; cells <= 10; cells++ {
			for range 20 {
				l := d.markSteps(cells, count)
				checkMarkRow(t, cells, l)
				want, done := playMarkerApart(firstMarker(cells), l)
				checkMarkPlayed(t, cells, l, want, done)
			}
			// Steps of which none can be done.
			for _, kind := range []int{-1, 0, 2, 5, 6} {
				checkMarkPlayed(t, cells, slices.Repeat([]impl.MarkStep{{Kind: kind}}, count), firstMarker(cells), make([]bool, count))
			}
		}
	}
	// As many markings as there may be, one behind the other.
	l := slices.Repeat(markStepsAs(t, "begin; scan 0; sweep; take 0; take 1; begin; scan 0; sweep"), 10)
	for cells := 2; cells <= 10; cells++ {
		checkMarkRow(t, cells, l)
	}
	for _, count := range []int{81, 82, 1000, 100000} {
		for cells := range 12 {
			checkPlayMarkerRefused(t, cells, slices.Repeat(markStepsAs(t, "take 1"), count))
			checkPlayMarkerRefused(t, cells, make([]impl.MarkStep, count))
		}
	}
	checkPlayMarkerRefused(t, 10, d.markSteps(10, 81))
}

// Promise 15: in markers that PlayMarker made of many drawn rows nothing that is
// reached is freed by a sweep, with what is written meanwhile, and what was not
// reached when the marking before it ended is.
func TestNothingReachedIsFreedInManyRows(t *testing.T) {
	d := &lots{state: 15}
	met := map[string]int{}
	for range 1500 {
		cells := []int{2, 3, 5 + d.below(6), 2 + d.below(9), 10}[d.below(5)]
		l := d.markSteps(cells, impl.MaxMarkSteps)
		before, _, _ := impl.PlayMarker(cells, nil)
		var lost []int
		for count, s := range l {
			after, done, ok := impl.PlayMarker(cells, l[:count+1])
			if !ok || !impl.GoodMarker(after) || !goodMarkerApart(after) {
				t.Fatal(cells, l[:count+1], markerText(after), ok)
			}
			if s.Kind == impl.MarkSweep && done[count] {
				checkNothingReachedIsFreed(t, "MarkSweep", before, after)
				met["lost ones"] += len(lost)
				met["freed"] += len(freeApart(after)) - len(freeApart(before))
				for _, cell := range lost {
					if !after.Cells[cell].Free {
						t.Error(cells, l[:count+1], markerText(before), markerText(after), "still has", cell)
					}
				}
				lost = nil
				for _, cell := range rowOrder(cells) {
					if !after.Cells[cell].Free && !slices.Contains(liveCellsApart(after), cell) {
						lost = append(lost, cell)
					}
				}
			}
			isHidden := s.Kind == impl.MarkWrite && s.At >= 0 && s.At < cells && s.To >= 0 && s.To < cells && before.Cells[s.At].Color == impl.Black && before.Cells[s.To].Color == impl.White
			met["Black to White"] += oneWhere(isHidden && done[count])
			met["taken while Marking"] += oneWhere(s.Kind == impl.MarkTake && before.Marking && done[count])
			met["refused"] += oneWhere(!done[count])
			before = after
		}
		checkMarkRow(t, cells, l)
		checkMarker(t, before)
		if t.Failed() {
			return
		}
	}
	for _, what := range []string{"lost ones", "freed", "Black to White", "taken while Marking", "refused"} {
		if met[what] < 200 {
			t.Error("only", met[what], "times", what, met)
		}
	}
}

// A whole marking with writes between its scans: what is reached when it ends is
// there, and all else is gone by the next one.
func TestWholeMarkingsWithWrites(t *testing.T) {
	d := &lots{state: 1975}
	is := [2]int{}
	for range 3000 {
		m := d.someMarker()
		m, _ = checkMark(t, m, impl.MarkStep{Kind: impl.MarkBegin})
		for grey := greyApart(m); len(grey) > 0; grey = greyApart(m) {
			for range d.below(4) {
				if s := d.markStep(m); s.Kind == impl.MarkWrite {
					m, _ = checkMark(t, m, s)
				}
			}
			grey = greyApart(m)
			m, _ = checkMark(t, m, impl.MarkStep{Kind: impl.MarkScan, At: d.oneOf(grey)})
		}
		after, _ := checkMark(t, m, impl.MarkStep{Kind: impl.MarkSweep})
		is[oneWhere(len(freeApart(after)) == len(m.Cells)-len(liveCellsApart(m)))]++
		checkMarker(t, after)
		whole, _, _ := impl.FinishMark(after)
		if freed := freeApart(whole); len(freed) != len(m.Cells)-len(liveCellsApart(m)) {
			t.Error(markerText(m), markerText(whole), "have other live cells")
		}
		if t.Failed() {
			return
		}
	}
	if min(is[0], is[1]) < 100 {
		t.Error(is)
	}
}

// Promise 15, from any good marker on: also such as no row of steps comes to.
func TestStepsOfManyMarkers(t *testing.T) {
	d := &lots{state: 1984}
	for range 5000 {
		m := d.someMarker()
		for _, s := range markStepsAs(t, "begin; sweep; take 0; take 1") {
			checkMark(t, m, s)
		}
		for range 6 {
			m, _ = checkMark(t, m, d.markStep(m))
			checkMarker(t, m)
		}
		if t.Failed() {
			return
		}
	}
}

// All markers to which any steps lead with two cells, and with three cells those
// of the first few steps: each step from each of them.
func TestAllStepsFromMarkersThatCome(t *testing.T) {
	for _, k := range []struct{ cells, steps, least int }{{2, 100, 500}, {3, 7, 4000}} {
		come := map[string]bool{}
		row := []impl.Marker{firstMarker(k.cells)}
		for range k.steps {
			var ahead []impl.Marker
			for _, m := range row {
				for _, s := range markMenu(k.cells) {
					after, did := checkMark(t, m, s)
					if key := markerText(after); did && !come[key] {
						come[key] = true
						ahead = append(ahead, after)
						checkMarker(t, after)
					}
				}
				if t.Failed() {
					return
				}
			}
			row = ahead
		}
		if len(come) < k.least {
			t.Error("only", len(come), "markers of", k.cells)
		}
	}
}

// fullMarker has cells of all colors that lead to each other, some of which are
// not reached, and a Free one.
func fullMarker(t *testing.T) impl.Marker {
	t.Helper()
	m := markerAs(t, "B1,3 G2,0 W4,- B3,- W-,2 W0,5 F | 0 1 | marking")
	checkMarker(t, m)
	return m
}

func TestMarkersRefuseWrongCells(t *testing.T) {
	checkMarkerRefused(t, impl.Marker{})
	checkMarkerRefused(t, impl.Marker{Marking: true})
	for _, count := range []int{0, 1, 11, 12, 1000, 100000} {
		for _, marking := range []bool{false, true} {
			for _, free := range []bool{false, true} {
				cell := impl.Cell{Links: []int{-1, -1}, Free: free}
				checkMarkerRefused(t, impl.Marker{Cells: slices.Repeat([]impl.Cell{cell}, count), Roots: []int{-1, -1}, Marking: marking})
			}
		}
	}
	checkMarkerRefused(t, impl.Marker{Cells: make([]impl.Cell, 4), Roots: []int{-1, -1}})
	checkMarkerRefused(t, impl.Marker{Cells: make([]impl.Cell, 100000), Roots: []int{-1, -1}})
	for _, count := range []int{2, 10} {
		checkMarker(t, impl.Marker{Cells: slices.Repeat([]impl.Cell{{Links: []int{-1, -1}}}, count), Roots: []int{-1, count - 1}})
	}
	for at := range fullMarker(t).Cells {
		for _, count := range []int{0, 1, 3, 4, 7, 1000} {
			m := fullMarker(t)
			m.Cells[at].Links = slices.Repeat([]int{-1}, count)
			checkMarkerRefused(t, m)
		}
		for k := range 2 {
			for _, to := range append(farNumbers(), -3, -2, 6, 7, 8, 10, 11) {
				m := fullMarker(t)
				m.Cells[at].Links[k] = to
				checkMarkerRefused(t, m)
			}
		}
		for _, color := range append(farNumbers(), -2, -1, 3, 4, 10) {
			m := fullMarker(t)
			m.Cells[at].Color = color
			checkMarkerRefused(t, m)
		}
		m := fullMarker(t)
		m.Cells[at].Free = true
		if at != 6 {
			checkMarkerRefused(t, m)
		}
		m = fullMarker(t)
		m.Marking = false
		checkMarkerRefused(t, m)
		// Not Marking, with all White but one.
		for color := range 3 {
			for other := range m.Cells {
				m.Cells[other].Color = 0
			}
			if m.Cells[at].Color = color; color == 0 {
				checkMarker(t, m)
			} else {
				checkMarkerRefused(t, m)
			}
		}
	}
}

func TestMarkersRefuseWrongRoots(t *testing.T) {
	for root := range 2 {
		for _, to := range append(farNumbers(), -3, -2, 2, 4, 5, 6, 7, 8, 10) {
			m := fullMarker(t)
			m.Roots[root] = to
			checkMarkerRefused(t, m)
		}
		for _, to := range []int{-1, 0, 1, 3} {
			m := fullMarker(t)
			m.Roots[root] = to
			checkMarker(t, m)
		}
	}
	for _, count := range []int{0, 1, 3, 4, 10, 1000} {
		for _, to := range []int{-1, 0} {
			m := fullMarker(t)
			m.Roots = slices.Repeat([]int{to}, count)
			checkMarkerRefused(t, m)
			checkMarkerRefused(t, impl.Marker{Cells: firstMarker(3).Cells, Roots: m.Roots})
		}
	}
}

// Good markers of which something is another: mostly it is near by.
func TestGoodMarkerOfChangedMarkers(t *testing.T) {
	d := &lots{state: 2015}
	is := [2]int{}
	for range 20000 {
		m := d.someMarker()
		c := &m.Cells[d.below(len(m.Cells))]
		switch d.below(7) {
		case 0:
			c.Free = !c.Free
		case 1, 2:
			c.Color += d.below(5) - 2
		case 3, 4:
			c.Links[d.below(2)] = d.below(len(m.Cells)+3) - 2
		case 5:
			m.Roots[d.below(2)] = d.below(len(m.Cells)+3) - 2
		case 6:
			m.Marking = !m.Marking
		}
		want := goodMarkerApart(m)
		is[oneWhere(want)]++
		if want {
			checkMarker(t, m)
		} else {
			checkMarkerRefused(t, m)
		}
		if t.Failed() {
			return
		}
	}
	if min(is[0], is[1]) < 4000 {
		t.Error(is)
	}
}

// Kinds that are none, and fields that a step has no use for.
func TestMarkersRefuseWrongSteps(t *testing.T) {
	markers := []impl.Marker{firstMarker(2), firstMarker(10), fullMarker(t), markerAs(t, "F F | - -"), markerAs(t, "W1,- W0,1 F | 0 1"), markerAs(t, "G1,- G0,1 F | 0 1 | marking"), markerAs(t, "B-,- B-,- W-,- F | 0 1 | marking")}
	for _, m := range markers {
		for _, s := range markMenu(2) {
			for _, kind := range append(farNumbers(), -2, -1, 0, 6, 7) {
				wrong := s
				wrong.Kind = kind
				checkMarkRefused(t, m, wrong)
			}
		}
		for _, n := range append(farNumbers(), -2, -1, 1, 2, 3, 10) {
			for _, kind := range []int{impl.MarkBegin, impl.MarkSweep} {
				checkMark(t, m, impl.MarkStep{Kind: kind})
				checkMarkRefused(t, m, impl.MarkStep{Kind: kind, At: n})
				checkMarkRefused(t, m, impl.MarkStep{Kind: kind, K: n})
				checkMarkRefused(t, m, impl.MarkStep{Kind: kind, To: n})
				checkMarkRefused(t, m, impl.MarkStep{Kind: kind, At: n, K: n, To: n})
			}
			for at := -1; at < 4; at++ {
				checkMark(t, m, impl.MarkStep{Kind: impl.MarkScan, At: at})
				checkMarkRefused(t, m, impl.MarkStep{Kind: impl.MarkScan, At: at, K: n})
				checkMarkRefused(t, m, impl.MarkStep{Kind: impl.MarkScan, At: at, To: n})
				checkMarkRefused(t, m, impl.MarkStep{Kind: impl.MarkScan, At: at, K: n, To: n})
			}
			for k := range 2 {
				checkMark(t, m, impl.MarkStep{Kind: impl.MarkTake, K: k})
				checkMarkRefused(t, m, impl.MarkStep{Kind: impl.MarkTake, At: n, K: k})
				checkMarkRefused(t, m, impl.MarkStep{Kind: impl.MarkTake, K: k, To: n})
				checkMarkRefused(t, m, impl.MarkStep{Kind: impl.MarkTake, At: n, K: k, To: n})
			}
			for _, s := range []impl.MarkStep{{Kind: n, At: n, K: n, To: n}, {Kind: impl.MarkScan, At: n}, {Kind: impl.MarkTake, K: n}, {Kind: impl.MarkWrite, At: n, K: n, To: n}, {Kind: impl.MarkWrite, K: n}, {Kind: impl.MarkWrite, At: n}, {Kind: impl.MarkWrite, To: n}} {
				checkMark(t, m, s)
			}
		}
	}
	// Also in a row: they change nothing there.
	for _, text := range []string{"begin", "scan 0", "sweep", "take 1", "write 0 0 0"} {
		for _, n := range append(farNumbers(), -2, 2, 3) {
			s := markStepAs(t, text)
			for _, wrong := range []impl.MarkStep{{Kind: n + 100, At: s.At, K: s.K, To: s.To}, {Kind: s.Kind, At: s.At, K: n, To: s.To}, {Kind: s.Kind, At: s.At, K: s.K, To: n}, {Kind: s.Kind, At: n, K: s.K, To: s.To}} {
				l := markStepsAs(t, "take 1; begin; scan 0")
				for at := range len(l) + 1 {
					row := slices.Insert(slices.Clone(l), at, wrong)
					checkMarkPlayed(t, 2, row, markerAs(t, "B-,- G-,- | 0 1 | marking"), slices.Insert([]bool{true, true, true}, at, false))
				}
			}
		}
	}
}

// behindMarker has more behind the length of each list.
func behindMarker(m impl.Marker) impl.Marker {
	more := make([]impl.Cell, 0, len(m.Cells)+2)
	for _, c := range m.Cells {
		more = append(more, impl.Cell{Links: behindNumbers(c.Links), Color: c.Color, Free: c.Free})
	}
	more = append(more, impl.Cell{Links: []int{-1, -1}, Free: true}, impl.Cell{Color: -5})
	return impl.Marker{Cells: more[:len(m.Cells)], Roots: behindNumbers(m.Roots), Marking: m.Marking}
}

// wholeMarker is a copy, also of what is behind the lengths.
func wholeMarker(m impl.Marker) impl.Marker {
	whole := impl.Marker{Roots: slices.Clone(m.Roots[:cap(m.Roots)]), Marking: m.Marking}
	for _, c := range m.Cells[:cap(m.Cells)] {
		c.Links = slices.Clone(c.Links[:cap(c.Links)])
		whole.Cells = append(whole.Cells, c)
	}
	return whole
}

func behindMarkSteps(l []impl.MarkStep) []impl.MarkStep {
	return append(slices.Clone(l), impl.MarkStep{Kind: impl.MarkBegin}, impl.MarkStep{Kind: -5, At: -5})[:len(l)]
}

// Promise 19: nothing is written into what is handed in, nor behind it.
func TestMarkersLeaveWhatIsHandedIn(t *testing.T) {
	d := &lots{state: 19}
	for round := range 2000 {
		m := d.someMarker()
		steps := append(markMenu(2), d.markStep(m), d.markStep(m), d.markStep(m))
		switch round % 8 {
		case 0:
			m.Cells[d.below(len(m.Cells))].Links[1] = 1000
		case 1:
			m.Cells[d.below(len(m.Cells))].Color = 3
		}
		m = behindMarker(m)
		l := behindMarkSteps(d.markSteps(10, d.below(82)))
		kept, keptSteps := wholeMarker(m), slices.Clone(l[:cap(l)])
		impl.GoodMarker(m)
		impl.LiveIn(m)
		impl.GreyIn(m)
		impl.FinishMark(m)
		for _, s := range steps {
			impl.StepMarker(m, s)
		}
		impl.PlayMarker(10, l)
		impl.PlayMarker(d.below(12), l)
		if !sameMarker(wholeMarker(m), kept) || !slices.Equal(l[:cap(l)], keptSteps) {
			t.Fatal("something was written into", markerText(m), l)
		}
	}
}

// Cells, links, roots and steps behind a list's length are not read.
func TestMarkersReadNothingBehind(t *testing.T) {
	d := &lots{state: 37}
	for range 1000 {
		m := behindMarker(d.someMarker())
		checkMarker(t, m)
		for _, s := range append(markStepsAs(t, "begin; sweep; take 0; take 1"), d.markStep(m), d.markStep(m)) {
			checkMark(t, m, s)
		}
		checkMarkRow(t, 5, behindMarkSteps(d.markSteps(5, d.below(20))))
	}
	l := slices.Repeat(markStepsAs(t, "begin; scan 0; sweep; take 1"), 21)
	checkMarkRow(t, 10, l[:80])
	checkPlayMarkerRefused(t, 10, l[:81])
	m := impl.Marker{Cells: slices.Repeat([]impl.Cell{{Links: []int{-1, -1}, Free: true}}, 11), Roots: []int{-1, -1, -1}}
	checkMarkerRefused(t, m)
	m.Roots = m.Roots[:2]
	checkMarkerRefused(t, m)
	for count := range 12 {
		m.Cells = m.Cells[:count]
		if count < 2 || count > 10 {
			checkMarkerRefused(t, m)
			continue
		}
		checkMarker(t, m)
		checkMark(t, m, impl.MarkStep{Kind: impl.MarkTake})
	}
	// The only Free cell is behind the length.
	m = markerAs(t, "W-,- W-,- F | 0 1")
	m.Cells = m.Cells[:2]
	checkMarkRefused(t, m, impl.MarkStep{Kind: impl.MarkTake})
}

// checkMarkerApart spoils the lists of an answer one after the other.
func checkMarkerApart(t *testing.T, m impl.Marker) {
	t.Helper()
	lists := [][]int{m.Roots}
	for _, c := range m.Cells {
		lists = append(lists, c.Links)
	}
	checkListsApart(t, lists)
	clear(m.Cells[:cap(m.Cells)])
}

func TestMarkerAnswersAreNewMemory(t *testing.T) {
	d := &lots{state: 115}
	for range 800 {
		m := behindMarker(d.someMarker())
		l := behindMarkSteps(d.markSteps(6, d.below(30)))
		kept, keptSteps := wholeMarker(m), slices.Clone(l[:cap(l)])
		for _, s := range append(markStepsAs(t, "begin; sweep; take 0; take 1; write - 0 -"), d.markStep(m), d.markStep(m)) {
			for range 2 {
				after, _ := impl.StepMarker(m, s)
				checkMarkerApart(t, after)
			}
			checkMark(t, m, s)
		}
		for range 2 {
			finished, _, _ := impl.FinishMark(m)
			checkMarkerApart(t, finished)
			live, _ := impl.LiveIn(m)
			spoil(live)
			grey, _ := impl.GreyIn(m)
			spoil(grey)
			played, done, _ := impl.PlayMarker(6, l)
			checkMarkerApart(t, played)
			clear(done[:cap(done)])
		}
		if !sameMarker(wholeMarker(m), kept) || !slices.Equal(l[:cap(l)], keptSteps) {
			t.Fatal("an answer shares memory with what was handed in:", markerText(m), l)
		}
		checkMarker(t, m)
		checkMarkRow(t, 6, l)
	}
}

// One list in several places of what is handed in becomes several lists.
func TestMarkersOfSharedLists(t *testing.T) {
	for _, text := range []string{"W0,1 W0,1 | 0 1", "G0,1 G0,1 | 0 1 | marking", "B0,1 B0,1 | 0 1 | marking"} {
		m := markerAs(t, text)
		m.Cells[1].Links, m.Roots = m.Cells[0].Links, m.Cells[0].Links
		checkMarker(t, m)
		for _, s := range append(markMenu(2), markStepsAs(t, "write 0 0 -; write 1 1 0; write - 0 -; write - 1 0")...) {
			checkMark(t, m, s)
			after, _ := impl.StepMarker(m, s)
			checkMarkerApart(t, after)
		}
		finished, _, _ := impl.FinishMark(m)
		checkMarkerApart(t, finished)
		if !slices.Equal(m.Roots, []int{0, 1}) {
			t.Error(markerText(m))
		}
	}
}

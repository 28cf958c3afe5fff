package tests

import (
	"math"
	"slices"
	"strconv"
	"strings"
	"testing"

	"loop.example/g00350/impl"
)

// namesAs reads Names, - for -1.
func namesAs(t *testing.T, text string) []int {
	t.Helper()
	return numbersAs(t, strings.ReplaceAll(strings.ReplaceAll(text, ",", " "), "-", "-1"))
}

// heapAs reads objects as O or y (for Old and young), the Name, a colon and the
// two links, with a comma between. Roots that lack lead to nothing.
func heapAs(t *testing.T, objects string, roots string, noted string, next int) impl.Heap {
	t.Helper()
	h := impl.Heap{Roots: namesAs(t, roots), Noted: namesAs(t, noted), Next: next}
	for len(h.Roots) < impl.MaxRoots {
		h.Roots = append(h.Roots, -1)
	}
	for _, part := range strings.Fields(objects) {
		name, links, ok := strings.Cut(part[1:], ":")
		if !ok || part[0] != 'O' && part[0] != 'y' {
			t.Fatalf("no object: %q", part)
		}
		h.Objects = append(h.Objects, impl.Object{Name: numbersAs(t, name)[0], Old: part[0] == 'O', Links: namesAs(t, links)})
	}
	return h
}

func namesText(names []int, between string) string {
	var texts []string
	for _, name := range names {
		if name == -1 {
			texts = append(texts, "-")
		} else {
			texts = append(texts, strconv.Itoa(name))
		}
	}
	return strings.Join(texts, between)
}

func heapText(h impl.Heap) string {
	var texts []string
	for _, o := range h.Objects {
		texts = append(texts, "yO"[oneWhere(o.Old):][:1]+strconv.Itoa(o.Name)+":"+namesText(o.Links, ","))
	}
	return strings.Join(texts, " ") + " | " + namesText(h.Roots, " ") + " | " + namesText(h.Noted, " ") + " | " + strconv.Itoa(h.Next)
}

// heapStepAs reads a kind, and the numbers that it has a use for.
func heapStepAs(t *testing.T, text string) impl.HeapStep {
	t.Helper()
	kind, rest, _ := strings.Cut(text, " ")
	numbers := append(namesAs(t, rest), 0, 0, 0)
	switch kind {
	case "new":
		return impl.HeapStep{Kind: impl.HeapNew, At: numbers[0]}
	case "link":
		return impl.HeapStep{Kind: impl.HeapLink, At: numbers[0], K: numbers[1], To: numbers[2]}
	case "root":
		return impl.HeapStep{Kind: impl.HeapRoot, At: numbers[0], To: numbers[1]}
	case "minor":
		return impl.HeapStep{Kind: impl.HeapMinor}
	case "major":
		return impl.HeapStep{Kind: impl.HeapMajor}
	}
	t.Fatalf("no step: %q", text)
	return impl.HeapStep{}
}

// heapStepsAs reads steps with ; between.
func heapStepsAs(t *testing.T, text string) []impl.HeapStep {
	t.Helper()
	var l []impl.HeapStep
	for part := range strings.SplitSeq(text, ";") {
		if part = strings.TrimSpace(part); part != "" {
			l = append(l, heapStepAs(t, part))
		}
	}
	return l
}

func minorStep() impl.HeapStep { return impl.HeapStep{Kind: impl.HeapMinor} }

func majorStep() impl.HeapStep { return impl.HeapStep{Kind: impl.HeapMajor} }

func sameObject(a impl.Object, b impl.Object) bool {
	return a.Name == b.Name && a.Old == b.Old && slices.Equal(a.Links, b.Links)
}

func sameHeap(a impl.Heap, b impl.Heap) bool {
	return slices.EqualFunc(a.Objects, b.Objects, sameObject) && slices.Equal(a.Roots, b.Roots) && slices.Equal(a.Noted, b.Noted) && a.Next == b.Next
}

func cloneHeap(h impl.Heap) impl.Heap {
	h = impl.Heap{Objects: slices.Clone(h.Objects), Roots: slices.Clone(h.Roots), Noted: slices.Clone(h.Noted), Next: h.Next}
	for at, o := range h.Objects {
		h.Objects[at].Links = slices.Clone(o.Links)
	}
	return h
}

func isNoHeap(h impl.Heap) bool {
	return sameHeap(h, impl.Heap{})
}

// firstHeap is what NewHeap tells, written out.
func firstHeap() impl.Heap {
	return impl.Heap{Objects: []impl.Object{{Name: 0, Old: true, Links: []int{-1, -1}}}, Roots: []int{0, -1, -1, -1, -1, -1}, Next: 1}
}

// placeApart is the place of the object with a Name in a heap's list, -1 where
// there is none.
func placeApart(h impl.Heap, name int) int {
	return slices.IndexFunc(h.Objects, func(o impl.Object) bool { return o.Name == name })
}

func isAtApart(h impl.Heap, name int, old bool) bool {
	at := placeApart(h, name)
	return at >= 0 && h.Objects[at].Old == old
}

func isRisingApart(names []int) bool {
	return slices.IsSorted(names) && len(slices.Compact(slices.Clone(names))) == len(names)
}

// goodHeapApart asks sentence by sentence of the chapter.
func goodHeapApart(h impl.Heap) bool {
	if len(h.Objects) > 24 || len(h.Roots) != 6 || h.Next < 0 || h.Next > 1000 || !isRisingApart(h.Noted) {
		return false
	}
	var names []int
	ends := slices.Clone(h.Roots)
	for _, o := range h.Objects {
		if len(o.Links) != 2 || o.Name < 0 || o.Name >= h.Next {
			return false
		}
		names = append(names, o.Name)
		ends = append(ends, o.Links...)
	}
	for _, end := range ends {
		if end != -1 && !slices.Contains(names, end) {
			return false
		}
	}
	for _, name := range h.Noted {
		if !isAtApart(h, name, true) {
			return false
		}
	}
	return isRisingApart(names) && !slices.ContainsFunc(mustNoteApart(h), func(name int) bool { return !slices.Contains(h.Noted, name) })
}

// mustNoteApart has the Old ones that have a Link to a young one.
func mustNoteApart(h impl.Heap) []int {
	var names []int
	for _, o := range h.Objects {
		if o.Old && slices.ContainsFunc(o.Links, func(to int) bool { return isAtApart(h, to, false) }) {
			names = append(names, o.Name)
		}
	}
	return names
}

// spreadApart goes over all objects until no more is reached.
func spreadApart(h impl.Heap, from []int, mayBe func(o impl.Object) bool) []int {
	in := make([]bool, len(h.Objects))
	come := func(names []int) bool {
		more := false
		for _, name := range names {
			if at := placeApart(h, name); at >= 0 && !in[at] && mayBe(h.Objects[at]) {
				in[at], more = true, true
			}
		}
		return more
	}
	for more := come(from); more; {
		more = false
		for at, o := range h.Objects {
			if in[at] && come(o.Links) {
				more = true
			}
		}
	}
	var names []int
	for at, o := range h.Objects {
		if in[at] {
			names = append(names, o.Name)
		}
	}
	return names
}

func reachApart(h impl.Heap) []int {
	return spreadApart(h, h.Roots, func(impl.Object) bool { return true })
}

func keepsApart(h impl.Heap) []int {
	from := slices.Clone(h.Roots)
	for _, name := range h.Noted {
		from = append(from, h.Objects[placeApart(h, name)].Links...)
	}
	return spreadApart(h, from, func(o impl.Object) bool { return !o.Old })
}

func allNamesApart(h impl.Heap) []int {
	var names []int
	for _, o := range h.Objects {
		names = append(names, o.Name)
	}
	return names
}

// stepHeapApart is for a good heap.
func stepHeapApart(h impl.Heap, s impl.HeapStep) (impl.Heap, bool) {
	h = cloneHeap(h)
	reached, keeps := reachApart(h), keepsApart(h)
	isRoot, isToOk := s.At >= 0 && s.At < 6, s.To == -1 || slices.Contains(reached, s.To)
	did := false
	switch s.Kind {
	case impl.HeapNew:
		if did = isRoot && s.K == 0 && s.To == 0 && len(h.Objects) < 24 && h.Next < 1000; did {
			h.Objects = append(h.Objects, impl.Object{Name: h.Next, Links: []int{-1, -1}})
			h.Roots[s.At] = h.Next
			h.Next++
		}
	case impl.HeapLink:
		if did = slices.Contains(reached, s.At) && isToOk && (s.K == 0 || s.K == 1); did {
			h.Objects[placeApart(h, s.At)].Links[s.K] = s.To
			if isAtApart(h, s.At, true) && isAtApart(h, s.To, false) {
				h.Noted = append(h.Noted, s.At)
				slices.Sort(h.Noted)
				h.Noted = slices.Compact(h.Noted)
			}
		}
	case impl.HeapRoot:
		if did = isRoot && s.K == 0 && isToOk; did {
			h.Roots[s.At] = s.To
		}
	case impl.HeapMinor:
		did = s.At == 0 && s.K == 0 && s.To == 0
		h.Objects = slices.DeleteFunc(h.Objects, func(o impl.Object) bool { return !o.Old && !slices.Contains(keeps, o.Name) })
		for at := range h.Objects {
			h.Objects[at].Old = true
		}
		h.Noted = nil
	case impl.HeapMajor:
		did = s.At == 0 && s.K == 0 && s.To == 0
		h.Objects = slices.DeleteFunc(h.Objects, func(o impl.Object) bool { return !slices.Contains(reached, o.Name) })
		h.Noted = slices.DeleteFunc(h.Noted, func(name int) bool { return !slices.Contains(reached, name) })
	}
	if !did {
		return impl.Heap{}, false
	}
	return h, true
}

// playHeapApart goes on from a heap that is good.
func playHeapApart(h impl.Heap, l []impl.HeapStep) (impl.Heap, []bool) {
	var done []bool
	for _, s := range l {
		after, did := stepHeapApart(h, s)
		if did {
			h = after
		}
		done = append(done, did)
	}
	return h, done
}

// sameShapeApart pairs objects from the roots on: what is led to on one side is
// the partner of what is led to on the other.
func sameShapeApart(a impl.Heap, b impl.Heap) bool {
	partners, back := map[int]int{-1: -1}, map[int]int{-1: -1}
	var pair func(as []int, bs []int) bool
	pair = func(as []int, bs []int) bool {
		for k, x := range as {
			y := bs[k]
			was, isMet := partners[x]
			_, isTaken := back[y]
			if isMet && was != y || !isMet && isTaken {
				return false
			}
			partners[x], back[y] = y, x
			if !isMet && !pair(a.Objects[placeApart(a, x)].Links, b.Objects[placeApart(b, y)].Links) {
				return false
			}
		}
		return true
	}
	return pair(a.Roots, b.Roots)
}

// isLikeBy tells whether one numbering takes roots to roots and links to links.
func isLikeBy(a impl.Heap, b impl.Heap, as []int, bs []int) bool {
	to := func(ends []int) []int {
		var taken []int
		for _, end := range ends {
			if end != -1 {
				end = bs[slices.Index(as, end)]
			}
			taken = append(taken, end)
		}
		return taken
	}
	for k, name := range as {
		if !slices.Equal(to(a.Objects[placeApart(a, name)].Links), b.Objects[placeApart(b, bs[k])].Links) {
			return false
		}
	}
	return slices.Equal(to(a.Roots), b.Roots)
}

// isLikeByAny tries all numberings.
func isLikeByAny(a impl.Heap, b impl.Heap) bool {
	as, bs := reachApart(a), reachApart(b)
	if len(as) != len(bs) {
		return false
	}
	return slices.ContainsFunc(ordersUpTo(len(as)), func(order []int) bool {
		var ordered []int
		for _, at := range order {
			ordered = append(ordered, bs[at])
		}
		return isLikeBy(a, b, as, ordered)
	})
}

// heap draws a good heap, whose links lead to nothing the more often the less
// rarely is. Those are Noted that must be, and some more.
func (d *lots) heap(objects int, rarely int) impl.Heap {
	next := []int{objects, objects + d.below(4), objects + d.below(40), 999, 1000}[d.below(5)]
	names := slices.Sorted(slices.Values(d.order(next)[:objects]))
	end := func() int {
		if objects == 0 || d.below(rarely) == 0 {
			return -1
		}
		return names[d.below(objects)]
	}
	h := impl.Heap{Next: next}
	oldOf := 1 + d.below(4)
	for _, name := range names {
		h.Objects = append(h.Objects, impl.Object{Name: name, Old: d.below(oldOf) > 0, Links: []int{end(), end()}})
	}
	leading := d.below(impl.MaxRoots + 1)
	for root := range impl.MaxRoots {
		h.Roots = append(h.Roots, -1)
		if root < leading {
			h.Roots[root] = end()
		}
	}
	must, needless := mustNoteApart(h), d.below(3) == 0
	for _, o := range h.Objects {
		if slices.Contains(must, o.Name) || needless && o.Old && d.below(2) == 0 {
			h.Noted = append(h.Noted, o.Name)
		}
	}
	return h
}

func (d *lots) someHeap() impl.Heap {
	return d.heap([]int{d.below(5), d.below(12), d.below(impl.MaxObjects + 1), impl.MaxObjects}[d.below(4)], 1+d.below(5))
}

// oneOf draws a Name, or -1 where there is none.
func (d *lots) oneOf(names []int) int {
	if len(names) == 0 {
		return -1
	}
	return names[d.below(len(names))]
}

// heapStep draws a step that can mostly be done; one of those by which an Old
// one leads to a young one oftener than by chance.
func (d *lots) heapStep(h impl.Heap) impl.HeapStep {
	reached := reachApart(h)
	old, young := reached, append(slices.Clone(reached), -1)
	to := d.oneOf(young)
	switch d.below(14) {
	case 0, 1, 2, 3:
		return impl.HeapStep{Kind: impl.HeapNew, At: d.below(impl.MaxRoots)}
	case 4, 5, 6:
		old = slices.DeleteFunc(slices.Clone(reached), func(name int) bool { return !isAtApart(h, name, true) })
		young = slices.DeleteFunc(slices.Clone(reached), func(name int) bool { return !isAtApart(h, name, false) })
		fallthrough
	case 7, 8, 9:
		return impl.HeapStep{Kind: impl.HeapLink, At: d.oneOf(old), K: d.below(2), To: d.oneOf(young)}
	case 10, 11, 12:
		return impl.HeapStep{Kind: impl.HeapRoot, At: d.below(impl.MaxRoots), To: to}
	}
	return []impl.HeapStep{minorStep(), majorStep(), {Kind: d.below(7), At: d.below(8) - 1, K: d.below(4) - 1, To: d.below(8) - 2}}[d.below(3)]
}

// heapSteps draws a row of steps from NewHeap on.
func (d *lots) heapSteps(count int) []impl.HeapStep {
	var l []impl.HeapStep
	h := firstHeap()
	for range count {
		s := d.heapStep(h)
		if after, did := stepHeapApart(h, s); did {
			h = after
		}
		l = append(l, s)
	}
	return l
}

// renamed is the heap with other Names, in another order.
func (d *lots) renamed(h impl.Heap) impl.Heap {
	next := len(h.Objects) + d.below(9)
	names := d.order(next)
	to := func(ends []int) []int {
		var taken []int
		for _, end := range ends {
			if end != -1 {
				end = names[placeApart(h, end)]
			}
			taken = append(taken, end)
		}
		return taken
	}
	other := impl.Heap{Roots: to(h.Roots), Noted: slices.Sorted(slices.Values(to(h.Noted))), Next: next}
	for at, o := range h.Objects {
		other.Objects = append(other.Objects, impl.Object{Name: names[at], Old: o.Old, Links: to(o.Links)})
	}
	slices.SortFunc(other.Objects, func(a impl.Object, b impl.Object) int { return a.Name - b.Name })
	return other
}

// allNoted is the heap with all Old ones Noted.
func allNoted(h impl.Heap) impl.Heap {
	h.Noted = nil
	for _, o := range h.Objects {
		if o.Old {
			h.Noted = append(h.Noted, o.Name)
		}
	}
	return h
}

func checkHeapNames(t *testing.T, what string, h impl.Heap, tell func(h impl.Heap) ([]int, bool), want []int) {
	t.Helper()
	if names, ok := tell(h); !slices.Equal(names, want) || !ok {
		t.Errorf("%s(%s) = %v %v, not %v", what, heapText(h), names, ok, want)
	}
}

func checkReach(t *testing.T, h impl.Heap, want []int) {
	t.Helper()
	checkHeapNames(t, "ReachOf", h, impl.ReachOf, want)
}

func checkKeeps(t *testing.T, h impl.Heap, want []int) {
	t.Helper()
	checkHeapNames(t, "MinorKeeps", h, impl.MinorKeeps, want)
}

func checkShape(t *testing.T, a impl.Heap, b impl.Heap, want bool) {
	t.Helper()
	if same, ok := impl.SameShape(a, b); same != want || !ok {
		t.Errorf("SameShape(%s, %s) = %v %v", heapText(a), heapText(b), same, ok)
	}
	if same, ok := impl.SameShape(b, a); same != want || !ok {
		t.Errorf("SameShape(%s, %s) = %v %v", heapText(b), heapText(a), same, ok)
	}
}

// checkHeap asks for all that a good heap tells of itself.
func checkHeap(t *testing.T, h impl.Heap) {
	t.Helper()
	if !impl.GoodHeap(h) || !goodHeapApart(h) {
		t.Errorf("GoodHeap(%s) = %v, apart %v", heapText(h), impl.GoodHeap(h), goodHeapApart(h))
	}
	checkReach(t, h, reachApart(h))
	checkKeeps(t, h, keepsApart(h))
	checkHeapNames(t, "NamesOf", h, impl.NamesOf, allNamesApart(h))
	checkShape(t, h, h, true)
}

func checkStepRefused(t *testing.T, h impl.Heap, s impl.HeapStep) {
	t.Helper()
	if after, ok := impl.StepHeap(h, s); !isNoHeap(after) || ok {
		t.Errorf("StepHeap(%s, %v) = %s %v", heapText(h), s, heapText(after), ok)
	}
}

func checkStepTo(t *testing.T, h impl.Heap, s impl.HeapStep, want impl.Heap) {
	t.Helper()
	if after, ok := impl.StepHeap(h, s); !sameHeap(after, want) || !ok || !impl.GoodHeap(after) {
		t.Errorf("StepHeap(%s, %v) = %s %v, not %s", heapText(h), s, heapText(after), ok, heapText(want))
	}
}

// checkStep asks for promise 14, too: what is reached ahead of a collection is
// there behind it, and is reached, with the same shape. It has the heap behind
// the step, or the one ahead of it where that is refused.
func checkStep(t *testing.T, h impl.Heap, s impl.HeapStep) (impl.Heap, bool) {
	t.Helper()
	want, did := stepHeapApart(h, s)
	if !did {
		checkStepRefused(t, h, s)
		return h, false
	}
	checkStepTo(t, h, s, want)
	if s.Kind == impl.HeapMinor || s.Kind == impl.HeapMajor {
		checkNothingLost(t, h, s)
	}
	return want, true
}

func checkNothingLost(t *testing.T, h impl.Heap, s impl.HeapStep) {
	t.Helper()
	after, _ := impl.StepHeap(h, s)
	before, _ := impl.ReachOf(h)
	names, _ := impl.NamesOf(after)
	reached, ok := impl.ReachOf(after)
	same, isSame := impl.SameShape(h, after)
	if !ok || !slices.Equal(reached, before) || !same || !isSame || !sameShapeApart(h, after) {
		t.Errorf("StepHeap(%s, %v) = %s: %v were reached, %v are", heapText(h), s, heapText(after), before, reached)
	}
	for _, name := range before {
		if !slices.Contains(names, name) {
			t.Errorf("StepHeap(%s, %v) = %s: %d is lost", heapText(h), s, heapText(after), name)
		}
	}
}

func checkHeapPlayed(t *testing.T, l []impl.HeapStep, want impl.Heap, wantDone []bool) {
	t.Helper()
	h, done, ok := impl.PlayHeap(l)
	if !sameHeap(h, want) || !slices.Equal(done, wantDone) || !ok || !impl.GoodHeap(h) {
		t.Errorf("PlayHeap(%v) = %s %v %v, not %s %v", l, heapText(h), done, ok, heapText(want), wantDone)
	}
}

func checkPlayHeapRefused(t *testing.T, l []impl.HeapStep) {
	t.Helper()
	if h, done, ok := impl.PlayHeap(l); !isNoHeap(h) || len(done) != 0 || ok {
		t.Errorf("PlayHeap(%v) = %s %v %v", l, heapText(h), done, ok)
	}
}

// plainHeapSteps has steps of each kind, which could be done in some heap.
func plainHeapSteps() []impl.HeapStep {
	l := []impl.HeapStep{minorStep(), majorStep()}
	for _, at := range []int{0, 1, 2, 5} {
		l = append(l, impl.HeapStep{Kind: impl.HeapNew, At: at})
		for _, to := range []int{-1, 0, 1, 2} {
			l = append(l, impl.HeapStep{Kind: impl.HeapRoot, At: at, To: to}, impl.HeapStep{Kind: impl.HeapLink, At: at, K: at % 2, To: to})
		}
	}
	return l
}

// checkHeapRefused asks all functions of the chapter.
func checkHeapRefused(t *testing.T, h impl.Heap) {
	t.Helper()
	if impl.GoodHeap(h) {
		t.Errorf("GoodHeap(%s)", heapText(h))
	}
	for what, tell := range map[string]func(impl.Heap) ([]int, bool){"ReachOf": impl.ReachOf, "MinorKeeps": impl.MinorKeeps, "NamesOf": impl.NamesOf} {
		if names, ok := tell(h); len(names) != 0 || ok {
			t.Errorf("%s(%s) = %v %v", what, heapText(h), names, ok)
		}
	}
	for _, s := range plainHeapSteps() {
		checkStepRefused(t, h, s)
	}
	checkShapeRefused(t, h, h)
	checkShapeRefused(t, h, firstHeap())
	checkShapeRefused(t, firstHeap(), h)
}

func checkShapeRefused(t *testing.T, a impl.Heap, b impl.Heap) {
	t.Helper()
	if same, ok := impl.SameShape(a, b); same || ok {
		t.Errorf("SameShape(%s, %s) = %v %v", heapText(a), heapText(b), same, ok)
	}
}

func TestYoungBounds(t *testing.T) {
	if impl.MaxObjects != 24 || impl.MaxRoots != 6 || impl.MaxHeapSteps != 60 {
		t.Error(impl.MaxObjects, impl.MaxRoots, impl.MaxHeapSteps)
	}
	kinds := []int{impl.HeapNew, impl.HeapLink, impl.HeapRoot, impl.HeapMinor, impl.HeapMajor}
	if !slices.Equal(kinds, []int{1, 2, 3, 4, 5}) {
		t.Error(kinds)
	}
}

func TestNewHeap(t *testing.T) {
	for range 3 {
		h := impl.NewHeap()
		if !sameHeap(h, firstHeap()) {
			t.Error(heapText(h))
		}
		checkHeap(t, h)
		checkReach(t, h, []int{0})
		checkKeeps(t, h, nil)
		// What is written into an answer is not in the next one.
		checkHeapApart(t, h)
	}
}

func TestGoodHeapKnown(t *testing.T) {
	good := []struct {
		objects, roots, noted string
		next                  int
	}{
		// No objects at all; Next where it may be.
		{"", "", "", 0}, {"", "", "", 1}, {"", "", "", 1000}, {"O0:-,-", "", "", 1}, {"O0:-,-", "", "", 1000}, {"y999:-,-", "999", "", 1000}, {"y0:-,- y999:-,-", "", "", 1000},
		// Names with gaps between.
		{"O3:-,- y5:-,- O7:-,-", "5", "", 8}, {"O3:-,- y5:-,- O7:-,-", "5", "", 9},
		// Links to each other, to itself, to nothing; each root.
		{"O0:0,0", "0 0 0 0 0 0", "", 1}, {"O0:1,- O1:-,0", "- 0 - 1", "", 2}, {"y0:1,0 y1:1,0", "- - - - - 1", "", 2}, {"y0:1,- O1:-,-", "", "", 2},
		// Old ones that lead to young ones, by each link: they are Noted.
		{"O0:1,- y1:-,-", "0", "0", 2}, {"O0:-,1 y1:-,-", "0", "0", 2}, {"y0:-,- O1:0,0", "", "1", 2}, {"O0:2,- O1:2,0 y2:0,1", "", "0 1", 3},
		// Noted ones that lead to none.
		{"O0:-,-", "0", "0", 1}, {"O0:1,- O1:0,1", "0", "0 1", 2}, {"O0:1,- O1:2,- y2:-,-", "", "0 1", 3}, {"O0:1,- O1:2,- y2:-,-", "", "1", 3},
	}
	for _, k := range good {
		checkHeap(t, heapAs(t, k.objects, k.roots, k.noted, k.next))
	}
	wrong := []struct {
		objects, roots, noted string
		next                  int
	}{
		{"", "", "", -1}, {"", "", "", 1001}, {"O0:-,-", "", "", 0}, {"O1:-,-", "", "", 1}, {"O0:-,- O1:-,-", "", "", 1}, {"y999:-,-", "", "", 999}, {"y1000:-,-", "", "", 1000}, {"O2:-,-", "", "", 1},
		{"O1:-,- O0:-,-", "", "", 2}, {"O0:-,- O0:-,-", "", "", 2}, {"O0:-,- y0:-,-", "", "", 1}, {"O0:-,- O2:-,- O1:-,-", "", "", 3}, {"O0:-,- O1:-,- O1:-,-", "", "", 3},
		{"O0:1,-", "", "", 2}, {"O0:-,1", "", "", 2}, {"O0:-,- O2:1,-", "", "", 3}, {"O0:-,-2", "", "", 1}, {"O0:2,- O1:-,-", "", "", 2},
		{"O0:", "", "", 1}, {"O0:-", "", "", 1}, {"O0:-,-,-", "", "", 1}, {"O0:-,- y1:0", "", "", 2}, {"O0:-,- y1:0,0,0", "", "", 2},
		{"", "0", "", 1}, {"O0:-,-", "1", "", 2}, {"O0:-,-", "0 0 0 0 0 1", "", 2}, {"O0:-,-", "0 -2", "", 1}, {"O0:-,-", "0 0 0 0 0 0 0", "", 1}, {"O0:-,-", "- - - - - - -", "", 1},
		// Old ones that lead to young ones, and are not Noted.
		{"O0:1,- y1:-,-", "0", "", 2}, {"O0:-,1 y1:-,-", "0", "", 2}, {"O0:1,1 y1:-,-", "", "", 2}, {"O0:2,- O1:2,0 y2:0,1", "", "0", 3}, {"O0:2,- O1:2,0 y2:0,1", "", "1", 3}, {"y0:-,- O1:-,0", "1", "", 2},
		// Noted ones that are not Old, not there, or do not rise.
		{"y0:-,-", "0", "0", 1}, {"O0:1,- y1:-,-", "0", "0 1", 2}, {"O0:-,-", "", "1", 2}, {"O0:-,-", "", "-", 1}, {"O0:-,-", "", "0 0", 1}, {"O0:-,- O1:-,-", "", "1 0", 2}, {"", "", "0", 1},
	}
	for _, k := range wrong {
		checkHeapRefused(t, heapAs(t, k.objects, k.roots, k.noted, k.next))
	}
}

// eachEnds calls for all lists of a length with numbers from -1 up to below an
// end.
func eachEnds(end int, length int, call func(ends []int)) {
	startsBelow(end+1, length, func(starts []int) {
		ends := slices.Clone(starts)
		for at := range ends {
			ends[at]--
		}
		call(ends)
	})
}

// eachObjects calls for all lists of objects with given Names whose links lead
// below an end.
func eachObjects(names []int, end int, call func(objects []impl.Object)) {
	for old := range 1 << len(names) {
		eachEnds(end, 2*len(names), func(ends []int) {
			var objects []impl.Object
			for at, name := range names {
				objects = append(objects, impl.Object{Name: name, Old: old>>at&1 == 1, Links: ends[2*at : 2*at+2]})
			}
			call(objects)
		})
	}
}

// Heaps of up to two objects, with links, roots and Noted of all kinds, most of
// them wrong.
func TestGoodHeapOfAllSmallHeaps(t *testing.T) {
	is := [2]int{}
	noted := [][]int{nil, {0}, {1}, {2}, {0, 1}, {0, 2}, {1, 2}, {0, 1, 2}, {1, 0}, {1, 1}, {-1}}
	for _, names := range [][]int{nil, {0}, {1}, {2}, {-1}, {0, 1}, {0, 2}, {1, 2}, {1, 0}, {1, 1}} {
		eachObjects(names, 3, func(objects []impl.Object) {
			for _, noted := range noted {
				for _, roots := range [][]int{{-1, -1, -1, -1, -1, -1}, {0, -1, -1, 1, -1, -1}, {-1, -1, 2, -1, -1, 0}, {-1, -1, -1, -1, -1, 1}} {
					h := impl.Heap{Objects: objects, Roots: roots, Noted: noted, Next: 2 + oneWhere(slices.Contains(names, 2))}
					want := goodHeapApart(h)
					if impl.GoodHeap(h) != want {
						t.Fatalf("GoodHeap(%s) is not %v", heapText(h), want)
					}
					is[oneWhere(want)]++
				}
			}
		})
	}
	if is[0] < 50000 || is[1] < 1000 {
		t.Error(is)
	}
}

// All heaps of up to three objects, with a root to none or to the first of them,
// and with what must be Noted or all Old ones Noted: what they tell, and both
// collections.
func TestAllSmallHeaps(t *testing.T) {
	count := 0
	for objects := range 4 {
		names := rowOrder(objects)
		eachObjects(names, objects, func(list []impl.Object) {
			for root := -1; root < min(objects, 1); root++ {
				h := impl.Heap{Objects: list, Roots: []int{-1, root, -1, -1, -1, -1}, Next: objects}
				h.Noted = mustNoteApart(h)
				for _, h := range []impl.Heap{h, allNoted(h)} {
					checkReach(t, h, reachApart(h))
					checkKeeps(t, h, keepsApart(h))
					checkStep(t, h, minorStep())
					checkStep(t, h, majorStep())
					count++
				}
			}
			if t.Failed() {
				t.FailNow()
			}
		})
	}
	if count != 2*(1+2*2*4+2*4*81+2*8*4096) {
		t.Error(count)
	}
}

func TestManyHeaps(t *testing.T) {
	d := &lots{state: 1983}
	for range 3000 {
		checkHeap(t, d.someHeap())
	}
}

func TestHeapNew(t *testing.T) {
	for root := range impl.MaxRoots {
		s := impl.HeapStep{Kind: impl.HeapNew, At: root}
		roots := []int{0, -1, -1, -1, -1, -1}
		roots[root] = 1
		want := impl.Heap{Objects: []impl.Object{{Name: 0, Old: true, Links: []int{-1, -1}}, {Name: 1, Links: []int{-1, -1}}}, Roots: roots, Next: 2}
		checkStepTo(t, firstHeap(), s, want)
		checkHeapPlayed(t, []impl.HeapStep{s}, want, []bool{true})
		// Also where nothing is there, and where all roots lead to something.
		checkStepTo(t, heapAs(t, "", "", "", 0), s, heapAs(t, "y0:-,-", strings.Repeat("- ", root)+"0", "", 1))
		checkStepTo(t, heapAs(t, "", "", "", 7), s, heapAs(t, "y7:-,-", strings.Repeat("- ", root)+"7", "", 8))
		full := heapAs(t, "y1:1,2 O2:1,2", "1 2 1 2 1 2", "2", 5)
		after := heapAs(t, "y1:1,2 O2:1,2 y5:-,-", "1 2 1 2 1 2", "2", 6)
		after.Roots[root] = 5
		checkStepTo(t, full, s, after)
		// Where Next is at its bounds.
		last := heapAs(t, "O0:-,-", "0", "", 999)
		after = heapAs(t, "O0:-,- y999:-,-", "0", "", 1000)
		after.Roots[root] = 999
		checkStepTo(t, last, s, after)
		checkStepRefused(t, after, s)
		for _, objects := range []string{"", "O0:-,-", "y998:-,-", "y999:-,-"} {
			checkStepRefused(t, heapAs(t, objects, "", "", 1000), s)
		}
	}
	for _, root := range append(farNumbers(), -2, -1, 6, 7) {
		for _, h := range []impl.Heap{firstHeap(), heapAs(t, "", "", "", 0), heapAs(t, "y1:1,2 O2:1,2", "1 2 1 2 1 2", "2", 5)} {
			checkStepRefused(t, h, impl.HeapStep{Kind: impl.HeapNew, At: root})
		}
	}
}

// crowd has so many objects, of which none is reached but the last one; every
// other one is Old.
func crowd(objects int, next int) impl.Heap {
	h := impl.Heap{Roots: []int{-1, -1, -1, -1, objects - 1, -1}, Next: next}
	for name := range objects {
		h.Objects = append(h.Objects, impl.Object{Name: name, Old: name%2 == 0, Links: []int{-1, -1}})
	}
	return h
}

func TestHeapNewWithoutRoom(t *testing.T) {
	for root := range impl.MaxRoots {
		s := impl.HeapStep{Kind: impl.HeapNew, At: root}
		for _, next := range []int{24, 25, 999} {
			h := crowd(23, next)
			after := crowd(23, next+1)
			after.Objects = append(after.Objects, impl.Object{Name: next, Links: []int{-1, -1}})
			after.Roots[root] = next
			checkStepTo(t, h, s, after)
			checkStepRefused(t, after, s)
			checkHeap(t, after)
			checkStepRefused(t, crowd(24, next), s)
			// There is room when what is not reached is gone.
			collected, _ := checkStep(t, crowd(24, next), majorStep())
			checkStep(t, collected, s)
			collected, _ = checkStep(t, crowd(24, next), minorStep())
			checkStep(t, collected, s)
		}
	}
	// Whatever is refused changes nothing, for the steps behind it.
	l := slices.Repeat(heapStepsAs(t, "new 1"), 24)
	h, done, ok := impl.PlayHeap(l)
	if len(h.Objects) != 24 || h.Next != 24 || !ok || !done[22] || done[23] {
		t.Error(heapText(h), done, ok)
	}
	h, done, ok = impl.PlayHeap(append(l, heapStepsAs(t, "minor; new 2; new 3")...))
	if !sameHeap(h, heapAs(t, "O0:-,- O23:-,- y24:-,- y25:-,-", "0 23 24 25", "", 26)) || !ok || slices.Contains(done[24:], false) {
		t.Error(heapText(h), done, ok)
	}
}

type knownStep struct {
	objects, roots, noted string
	step                  string
	toObjects, toNoted    string
}

// checkKnownSteps is for steps that leave the roots as they are.
func checkKnownSteps(t *testing.T, known []knownStep) {
	t.Helper()
	for _, k := range known {
		h, s := heapAs(t, k.objects, k.roots, k.noted, 50), heapStepAs(t, k.step)
		checkHeap(t, h)
		checkStepTo(t, h, s, heapAs(t, k.toObjects, k.roots, k.toNoted, 50))
		checkStep(t, h, s)
	}
}

func TestHeapLinkKnown(t *testing.T) {
	checkKnownSteps(t, []knownStep{
		// An Old one to a young one, by each link: it is noted.
		{"O0:-,- y1:-,-", "0 1", "", "link 0 0 1", "O0:1,- y1:-,-", "0"},
		{"O0:-,- y1:-,-", "0 1", "", "link 0 1 1", "O0:-,1 y1:-,-", "0"},
		{"y0:-,- O1:-,-", "0 1", "", "link 1 0 0", "y0:-,- O1:0,-", "1"},
		// Once.
		{"O0:1,- y1:-,-", "0", "0", "link 0 0 1", "O0:1,- y1:-,-", "0"},
		{"O0:1,- y1:-,-", "0", "0", "link 0 1 1", "O0:1,1 y1:-,-", "0"},
		{"O0:1,- y1:2,- y2:-,-", "0", "0", "link 0 1 2", "O0:1,2 y1:2,- y2:-,-", "0"},
		{"O0:-,- y1:-,-", "0 1", "0", "link 0 0 1", "O0:1,- y1:-,-", "0"},
		// Ahead of others, behind them, and between.
		{"O0:-,- O1:-,- O2:9,- O3:-,- y9:-,-", "0 2 9", "2", "link 0 0 9", "O0:9,- O1:-,- O2:9,- O3:-,- y9:-,-", "0 2"},
		{"O0:-,- O1:-,- O2:9,- O3:-,- y9:-,-", "3 2 9", "2", "link 3 1 9", "O0:-,- O1:-,- O2:9,- O3:-,9 y9:-,-", "2 3"},
		{"O0:9,- O1:-,- O2:9,- O3:-,- y9:-,-", "0 1 2", "0 2", "link 1 0 9", "O0:9,- O1:9,- O2:9,- O3:-,- y9:-,-", "0 1 2"},
		{"O0:-,- O1:-,- O2:-,- O30:-,- y40:-,-", "40 2", "0 1 30", "link 2 0 40", "O0:-,- O1:-,- O2:40,- O30:-,- y40:-,-", "0 1 2 30"},
		// An Old one to an Old one, to itself, and to nothing.
		{"O0:-,- O1:-,-", "0 1", "", "link 0 0 1", "O0:1,- O1:-,-", ""},
		{"O0:-,- O1:-,-", "0 1", "1", "link 0 1 1", "O0:-,1 O1:-,-", "1"},
		{"O0:-,-", "0", "", "link 0 1 0", "O0:-,0", ""},
		{"O0:1,1 O1:-,-", "0", "", "link 0 0 -", "O0:-,1 O1:-,-", ""},
		{"O0:-,-", "0", "", "link 0 0 -", "O0:-,-", ""},
		// A young one to a young one, an Old one, itself and nothing.
		{"y0:-,- y1:-,-", "0 1", "", "link 0 0 1", "y0:1,- y1:-,-", ""},
		{"O0:-,- y1:-,-", "0 1", "", "link 1 0 0", "O0:-,- y1:0,-", ""},
		{"O0:-,- y1:-,-", "0 1", "", "link 1 1 0", "O0:-,- y1:-,0", ""},
		{"O0:1,- y1:-,-", "0 1", "0", "link 1 1 0", "O0:1,- y1:-,0", "0"},
		{"O0:-,- y1:-,-", "0 1", "", "link 1 0 1", "O0:-,- y1:1,-", ""},
		{"y0:-,0", "0", "", "link 0 1 -", "y0:-,-", ""},
		// Over a Link to a young one: At stays noted, whatever it leads to then.
		{"O0:1,- y1:-,-", "0", "0", "link 0 0 -", "O0:-,- y1:-,-", "0"},
		{"O0:1,- y1:-,-", "0", "0", "link 0 0 0", "O0:0,- y1:-,-", "0"},
		{"O0:-,1 y1:-,- O2:-,-", "0 2", "0", "link 0 1 2", "O0:-,2 y1:-,- O2:-,-", "0"},
		{"O0:1,- y1:-,- y2:-,-", "0 2", "0", "link 0 0 2", "O0:2,- y1:-,- y2:-,-", "0"},
		// What is reached by way of others.
		{"O0:-,1 y1:2,- y2:-,- y3:-,-", "- - - 0 - 3", "0", "link 2 1 3", "O0:-,1 y1:2,- y2:-,3 y3:-,-", "0"},
		{"O0:-,1 y1:2,- O2:-,- y3:-,-", "- - - 0 - 3", "0", "link 2 1 1", "O0:-,1 y1:2,- O2:-,1 y3:-,-", "0 2"},
	})
}

func TestHeapLinkRefused(t *testing.T) {
	// Of these 2 and 3 are there, but not reached, though 2 leads to what is.
	h := heapAs(t, "O0:1,- y1:-,- O2:0,3 y3:1,-", "0", "0 2", 9)
	checkHeap(t, h)
	for k := range 2 {
		for _, at := range []int{2, 3} {
			for to := -1; to < 4; to++ {
				checkStepRefused(t, h, impl.HeapStep{Kind: impl.HeapLink, At: at, K: k, To: to})
				checkStepRefused(t, h, impl.HeapStep{Kind: impl.HeapLink, At: to, K: k, To: at})
			}
		}
		for _, name := range append(farNumbers(), -3, -2, 4, 8, 9, 24) {
			for other := -1; other < 4; other++ {
				checkStepRefused(t, h, impl.HeapStep{Kind: impl.HeapLink, At: name, K: k, To: other})
				checkStepRefused(t, h, impl.HeapStep{Kind: impl.HeapLink, At: other, K: k, To: name})
			}
		}
		// There is no link of nothing.
		for to := -1; to < 4; to++ {
			checkStepRefused(t, h, impl.HeapStep{Kind: impl.HeapLink, At: -1, K: k, To: to})
		}
	}
	for _, k := range append(farNumbers(), -2, -1, 2, 3) {
		for at := range 2 {
			for to := -1; to < 2; to++ {
				checkStep(t, h, impl.HeapStep{Kind: impl.HeapLink, At: at, K: 1, To: to})
				checkStepRefused(t, h, impl.HeapStep{Kind: impl.HeapLink, At: at, K: k, To: to})
			}
		}
	}
	// Nothing is reached, or there.
	for _, h := range []impl.Heap{heapAs(t, "O0:0,0", "", "", 1), heapAs(t, "", "", "", 1)} {
		for to := -1; to < 2; to++ {
			checkStepRefused(t, h, impl.HeapStep{Kind: impl.HeapLink, To: to})
		}
	}
}

func TestHeapRootKnown(t *testing.T) {
	// Of these 3 and 4 are there, but not reached.
	h := heapAs(t, "O0:1,- y1:2,- O2:-,0 O3:4,2 y4:3,-", "- 1", "0 3", 9)
	checkHeap(t, h)
	for root := range impl.MaxRoots {
		for _, to := range []int{-1, 0, 1, 2} {
			want := cloneHeap(h)
			want.Roots[root] = to
			s := impl.HeapStep{Kind: impl.HeapRoot, At: root, To: to}
			checkStepTo(t, h, s, want)
			checkStep(t, h, s)
		}
		for _, to := range append(farNumbers(), -3, -2, 3, 4, 5, 8, 9, 24) {
			checkStepRefused(t, h, impl.HeapStep{Kind: impl.HeapRoot, At: root, To: to})
		}
		// To nothing, where nothing is reached or there.
		for _, h := range []impl.Heap{heapAs(t, "y0:0,0", "", "", 1), heapAs(t, "", "", "", 0)} {
			checkStepTo(t, h, impl.HeapStep{Kind: impl.HeapRoot, At: root, To: -1}, h)
			checkStepRefused(t, h, impl.HeapStep{Kind: impl.HeapRoot, At: root, To: 0})
		}
	}
	for _, root := range append(farNumbers(), -2, -1, 6, 7) {
		for _, to := range []int{-1, 0, 1, 2, 3} {
			checkStepRefused(t, h, impl.HeapStep{Kind: impl.HeapRoot, At: root, To: to})
		}
	}
}

func TestHeapMinorKnown(t *testing.T) {
	checkKnownSteps(t, []knownStep{
		// A young one that is reached from a root, by nothing, and both.
		{"y0:-,-", "0", "", "minor", "O0:-,-", ""}, {"y0:-,-", "- - - - - 0", "", "minor", "O0:-,-", ""}, {"y0:-,-", "", "", "minor", "", ""},
		{"y0:-,- y1:-,- y2:-,-", "1", "", "minor", "O1:-,-", ""},
		// From a Link of one that is noted, by each of them.
		{"O0:1,- y1:-,- y2:-,-", "0", "0", "minor", "O0:1,- O1:-,-", ""}, {"O0:-,1 y1:-,- y2:-,-", "0", "0", "minor", "O0:-,1 O1:-,-", ""},
		{"O0:1,3 y1:-,- y2:-,- y3:-,-", "0", "0", "minor", "O0:1,3 O1:-,- O3:-,-", ""},
		{"O0:1,- y1:-,- O2:-,3 y3:-,- y4:-,-", "0", "0 2", "minor", "O0:1,- O1:-,- O2:-,3 O3:-,-", ""},
		// By other young ones, in a row, round, and itself.
		{"y0:1,- y1:-,2 y2:3,- y3:-,- y4:5,- y5:-,-", "0", "", "minor", "O0:1,- O1:-,2 O2:3,- O3:-,-", ""},
		{"O0:3,- y1:-,- y2:1,- y3:-,2 y4:1,-", "0", "0", "minor", "O0:3,- O1:-,- O2:1,- O3:-,2", ""},
		{"y0:1,- y1:2,- y2:0,- y3:4,- y4:3,- y5:5,5", "1", "", "minor", "O0:1,- O1:2,- O2:0,-", ""},
		// By way of an Old one that is noted and not reached itself.
		{"O0:-,- O1:2,- y2:3,- y3:-,- y4:-,-", "0", "1", "minor", "O0:-,- O1:2,- O2:3,- O3:-,-", ""},
		{"O0:1,- y1:0,-", "", "0", "minor", "O0:1,- O1:0,-", ""},
		// Old ones that are not reached stay, young ones that lead to Old ones go.
		{"O0:-,- O1:0,1 y2:0,1", "0", "", "minor", "O0:-,- O1:0,1", ""}, {"O0:-,-", "", "0", "minor", "O0:-,-", ""}, {"O1:-,- y2:1,-", "1", "", "minor", "O1:-,-", ""},
		// An Old one that a young one leads to, which leads to another young one.
		{"y0:1,- O1:2,- y2:-,- y3:-,-", "0", "1", "minor", "O0:1,- O1:2,- O2:-,-", ""},
		// No young ones, and nothing at all.
		{"O0:1,- O1:0,0", "0", "", "minor", "O0:1,- O1:0,0", ""}, {"O0:1,- O1:0,0", "0", "0 1", "minor", "O0:1,- O1:0,0", ""}, {"", "", "", "minor", "", ""},
	})
}

func TestHeapMajorKnown(t *testing.T) {
	checkKnownSteps(t, []knownStep{
		// What is reached stays, Old or young as it is.
		{"y0:-,-", "0", "", "major", "y0:-,-", ""}, {"O0:1,- y1:-,2 y2:-,-", "0", "0", "major", "O0:1,- y1:-,2 y2:-,-", "0"},
		// What is not reached goes: Old ones, young ones, those they lead to.
		{"y0:-,-", "", "", "major", "", ""}, {"O0:-,-", "", "", "major", "", ""}, {"O0:-,- O1:2,- O2:3,- O3:-,-", "- 0", "", "major", "O0:-,-", ""}, {"O0:-,- O1:2,- y2:3,- O3:-,-", "- 0", "1", "major", "O0:-,-", ""},
		// Rings that are not reached, of one, two and three.
		{"O0:0,0 y1:-,1 O2:-,-", "2", "", "major", "O2:-,-", ""}, {"O0:1,- O1:-,0", "", "", "major", "", ""}, {"O0:1,- y1:0,-", "", "0", "major", "", ""},
		{"O0:1,- O1:2,- O2:0,- O3:-,-", "3", "", "major", "O3:-,-", ""}, {"O0:1,- y1:2,- O2:0,3 O3:3,-", "3", "0", "major", "O3:3,-", ""},
		// Rings that are reached; those that lead into them go.
		{"O0:1,- O1:2,- O2:0,- O3:0,3", "1", "", "major", "O0:1,- O1:2,- O2:0,-", ""}, {"O0:1,- O1:2,- O2:0,- y3:0,3", "- - - - - 2", "", "major", "O0:1,- O1:2,- O2:0,-", ""},
		// Those Noted that stay and those that go.
		{"O0:-,- O1:-,- O2:-,- O3:-,-", "0 2", "0 1 2 3", "major", "O0:-,- O2:-,-", "0 2"}, {"O0:-,- O1:-,- O2:-,- O3:-,-", "1 2", "0 1 3", "major", "O1:-,- O2:-,-", "1"},
		{"O0:2,- O1:2,- y2:-,-", "0", "0 1", "major", "O0:2,- y2:-,-", "0"}, {"O0:2,- O1:2,- y2:-,-", "2", "0 1", "major", "y2:-,-", ""},
		// Nothing that goes, and nothing at all.
		{"O0:1,1 O1:-,-", "0", "1", "major", "O0:1,1 O1:-,-", "1"}, {"", "", "", "major", "", ""},
	})
}

func TestReachAndKeepsKnown(t *testing.T) {
	known := []struct {
		objects, roots, noted string
		reach, keeps          string
	}{
		{"", "", "", "", ""}, {"O0:-,-", "0", "", "0", ""}, {"y0:-,-", "0", "", "0", "0"}, {"y0:-,-", "", "", "", ""},
		// Each root, and several of them to one object.
		{"y1:-,- y2:-,- y3:-,- y4:-,- y5:-,- y6:-,- y7:-,-", "6 5 4 3 2 1", "", "1 2 3 4 5 6", "1 2 3 4 5 6"}, {"y1:-,- y2:-,-", "2 2 2 2 2 2", "", "2", "2"}, {"y1:-,- y2:-,- O3:-,-", "- - - - 3 1", "", "1 3", "1"},
		// Rings, also such as are not reached.
		{"y0:1,- y1:2,- y2:0,- y3:4,- y4:3,-", "2", "", "0 1 2", "0 1 2"}, {"O0:1,- O1:2,- O2:0,-", "2", "", "0 1 2", ""}, {"y0:1,- O1:-,2 y2:0,-", "0", "1", "0 1 2", "0 2"}, {"y0:1,- y1:0,-", "", "", "", ""},
		// Objects that lead to themselves, by one link and by both.
		{"y0:0,-", "0", "", "0", "0"}, {"y0:0,0 y1:1,1", "- 1", "", "1", "1"}, {"O0:0,0", "0", "", "0", ""}, {"O0:0,1 y1:1,-", "0", "0", "0 1", "1"}, {"y0:-,0 y1:0,1", "1", "", "0 1", "0 1"},
		// Two ways to one object.
		{"y0:1,2 y1:3,- y2:-,3 y3:-,-", "0", "", "0 1 2 3", "0 1 2 3"}, {"O0:1,1 y1:-,-", "0 1", "0", "0 1", "1"}, {"O0:3,- O1:-,3 y2:-,- y3:-,-", "0 1", "0 1", "0 1 3", "3"},
		// Against the order of the Names.
		{"y0:-,- y1:0,- y2:-,1 y3:2,-", "3", "", "0 1 2 3", "0 1 2 3"}, {"O0:-,- O1:0,- O2:-,1 O3:2,-", "3", "", "0 1 2 3", ""},
		// Young ones by way of an Old one that is not Noted: none is led to so. By way of one that is, it counts from that one.
		{"y0:1,- O1:2,- O2:3,- y3:-,-", "0", "2", "0 1 2 3", "0 3"}, {"y0:1,- O1:2,- O2:-,-", "0", "", "0 1 2", "0"},
		// Noted ones that are not reached, and Noted ones that lead to Old ones, behind which there are young ones.
		{"O0:-,- O1:2,- y2:-,3 y3:-,- y4:-,-", "0", "1", "0", "2 3"}, {"O0:1,- O1:2,- y2:-,-", "", "0 1", "", "2"}, {"O0:1,- O1:2,- y2:-,-", "0", "1", "0 1 2", "2"},
		// A young one that leads to an Old one, which leads to it.
		{"y0:1,- O1:0,-", "", "1", "", "0"}, {"y0:1,- O1:0,-", "1", "1", "0 1", "0"},
	}
	for _, k := range known {
		for _, next := range []int{8, 1000} {
			h := heapAs(t, k.objects, k.roots, k.noted, next)
			checkReach(t, h, numbersAs(t, k.reach))
			checkKeeps(t, h, numbersAs(t, k.keeps))
			checkHeap(t, h)
		}
	}
}

// Rows and rings of as many as there may be.
func TestReachOfLongRows(t *testing.T) {
	for _, k := range []int{0, 1} {
		for _, young := range []bool{false, true} {
			h := impl.Heap{Roots: []int{-1, -1, -1, -1, -1, 23}, Next: 24}
			for name := range 24 {
				o := impl.Object{Name: name, Old: !young, Links: []int{-1, -1}}
				o.Links[k] = name - 1
				h.Objects = append(h.Objects, o)
			}
			reach, keeps := rowOrder(24), rowOrder(24)
			if !young {
				keeps = nil
			}
			checkReach(t, h, reach)
			checkKeeps(t, h, keeps)
			checkStep(t, h, minorStep())
			checkStep(t, h, majorStep())
			h.Objects[0].Links[k], h.Objects[12].Links[1-k], h.Roots = 23, 12, []int{5, -1, 12, 12, -1, -1}
			checkReach(t, h, reach)
			checkKeeps(t, h, keeps)
			h.Roots = []int{-1, -1, -1, -1, -1, -1}
			checkReach(t, h, nil)
			checkKeeps(t, h, nil)
			checkStep(t, h, minorStep())
			checkStep(t, h, majorStep())
		}
	}
}

type knownShape struct {
	objects, roots           string
	otherObjects, otherRoots string
	same                     bool
}

func TestSameShapeKnown(t *testing.T) {
	known := []knownShape{
		{"", "", "", "", true}, {"O0:-,-", "0", "O0:-,-", "0", true}, {"", "", "O0:-,-", "0", false},
		// Other Names, in another order.
		{"O0:-,-", "0", "O7:-,-", "7", true}, {"O0:1,- O1:-,-", "0", "O0:-,- O1:0,-", "1", true}, {"O0:1,2 O1:-,- O2:1,-", "0 2", "O3:-,- O5:3,- O8:3,5", "8 5", true},
		{"O0:1,2 O1:3,- O2:-,3 O3:0,-", "2", "O0:-,2 O1:2,- O2:3,- O3:1,0", "0", true},
		// Old and young.
		{"O0:-,-", "0", "y0:-,-", "0", true}, {"y0:1,- y1:-,0", "0", "y0:1,- O1:-,0", "0", true}, {"y0:1,- y1:-,0", "0", "O3:5,- O5:-,3", "3", true},
		// Rings of unlike lengths, and of one length from elsewhere.
		{"O0:0,-", "0", "O0:1,- O1:0,-", "0", false}, {"O0:1,- O1:0,-", "0", "O0:1,- O1:2,- O2:0,-", "0", false}, {"O0:1,- O1:0,-", "0", "O0:1,- O1:2,- O2:3,- O3:0,-", "0", false},
		{"O0:1,- O1:2,- O2:0,-", "0", "O0:1,- O1:2,- O2:0,-", "2", true}, {"O0:1,- O1:2,- O2:0,-", "0", "O0:2,- O1:0,- O2:1,-", "1", true}, {"O0:1,- O1:2,- O2:0,-", "0 1", "O0:1,- O1:2,- O2:0,-", "0 2", false},
		// A ring against a row, and rings that are entered elsewhere.
		{"O0:1,- O1:0,-", "0", "O0:1,- O1:-,-", "0", false}, {"O0:1,- O1:2,- O2:1,-", "0", "O0:1,- O1:2,- O2:0,-", "0", false},
		// Two roots to one object, against two to two like ones.
		{"O0:-,-", "0 0", "O0:-,- O1:-,-", "0 1", false}, {"O0:0,-", "0 0", "O0:0,- O1:1,-", "0 1", false}, {"O0:-,- O1:-,-", "0 1", "O0:-,- O1:-,-", "1 0", true}, {"O0:0,- O1:1,-", "0 1", "O0:1,- O1:0,-", "0 1", false},
		// Two links to one object, against two to two like ones.
		{"O0:1,1 O1:-,-", "0", "O0:1,2 O1:-,- O2:-,-", "0", false}, {"O0:1,2 O1:3,- O2:3,- O3:-,-", "0", "O0:1,2 O1:3,- O2:4,- O3:-,- O4:-,-", "0", false},
		// Roots and links in order.
		{"O0:-,-", "0 -", "O0:-,-", "- 0", false}, {"O0:-,-", "- - - - - 0", "O0:-,-", "- - - - 0 -", false}, {"O0:1,- O1:-,-", "0", "O0:-,1 O1:-,-", "0", false}, {"O0:-,- O1:0,-", "0 1", "O0:1,- O1:-,-", "0 1", false}, {"O0:-,- O1:0,-", "0 1", "O0:1,- O1:-,-", "1 0", true},
		// As many objects, with their links otherwise.
		{"O0:1,2 O1:-,- O2:1,-", "0", "O0:1,2 O1:2,- O2:-,-", "0", false}, {"O0:1,- O1:-,-", "0 1", "O0:-,- O1:-,-", "0 1", false}, {"O0:1,0 O1:-,-", "0", "O0:1,1 O1:-,-", "0", false},
		// What is not reached does not count.
		{"O0:-,-", "0", "O0:-,- O1:0,1 y2:1,0", "0", true}, {"O0:-,-", "", "", "", true}, {"O0:1,- O1:0,-", "", "O0:-,-", "", true}, {"O0:-,- O1:0,0", "0", "O0:1,1 O1:-,-", "1", true}, {"O0:-,- O1:0,0", "0", "O0:1,1 O1:-,-", "0", false},
	}
	for _, k := range known {
		a, b := heapAs(t, k.objects, k.roots, "", 9), heapAs(t, k.otherObjects, k.otherRoots, "", 9)
		a.Noted, b.Noted = mustNoteApart(a), mustNoteApart(b)
		for _, next := range []int{9, 1000} {
			b.Next = next
			checkShape(t, a, b, k.same)
			checkShape(t, a, allNoted(b), k.same)
		}
		if isLikeByAny(a, b) != k.same || sameShapeApart(a, b) != k.same {
			t.Errorf("apart %s and %s are not %v", heapText(a), heapText(b), k.same)
		}
	}
}

// All pairs of heaps of up to two objects, by all numberings there are.
func TestSameShapeOfAllSmallHeaps(t *testing.T) {
	var heaps []impl.Heap
	for objects := range 3 {
		eachEnds(objects, 2*objects+2, func(ends []int) {
			h := impl.Heap{Roots: []int{ends[0], -1, -1, -1, ends[1], -1}, Next: objects}
			for name := range objects {
				h.Objects = append(h.Objects, impl.Object{Name: name, Old: name == 1, Links: ends[2*name+2 : 2*name+4]})
			}
			h.Noted = mustNoteApart(h)
			heaps = append(heaps, h)
		})
	}
	is := [2]int{}
	for _, a := range heaps {
		for _, b := range heaps {
			want := isLikeByAny(a, b)
			if same, ok := impl.SameShape(a, b); same != want || !ok || sameShapeApart(a, b) != want {
				t.Fatalf("SameShape(%s, %s) = %v %v, not %v", heapText(a), heapText(b), same, ok, want)
			}
			is[oneWhere(want)]++
		}
	}
	if len(heaps) != 1+16+729 || min(is[0], is[1]) < 10000 {
		t.Error(len(heaps), is)
	}
}

// Heaps with other Names in another order, and such of which one end is another
// one then.
func TestSameShapeOfManyHeaps(t *testing.T) {
	d := &lots{state: 55}
	is := [2]int{}
	for range 6000 {
		h := d.someHeap()
		other := d.renamed(h)
		checkShape(t, h, other, true)
		if len(other.Objects) == 0 {
			continue
		}
		ends := other.Roots
		if d.below(3) > 0 {
			ends = other.Objects[d.below(len(other.Objects))].Links
		}
		ends[d.below(len(ends))] = d.oneOf(append(allNamesApart(other), -1))
		if d.below(3) == 0 {
			k, l := d.below(len(ends)), d.below(len(ends))
			ends[k], ends[l] = ends[l], ends[k]
		}
		for at := range other.Objects {
			other.Objects[at].Old = d.below(2) == 0
		}
		other.Noted = mustNoteApart(other)
		want := sameShapeApart(h, other)
		if len(reachApart(h)) < 6 && isLikeByAny(h, other) != want {
			t.Fatal("apart they are not", want, heapText(h), heapText(other))
		}
		checkShape(t, h, other, want)
		is[oneWhere(want)]++
		if t.Failed() {
			return
		}
	}
	if min(is[0], is[1]) < 1000 {
		t.Error(is)
	}
}

func TestPlayHeapKnown(t *testing.T) {
	known := []struct {
		steps                 string
		objects, roots, noted string
		next                  int
		done                  string
	}{
		{"", "O0:-,-", "0", "", 1, ""},
		{"new 0", "O0:-,- y1:-,-", "1", "", 2, "1"},
		{"new 1; link 0 0 1; new 1; new 2; root 1 -", "O0:1,- y1:-,- y2:-,- y3:-,-", "0 - 3", "0", 4, "1 1 1 1 1"},
		{"new 1; link 0 0 1; new 1; new 2; root 1 -; minor", "O0:1,- O1:-,- O3:-,-", "0 - 3", "", 4, "1 1 1 1 1 1"},
		{"new 1; link 0 0 1; new 1; new 2; root 1 -; minor; root 0 -; major", "O3:-,-", "- - 3", "", 4, "1 1 1 1 1 1 1 1"},
		// Names do not come again.
		{"new 1; root 1 -; minor; new 1; root 1 -; major; new 1", "O0:-,- y3:-,-", "0 3", "", 4, "1 1 1 1 1 1 1"},
		{"root 0 -; major", "", "", "", 1, "1 1"}, {"root 0 -; major; major; minor; new 3", "y1:-,-", "- - - 1", "", 2, "1 1 1 1 1"},
		// An Old one that is noted and not reached keeps what it leads to until it goes.
		{"new 1; link 0 1 1; root 1 -; root 0 -; minor", "O0:-,1 O1:-,-", "", "", 2, "1 1 1 1 1"}, {"new 1; link 0 1 1; root 1 -; root 0 -; major", "", "", "", 2, "1 1 1 1 1"},
		// One that leads to none any more stays noted; what it led to goes.
		{"new 1; link 0 0 1; root 1 -; link 0 0 -", "O0:-,- y1:-,-", "0", "0", 2, "1 1 1 1"}, {"new 1; link 0 0 1; root 1 -; link 0 0 -; minor", "O0:-,-", "0", "", 2, "1 1 1 1 1"}, {"new 1; link 0 0 1; root 1 -; link 0 0 -; major", "O0:-,-", "0", "0", 2, "1 1 1 1 1"},
		// Young ones stay young when all are looked at.
		{"new 1; new 2; link 1 0 2; root 2 -; major", "O0:-,- y1:2,- y2:-,-", "0 1", "", 3, "1 1 1 1 1"}, {"new 1; major; link 0 0 1; root 1 -; minor", "O0:1,- O1:-,-", "0", "", 2, "1 1 1 1 1"},
		// Steps that can't be done, in the midst and at the ends: they change nothing.
		{"link 0 0 1; new 1; link 0 2 1; link 0 0 1; root 6 0; root 2 2; link 2 0 0; new 6; root 2 1; new -", "O0:1,- y1:-,-", "0 1 1", "0", 2, "0 1 0 1 0 0 0 0 1 0"},
		{"new 1; root 1 -; root 1 1; link 1 0 0; link 0 0 1; minor; root 1 1", "O0:-,-", "0", "", 2, "1 1 0 0 0 1 0"},
	}
	for _, k := range known {
		var done []bool
		for _, n := range numbersAs(t, k.done) {
			done = append(done, n == 1)
		}
		l := heapStepsAs(t, k.steps)
		checkHeapPlayed(t, l, heapAs(t, k.objects, k.roots, k.noted, k.next), done)
		checkHeapRow(t, l)
	}
}

// checkHeapRow holds PlayHeap against the steps apart and one by one, asks for
// promise 14 at each collection, and has the heap in the end.
func checkHeapRow(t *testing.T, l []impl.HeapStep) impl.Heap {
	t.Helper()
	h := firstHeap()
	var done []bool
	for _, s := range l {
		after, did := checkStep(t, h, s)
		h, done = after, append(done, did)
	}
	checkHeapPlayed(t, l, h, done)
	want, wantDone := playHeapApart(firstHeap(), l)
	checkHeapPlayed(t, l, want, wantDone)
	return h
}

func TestPlayHeapAtItsBounds(t *testing.T) {
	d := &lots{state: 60}
	for _, count := range []int{0, 1, 59, 60} {
		for range 100 {
			checkHeapRow(t, d.heapSteps(count))
		}
		// Steps of which none can be done.
		for _, kind := range []int{-1, 0, 6} {
			checkHeapPlayed(t, slices.Repeat([]impl.HeapStep{{Kind: kind}}, count), firstHeap(), make([]bool, count))
		}
	}
	for _, count := range []int{61, 62, 1000, 100000} {
		checkPlayHeapRefused(t, slices.Repeat(heapStepsAs(t, "minor"), count))
		checkPlayHeapRefused(t, slices.Repeat(heapStepsAs(t, "new 1"), count))
		checkPlayHeapRefused(t, make([]impl.HeapStep, count))
	}
	checkPlayHeapRefused(t, d.heapSteps(61))
}

// Promise 14: behind each collection of many drawn rows all that was reached is
// there still, with the same shape, and all heaps that come are good.
func TestNothingReachedGoesInManyRows(t *testing.T) {
	d := &lots{state: 14}
	met := map[string]int{}
	for range 800 {
		h := firstHeap()
		l := d.heapSteps(impl.MaxHeapSteps)
		for _, s := range l {
			checkHeap(t, h)
			after, did := checkStep(t, h, s)
			met["refused"] += oneWhere(!did)
			met["kept"] += len(keepsApart(h)) * oneWhere(s.Kind == impl.HeapMinor)
			met["noted "+strconv.Itoa(min(len(after.Noted), 3))]++
			met["gone by "+strconv.Itoa(s.Kind)] += oneWhere(len(after.Objects) < len(h.Objects))
			met["kept but not reached"] += oneWhere(s.Kind == impl.HeapMinor && !isSubset(keepsApart(h), reachApart(h)))
			h = after
		}
		checkHeapRow(t, l)
		if t.Failed() {
			return
		}
	}
	for _, what := range []string{"refused", "kept", "noted 1", "noted 2", "noted 3", "gone by 4", "gone by 5", "kept but not reached"} {
		if met[what] < 100 {
			t.Error("only", met[what], "times", what, met)
		}
	}
}

func isSubset(names []int, others []int) bool {
	return !slices.ContainsFunc(names, func(name int) bool { return !slices.Contains(others, name) })
}

// Promise 14, from any good heap on: also such as no row of steps comes to.
func TestStepsOfManyHeaps(t *testing.T) {
	d := &lots{state: 1969}
	for range 4000 {
		h := d.someHeap()
		checkStep(t, h, minorStep())
		checkStep(t, h, majorStep())
		for range 6 {
			h, _ = checkStep(t, h, d.heapStep(h))
			checkHeap(t, h)
		}
		if t.Failed() {
			return
		}
	}
}

// heapMenu has all steps on two roots and the objects that are there, and some
// that can't be done.
func heapMenu(h impl.Heap) []impl.HeapStep {
	l := []impl.HeapStep{minorStep(), majorStep(), {Kind: impl.HeapNew}, {Kind: impl.HeapNew, At: 1}}
	names := append(allNamesApart(h), -1)
	for _, to := range names {
		l = append(l, impl.HeapStep{Kind: impl.HeapRoot, To: to}, impl.HeapStep{Kind: impl.HeapRoot, At: 1, To: to})
		for _, at := range names {
			for k := range 2 {
				l = append(l, impl.HeapStep{Kind: impl.HeapLink, At: at, K: k, To: to})
			}
		}
	}
	return l
}

// All heaps to which any steps lead with Names up to 1, and with Names up to 2
// those of the first few steps: each step from each of them.
func TestAllStepsFromWhatIsCome(t *testing.T) {
	for _, k := range []struct{ next, steps, least int }{{2, 100, 500}, {3, 6, 10000}} {
		come := map[string]bool{}
		row := []impl.Heap{firstHeap()}
		for range k.steps {
			var ahead []impl.Heap
			for _, h := range row {
				for _, s := range heapMenu(h) {
					after, did := checkStep(t, h, s)
					if key := heapText(after); did && !come[key] && after.Next <= k.next {
						come[key] = true
						ahead = append(ahead, after)
					}
				}
				if t.Failed() {
					return
				}
			}
			row = ahead
		}
		if len(come) < k.least {
			t.Error("only", len(come), "heaps")
		}
	}
}

// fullHeap has Old and young ones that lead to each other, all Noted that may
// be, and some that are not reached.
func fullHeap(t *testing.T) impl.Heap {
	t.Helper()
	h := heapAs(t, "O0:2,- y2:3,0 y3:-,3 O5:5,6 y6:0,- O8:0,2", "0 - 3 8", "0 5 8", 9)
	checkHeap(t, h)
	return h
}

func TestHeapsRefuseWrongObjects(t *testing.T) {
	checkHeapRefused(t, impl.Heap{})
	checkHeapRefused(t, crowd(25, 25))
	checkHeapRefused(t, crowd(25, 1000))
	checkHeapRefused(t, crowd(1000, 1000))
	checkHeapRefused(t, impl.Heap{Objects: make([]impl.Object, 100000), Roots: firstHeap().Roots, Next: 1000})
	checkHeapRefused(t, impl.Heap{Objects: make([]impl.Object, 1), Roots: firstHeap().Roots, Next: 1})
	checkHeap(t, crowd(24, 24))
	for at := range fullHeap(t).Objects {
		for _, name := range append(farNumbers(), -2, -1, 0, 1, 2, 3, 5, 6, 7, 8, 9, 10, 24) {
			h := fullHeap(t)
			h.Objects[at].Name = name
			if name != fullHeap(t).Objects[at].Name {
				checkHeapRefused(t, h)
			}
		}
		// As it is, with one more object that has a wrong Name.
		for _, name := range append(farNumbers(), -1, 0, 2, 3, 5, 6, 8, 9) {
			h := fullHeap(t)
			h.Objects = slices.Insert(h.Objects, at, impl.Object{Name: name, Links: []int{-1, -1}})
			checkHeapRefused(t, h)
		}
		for _, count := range []int{0, 1, 3, 4, 6, 1000} {
			h := fullHeap(t)
			h.Objects[at].Links = slices.Repeat([]int{-1}, count)
			checkHeapRefused(t, h)
		}
		for k := range 2 {
			for _, to := range append(farNumbers(), -3, -2, 1, 4, 7, 9, 10, 24) {
				h := fullHeap(t)
				h.Objects[at].Links[k] = to
				checkHeapRefused(t, h)
			}
		}
		// Old where it was young, or young where it was Old: mostly it should be Noted then, or should not be.
		h := fullHeap(t)
		h.Objects[at].Old = !h.Objects[at].Old
		if goodHeapApart(h) {
			checkHeap(t, h)
		} else {
			checkHeapRefused(t, h)
		}
	}
}

func TestHeapsRefuseWrongRoots(t *testing.T) {
	for root := range impl.MaxRoots {
		for _, to := range append(farNumbers(), -3, -2, 1, 4, 7, 9, 10, 24) {
			h := fullHeap(t)
			h.Roots[root] = to
			checkHeapRefused(t, h)
		}
	}
	for _, count := range []int{0, 1, 5, 7, 12, 1000} {
		for _, to := range []int{-1, 0} {
			h := fullHeap(t)
			h.Roots = slices.Repeat([]int{to}, count)
			checkHeapRefused(t, h)
		}
	}
}

func TestHeapsRefuseWrongNoted(t *testing.T) {
	for at := range 3 {
		for _, name := range append(farNumbers(), -2, -1, 0, 1, 2, 3, 4, 5, 6, 7, 8, 9, 10, 24) {
			h := fullHeap(t)
			if h.Noted[at] != name {
				h.Noted[at] = name
				checkHeapRefused(t, h)
			}
			h = fullHeap(t)
			h.Noted = slices.Insert(h.Noted, at, name)
			checkHeapRefused(t, h)
		}
		h := fullHeap(t)
		h.Noted = slices.Delete(h.Noted, at, at+1)
		checkHeapRefused(t, h)
	}
	for _, noted := range []string{"", "0", "8 5 0", "0 8 5", "5 0 8", "0 0 5 8", "0 5 8 8", "0 2 5 8", "0 5 6 8", "0 5 7 8", "0 5 8 9"} {
		h := fullHeap(t)
		h.Noted = numbersAs(t, noted)
		checkHeapRefused(t, h)
	}
	for _, count := range []int{9, 25, 1000, 100000} {
		h := fullHeap(t)
		h.Noted = rowOrder(count)
		checkHeapRefused(t, h)
	}
}

func TestHeapsRefuseWrongNexts(t *testing.T) {
	for _, next := range append(farNumbers(), -2, -1, 0, 1, 8, 1001, 1002) {
		h := fullHeap(t)
		h.Next = next
		checkHeapRefused(t, h)
		checkStepRefused(t, h, impl.HeapStep{Kind: impl.HeapNew})
	}
	for _, next := range []int{9, 10, 999, 1000} {
		h := fullHeap(t)
		h.Next = next
		checkHeap(t, h)
	}
	for _, next := range append(farNumbers(), -2, -1, 1001, 1002) {
		checkHeapRefused(t, heapAs(t, "", "", "", next))
		checkHeapRefused(t, heapAs(t, "O0:-,-", "0", "", next))
	}
}

// Good heaps of which something is another: mostly it is near by.
func TestGoodHeapOfChangedHeaps(t *testing.T) {
	d := &lots{state: 2021}
	is := [2]int{}
	for range 20000 {
		h := d.heap(1+d.below(8), 1+d.below(5))
		o := &h.Objects[d.below(len(h.Objects))]
		switch d.below(7) {
		case 0:
			o.Old = !o.Old
		case 1:
			o.Name += d.below(5) - 2
		case 2:
			o.Links[d.below(2)] = d.oneOf(append(allNamesApart(h), -1, 0))
		case 3:
			h.Roots[d.below(6)] = d.oneOf(append(allNamesApart(h), -1, -1, -2, h.Next))
		case 4:
			h.Noted = slices.Insert(h.Noted, d.below(len(h.Noted)+1), d.oneOf(allNamesApart(h)))
		case 5:
			if len(h.Noted) > 0 {
				h.Noted = slices.Delete(h.Noted, 0, 1)
			}
		case 6:
			h.Next += d.below(3) - 1
		}
		want := goodHeapApart(h)
		is[oneWhere(want)]++
		if want {
			checkHeap(t, h)
		} else {
			checkHeapRefused(t, h)
		}
		if t.Failed() {
			return
		}
	}
	if min(is[0], is[1]) < 4000 {
		t.Error(is)
	}
}

// Kinds that are none, and fields that a step has no use for.
func TestHeapsRefuseWrongSteps(t *testing.T) {
	heaps := []impl.Heap{firstHeap(), fullHeap(t), heapAs(t, "", "", "", 0), heapAs(t, "y0:0,0 y1:1,1 O2:2,2 y3:-,-", "0 1 2 3", "", 4)}
	for _, h := range heaps {
		for _, s := range plainHeapSteps() {
			for _, kind := range append(farNumbers(), -2, -1, 0, 6, 7) {
				wrong := s
				wrong.Kind = kind
				checkStepRefused(t, h, wrong)
			}
		}
		for _, n := range append(farNumbers(), -2, -1, 1, 2, 3, 6) {
			for at := range impl.MaxRoots {
				checkStep(t, h, impl.HeapStep{Kind: impl.HeapNew, At: at})
				checkStepRefused(t, h, impl.HeapStep{Kind: impl.HeapNew, At: at, K: n})
				checkStepRefused(t, h, impl.HeapStep{Kind: impl.HeapNew, At: at, To: n})
				checkStepRefused(t, h, impl.HeapStep{Kind: impl.HeapNew, At: at, K: n, To: n})
				for to := -1; to < 4; to++ {
					checkStep(t, h, impl.HeapStep{Kind: impl.HeapRoot, At: at, To: to})
					checkStepRefused(t, h, impl.HeapStep{Kind: impl.HeapRoot, At: at, K: n, To: to})
				}
			}
			for _, kind := range []int{impl.HeapMinor, impl.HeapMajor} {
				checkStep(t, h, impl.HeapStep{Kind: kind})
				checkStepRefused(t, h, impl.HeapStep{Kind: kind, At: n})
				checkStepRefused(t, h, impl.HeapStep{Kind: kind, K: n})
				checkStepRefused(t, h, impl.HeapStep{Kind: kind, To: n})
				checkStepRefused(t, h, impl.HeapStep{Kind: kind, At: n, K: n, To: n})
			}
			for _, s := range []impl.HeapStep{{Kind: n, At: n, K: n, To: n}, {Kind: impl.HeapNew, At: n, K: n, To: n}, {Kind: impl.HeapLink, At: n, K: n, To: n}, {Kind: impl.HeapRoot, At: n, K: n, To: n}} {
				checkStep(t, h, s)
			}
		}
		// Also in a row: they change nothing there.
		for _, s := range []impl.HeapStep{{}, {Kind: 6}, {Kind: math.MinInt}, {Kind: math.MaxInt, At: 1}, {Kind: impl.HeapMinor, At: 1}, {Kind: impl.HeapMajor, To: -1}, {Kind: impl.HeapNew, At: 1, To: -1}, {Kind: impl.HeapRoot, K: 1}} {
			l := heapStepsAs(t, "new 1; link 0 0 1; new 1")
			for at := range len(l) + 1 {
				row := slices.Insert(slices.Clone(l), at, s)
				checkHeapPlayed(t, row, heapAs(t, "O0:1,- y1:-,- y2:-,-", "0 2", "0", 3), slices.Insert([]bool{true, true, true}, at, false))
				checkHeapRow(t, row)
			}
		}
	}
}

func TestSameShapeRefusesOneOfTwo(t *testing.T) {
	d := &lots{state: 21}
	for range 300 {
		h, wrong := d.someHeap(), d.someHeap()
		switch d.below(4) {
		case 0:
			wrong.Roots = wrong.Roots[:d.below(6)]
		case 1:
			wrong.Roots[d.below(6)] = -2
		case 2:
			wrong.Next = 1001
		case 3:
			wrong.Noted = append(wrong.Noted, 1000)
		}
		checkShapeRefused(t, h, wrong)
		checkShapeRefused(t, wrong, h)
		checkShapeRefused(t, wrong, wrong)
		checkHeapRefused(t, wrong)
	}
}

// behindHeap has more behind the length of each list.
func behindHeap(h impl.Heap) impl.Heap {
	more := make([]impl.Object, 0, len(h.Objects)+2)
	for _, o := range h.Objects {
		more = append(more, impl.Object{Name: o.Name, Old: o.Old, Links: behindNumbers(o.Links)})
	}
	more = append(more, impl.Object{Name: h.Next - 1, Links: []int{-1, -1}}, impl.Object{Name: -5})
	return impl.Heap{Objects: more[:len(h.Objects)], Roots: behindNumbers(h.Roots), Noted: behindNumbers(h.Noted), Next: h.Next}
}

// wholeHeap is a copy, also of what is behind the lengths.
func wholeHeap(h impl.Heap) impl.Heap {
	whole := impl.Heap{Roots: slices.Clone(h.Roots[:cap(h.Roots)]), Noted: slices.Clone(h.Noted[:cap(h.Noted)]), Next: h.Next}
	for _, o := range h.Objects[:cap(h.Objects)] {
		o.Links = slices.Clone(o.Links[:cap(o.Links)])
		whole.Objects = append(whole.Objects, o)
	}
	return whole
}

func behindHeapSteps(l []impl.HeapStep) []impl.HeapStep {
	return append(slices.Clone(l), minorStep(), impl.HeapStep{Kind: -5, At: -5})[:len(l)]
}

// Promise 19: nothing is written into what is handed in, nor behind it.
func TestHeapsLeaveWhatIsHandedIn(t *testing.T) {
	d := &lots{state: 1914}
	for round := range 1500 {
		h, other := d.someHeap(), d.someHeap()
		if round%4 == 0 && len(h.Objects) > 0 {
			h.Objects[d.below(len(h.Objects))].Links[1] = 1000
		}
		steps := []impl.HeapStep{minorStep(), majorStep()}
		for range 8 {
			steps = append(steps, d.heapStep(other))
		}
		h, other = behindHeap(h), behindHeap(other)
		l := behindHeapSteps(d.heapSteps(d.below(62)))
		kept, keptOther, keptSteps := wholeHeap(h), wholeHeap(other), slices.Clone(l[:cap(l)])
		for _, h := range []impl.Heap{h, other} {
			impl.GoodHeap(h)
			impl.ReachOf(h)
			impl.MinorKeeps(h)
			impl.NamesOf(h)
			for _, s := range steps {
				impl.StepHeap(h, s)
			}
		}
		impl.SameShape(h, other)
		impl.SameShape(other, h)
		impl.PlayHeap(l)
		if !sameHeap(wholeHeap(h), kept) || !sameHeap(wholeHeap(other), keptOther) || !slices.Equal(l[:cap(l)], keptSteps) {
			t.Fatal("something was written into", heapText(h), heapText(other), l)
		}
	}
}

// Objects, links, roots, those Noted and steps behind a list's length are not
// read.
func TestHeapsReadNothingBehind(t *testing.T) {
	d := &lots{state: 79}
	for range 1000 {
		h := behindHeap(d.someHeap())
		checkHeap(t, h)
		checkShape(t, h, behindHeap(d.renamed(h)), true)
		for _, s := range []impl.HeapStep{minorStep(), majorStep(), d.heapStep(h), d.heapStep(h)} {
			checkStep(t, h, s)
		}
		checkHeapRow(t, behindHeapSteps(d.heapSteps(d.below(20))))
	}
	l := slices.Repeat(heapStepsAs(t, "new 1; root 1 -; minor; major"), 16)
	checkHeapRow(t, l[:60])
	checkPlayHeapRefused(t, l[:61])
	h := crowd(25, 25)
	h.Roots[4] = 23
	checkHeapRefused(t, h)
	h.Objects = h.Objects[:24]
	checkHeap(t, h)
	long := []int{-1, -1, -1, -1, -1, -1, -1}
	h.Objects[3].Links, h.Roots = long[:2], long[:6]
	checkHeap(t, h)
	h.Roots = long
	checkHeapRefused(t, h)
}

// checkHeapApart spoils the lists of an answer one after the other.
func checkHeapApart(t *testing.T, h impl.Heap) {
	t.Helper()
	lists := [][]int{h.Roots, h.Noted}
	for _, o := range h.Objects {
		lists = append(lists, o.Links)
	}
	checkListsApart(t, lists)
	clear(h.Objects[:cap(h.Objects)])
}

func TestHeapAnswersAreNewMemory(t *testing.T) {
	d := &lots{state: 16}
	for range 600 {
		h := behindHeap(d.someHeap())
		l := behindHeapSteps(d.heapSteps(d.below(30)))
		kept, keptSteps := wholeHeap(h), slices.Clone(l[:cap(l)])
		for _, s := range []impl.HeapStep{minorStep(), majorStep(), d.heapStep(h), d.heapStep(h), {Kind: impl.HeapNew, At: 3}} {
			for range 2 {
				after, _ := impl.StepHeap(h, s)
				checkHeapApart(t, after)
			}
			checkStep(t, h, s)
		}
		for _, tell := range []func(impl.Heap) ([]int, bool){impl.ReachOf, impl.MinorKeeps, impl.NamesOf} {
			names, _ := tell(h)
			spoil(names)
		}
		played, done, _ := impl.PlayHeap(l)
		checkHeapApart(t, played)
		clear(done[:cap(done)])
		checkHeapApart(t, impl.NewHeap())
		if !sameHeap(wholeHeap(h), kept) || !slices.Equal(l[:cap(l)], keptSteps) {
			t.Fatal("an answer shares memory with what was handed in:", heapText(h), l)
		}
		checkHeap(t, h)
		checkHeapRow(t, l)
	}
}

// One list in several places of what is handed in becomes several lists.
func TestHeapsOfSharedLists(t *testing.T) {
	links := []int{0, 1}
	h := impl.Heap{Objects: []impl.Object{{Name: 0, Old: true, Links: links}, {Name: 1, Links: links}}, Roots: []int{0, 1, 0, 1, 0, 1}, Noted: []int{0}, Next: 2}
	for at := range 2 {
		for k := range 2 {
			for to := -1; to < 2; to++ {
				after, _ := checkStep(t, h, impl.HeapStep{Kind: impl.HeapLink, At: at, K: k, To: to})
				if got, ok := impl.StepHeap(h, impl.HeapStep{Kind: impl.HeapLink, At: at, K: k, To: to}); !ok || !sameHeap(got, after) || !slices.Equal(got.Objects[1-at].Links, []int{0, 1}) {
					t.Error(heapText(got), ok)
				} else {
					checkHeapApart(t, got)
				}
			}
		}
	}
	// The least of what a list may be: roots, links and Noted of one memory.
	numbers := []int{0, 0, 0, 0, 0, 0}
	h = impl.Heap{Objects: []impl.Object{{Name: 0, Old: true, Links: numbers[:2]}}, Roots: numbers, Noted: numbers[:1], Next: 1}
	for _, s := range plainHeapSteps() {
		checkStep(t, h, s)
		after, _ := impl.StepHeap(h, s)
		checkHeapApart(t, after)
	}
	checkHeap(t, h)
	if !slices.Equal(links, []int{0, 1}) || !slices.Equal(numbers, make([]int, 6)) {
		t.Error(links, numbers)
	}
}

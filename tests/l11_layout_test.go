package tests

import (
	"math"
	"slices"
	"strconv"
	"strings"
	"testing"

	"loop.example/g00350/impl"
)

// edgesAs reads edges as the digits of both blocks, a colon, and the Count.
func edgesAs(t *testing.T, text string) []impl.Edge {
	t.Helper()
	var l []impl.Edge
	for _, part := range strings.Fields(text) {
		blocks, count, ok := strings.Cut(part, ":")
		n, err := strconv.Atoi(count)
		if !ok || err != nil || len(blocks) != 2 {
			t.Fatalf("no edge: %q", part)
		}
		l = append(l, impl.Edge{From: int(blocks[0] - '0'), To: int(blocks[1] - '0'), Count: n})
	}
	return l
}

func edgesText(l []impl.Edge) string {
	var texts []string
	for _, e := range l {
		texts = append(texts, strconv.Itoa(e.From)+strconv.Itoa(e.To)+":"+strconv.Itoa(e.Count))
	}
	return strings.Join(texts, " ")
}

// chainsAs reads chains with | between.
func chainsAs(t *testing.T, text string) [][]int {
	t.Helper()
	var chains [][]int
	for _, part := range strings.Split(text, "|") {
		chains = append(chains, numbersAs(t, part))
	}
	return chains
}

// layoutsUpTo has each layout of some blocks.
func layoutsUpTo(blocks int) [][]int {
	var layouts [][]int
	for _, order := range ordersUpTo(blocks) {
		if order[0] == 0 {
			layouts = append(layouts, order)
		}
	}
	return layouts
}

func (d *lots) layout(blocks int) []int {
	order := []int{0}
	for _, number := range d.order(blocks - 1) {
		order = append(order, number+1)
	}
	return order
}

// edges draws edges of which no two are of one from and one to; many of them
// have one Count where most is small.
func (d *lots) edges(blocks int, count int, most int) []impl.Edge {
	var l []impl.Edge
	for _, pair := range d.order(blocks * blocks)[:min(count, blocks*blocks)] {
		l = append(l, impl.Edge{From: pair / blocks, To: pair % blocks, Count: d.below(most + 1)})
	}
	return l
}

func (d *lots) someEdges(blocks int) []impl.Edge {
	mosts := []int{0, 1, 2, 3, 10, 100000}
	return d.edges(blocks, d.below(impl.MaxEdges+1), mosts[d.below(len(mosts))])
}

func (d *lots) mixedEdges(l []impl.Edge) []impl.Edge {
	var mixed []impl.Edge
	for _, at := range d.order(len(l)) {
		mixed = append(mixed, l[at])
	}
	return mixed
}

// runs draws words of which some are small, so that tests come out both ways.
func (d *lots) runs(count int) [][]int {
	var runs [][]int
	for range count {
		words := d.words()
		for name := range words {
			if d.below(2) == 0 {
				words[name] = d.below(3)
			}
		}
		runs = append(runs, words)
	}
	return runs
}

// fallingApart takes out the greatest Count again and again.
func fallingApart(l []impl.Edge) []impl.Edge {
	var falling []impl.Edge
	left := slices.Clone(l)
	for len(left) > 0 {
		greatest := 0
		for at, e := range left {
			if e.Count > left[greatest].Count {
				greatest = at
			}
		}
		falling = append(falling, left[greatest])
		left = slices.Delete(left, greatest, greatest+1)
	}
	return falling
}

// chainsApart lays chain behind chain, as lists of blocks.
func chainsApart(blocks int, l []impl.Edge) [][]int {
	chains := map[int][]int{}
	for block := range blocks {
		chains[block] = []int{block}
	}
	for _, e := range fallingApart(l) {
		to, isFirst := chains[e.To]
		if e.To == 0 || e.From == e.To || !isFirst {
			continue
		}
		for first, chain := range chains {
			if chain[len(chain)-1] == e.From && first != e.To {
				chains[first] = slices.Concat(chain, to)
				delete(chains, e.To)
				break
			}
		}
	}
	var all [][]int
	for block := range blocks {
		if chain, ok := chains[block]; ok {
			all = append(all, chain)
		}
	}
	return all
}

// layOutApart goes through the edges once for each chain that is left.
func layOutApart(blocks int, l []impl.Edge) []int {
	chains := chainsApart(blocks, l)
	order, left := chains[0], chains[1:]
	for len(left) > 0 {
		gone := make([]int, len(left))
		for at, chain := range left {
			for _, from := range order {
				for _, to := range chain {
					for _, e := range l {
						if e.From == from && e.To == to {
							gone[at] += e.Count
						}
					}
				}
			}
		}
		next := slices.Index(gone, slices.Max(gone))
		order = slices.Concat(order, left[next])
		left = slices.Concat(left[:next], left[next+1:])
	}
	return order
}

// straightApart goes along the layout.
func straightApart(l []impl.Edge, order []int) int {
	straight := 0
	for place, from := range order[:len(order)-1] {
		for _, e := range l {
			if e.From == from && e.To == order[place+1] {
				straight += e.Count
			}
		}
	}
	return straight
}

func allGone(l []impl.Edge) int {
	gone := 0
	for _, e := range l {
		gone += e.Count
	}
	return gone
}

// countApart asks for each pair of blocks how often it is on the ways.
func countApart(f []impl.Block, runs [][]int, fuel int) []impl.Edge {
	var paths [][]int
	for _, vars := range runs {
		_, _, path, _, _ := runFlowApart(f, vars, fuel)
		paths = append(paths, path)
	}
	var l []impl.Edge
	for from := range f {
		for to := range f {
			count := 0
			for _, path := range paths {
				for step := range path {
					count += oneWhere(step > 0 && path[step-1] == from && path[step] == to)
				}
			}
			if count > 0 {
				l = append(l, impl.Edge{From: from, To: to, Count: count})
			}
		}
	}
	return l
}

func layFlowApart(f []impl.Block, order []int) []impl.Block {
	laid := make([]impl.Block, len(f))
	for at, b := range cloneFlow(f) {
		// The end is in no order: it stays -1.
		b.Then, b.Else = slices.Index(order, b.Then), slices.Index(order, b.Else)
		laid[slices.Index(order, at)] = b
	}
	return laid
}

// numbersIn has the number that each block has in an order.
func numbersIn(order []int) []int {
	var numbers []int
	for block := range order {
		numbers = append(numbers, slices.Index(order, block))
	}
	return numbers
}

func checkGone(t *testing.T, blocks int, l []impl.Edge, order []int, straight int, jumps int) {
	t.Helper()
	if n, ok := impl.StraightIn(blocks, l, order); n != straight || !ok {
		t.Errorf("StraightIn(%d, %s, %v) = %d %v, not %d", blocks, edgesText(l), order, n, ok, straight)
	}
	if n, ok := impl.JumpsIn(blocks, l, order); n != jumps || !ok {
		t.Errorf("JumpsIn(%d, %s, %v) = %d %v, not %d", blocks, edgesText(l), order, n, ok, jumps)
	}
}

func checkLaidIn(t *testing.T, blocks int, l []impl.Edge, order []int) {
	t.Helper()
	if !impl.IsLayout(blocks, order) {
		t.Errorf("%v is a layout of %d blocks", order, blocks)
	}
	straight := straightApart(l, order)
	checkGone(t, blocks, l, order, straight, allGone(l)-straight)
}

func checkChained(t *testing.T, blocks int, l []impl.Edge, want [][]int) {
	t.Helper()
	if !impl.GoodEdges(blocks, l) {
		t.Errorf("GoodEdges(%d, %s) is false", blocks, edgesText(l))
	}
	if chains, ok := impl.ChainsOf(blocks, l); !sameLists(chains, want) || !ok {
		t.Errorf("ChainsOf(%d, %s) = %v %v, not %v", blocks, edgesText(l), chains, ok, want)
	}
}

func checkOrdered(t *testing.T, blocks int, l []impl.Edge, want []int) {
	t.Helper()
	if order, ok := impl.LayOut(blocks, l); !slices.Equal(order, want) || !ok {
		t.Errorf("LayOut(%d, %s) = %v %v, not %v", blocks, edgesText(l), order, ok, want)
	}
}

// checkLayout holds what is laid against what is laid apart, and asks for
// promise 11.
func checkLayout(t *testing.T, blocks int, l []impl.Edge) {
	t.Helper()
	checkChained(t, blocks, l, chainsApart(blocks, l))
	checkOrdered(t, blocks, l, layOutApart(blocks, l))
	order, _ := impl.LayOut(blocks, l)
	checkLaidIn(t, blocks, l, order)
	if len(l) == 0 {
		return
	}
	if e := fallingApart(l)[0]; e.To != 0 && e.From != e.To && slices.Index(order, e.To) != slices.Index(order, e.From)+1 {
		t.Errorf("LayOut(%d, %s) = %v: %v does not go straight on", blocks, edgesText(l), order, e)
	}
}

func checkCounted(t *testing.T, f []impl.Block, runs [][]int, fuel int, want []impl.Edge) {
	t.Helper()
	l, ok := impl.CountEdges(f, runs, fuel)
	if !slices.Equal(l, want) || !ok {
		t.Errorf("CountEdges(%v, %v, %d) = %s %v, not %s", f, runs, fuel, edgesText(l), ok, edgesText(want))
	}
	if !impl.GoodEdges(len(f), l) {
		t.Errorf("CountEdges(%v, %v, %d) = %s, which are no good edges", f, runs, fuel, edgesText(l))
	}
}

func checkLaidFlow(t *testing.T, f []impl.Block, order []int) {
	t.Helper()
	want := layFlowApart(f, order)
	if laid, ok := impl.LayFlow(f, order); !sameFlow(laid, want) || !ok {
		t.Errorf("LayFlow(%v, %v) = %v %v, not %v", f, order, laid, ok, want)
	}
}

// checkLaidRuns asks that a flow tells and leaves the same in another order.
func checkLaidRuns(t *testing.T, f []impl.Block, order []int, vars []int, fuel int) {
	t.Helper()
	laid, ok := impl.LayFlow(f, order)
	if !ok || !impl.GoodFlow(laid) || len(laid) != len(f) {
		t.Errorf("LayFlow(%v, %v) = %v %v", f, order, laid, ok)
		return
	}
	checkTellsSame(t, f, laid, numbersIn(order), vars, fuel)
	_, words, _, _ := impl.RunFlow(f, vars, fuel)
	if _, same, _, _ := impl.RunFlow(laid, vars, fuel); !slices.Equal(words, same) {
		t.Errorf("%v from %v leaves %v, but %v leaves %v", f, vars, words, laid, same)
	}
}

func checkGoneRefused(t *testing.T, blocks int, l []impl.Edge, order []int) {
	t.Helper()
	if n, ok := impl.StraightIn(blocks, l, order); n != 0 || ok {
		t.Error("StraightIn of", blocks, l, order, n, ok)
	}
	if n, ok := impl.JumpsIn(blocks, l, order); n != 0 || ok {
		t.Error("JumpsIn of", blocks, l, order, n, ok)
	}
}

// checkEdgesRefused asks all functions of the chapter that take edges.
func checkEdgesRefused(t *testing.T, blocks int, l []impl.Edge) {
	t.Helper()
	if impl.GoodEdges(blocks, l) {
		t.Error("GoodEdges of", blocks, l)
	}
	if chains, ok := impl.ChainsOf(blocks, l); len(chains) != 0 || ok {
		t.Error("ChainsOf of", blocks, l, chains, ok)
	}
	if order, ok := impl.LayOut(blocks, l); len(order) != 0 || ok {
		t.Error("LayOut of", blocks, l, order, ok)
	}
	for count := range impl.MaxBlocks + 2 {
		checkGoneRefused(t, blocks, l, rowOrder(count))
	}
}

// checkOrderRefused is for what is no layout of so many blocks.
func checkOrderRefused(t *testing.T, blocks int, order []int) {
	t.Helper()
	if impl.IsLayout(blocks, order) {
		t.Error("IsLayout of", blocks, order)
	}
	checkGoneRefused(t, blocks, nil, order)
	if blocks < 1 || blocks > impl.MaxBlocks {
		return
	}
	checkGoneRefused(t, blocks, []impl.Edge{{From: 0, To: blocks - 1, Count: 5}}, order)
	checkLayFlowRefused(t, make([]impl.Block, blocks), order)
}

func checkLayFlowRefused(t *testing.T, f []impl.Block, order []int) {
	t.Helper()
	if laid, ok := impl.LayFlow(f, order); len(laid) != 0 || ok {
		t.Error("LayFlow of", f, order, laid, ok)
	}
}

func checkCountRefused(t *testing.T, f []impl.Block, runs [][]int, fuel int) {
	t.Helper()
	if l, ok := impl.CountEdges(f, runs, fuel); len(l) != 0 || ok {
		t.Error("CountEdges of", f, runs, fuel, l, ok)
	}
}

func TestLayoutBounds(t *testing.T) {
	if impl.MaxEdges != 20 {
		t.Error(impl.MaxEdges)
	}
}

func TestGoodEdgesKnown(t *testing.T) {
	good := []struct {
		blocks int
		edges  string
	}{
		{1, ""}, {8, ""}, {1, "00:0"}, {1, "00:100000"}, {2, "00:1 01:2 10:3 11:4"}, {2, "11:100000 10:100000 01:0 00:0"},
		{8, "77:5 07:5 70:5"}, {3, "01:1 10:1"}, {3, "01:1 02:1 12:1 21:1"},
	}
	for _, k := range good {
		checkLayout(t, k.blocks, edgesAs(t, k.edges))
	}
	wrong := []struct {
		blocks int
		edges  string
	}{
		{0, ""}, {-1, ""}, {9, ""}, {0, "00:1"}, {9, "01:1"}, {1, "01:1"}, {1, "10:1"}, {1, "11:1"}, {2, "02:1"}, {2, "20:1"}, {7, "07:1"}, {7, "70:1"}, {8, "08:1"}, {8, "80:1"},
		{1, "00:-1"}, {1, "00:100001"}, {2, "01:1 10:-1"}, {2, "01:100001 10:1"}, {1, "00:1 00:1"}, {1, "00:1 00:2"},
		{2, "01:1 01:2"}, {2, "01:1 10:2 01:1"}, {8, "07:0 70:1 07:1"}, {3, "01:1 12:2 12:2"}, {3, "01:1 02:2 03:2"},
	}
	for _, k := range wrong {
		checkEdgesRefused(t, k.blocks, edgesAs(t, k.edges))
	}
}

func TestChainsOfKnown(t *testing.T) {
	known := []struct {
		blocks        int
		edges, chains string
	}{
		// No edges, and none that joins.
		{1, "", "0"}, {3, "", "0|1|2"}, {8, "", "0|1|2|3|4|5|6|7"}, {1, "00:5", "0"},
		{2, "01:5", "0 1"}, {2, "01:0", "0 1"}, {3, "12:0", "0|1 2"},
		// To block 0, and from a block to itself.
		{2, "10:5", "0|1"}, {2, "10:5 01:1", "0 1"}, {3, "20:9 12:5 01:1", "0 1 2"}, {3, "10:9 20:9 12:0", "0|1 2"}, {3, "12:9 20:8 10:7", "0|1 2"},
		{2, "00:9 11:9", "0|1"}, {2, "11:9 01:1", "0 1"}, {3, "11:9 22:8 12:5", "0|1 2"}, {3, "12:5 11:4 22:4", "0|1 2"},
		// By falling Count; of the same by place in the list.
		{3, "01:4 02:5", "0 2|1"}, {3, "01:5 02:4", "0 1|2"}, {3, "01:5 02:5", "0 1|2"}, {3, "02:5 01:5", "0 2|1"}, {3, "01:0 02:0", "0 1|2"}, {3, "02:0 01:0", "0 2|1"},
		{3, "02:5 12:5", "0 2|1"}, {3, "12:5 02:5", "0|1 2"}, {3, "12:5 21:5", "0|1 2"}, {3, "21:5 12:5", "0|2 1"},
		{4, "01:5 02:5 03:5", "0 1|2|3"}, {4, "03:5 01:5 02:5", "0 3|1|2"}, {4, "01:4 03:5 02:5", "0 3|1|2"}, {4, "01:99999 02:100000", "0 2|1|3"},
		// From is not the last of its chain: the first one, or in the midst.
		{4, "01:9 12:8 03:7", "0 1 2|3"}, {4, "01:9 12:8 13:7", "0 1 2|3"}, {4, "12:9 01:8 13:7", "0 1 2|3"}, {4, "01:9 12:8 23:7", "0 1 2 3"},
		// To is not the first of its chain: the last one, or in the midst.
		{4, "12:9 01:8 32:7", "0 1 2|3"}, {4, "12:9 01:8 31:7", "0 1 2|3"}, {5, "12:9 23:8 42:7", "0|1 2 3|4"}, {5, "12:9 23:8 41:7", "0|4 1 2 3"},
		// Within a chain: a ring is not closed.
		{3, "12:5 21:4", "0|1 2"}, {4, "12:9 23:8 31:7", "0|1 2 3"}, {4, "12:9 23:8 31:7 01:1", "0 1 2 3"}, {4, "23:9 12:8 31:7", "0|1 2 3"}, {4, "12:9 23:8 32:7 21:6 13:5", "0|1 2 3"},
		{8, "12:9 23:9 34:9 45:9 56:9 67:9 71:9", "0|1 2 3 4 5 6 7"}, {8, "71:9 67:9 56:9 45:9 34:9 23:9 12:9", "0|2 3 4 5 6 7 1"},
		// Two long chains become one, From's ahead.
		{5, "12:9 34:9 23:8", "0|1 2 3 4"}, {5, "12:9 34:9 41:8", "0|3 4 1 2"}, {5, "03:9 12:9 31:8", "0 3 1 2|4"}, {7, "12:9 34:9 56:9 45:8 23:7 01:6", "0 1 2 3 4 5 6"},
		// By the first blocks' numbers, whatever lies behind them.
		{4, "31:5", "0|2|3 1"}, {4, "21:5", "0|2 1|3"}, {4, "32:5", "0|1|3 2"}, {6, "51:9 42:8", "0|3|4 2|5 1"}, {6, "42:9 51:8", "0|3|4 2|5 1"}, {6, "05:9 41:8", "0 5|2|3|4 1"},
		{8, "76:9 65:8 54:7 43:6 32:5 21:4", "0|7 6 5 4 3 2 1"}, {8, "07:1 76:9 65:8 54:7 43:6 32:5 21:4", "0 7 6 5 4 3 2 1"},
		{4, "01:2 02:9 21:1 13:5 30:50", "0 2 1 3"},
	}
	for _, k := range known {
		l := edgesAs(t, k.edges)
		checkChained(t, k.blocks, l, chainsAs(t, k.chains))
		checkLayout(t, k.blocks, l)
	}
}

func TestLayOutKnown(t *testing.T) {
	known := []struct {
		blocks       int
		edges, order string
	}{
		{1, "", "0"}, {1, "00:7", "0"}, {4, "01:2 02:9 21:1 13:5 30:50", "0 2 1 3"},
		// Nothing is gone to the chains: as ChainsOf tells them.
		{3, "", "0 1 2"}, {8, "", "0 1 2 3 4 5 6 7"}, {4, "12:5", "0 1 2 3"}, {4, "31:5", "0 2 3 1"}, {4, "32:5 01:1", "0 1 3 2"}, {6, "51:9 42:8", "0 3 4 2 5 1"},
		{3, "10:5 20:9", "0 1 2"}, {6, "01:10 23:9 45:9 04:0", "0 1 2 3 4 5"},
		// To the first block of a chain, and to one behind it.
		{6, "01:10 23:9 45:9 04:3", "0 1 4 5 2 3"}, {6, "01:10 23:9 45:9 05:3", "0 1 4 5 2 3"}, {6, "01:10 23:9 45:9 15:3", "0 1 4 5 2 3"}, {6, "01:10 23:9 45:9 02:4 05:5", "0 1 4 5 2 3"},
		{6, "01:10 23:9 45:9 03:4 04:5", "0 1 4 5 2 3"}, {6, "01:10 23:9 45:9 03:5 05:4", "0 1 2 3 4 5"},
		// More by several edges together, from one block or from several.
		{6, "01:10 23:9 45:9 03:5 04:3 05:3", "0 1 4 5 2 3"}, {6, "01:10 23:9 45:9 03:5 04:3 15:3", "0 1 4 5 2 3"}, {6, "01:10 23:9 45:9 03:5 05:3 15:3", "0 1 4 5 2 3"}, {6, "01:10 23:9 45:9 03:7 04:3 05:3", "0 1 2 3 4 5"},
		// Several are as good: the first one as ChainsOf tells them.
		{6, "01:10 23:9 45:9 03:5 05:5", "0 1 2 3 4 5"}, {6, "01:10 45:9 23:9 05:5 03:5", "0 1 2 3 4 5"}, {6, "01:10 23:9 45:9 03:6 04:3 05:3", "0 1 2 3 4 5"}, {6, "52:9 34:9 01:10 02:4 04:4", "0 1 3 4 5 2"},
		// What is gone from a chain that is not laid does not count, once it is laid it does.
		{6, "01:10 23:9 45:9 25:8 03:1", "0 1 2 3 4 5"}, {6, "01:10 23:9 45:9 43:8 05:1", "0 1 4 5 2 3"}, {8, "01:10 23:9 45:9 67:9 07:3 64:8", "0 1 6 7 4 5 2 3"}, {8, "01:10 23:9 45:9 67:9 65:8 43:7", "0 1 2 3 4 5 6 7"},
		{8, "01:10 23:9 45:9 67:9 03:2 07:3 25:5 64:4", "0 1 6 7 4 5 2 3"}, {8, "01:10 23:9 45:9 67:9 03:4 07:5 63:1 65:5", "0 1 6 7 2 3 4 5"},
		// What is gone within a chain, and back to what is laid, does not count.
		{6, "01:10 23:9 45:9 32:8 54:7 03:1", "0 1 2 3 4 5"}, {6, "01:10 23:9 45:9 54:8 40:8 41:8 03:1", "0 1 2 3 4 5"},
	}
	for _, k := range known {
		l := edgesAs(t, k.edges)
		checkOrdered(t, k.blocks, l, numbersAs(t, k.order))
		checkLayout(t, k.blocks, l)
	}
}

func TestStraightAndJumpsKnown(t *testing.T) {
	known := []struct {
		blocks          int
		edges, order    string
		straight, jumps int
	}{
		// One block alone.
		{1, "", "0", 0, 0}, {1, "00:7", "0", 0, 7}, {1, "00:0", "0", 0, 0},
		// To the block right behind, back, to itself, over others.
		{2, "01:5", "0 1", 5, 0}, {2, "10:5", "0 1", 0, 5}, {2, "11:5", "0 1", 0, 5}, {2, "00:5", "0 1", 0, 5}, {2, "01:5 10:3 00:2 11:1", "0 1", 5, 6},
		{3, "02:9", "0 1 2", 0, 9}, {3, "02:9", "0 2 1", 9, 0}, {3, "21:9", "0 1 2", 0, 9}, {3, "21:9", "0 2 1", 9, 0}, {3, "12:9", "0 2 1", 0, 9},
		// From the last one to the first.
		{3, "20:9", "0 1 2", 0, 9}, {3, "10:9", "0 2 1", 0, 9}, {2, "10:9 01:1", "0 1", 1, 9},
		{3, "01:5 12:3 02:2", "0 1 2", 8, 2}, {3, "01:5 12:3 02:2", "0 2 1", 2, 8}, {4, "01:1 02:2 03:4 12:8 13:16 23:32", "0 1 2 3", 41, 22}, {4, "01:1 02:2 03:4 12:8 13:16 23:32", "0 3 2 1", 4, 59},
		// Counts of 0, and the greatest ones.
		{3, "01:0 12:0 20:0", "0 1 2", 0, 0}, {3, "01:0 12:3 20:4", "0 1 2", 3, 4}, {3, "01:100000 12:100000 20:100000", "0 1 2", 200000, 100000},
		{4, "01:2 02:9 21:1 13:5 30:50", "0 2 1 3", 15, 52}, {4, "", "0 2 1 3", 0, 0},
		{8, "07:1 76:1 65:1 54:1 43:1 32:1 21:1 10:1", "0 7 6 5 4 3 2 1", 7, 1}, {8, "07:1 76:1 65:1 54:1 43:1 32:1 21:1 10:1", "0 1 2 3 4 5 6 7", 0, 8},
	}
	for _, k := range known {
		l, order := edgesAs(t, k.edges), numbersAs(t, k.order)
		checkGone(t, k.blocks, l, order, k.straight, k.jumps)
		checkLaidIn(t, k.blocks, l, order)
	}
}

// Lists of up to five numbers, such that are no blocks too.
func TestIsLayoutOfAllShortOrders(t *testing.T) {
	good := [5]int{}
	var check func(order []int)
	check = func(order []int) {
		for blocks := range 5 {
			sorted := slices.Sorted(slices.Values(order))
			if blocks > 0 && slices.Equal(sorted, rowOrder(blocks)) && order[0] == 0 {
				checkLaidIn(t, blocks, nil, order)
				checkLaidFlow(t, make([]impl.Block, blocks), order)
				good[blocks]++
			} else {
				checkOrderRefused(t, blocks, order)
			}
		}
		if len(order) == 5 {
			return
		}
		for number := -1; number <= 4; number++ {
			check(append(slices.Clone(order), number))
		}
	}
	check(nil)
	if good != [5]int{0, 1, 1, 2, 6} {
		t.Error(good)
	}
}

func TestIsLayoutOfMaxBlocks(t *testing.T) {
	layouts := layoutsUpTo(impl.MaxBlocks)
	if len(layouts) != 5040 {
		t.Error(len(layouts))
	}
	for _, order := range layouts {
		if !impl.IsLayout(impl.MaxBlocks, order) {
			t.Error(order, "is a layout")
		}
		for _, blocks := range []int{1, 7, 9} {
			if impl.IsLayout(blocks, order) {
				t.Error(order, "is no layout of", blocks)
			}
		}
		other := slices.Clone(order)
		other[0], other[1] = other[1], other[0]
		if impl.IsLayout(impl.MaxBlocks, other) {
			t.Error(other, "does not begin with 0")
		}
	}
	checkOrderRefused(t, impl.MaxBlocks+1, rowOrder(impl.MaxBlocks+1))
}

// eachEdges calls for all Counts below most of all edges with some ends, or
// without the edge.
func eachEdges(ends [][2]int, most int, call func(l []impl.Edge)) {
	if len(ends) == 0 {
		call(nil)
		return
	}
	last := ends[len(ends)-1]
	eachEdges(ends[:len(ends)-1], most, func(l []impl.Edge) {
		call(l)
		for count := range most {
			call(append(slices.Clone(l), impl.Edge{From: last[0], To: last[1], Count: count}))
		}
	})
}

func endsOf(blocks int) [][2]int {
	var ends [][2]int
	for from := range blocks {
		for to := range blocks {
			ends = append(ends, [2]int{from, to})
		}
	}
	return ends
}

// Promise 11: all edges of two blocks with three Counts, in each order of the
// list.
func TestLayOutOfTwoBlocks(t *testing.T) {
	lists := 0
	eachEdges(endsOf(2), 3, func(l []impl.Edge) {
		for _, order := range ordersUpTo(len(l)) {
			var mixed []impl.Edge
			for _, at := range order {
				mixed = append(mixed, l[at])
			}
			checkLayout(t, 2, mixed)
			lists++
		}
	})
	if want := 1 + 4*3 + 6*9*2 + 4*27*6 + 81*24; lists != want {
		t.Error(lists, want)
	}
}

// Promise 11: all edges of three blocks with two Counts; of four blocks those
// that may join.
func TestLayOutOfSmallEdges(t *testing.T) {
	d := &lots{state: 1990}
	lists := 0
	for blocks := 3; blocks <= 4; blocks++ {
		ends := slices.DeleteFunc(endsOf(blocks), func(e [2]int) bool {
			return blocks == 4 && (e[1] == 0 || e[0] == e[1])
		})
		layouts := layoutsUpTo(blocks)
		eachEdges(ends, 2, func(l []impl.Edge) {
			checkLayout(t, blocks, l)
			checkLayout(t, blocks, d.mixedEdges(l))
			checkLaidIn(t, blocks, l, layouts[lists%len(layouts)])
			lists++
		})
	}
	if lists != 2*19683 {
		t.Error(lists)
	}
}

// Promise 11: many edges up to MaxBlocks and MaxEdges.
func TestLayOutOfManyEdges(t *testing.T) {
	d := &lots{state: 11}
	joins, long, moved := 0, 0, 0
	for round := range 20000 {
		blocks := 1 + round%impl.MaxBlocks
		l := d.someEdges(blocks)
		checkLayout(t, blocks, l)
		checkLaidIn(t, blocks, l, d.layout(blocks))
		if t.Failed() {
			return
		}
		chains, _ := impl.ChainsOf(blocks, l)
		order, _ := impl.LayOut(blocks, l)
		joins += oneWhere(len(chains) < blocks)
		long += oneWhere(len(chains) > 2 && len(chains) < blocks)
		moved += oneWhere(!slices.Equal(order, slices.Concat(chains...)))
	}
	if joins < 10000 || long < 2000 || moved < 500 {
		t.Error("too few chains:", joins, long, moved)
	}
}

// Chains have each block once, and of each edge but those that are passed by
// something stands in the way, where it does not go straight on in a chain.
func TestChainsOfLeaveNothingToJoin(t *testing.T) {
	d := &lots{state: 411}
	for round := range 5000 {
		blocks := 1 + round%impl.MaxBlocks
		l := d.someEdges(blocks)
		chains, ok := impl.ChainsOf(blocks, l)
		if !ok || !slices.Equal(slices.Sorted(slices.Values(slices.Concat(chains...))), rowOrder(blocks)) || chains[0][0] != 0 {
			t.Fatal(blocks, edgesText(l), chains, ok)
		}
		for at, chain := range chains {
			if at > 0 && chain[0] <= chains[at-1][0] {
				t.Error(blocks, edgesText(l), "chains out of order", chains)
			}
			for _, e := range l {
				isFirst := e.To != 0 && chain[0] == e.To
				for other, ahead := range chains {
					if isFirst && other != at && ahead[len(ahead)-1] == e.From {
						t.Error(blocks, edgesText(l), "not joined", e, chains)
					}
				}
			}
			for place := 1; place < len(chain); place++ {
				isEdge := func(e impl.Edge) bool { return e.From == chain[place-1] && e.To == chain[place] }
				if !slices.ContainsFunc(l, isEdge) {
					t.Error(blocks, edgesText(l), "joined by no edge", chain)
				}
			}
		}
	}
}

// In a layout chains stay whole, and so goes straight on what does in them.
func TestLayOutKeepsChains(t *testing.T) {
	d := &lots{state: 1111}
	for round := range 3000 {
		blocks := 1 + round%impl.MaxBlocks
		l := d.someEdges(blocks)
		chains, _ := impl.ChainsOf(blocks, l)
		order, ok := impl.LayOut(blocks, l)
		if !ok || !impl.IsLayout(blocks, order) {
			t.Fatal(blocks, edgesText(l), order, ok)
		}
		within := 0
		for _, chain := range chains {
			place := slices.Index(order, chain[0])
			if place+len(chain) > blocks || !slices.Equal(order[place:place+len(chain)], chain) {
				t.Fatal(blocks, edgesText(l), order, chains)
			}
			within += straightApart(l, chain)
		}
		if straight, ok := impl.StraightIn(blocks, l, order); straight < within || !ok {
			t.Error(blocks, edgesText(l), order, straight, ok, "but in chains", within)
		}
	}
}

// fullEdges has as many edges as there may be, of all blocks.
func fullEdges(count int) []impl.Edge {
	var l []impl.Edge
	for number := range impl.MaxEdges {
		l = append(l, impl.Edge{From: number % 8, To: (number + 1 + number/8) % 8, Count: count})
	}
	return l
}

func TestLayoutAtTheBounds(t *testing.T) {
	for _, count := range []int{0, 1, 99999, 100000} {
		l := fullEdges(count)
		checkChained(t, 8, l, [][]int{{0, 1, 2, 3, 4, 5, 6, 7}})
		checkOrdered(t, 8, l, rowOrder(8))
		checkGone(t, 8, l, rowOrder(8), 7*count, 13*count)
		checkGone(t, 8, l, []int{0, 2, 4, 6, 1, 3, 5, 7}, 6*count, 14*count)
		checkLayout(t, 8, l)
		slices.Reverse(l)
		checkLayout(t, 8, l)
		for _, e := range []impl.Edge{{From: 7, To: 7, Count: count}, {From: 7, To: 6, Count: count}, {}} {
			checkEdgesRefused(t, 8, append(slices.Clone(l), e))
		}
		checkLayout(t, 8, l[:19])
		checkEdgesRefused(t, 8, slices.Repeat(l, 2))
	}
	for blocks := 1; blocks <= impl.MaxBlocks; blocks++ {
		last := blocks - 1
		checkLayout(t, blocks, nil)
		checkLayout(t, blocks, []impl.Edge{})
		checkLayout(t, blocks, []impl.Edge{{From: last, To: last, Count: 100000}})
		checkEdgesRefused(t, blocks, []impl.Edge{{From: blocks, To: 0, Count: 1}})
		checkEdgesRefused(t, blocks, []impl.Edge{{From: 0, To: blocks, Count: 1}})
		for _, count := range []int{0, 100000} {
			checkLayout(t, blocks, []impl.Edge{{From: 0, To: last, Count: count}})
		}
	}
}

// runWith has the first words of a run; all others are 0.
func runWith(words ...int) []int {
	return append(slices.Clone(words), make([]int, impl.MaxVars-len(words))...)
}

func TestCountEdgesKnown(t *testing.T) {
	two := []string{". a 1 1", ". a 0 0"}
	fork := []string{". a 1 2", "!a a -1 -1", "!b a -1 -1"}
	down := []string{"b=1;a=a-b;!a a 0 -1"}
	known := []struct {
		rows  []string
		runs  [][]int
		fuel  int
		edges string
	}{
		{[]string{". a -1 -1"}, [][]int{runWith()}, 9, ""},
		// Around a ring, and at one block.
		{two, [][]int{runWith()}, 5, "01:2 10:2"}, {two, [][]int{runWith()}, 6, "01:3 10:2"}, {two, [][]int{runWith()}, 300, "01:150 10:149"},
		{down, [][]int{runWith(3)}, 9, "00:2"}, {down, [][]int{runWith(1)}, 9, ""}, {down, [][]int{runWith(300)}, 300, "00:299"},
		// Fuel 0, no runs, and fuel that ends ahead of the flow.
		{two, [][]int{runWith()}, 0, ""}, {two, [][]int{runWith()}, 1, ""}, {two, [][]int{runWith()}, 2, "01:1"}, {two, nil, 9, ""}, {two, [][]int{}, 0, ""}, {two, nil, 300, ""},
		{down, [][]int{runWith(9)}, 4, "00:3"}, {down, [][]int{runWith(9)}, 9, "00:8"}, {down, [][]int{runWith(0)}, 300, "00:299"},
		// Several runs over one edge, and over others.
		{fork, [][]int{runWith(1)}, 9, "01:1"}, {fork, [][]int{runWith(0)}, 9, "02:1"}, {fork, [][]int{runWith(1), runWith(0), runWith(65535)}, 9, "01:2 02:1"},
		{fork, [][]int{runWith(0), runWith(0), runWith(0)}, 9, "02:3"}, {down, [][]int{runWith(3), runWith(1), runWith(5), runWith(3)}, 9, "00:8"},
		{two, slices.Repeat([][]int{runWith()}, 10), 4, "01:20 10:10"}, {down, slices.Repeat([][]int{runWith(0)}, 10), 300, "00:2990"},
		// One run's fuel ends, the others' flows do.
		{down, [][]int{runWith(2), runWith(8), runWith(3)}, 3, "00:5"},
		// By From, then by To, and not as they are gone.
		{[]string{". a 2 2", ". a 3 3", ". a 1 1", ". a -1 -1"}, [][]int{runWith()}, 9, "02:1 13:1 21:1"}, {fork, [][]int{runWith(0), runWith(1)}, 9, "01:1 02:1"},
		{[]string{". a 7 7", ". a 0 0", ". a 1 1", ". a 2 2", ". a 3 3", ". a 4 4", ". a 5 5", ". a 6 6"}, [][]int{runWith()}, 17, "07:2 10:2 21:2 32:2 43:2 54:2 65:2 76:2"},
		{[]string{". a 2 1", "a=1 a 0 0", ". b 0 -1"}, [][]int{runWith()}, 9, "01:1 02:1 10:1"},
		// Both ways to one block are one edge; the end is no block.
		{[]string{"b=1;a=b-a a 1 1", ". b 0 -1"}, [][]int{runWith()}, 5, "01:2 10:2"}, {[]string{". a -1 0"}, [][]int{runWith(7)}, 9, ""}, {[]string{". a 0 -1"}, [][]int{runWith(7)}, 9, "00:8"},
	}
	for _, k := range known {
		f := flowAs(t, k.rows...)
		checkCounted(t, f, k.runs, k.fuel, edgesAs(t, k.edges))
		checkCounted(t, f, k.runs, k.fuel, countApart(f, k.runs, k.fuel))
	}
}

// Each block of a flow goes on at two at most: so MaxBlocks have fewer edges
// than MaxEdges, and one more does not come.
func TestCountEdgesOfAsManyAsCanBe(t *testing.T) {
	if 2*impl.MaxBlocks > impl.MaxEdges {
		t.Error("there may be too many edges")
	}
	var f []impl.Block
	for at := range impl.MaxBlocks {
		// The highest bit of a number that is drawn anew in each block.
		code := readAs(t, "g=25173;f=13849;e=32768;h=h*g;h=h+f;a=h<e")
		f = append(f, impl.Block{Code: code, Then: 2 * at % impl.MaxBlocks, Else: (2*at + 1) % impl.MaxBlocks})
	}
	var runs [][]int
	for first := range 10 {
		runs = append(runs, []int{7: 4096 * first})
	}
	l, ok := impl.CountEdges(f, runs, impl.MaxFuel)
	if len(l) != 16 || !ok || allGone(l) != 10*(impl.MaxFuel-1) {
		t.Error(edgesText(l), ok)
	}
	checkCounted(t, f, runs, impl.MaxFuel, countApart(f, runs, impl.MaxFuel))
	checkLayout(t, impl.MaxBlocks, l)
	checkCountRefused(t, f, append(runs, runs[0]), impl.MaxFuel)
}

func TestCountEdgesOfManyFlows(t *testing.T) {
	d := &lots{state: 2011}
	several := 0
	for round := range 2500 {
		f := d.flow(1+round%impl.MaxBlocks, round%7)
		runs := d.runs(d.below(11))
		for _, fuel := range []int{0, 1, 2, d.below(30), impl.MaxFuel} {
			checkCounted(t, f, runs, fuel, countApart(f, runs, fuel))
		}
		l, _ := impl.CountEdges(f, runs, impl.MaxFuel)
		checkLayout(t, len(f), l)
		several += oneWhere(len(l) > 2)
		if t.Failed() {
			return
		}
	}
	if several < 500 {
		t.Error("only", several, "flows with several edges")
	}
}

// The edges of all runs together are those of each run, added up.
func TestCountEdgesAddsRuns(t *testing.T) {
	d := &lots{state: 10}
	for round := range 500 {
		f, runs := d.flow(1+round%impl.MaxBlocks, 5), d.runs(10)
		counts := map[[2]int]int{}
		for _, vars := range runs {
			l, _ := impl.CountEdges(f, [][]int{vars}, 40)
			for _, e := range l {
				counts[[2]int{e.From, e.To}] += e.Count
			}
		}
		l, ok := impl.CountEdges(f, runs, 40)
		if len(l) != len(counts) || !ok {
			t.Error(f, runs, l, ok, counts)
		}
		for _, e := range l {
			if counts[[2]int{e.From, e.To}] != e.Count {
				t.Error(f, runs, l, counts)
			}
		}
	}
}

func TestLayFlowKnown(t *testing.T) {
	known := []struct {
		rows, laid []string
		order      string
	}{
		{[]string{"!a a -1 -1"}, []string{"!a a -1 -1"}, "0"}, {[]string{"!a b 0 -1"}, []string{"!a b 0 -1"}, "0"},
		{[]string{". a 2 2", "!a a -1 -1", ". b 1 1"}, []string{". a 1 1", ". b 2 2", "!a a -1 -1"}, "0 2 1"},
		{[]string{". a 1 2", "!b b 2 -1", "!c c -1 1"}, []string{". a 2 1", "!c c -1 2", "!b b 1 -1"}, "0 2 1"},
		{[]string{". a 1 2", "!b b 2 -1", "!c c -1 1"}, []string{". a 1 2", "!b b 2 -1", "!c c -1 1"}, "0 1 2"},
		// Ends stay ends, blocks that go on to themselves and to block 0 do so.
		{[]string{"a=1 a -1 -1", "b=2 b -1 -1", "c=3 c -1 -1"}, []string{"a=1 a -1 -1", "c=3 c -1 -1", "b=2 b -1 -1"}, "0 2 1"},
		{[]string{"a=1 a 0 -1", "b=2 b 1 0", "c=3 c 0 2"}, []string{"a=1 a 0 -1", "c=3 c 0 1", "b=2 b 2 0"}, "0 2 1"},
		// An order that is not its own way back.
		{[]string{"a=1 a 1 2", "b=2 b 2 3", "c=3 c 3 0", "d=4 d 0 1"}, []string{"a=1 a 3 1", "c=3 c 2 0", "d=4 d 0 3", "b=2 b 1 2"}, "0 2 3 1"},
		{[]string{"a=1 a 1 2", "b=2 b 2 3", "c=3 c 3 0", "d=4 d 0 1"}, []string{"a=1 a 2 3", "d=4 d 0 2", "b=2 b 3 1", "c=3 c 1 0"}, "0 3 1 2"},
		{
			[]string{". a 1 -1", ". b 2 -1", ". c 3 -1", ". d 4 -1", ". e 5 -1", ". f 6 -1", ". g 7 -1", "!h h -1 -1"},
			[]string{". a 7 -1", "!h h -1 -1", ". g 1 -1", ". f 2 -1", ". e 3 -1", ". d 4 -1", ". c 5 -1", ". b 6 -1"}, "0 7 6 5 4 3 2 1",
		},
	}
	for _, k := range known {
		f, want, order := flowAs(t, k.rows...), flowAs(t, k.laid...), numbersAs(t, k.order)
		if laid, ok := impl.LayFlow(f, order); !sameFlow(laid, want) || !ok {
			t.Errorf("LayFlow(%v, %v) = %v %v, not %v", f, order, laid, ok, want)
		}
		checkLaidFlow(t, f, order)
		for _, vars := range [][]int{runWith(), runWith(1, 1, 1, 1, 1, 1, 1, 1), runWith(1, 0, 2)} {
			for _, fuel := range []int{0, 1, 2, 9, impl.MaxFuel} {
				checkLaidRuns(t, f, order, vars, fuel)
			}
		}
	}
}

// A flow in each layout tells the same, and is itself in its own one.
func TestLayFlowInAllLayouts(t *testing.T) {
	d := &lots{state: 55}
	for blocks := 1; blocks <= 5; blocks++ {
		for range 12 {
			f, vars := d.flow(blocks, 4), d.words()
			for _, order := range layoutsUpTo(blocks) {
				checkLaidFlow(t, f, order)
				checkLaidRuns(t, f, order, vars, 20)
			}
			if same, ok := impl.LayFlow(f, rowOrder(blocks)); !sameFlow(same, f) || !ok {
				t.Error(f, same, ok)
			}
		}
	}
}

func TestLayFlowOfManyFlows(t *testing.T) {
	d := &lots{state: 1991}
	ended := 0
	for round := range 2500 {
		f := d.flow(1+round%impl.MaxBlocks, round%9)
		if round%5 == 0 {
			f[d.below(len(f))].Code = d.code(impl.MaxCode)
		}
		order := d.layout(len(f))
		checkLaidFlow(t, f, order)
		for _, vars := range d.runs(3) {
			for _, fuel := range []int{d.below(20), impl.MaxFuel} {
				checkLaidRuns(t, f, order, vars, fuel)
			}
			_, _, visits, ok := impl.RunFlow(f, vars, impl.MaxFuel)
			ended += oneWhere(ok && visits > 2)
		}
		laid, _ := impl.LayFlow(f, order)
		if back, ok := impl.LayFlow(laid, numbersIn(order)); !sameFlow(back, f) || !ok {
			t.Errorf("%v laid as %v and back is %v %v", f, order, back, ok)
		}
		if t.Failed() {
			return
		}
	}
	if ended < 500 {
		t.Error("only", ended, "runs that end behind several blocks")
	}
}

// Promise 11, from the runs to the flow that is laid: its edges are those of
// the flow with the new numbers, and what goes straight on in the order goes
// on at the next block.
func TestFlowsLaidByTheirRuns(t *testing.T) {
	d := &lots{state: 90}
	better := 0
	for round := range 2000 {
		f, runs := d.flow(1+round%impl.MaxBlocks, 1+round%6), d.runs(1+d.below(10))
		l, _ := impl.CountEdges(f, runs, 60)
		order, _ := impl.LayOut(len(f), l)
		laid, ok := impl.LayFlow(f, order)
		if !ok {
			t.Fatal(f, order)
		}
		numbers := numbersIn(order)
		var want []impl.Edge
		for _, e := range l {
			want = append(want, impl.Edge{From: numbers[e.From], To: numbers[e.To], Count: e.Count})
		}
		slices.SortFunc(want, func(a impl.Edge, b impl.Edge) int { return 8*(a.From-b.From) + a.To - b.To })
		checkCounted(t, laid, runs, 60, want)
		straight, _ := impl.StraightIn(len(f), l, order)
		jumps, _ := impl.JumpsIn(len(f), l, order)
		checkGone(t, len(f), want, rowOrder(len(f)), straight, jumps)
		before, _ := impl.StraightIn(len(f), l, rowOrder(len(f)))
		better += oneWhere(straight > before)
		for _, vars := range runs {
			checkLaidRuns(t, f, order, vars, 60)
		}
		if t.Failed() {
			return
		}
	}
	if better < 300 {
		t.Error("only", better, "flows go straighter on")
	}
}

func notBlocks() []int {
	return []int{math.MinInt, math.MinInt + 1, -1 << 32, -8, -1, 0, 9, 10, 20, 1000, 1 << 32, 1<<32 + 1, 1<<32 + 8, math.MaxInt - 1, math.MaxInt}
}

func TestLayoutRefusesWrongBlocks(t *testing.T) {
	for _, blocks := range notBlocks() {
		checkEdgesRefused(t, blocks, nil)
		checkEdgesRefused(t, blocks, []impl.Edge{})
		checkEdgesRefused(t, blocks, []impl.Edge{{}})
		checkEdgesRefused(t, blocks, edgesAs(t, "01:5 12:4"))
		checkEdgesRefused(t, blocks, []impl.Edge{{From: blocks - 1, To: blocks - 1, Count: 1}})
		for count := range 12 {
			checkOrderRefused(t, blocks, rowOrder(count))
		}
	}
	checkOrderRefused(t, 9, rowOrder(9))
	checkOrderRefused(t, 1000, rowOrder(1000))
	checkOrderRefused(t, 0, nil)
}

func TestLayoutRefusesWrongEdges(t *testing.T) {
	ends := []int{math.MinInt, math.MinInt + 1, -1 << 32, -4, -1, 4, 5, 7, 8, 1 << 32, 1<<32 + 1, math.MaxInt - 1, math.MaxInt}
	for _, end := range ends {
		for at := range 4 {
			l := edgesAs(t, "01:2 02:9 13:5 30:50")
			l[at].From = end
			checkEdgesRefused(t, 4, l)
			l[at].To = end
			checkEdgesRefused(t, 4, l)
			l[at].From = 2
			checkEdgesRefused(t, 4, l)
		}
	}
	counts := []int{math.MinInt, math.MinInt + 1, -1 << 32, -100000, -2, -1, 100001, 100002, 1 << 20, 1 << 32, 1<<32 + 1, 1<<32 + 100000, math.MaxInt - 1, math.MaxInt}
	for _, count := range counts {
		for at := range 4 {
			l := edgesAs(t, "01:2 02:9 13:5 30:50")
			l[at].Count = count
			checkEdgesRefused(t, 4, l)
		}
		// Also where the edge is passed by.
		checkEdgesRefused(t, 4, []impl.Edge{{From: 2, To: 2, Count: count}})
		checkEdgesRefused(t, 4, []impl.Edge{{From: 2, To: 0, Count: count}})
	}
}

// Two of one From and one To, wherever they are, whatever their Counts.
func TestLayoutRefusesEdgesTwice(t *testing.T) {
	for blocks := 1; blocks <= impl.MaxBlocks; blocks++ {
		for _, e := range endsOf(blocks) {
			for count := range 2 {
				l := []impl.Edge{{From: e[0], To: e[1], Count: 1}, {From: e[0], To: e[1], Count: count}}
				checkEdgesRefused(t, blocks, l)
				if other := (impl.Edge{From: e[1], To: e[0], Count: 7}); e[0] != e[1] {
					checkEdgesRefused(t, blocks, slices.Insert(l, 1, other))
					checkLayout(t, blocks, []impl.Edge{l[0], other})
				}
			}
		}
	}
	l := fullEdges(5)
	for at := range l {
		for other := range at {
			twice := slices.Clone(l)
			twice[at].From, twice[at].To = l[other].From, l[other].To
			checkEdgesRefused(t, 8, twice)
		}
	}
}

func TestLayoutRefusesTooManyEdges(t *testing.T) {
	d := &lots{state: 21}
	for _, count := range []int{21, 22, 40, 64} {
		checkEdgesRefused(t, 8, d.edges(8, count, 5))
	}
	checkEdgesRefused(t, 5, d.edges(5, 21, 5))
	checkEdgesRefused(t, 5, d.edges(5, 25, 5))
	checkEdgesRefused(t, 8, make([]impl.Edge, 100000))
	checkLayout(t, 5, d.edges(5, 20, 5))
	checkLayout(t, 4, d.edges(4, 16, 5))
}

func TestLayoutRefusesWrongOrders(t *testing.T) {
	l := edgesAs(t, "01:2 02:9 21:1 13:5 30:50")
	f := flowAs(t, ". a 1 2", ". a 2 -1", "!a a 3 0", "!b b -1 -1")
	for _, text := range []string{
		"", "0", "0 1", "0 1 2", "0 1 2 3 4", "0 1 2 3 0", "0 1 2 3 -1", "0 1 2 3 0 1 2 3",
		"0 0 1 2", "0 1 1 2", "0 1 2 2", "0 3 3 3", "0 0 0 0", "0 1 2 4", "0 4 1 2", "0 1 2 -1", "0 -1 1 2", "4 1 2 3",
		"1 0 2 3", "3 2 1 0", "2 3 0 1", "1 2 3 0", "-1 0 1 2",
	} {
		order := numbersAs(t, text)
		checkOrderRefused(t, 4, order)
		checkGoneRefused(t, 4, l, order)
		checkLayFlowRefused(t, f, order)
	}
	for _, number := range []int{math.MinInt, math.MinInt + 1, -1 << 32, -4, -1, 4, 5, 8, 1 << 32, 1<<32 + 1, math.MaxInt - 1, math.MaxInt} {
		for at := range 4 {
			order := rowOrder(4)
			order[at] = number
			checkOrderRefused(t, 4, order)
			checkGoneRefused(t, 4, l, order)
			checkLayFlowRefused(t, f, order)
		}
		checkOrderRefused(t, 1, []int{number})
	}
	checkOrderRefused(t, 4, make([]int, 100000))
	checkOrderRefused(t, 1, []int{0, 0})
	checkLayFlowRefused(t, f, nil)
}

func TestLayFlowRefusesWrongFlows(t *testing.T) {
	for _, f := range wrongFlows(t) {
		for count := range 10 {
			checkLayFlowRefused(t, f, rowOrder(count))
		}
		checkLayFlowRefused(t, f, rowOrder(len(f)))
		checkLayFlowRefused(t, f, []int{0, 2, 1})
	}
}

func TestCountEdgesRefusesWrongFlows(t *testing.T) {
	for _, f := range wrongFlows(t) {
		for _, runs := range [][][]int{nil, {}, {zeroWords()}, slices.Repeat([][]int{zeroWords()}, 10)} {
			for _, fuel := range []int{0, 10, impl.MaxFuel} {
				checkCountRefused(t, f, runs, fuel)
			}
		}
	}
}

func TestCountEdgesRefusesWrongRuns(t *testing.T) {
	good := [][]int{runWith(1), runWith(2), runWith(3)}
	for _, f := range [][]impl.Block{flowAs(t, ". a -1 -1"), countDown(t), flowAs(t, "a=5;!h a 1 1", ". h 0 -1")} {
		for _, count := range []int{11, 12, 100} {
			for _, fuel := range []int{0, 10, impl.MaxFuel} {
				checkCountRefused(t, f, slices.Repeat([][]int{zeroWords()}, count), fuel)
			}
		}
		checkCountRefused(t, f, make([][]int, 100000), 10)
		for _, words := range []int{0, 1, 7, 9, 16, 1000} {
			for at := range 4 {
				checkCountRefused(t, f, slices.Insert(slices.Clone(good), at, make([]int, words)), 10)
			}
		}
		checkCountRefused(t, f, [][]int{nil}, 10)
		for _, word := range noWords() {
			for name := range impl.MaxVars {
				vars := zeroWords()
				vars[name] = word
				for at := range 4 {
					checkCountRefused(t, f, slices.Insert(slices.Clone(good), at, vars), 10)
				}
				checkCountRefused(t, f, [][]int{vars}, 0)
			}
		}
	}
}

func TestCountEdgesRefusesWrongFuel(t *testing.T) {
	for _, f := range [][]impl.Block{flowAs(t, ". a -1 -1"), countDown(t), flowAs(t, "a=5;!h a 1 1", ". h 0 -1")} {
		for _, fuel := range []int{math.MinInt, math.MinInt + 1, -1 << 32, -300, -2, -1, 301, 302, 65536, 1 << 32, 1<<32 + 1, math.MaxInt - 1, math.MaxInt} {
			for _, runs := range [][][]int{nil, {}, {zeroWords()}, slices.Repeat([][]int{runWith(2)}, 10)} {
				checkCountRefused(t, f, runs, fuel)
			}
		}
	}
}

func behindEdges(l []impl.Edge) []impl.Edge {
	return append(slices.Clone(l), impl.Edge{From: 0, To: 0, Count: 9}, impl.Edge{From: -5, To: 99, Count: -1})[:len(l)]
}

// Promise 19: nothing is written into what is handed in, nor behind it.
func TestLayoutLeavesWhatIsHandedIn(t *testing.T) {
	d := &lots{state: 1919}
	for range 600 {
		blocks := 1 + d.below(impl.MaxBlocks)
		l, order := behindEdges(d.someEdges(blocks)), behindNumbers(d.layout(blocks))
		kept, keptOrder := slices.Clone(l[:cap(l)]), slices.Clone(order[:cap(order)])
		checkLayout(t, blocks, l)
		checkLaidIn(t, blocks, l, order)
		checkEdgesRefused(t, blocks-10, l)
		checkEdgesRefused(t, blocks, l[:cap(l)])
		checkOrderRefused(t, blocks, order[:blocks-1])
		checkOrderRefused(t, blocks, order[:blocks+1])
		if !slices.Equal(l[:cap(l)], kept) || !slices.Equal(order[:cap(order)], keptOrder) {
			t.Fatal("something was written into", blocks, l, order)
		}
	}
}

func TestFlowsThatAreLaidAreLeft(t *testing.T) {
	d := &lots{state: 191919}
	for range 300 {
		blocks := 1 + d.below(impl.MaxBlocks)
		memory := append(d.flow(blocks, 6), slices.Repeat([]impl.Block{{Test: 99, Then: -9}}, 3)...)
		var codes, beforeCodes [][]impl.Instr
		for at := range blocks {
			code := append(memory[at].Code, slices.Repeat([]impl.Instr{{Op: 99}}, 40)...)
			memory[at].Code = code[:len(memory[at].Code)]
			codes, beforeCodes = append(codes, code), append(beforeCodes, slices.Clone(code))
		}
		count := d.below(11)
		var words, beforeWords, runs [][]int
		for _, vars := range d.runs(count) {
			long := append(vars, -1, 65536)
			words, beforeWords, runs = append(words, long), append(beforeWords, slices.Clone(long)), append(runs, long[:impl.MaxVars])
		}
		runs = append(runs, []int{-1}, nil)
		before, order := cloneFlow(memory), behindNumbers(d.layout(blocks))
		keptOrder := slices.Clone(order[:cap(order)])
		f := memory[:blocks]
		checkCounted(t, f, runs[:count], 40, countApart(f, runs[:count], 40))
		checkLaidFlow(t, f, order)
		checkCountRefused(t, f, runs, 40)
		checkCountRefused(t, memory[:blocks+1], runs[:count], 40)
		checkLayFlowRefused(t, memory[:blocks+1], order)
		checkLayFlowRefused(t, f, order[:blocks+1])
		if !sameFlow(memory, before) || !slices.EqualFunc(codes, beforeCodes, slices.Equal[[]impl.Instr]) ||
			!sameLists(words, beforeWords) || !slices.Equal(order[:cap(order)], keptOrder) || len(runs[count]) != 1 || runs[count+1] != nil {
			t.Fatal("something was written into what was handed in:", memory, words, order)
		}
	}
}

// Edges, orders, blocks, runs and words behind a list's length are not read.
func TestLayoutReadsNothingBehind(t *testing.T) {
	whole := edgesAs(t, "01:2 02:9 13:5 30:50 99:1")
	checkEdgesRefused(t, 4, whole)
	for end := range whole {
		checkLayout(t, 4, whole[:end])
	}
	orders := []int{0, 1, 2, 3, 1, -1}
	for blocks := 1; blocks <= 4; blocks++ {
		checkLaidIn(t, blocks, nil, orders[:blocks])
		checkLaidFlow(t, make([]impl.Block, blocks), orders[:blocks])
		checkOrderRefused(t, blocks, orders[:blocks+1])
	}
	f := append(countDown(t), impl.Block{Then: 77})
	words := append(runWith(3), -1)
	runs := [][]int{words[:8], words[:8], words}
	checkCounted(t, f[:1], runs[:2], 9, edgesAs(t, "00:4"))
	checkCounted(t, f[:1], runs[:0], 9, nil)
	checkCountRefused(t, f[:1], runs, 9)
	checkCountRefused(t, f, runs[:2], 9)
}

func TestLayoutAnswersAreNewMemory(t *testing.T) {
	edges := []string{"", "01:2 02:9 21:1 13:5 30:50", "12:5 23:4", "31:1 03:3"}
	for _, text := range edges {
		l := edgesAs(t, text)
		for range 3 {
			chains, _ := impl.ChainsOf(4, l)
			checkListsApart(t, chains)
			order, _ := impl.LayOut(4, l)
			spoil(order)
			if edgesText(l) != text {
				t.Fatal("an answer shares memory with what was handed in:", text, l)
			}
			checkLayout(t, 4, l)
		}
	}
	one := readAs(t, "!a;!b")
	flows := [][]impl.Block{
		flowAs(t, "!a a -1 -1"), flowAs(t, "b=1;a=a-b;!a a 0 1", "!b b -1 -1", "!c;c=a a 0 0"),
		// Code of no step with room behind it, and one code in two blocks.
		{{Code: make([]impl.Instr, 0, 9), Then: 1, Else: 2}, {Code: one, Then: -1, Else: -1}, {Code: one, Then: -1, Else: 0}},
	}
	d := &lots{state: 3}
	for _, f := range flows {
		before, runs := cloneFlow(f), [][]int{runWith(3), runWith(1), runWith(3)}
		for _, order := range [][]int{rowOrder(len(f)), d.layout(len(f)), d.layout(len(f))} {
			keptOrder := slices.Clone(order)
			laid, _ := impl.LayFlow(f, order)
			checkCodesApart(t, laid)
			l, _ := impl.CountEdges(f, runs, 20)
			spoilEdges(l)
			if !sameFlow(f, before) || spoiltBehind(f[0].Code) || !slices.Equal(order, keptOrder) || !sameLists(runs, [][]int{runWith(3), runWith(1), runWith(3)}) {
				t.Fatal("an answer shares memory with what was handed in:", f, order, runs)
			}
			checkLaidFlow(t, f, order)
			checkCounted(t, f, runs, 20, countApart(f, runs, 20))
		}
	}
}

func spoilEdges(l []impl.Edge) {
	l = l[:cap(l)]
	for at := range l {
		l[at] = impl.Edge{From: -77, To: -77, Count: -77}
	}
}

package tests

import (
	"math"
	"slices"
	"strings"
	"testing"

	"loop.example/g00350/impl"
)

const spare = impl.MaxPlaces

// placeSigns has the sign of each place, of the spare one last.
const placeSigns = "0123456789s"

// movesAs reads moves as two signs each, From ahead of To.
func movesAs(t *testing.T, text string) []impl.Move {
	t.Helper()
	var l []impl.Move
	for _, part := range strings.Fields(text) {
		if len(part) != 2 || !strings.Contains(placeSigns, part[:1]) || !strings.Contains(placeSigns, part[1:]) {
			t.Fatalf("no move: %q", part)
		}
		l = append(l, impl.Move{From: strings.Index(placeSigns, part[:1]), To: strings.Index(placeSigns, part[1:])})
	}
	return l
}

func placeSign(place int) string {
	if place < 0 || place > spare {
		return "?"
	}
	return placeSigns[place : place+1]
}

func movesText(l []impl.Move) string {
	var texts []string
	for _, m := range l {
		texts = append(texts, placeSign(m.From)+placeSign(m.To))
	}
	return strings.Join(texts, " ")
}

func ringsText(rings [][]int) string {
	var texts []string
	for _, ring := range rings {
		text := ""
		for _, place := range ring {
			text += placeSign(place)
		}
		texts = append(texts, text)
	}
	return strings.Join(texts, "|")
}

// unlikeWords are all words at first in tests where it must be seen which
// word went where.
func unlikeWords() []int {
	return []int{100, 101, 102, 103, 104, 105, 106, 107, 108, 109, 110}
}

func (d *lots) placeWords() []int {
	var words []int
	for range spare + 1 {
		words = append(words, d.word())
	}
	return words
}

// order draws the numbers below n in some order.
func (d *lots) order(n int) []int {
	var numbers []int
	for number := range n {
		numbers = slices.Insert(numbers, d.below(len(numbers)+1), number)
	}
	return numbers
}

func (d *lots) moves(count int) []impl.Move {
	var l []impl.Move
	for _, to := range d.order(impl.MaxPlaces)[:count] {
		l = append(l, impl.Move{From: d.below(impl.MaxPlaces), To: to})
	}
	return l
}

// roundMoves take each place once as From and once as To, so that all lead
// round, but those of a place to itself.
func (d *lots) roundMoves() []impl.Move {
	var l []impl.Move
	froms, tos := d.order(impl.MaxPlaces), d.order(impl.MaxPlaces)
	for at, from := range froms {
		l = append(l, impl.Move{From: from, To: tos[at]})
	}
	return l
}

// mixedMoves lead round on some places, and from those or others to the rest.
func (d *lots) mixedMoves() []impl.Move {
	places := d.order(impl.MaxPlaces)
	members := 2 + d.below(7)
	var l []impl.Move
	for at, to := range places {
		switch {
		case at < members:
			l = append(l, impl.Move{From: places[(at+1)%members], To: to})
		case d.below(4) > 0:
			l = append(l, impl.Move{From: places[d.below(at)], To: to})
		}
	}
	mixed := make([]impl.Move, 0, len(l))
	for _, at := range d.order(len(l)) {
		mixed = append(mixed, l[at])
	}
	return mixed
}

func (d *lots) movesInTurn(count int) []impl.Move {
	var l []impl.Move
	for range count {
		l = append(l, impl.Move{From: d.below(spare + 1), To: d.below(spare + 1)})
	}
	return l
}

func atOnceApart(l []impl.Move, places []int) []int {
	words := slices.Clone(places)
	for _, m := range l {
		words[m.To] = places[m.From]
	}
	return words
}

// inTurnApart asks for each place, from the last move back, where its word
// was.
func inTurnApart(l []impl.Move, places []int) []int {
	var words []int
	for place := range places {
		for at := len(l) - 1; at >= 0; at-- {
			if l[at].To == place {
				place = l[at].From
			}
		}
		words = append(words, places[place])
	}
	return words
}

// roundApart goes on from the path's last place by each move, until one leads
// back to its first one.
func roundApart(l []impl.Move, path []int) []int {
	for _, m := range l {
		if m.From != path[len(path)-1] {
			continue
		}
		if m.To == path[0] {
			return path
		}
		if !slices.Contains(path, m.To) {
			if ring := roundApart(l, append(slices.Clone(path), m.To)); ring != nil {
				return ring
			}
		}
	}
	return nil
}

func ringsApart(l []impl.Move) [][]int {
	var rings [][]int
	for first := range impl.MaxPlaces {
		others := slices.DeleteFunc(slices.Clone(l), func(m impl.Move) bool { return m.From == m.To })
		ring := roundApart(others, []int{first})
		if ring != nil && slices.Min(ring) == first {
			rings = append(rings, ring)
		}
	}
	return rings
}

// rowsApart tells the moves that are on no ring, in turn, and takes each one
// out of what is left.
func rowsApart(l []impl.Move) []impl.Move {
	var laid []impl.Move
	left := slices.DeleteFunc(slices.Clone(l), func(m impl.Move) bool { return m.From == m.To })
	for {
		at := slices.IndexFunc(left, func(m impl.Move) bool {
			return !slices.ContainsFunc(left, func(other impl.Move) bool { return other.From == m.To })
		})
		if at < 0 {
			return laid
		}
		laid = append(laid, left[at])
		left = slices.Delete(left, at, at+1)
	}
}

func layApart(l []impl.Move) []impl.Move {
	laid := rowsApart(l)
	for _, ring := range ringsApart(l) {
		last := len(ring) - 1
		laid = append(laid, impl.Move{From: ring[0], To: spare}, impl.Move{From: ring[last], To: ring[0]})
		for at := last; at > 1; at-- {
			laid = append(laid, impl.Move{From: ring[at-1], To: ring[at]})
		}
		laid = append(laid, impl.Move{From: spare, To: ring[1]})
	}
	return laid
}

func checkAtOnce(t *testing.T, l []impl.Move, places []int) {
	t.Helper()
	want := atOnceApart(l, places)
	if words, ok := impl.DoAtOnce(l, places); !slices.Equal(words, want) || !ok {
		t.Errorf("DoAtOnce(%s, %v) = %v %v, not %v", movesText(l), places, words, ok, want)
	}
}

func checkInTurn(t *testing.T, l []impl.Move, places []int) {
	t.Helper()
	want := inTurnApart(l, places)
	if words, ok := impl.DoInTurn(l, places); !slices.Equal(words, want) || !ok {
		t.Errorf("DoInTurn(%s, %v) = %v %v, not %v", movesText(l), places, words, ok, want)
	}
}

// checkTurnIsAtOnce asks for promise 8, and that the spare place is left alone
// where it is not needed.
func checkTurnIsAtOnce(t *testing.T, l []impl.Move, places []int) {
	t.Helper()
	laid, okLaid := impl.LayMoves(l)
	needs, okNeeds := impl.NeedsSpare(l)
	atOnce, okOnce := impl.DoAtOnce(l, places)
	inTurn, okTurn := impl.DoInTurn(laid, places)
	if !okLaid || !okNeeds || !okOnce || !okTurn || len(atOnce) != spare+1 || len(inTurn) != spare+1 {
		t.Fatal(movesText(l), movesText(laid), needs, atOnce, inTurn)
	}
	if !slices.Equal(inTurn[:impl.MaxPlaces], atOnce[:impl.MaxPlaces]) {
		t.Errorf("%s: in turn %v, at once %v", movesText(l), inTurn, atOnce)
	}
	if !needs && inTurn[spare] != places[spare] || atOnce[spare] != places[spare] {
		t.Errorf("%s: the spare place has %d in turn, %d at once", movesText(l), inTurn[spare], atOnce[spare])
	}
}

func checkLaid(t *testing.T, l []impl.Move, laid []impl.Move, rings [][]int) {
	t.Helper()
	if x, ok := impl.LayMoves(l); !slices.Equal(x, laid) || !ok {
		t.Errorf("LayMoves(%s) = %s %v, not %s", movesText(l), movesText(x), ok, movesText(laid))
	}
	if x, ok := impl.RingsIn(l); !sameLists(x, rings) || !ok {
		t.Errorf("RingsIn(%s) = %s %v, not %s", movesText(l), ringsText(x), ok, ringsText(rings))
	}
	if needs, ok := impl.NeedsSpare(l); needs != (len(rings) > 0) || !ok {
		t.Errorf("NeedsSpare(%s) = %v %v", movesText(l), needs, ok)
	}
	if n, ok := impl.FewestMoves(l); n != len(laid) || !ok {
		t.Errorf("FewestMoves(%s) = %d %v, not %d", movesText(l), n, ok, len(laid))
	}
}

func checkMoves(t *testing.T, l []impl.Move, places []int) {
	t.Helper()
	if !impl.GoodMoves(l) {
		t.Errorf("GoodMoves(%s) is false", movesText(l))
	}
	checkLaid(t, l, layApart(l), ringsApart(l))
	checkAtOnce(t, l, places)
	checkInTurn(t, l, places)
	checkTurnIsAtOnce(t, l, places)
}

func checkMovesRefused(t *testing.T, l []impl.Move) {
	t.Helper()
	if impl.GoodMoves(l) {
		t.Error("GoodMoves of", l)
	}
	if words, ok := impl.DoAtOnce(l, unlikeWords()); len(words) != 0 || ok {
		t.Error("DoAtOnce of", l, words, ok)
	}
	if laid, ok := impl.LayMoves(l); len(laid) != 0 || ok {
		t.Error("LayMoves of", l, laid, ok)
	}
	if rings, ok := impl.RingsIn(l); len(rings) != 0 || ok {
		t.Error("RingsIn of", l, rings, ok)
	}
	if needs, ok := impl.NeedsSpare(l); needs || ok {
		t.Error("NeedsSpare of", l, needs, ok)
	}
	if n, ok := impl.FewestMoves(l); n != 0 || ok {
		t.Error("FewestMoves of", l, n, ok)
	}
}

func checkTurnRefused(t *testing.T, l []impl.Move) {
	t.Helper()
	if words, ok := impl.DoInTurn(l, unlikeWords()); len(words) != 0 || ok {
		t.Error("DoInTurn of", l, words, ok)
	}
}

func checkWordsRefused(t *testing.T, l []impl.Move, places []int) {
	t.Helper()
	if words, ok := impl.DoAtOnce(l, places); len(words) != 0 || ok {
		t.Error("DoAtOnce of", movesText(l), places, words, ok)
	}
	if words, ok := impl.DoInTurn(l, places); len(words) != 0 || ok {
		t.Error("DoInTurn of", movesText(l), places, words, ok)
	}
}

func TestMoveBounds(t *testing.T) {
	if impl.MaxPlaces != 10 {
		t.Error(impl.MaxPlaces)
	}
}

func TestLayMovesKnown(t *testing.T) {
	known := []struct{ moves, laid, rings string }{
		{"", "", ""},
		// A place to itself.
		{"00", "", ""}, {"33 99", "", ""}, {"33 34", "34", ""}, {"34 33", "34", ""},
		{"00 11 22 33 44 55 66 77 88 99", "", ""},
		// One move, and moves that have nothing to do with each other.
		{"01", "01", ""}, {"90", "90", ""}, {"45 01 98", "45 01 98", ""},
		// Rows: each waits for the one behind it.
		{"01 12", "12 01", ""}, {"12 01", "12 01", ""}, {"01 12 23", "23 12 01", ""},
		{"23 01 12", "23 12 01", ""}, {"12 23 01", "23 12 01", ""},
		// From the front again, when one is laid.
		{"12 23 45", "23 12 45", ""}, {"45 12 23", "45 23 12", ""}, {"12 45 23", "45 23 12", ""},
		{"01 23 12 34", "34 23 12 01", ""}, {"01 56 12 67", "12 01 67 56", ""},
		// A place that goes to several.
		{"01 02 03", "01 02 03", ""}, {"01 02 23", "01 23 02", ""}, {"10 12 21", "10 1s 21 s2", "12"},
		{"50 51 52 53 54 56", "50 51 52 53 54 56", ""}, {"05 12 13 20", "05 13 20 12", ""},
		// One ring.
		{"01 10", "0s 10 s1", "01"}, {"10 01", "0s 10 s1", "01"}, {"89 98", "8s 98 s9", "89"}, {"09 90", "0s 90 s9", "09"},
		{"01 12 20", "0s 20 12 s1", "012"}, {"20 01 12", "0s 20 12 s1", "012"},
		{"02 21 10", "0s 10 21 s2", "021"}, {"75 53 37", "3s 53 75 s7", "375"},
		{"41 13 32 24", "1s 41 24 32 s3", "1324"},
		// Two rings, and more.
		{"01 10 23 32", "0s 10 s1 2s 32 s3", "01|23"}, {"98 89 10 01", "0s 10 s1 8s 98 s9", "01|89"},
		{"09 12 90 21", "0s 90 s9 1s 21 s2", "09|12"}, {"65 42 56 93 39 24", "2s 42 s4 3s 93 s9 5s 65 s6", "24|39|56"},
		{"01 12 20 34 45 53", "0s 20 12 s1 3s 53 45 s4", "012|345"}, {"02 24 40 13 35 51", "0s 40 24 s2 1s 51 35 s3", "024|135"},
		// A ring beside a row.
		{"01 10 23 34", "34 23 0s 10 s1", "01"}, {"56 01 12 67 20", "67 56 0s 20 12 s1", "012"}, {"89 98 01", "01 8s 98 s9", "89"},
		{"33 01 10 44", "0s 10 s1", "01"},
		// A row that leads out of a ring.
		{"01 10 12", "12 0s 10 s1", "01"}, {"02 01 10", "02 0s 10 s1", "01"}, {"01 10 12 23", "23 12 0s 10 s1", "01"},
		{"01 12 20 25 33", "25 0s 20 12 s1", "012"}, {"89 98 80 91 17", "80 17 91 8s 98 s9", "89"},
		{"56 65 60 51", "60 51 5s 65 s6", "56"}, {"01 10 23 32 04 35 46", "35 46 04 0s 10 s1 2s 32 s3", "01|23"},
	}
	for _, k := range known {
		l := movesAs(t, k.moves)
		if laid, ok := impl.LayMoves(l); movesText(laid) != k.laid || !ok {
			t.Errorf("LayMoves(%s) = %s %v, not %s", k.moves, movesText(laid), ok, k.laid)
		}
		if rings, ok := impl.RingsIn(l); ringsText(rings) != k.rings || !ok {
			t.Errorf("RingsIn(%s) = %s %v, not %s", k.moves, ringsText(rings), ok, k.rings)
		}
		checkMoves(t, l, unlikeWords())
	}
}

func TestDoAtOnceKnown(t *testing.T) {
	known := []struct {
		moves string
		words []int
	}{
		{"", []int{100, 101, 102, 103, 104, 105, 106, 107, 108, 109, 110}},
		{"44", []int{100, 101, 102, 103, 104, 105, 106, 107, 108, 109, 110}},
		{"01 10", []int{101, 100, 102, 103, 104, 105, 106, 107, 108, 109, 110}},
		{"01 12 23", []int{100, 100, 101, 102, 104, 105, 106, 107, 108, 109, 110}},
		{"90 91 92 99", []int{109, 109, 109, 103, 104, 105, 106, 107, 108, 109, 110}},
		{"01 12 20 25 33", []int{102, 100, 101, 103, 104, 102, 106, 107, 108, 109, 110}},
		{"01 12 23 34 45 56 67 78 89 90", []int{109, 100, 101, 102, 103, 104, 105, 106, 107, 108, 110}},
	}
	for _, k := range known {
		if words, ok := impl.DoAtOnce(movesAs(t, k.moves), unlikeWords()); !slices.Equal(words, k.words) || !ok {
			t.Errorf("DoAtOnce(%s) = %v %v, not %v", k.moves, words, ok, k.words)
		}
	}
}

func TestDoInTurnKnown(t *testing.T) {
	known := []struct {
		moves string
		words []int
	}{
		{"", []int{100, 101, 102, 103, 104, 105, 106, 107, 108, 109, 110}},
		{"44 ss", []int{100, 101, 102, 103, 104, 105, 106, 107, 108, 109, 110}},
		{"01 10", []int{100, 100, 102, 103, 104, 105, 106, 107, 108, 109, 110}},
		{"01 12 23", []int{100, 100, 100, 100, 104, 105, 106, 107, 108, 109, 110}},
		{"23 12 01", []int{100, 100, 101, 102, 104, 105, 106, 107, 108, 109, 110}},
		// The spare place as From and as To.
		{"s0", []int{110, 101, 102, 103, 104, 105, 106, 107, 108, 109, 110}},
		{"9s", []int{100, 101, 102, 103, 104, 105, 106, 107, 108, 109, 109}},
		{"0s 10 s1", []int{101, 100, 102, 103, 104, 105, 106, 107, 108, 109, 100}},
		{"s5 5s s6", []int{100, 101, 102, 103, 104, 110, 110, 107, 108, 109, 110}},
		// One To several times: the last move counts.
		{"03 13 23", []int{100, 101, 102, 102, 104, 105, 106, 107, 108, 109, 110}},
		{"0s 1s s2 7s", []int{100, 101, 101, 103, 104, 105, 106, 107, 108, 109, 107}},
		{"01 01 01 01 01 01 01 01 01 01 01 01", []int{100, 100, 102, 103, 104, 105, 106, 107, 108, 109, 110}},
	}
	for _, k := range known {
		if words, ok := impl.DoInTurn(movesAs(t, k.moves), unlikeWords()); !slices.Equal(words, k.words) || !ok {
			t.Errorf("DoInTurn(%s) = %v %v, not %v", k.moves, words, ok, k.words)
		}
	}
}

func TestMovesAtMaxPlaces(t *testing.T) {
	known := []struct{ moves, laid, rings string }{
		// All places in one ring, this way and that way round.
		{"01 12 23 34 45 56 67 78 89 90", "0s 90 89 78 67 56 45 34 23 12 s1", "0123456789"},
		{"10 21 32 43 54 65 76 87 98 09", "0s 10 21 32 43 54 65 76 87 98 s9", "0987654321"},
		// As many rings as there can be.
		{"98 76 54 32 10 01 23 45 67 89", "0s 10 s1 2s 32 s3 4s 54 s5 6s 76 s7 8s 98 s9", "01|23|45|67|89"},
		{"05 50 16 61 27 72 38 83 49 94", "0s 50 s5 1s 61 s6 2s 72 s7 3s 83 s8 4s 94 s9", "05|16|27|38|49"},
		// One row of all places, and one place to all.
		{"00 01 12 23 34 45 56 67 78 89", "89 78 67 56 45 34 23 12 01", ""},
		{"89 78 67 56 45 34 23 12 01 00", "89 78 67 56 45 34 23 12 01", ""},
		{"90 91 92 93 94 95 96 97 98 99", "90 91 92 93 94 95 96 97 98", ""},
		// A row from out of a ring to all other places.
		{"01 10 12 23 34 45 56 67 78 89", "89 78 67 56 45 34 23 12 0s 10 s1", "01"},
	}
	for _, k := range known {
		l := movesAs(t, k.moves)
		if laid, ok := impl.LayMoves(l); movesText(laid) != k.laid || !ok {
			t.Errorf("LayMoves(%s) = %s %v, not %s", k.moves, movesText(laid), ok, k.laid)
		}
		if rings, ok := impl.RingsIn(l); ringsText(rings) != k.rings || !ok {
			t.Errorf("RingsIn(%s) = %s %v, not %s", k.moves, ringsText(rings), ok, k.rings)
		}
		checkMoves(t, l, unlikeWords())
		checkMoves(t, l, slices.Repeat([]int{65535}, spare+1))
		for to := range impl.MaxPlaces {
			checkMovesRefused(t, append(slices.Clone(l), impl.Move{To: to}))
		}
	}
}

func TestFewestMovesKnown(t *testing.T) {
	known := []struct {
		moves  string
		fewest int
	}{
		{"", 0}, {"55", 0}, {"01", 1}, {"01 22", 1}, {"01 12 23", 3}, {"01 10", 3}, {"01 12 20", 4}, {"01 10 23 32", 6},
		{"01 10 02", 4}, {"01 12 20 25 33", 5}, {"01 12 23 34 45 56 67 78 89 90", 11}, {"01 10 23 32 45 54 67 76 89 98", 15},
	}
	for _, k := range known {
		if n, ok := impl.FewestMoves(movesAs(t, k.moves)); n != k.fewest || !ok {
			t.Errorf("FewestMoves(%s) = %d %v, not %d", k.moves, n, ok, k.fewest)
		}
	}
}

// ordersOf has the moves in each order.
func ordersOf(l []impl.Move) [][]impl.Move {
	if len(l) == 0 {
		return [][]impl.Move{nil}
	}
	var orders [][]impl.Move
	for _, order := range ordersOf(l[1:]) {
		for at := range len(l) {
			orders = append(orders, slices.Insert(slices.Clone(order), at, l[0]))
		}
	}
	return orders
}

// movesWithin has all moves within some places, each To with its From, or
// without any.
func movesWithin(places []int, tos []int) [][]impl.Move {
	if len(tos) == 0 {
		return [][]impl.Move{nil}
	}
	var all [][]impl.Move
	for _, l := range movesWithin(places, tos[1:]) {
		all = append(all, l)
		for _, from := range places {
			all = append(all, append(slices.Clone(l), impl.Move{From: from, To: tos[0]}))
		}
	}
	return all
}

// Promise 8: all moves within four places, in each order.
func TestMovesWithinFourPlaces(t *testing.T) {
	for _, places := range [][]int{{0, 1, 2, 3}, {9, 4, 0, 7}} {
		count := 0
		for _, l := range movesWithin(places, places) {
			for _, order := range ordersOf(l) {
				checkMoves(t, order, unlikeWords())
				count++
			}
		}
		if want := 1 + 4*4 + 6*16*2 + 4*64*6 + 256*24; count != want {
			t.Error(count, "moves, not", want)
		}
	}
}

// Promise 8: moves on all places, of each shape.
func TestMovesOfMany(t *testing.T) {
	d := &lots{state: 808}
	for range 6000 {
		for _, l := range [][]impl.Move{d.moves(d.below(impl.MaxPlaces + 1)), d.moves(impl.MaxPlaces), d.roundMoves(), d.mixedMoves()} {
			checkMoves(t, l, unlikeWords())
			checkTurnIsAtOnce(t, l, d.placeWords())
			checkAtOnce(t, l, d.placeWords())
		}
	}
}

func TestDoInTurnOfMany(t *testing.T) {
	d := &lots{state: 4040}
	for range 5000 {
		l := d.movesInTurn(d.below(41))
		checkInTurn(t, l, unlikeWords())
		checkInTurn(t, l, d.placeWords())
	}
}

// In two parts moves in turn do what they do whole.
func TestDoInTurnInTwoParts(t *testing.T) {
	d := &lots{state: 2020}
	for range 1000 {
		l, places := d.movesInTurn(40), d.placeWords()
		whole, _ := impl.DoInTurn(l, places)
		at := d.below(41)
		part, _ := impl.DoInTurn(l[:at], places)
		if both, ok := impl.DoInTurn(l[at:], part); !slices.Equal(both, whole) || !ok {
			t.Errorf("%s in two parts from %d on: %v %v, not %v", movesText(l), at, both, ok, whole)
		}
	}
}

func TestDoInTurnAtTheLimit(t *testing.T) {
	d := &lots{state: 41}
	for range 300 {
		l := d.movesInTurn(41)
		checkInTurn(t, l[:39], unlikeWords())
		checkInTurn(t, l[:40], unlikeWords())
		checkTurnRefused(t, l)
	}
	for _, m := range []impl.Move{{}, {From: spare, To: spare}, {From: 9, To: 9}, {From: 3, To: 7}, {From: spare, To: 0}} {
		checkInTurn(t, slices.Repeat([]impl.Move{m}, 40), unlikeWords())
		for _, count := range []int{41, 42, 80, 1000} {
			checkTurnRefused(t, slices.Repeat([]impl.Move{m}, count))
		}
	}
}

// noPlaces are neither places nor the spare one.
func noPlaces() []int {
	return []int{
		math.MinInt, math.MinInt + 1, -1 << 32, -256, -11, -10, -2, -1,
		11, 12, 20, 21, 64, 256, 1 << 32, 1<<32 + 1, math.MaxInt - 1, math.MaxInt,
	}
}

func TestMovesRefuseWrongPlaces(t *testing.T) {
	goods := [][]impl.Move{nil, movesAs(t, "01 12 20"), movesAs(t, "00 11 22 33 44 55 66 77 88")}
	check := func(m impl.Move, refused func(*testing.T, []impl.Move)) {
		t.Helper()
		for _, good := range goods {
			for at := range len(good) + 1 {
				refused(t, slices.Insert(slices.Clone(good), at, m))
			}
		}
	}
	for _, place := range noPlaces() {
		for _, m := range []impl.Move{{From: place, To: 9}, {From: 9, To: place}, {From: place, To: place}, {From: place, To: spare}, {From: spare, To: place}} {
			check(m, checkMovesRefused)
			check(m, checkTurnRefused)
		}
	}
	// The spare place may stand in moves in turn alone.
	for _, m := range []impl.Move{{From: spare, To: 9}, {From: 9, To: spare}, {From: spare, To: spare}} {
		check(m, checkMovesRefused)
		checkInTurn(t, []impl.Move{m}, unlikeWords())
	}
}

func TestMovesRefuseTwoToAlike(t *testing.T) {
	for to := range impl.MaxPlaces {
		for one := range impl.MaxPlaces {
			for two := range impl.MaxPlaces {
				l := []impl.Move{{From: one, To: to}, {From: two, To: to}}
				checkMovesRefused(t, l)
				checkInTurn(t, l, unlikeWords())
			}
		}
	}
	for _, text := range []string{"01 10 01", "01 12 23 41", "00 00", "11 21 12", "10 56 65 60", "01 12 23 34 45 56 67 78 89 99"} {
		checkMovesRefused(t, movesAs(t, text))
		checkInTurn(t, movesAs(t, text), unlikeWords())
	}
}

func TestMovesRefuseTooMany(t *testing.T) {
	d := &lots{state: 11}
	for range 300 {
		l := d.movesInTurn(11 + d.below(30))
		checkMovesRefused(t, l)
		checkInTurn(t, l, unlikeWords())
	}
	var rising []impl.Move
	for place := range 1000 {
		rising = append(rising, impl.Move{From: 0, To: place})
	}
	for _, count := range []int{11, 12, 40, 41, 1000} {
		checkMovesRefused(t, rising[:count])
		checkMovesRefused(t, make([]impl.Move, count))
	}
}

func TestMovesRefuseWrongWords(t *testing.T) {
	moves := [][]impl.Move{nil, movesAs(t, "00"), movesAs(t, "01 12 20 25 33"), movesAs(t, "01 12 23 34 45 56 67 78 89 90")}
	for _, l := range moves {
		checkWordsRefused(t, l, nil)
		checkWordsRefused(t, l, make([]int, 1000))
		for length := range 25 {
			if length != spare+1 {
				checkWordsRefused(t, l, make([]int, length))
			}
		}
		for _, w := range noWords() {
			for place := range spare + 1 {
				places := unlikeWords()
				places[place] = w
				checkWordsRefused(t, l, places)
			}
		}
		checkMoves(t, l, make([]int, spare+1))
		checkMoves(t, l, slices.Repeat([]int{65535}, spare+1))
	}
	wrong := []impl.Move{{From: math.MinInt, To: math.MaxInt}}
	checkWordsRefused(t, wrong, nil)
	checkWordsRefused(t, wrong, []int{math.MinInt, math.MaxInt})
	checkWordsRefused(t, wrong, unlikeWords())
}

// Promise 19: nothing is written into what is handed in, nor behind it, and
// nothing there is read.
func TestMovesAreLeft(t *testing.T) {
	d := &lots{state: 1919}
	for range 500 {
		count := d.below(impl.MaxPlaces + 1)
		memory := append(d.moves(count), slices.Repeat([]impl.Move{{From: -9, To: 99}}, 50)...)
		turns := append(d.movesInTurn(40), slices.Repeat([]impl.Move{{From: 3, To: 4}}, 9)...)
		words := append(d.placeWords(), -1, 65536, 7)
		memoryBefore, turnsBefore, wordsBefore := slices.Clone(memory), slices.Clone(turns), slices.Clone(words)
		checkMoves(t, memory[:count], words[:spare+1])
		checkInTurn(t, turns[:40], words[:spare+1])
		checkMovesRefused(t, memory[:count+1])
		checkTurnRefused(t, turns)
		checkWordsRefused(t, memory[:count], words)
		checkWordsRefused(t, memory[:count], words[:spare])
		if !slices.Equal(memory, memoryBefore) || !slices.Equal(turns, turnsBefore) || !slices.Equal(words, wordsBefore) {
			t.Fatal("something was written into what was handed in:", memory, turns, words)
		}
	}
}

// spoilMoves writes into all that a list reaches, what lies behind it too.
func spoilMoves(l []impl.Move) {
	l = l[:cap(l)]
	for at := range l {
		l[at] = impl.Move{From: -77, To: -77}
	}
}

func TestMoveAnswersAreNewMemory(t *testing.T) {
	for _, text := range []string{"", "00", "01", "12 01", "01 10", "01 10 23 32", "01 12 20 34 45 53 67 76", "98 76 54 32 10 01 23 45 67 89"} {
		l, places := movesAs(t, text), unlikeWords()
		before := slices.Clone(l)
		for range 2 {
			laid, _ := impl.LayMoves(l)
			spoilMoves(laid)
			rings, _ := impl.RingsIn(l)
			checkListsApart(t, rings)
			atOnce, _ := impl.DoAtOnce(l, places)
			spoil(atOnce)
			inTurn, _ := impl.DoInTurn(l, places)
			spoil(inTurn)
			if !slices.Equal(l, before) || !slices.Equal(places, unlikeWords()) {
				t.Fatal("an answer shares memory with what was handed in:", l, places)
			}
			checkMoves(t, l, places)
		}
	}
}

package tests

import (
	"math"
	"slices"
	"testing"

	"loop.example/g00350/impl"
)

// readAs is for texts of good code alone.
func readAs(t *testing.T, text string) []impl.Instr {
	t.Helper()
	l, ok := impl.ReadCode(text)
	if !ok {
		t.Fatalf("ReadCode refuses %q", text)
	}
	return l
}

// closeCode has few names and few words, so that values meet again often.
func (d *lots) closeCode(steps int) []impl.Instr {
	l := d.code(steps)
	names, words := 1+d.below(4), []int{0, 0, 1, 1, 2, 65535}
	for at := range l {
		l[at].Dst, l[at].A, l[at].B = l[at].Dst%names, l[at].A%names, l[at].B%names
		if l[at].Op == impl.OpConst {
			l[at].N = words[d.below(len(words))]
		}
	}
	return l
}

func firstValues() []impl.Value {
	var values []impl.Value
	for name := range impl.MaxVars {
		values = append(values, impl.Value{Op: impl.OpOut, N: name})
	}
	return values
}

func constOf(n int) impl.Value {
	return impl.Value{Op: impl.OpConst, N: n}
}

// ruledApart tells the value of a pair by the document's rules, in their
// order, of the numbers that both have in a list of values.
func ruledApart(values []impl.Value, op int, a int, b int) impl.Value {
	x, y := values[a], values[b]
	known := func(v impl.Value, n int) bool { return v.Op == impl.OpConst && v.N == n }
	if x.Op == impl.OpConst && y.Op == impl.OpConst {
		return constOf(pairOf(op, x.N, y.N))
	}
	switch op {
	case impl.OpAdd:
		if known(x, 0) {
			return y
		}
		if known(y, 0) {
			return x
		}
	case impl.OpSub:
		if a == b {
			return constOf(0)
		}
		if known(y, 0) {
			return x
		}
	case impl.OpMul:
		if known(x, 1) {
			return y
		}
		if known(y, 1) {
			return x
		}
		if known(x, 0) || known(y, 0) {
			return constOf(0)
		}
	case impl.OpLess:
		if a == b {
			return constOf(0)
		}
	case impl.OpEqual:
		if a == b {
			return constOf(1)
		}
	}
	if op == impl.OpSub || op == impl.OpLess {
		return impl.Value{Op: op, A: a, B: b}
	}
	return impl.Value{Op: op, A: min(a, b), B: max(a, b)}
}

// numberApart numbers by the document's words, apart from the program: all
// values, the numbers of the names in the end, and the numbered code.
func numberApart(l []impl.Instr) ([]impl.Value, []int, []impl.Instr) {
	values, names := firstValues(), []int{0, 1, 2, 3, 4, 5, 6, 7}
	var numbered []impl.Instr
	for _, i := range l {
		var v impl.Value
		switch i.Op {
		case impl.OpOut:
			numbered = append(numbered, i)
			continue
		case impl.OpConst:
			v = constOf(i.N)
		case impl.OpCopy:
			v = values[names[i.A]]
		default:
			v = ruledApart(values, i.Op, names[i.A], names[i.B])
		}
		if !slices.Contains(values, v) {
			values = append(values, v)
		}
		number := slices.Index(values, v)
		if first := slices.Index(names, number); v.Op == impl.OpConst {
			i = impl.Instr{Op: impl.OpConst, Dst: i.Dst, N: v.N}
		} else if first >= 0 {
			i = impl.Instr{Op: impl.OpCopy, Dst: i.Dst, A: first}
		}
		numbered = append(numbered, i)
		names[i.Dst] = number
	}
	return values, names, numbered
}

func checkValues(t *testing.T, l []impl.Instr, wantValues []impl.Value, wantNames []int) {
	t.Helper()
	values, names, ok := impl.ValuesOf(l)
	if !slices.Equal(values, wantValues) || !slices.Equal(names, wantNames) || !ok {
		t.Errorf("ValuesOf(%v) = %v %v %v, not %v %v true", l, values, names, ok, wantValues, wantNames)
	}
	var wantKnown []int
	for name, number := range wantNames {
		if wantValues[number].Op == impl.OpConst {
			wantKnown = append(wantKnown, name)
		}
	}
	if known, ok := impl.KnownAt(l); !slices.Equal(known, wantKnown) || !ok {
		t.Errorf("KnownAt(%v) = %v %v, not %v true", l, known, ok, wantKnown)
	}
}

func checkSame(t *testing.T, l []impl.Instr, wantNames []int) {
	t.Helper()
	for a := range impl.MaxVars {
		for b := range impl.MaxVars {
			if same, ok := impl.SameValue(l, a, b); same != (wantNames[a] == wantNames[b]) || !ok {
				t.Errorf("SameValue(%v, %d, %d) = %v %v", l, a, b, same, ok)
			}
		}
	}
}

func checkNumbered(t *testing.T, l []impl.Instr, want []impl.Instr) {
	t.Helper()
	if numbered, ok := impl.NumberCode(l); !slices.Equal(numbered, want) || !ok {
		t.Errorf("NumberCode(%v) = %v %v, not %v true", l, numbered, ok, want)
	}
}

// checkNumberedRuns is promise 4.
func checkNumberedRuns(t *testing.T, l []impl.Instr, vars []int) {
	t.Helper()
	numbered, ok := impl.NumberCode(l)
	if !ok || !impl.GoodCode(numbered) || len(numbered) != len(l) {
		t.Fatalf("NumberCode(%v) = %v %v", l, numbered, ok)
	}
	told, words := runApart(l, vars)
	if toldBy, wordsBy := runApart(numbered, vars); !slices.Equal(toldBy, told) || !slices.Equal(wordsBy, words) {
		t.Fatalf("on %v %v tells and leaves %v %v, numbered %v %v %v", vars, l, told, words, numbered, toldBy, wordsBy)
	}
	cost, _ := impl.CostOf(l)
	if less, ok := impl.CostOf(numbered); less > cost || !ok {
		t.Fatalf("%v costs %d, numbered %v %d %v", l, cost, numbered, less, ok)
	}
}

// checkValuesRun asks that each name's value, reckoned from the first words,
// is the word that the code leaves there.
func checkValuesRun(t *testing.T, l []impl.Instr, vars []int) {
	t.Helper()
	values, names, ok := impl.ValuesOf(l)
	if !ok || len(names) != impl.MaxVars || len(values) > impl.MaxVars+len(l) {
		t.Fatalf("ValuesOf(%v) = %v %v %v", l, values, names, ok)
	}
	var reckoned []int
	for _, v := range values {
		switch v.Op {
		case impl.OpOut:
			reckoned = append(reckoned, vars[v.N])
		case impl.OpConst:
			reckoned = append(reckoned, v.N)
		default:
			reckoned = append(reckoned, pairOf(v.Op, reckoned[v.A], reckoned[v.B]))
		}
	}
	_, words := runApart(l, vars)
	for name, number := range names {
		if reckoned[number] != words[name] {
			t.Fatalf("on %v %v leaves %v, its values %v %v tell %d at %d", vars, l, words, values, names, reckoned[number], name)
		}
	}
}

// checkNumberRefused asks all functions of the chapter.
func checkNumberRefused(t *testing.T, l []impl.Instr) {
	t.Helper()
	if values, names, ok := impl.ValuesOf(l); len(values) != 0 || len(names) != 0 || ok {
		t.Errorf("ValuesOf(%v) = %v %v %v", l, values, names, ok)
	}
	if numbered, ok := impl.NumberCode(l); len(numbered) != 0 || ok {
		t.Errorf("NumberCode(%v) = %v %v", l, numbered, ok)
	}
	if cost, ok := impl.CostOf(l); cost != 0 || ok {
		t.Errorf("CostOf(%v) = %v %v", l, cost, ok)
	}
	if known, ok := impl.KnownAt(l); len(known) != 0 || ok {
		t.Errorf("KnownAt(%v) = %v %v", l, known, ok)
	}
	for _, name := range []int{0, lastName} {
		if same, ok := impl.SameValue(l, name, name); same || ok {
			t.Errorf("SameValue(%v, %d, %d) = %v %v", l, name, name, same, ok)
		}
	}
}

// Each rule of the chapter: what is new beside the first words, and the
// number that c has in the end. a and b are not known.
func TestValuesByEachRule(t *testing.T) {
	add, sub, mul, less, equal := impl.OpAdd, impl.OpSub, impl.OpMul, impl.OpLess, impl.OpEqual
	known := []struct {
		text   string
		news   []impl.Value
		number int
	}{
		{"", nil, 2},
		{"!a;!c", nil, 2},
		{"c=0", []impl.Value{constOf(0)}, 8},
		{"c=65535", []impl.Value{constOf(65535)}, 8},
		{"c=a", nil, 0},
		{"c=h", nil, 7},
		{"c=c", nil, 2},
		{"c=a+b", []impl.Value{{Op: add, A: 0, B: 1}}, 8},
		{"c=b+a", []impl.Value{{Op: add, A: 0, B: 1}}, 8},
		{"c=a*h", []impl.Value{{Op: mul, A: 0, B: 7}}, 8},
		{"c=h*a", []impl.Value{{Op: mul, A: 0, B: 7}}, 8},
		{"c=a~b", []impl.Value{{Op: equal, A: 0, B: 1}}, 8},
		{"c=b~a", []impl.Value{{Op: equal, A: 0, B: 1}}, 8},
		{"c=a-b", []impl.Value{{Op: sub, A: 0, B: 1}}, 8},
		{"c=b-a", []impl.Value{{Op: sub, A: 1, B: 0}}, 8},
		{"c=a<h", []impl.Value{{Op: less, A: 0, B: 7}}, 8},
		{"c=h<a", []impl.Value{{Op: less, A: 7, B: 0}}, 8},
		{"c=a+a", []impl.Value{{Op: add}}, 8},
		{"c=a*a", []impl.Value{{Op: mul}}, 8},
		{"c=a-a", []impl.Value{constOf(0)}, 8},
		{"c=a<a", []impl.Value{constOf(0)}, 8},
		{"c=a~a", []impl.Value{constOf(1)}, 8},
		{"c=b;c=b-c", []impl.Value{constOf(0)}, 8},
		{"c=b;c=c<b", []impl.Value{constOf(0)}, 8},
		{"c=b;c=b~c", []impl.Value{constOf(1)}, 8},
		{"d=0;c=a+d", []impl.Value{constOf(0)}, 0},
		{"d=0;c=d+a", []impl.Value{constOf(0)}, 0},
		{"d=0;c=a-d", []impl.Value{constOf(0)}, 0},
		{"d=0;c=d-a", []impl.Value{constOf(0), {Op: sub, A: 8, B: 0}}, 9},
		{"d=0;c=a*d", []impl.Value{constOf(0)}, 8},
		{"d=0;c=d*a", []impl.Value{constOf(0)}, 8},
		{"d=0;c=a<d", []impl.Value{constOf(0), {Op: less, A: 0, B: 8}}, 9},
		{"d=0;c=d<a", []impl.Value{constOf(0), {Op: less, A: 8, B: 0}}, 9},
		{"d=0;c=d~a", []impl.Value{constOf(0), {Op: equal, A: 0, B: 8}}, 9},
		{"d=1;c=a*d", []impl.Value{constOf(1)}, 0},
		{"d=1;c=d*a", []impl.Value{constOf(1)}, 0},
		{"d=1;c=d+a", []impl.Value{constOf(1), {Op: add, A: 0, B: 8}}, 9},
		{"d=1;c=a-d", []impl.Value{constOf(1), {Op: sub, A: 0, B: 8}}, 9},
		{"d=2;c=d*a", []impl.Value{constOf(2), {Op: mul, A: 0, B: 8}}, 9},
		{"d=65535;c=d*a", []impl.Value{constOf(65535), {Op: mul, A: 0, B: 8}}, 9},
		{"d=7;e=5;c=d+e", []impl.Value{constOf(7), constOf(5), constOf(12)}, 10},
		{"d=7;e=5;c=d-e", []impl.Value{constOf(7), constOf(5), constOf(2)}, 10},
		{"d=7;e=5;c=e-d", []impl.Value{constOf(7), constOf(5), constOf(65534)}, 10},
		{"d=7;e=5;c=d*e", []impl.Value{constOf(7), constOf(5), constOf(35)}, 10},
		{"d=7;e=5;c=d<e", []impl.Value{constOf(7), constOf(5), constOf(0)}, 10},
		{"d=7;e=5;c=e<d", []impl.Value{constOf(7), constOf(5), constOf(1)}, 10},
		{"d=7;e=5;c=d~e", []impl.Value{constOf(7), constOf(5), constOf(0)}, 10},
		{"d=7;e=7;c=d~e", []impl.Value{constOf(7), constOf(1)}, 9},
		{"d=7;c=d+d", []impl.Value{constOf(7), constOf(14)}, 9},
		{"d=65535;e=1;c=d+e", []impl.Value{constOf(65535), constOf(1), constOf(0)}, 10},
		{"d=65535;c=d*d", []impl.Value{constOf(65535), constOf(1)}, 9},
		{"d=0;e=1;c=d-e", []impl.Value{constOf(0), constOf(1), constOf(65535)}, 10},
		{"d=0;c=d~d", []impl.Value{constOf(0), constOf(1)}, 9},
		{"d=5;c=5", []impl.Value{constOf(5)}, 8},
		{"d=a+b;c=b+a", []impl.Value{{Op: add, A: 0, B: 1}}, 8},
		{"d=a-b;c=b-a", []impl.Value{{Op: sub, A: 0, B: 1}, {Op: sub, A: 1, B: 0}}, 9},
		{"d=a<b;c=b<a", []impl.Value{{Op: less, A: 0, B: 1}, {Op: less, A: 1, B: 0}}, 9},
		{"d=a+b;d=5;c=a+b", []impl.Value{{Op: add, A: 0, B: 1}, constOf(5)}, 8},
		{"d=a;a=5;c=d+b", []impl.Value{constOf(5), {Op: add, A: 0, B: 1}}, 9},
		{"a=b;c=a+b", []impl.Value{{Op: add, A: 1, B: 1}}, 8},
		{"c=c+c;c=c+c;c=a+c", []impl.Value{{Op: add, A: 2, B: 2}, {Op: add, A: 8, B: 8}, {Op: add, A: 0, B: 9}}, 10},
		{"c=c-a;c=c-b", []impl.Value{{Op: sub, A: 2, B: 0}, {Op: sub, A: 8, B: 1}}, 9},
	}
	for _, k := range known {
		l := readAs(t, k.text)
		values, names, ok := impl.ValuesOf(l)
		if !slices.Equal(values, append(firstValues(), k.news...)) || len(names) != impl.MaxVars || !ok {
			t.Errorf("ValuesOf %q = %v %v %v, new are %v", k.text, values, names, ok, k.news)
		} else if names[2] != k.number {
			t.Errorf("ValuesOf %q = %v %v: c has %d, not %d", k.text, values, names, names[2], k.number)
		}
	}
}

func TestValuesOfNoStep(t *testing.T) {
	for _, l := range [][]impl.Instr{nil, {}} {
		checkValues(t, l, firstValues(), []int{0, 1, 2, 3, 4, 5, 6, 7})
		checkSame(t, l, []int{0, 1, 2, 3, 4, 5, 6, 7})
		checkNumbered(t, l, nil)
		if cost, ok := impl.CostOf(l); cost != 0 || !ok {
			t.Error("CostOf of no step:", cost, ok)
		}
	}
}

func TestNumberCodeKnown(t *testing.T) {
	known := []struct{ text, numbered string }{
		{"c=a+b;d=b+a;e=c*d;f=7;g=f-f;h=a+g", "c=a+b;d=c;e=c*d;f=7;g=0;h=a"},
		{"!a;a=5;!a;!h", "!a;a=5;!a;!h"},
		{"a=0;h=65535", "a=0;h=65535"},
		{"a=5;b=a;c=b+a;d=c*b;e=d<c;f=e~e;!f", "a=5;b=5;c=10;d=50;e=0;f=1;!f"},
		// Each kind stays where nothing is known of it.
		{"c=a+b;d=a-b;e=a*b;f=a<b;g=a~b", "c=a+b;d=a-b;e=a*b;f=a<b;g=a~b"},
		{"c=b+a;d=b*a;e=b~a", "c=b+a;d=b*a;e=b~a"},
		// A copy is one of the first name with that value.
		{"b=a;c=b", "b=a;c=a"},
		{"a=h;c=h", "a=h;c=a"},
		{"h=g;g=f;a=h;b=h;h=a", "h=g;g=f;a=h;b=a;h=a"},
		{"d=a+b;c=a+b;e=a+b", "d=a+b;c=d;e=c"},
		{"h=a+b;b=5;g=h", "h=a+b;b=5;g=h"},
		// The first name may be the step's own Dst.
		{"a=a", "a=a"},
		{"h=h", "h=h"},
		{"b=b;a=b;b=a", "b=b;a=b;b=a"},
		{"c=a+b;c=a+b", "c=a+b;c=c"},
		{"c=a+b;c=b+a;d=c;d=a+b", "c=a+b;c=c;d=c;d=c"},
		{"c=0;a=a+c", "c=0;a=a"},
		{"c=1;h=c*h", "c=1;h=h"},
		// What no name has any more is reckoned again.
		{"c=a+b;c=5;d=a+b;e=b+a", "c=a+b;c=5;d=a+b;e=d"},
		{"c=a*b;c=c*c;d=a*b;c=b*a", "c=a*b;c=c*c;d=a*b;c=d"},
		{"a=a+b;a=a+b", "a=a+b;a=a+b"},
		// What it looks at may have become another value meanwhile.
		{"c=a+b;a=d;e=a+b", "c=a+b;a=d;e=a+b"},
		{"c=a+b;d=a;a=5;e=d+b", "c=a+b;d=a;a=5;e=c"},
		{"c=a+b;e=a;a=b;b=e;f=a+b", "c=a+b;e=a;a=b;b=e;f=c"},
		{"c=a-b;e=a;a=b;b=e;f=a-b", "c=a-b;e=a;a=b;b=e;f=a-b"},
		// Rules that leave a name, and rules that leave a word.
		{"d=0;c=a-d;e=a*d;f=d*a;g=d-a", "d=0;c=a;e=0;f=0;g=d-a"},
		{"d=a;c=a-d;e=d<a;f=d~a;g=d+a", "d=a;c=0;e=0;f=1;g=d+a"},
		{"a=65535;b=1;c=a+b;d=c-b;e=a*a;f=b<a;g=a<b", "a=65535;b=1;c=0;d=65535;e=1;f=1;g=0"},
	}
	for _, k := range known {
		l := readAs(t, k.text)
		numbered, ok := impl.NumberCode(l)
		if s, _ := impl.CodeText(numbered); s != k.numbered || !ok {
			t.Errorf("NumberCode %q = %q %v, not %q", k.text, s, ok, k.numbered)
		}
		checkNumberedRuns(t, l, []int{3, 5, 7, 11, 13, 17, 19, 65535})
	}
}

func TestSameValueAndKnownAt(t *testing.T) {
	l := readAs(t, "h=5;c=a+b;d=b+a;g=a;b=h-h;f=c-d")
	for _, k := range []struct {
		a, b int
		same bool
	}{{2, 3, true}, {3, 2, true}, {0, 6, true}, {1, 5, true}, {0, 0, true}, {7, 7, true}, {0, 1, false}, {2, 4, false}, {7, 1, false}} {
		if same, ok := impl.SameValue(l, k.a, k.b); same != k.same || !ok {
			t.Errorf("SameValue of %d and %d = %v %v", k.a, k.b, same, ok)
		}
	}
	if known, ok := impl.KnownAt(l); !slices.Equal(known, []int{1, 5, 7}) || !ok {
		t.Error("KnownAt:", known, ok)
	}
	if known, ok := impl.KnownAt(readAs(t, "a=5;h=6;a=b;h=g;c=a+h")); len(known) != 0 || !ok {
		t.Error("KnownAt, where none is:", known, ok)
	}
	all := readAs(t, "h=0;g=65535;f=0;e=1;d=2;c=d-e;b=d<e;a=g")
	if known, ok := impl.KnownAt(all); !slices.Equal(known, []int{0, 1, 2, 3, 4, 5, 6, 7}) || !ok {
		t.Error("KnownAt, where all are:", known, ok)
	}
}

func TestCostKnown(t *testing.T) {
	for text, want := range map[string]int{
		"a=5": 0, "a=b": 0, "!a": 0, "a=b+c": 1, "a=b-c": 1, "a=b<c": 1, "a=b~c": 1, "a=b*c": 3,
		"a=5;a=a*a;a=a*a;!a": 6, "a=b+c;a=b-c;a=b<c;a=b~c;a=b*c;a=b;a=0;!a": 7,
	} {
		if cost, ok := impl.CostOf(readAs(t, text)); cost != want || !ok {
			t.Errorf("CostOf %q = %d %v, not %d", text, cost, ok, want)
		}
	}
	most := slices.Repeat(readAs(t, "a=b*c"), impl.MaxCode)
	if cost, ok := impl.CostOf(most); cost != 3*impl.MaxCode || !ok {
		t.Error("CostOf MaxCode steps:", cost, ok)
	}
}

func TestNumberAtMaxCode(t *testing.T) {
	var l []impl.Instr
	for at := range impl.MaxCode {
		l = append(l, impl.Instr{Op: impl.OpAdd, Dst: at % 2, A: at % 2, B: 1 - at%2})
	}
	values, names, numbered := numberApart(l)
	if len(values) != impl.MaxVars+impl.MaxCode || !slices.Equal(numbered, l) {
		t.Fatal("each step was to have a value of its own:", values, numbered)
	}
	checkValues(t, l, values, names)
	checkNumbered(t, l, l)
	checkNumberRefused(t, append(l, l[0]))

	same := slices.Repeat([]impl.Instr{{Op: impl.OpMul, Dst: lastName, A: 0, B: 1}}, impl.MaxCode)
	if values, names, ok := impl.ValuesOf(same); len(values) != impl.MaxVars+1 || names[lastName] != impl.MaxVars || !ok {
		t.Error(values, names, ok)
	}
	numbered, _ = impl.NumberCode(same)
	if cost, ok := impl.CostOf(numbered); cost != 3 || !ok {
		t.Error("MaxCode times the same, numbered, costs", cost, ok)
	}
}

// All pairs of the steps of oneOfEach, and all rows of three of some steps on
// two names, with words at the ends.
func TestNumberOfShortCode(t *testing.T) {
	d := &lots{state: 4}
	check := func(l []impl.Instr) {
		t.Helper()
		values, names, numbered := numberApart(l)
		checkValues(t, l, values, names)
		checkNumbered(t, l, numbered)
		checkNumberedRuns(t, l, d.words())
		checkValuesRun(t, l, d.words())
	}
	for _, i := range oneOfEach() {
		for _, j := range oneOfEach() {
			check([]impl.Instr{i, j})
		}
	}
	var small []impl.Instr
	for op := impl.OpAdd; op <= impl.OpEqual; op++ {
		small = append(small, impl.Instr{Op: op}, impl.Instr{Op: op, B: 1}, impl.Instr{Op: op, A: 1}, impl.Instr{Op: op, Dst: 1, B: 1})
	}
	small = append(small, impl.Instr{Op: impl.OpCopy, Dst: 1}, impl.Instr{Op: impl.OpCopy, A: 1})
	for _, n := range []int{0, 1, 65535} {
		small = append(small, impl.Instr{Op: impl.OpConst, N: n}, impl.Instr{Op: impl.OpConst, Dst: 1, N: n})
	}
	for _, i := range small {
		for _, j := range small {
			for _, k := range small {
				check([]impl.Instr{i, j, k, {Op: impl.OpOut}})
			}
		}
	}
}

func TestNumberOfMany(t *testing.T) {
	d := &lots{state: 44}
	for round := range 4000 {
		l := d.code(round % (impl.MaxCode + 1))
		if round%3 != 0 {
			l = d.closeCode(round % (impl.MaxCode + 1))
		}
		values, names, numbered := numberApart(l)
		checkValues(t, l, values, names)
		checkSame(t, l, names)
		checkNumbered(t, l, numbered)
		for range 3 {
			vars := d.words()
			checkNumberedRuns(t, l, vars)
			checkValuesRun(t, l, vars)
		}
		if t.Failed() {
			return
		}
	}
}

// Numbered code has the values of the code, and is numbered already but for
// copies, so that a second numbering changes nothing.
func TestNumberCodeTwice(t *testing.T) {
	d := &lots{state: 444}
	for round := range 2000 {
		l := d.closeCode(round % (impl.MaxCode + 1))
		once, _ := impl.NumberCode(l)
		values, names, _ := impl.ValuesOf(l)
		checkValues(t, once, values, names)
		checkNumbered(t, once, once)
		if t.Failed() {
			return
		}
	}
}

func TestNumberRefusesWrongCode(t *testing.T) {
	good := readAs(t, "b=5;!b")
	for _, i := range wrongInstrs() {
		checkNumberRefused(t, []impl.Instr{i})
		checkNumberRefused(t, []impl.Instr{i, good[0], good[1]})
		checkNumberRefused(t, []impl.Instr{good[0], i, good[1]})
		checkNumberRefused(t, []impl.Instr{good[0], good[1], i})
	}
	checkNumberRefused(t, []impl.Instr{{}})
	checkNumberRefused(t, slices.Repeat(good[1:], impl.MaxCode+1))
	checkNumberRefused(t, slices.Repeat(good, 1000))
	checkNumberRefused(t, make([]impl.Instr, impl.MaxCode))
}

func TestSameValueRefusesWrongNames(t *testing.T) {
	codes := [][]impl.Instr{nil, readAs(t, "a=5;b=5"), readAs(t, "!h")}
	for _, wrong := range []int{math.MinInt, -1 << 32, -8, -2, -1, impl.MaxVars, impl.MaxVars + 1, 65535, 1 << 32, math.MaxInt} {
		for _, l := range codes {
			for _, pair := range [][2]int{{wrong, wrong}, {wrong, 0}, {0, wrong}, {wrong, lastName}, {lastName, wrong}} {
				if same, ok := impl.SameValue(l, pair[0], pair[1]); same || ok {
					t.Errorf("SameValue(%v, %d, %d) = %v %v", l, pair[0], pair[1], same, ok)
				}
			}
		}
	}
}

// Promise 19: nothing is written into code, not even behind its length, and
// nothing there is read.
func TestNumberLeavesTheCode(t *testing.T) {
	d := &lots{state: 4444}
	for range 300 {
		steps := d.below(impl.MaxCode + 1)
		memory := append(d.closeCode(steps), slices.Repeat([]impl.Instr{{Op: 99, N: -1}}, 40)...)
		before := slices.Clone(memory)
		l := memory[:steps]
		values, names, numbered := numberApart(l)
		checkValues(t, l, values, names)
		checkSame(t, l, names)
		checkNumbered(t, l, numbered)
		impl.CostOf(l)
		checkNumberRefused(t, memory[:steps+1])
		checkNumberRefused(t, memory)
		if !slices.Equal(memory, before) {
			t.Fatal("something was written into the code:", memory)
		}
	}
}

func TestNumberAnswersAreNewMemory(t *testing.T) {
	for _, text := range []string{"", "!a;!b", "a=5;b=6", "c=a+b;d=b+a;e=5;!d"} {
		l := readAs(t, text)
		before := slices.Clone(l)
		wantValues, wantNames, wantNumbered := numberApart(l)
		for range 2 {
			values, names, _ := impl.ValuesOf(l)
			clear(values[:cap(values)])
			if !slices.Equal(names, wantNames) {
				t.Error("ValuesOf's lists share memory:", names)
			}
			spoil(names)
			numbered, _ := impl.NumberCode(l)
			clear(numbered[:cap(numbered)])
			known, _ := impl.KnownAt(l)
			spoil(known)
			if !slices.Equal(l, before) {
				t.Error("an answer shares memory with the code:", l)
			}
			checkValues(t, l, wantValues, wantNames)
			checkNumbered(t, l, wantNumbered)
		}
	}
}

// A map has no order of its own; the answers have.
func TestNumberAnswersAlikeEachTime(t *testing.T) {
	l := readAs(t, "c=a+b;d=a-b;e=a*b;f=a<b;g=a~b;h=c+d;a=h*e;b=a-g;c=b+f;d=9;e=10;f=d*e;g=c*f")
	values, names, _ := impl.ValuesOf(l)
	if len(values) != impl.MaxVars+len(l) {
		t.Fatal("each step was to have a value of its own:", values)
	}
	for range 100 {
		checkValues(t, l, values, names)
	}
}

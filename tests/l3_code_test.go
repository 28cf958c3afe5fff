package tests

import (
	"math"
	"regexp"
	"slices"
	"strconv"
	"strings"
	"testing"

	"loop.example/g00350/impl"
)

const lastName = impl.MaxVars - 1

// lots draws numbers by a fixed rule, so that each run of the tests sees the
// same ones.
type lots struct{ state uint64 }

func (d *lots) below(n int) int {
	d.state = d.state*6364136223846793005 + 1442695040888963407
	return int(d.state>>33) % n
}

// word is often at or beside an end.
func (d *lots) word() int {
	edges := []int{0, 1, 2, 255, 256, 32767, 32768, 65534, 65535}
	if d.below(2) == 0 {
		return edges[d.below(len(edges))]
	}
	return d.below(65536)
}

func (d *lots) words() []int {
	var words []int
	for range impl.MaxVars {
		words = append(words, d.word())
	}
	return words
}

func (d *lots) instr() impl.Instr {
	dst, a, b := d.below(impl.MaxVars), d.below(impl.MaxVars), d.below(impl.MaxVars)
	switch op := 1 + d.below(8); op {
	case impl.OpConst:
		return impl.Instr{Op: op, Dst: dst, N: d.word()}
	case impl.OpCopy:
		return impl.Instr{Op: op, Dst: dst, A: a}
	case impl.OpOut:
		return impl.Instr{Op: op, A: a}
	default:
		return impl.Instr{Op: op, Dst: dst, A: a, B: b}
	}
}

func (d *lots) code(steps int) []impl.Instr {
	var l []impl.Instr
	for range steps {
		l = append(l, d.instr())
	}
	return l
}

// pairOf is the document's rule for two words, by numbers that go round by
// themselves.
func pairOf(op int, a int, b int) int {
	x, y := uint16(a), uint16(b)
	switch {
	case op == impl.OpAdd:
		return int(x + y)
	case op == impl.OpSub:
		return int(x - y)
	case op == impl.OpMul:
		return int(x * y)
	case op == impl.OpLess && x < y, op == impl.OpEqual && x == y:
		return 1
	}
	return 0
}

// runApart runs code by the document's words, apart from the program.
func runApart(l []impl.Instr, vars []int) ([]int, []int) {
	var told []int
	words := slices.Clone(vars)
	for _, i := range l {
		switch i.Op {
		case impl.OpConst:
			words[i.Dst] = i.N
		case impl.OpCopy:
			words[i.Dst] = words[i.A]
		case impl.OpOut:
			told = append(told, words[i.A])
		default:
			words[i.Dst] = pairOf(i.Op, words[i.A], words[i.B])
		}
	}
	return told, words
}

func checkRun(t *testing.T, l []impl.Instr, vars []int) {
	t.Helper()
	told, words, ok := impl.RunCode(l, vars)
	wantTold, wantWords := runApart(l, vars)
	if !slices.Equal(told, wantTold) || !slices.Equal(words, wantWords) || !ok {
		t.Errorf("RunCode(%v, %v) = %v %v %v, not %v %v true", l, vars, told, words, ok, wantTold, wantWords)
	}
}

// oneOfEach has each kind of step at the first and at the last name, with the
// least and the greatest N.
func oneOfEach() []impl.Instr {
	var l []impl.Instr
	for _, name := range []int{0, 3, lastName} {
		for _, n := range []int{0, 1, 65534, 65535} {
			l = append(l, impl.Instr{Op: impl.OpConst, Dst: name, N: n})
		}
		for _, other := range []int{0, 5, lastName} {
			l = append(l, impl.Instr{Op: impl.OpCopy, Dst: name, A: other})
			for op := impl.OpAdd; op <= impl.OpEqual; op++ {
				l = append(l, impl.Instr{Op: op, Dst: name, A: other, B: lastName - other})
			}
		}
		l = append(l, impl.Instr{Op: impl.OpOut, A: name})
	}
	return l
}

// wrongInstrs have something that no step has.
func wrongInstrs() []impl.Instr {
	var wrong []impl.Instr
	for _, op := range []int{math.MinInt, -1 << 32, -8, -1, 0, 9, 10, 1<<32 + 1, math.MaxInt} {
		wrong = append(wrong, impl.Instr{Op: op})
	}
	for _, name := range []int{math.MinInt, -1 << 32, -2, -1, 8, 9, 1 << 32, math.MaxInt} {
		for op := impl.OpAdd; op <= impl.OpEqual; op++ {
			wrong = append(wrong, impl.Instr{Op: op, Dst: name}, impl.Instr{Op: op, A: name}, impl.Instr{Op: op, B: name})
		}
		wrong = append(wrong,
			impl.Instr{Op: impl.OpConst, Dst: name}, impl.Instr{Op: impl.OpCopy, Dst: name},
			impl.Instr{Op: impl.OpCopy, A: name}, impl.Instr{Op: impl.OpOut, A: name})
	}
	for _, n := range noWords() {
		wrong = append(wrong, impl.Instr{Op: impl.OpConst, N: n})
	}
	return append(wrong, needlessFields()...)
}

// needlessFields have a field, good in itself, that says nothing in that kind.
func needlessFields() []impl.Instr {
	var wrong []impl.Instr
	for _, x := range []int{1, lastName, -1, 8, 65535, math.MinInt, math.MaxInt} {
		wrong = append(wrong,
			impl.Instr{Op: impl.OpConst, A: x}, impl.Instr{Op: impl.OpConst, B: x},
			impl.Instr{Op: impl.OpCopy, B: x}, impl.Instr{Op: impl.OpCopy, N: x},
			impl.Instr{Op: impl.OpOut, Dst: x}, impl.Instr{Op: impl.OpOut, B: x}, impl.Instr{Op: impl.OpOut, N: x})
		for op := impl.OpAdd; op <= impl.OpEqual; op++ {
			wrong = append(wrong, impl.Instr{Op: op, N: x})
		}
	}
	return wrong
}

func zeroWords() []int {
	return make([]int, impl.MaxVars)
}

// checkCodeRefused asks all functions that take code.
func checkCodeRefused(t *testing.T, l []impl.Instr) {
	t.Helper()
	if impl.GoodCode(l) {
		t.Errorf("GoodCode(%v) is true", l)
	}
	if told, words, ok := impl.RunCode(l, zeroWords()); len(told) != 0 || len(words) != 0 || ok {
		t.Errorf("RunCode(%v) = %v %v %v", l, told, words, ok)
	}
	if s, ok := impl.CodeText(l); s != "" || ok {
		t.Errorf("CodeText(%v) = %q %v", l, s, ok)
	}
	if names, ok := impl.NamesSet(l); len(names) != 0 || ok {
		t.Errorf("NamesSet(%v) = %v %v", l, names, ok)
	}
	if names, ok := impl.NamesNeeded(l); len(names) != 0 || ok {
		t.Errorf("NamesNeeded(%v) = %v %v", l, names, ok)
	}
}

func TestCodeBounds(t *testing.T) {
	ops := []int{impl.OpConst, impl.OpCopy, impl.OpAdd, impl.OpSub, impl.OpMul, impl.OpLess, impl.OpEqual, impl.OpOut}
	if impl.MaxCode != 30 || impl.MaxVars != 8 || !slices.Equal(ops, []int{1, 2, 3, 4, 5, 6, 7, 8}) {
		t.Error(impl.MaxCode, impl.MaxVars, ops)
	}
}

func TestRunCodeKnown(t *testing.T) {
	vars := []int{65535, 2, 40000, 40000, 0, 1, 300, 7}
	known := []struct {
		text string
		word int
	}{
		{"e=0", 0}, {"e=65535", 65535}, {"e=12", 12}, {"e=a", 65535}, {"e=e", 0},
		{"e=b+h", 9}, {"e=a+b", 1}, {"e=c+d", 14464}, {"e=a+a", 65534}, {"e=a+f", 0},
		{"e=h-b", 5}, {"e=b-h", 65531}, {"e=e-f", 65535}, {"e=e-a", 1}, {"e=c-d", 0},
		{"e=b*h", 14}, {"e=a*a", 1}, {"e=c*c", 4096}, {"e=g*g", 24464}, {"e=a*b", 65534}, {"e=e*a", 0},
		{"e=b<h", 1}, {"e=h<b", 0}, {"e=c<d", 0}, {"e=c<a", 1}, {"e=a<c", 0}, {"e=a<e", 0}, {"e=e<a", 1},
		{"e=c~d", 1}, {"e=a~a", 1}, {"e=b~h", 0}, {"e=h~b", 0}, {"e=a~e", 0},
	}
	for _, k := range known {
		l, ok := impl.ReadCode(k.text)
		if !ok || len(l) != 1 || !impl.GoodCode(l) {
			t.Fatalf("ReadCode(%q) = %v %v", k.text, l, ok)
		}
		want := slices.Clone(vars)
		want[4] = k.word
		if told, words, ok := impl.RunCode(l, vars); len(told) != 0 || !slices.Equal(words, want) || !ok {
			t.Errorf("RunCode of %q = %v %v %v, not e %d", k.text, told, words, ok, k.word)
		}
	}
}

func TestRunCodeTellsInOrder(t *testing.T) {
	l, _ := impl.ReadCode("!a;a=7;!a;!h;h=a*a;!h;!h;a=a-h;!a")
	told, words, ok := impl.RunCode(l, []int{3, 0, 0, 0, 0, 0, 0, 65535})
	if !slices.Equal(told, []int{3, 7, 65535, 49, 49, 65494}) || !ok {
		t.Error("told:", told, ok)
	}
	if !slices.Equal(words, []int{65494, 0, 0, 0, 0, 0, 0, 49}) {
		t.Error("words:", words)
	}
}

func TestRunCodeOfPairs(t *testing.T) {
	some := []int{0, 1, 2, 3, 254, 255, 256, 257, 32766, 32767, 32768, 32769, 65533, 65534, 65535}
	for op := impl.OpAdd; op <= impl.OpEqual; op++ {
		l := []impl.Instr{{Op: op, Dst: 0, A: 0, B: lastName}, {Op: impl.OpOut, A: 0}}
		for _, a := range some {
			for _, b := range some {
				checkRun(t, l, []int{a, 9, 9, 9, 9, 9, 9, b})
			}
		}
	}
}

func TestRunCodeOfNoStep(t *testing.T) {
	vars := []int{0, 65535, 1, 65534, 32767, 32768, 7, 65535}
	for _, l := range [][]impl.Instr{nil, {}} {
		if told, words, ok := impl.RunCode(l, vars); len(told) != 0 || !slices.Equal(words, vars) || !ok {
			t.Error(told, words, ok)
		}
		if !impl.GoodCode(l) {
			t.Error("GoodCode of no step is false")
		}
		if s, ok := impl.CodeText(l); s != "" || !ok {
			t.Errorf("CodeText of no step = %q %v", s, ok)
		}
		if names, ok := impl.NamesSet(l); len(names) != 0 || !ok {
			t.Error("NamesSet of no step:", names, ok)
		}
		if names, ok := impl.NamesNeeded(l); len(names) != 0 || !ok {
			t.Error("NamesNeeded of no step:", names, ok)
		}
	}
	if l, ok := impl.ReadCode(""); len(l) != 0 || !ok {
		t.Error("ReadCode of no byte:", l, ok)
	}
}

func TestRunCodeOfEachKind(t *testing.T) {
	d := &lots{state: 31}
	for _, i := range oneOfEach() {
		if !impl.GoodCode([]impl.Instr{i}) {
			t.Errorf("GoodCode of %v is false", i)
		}
		for range 20 {
			checkRun(t, []impl.Instr{i}, d.words())
		}
	}
}

// Promise 3: what the parts tell and leave, one after the other, is what the
// whole code tells and leaves.
func TestCodeInTwoPartsDoesWhatItDoesWhole(t *testing.T) {
	d := &lots{state: 3}
	for round := range 600 {
		l, vars := d.code(round%(impl.MaxCode+1)), d.words()
		checkRun(t, l, vars)
		told, words, ok := impl.RunCode(l, vars)
		if !ok {
			t.Fatal("RunCode refuses", l, vars)
		}
		for cut := range len(l) + 1 {
			first, between, okFirst := impl.RunCode(l[:cut], vars)
			second, end, okSecond := impl.RunCode(l[cut:], between)
			if !okFirst || !okSecond || !slices.Equal(append(first, second...), told) || !slices.Equal(end, words) {
				t.Fatalf("%v cut at %d, on %v: %v %v, whole %v %v", l, cut, vars, append(first, second...), end, told, words)
			}
		}
	}
}

func TestRunCodeAtMaxCode(t *testing.T) {
	l := slices.Repeat([]impl.Instr{{Op: impl.OpOut, A: lastName}}, impl.MaxCode)
	told, words, ok := impl.RunCode(l, []int{0, 0, 0, 0, 0, 0, 0, 65535})
	if !slices.Equal(told, slices.Repeat([]int{65535}, impl.MaxCode)) || len(words) != impl.MaxVars || !ok {
		t.Error(told, words, ok)
	}
	checkCodeRefused(t, append(l, l[0]))
	checkCodeRefused(t, slices.Repeat(l, 10))
}

func TestCodeTextKnown(t *testing.T) {
	known := []struct {
		l    []impl.Instr
		text string
	}{
		{[]impl.Instr{{Op: impl.OpConst}}, "a=0"},
		{[]impl.Instr{{Op: impl.OpConst, Dst: 7, N: 65535}}, "h=65535"},
		{[]impl.Instr{{Op: impl.OpConst, Dst: 2, N: 10}}, "c=10"},
		{[]impl.Instr{{Op: impl.OpCopy}}, "a=a"},
		{[]impl.Instr{{Op: impl.OpCopy, Dst: 0, A: 1}}, "a=b"},
		{[]impl.Instr{{Op: impl.OpAdd, Dst: 0, A: 1, B: 2}}, "a=b+c"},
		{[]impl.Instr{{Op: impl.OpSub, Dst: 3, A: 4, B: 5}}, "d=e-f"},
		{[]impl.Instr{{Op: impl.OpMul, Dst: 6, A: 7, B: 0}}, "g=h*a"},
		{[]impl.Instr{{Op: impl.OpLess, Dst: 1, A: 1, B: 1}}, "b=b<b"},
		{[]impl.Instr{{Op: impl.OpEqual, Dst: 7, A: 0, B: 7}}, "h=a~h"},
		{[]impl.Instr{{Op: impl.OpOut}}, "!a"},
		{[]impl.Instr{{Op: impl.OpOut, A: 7}, {Op: impl.OpConst, Dst: 4, N: 9}, {Op: impl.OpOut, A: 4}}, "!h;e=9;!e"},
	}
	for _, k := range known {
		if s, ok := impl.CodeText(k.l); s != k.text || !ok {
			t.Errorf("CodeText(%v) = %q %v, not %q true", k.l, s, ok, k.text)
		}
		if l, ok := impl.ReadCode(k.text); !slices.Equal(l, k.l) || !ok {
			t.Errorf("ReadCode(%q) = %v %v, not %v true", k.text, l, ok, k.l)
		}
	}
}

// Promise 3: code comes back from its text, and the text from its code.
func checkComesBack(t *testing.T, l []impl.Instr) {
	t.Helper()
	s, ok := impl.CodeText(l)
	if !ok {
		t.Fatalf("CodeText(%v) = %q %v", l, s, ok)
	}
	if back, ok := impl.ReadCode(s); !slices.Equal(back, l) || !ok {
		t.Fatalf("ReadCode(%q) = %v %v, not %v true", s, back, ok, l)
	}
}

func TestCodeComesBackFromItsText(t *testing.T) {
	for _, i := range oneOfEach() {
		checkComesBack(t, []impl.Instr{i})
	}
	for n := 0; n <= 65535; n++ {
		l := []impl.Instr{{Op: impl.OpConst, Dst: n % impl.MaxVars, N: n}}
		if s, ok := impl.CodeText(l); s != string(rune('a'+n%impl.MaxVars))+"="+strconv.Itoa(n) || !ok {
			t.Fatalf("CodeText(%v) = %q %v", l, s, ok)
		}
		checkComesBack(t, l)
	}
	d := &lots{state: 33}
	for round := range 2000 {
		checkComesBack(t, d.code(round%(impl.MaxCode+1)))
	}
}

const stepForm = `(?:[a-h]=(?:0|[1-9][0-9]*|[a-h]|[a-h][-+*<~][a-h])|![a-h])`

// goodText is the form of the document's texts, but for the number of steps
// and the greatest word.
var goodText = regexp.MustCompile(`\A(?:` + stepForm + `(?:;` + stepForm + `)*)?\z`)

var allDigits = regexp.MustCompile(`[0-9]+`)

func isGoodText(s string) bool {
	for _, digits := range allDigits.FindAllString(s, -1) {
		if n, err := strconv.Atoi(digits); err != nil || n > 65535 {
			return false
		}
	}
	return goodText.MatchString(s) && strings.Count(s, ";") < impl.MaxCode && len(s) <= 400
}

func checkText(t *testing.T, s string) {
	t.Helper()
	l, ok := impl.ReadCode(s)
	if ok != isGoodText(s) {
		t.Fatalf("ReadCode(%q) = %v %v, not %v", s, l, ok, isGoodText(s))
	}
	if !ok {
		if len(l) != 0 {
			t.Fatalf("ReadCode(%q) = %v %v", s, l, ok)
		}
		return
	}
	if back, okBack := impl.CodeText(l); back != s || !okBack || !impl.GoodCode(l) {
		t.Fatalf("CodeText(%v) = %q %v, read from %q", l, back, okBack, s)
	}
}

func TestReadCodeOfAllShortTexts(t *testing.T) {
	texts := []string{""}
	for range 5 {
		var longer []string
		for _, s := range texts {
			for _, r := range "ahi=!;+~019" {
				longer = append(longer, s+string(r))
			}
		}
		for _, s := range longer {
			checkText(t, s)
		}
		texts = longer
	}
}

func TestReadCodeOfAllBytes(t *testing.T) {
	for _, form := range []string{"?", "?=5", "a?5", "a=?", "a=?+c", "a=b?c", "a=b+?", "!?", "?a", "a=1?", "a=5?", "a=5?!b", "?a=5", "a=b+c?", "!a?"} {
		for b := range 256 {
			checkText(t, strings.Replace(form, "?", string([]byte{byte(b)}), 1))
		}
		for _, r := range []rune{'ä', 'а', 'ａ', '５', '＝', '！', '；', '\u0661', '\uFFFD', '\U0001F600', 0x161, 0x13D} {
			checkText(t, strings.Replace(form, "?", string(r), 1))
		}
	}
}

// Texts of good code, with one byte gone, doubled or another one.
func TestReadCodeOfSpoiltTexts(t *testing.T) {
	d := &lots{state: 333}
	for range 3000 {
		s, _ := impl.CodeText(d.code(1 + d.below(6)))
		at := d.below(len(s))
		checkText(t, s[:at])
		checkText(t, s[at:])
		checkText(t, s[:at]+s[at+1:])
		checkText(t, s[:at+1]+s[at:])
		checkText(t, s[:at]+string("abh=;!+-*<~0169 i"[d.below(17)])+s[at+1:])
	}
}

func TestReadCodeRefuses(t *testing.T) {
	wrong := []string{
		"a=00", "a=05", "a=000000", "a=0000000000000000000005", "a=-1", "a=-0", "a=+5", "a=-65535", "a=5-",
		"a=65536", "a=65537", "a=99999", "a=100000", "a=655350", "a=4294967296", "a=9223372036854775807",
		"a=9223372036854775808", "a=18446744073709551616", "a=18446744073709551621",
		"a=" + strings.Repeat("9", 390), "a=1" + strings.Repeat("0", 397), "a=" + strings.Repeat("0", 398),
		"i=5", "`=5", "A=5", "a=i", "a=H", "a=b+i", "a=i+b", "!i", "!A", "!`", "z=z*z", "ab=5", "a=bc", "a=ab+c", "a=b+cd",
		";", ";;", ";a=5", "a=5;", "a=5;;b=6", ";!a", "!a;", "!a;;!b", ";a=b+c;", "a=b;;", ";;a=b",
		" ", " a=5", "a=5 ", "a =5", "a= 5", "a=b +c", "a=b+ c", "! a", "!a ", "a=5; b=6", "a=5 ;b=6", "a=5\n", "\ta=5", "a=5;\nb=6", "a=5\x00",
		"a", "a=", "a=b+", "a=b~", "!", "=", "=5", "=b", "a==5", "a=b=c", "a=5=b", "5", "5=a", "b+c", "a=+c", "a=b++c", "a=b+c+d",
		"a=b+5", "a=5+b", "a=5+5", "a=b-1", "!5", "!!a", "!a=5", "a=!b", "!a!b", "a=5b=6", "a=5!b", "a!", "a=b<", "a=<b", "a=b<=c", "a=b>c", "a=b/c", "a=b%c",
		"a=0x5", "a=1e3", "a=1_0", "a=5.0", "a=b=", "a=\u0665", "\u00e4=5", "a=b\u2212c", "\xff", "a=\xff", "a=5;\xc3", "\xef\xbb\xbfa=5",
	}
	for _, s := range wrong {
		if l, ok := impl.ReadCode(s); len(l) != 0 || ok {
			t.Errorf("ReadCode(%q) = %v %v", s, l, ok)
		}
		if l, ok := impl.ReadCode("a=5;" + s + ";b=6"); len(l) != 0 || ok {
			t.Errorf("ReadCode of %q between two steps = %v %v", s, l, ok)
		}
		checkText(t, s)
	}
}

func TestReadCodeAtTheLimits(t *testing.T) {
	for _, s := range []string{"!a", "a=65535", "h=h~h", "a=b"} {
		most := strings.Repeat(s+";", impl.MaxCode-1) + s
		l, ok := impl.ReadCode(most)
		if len(l) != impl.MaxCode || !ok {
			t.Errorf("ReadCode of %d times %q: %d steps, %v", impl.MaxCode, s, len(l), ok)
		}
		checkText(t, most)
		for more := 1; more <= 200; more++ {
			most += ";" + s
			if l, ok := impl.ReadCode(most); len(l) != 0 || ok {
				t.Errorf("ReadCode of %d times %q: %d steps, %v", impl.MaxCode+more, s, len(l), ok)
			}
		}
	}
	// No good code has a text of so many bytes: 30 steps have 239 at most.
	for _, bytes := range []int{239, 240, 399, 400, 401, 402, 100000} {
		for _, fill := range []string{"a=65535;", "!a;", "a", "0", "1", ";", " ", "\xff", "a=b+c;"} {
			s := strings.Repeat(fill, bytes/len(fill)+1)[:bytes]
			if l, ok := impl.ReadCode(s); ok != isGoodText(s) || ok != (len(l) != 0) {
				t.Errorf("ReadCode of %d bytes of %q: %v %v", bytes, fill, l, ok)
			}
		}
	}
}

// namesApart tells both lists by the document's words: each name is asked by
// itself, by the first step that sets it and the steps up to there.
func namesApart(l []impl.Instr) ([]int, []int) {
	var set, needed []int
	for name := range impl.MaxVars {
		first := slices.IndexFunc(l, func(i impl.Instr) bool { return i.Op != impl.OpOut && i.Dst == name })
		if first >= 0 {
			set = append(set, name)
		} else {
			first = len(l) - 1
		}
		if slices.ContainsFunc(l[:first+1], func(i impl.Instr) bool {
			hasA := i.Op != impl.OpConst
			hasB := hasA && i.Op != impl.OpCopy && i.Op != impl.OpOut
			return hasA && i.A == name || hasB && i.B == name
		}) {
			needed = append(needed, name)
		}
	}
	return set, needed
}

func checkNames(t *testing.T, l []impl.Instr, wantSet []int, wantNeeded []int) {
	t.Helper()
	if set, ok := impl.NamesSet(l); !slices.Equal(set, wantSet) || !ok {
		t.Errorf("NamesSet(%v) = %v %v, not %v true", l, set, ok, wantSet)
	}
	if needed, ok := impl.NamesNeeded(l); !slices.Equal(needed, wantNeeded) || !ok {
		t.Errorf("NamesNeeded(%v) = %v %v, not %v true", l, needed, ok, wantNeeded)
	}
}

func TestNamesKnown(t *testing.T) {
	known := []struct {
		text   string
		set    []int
		needed []int
	}{
		{"a=5", []int{0}, nil},
		{"h=5;a=6;h=7", []int{0, 7}, nil},
		{"!a", nil, []int{0}},
		{"!h;!a;!h", nil, []int{0, 7}},
		{"a=a", []int{0}, []int{0}},
		{"b=a", []int{1}, []int{0}},
		{"a=a+a", []int{0}, []int{0}},
		{"a=b+a", []int{0}, []int{0, 1}},
		{"a=a-b", []int{0}, []int{0, 1}},
		{"a=5;a=a*a;!a", []int{0}, nil},
		{"a=5;b=a+c;c=b;!c", []int{0, 1, 2}, []int{2}},
		{"c=d<e;d=1;e=d~c;!e;!d;!f", []int{2, 3, 4}, []int{3, 4, 5}},
		{"h=g;g=f;f=e;e=d;d=c;c=b;b=a;a=h", []int{0, 1, 2, 3, 4, 5, 6, 7}, []int{0, 1, 2, 3, 4, 5, 6}},
		{"!a;a=1;!a", []int{0}, []int{0}},
		{"a=1;!a;!b;b=a", []int{0, 1}, []int{1}},
	}
	for _, k := range known {
		l, ok := impl.ReadCode(k.text)
		if !ok {
			t.Fatal("ReadCode refuses", k.text)
		}
		checkNames(t, l, k.set, k.needed)
	}
}

func TestNamesOfMany(t *testing.T) {
	for _, i := range oneOfEach() {
		for _, j := range oneOfEach() {
			l := []impl.Instr{i, j}
			set, needed := namesApart(l)
			checkNames(t, l, set, needed)
		}
	}
	d := &lots{state: 3333}
	for round := range 2000 {
		l := d.code(round % (impl.MaxCode + 1))
		set, needed := namesApart(l)
		checkNames(t, l, set, needed)
	}
}

// Words that are not needed change nothing that is told, and no word but
// those that are not set.
func TestNamesNotNeededChangeNothing(t *testing.T) {
	d := &lots{state: 8}
	for range 500 {
		l, vars := d.code(d.below(8)), d.words()
		needed, _ := impl.NamesNeeded(l)
		set, _ := impl.NamesSet(l)
		others := slices.Clone(vars)
		for name := range others {
			if !slices.Contains(needed, name) {
				others[name] = d.word()
			}
		}
		told, words, _ := impl.RunCode(l, vars)
		toldBy, wordsBy, _ := impl.RunCode(l, others)
		if !slices.Equal(told, toldBy) {
			t.Fatalf("%v tells %v on %v, %v on %v", l, told, vars, toldBy, others)
		}
		for name := range vars {
			if slices.Contains(set, name) && words[name] != wordsBy[name] {
				t.Fatalf("%v leaves %v on %v, %v on %v", l, words, vars, wordsBy, others)
			}
			if !slices.Contains(set, name) && words[name] != vars[name] {
				t.Fatalf("%v leaves %v on %v: %d is not set", l, words, vars, name)
			}
		}
	}
}

func TestWrongCodeIsRefused(t *testing.T) {
	good := []impl.Instr{{Op: impl.OpConst, Dst: 1, N: 5}, {Op: impl.OpOut, A: 1}}
	for _, i := range wrongInstrs() {
		checkCodeRefused(t, []impl.Instr{i})
		checkCodeRefused(t, []impl.Instr{i, good[0], good[1]})
		checkCodeRefused(t, []impl.Instr{good[0], i, good[1]})
		checkCodeRefused(t, []impl.Instr{good[0], good[1], i})
	}
	checkCodeRefused(t, []impl.Instr{{}})
	checkCodeRefused(t, make([]impl.Instr, impl.MaxCode))
	checkCodeRefused(t, make([]impl.Instr, impl.MaxCode+1))
}

func TestRunCodeRefusesWrongWords(t *testing.T) {
	codes := [][]impl.Instr{nil, {{Op: impl.OpConst}}, {{Op: impl.OpAdd, Dst: 1, A: 2, B: 7}, {Op: impl.OpOut, A: 0}}}
	check := func(vars []int) {
		t.Helper()
		for _, l := range codes {
			if told, words, ok := impl.RunCode(l, vars); len(told) != 0 || len(words) != 0 || ok {
				t.Errorf("RunCode(%v, %v) = %v %v %v", l, vars, told, words, ok)
			}
		}
	}
	for length := range 20 {
		if length != impl.MaxVars {
			check(make([]int, length))
		}
	}
	check(nil)
	check(make([]int, 1000))
	for _, w := range noWords() {
		for name := range impl.MaxVars {
			vars := zeroWords()
			vars[name] = w
			check(vars)
		}
	}
}

// Promise 19: nothing is written into code and words, not even behind their
// lengths, and nothing there is read.
func TestCodeAndWordsAreLeft(t *testing.T) {
	d := &lots{state: 19}
	for range 200 {
		steps := d.below(impl.MaxCode + 1)
		memory := append(d.code(steps), slices.Repeat([]impl.Instr{{Op: 99, N: -1}}, 40)...)
		words := append(d.words(), -1, 65536, 7, 7, 7)
		memoryBefore, wordsBefore := slices.Clone(memory), slices.Clone(words)
		l, vars := memory[:steps], words[:impl.MaxVars]
		checkRun(t, l, vars)
		set, needed := namesApart(l)
		checkNames(t, l, set, needed)
		checkComesBack(t, l)
		checkCodeRefused(t, memory[:steps+1])
		impl.RunCode(l, words)
		impl.RunCode(memory, vars)
		if !slices.Equal(memory, memoryBefore) || !slices.Equal(words, wordsBefore) {
			t.Fatal("something was written into the arguments:", memory, words)
		}
	}
}

func TestCodeAnswersAreNewMemory(t *testing.T) {
	l, _ := impl.ReadCode("a=5;!a;b=a+c;!b;h=b*b;!h")
	vars := []int{1, 2, 3, 4, 5, 6, 7, 8}
	before := slices.Clone(l)
	wantTold, wantWords := runApart(l, vars)
	for range 2 {
		told, words, _ := impl.RunCode(l, vars)
		set, _ := impl.NamesSet(l)
		needed, _ := impl.NamesNeeded(l)
		spoil(told)
		if !slices.Equal(words, wantWords) {
			t.Error("RunCode's lists share memory:", words)
		}
		told, words, _ = impl.RunCode(l, vars)
		spoil(words)
		spoil(set)
		spoil(needed)
		if !slices.Equal(told, wantTold) {
			t.Error("RunCode's lists share memory:", told)
		}
		if !slices.Equal(vars, []int{1, 2, 3, 4, 5, 6, 7, 8}) || !slices.Equal(l, before) {
			t.Error("an answer shares memory with an argument:", vars, l)
		}
		checkNames(t, l, []int{0, 1, 7}, []int{2})
	}
	first, _ := impl.ReadCode("a=5;!a")
	clear(first[:cap(first)])
	if second, ok := impl.ReadCode("a=5;!a"); !slices.Equal(second, []impl.Instr{{Op: impl.OpConst, N: 5}, {Op: impl.OpOut}}) || !ok {
		t.Error("ReadCode keeps what it handed out:", second, ok)
	}
	_, words, _ := impl.RunCode(nil, vars)
	spoil(words)
	if !slices.Equal(vars, []int{1, 2, 3, 4, 5, 6, 7, 8}) {
		t.Error("RunCode of no step hands out its argument")
	}
}

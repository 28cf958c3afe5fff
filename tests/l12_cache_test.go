package tests

import (
	"math"
	"slices"
	"strconv"
	"strings"
	"sync"
	"testing"

	"loop.example/g00350/impl"
)

// methodsAs reads targets with commas between; those that lack are 0.
func methodsAs(t *testing.T, text string) []int {
	t.Helper()
	methods := numbersAs(t, strings.ReplaceAll(text, ",", " "))
	if len(methods) > impl.MaxNames {
		t.Fatalf("no methods: %q", text)
	}
	return append(methods, make([]int, impl.MaxNames-len(methods))...)
}

// worldAs reads classes as Up (- for none), a colon, and the methods.
func worldAs(t *testing.T, text string, stamp int) impl.World {
	t.Helper()
	w := impl.World{Stamp: stamp}
	for _, part := range strings.Fields(text) {
		up, methods, ok := strings.Cut(part, ":")
		number := -1
		if up != "-" {
			number = numbersAs(t, up)[0]
		}
		if !ok {
			t.Fatalf("no class: %q", part)
		}
		w.Classes = append(w.Classes, impl.Class{Up: number, Methods: methodsAs(t, methods)})
	}
	return w
}

func worldText(w impl.World) string {
	var texts []string
	for _, class := range w.Classes {
		texts = append(texts, strconv.Itoa(class.Up)+":"+strings.ReplaceAll(numbersText([][]int{class.Methods}), " ", ","))
	}
	return strings.Join(texts, " ") + " @" + strconv.Itoa(w.Stamp)
}

// waysAs reads ways as the class, >, and the target.
func waysAs(t *testing.T, text string) []impl.Way {
	t.Helper()
	var ways []impl.Way
	for _, part := range strings.Fields(text) {
		numbers := numbersAs(t, strings.ReplaceAll(part, ">", " "))
		if len(numbers) != 2 {
			t.Fatalf("no way: %q", part)
		}
		ways = append(ways, impl.Way{Class: numbers[0], Target: numbers[1]})
	}
	return ways
}

func sameCache(a impl.Cache, b impl.Cache) bool {
	return a.Name == b.Name && a.State == b.State && slices.Equal(a.Ways, b.Ways) && a.Stamp == b.Stamp && a.Hits == b.Hits && a.Looks == b.Looks
}

func cloneCache(c impl.Cache) impl.Cache {
	c.Ways = slices.Clone(c.Ways)
	return c
}

func isNoCache(c impl.Cache) bool {
	return sameCache(c, impl.Cache{})
}

func sameWorld(a impl.World, b impl.World) bool {
	return a.Stamp == b.Stamp && slices.EqualFunc(a.Classes, b.Classes, func(x impl.Class, y impl.Class) bool {
		return x.Up == y.Up && slices.Equal(x.Methods, y.Methods)
	})
}

func cloneWorld(w impl.World) impl.World {
	w.Classes = slices.Clone(w.Classes)
	for number, class := range w.Classes {
		w.Classes[number].Methods = slices.Clone(class.Methods)
	}
	return w
}

// findApart goes from the class up.
func findApart(w impl.World, class int, name int) (int, bool) {
	if class == -1 {
		return 0, false
	}
	if own := w.Classes[class].Methods[name]; own != 0 {
		return own, true
	}
	return findApart(w, w.Classes[class].Up, name)
}

func isUnderApart(w impl.World, a int, b int) bool {
	return a == b || a != -1 && isUnderApart(w, w.Classes[a].Up, b)
}

func setApart(w impl.World, class int, name int, target int) impl.World {
	changed := cloneWorld(w)
	changed.Classes[class].Methods[name] = target
	changed.Stamp++
	return changed
}

// stateApart is the State of a cache with so many ways, which is not StateMany.
func stateApart(ways int) int {
	return []int{impl.StateEmpty, impl.StateOne, impl.StateFew, impl.StateFew, impl.StateFew}[ways]
}

// callApart is for a good world and a good cache in it.
func callApart(w impl.World, c impl.Cache, class int) (impl.Cache, int, bool) {
	target, ok := 0, false
	if class >= 0 && class < len(w.Classes) {
		target, ok = findApart(w, class, c.Name)
	}
	if !ok {
		return impl.Cache{}, 0, false
	}
	c = cloneCache(c)
	if c.Stamp != w.Stamp {
		c.State, c.Ways, c.Stamp = impl.StateEmpty, nil, w.Stamp
	}
	isWay := slices.ContainsFunc(c.Ways, func(way impl.Way) bool { return way.Class == class })
	c.Hits += oneWhere(isWay)
	c.Looks += oneWhere(!isWay)
	if !isWay && c.State != impl.StateMany {
		c.Ways = append(c.Ways, impl.Way{Class: class, Target: target})
		if len(c.Ways) > 4 {
			c.State, c.Ways = impl.StateMany, nil
		} else {
			c.State = stateApart(len(c.Ways))
		}
	}
	if c.Hits > 1000000 || c.Looks > 1000000 {
		return impl.Cache{}, 0, false
	}
	return c, target, true
}

// playApart goes from a cache that is written out.
func playApart(w impl.World, name int, l []int) (impl.Cache, []int, bool) {
	c, ok := impl.Cache{Name: name, Stamp: w.Stamp}, true
	targets := make([]int, len(l))
	for at, class := range l {
		if c, targets[at], ok = callApart(w, c, class); !ok {
			return impl.Cache{}, nil, false
		}
	}
	return c, targets, true
}

// goodCacheApart is for a good world.
func goodCacheApart(w impl.World, c impl.Cache) bool {
	numbers := [][3]int{{0, c.Name, 4}, {0, c.State, 3}, {0, c.Stamp, w.Stamp}, {0, c.Hits, 1000000}, {0, c.Looks, 1000000}, {0, len(c.Ways), 4}}
	for _, n := range numbers {
		if n[1] < n[0] || n[1] > n[2] {
			return false
		}
	}
	if c.State != stateApart(len(c.Ways)) && (c.State != impl.StateMany || len(c.Ways) > 0) {
		return false
	}
	met := map[int]bool{}
	for _, way := range c.Ways {
		if way.Class < 0 || way.Class >= len(w.Classes) || met[way.Class] {
			return false
		}
		met[way.Class] = true
		if target, ok := findApart(w, way.Class, c.Name); c.Stamp == w.Stamp && (!ok || target != way.Target) {
			return false
		}
	}
	return true
}

func (d *lots) target() int {
	return []int{1, 2, 999, 1000, 1 + d.below(1000), 1 + d.below(1000)}[d.below(6)]
}

// world draws classes of which one in so many has no method of a name itself.
func (d *lots) world(classes int, rarely int) impl.World {
	w := impl.World{Stamp: []int{0, 1, 7, 999999, 1000000, d.below(1000001)}[d.below(6)]}
	for number := range classes {
		class := impl.Class{Up: d.below(number+1) - 1, Methods: make([]int, impl.MaxNames)}
		if d.below(3) > 0 {
			class.Up = number - 1
		}
		for name := range class.Methods {
			if d.below(rarely) > 0 {
				class.Methods[name] = d.target()
			}
		}
		w.Classes = append(w.Classes, class)
	}
	return w
}

func (d *lots) someWorld() impl.World {
	return d.world(1+d.below(impl.MaxClasses), 1+d.below(4))
}

// cache draws a good cache: of a world as it is, or an elder one whose targets
// are any.
func (d *lots) cache(w impl.World) impl.Cache {
	c := impl.Cache{Name: d.below(impl.MaxNames), Stamp: w.Stamp, Hits: d.below(1000001), Looks: d.below(1000001)}
	isElder := w.Stamp > 0 && d.below(3) == 0
	if isElder {
		c.Stamp = d.below(w.Stamp)
	}
	if d.below(5) == 0 {
		c.State = impl.StateMany
		return c
	}
	most := d.below(impl.MaxWays + 1)
	for _, class := range d.order(len(w.Classes)) {
		target, ok := findApart(w, class, c.Name)
		if isElder {
			target, ok = d.target(), true
		}
		if ok && len(c.Ways) < most {
			c.Ways = append(c.Ways, impl.Way{Class: class, Target: target})
		}
	}
	c.State = stateApart(len(c.Ways))
	return c
}

func (d *lots) classes(w impl.World, count int) []int {
	var l []int
	for range count {
		l = append(l, d.below(len(w.Classes)))
	}
	return l
}

// eachShape calls for all Ups that so many classes may have.
func eachShape(classes int, call func(ups []int)) {
	if classes == 0 {
		call(nil)
		return
	}
	eachShape(classes-1, func(ups []int) {
		for up := -1; up < classes-1; up++ {
			call(append(slices.Clone(ups), up))
		}
	})
}

// eachOwners calls for all worlds of so many classes in which a class has a
// method of the name, with a target of its own, or has none.
func eachOwners(classes int, name int, call func(w impl.World)) {
	eachShape(classes, func(ups []int) {
		for owners := range 1 << classes {
			w := impl.World{Stamp: 3}
			for number, up := range ups {
				class := impl.Class{Up: up, Methods: make([]int, impl.MaxNames)}
				class.Methods[name] = (10 + number) * (owners >> number & 1)
				w.Classes = append(w.Classes, class)
			}
			call(w)
		}
	})
}

// eachPlay calls for all lists of classes of a length.
func eachPlay(classes int, length int, call func(l []int)) {
	startsBelow(classes, length, call)
}

func checkFound(t *testing.T, w impl.World, class int, name int, want int, wantOk bool) {
	t.Helper()
	if target, ok := impl.FindMethod(w, class, name); target != want || ok != wantOk {
		t.Errorf("FindMethod(%s, %d, %d) = %d %v, not %d %v", worldText(w), class, name, target, ok, want, wantOk)
	}
}

// checkWorld asks for all that a good world tells of its classes and names.
func checkWorld(t *testing.T, w impl.World) {
	t.Helper()
	if !impl.GoodWorld(w) {
		t.Errorf("GoodWorld(%s) is false", worldText(w))
	}
	for class := range w.Classes {
		for name := range impl.MaxNames {
			target, ok := findApart(w, class, name)
			checkFound(t, w, class, name, target, ok)
		}
		for other := range w.Classes {
			want := isUnderApart(w, class, other)
			if is, ok := impl.SubclassOf(w, class, other); is != want || !ok {
				t.Errorf("SubclassOf(%s, %d, %d) = %v %v, not %v", worldText(w), class, other, is, ok, want)
			}
		}
	}
	for name := range impl.MaxNames {
		want := impl.Cache{Name: name, State: impl.StateEmpty, Stamp: w.Stamp}
		c, ok := impl.NewCache(w, name)
		if !sameCache(c, want) || !ok || !impl.GoodCache(w, c) {
			t.Errorf("NewCache(%s, %d) = %v %v", worldText(w), name, c, ok)
		}
	}
}

func checkSet(t *testing.T, w impl.World, class int, name int, target int) impl.World {
	t.Helper()
	want := setApart(w, class, name, target)
	changed, ok := impl.SetMethod(w, class, name, target)
	if !sameWorld(changed, want) || !ok || !impl.GoodWorld(changed) {
		t.Errorf("SetMethod(%s, %d, %d, %d) = %s %v, not %s", worldText(w), class, name, target, worldText(changed), ok, worldText(want))
	}
	return want
}

func checkGoodCache(t *testing.T, w impl.World, c impl.Cache, want bool) {
	t.Helper()
	if good := impl.GoodCache(w, c); good != want {
		t.Errorf("GoodCache(%s, %v) = %v", worldText(w), c, good)
	}
	if !want {
		for class := range w.Classes {
			checkCallRefused(t, w, c, class)
		}
	}
}

func checkCalled(t *testing.T, w impl.World, c impl.Cache, class int, want impl.Cache, wantTarget int) {
	t.Helper()
	after, target, ok := impl.CallBy(w, c, class)
	if !sameCache(after, want) || target != wantTarget || !ok {
		t.Errorf("CallBy(%s, %v, %d) = %v %d %v, not %v %d", worldText(w), c, class, after, target, ok, want, wantTarget)
	}
}

// checkCall asks for promise 12: the target is the one without the cache, and
// the cache behind the call is good.
func checkCall(t *testing.T, w impl.World, c impl.Cache, class int) impl.Cache {
	t.Helper()
	want, wantTarget, wantOk := callApart(w, c, class)
	if !wantOk {
		checkCallRefused(t, w, c, class)
		return want
	}
	checkCalled(t, w, c, class, want, wantTarget)
	after, target, _ := impl.CallBy(w, c, class)
	if found, ok := impl.FindMethod(w, class, c.Name); found != target || !ok {
		t.Errorf("CallBy(%s, %v, %d) goes to %d, FindMethod to %d %v", worldText(w), c, class, target, found, ok)
	}
	if !impl.GoodCache(w, after) || !goodCacheApart(w, after) {
		t.Errorf("CallBy(%s, %v, %d) = %v, which is no good cache", worldText(w), c, class, after)
	}
	return want
}

func checkCallRefused(t *testing.T, w impl.World, c impl.Cache, class int) {
	t.Helper()
	if after, target, ok := impl.CallBy(w, c, class); !isNoCache(after) || target != 0 || ok {
		t.Errorf("CallBy(%s, %v, %d) = %v %d %v", worldText(w), c, class, after, target, ok)
	}
}

func checkPlayed(t *testing.T, w impl.World, name int, l []int, want impl.Cache, wantTargets []int) {
	t.Helper()
	c, targets, ok := impl.PlayCalls(w, name, l)
	if !sameCache(c, want) || !slices.Equal(targets, wantTargets) || !ok {
		t.Errorf("PlayCalls(%s, %d, %v) = %v %v %v, not %v %v", worldText(w), name, l, c, targets, ok, want, wantTargets)
	}
}

func checkPlayRefused(t *testing.T, w impl.World, name int, l []int) {
	t.Helper()
	if c, targets, ok := impl.PlayCalls(w, name, l); !isNoCache(c) || len(targets) != 0 || ok {
		t.Errorf("PlayCalls(%s, %d, %v) = %v %v %v", worldText(w), name, l, c, targets, ok)
	}
}

func checkPlay(t *testing.T, w impl.World, name int, l []int) {
	t.Helper()
	if want, targets, ok := playApart(w, name, l); ok {
		checkPlayed(t, w, name, l, want, targets)
	} else {
		checkPlayRefused(t, w, name, l)
	}
}

func checkSetRefused(t *testing.T, w impl.World, class int, name int, target int) {
	t.Helper()
	if changed, ok := impl.SetMethod(w, class, name, target); !sameWorld(changed, impl.World{}) || ok {
		t.Errorf("SetMethod(%s, %d, %d, %d) = %s %v", worldText(w), class, name, target, worldText(changed), ok)
	}
}

func checkSubclassRefused(t *testing.T, w impl.World, a int, b int) {
	t.Helper()
	if is, ok := impl.SubclassOf(w, a, b); is || ok {
		t.Errorf("SubclassOf(%s, %d, %d) = %v %v", worldText(w), a, b, is, ok)
	}
}

// checkNameRefused is for what is no name.
func checkNameRefused(t *testing.T, w impl.World, name int) {
	t.Helper()
	if c, ok := impl.NewCache(w, name); !isNoCache(c) || ok {
		t.Errorf("NewCache(%s, %d) = %v %v", worldText(w), name, c, ok)
	}
	for class := range w.Classes {
		checkFound(t, w, class, name, 0, false)
		checkSetRefused(t, w, class, name, 5)
		checkPlayRefused(t, w, name, []int{class})
	}
	checkPlayRefused(t, w, name, nil)
	for state := range 4 {
		for ways := range 6 {
			checkGoodCache(t, w, impl.Cache{Name: name, State: state, Ways: make([]impl.Way, ways), Stamp: w.Stamp}, false)
		}
	}
}

// checkClassRefused is for what is no class of a good world.
func checkClassRefused(t *testing.T, w impl.World, class int) {
	t.Helper()
	for name := range impl.MaxNames {
		checkFound(t, w, class, name, 0, false)
		checkSetRefused(t, w, class, name, 5)
		checkPlayRefused(t, w, name, []int{class})
		checkCallRefused(t, w, impl.Cache{Name: name, Stamp: w.Stamp}, class)
		checkCallRefused(t, w, impl.Cache{Name: name, State: impl.StateMany, Stamp: w.Stamp}, class)
		checkCallRefused(t, w, impl.Cache{Name: name}, class)
		for _, stamp := range []int{0, w.Stamp} {
			for _, target := range []int{0, 1, w.Classes[0].Methods[name]} {
				checkGoodCache(t, w, impl.Cache{Name: name, State: impl.StateOne, Ways: []impl.Way{{Class: class, Target: target}}, Stamp: stamp}, false)
			}
		}
	}
	for other := range w.Classes {
		checkSubclassRefused(t, w, class, other)
		checkSubclassRefused(t, w, other, class)
	}
	checkSubclassRefused(t, w, class, class)
}

// checkWorldRefused asks all functions of the chapter.
func checkWorldRefused(t *testing.T, w impl.World) {
	t.Helper()
	if impl.GoodWorld(w) {
		t.Errorf("GoodWorld(%s)", worldText(w))
	}
	for class := -1; class < min(len(w.Classes), 10)+1; class++ {
		for name := range impl.MaxNames {
			checkFound(t, w, class, name, 0, false)
			checkSetRefused(t, w, class, name, 5)
			checkPlayRefused(t, w, name, []int{class})
			for _, stamp := range []int{0, w.Stamp} {
				c := impl.Cache{Name: name, Stamp: stamp}
				checkGoodCache(t, w, c, false)
				checkCallRefused(t, w, c, class)
			}
		}
		checkSubclassRefused(t, w, class, class)
		checkSubclassRefused(t, w, class, 0)
	}
	for name := range impl.MaxNames {
		if c, ok := impl.NewCache(w, name); !isNoCache(c) || ok {
			t.Errorf("NewCache(%s, %d) = %v %v", worldText(w), name, c, ok)
		}
		checkPlayRefused(t, w, name, nil)
	}
}

func TestCacheBounds(t *testing.T) {
	if impl.MaxClasses != 8 || impl.MaxNames != 5 || impl.MaxWays != 4 {
		t.Error(impl.MaxClasses, impl.MaxNames, impl.MaxWays)
	}
	if impl.StateEmpty != 0 || impl.StateOne != 1 || impl.StateFew != 2 || impl.StateMany != 3 {
		t.Error(impl.StateEmpty, impl.StateOne, impl.StateFew, impl.StateMany)
	}
}

func TestGoodWorldKnown(t *testing.T) {
	for _, classes := range []string{
		"-:", "-:1", "-:1000,1000,1000,1000,1000", "-:1,0,1000,0,1",
		"-: -:", "-: 0:", "-: 0: 1:", "-: 0: 0:", "-: -: 0:", "-: -: 1:", "-: -: -:",
		"-: 0: 1: 2: 3: 4: 5: 6:", "-: -: -: -: -: -: -: -:", "-: 0: 0: 0: 0: 0: 0: 0:", "-:5 0: 1:0,0,0,0,9 1: 3:1,2,3,4,5 -: 5:1000 0:",
	} {
		for _, stamp := range []int{0, 1, 500000, 999999, 1000000} {
			checkWorld(t, worldAs(t, classes, stamp))
		}
		for _, stamp := range []int{-1, 1000001} {
			checkWorldRefused(t, worldAs(t, classes, stamp))
		}
	}
	for _, classes := range []string{
		"", "0:", "1:", "-: 1:", "-: 2:", "-: 0: 2:", "-: 0: 3:", "1: 0:", "-: 2: 1:", "-2:", "-: -2:", "-: 0: -2:",
		"-: 0: 1: 2: 3: 4: 5: 7:", "-: 0: 1: 2: 3: 4: 5: 8:", "-: 0: 1: 2: 3: 4: 5: 6: 7:", "-: -: -: -: -: -: -: -: -:",
		"-:-1", "-:1001", "-:1,1,1,1,1001", "-:1,1,1,1,-1", "-: 0:1,1001", "-:1,-1 0:", "-: 0: 1: 2: 3: 4: 5: 6:0,0,0,0,1001",
	} {
		checkWorldRefused(t, worldAs(t, classes, 4))
	}
}

func TestFindMethodKnown(t *testing.T) {
	known := []struct {
		classes     string
		class, name int
		target      int
	}{
		// A class's own method, by its name; one alone, and among others.
		{"-:7", 0, 0, 7}, {"-:7,8,9,10,11", 0, 0, 7}, {"-:7,8,9,10,11", 0, 1, 8}, {"-:7,8,9,10,11", 0, 2, 9}, {"-:7,8,9,10,11", 0, 3, 10}, {"-:7,8,9,10,11", 0, 4, 11},
		{"-:1", 0, 0, 1}, {"-:1000", 0, 0, 1000}, {"-:0,0,0,0,1000", 0, 4, 1000},
		// That of the class above, and one several above.
		{"-:7 0:", 1, 0, 7}, {"-: -:8 1:", 2, 0, 8}, {"-:7 0: 1:", 2, 0, 7}, {"-:7 0: 1: 2: 3: 4: 5: 6:", 7, 0, 7}, {"-:0,0,3 0: -: 1:", 3, 2, 3}, {"-:4 -:5 0: 1: 2: 3:", 4, 0, 4}, {"-:4 -:5 0: 1: 2: 3:", 5, 0, 5},
		// The nearest of several.
		{"-:7 0:8", 1, 0, 8}, {"-:7 0:8", 0, 0, 7}, {"-:7 0:8 1:", 2, 0, 8}, {"-:7 0:8 1: 2:", 3, 0, 8}, {"-:7 0:8 1:9", 2, 0, 9}, {"-:7 0:8 0:", 2, 0, 7}, {"-:7 0:8 1: 0:9 2:", 4, 0, 8},
		{"-:7 0:0,8 1:0,0,9", 2, 0, 7}, {"-:7 0:0,8 1:0,0,9", 2, 1, 8}, {"-:7 0:0,8 1:0,0,9", 2, 2, 9}, {"-:1,2,3,4,5 0:6,0,8,0,9", 1, 1, 2},
		// None at all: nobody has one, or none from the class upwards.
		{"-:", 0, 0, 0}, {"-:0,7", 0, 0, 0}, {"-:7", 0, 1, 0}, {"-: 0: 1:", 2, 4, 0}, {"-: 0:7", 0, 0, 0}, {"-: 0: 1: 2:9", 2, 0, 0}, {"-:7 -:", 1, 0, 0}, {"-: -:7 0:", 2, 0, 0}, {"-: 0:7 0:", 2, 0, 0},
	}
	for _, k := range known {
		for _, stamp := range []int{0, 1000000} {
			w := worldAs(t, k.classes, stamp)
			checkFound(t, w, k.class, k.name, k.target, k.target != 0)
			checkWorld(t, w)
		}
	}
}

func TestFindMethodInAllSmallWorlds(t *testing.T) {
	for name := range impl.MaxNames {
		for classes := 1; classes <= 4; classes++ {
			eachOwners(classes, name, func(w impl.World) { checkWorld(t, w) })
		}
	}
	eachOwners(5, 2, func(w impl.World) {
		for class := range w.Classes {
			target, ok := findApart(w, class, 2)
			checkFound(t, w, class, 2, target, ok)
		}
	})
}

func TestManyWorlds(t *testing.T) {
	d := &lots{state: 1984}
	for range 3000 {
		checkWorld(t, d.someWorld())
	}
}

func TestSubclassOfKnown(t *testing.T) {
	known := []struct {
		classes string
		a, b    int
		is      bool
	}{
		// A class and itself.
		{"-:", 0, 0, true}, {"-: -:", 1, 1, true}, {"-: 0: 1: 2: 3: 4: 5: 6:", 7, 7, true},
		// Up, Up of Up, and so on.
		{"-: 0:", 1, 0, true}, {"-: 0: 1:", 2, 1, true}, {"-: 0: 1:", 2, 0, true}, {"-: -: 0: 2:", 3, 0, true}, {"-: 0: 1: 2: 3: 4: 5: 6:", 7, 0, true}, {"-: 0: 1: 2: 3: 4: 5: 6:", 7, 3, true},
		// The other way around.
		{"-: 0:", 0, 1, false}, {"-: 0: 1:", 1, 2, false}, {"-: 0: 1:", 0, 2, false}, {"-: 0: 1: 2: 3: 4: 5: 6:", 0, 7, false},
		// Classes beside each other.
		{"-: -:", 0, 1, false}, {"-: -:", 1, 0, false}, {"-: 0: 0:", 1, 2, false}, {"-: 0: 0:", 2, 1, false}, {"-: 0: 0: 2:", 3, 1, false}, {"-: -: 0: 1:", 3, 0, false}, {"-: -: 0: 1:", 2, 1, false}, {"-: -: 0: 1:", 3, 2, false},
	}
	for _, k := range known {
		w := worldAs(t, k.classes, 5)
		if is, ok := impl.SubclassOf(w, k.a, k.b); is != k.is || !ok {
			t.Errorf("SubclassOf(%s, %d, %d) = %v %v", worldText(w), k.a, k.b, is, ok)
		}
	}
	// Methods do not count.
	for classes := 1; classes <= 6; classes++ {
		eachShape(classes, func(ups []int) {
			w := impl.World{}
			for number, up := range ups {
				w.Classes = append(w.Classes, impl.Class{Up: up, Methods: []int{number % 3, 0, 1000, 0, 1}})
			}
			for a := range w.Classes {
				for b := range w.Classes {
					if is, ok := impl.SubclassOf(w, a, b); is != isUnderApart(w, a, b) || !ok {
						t.Errorf("SubclassOf(%s, %d, %d) = %v %v", worldText(w), a, b, is, ok)
					}
				}
			}
		})
	}
}

func TestSetMethodOfEachTarget(t *testing.T) {
	w := worldAs(t, "-:1,2,3,4,5 0:0,7,0,8,0 1: -:1000,1000,1000,1000,1000", 41)
	for target := range 1001 {
		class, name := target%4, target/4%5
		checkSet(t, w, class, name, target)
	}
	for class := range w.Classes {
		for name := range impl.MaxNames {
			for _, target := range []int{0, 1, 2, 999, 1000} {
				checkWorld(t, checkSet(t, w, class, name, target))
			}
			// Also where it is the one that is there.
			checkSet(t, w, class, name, w.Classes[class].Methods[name])
		}
	}
	checkSet(t, worldAs(t, "-:", 0), 0, 0, 1)
	checkSet(t, worldAs(t, "-: 0: 1: 2: 3: 4: 5: 6:", 0), 7, 4, 1000)
}

func TestSetMethodStamps(t *testing.T) {
	for _, classes := range []string{"-:", "-:5 0:", "-: 0: 1: 2: 3: 4: 5: 6:1,2,3,4,5"} {
		for _, stamp := range []int{0, 1, 65535, 999998, 999999} {
			w := worldAs(t, classes, stamp)
			if changed, ok := impl.SetMethod(w, 0, 0, 9); changed.Stamp != stamp+1 || !ok {
				t.Error(worldText(changed), ok)
			}
			checkSet(t, w, 0, 4, 0)
		}
		w := worldAs(t, classes, 1000000)
		checkWorld(t, w)
		for _, target := range []int{0, 1, 5, 1000} {
			for class := range w.Classes {
				checkSetRefused(t, w, class, 0, target)
			}
		}
	}
}

// What is set is found by the class and those under it that have none nearer,
// and by no others.
func TestSetMethodIsFound(t *testing.T) {
	d := &lots{state: 88}
	for range 1500 {
		w := d.someWorld()
		w.Stamp = min(w.Stamp, 999999)
		class, name, target := d.below(len(w.Classes)), d.below(impl.MaxNames), d.target()
		changed := checkSet(t, w, class, name, target)
		taken := checkSet(t, w, class, name, 0)
		for other := range w.Classes {
			for n := range impl.MaxNames {
				want, ok := findApart(w, other, n)
				nearest := other
				for nearest != -1 && nearest != class && w.Classes[nearest].Methods[name] == 0 {
					nearest = w.Classes[nearest].Up
				}
				if n != name || nearest != class {
					checkFound(t, taken, other, n, want, ok)
				} else {
					want, ok = target, true
				}
				checkFound(t, changed, other, n, want, ok)
			}
		}
		if t.Failed() {
			return
		}
	}
}

// Eight classes, of which each has a target of its own for name 0; for name 1
// class 0 has one, which is found by all that are under it.
func manyClasses(t *testing.T, stamp int) impl.World {
	t.Helper()
	return worldAs(t, "-:10,50 0:11 1:12 0:13 3:14 -:15 5:16 6:17", stamp)
}

func TestCallByKnown(t *testing.T) {
	w := manyClasses(t, 9)
	steps := []struct {
		class, target      int
		state, hits, looks int
		ways               string
	}{
		{3, 13, impl.StateOne, 0, 1, "3>13"},
		{3, 13, impl.StateOne, 1, 1, "3>13"},
		{0, 10, impl.StateFew, 1, 2, "3>13 0>10"},
		{3, 13, impl.StateFew, 2, 2, "3>13 0>10"},
		{0, 10, impl.StateFew, 3, 2, "3>13 0>10"},
		{7, 17, impl.StateFew, 3, 3, "3>13 0>10 7>17"},
		{1, 11, impl.StateFew, 3, 4, "3>13 0>10 7>17 1>11"},
		{1, 11, impl.StateFew, 4, 4, "3>13 0>10 7>17 1>11"},
		{7, 17, impl.StateFew, 5, 4, "3>13 0>10 7>17 1>11"},
		{3, 13, impl.StateFew, 6, 4, "3>13 0>10 7>17 1>11"},
		{5, 15, impl.StateMany, 6, 5, ""},
		{5, 15, impl.StateMany, 6, 6, ""},
		{3, 13, impl.StateMany, 6, 7, ""},
		{6, 16, impl.StateMany, 6, 8, ""},
		{3, 13, impl.StateMany, 6, 9, ""},
	}
	c, ok := impl.NewCache(w, 0)
	if !ok {
		t.Fatal(c)
	}
	for _, s := range steps {
		want := impl.Cache{Name: 0, State: s.state, Ways: waysAs(t, s.ways), Stamp: 9, Hits: s.hits, Looks: s.looks}
		checkCalled(t, w, c, s.class, want, s.target)
		c = checkCall(t, w, c, s.class)
	}
	// Classes that share a target are unlike classes all the same.
	checkPlayed(t, w, 1, []int{2, 1, 2}, impl.Cache{Name: 1, State: impl.StateFew, Ways: waysAs(t, "2>50 1>50"), Stamp: 9, Hits: 1, Looks: 2}, []int{50, 50, 50})
	checkPlayed(t, w, 1, []int{4, 3, 2, 1, 0}, impl.Cache{Name: 1, State: impl.StateMany, Stamp: 9, Looks: 5}, []int{50, 50, 50, 50, 50})
}

// The cache as it is behind a change: the method of the class itself, of one
// above it, of one below it, and one that is taken away.
func TestCallByBehindAChange(t *testing.T) {
	w := worldAs(t, "-:7,3 0: 1:9 2: -:4", 5)
	c, _, ok := impl.PlayCalls(w, 0, []int{1, 1, 2, 1})
	before := impl.Cache{State: impl.StateFew, Ways: waysAs(t, "1>7 2>9"), Stamp: 5, Hits: 2, Looks: 2}
	if !sameCache(c, before) || !ok {
		t.Fatal(c, ok)
	}
	known := []struct {
		class, name, target int
		called, goes        int
	}{
		{1, 0, 5, 1, 5}, {1, 0, 5, 2, 9}, {1, 0, 5, 0, 7}, {1, 0, 7, 1, 7},
		{0, 0, 6, 1, 6}, {0, 0, 6, 0, 6}, {0, 0, 6, 2, 9}, {0, 0, 6, 3, 9},
		{2, 0, 8, 1, 7}, {2, 0, 8, 2, 8}, {2, 0, 8, 3, 8}, {3, 0, 8, 2, 9}, {3, 0, 8, 3, 8},
		{2, 0, 0, 2, 7}, {2, 0, 0, 3, 7}, {2, 0, 0, 1, 7}, {0, 0, 0, 2, 9}, {0, 0, 0, 3, 9},
		// Another name, and a class that is beside: the cache is emptied all the same.
		{1, 1, 5, 1, 7}, {4, 0, 1000, 1, 7}, {4, 0, 1000, 4, 1000}, {4, 0, 0, 2, 9}, {0, 4, 0, 1, 7},
	}
	for _, k := range known {
		v := checkSet(t, w, k.class, k.name, k.target)
		after := impl.Cache{State: impl.StateOne, Ways: []impl.Way{{Class: k.called, Target: k.goes}}, Stamp: 6, Hits: 2, Looks: 3}
		checkGoodCache(t, v, c, true)
		checkCalled(t, v, c, k.called, after, k.goes)
		checkCall(t, v, c, k.called)
		after.Hits++
		checkCalled(t, v, checkCall(t, v, c, k.called), k.called, after, k.goes)
	}
	// What the cache remembers is none any more.
	v := checkSet(t, w, 0, 0, 0)
	checkGoodCache(t, v, c, true)
	checkCallRefused(t, v, c, 1)
	checkCallRefused(t, v, c, 0)
	checkCallRefused(t, checkSet(t, w, 4, 0, 0), c, 4)
	// A change of the change: the Stamp is the elder one still.
	v = checkSet(t, v, 0, 0, 7)
	checkCalled(t, v, c, 1, impl.Cache{State: impl.StateOne, Ways: waysAs(t, "1>7"), Stamp: 7, Hits: 2, Looks: 3}, 7)
}

func TestCallByOfElderCaches(t *testing.T) {
	w := manyClasses(t, 1000000)
	elder := []impl.Cache{
		{State: impl.StateEmpty},
		{State: impl.StateOne, Ways: waysAs(t, "3>13")}, {State: impl.StateOne, Ways: waysAs(t, "3>999")}, {State: impl.StateOne, Ways: waysAs(t, "4>1")},
		{State: impl.StateFew, Ways: waysAs(t, "3>13 0>10")}, {State: impl.StateFew, Ways: waysAs(t, "0>1 1>1 2>1")}, {State: impl.StateFew, Ways: waysAs(t, "3>999 0>10 7>17 1>11")},
		{State: impl.StateMany},
	}
	for _, c := range elder {
		for _, stamp := range []int{0, 1, 999998, 999999} {
			for _, counts := range [][2]int{{0, 0}, {6, 9}, {1000000, 0}, {1000000, 999999}} {
				c.Stamp, c.Hits, c.Looks = stamp, counts[0], counts[1]
				checkGoodCache(t, w, c, true)
				after := impl.Cache{State: impl.StateOne, Ways: waysAs(t, "3>13"), Stamp: 1000000, Hits: counts[0], Looks: counts[1] + 1}
				checkCalled(t, w, c, 3, after, 13)
				for class := range w.Classes {
					checkCall(t, w, c, class)
				}
			}
			// No call is a hit at first: so the Looks are too many at once.
			c.Hits, c.Looks = 0, 1000000
			checkGoodCache(t, w, c, true)
			for class := range w.Classes {
				checkCallRefused(t, w, c, class)
			}
		}
	}
}

func TestCallByWithoutTheMethod(t *testing.T) {
	w := worldAs(t, "-:0,7 0: 1:9 -:5,0 3:", 8)
	caches := []impl.Cache{
		{State: impl.StateEmpty}, {State: impl.StateOne, Ways: waysAs(t, "2>9")}, {State: impl.StateFew, Ways: waysAs(t, "4>5 2>9 3>5")}, {State: impl.StateMany},
	}
	for _, c := range caches {
		c.Stamp = 8
		for class, has := range []bool{false, false, true, true, true} {
			checkGoodCache(t, w, c, true)
			if !has {
				checkCallRefused(t, w, c, class)
			}
			checkCall(t, w, c, class)
		}
		// Also where an elder cache has a Way of the class.
		c.Stamp = 7
		checkGoodCache(t, w, c, true)
		checkCallRefused(t, w, c, 0)
		for class := range 2 {
			elder := impl.Cache{State: impl.StateOne, Ways: []impl.Way{{Class: class, Target: 5}}, Stamp: 7}
			checkGoodCache(t, w, elder, true)
			checkCallRefused(t, w, elder, class)
			elder.Stamp = 8
			checkGoodCache(t, w, elder, false)
			elder.Ways[0].Target = 0
			checkGoodCache(t, w, elder, false)
		}
	}
}

func TestCallByAtTheBoundsOfItsCounts(t *testing.T) {
	w := manyClasses(t, 3)
	few := impl.Cache{State: impl.StateFew, Ways: waysAs(t, "3>13 0>10"), Stamp: 3}
	full := impl.Cache{State: impl.StateFew, Ways: waysAs(t, "3>13 0>10 7>17 1>11"), Stamp: 3}
	for _, c := range []impl.Cache{few, full} {
		c.Hits, c.Looks = 999999, 999999
		if after := checkCall(t, w, c, 0); after.Hits != 1000000 || after.Looks != 999999 {
			t.Error(after)
		}
		if after := checkCall(t, w, c, 5); after.Hits != 999999 || after.Looks != 1000000 {
			t.Error(after)
		}
		c.Hits = 1000000
		checkGoodCache(t, w, c, true)
		checkCallRefused(t, w, c, 0)
		if after := checkCall(t, w, c, 5); after.Hits != 1000000 || after.Looks != 1000000 {
			t.Error(after)
		}
		c.Hits, c.Looks = 4, 1000000
		checkGoodCache(t, w, c, true)
		checkCallRefused(t, w, c, 5)
		if after := checkCall(t, w, c, 0); after.Hits != 5 || after.Looks != 1000000 {
			t.Error(after)
		}
	}
	for _, c := range []impl.Cache{{State: impl.StateEmpty, Stamp: 3}, {State: impl.StateMany, Stamp: 3}} {
		c.Hits, c.Looks = 1000000, 999999
		checkGoodCache(t, w, checkCall(t, w, c, 6), true)
		c.Looks = 1000000
		checkGoodCache(t, w, c, true)
		for class := range w.Classes {
			checkCallRefused(t, w, c, class)
		}
	}
}

// Each list of calls in a small world, whose classes share methods or lack
// them.
func TestCallsOfAllShortPlays(t *testing.T) {
	for _, classes := range []string{"-:1 0:2 1:3 2:4 3:5", "-:7 0: 0: 1: 2:", "-: 0:4 1: -:6 3:"} {
		w := worldAs(t, classes, 1)
		for length := range 7 {
			eachPlay(len(w.Classes), length, func(l []int) { checkPlay(t, w, 0, l) })
		}
	}
}

func TestCallsInAllSmallWorlds(t *testing.T) {
	for classes := 1; classes <= 3; classes++ {
		eachOwners(classes, 3, func(w impl.World) {
			for length := range 5 {
				eachPlay(classes, length, func(l []int) { checkPlay(t, w, 3, l) })
			}
		})
	}
}

// Promise 12: each call between the changes, whatever is changed, goes where
// it goes without the cache, and a cache that was kept aside does so, too.
func TestCallsBetweenChanges(t *testing.T) {
	d := &lots{state: 1983}
	met := map[string]int{}
	for round := range 1500 {
		w := d.world(1+round%impl.MaxClasses, 1+d.below(6))
		w.Stamp = min(w.Stamp, 999000)
		name := d.below(impl.MaxNames)
		c := impl.Cache{Name: name, Stamp: w.Stamp}
		aside := c
		for range 60 {
			if d.below(12) == 0 {
				changed := name
				if d.below(4) == 0 {
					changed = d.below(impl.MaxNames)
				}
				target := d.target() * oneWhere(d.below(3) > 0)
				w = checkSet(t, w, d.below(len(w.Classes)), changed, target)
			}
			if d.below(20) == 0 {
				aside = c
			}
			class := d.below(len(w.Classes))
			checkCall(t, w, aside, class)
			after := checkCall(t, w, c, class)
			if isNoCache(after) {
				met["none"]++
				continue
			}
			met["hit"] += after.Hits - c.Hits
			met["elder"] += oneWhere(c.Stamp != w.Stamp)
			met["elder many"] += oneWhere(c.Stamp != w.Stamp && c.State == impl.StateMany)
			met["state "+strconv.Itoa(after.State)]++
			met["ways "+strconv.Itoa(len(after.Ways))]++
			c = after
		}
		if t.Failed() {
			return
		}
	}
	for _, what := range []string{"none", "hit", "elder", "elder many", "state 1", "state 2", "state 3", "ways 1", "ways 2", "ways 3", "ways 4"} {
		if met[what] < 500 {
			t.Error("only", met[what], "times", what)
		}
	}
}

// Promise 12, from any good cache on.
func TestCallByOfManyCaches(t *testing.T) {
	d := &lots{state: 1991}
	for range 5000 {
		w := d.someWorld()
		c := d.cache(w)
		checkGoodCache(t, w, c, true)
		for class := -1; class <= len(w.Classes); class++ {
			checkCall(t, w, c, class)
		}
		if t.Failed() {
			return
		}
	}
}

func TestPlayCallsKnown(t *testing.T) {
	w := manyClasses(t, 9)
	known := []struct {
		name                     int
		calls, targets           string
		state, hits, looks       int
		ways                     string
		behind                   int
		behindState, behindLooks int
	}{
		{0, "", "", impl.StateEmpty, 0, 0, "", 10, impl.StateOne, 1},
		{0, "4", "14", impl.StateOne, 0, 1, "4>14", 10, impl.StateFew, 2},
		{0, "4 4 4", "14 14 14", impl.StateOne, 2, 1, "4>14", 10, impl.StateFew, 2},
		{0, "4 7", "14 17", impl.StateFew, 0, 2, "4>14 7>17", 10, impl.StateFew, 3},
		{0, "7 4 7", "17 14 17", impl.StateFew, 1, 2, "7>17 4>14", 10, impl.StateFew, 3},
		{0, "7 6 5", "17 16 15", impl.StateFew, 0, 3, "7>17 6>16 5>15", 10, impl.StateFew, 4},
		{0, "7 6 5 4", "17 16 15 14", impl.StateFew, 0, 4, "7>17 6>16 5>15 4>14", 10, impl.StateMany, 5},
		{0, "7 6 5 4 3", "17 16 15 14 13", impl.StateMany, 0, 5, "", 10, impl.StateMany, 6},
		{0, "7 6 5 4 3 7 7", "17 16 15 14 13 17 17", impl.StateMany, 0, 7, "", 10, impl.StateMany, 8},
		{0, "7 7 6 7 5 4 4 3 7", "17 17 16 17 15 14 14 13 17", impl.StateMany, 3, 6, "", 10, impl.StateMany, 7},
		{1, "1 4 1", "50 50 50", impl.StateFew, 1, 2, "1>50 4>50", 50, impl.StateFew, 3},
	}
	for _, k := range known {
		c := impl.Cache{Name: k.name, State: k.state, Ways: waysAs(t, k.ways), Stamp: 9, Hits: k.hits, Looks: k.looks}
		checkPlayed(t, w, k.name, numbersAs(t, k.calls), c, numbersAs(t, k.targets))
		checkPlay(t, w, k.name, numbersAs(t, k.calls))
		if after, target, ok := impl.CallBy(w, c, 0); target != k.behind || after.State != k.behindState || after.Looks != k.behindLooks || !ok {
			t.Error(k.calls, after, target, ok)
		}
	}
}

func TestPlayCallsAtTheirBounds(t *testing.T) {
	w := manyClasses(t, 0)
	d := &lots{state: 100}
	for _, count := range []int{99, 100} {
		checkPlayed(t, w, 0, slices.Repeat([]int{3}, count), impl.Cache{State: impl.StateOne, Ways: waysAs(t, "3>13"), Hits: count - 1, Looks: 1}, slices.Repeat([]int{13}, count))
		for range 50 {
			checkPlay(t, w, 0, d.classes(w, count))
		}
	}
	for _, count := range []int{101, 102, 1000, 100000} {
		checkPlayRefused(t, w, 0, slices.Repeat([]int{3}, count))
		checkPlayRefused(t, w, 0, d.classes(w, count))
	}
	// A class without the method, in the midst and elsewhere.
	for _, class := range []int{5, 6, 7} {
		for _, count := range []int{1, 2, 3, 7, 100} {
			for _, at := range []int{0, count / 2, count - 1} {
				l := slices.Repeat([]int{1, 0}, count)[:count]
				checkPlay(t, w, 1, l)
				l[at] = class
				checkPlayRefused(t, w, 1, l)
				checkPlay(t, w, 0, l)
			}
		}
	}
}

func TestPlayCallsIsCallByEach(t *testing.T) {
	d := &lots{state: 404}
	played := 0
	for range 3000 {
		w := d.someWorld()
		name, l := d.below(impl.MaxNames), d.classes(w, d.below(101))
		if d.below(2) == 0 {
			l = l[:min(len(l), 6)]
		}
		checkPlay(t, w, name, l)
		c, ok := impl.NewCache(w, name)
		var targets []int
		for _, class := range l {
			if ok {
				var target int
				c, target, ok = impl.CallBy(w, c, class)
				targets = append(targets, target)
			}
		}
		if ok {
			played++
			checkPlayed(t, w, name, l, c, targets)
		} else {
			checkPlayRefused(t, w, name, l)
		}
	}
	if played < 1000 {
		t.Error("only", played, "plays")
	}
}

func TestGoodCacheOfEachState(t *testing.T) {
	w := manyClasses(t, 9)
	ways := waysAs(t, "3>13 0>10 7>17 1>11 5>15 2>12")
	for state := -2; state <= 6; state++ {
		for count := range len(ways) + 1 {
			for _, stamp := range []int{0, 8, 9} {
				want := count == 0 && (state == impl.StateEmpty || state == impl.StateMany) ||
					count == 1 && state == impl.StateOne || count >= 2 && count <= 4 && state == impl.StateFew
				checkGoodCache(t, w, impl.Cache{State: state, Ways: ways[:count], Stamp: stamp}, want)
			}
		}
	}
}

func TestGoodCacheOfItsWays(t *testing.T) {
	w := manyClasses(t, 9)
	whole := "3>13 0>10 7>17 1>11"
	for at := range 4 {
		for other := range at {
			// Two of one class, with one target and with two.
			c := impl.Cache{State: impl.StateFew, Ways: waysAs(t, whole), Stamp: 9}
			checkGoodCache(t, w, c, true)
			c.Ways[at] = c.Ways[other]
			for _, stamp := range []int{0, 8, 9} {
				c.Stamp = stamp
				checkGoodCache(t, w, c, false)
			}
			c.Ways[at].Target, c.Stamp = 999, 8
			checkGoodCache(t, w, c, false)
		}
		// A target that is not the world's: none, that of another class or name, any.
		for _, target := range []int{0, 1, 2, 9, 12, 14, 50, 999, 1000} {
			c := impl.Cache{State: impl.StateFew, Ways: waysAs(t, whole), Stamp: 9}
			c.Ways[at].Target = target
			checkGoodCache(t, w, c, false)
			for _, stamp := range []int{0, 1, 8} {
				c.Stamp = stamp
				checkGoodCache(t, w, c, true)
			}
			one := impl.Cache{State: impl.StateOne, Ways: c.Ways[at : at+1], Stamp: 9}
			checkGoodCache(t, w, one, false)
			one.Stamp = 8
			checkGoodCache(t, w, one, true)
		}
	}
	// The target is of the cache's name, and of the nearest class that has one.
	for name := range impl.MaxNames {
		for class := range w.Classes {
			for _, target := range []int{0, 10, 11, 12, 13, 14, 15, 16, 17, 50} {
				found, ok := findApart(w, class, name)
				c := impl.Cache{Name: name, State: impl.StateOne, Ways: []impl.Way{{Class: class, Target: target}}, Stamp: 9}
				checkGoodCache(t, w, c, ok && found == target)
				c.Stamp = 4
				checkGoodCache(t, w, c, true)
			}
		}
	}
}

// An elder cache has its targets from a world that is not there any more: of
// them nothing is asked.
func TestGoodCacheOfElderTargets(t *testing.T) {
	w := manyClasses(t, 9)
	for _, target := range []int{math.MinInt, -1, 0, 1, 1000, 1001, math.MaxInt} {
		for _, stamp := range []int{0, 8} {
			c := impl.Cache{State: impl.StateOne, Ways: []impl.Way{{Class: 5, Target: target}}, Stamp: stamp}
			checkGoodCache(t, w, c, true)
			checkCalled(t, w, c, 5, impl.Cache{State: impl.StateOne, Ways: waysAs(t, "5>15"), Stamp: 9, Looks: 1}, 15)
		}
	}
}

func TestGoodCacheOfItsStamp(t *testing.T) {
	for _, stamp := range []int{0, 1, 9, 999999, 1000000} {
		w := manyClasses(t, stamp)
		for _, c := range []impl.Cache{{State: impl.StateEmpty}, {State: impl.StateOne, Ways: waysAs(t, "3>13")}, {State: impl.StateFew, Ways: waysAs(t, "3>13 5>15")}, {State: impl.StateMany}} {
			for _, own := range []int{math.MinInt, -1 << 32, -2, -1, 0, 1, 2, 8, 9, 10, 999998, 999999, 1000000, 1000001, 1 << 32, math.MaxInt} {
				c.Stamp = own
				checkGoodCache(t, w, c, own >= 0 && own <= stamp)
			}
		}
	}
}

// Good caches of which something is another: mostly it is near by.
func TestGoodCacheOfChangedCaches(t *testing.T) {
	d := &lots{state: 2020}
	is := [2]int{}
	for range 20000 {
		w := d.someWorld()
		c := d.cache(w)
		switch d.below(7) {
		case 0:
			c.State += d.below(5) - 2
		case 1:
			c.Name += d.below(5) - 2
		case 2:
			c.Stamp += d.below(3) - 1
		case 3:
			c.Ways = append(c.Ways, impl.Way{Class: d.below(9), Target: d.target()})
			c.State = impl.StateFew
		case 4:
			c.Ways = c.Ways[:d.below(len(c.Ways)+1)]
		case 5:
			if len(c.Ways) > 0 {
				c.Ways[d.below(len(c.Ways))].Class += d.below(5) - 2
			}
		case 6:
			if len(c.Ways) > 0 {
				c.Ways[d.below(len(c.Ways))].Target += d.below(3) - 1
			}
		}
		want := goodCacheApart(w, c)
		checkGoodCache(t, w, c, want)
		is[oneWhere(want)]++
		if t.Failed() {
			return
		}
	}
	if min(is[0], is[1]) < 4000 {
		t.Error(is)
	}
}

// farNumbers are far from all bounds.
func farNumbers() []int {
	return []int{math.MinInt, math.MinInt + 1, -1 << 32, -1000, 1 << 21, 1 << 32, 1<<32 + 1, 1<<32 + 5, math.MaxInt - 1, math.MaxInt}
}

func TestCachesRefuseWrongWorlds(t *testing.T) {
	checkWorldRefused(t, impl.World{})
	checkWorldRefused(t, impl.World{Stamp: 5})
	for _, count := range []int{9, 10, 1000} {
		checkWorldRefused(t, impl.World{Classes: slices.Repeat([]impl.Class{{Up: -1, Methods: make([]int, 5)}}, count)})
	}
	checkWorldRefused(t, impl.World{Classes: make([]impl.Class, 3)})
	for _, stamp := range append(farNumbers(), -1, 1000001) {
		checkWorldRefused(t, manyClasses(t, stamp))
	}
	for class := range impl.MaxClasses {
		for _, up := range append(farNumbers(), -2, class, class+1, 7, 8) {
			if up >= -1 && up < class {
				continue
			}
			w := manyClasses(t, 3)
			w.Classes[class].Up = up
			checkWorldRefused(t, w)
		}
		for _, count := range []int{0, 1, 4, 6, 10, 1000} {
			w := manyClasses(t, 3)
			w.Classes[class].Methods = make([]int, count)
			checkWorldRefused(t, w)
		}
		for _, target := range append(farNumbers(), -2, -1, 1001, 1002) {
			for name := range impl.MaxNames {
				w := manyClasses(t, 3)
				w.Classes[class].Methods[name] = target
				checkWorldRefused(t, w)
			}
		}
	}
}

func TestCachesRefuseWrongClasses(t *testing.T) {
	for _, classes := range []string{"-:7,7,7,7,7", "-:7,7,7,7,7 0: 1:1,2,3,4,5", "-:7,7,7,7,7 0: 1: 2: 3: 4: 5: 6:"} {
		w := worldAs(t, classes, 6)
		count := len(w.Classes)
		for _, class := range append(farNumbers(), -2, -1, count, count+1, 1000) {
			checkClassRefused(t, w, class)
			// Also among classes that are there.
			for at := range 4 {
				checkPlayRefused(t, w, 0, slices.Insert([]int{0, 0, 0}, at, class))
				c := impl.Cache{State: impl.StateFew, Ways: waysAs(t, "0>7 1>7 2>1 3>7")[:min(count, 3)], Stamp: 6}
				c.Ways = slices.Insert(c.Ways, min(at, len(c.Ways)), impl.Way{Class: class, Target: 7})
				checkGoodCache(t, w, c, false)
				c.Stamp = 5
				checkGoodCache(t, w, c, false)
			}
		}
	}
}

func TestCachesRefuseWrongNames(t *testing.T) {
	for _, w := range []impl.World{manyClasses(t, 6), worldAs(t, "-:7,7,7,7,7", 0)} {
		for _, name := range append(farNumbers(), -2, -1, 5, 6, 8) {
			checkNameRefused(t, w, name)
		}
	}
	// A cache of another name has other targets.
	w := worldAs(t, "-:7,8,7", 6)
	c := impl.Cache{Name: 0, State: impl.StateOne, Ways: waysAs(t, "0>7"), Stamp: 6}
	for name, want := range []bool{true, false, true, false, false} {
		c.Name = name
		checkGoodCache(t, w, c, want)
		if want {
			checkCalled(t, w, c, 0, impl.Cache{Name: name, State: impl.StateOne, Ways: c.Ways, Stamp: 6, Hits: 1}, 7)
		}
	}
}

func TestSetMethodRefusesWrongTargets(t *testing.T) {
	for _, stamp := range []int{0, 999999, 1000000} {
		w := manyClasses(t, stamp)
		for _, target := range append(farNumbers(), -2, -1, 1001, 1002, 65536) {
			for class := range w.Classes {
				for name := range impl.MaxNames {
					checkSetRefused(t, w, class, name, target)
				}
			}
		}
	}
}

func TestCachesRefuseWrongCaches(t *testing.T) {
	w := manyClasses(t, 6)
	good := []impl.Cache{
		{State: impl.StateEmpty, Stamp: 6}, {State: impl.StateOne, Ways: waysAs(t, "3>13"), Stamp: 6},
		{State: impl.StateFew, Ways: waysAs(t, "3>13 0>10 7>17 1>11"), Stamp: 6, Hits: 3, Looks: 4}, {State: impl.StateMany, Stamp: 6},
		{State: impl.StateFew, Ways: waysAs(t, "3>1 0>1"), Stamp: 2}, {State: impl.StateMany, Stamp: 0},
	}
	for _, c := range good {
		checkGoodCache(t, w, c, true)
		for _, state := range append(farNumbers(), -2, -1, 4, 5) {
			wrong := cloneCache(c)
			wrong.State = state
			checkGoodCache(t, w, wrong, false)
		}
		for _, count := range append(farNumbers(), -2, -1, 1000001, 1000002) {
			wrong := cloneCache(c)
			wrong.Hits = count
			checkGoodCache(t, w, wrong, false)
			wrong.Looks = count
			checkGoodCache(t, w, wrong, false)
			wrong.Hits = 0
			checkGoodCache(t, w, wrong, false)
		}
		for _, count := range []int{0, 1, 999999, 1000000} {
			bound := cloneCache(c)
			bound.Hits, bound.Looks = count, 1000000-count
			checkGoodCache(t, w, bound, true)
		}
		for state := range 4 {
			for _, count := range []int{5, 6, 8, 9, 1000} {
				wrong := impl.Cache{State: state, Stamp: c.Stamp}
				for class := range count {
					wrong.Ways = append(wrong.Ways, impl.Way{Class: class, Target: 10 + class})
				}
				checkGoodCache(t, w, wrong, false)
			}
		}
	}
	for _, target := range append(farNumbers(), -1, 0, 1001) {
		checkGoodCache(t, w, impl.Cache{State: impl.StateOne, Ways: []impl.Way{{Class: 3, Target: target}}, Stamp: 6}, false)
	}
}

// behindWorld has more behind the length of each list.
func behindWorld(w impl.World) impl.World {
	more := make([]impl.Class, 0, len(w.Classes)+2)
	for _, class := range w.Classes {
		more = append(more, impl.Class{Up: class.Up, Methods: behindNumbers(class.Methods)})
	}
	more = append(more, impl.Class{Up: 0, Methods: []int{9, 9, 9, 9, 9}}, impl.Class{Up: -5})
	return impl.World{Classes: more[:len(w.Classes)], Stamp: w.Stamp}
}

func behindCache(c impl.Cache) impl.Cache {
	c.Ways = append(slices.Clone(c.Ways), impl.Way{Class: 0, Target: 1}, impl.Way{Class: -5, Target: -5})[:len(c.Ways)]
	return c
}

// wholeWorld and wholeCache are copies, also of what is behind the lengths.
func wholeWorld(w impl.World) impl.World {
	whole := impl.World{Stamp: w.Stamp}
	for _, class := range w.Classes[:cap(w.Classes)] {
		whole.Classes = append(whole.Classes, impl.Class{Up: class.Up, Methods: slices.Clone(class.Methods[:cap(class.Methods)])})
	}
	return whole
}

func wholeCache(c impl.Cache) impl.Cache {
	c.Ways = slices.Clone(c.Ways[:cap(c.Ways)])
	return c
}

// Promise 19: nothing is written into what is handed in, nor behind it.
func TestCachesLeaveWhatIsHandedIn(t *testing.T) {
	d := &lots{state: 1912}
	for round := range 1200 {
		w := d.someWorld()
		c := behindCache(d.cache(w))
		l := behindNumbers(d.classes(w, d.below(12)))
		if round%4 == 0 {
			w.Classes[d.below(len(w.Classes))].Methods[d.below(5)] = 1001
		}
		w = behindWorld(w)
		keptWorld, keptCache, keptCalls := wholeWorld(w), wholeCache(c), slices.Clone(l[:cap(l)])
		impl.GoodWorld(w)
		impl.GoodCache(w, c)
		for name := -1; name <= impl.MaxNames; name++ {
			impl.NewCache(w, name)
			impl.PlayCalls(w, name, l)
			for class := -1; class <= len(w.Classes); class++ {
				impl.FindMethod(w, class, name)
				impl.SetMethod(w, class, name, d.below(1002))
				impl.SubclassOf(w, class, name)
				impl.CallBy(w, c, class)
			}
		}
		if !sameWorld(wholeWorld(w), keptWorld) || !sameCache(wholeCache(c), keptCache) || !slices.Equal(l[:cap(l)], keptCalls) {
			t.Fatal("something was written into", worldText(w), c, l)
		}
	}
}

// Classes, methods, ways and calls behind a list's length are not read.
func TestCachesReadNothingBehind(t *testing.T) {
	d := &lots{state: 77}
	for range 500 {
		w := behindWorld(d.someWorld())
		c := behindCache(d.cache(w))
		checkWorld(t, w)
		checkGoodCache(t, w, c, true)
		for class := range w.Classes {
			checkCall(t, w, c, class)
			set := w
			set.Stamp = 5
			checkSet(t, set, class, d.below(impl.MaxNames), d.below(1001))
		}
		checkClassRefused(t, w, len(w.Classes))
		checkPlay(t, w, 2, behindNumbers(d.classes(w, d.below(9))))
	}
	w := manyClasses(t, 6)
	ways := waysAs(t, "3>13 0>10 3>13 1>11")
	checkGoodCache(t, w, impl.Cache{State: impl.StateFew, Ways: ways[:2], Stamp: 6}, true)
	checkCalled(t, w, impl.Cache{State: impl.StateFew, Ways: ways[:2], Stamp: 6}, 1, impl.Cache{State: impl.StateFew, Ways: waysAs(t, "3>13 0>10 1>11"), Stamp: 6, Looks: 1}, 11)
	checkGoodCache(t, w, impl.Cache{State: impl.StateFew, Ways: ways, Stamp: 6}, false)
	long := make([]int, 6)
	w.Classes[2].Methods = long[:5]
	checkWorld(t, w)
	w.Classes[2].Methods = long
	checkWorldRefused(t, w)
	calls := make([]int, 101)
	checkPlay(t, manyClasses(t, 6), 0, calls[:100])
	checkPlayRefused(t, manyClasses(t, 6), 0, calls)
}

func spoilWays(ways []impl.Way) {
	ways = ways[:cap(ways)]
	for at := range ways {
		ways[at] = impl.Way{Class: -77, Target: -77}
	}
}

func spoilWorld(w impl.World) {
	for number, class := range w.Classes {
		spoil(class.Methods)
		w.Classes[number].Up = -77
	}
	clear(w.Classes[:cap(w.Classes)])
}

// Also what is behind the ways that are handed in stays, when one is put
// behind them.
func TestCacheAnswersAreNewMemory(t *testing.T) {
	d := &lots{state: 6}
	for range 500 {
		w := behindWorld(d.someWorld())
		w.Stamp = min(w.Stamp, 999999)
		c := behindCache(d.cache(w))
		l := behindNumbers(d.classes(w, d.below(9)))
		keptWorld, keptCache, keptCalls := wholeWorld(w), wholeCache(c), slices.Clone(l[:cap(l)])
		for class := range w.Classes {
			after, _, _ := impl.CallBy(w, c, class)
			spoilWays(after.Ways)
			changed, _ := impl.SetMethod(w, class, d.below(impl.MaxNames), d.target())
			checkMethodsApart(t, changed)
			spoilWorld(changed)
			played, targets, _ := impl.PlayCalls(w, d.below(impl.MaxNames), l)
			spoilWays(played.Ways)
			spoil(targets)
			fresh, _ := impl.NewCache(w, d.below(impl.MaxNames))
			spoilWays(fresh.Ways)
			if !sameWorld(wholeWorld(w), keptWorld) || !sameCache(wholeCache(c), keptCache) || !slices.Equal(l[:cap(l)], keptCalls) {
				t.Fatal("an answer shares memory with what was handed in:", worldText(w), c, l)
			}
			checkCall(t, w, c, class)
		}
		checkWorld(t, w)
	}
}

// One list in two classes becomes two lists.
func TestSetMethodOfSharedMethods(t *testing.T) {
	methods := []int{1, 2, 3, 4, 5}
	w := impl.World{Classes: []impl.Class{{Up: -1, Methods: methods}, {Up: 0, Methods: methods}, {Up: -1, Methods: methods}}}
	for class := range w.Classes {
		changed, ok := impl.SetMethod(w, class, 1, 9)
		for other := range w.Classes {
			checkFound(t, changed, other, 1, 2+7*oneWhere(other == class), true)
		}
		if !ok || !slices.Equal(methods, []int{1, 2, 3, 4, 5}) {
			t.Error(worldText(changed), ok, methods)
		}
		checkMethodsApart(t, changed)
	}
}

// checkMethodsApart spoils the methods of a world one after the other.
func checkMethodsApart(t *testing.T, w impl.World) {
	t.Helper()
	var lists [][]int
	for _, class := range w.Classes {
		lists = append(lists, class.Methods)
	}
	checkListsApart(t, lists)
}

// Calls that run at once share a world and a cache, and count apart.
func TestCallsAtOnce(t *testing.T) {
	w, changed := manyClasses(t, 6), manyClasses(t, 7)
	shared, _, _ := impl.PlayCalls(w, 0, []int{3, 0, 7})
	var calls sync.WaitGroup
	for caller := range 8 {
		calls.Go(func() {
			d := &lots{state: uint64(caller)}
			for range 300 {
				checkCall(t, w, shared, d.below(8))
				checkCall(t, changed, shared, d.below(8))
				checkPlay(t, w, d.below(2), d.classes(w, d.below(9)))
			}
		})
	}
	calls.Wait()
}

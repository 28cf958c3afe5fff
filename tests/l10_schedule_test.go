package tests

import (
	"math"
	"slices"
	"strconv"
	"strings"
	"sync"
	"testing"

	"loop.example/g00350/impl"
)

// tasksAs reads tasks as how long they are, with those of After behind a colon
// and commas between.
func tasksAs(t *testing.T, text string) []impl.Task {
	t.Helper()
	var l []impl.Task
	for _, part := range strings.Fields(text) {
		long, after, _ := strings.Cut(part, ":")
		task := impl.Task{After: numbersAs(t, strings.ReplaceAll(after, ",", " "))}
		task.Long = numbersAs(t, long)[0]
		l = append(l, task)
	}
	return l
}

func numbersAs(t *testing.T, text string) []int {
	t.Helper()
	var numbers []int
	for _, part := range strings.Fields(text) {
		number, err := strconv.Atoi(part)
		if err != nil {
			t.Fatalf("no number: %q", part)
		}
		numbers = append(numbers, number)
	}
	return numbers
}

func tasksText(l []impl.Task) string {
	var texts []string
	for _, task := range l {
		text := strconv.Itoa(task.Long)
		for k, before := range task.After {
			text += ":,"[min(k, 1):][:1] + strconv.Itoa(before)
		}
		texts = append(texts, text)
	}
	return strings.Join(texts, " ")
}

func rowOrder(count int) []int {
	var order []int
	for number := range count {
		order = append(order, number)
	}
	return order
}

// ordersUpTo has each order of some numbers.
func ordersUpTo(count int) [][]int {
	orders := [][]int{nil}
	for number := range count {
		var longer [][]int
		for _, order := range orders {
			for at := range number + 1 {
				longer = append(longer, slices.Insert(slices.Clone(order), at, number))
			}
		}
		orders = longer
	}
	return orders
}

// eachTasks calls for all tasks of some count that are at most so long.
func eachTasks(count int, long int, call func(l []impl.Task)) {
	if count == 0 {
		call(nil)
		return
	}
	eachTasks(count-1, long, func(l []impl.Task) {
		for choice := range 1 << len(l) {
			var after []int
			for before := range l {
				if choice>>before&1 == 1 {
					after = append(after, before)
				}
			}
			for n := 1; n <= long; n++ {
				call(append(slices.Clone(l), impl.Task{Long: n, After: after}))
			}
		}
	})
}

// tasks draws tasks that hang on more of those ahead the less rarely is.
func (d *lots) tasks(count int, long int, rarely int) []impl.Task {
	var l []impl.Task
	for number := range count {
		task := impl.Task{Long: 1 + d.below(long)}
		for before := range number {
			if d.below(rarely) == 0 {
				task.After = append(task.After, before)
			}
		}
		l = append(l, task)
	}
	return l
}

// someTasks are of any shape.
func (d *lots) someTasks() []impl.Task {
	longs := []int{1, 2, 3, 7, 20}
	return d.tasks(d.below(impl.MaxTasks+1), longs[d.below(len(longs))], 1+d.below(9))
}

// doneApart is how many tasks have begun and are not over.
func doneApart(l []impl.Task, starts []int, now int) int {
	count := 0
	for number, start := range starts {
		count += oneWhere(start >= 0 && start <= now && start+l[number].Long > now)
	}
	return count
}

// listApart goes on from moment to moment until nothing waits and nothing is
// being done.
func listApart(l []impl.Task, units int, order []int) ([]int, int) {
	starts := slices.Repeat([]int{-1}, len(l))
	now := 0
	for ; slices.Contains(starts, -1) || doneApart(l, starts, now) > 0; now++ {
	again:
		for _, number := range order {
			hangs := slices.ContainsFunc(l[number].After, func(before int) bool {
				return starts[before] < 0 || now < starts[before]+l[before].Long
			})
			if starts[number] < 0 && !hangs && doneApart(l, starts, now) < units {
				starts[number] = now
				goto again
			}
		}
	}
	return starts, now
}

// isScheduleApart goes through all moments.
func isScheduleApart(l []impl.Task, units int, starts []int) bool {
	for now := range 1100 {
		if doneApart(l, starts, now) > units {
			return false
		}
		for number, start := range starts {
			if start != now {
				continue
			}
			for _, before := range l[number].After {
				if now < starts[before]+l[before].Long {
					return false
				}
			}
		}
	}
	return true
}

func rankApart(l []impl.Task, number int) int {
	greatest := 0
	for behind, task := range l {
		if slices.Contains(task.After, number) {
			greatest = max(greatest, rankApart(l, behind))
		}
	}
	return l[number].Long + greatest
}

func ranksApart(l []impl.Task) []int {
	var ranks []int
	for number := range l {
		ranks = append(ranks, rankApart(l, number))
	}
	return ranks
}

// chainApart goes back from task to task, so against the ranks' way.
func chainApart(l []impl.Task) int {
	ends, longest := make([]int, len(l)), 0
	for number, task := range l {
		for _, before := range task.After {
			ends[number] = max(ends[number], ends[before])
		}
		ends[number] += task.Long
		longest = max(longest, ends[number])
	}
	return longest
}

func workApart(l []impl.Task) int {
	work := 0
	for _, task := range l {
		work += task.Long
	}
	return work
}

// orderApart takes out the greatest rank again and again.
func orderApart(ranks []int) []int {
	var order []int
	left := slices.Clone(ranks)
	for range ranks {
		greatest := slices.Index(left, slices.Max(left))
		order = append(order, greatest)
		left[greatest] = 0
	}
	return order
}

// leastApart counts the least time up.
func leastApart(l []impl.Task, units int) int {
	least := 0
	for least*units < workApart(l) || least < chainApart(l) {
		least++
	}
	return least
}

// canEndBy tries all starts of the tasks from a number on, with which all are
// over at a moment.
func canEndBy(l []impl.Task, units int, starts []int, end int) bool {
	number := len(starts)
	if number == len(l) {
		return true
	}
	for start := 0; start+l[number].Long <= end; start++ {
		tried := append(slices.Clone(starts), start)
		if isScheduleSoFar(l, units, tried) && canEndBy(l, units, tried, end) {
			return true
		}
	}
	return false
}

// isScheduleSoFar asks at each moment that the last one takes.
func isScheduleSoFar(l []impl.Task, units int, starts []int) bool {
	last := len(starts) - 1
	for _, before := range l[last].After {
		if starts[last] < starts[before]+l[before].Long {
			return false
		}
	}
	for now := starts[last]; now < starts[last]+l[last].Long; now++ {
		if doneApart(l, starts, now) > units {
			return false
		}
	}
	return true
}

// bestEndApart is when the best schedule is over.
func bestEndApart(l []impl.Task, units int) int {
	end := 0
	for !canEndBy(l, units, nil, end) {
		end++
	}
	return end
}

func checkIsSchedule(t *testing.T, l []impl.Task, units int, starts []int, want bool) {
	t.Helper()
	if is, ok := impl.IsSchedule(l, units, starts); is != want || !ok {
		t.Errorf("IsSchedule(%s, %d, %v) = %v %v, not %v", tasksText(l), units, starts, is, ok, want)
	}
}

func checkListed(t *testing.T, l []impl.Task, units int, order []int, wantStarts []int, wantEnd int) {
	t.Helper()
	if starts, end, ok := impl.ListTimes(l, units, order); !slices.Equal(starts, wantStarts) || end != wantEnd || !ok {
		t.Errorf("ListTimes(%s, %d, %v) = %v %d %v, not %v %d", tasksText(l), units, order, starts, end, ok, wantStarts, wantEnd)
	}
}

// checkList holds a list schedule against one made apart, and asks for
// promise 10.
func checkList(t *testing.T, l []impl.Task, units int, order []int) {
	t.Helper()
	wantStarts, wantEnd := listApart(l, units, order)
	checkListed(t, l, units, order, wantStarts, wantEnd)
	starts, end, _ := impl.ListTimes(l, units, order)
	checkIsSchedule(t, l, units, starts, true)
	last := 0
	for number, start := range starts {
		last = max(last, start+l[number].Long)
	}
	least, ok := impl.LeastTime(l, units)
	if !ok || end != last || end < least || units*end > (2*units-1)*least {
		t.Errorf("ListTimes(%s, %d, %v) = %v %d, the least time is %d %v", tasksText(l), units, order, starts, end, least, ok)
	}
}

func checkLeastTime(t *testing.T, l []impl.Task, units int, want int) {
	t.Helper()
	if least, ok := impl.LeastTime(l, units); least != want || !ok {
		t.Errorf("LeastTime(%s, %d) = %d %v, not %d", tasksText(l), units, least, ok, want)
	}
}

func checkRanked(t *testing.T, l []impl.Task, ranks []int, order []int) {
	t.Helper()
	if x, ok := impl.RanksOf(l); !slices.Equal(x, ranks) || !ok {
		t.Errorf("RanksOf(%s) = %v %v, not %v", tasksText(l), x, ok, ranks)
	}
	if x, ok := impl.RankOrder(l); !slices.Equal(x, order) || !ok {
		t.Errorf("RankOrder(%s) = %v %v, not %v", tasksText(l), x, ok, order)
	}
}

func checkTotals(t *testing.T, l []impl.Task, chain int, work int) {
	t.Helper()
	if n, ok := impl.LongestChain(l); n != chain || !ok {
		t.Errorf("LongestChain(%s) = %d %v, not %d", tasksText(l), n, ok, chain)
	}
	if n, ok := impl.WorkOf(l); n != work || !ok {
		t.Errorf("WorkOf(%s) = %d %v, not %d", tasksText(l), n, ok, work)
	}
}

// checkTasks asks all that hangs on the tasks and the units alone.
func checkTasks(t *testing.T, l []impl.Task) {
	t.Helper()
	if !impl.GoodTasks(l) {
		t.Errorf("GoodTasks(%s) is false", tasksText(l))
	}
	ranks := ranksApart(l)
	checkRanked(t, l, ranks, orderApart(ranks))
	checkTotals(t, l, chainApart(l), workApart(l))
	for units := 1; units <= impl.MaxUnits; units++ {
		checkLeastTime(t, l, units, leastApart(l, units))
	}
}

func checkListRefused(t *testing.T, l []impl.Task, units int, order []int) {
	t.Helper()
	if starts, end, ok := impl.ListTimes(l, units, order); len(starts) != 0 || end != 0 || ok {
		t.Error("ListTimes of", l, units, order, starts, end, ok)
	}
}

func checkScheduleRefused(t *testing.T, l []impl.Task, units int, starts []int) {
	t.Helper()
	if is, ok := impl.IsSchedule(l, units, starts); is || ok {
		t.Error("IsSchedule of", l, units, starts, is, ok)
	}
}

func checkUnitsRefused(t *testing.T, l []impl.Task, units int) {
	t.Helper()
	checkListRefused(t, l, units, rowOrder(len(l)))
	starts, _ := listApart(l, 1, rowOrder(len(l)))
	checkScheduleRefused(t, l, units, starts)
	if least, ok := impl.LeastTime(l, units); least != 0 || ok {
		t.Error("LeastTime of", l, units, least, ok)
	}
}

func checkTasksRefused(t *testing.T, l []impl.Task) {
	t.Helper()
	if impl.GoodTasks(l) {
		t.Error("GoodTasks of", l)
	}
	if chain, ok := impl.LongestChain(l); chain != 0 || ok {
		t.Error("LongestChain of", l, chain, ok)
	}
	if ranks, ok := impl.RanksOf(l); len(ranks) != 0 || ok {
		t.Error("RanksOf of", l, ranks, ok)
	}
	if order, ok := impl.RankOrder(l); len(order) != 0 || ok {
		t.Error("RankOrder of", l, order, ok)
	}
	if work, ok := impl.WorkOf(l); work != 0 || ok {
		t.Error("WorkOf of", l, work, ok)
	}
	for units := range impl.MaxUnits + 2 {
		checkListRefused(t, l, units, rowOrder(len(l)))
		checkScheduleRefused(t, l, units, make([]int, len(l)))
		if least, ok := impl.LeastTime(l, units); least != 0 || ok {
			t.Error("LeastTime of", l, units, least, ok)
		}
	}
}

func TestScheduleBounds(t *testing.T) {
	if impl.MaxTasks != 12 || impl.MaxUnits != 4 {
		t.Error(impl.MaxTasks, impl.MaxUnits)
	}
}

func TestGoodTasksKnown(t *testing.T) {
	for _, text := range []string{"", "1", "20", "1 1", "1 1:0", "1 20:0 3", "1 2 3:0", "1 2 3:1", "1 2 3:0,1", "1 2 3 4:0,2", "5 1:0 1:1 1:2", "1 1 1 1:0,1,2"} {
		if !impl.GoodTasks(tasksAs(t, text)) {
			t.Error(text, "are tasks")
		}
		checkTasks(t, tasksAs(t, text))
	}
	for _, text := range []string{"0", "21", "-1", "1:0", "1:1", "1:-1", "1 0", "1 21", "1 1:1", "1 1:2", "1 1:-1", "1 1:0,0", "1 1:0,1", "1 1 1:1,0", "1 1 1:0,0", "1 1 1:1,1", "1 1 1:2", "1 1 1:0,2", "1 1 1:-1,0", "1 1 1:0,1,1", "1 1:0 0", "1:0 1 1", "1 1:1 1", "1 1 1:0,1,0"} {
		checkTasksRefused(t, tasksAs(t, text))
	}
}

// Lists of After over numbers that are none too.
func TestGoodTasksOfAllShortAfters(t *testing.T) {
	good := 0
	for a := -2; a <= 4; a++ {
		for b := -2; b <= 4; b++ {
			for c := -2; c <= 4; c++ {
				for size := range 4 {
					after := []int{a, b, c}[:size]
					l := []impl.Task{{Long: 1}, {Long: 2}, {Long: 3}, {Long: 4, After: after}}
					want := slices.Min(append(slices.Clone(after), 0)) == 0 && slices.Max(append(slices.Clone(after), 0)) < 3
					want = want && slices.IsSorted(after) && len(slices.Compact(slices.Clone(after))) == size
					if impl.GoodTasks(l) != want {
						t.Error("GoodTasks of", l, !want)
					}
					good += oneWhere(want && size == 3)
				}
			}
		}
	}
	if good != 1 {
		t.Error(good)
	}
}

func TestListTimesKnown(t *testing.T) {
	known := []struct {
		tasks  string
		units  int
		order  string
		starts string
		end    int
	}{
		{"", 1, "", "", 0}, {"", 4, "", "", 0}, {"7", 1, "0", "0", 7}, {"7", 4, "0", "0", 7}, {"20", 2, "0", "0", 20},
		// One unit: one after the other, in the order.
		{"3 2 4", 1, "0 1 2", "0 3 5", 9}, {"3 2 4", 1, "2 0 1", "4 7 0", 9}, {"3 2:0 4", 1, "1 2 0", "4 7 0", 9}, {"1 1:0 1:1", 1, "2 1 0", "0 1 2", 3},
		// A task begins at the moment when its After are over.
		{"3 2 2:1 4:0,1", 2, "0 1 2 3", "0 0 2 3", 7}, {"3 2 1:0,1", 2, "0 1 2", "0 0 3", 4}, {"3 2 1:1", 2, "2 1 0", "0 0 2", 3},
		{"2 5 1:0", 3, "0 1 2", "0 0 2", 5}, {"2 2:0 2:1", 4, "0 1 2", "0 2 4", 6},
		// One is passed by, since its After are not over, and one behind it in
		// the order begins.
		{"3 2:0 4", 2, "0 1 2", "0 3 0", 5}, {"3 2:0 4", 2, "1 0 2", "0 3 0", 5}, {"5 1:0 2 2 2", 2, "0 1 2 3 4", "0 5 0 2 4", 6},
		{"5 1:0 2 2 2", 2, "1 4 3 2 0", "2 7 2 0 0", 8}, {"4 2:0 3 3", 2, "0 1 2 3", "0 4 0 3", 6},
		// Where units are too few the first ones of the order begin.
		{"3 3 1", 2, "0 1 2", "0 0 3", 4}, {"3 3 1", 2, "2 0 1", "0 1 0", 4}, {"1 2 3 4", 2, "0 1 2 3", "0 0 1 2", 6}, {"1 2 3 4", 2, "3 2 1 0", "4 3 0 0", 5},
		// Two are over at once, and two begin.
		{"2 2 3 3", 2, "0 1 2 3", "0 0 2 2", 5}, {"2 2 3:0 3:1", 2, "3 2 1 0", "0 0 2 2", 5}, {"1 1 1:0,1 1:0,1", 4, "0 1 2 3", "0 0 1 1", 2},
		// Four units, and more of them than tasks.
		{"2 3 4 5 1", 4, "0 1 2 3 4", "0 0 0 0 2", 5}, {"2 3 4", 4, "2 1 0", "0 0 0", 4}, {"2 3:0 4:0 5:0 1:0", 4, "0 1 2 3 4", "0 2 2 2 2", 7},
		{"2 3:0 4:0 5:0 1:0 6:0", 4, "5 4 3 2 1 0", "0 3 2 2 2 2", 8},
		// A unit is left free though tasks wait.
		{"2 2:0 2:0 2:1,2", 2, "0 1 2 3", "0 2 2 4", 6}, {"2 2:0 2:0 2:1,2", 3, "3 2 1 0", "0 2 2 4", 6},
		// It is longer with this order than with another one, and longer with
		// more units than with fewer.
		{"1 1 2", 2, "0 1 2", "0 0 1", 3}, {"1 1 2", 2, "2 0 1", "0 1 0", 2},
		{"3 2 2 2 4:3 4:3 4:3 4:3 9:0", 3, "0 1 2 3 4 5 6 7 8", "0 0 0 2 4 4 8 8 3", 12},
		{"3 2 2 2 4:3 4:3 4:3 4:3 9:0", 4, "0 1 2 3 4 5 6 7 8", "0 0 0 0 2 2 2 3 6", 15},
	}
	for _, k := range known {
		l, order := tasksAs(t, k.tasks), numbersAs(t, k.order)
		checkListed(t, l, k.units, order, numbersAs(t, k.starts), k.end)
		checkList(t, l, k.units, order)
		checkTasks(t, l)
	}
}

func TestIsScheduleKnown(t *testing.T) {
	known := []struct {
		tasks  string
		units  int
		starts string
		is     bool
	}{
		{"", 1, "", true}, {"", 4, "", true}, {"7", 1, "0", true}, {"7", 1, "1000", true}, {"20", 1, "1000", true},
		// A moment too early, just then, and later.
		{"3 2:0", 1, "0 2", false}, {"3 2:0", 1, "0 3", true}, {"3 2:0", 1, "0 4", true}, {"3 2:0", 4, "0 2", false}, {"3 2:0", 4, "0 3", true},
		{"3 2:0", 4, "0 0", false}, {"3 2:0", 4, "5 3", false}, {"3 2:0", 4, "5 0", false}, {"3 2:0", 4, "5 7", false}, {"3 2:0", 4, "5 8", true},
		{"3 2:0", 2, "997 1000", true}, {"3 2:0", 2, "998 1000", false}, {"3 2:0", 2, "1000 1000", false}, {"3 2:0", 2, "1000 0", false},
		// Each of several After.
		{"3 5 2:0,1", 3, "0 0 5", true}, {"3 5 2:0,1", 3, "0 0 4", false}, {"5 3 2:0,1", 3, "0 0 4", false}, {"5 3 2:0,1", 3, "0 0 5", true},
		{"3 5 2:1", 3, "4 0 5", true}, {"1 1:0 1:1", 1, "0 1 2", true}, {"1 1:0 1:1", 3, "0 1 1", false}, {"1 1:0 1:0", 2, "0 1 1", true}, {"1 1:0 1:0", 1, "0 1 1", false},
		// One more task at a moment than units.
		{"3 3", 1, "0 0", false}, {"3 3", 1, "0 2", false}, {"3 3", 1, "2 0", false}, {"3 3", 1, "0 3", true}, {"3 3", 1, "3 0", true}, {"3 3", 2, "0 0", true},
		{"3 3", 1, "1000 1000", false}, {"3 3", 1, "1000 997", true}, {"3 3", 1, "1000 998", false}, {"20 1", 1, "5 24", false}, {"20 1", 1, "5 25", true},
		{"4 4 4", 2, "0 1 2", false}, {"4 4 4", 2, "0 1 3", false}, {"4 4 4", 2, "0 1 4", true}, {"4 4 4", 3, "0 1 2", true}, {"4 4 4", 2, "2 1 0", false}, {"4 4 4", 2, "4 1 0", true},
		{"1 1 1 1", 3, "7 7 7 7", false}, {"1 1 1 1", 4, "7 7 7 7", true}, {"1 1 1 1", 3, "7 7 7 8", true}, {"1 1 1 1 1", 4, "7 7 7 7 7", false}, {"1 1 1 1 1", 4, "7 7 7 7 6", true},
		// Only one moment has too many, in the midst of others.
		{"20 2 2 1", 2, "0 3 5 4", false}, {"20 2 2 1", 2, "0 3 5 7", true}, {"20 2 2 1", 2, "0 3 4 7", false}, {"5 5 1", 2, "0 4 4", false}, {"5 5 1", 2, "0 5 4", true},
		// Nothing is being done for a while.
		{"1 1", 1, "0 1000", true}, {"1 1:0", 1, "0 1000", true}, {"1 1 1", 1, "500 0 1000", true},
	}
	for _, k := range known {
		l, starts := tasksAs(t, k.tasks), numbersAs(t, k.starts)
		checkIsSchedule(t, l, k.units, starts, k.is)
		if isScheduleApart(l, k.units, starts) != k.is {
			t.Error("reckoned apart:", k)
		}
	}
}

func TestRanksKnown(t *testing.T) {
	known := []struct {
		tasks, ranks, order string
		chain, work         int
	}{
		{"", "", "", 0, 0}, {"7", "7", "0", 7, 7}, {"20", "20", "0", 20, 20},
		// They hang on none.
		{"3 5 4", "3 5 4", "1 2 0", 5, 12}, {"1 2 3 4", "1 2 3 4", "3 2 1 0", 4, 10},
		// In a row.
		{"3 5:0 4:1", "12 9 4", "0 1 2", 12, 12}, {"1 1:0 1:1 1:2", "4 3 2 1", "0 1 2 3", 4, 4},
		// On several, and several on one.
		{"3 2 2:1 4:0,1", "7 6 2 4", "0 1 3 2", 7, 11}, {"1 5:0 3:0 2:0", "6 5 3 2", "0 1 2 3", 6, 11}, {"1 2:0 3:0 5:0", "6 2 3 5", "0 3 2 1", 6, 11},
		{"4 6 1:0,1", "5 7 1", "1 0 2", 7, 11}, {"1 9:0 1:0 1:1,2", "11 10 2 1", "0 1 2 3", 11, 12}, {"1 1:0 9:0 1:1,2", "11 2 10 1", "0 2 1 3", 11, 12},
		// The greatest rank counts, not the longest task.
		{"1 5:0 1:0 1:2 4:3", "7 5 6 5 4", "0 2 1 3 4", 7, 12},
		// Ranks alike: by number.
		{"2 2 2", "2 2 2", "0 1 2", 2, 6}, {"1 3 1 3 1", "1 3 1 3 1", "1 3 0 2 4", 3, 9}, {"5 2 3:1", "5 5 3", "0 1 2", 5, 10}, {"2 5 3:0", "5 5 3", "0 1 2", 5, 10},
		{"1 1 1:0 1:1 1", "2 2 1 1 1", "0 1 2 3 4", 2, 5}, {"4 1 3:1 3", "4 4 3 3", "0 1 2 3", 4, 11},
		// The longest chain does not begin at the first task, nor end at the
		// last one.
		{"1 5 5:1 1:0", "2 10 5 1", "1 2 0 3", 10, 12}, {"9 2 1:1", "9 3 1", "0 1 2", 9, 12}, {"2 1 1 9", "2 1 1 9", "3 0 1 2", 9, 13},
	}
	for _, k := range known {
		l := tasksAs(t, k.tasks)
		checkRanked(t, l, numbersAs(t, k.ranks), numbersAs(t, k.order))
		checkTotals(t, l, k.chain, k.work)
		checkTasks(t, l)
	}
}

func TestLeastTimeKnown(t *testing.T) {
	known := []struct {
		tasks string
		least [impl.MaxUnits]int
	}{
		{"", [4]int{0, 0, 0, 0}}, {"1", [4]int{1, 1, 1, 1}}, {"20", [4]int{20, 20, 20, 20}}, {"1 1", [4]int{2, 1, 1, 1}},
		// The work is greater, and does not divide.
		{"1 1 1 1 1", [4]int{5, 3, 2, 2}}, {"2 2 2 2 2 1", [4]int{11, 6, 4, 3}}, {"2 2 2 2 2 2", [4]int{12, 6, 4, 3}}, {"2 2 2 2 2 2 1", [4]int{13, 7, 5, 4}},
		// The chain is greater: a row, one long task, both in turn.
		{"3 2 2:1 4:0,1", [4]int{11, 7, 7, 7}}, {"5 5:0 5:1", [4]int{15, 15, 15, 15}}, {"9 1 1 1", [4]int{12, 9, 9, 9}}, {"4 4:0 1 1 1 1 1 1", [4]int{14, 8, 8, 8}},
		{"3 3:0 4 4 4", [4]int{18, 9, 6, 6}}, {"3 3:0 4 4 4 1", [4]int{19, 10, 7, 6}}, {"3 4:0 4 4 4", [4]int{19, 10, 7, 7}},
	}
	for _, k := range known {
		for at, want := range k.least {
			checkLeastTime(t, tasksAs(t, k.tasks), at+1, want)
		}
		checkTasks(t, tasksAs(t, k.tasks))
	}
}

// Promise 10: here the list schedule is as long as the promise lets it be.
func TestListTimesMeetsItsBound(t *testing.T) {
	known := []struct {
		tasks      string
		units      int
		end, least int
	}{
		{"5 5 5", 1, 15, 15}, {"1 1 2", 2, 3, 2}, {"10 10 20", 2, 30, 20}, {"1 1 1 1 1 1 3", 3, 5, 3}, {"2 2 2 3", 3, 5, 3}, {"3 3 3 3 4", 4, 7, 4}, {"15 15 15 15 20", 4, 35, 20},
		{"1 1 1 1 1 1 1 1 1 1 1 5", 4, 7, 5},
	}
	for _, k := range known {
		l := tasksAs(t, k.tasks)
		_, end, ok := impl.ListTimes(l, k.units, rowOrder(len(l)))
		if end != k.end || !ok {
			t.Error(k, end, ok)
		}
		checkLeastTime(t, l, k.units, k.least)
		checkList(t, l, k.units, rowOrder(len(l)))
	}
}

// Promise 10: all tasks of up to three that are at most three long, and of four
// that are at most two long; each with all units and orders.
func TestListTimesOfAllSmallTasks(t *testing.T) {
	lists := 0
	for count := range 5 {
		orders := ordersUpTo(count)
		eachTasks(count, min(3, 6-count), func(l []impl.Task) {
			checkTasks(t, l)
			for units := 1; units <= impl.MaxUnits; units++ {
				for _, order := range orders {
					checkList(t, l, units, order)
					lists++
				}
			}
		})
	}
	if want := 4 * (1 + 3 + 18*2 + 216*6 + 1024*24); lists != want {
		t.Error(lists, want)
	}
}

// Promise 10: no schedule is over sooner than LeastTime, nor is a list schedule
// sooner than the best one or longer than twice that, less its part.
func TestNoScheduleIsOverSooner(t *testing.T) {
	unlike := 0
	check := func(l []impl.Task) {
		for units := 1; units <= impl.MaxUnits; units++ {
			best := bestEndApart(l, units)
			least, ok := impl.LeastTime(l, units)
			if !ok || best < least {
				t.Errorf("LeastTime(%s, %d) = %d %v, the best schedule is over at %d", tasksText(l), units, least, ok, best)
			}
			unlike += oneWhere(best > least)
			for _, order := range ordersUpTo(len(l)) {
				if _, end, ok := impl.ListTimes(l, units, order); !ok || end < best || units*end > (2*units-1)*best {
					t.Errorf("ListTimes(%s, %d, %v) = %d %v, the best schedule is over at %d", tasksText(l), units, order, end, ok, best)
				}
			}
		}
	}
	for count := range 5 {
		eachTasks(count, min(3, 6-count), check)
	}
	d := &lots{state: 1966}
	for range 400 {
		check(d.tasks(5, 5, 3+d.below(8)))
	}
	if unlike < 100 {
		t.Error("the least time is not the best end", unlike, "times only")
	}
}

// startsBelow calls for all starts of some tasks.
func startsBelow(end int, count int, call func(starts []int)) {
	if count == 0 {
		call(nil)
		return
	}
	startsBelow(end, count-1, func(starts []int) {
		for start := range end {
			call(append(slices.Clone(starts), start))
		}
	})
}

func TestIsScheduleOfAllSmallTasks(t *testing.T) {
	schedules := 0
	for count := range 4 {
		startsBelow(5, count, func(starts []int) {
			eachTasks(count, 3, func(l []impl.Task) {
				for units := 1; units <= 3; units++ {
					want := true
					for last := range l {
						want = want && isScheduleSoFar(l, units, starts[:last+1])
					}
					checkIsSchedule(t, l, units, starts, want)
					schedules += oneWhere(want)
				}
			})
		})
	}
	if schedules < 5000 {
		t.Error("only", schedules, "schedules")
	}
}

// Promise 10: many tasks up to MaxTasks, in many orders.
func TestListTimesOfManyTasks(t *testing.T) {
	d := &lots{state: 1969}
	for range 4000 {
		l := d.someTasks()
		checkTasks(t, l)
		ranked, _ := impl.RankOrder(l)
		for units := 1; units <= impl.MaxUnits; units++ {
			checkList(t, l, units, ranked)
			checkList(t, l, units, d.order(len(l)))
		}
	}
}

// Starts of a list schedule, of which one is another one: mostly a moment
// sooner or later.
func TestIsScheduleOfChangedStarts(t *testing.T) {
	d := &lots{state: 31}
	is := [2]int{}
	for range 3000 {
		l := d.tasks(1+d.below(impl.MaxTasks), 6, 1+d.below(9))
		units := 1 + d.below(impl.MaxUnits)
		starts, _ := listApart(l, units, d.order(len(l)))
		for range 3 {
			number := d.below(len(l))
			starts[number] = min(1000, max(0, starts[number]+d.below(5)-2))
			if d.below(8) == 0 {
				starts[number] = 1000
			}
			want := isScheduleApart(l, units, starts)
			checkIsSchedule(t, l, units, starts, want)
			is[oneWhere(want)]++
		}
	}
	if min(is[0], is[1]) < 1500 {
		t.Error(is)
	}
}

// A schedule on some units is one on more of them.
func TestIsScheduleWithMoreUnits(t *testing.T) {
	d := &lots{state: 17}
	for range 1000 {
		l := d.someTasks()
		for units := 1; units <= impl.MaxUnits; units++ {
			starts, _, _ := impl.ListTimes(l, units, d.order(len(l)))
			for more := units; more <= impl.MaxUnits; more++ {
				checkIsSchedule(t, l, more, starts, true)
			}
			most := 0
			for now := range 300 {
				most = max(most, doneApart(l, starts, now))
			}
			for fewer := 1; fewer < units; fewer++ {
				checkIsSchedule(t, l, fewer, starts, most <= fewer)
			}
		}
	}
}

// allAhead are tasks of which each is After all that are ahead of it.
func allAhead(count int, long int) []impl.Task {
	var l []impl.Task
	for number := range count {
		l = append(l, impl.Task{Long: long, After: rowOrder(number)})
	}
	return l
}

func TestSchedulesAtMaxTasks(t *testing.T) {
	for _, long := range []int{1, 20} {
		row, wide := allAhead(impl.MaxTasks, long), slices.Repeat([]impl.Task{{Long: long}}, impl.MaxTasks)
		var starts, ranks []int
		for number := range impl.MaxTasks {
			starts = append(starts, number*long)
			ranks = append(ranks, (impl.MaxTasks-number)*long)
		}
		backwards := rowOrder(impl.MaxTasks)
		slices.Reverse(backwards)
		checkRanked(t, row, ranks, rowOrder(impl.MaxTasks))
		checkTotals(t, row, 12*long, 12*long)
		checkRanked(t, wide, slices.Repeat([]int{long}, 12), rowOrder(impl.MaxTasks))
		checkTotals(t, wide, long, 12*long)
		for units := 1; units <= impl.MaxUnits; units++ {
			checkListed(t, row, units, rowOrder(impl.MaxTasks), starts, 12*long)
			checkListed(t, row, units, backwards, starts, 12*long)
			checkLeastTime(t, row, units, 12*long)
			checkLeastTime(t, wide, units, 12/units*long)
			var inRanks []int
			for number := range impl.MaxTasks {
				inRanks = append(inRanks, number/units*long)
			}
			checkListed(t, wide, units, rowOrder(impl.MaxTasks), inRanks, 12/units*long)
			checkIsSchedule(t, wide, units, inRanks, true)
			checkIsSchedule(t, row, units, inRanks, units == 1)
		}
		checkTasksRefused(t, allAhead(impl.MaxTasks+1, long))
		checkTasksRefused(t, append(wide, impl.Task{Long: long}))
		checkTasksRefused(t, slices.Repeat(wide, 100))
	}
}

// notLongs and notStarts are just beyond the bounds, and far from them.
func notLongs() []int {
	return []int{math.MinInt, math.MinInt + 1, -1 << 32, -20, -1, 0, 21, 22, 1000, 1 << 32, 1<<32 + 1, 1<<32 + 20, math.MaxInt - 1, math.MaxInt}
}

func notStarts() []int {
	return []int{math.MinInt, math.MinInt + 1, -1 << 32, -1000, -2, -1, 1001, 1002, 65536, 1 << 32, 1<<32 + 5, math.MaxInt - 20, math.MaxInt - 1, math.MaxInt}
}

func notUnits() []int {
	return []int{math.MinInt, math.MinInt + 1, -1 << 32, -4, -1, 0, 5, 6, 12, 1000, 1 << 32, 1<<32 + 1, math.MaxInt - 1, math.MaxInt}
}

func TestScheduleRefusesWrongLongs(t *testing.T) {
	for _, long := range notLongs() {
		for at := range 4 {
			l := tasksAs(t, "3 2 2:1 4:0,1")
			l[at].Long = long
			checkTasksRefused(t, l)
		}
		checkTasksRefused(t, []impl.Task{{Long: long}})
		l := allAhead(impl.MaxTasks, 1)
		l[impl.MaxTasks-1].Long = long
		checkTasksRefused(t, l)
	}
}

func TestScheduleRefusesWrongAfters(t *testing.T) {
	numbers := []int{math.MinInt, math.MinInt + 1, -1 << 32, -2, -1, 2, 3, 4, 12, 1 << 32, 1<<32 + 1, math.MaxInt - 1, math.MaxInt}
	for _, number := range numbers {
		for _, after := range [][]int{{number}, {0, number}, {number, 0}, {0, 1, number}, {number, 0, 1}, {number, number}} {
			checkTasksRefused(t, []impl.Task{{Long: 3}, {Long: 2}, {Long: 4, After: after}})
			checkTasksRefused(t, []impl.Task{{Long: 3}, {Long: 2}, {Long: 4, After: after}, {Long: 1}})
		}
	}
	for _, after := range [][]int{{0, 0}, {1, 1}, {1, 0}, {0, 1, 0}, {0, 1, 1}, {0, 0, 1}, make([]int, 100000)} {
		checkTasksRefused(t, []impl.Task{{Long: 3}, {Long: 2}, {Long: 4, After: after}})
	}
	for number := range impl.MaxTasks {
		l := allAhead(impl.MaxTasks, 2)
		l[number].After = append(l[number].After, number)
		checkTasksRefused(t, l)
		l[number].After = []int{impl.MaxTasks - 1}
		checkTasksRefused(t, l)
	}
}

func TestScheduleRefusesWrongUnits(t *testing.T) {
	for _, units := range notUnits() {
		for _, text := range []string{"", "1", "3 2 2:1 4:0,1", "1 1 1 1 1 1 1 1 1 1 1 1"} {
			checkUnitsRefused(t, tasksAs(t, text), units)
		}
	}
}

func TestListTimesRefusesWrongOrders(t *testing.T) {
	l := tasksAs(t, "3 2 2:1 4:0,1")
	for _, order := range []string{"", "0", "0 1 2", "1 2 3", "0 1 2 3 0", "0 1 2 3 4", "0 1 2 3 -1", "0 1 2 3 0 1 2 3", "0 0 1 2", "0 1 2 2", "3 1 2 3", "1 1 1 1", "1 2 3 4", "-1 0 1 2", "0 1 2 4", "0 4 2 3"} {
		for units := 1; units <= impl.MaxUnits; units++ {
			checkListRefused(t, l, units, numbersAs(t, order))
		}
	}
	for _, number := range []int{math.MinInt, math.MinInt + 1, -1 << 32, -4, -1, 4, 5, 12, 1 << 32, 1<<32 + 1, math.MaxInt - 1, math.MaxInt} {
		for at := range l {
			order := rowOrder(4)
			order[at] = number
			checkListRefused(t, l, 2, order)
		}
		checkListRefused(t, nil, 1, []int{number})
		checkListRefused(t, []impl.Task{{Long: 1}}, 1, []int{number})
	}
	checkListRefused(t, nil, 1, []int{0})
	checkListRefused(t, []impl.Task{{Long: 1}}, 1, nil)
	checkListRefused(t, []impl.Task{{Long: 1}}, 1, []int{0, 0})
	checkListRefused(t, []impl.Task{{Long: 1}}, 1, make([]int, 100000))
	// Each list of four numbers.
	good := 0
	for choice := range 6 * 6 * 6 * 6 {
		order := []int{choice%6 - 1, choice/6%6 - 1, choice/36%6 - 1, choice/216 - 1}
		if sorted := slices.Sorted(slices.Values(order)); slices.Equal(sorted, rowOrder(4)) {
			checkList(t, l, 2, order)
			good++
		} else {
			checkListRefused(t, l, 2, order)
		}
	}
	if good != 24 {
		t.Error(good)
	}
}

func TestIsScheduleRefusesWrongStarts(t *testing.T) {
	l := tasksAs(t, "3 2 2:1 4:0,1")
	checkIsSchedule(t, l, 2, []int{0, 0, 2, 3}, true)
	for _, starts := range []string{"", "0", "0 0 2", "0 0 2 3 3", "0 0 2 3 7", "0 0 2 3 0 0 2 3"} {
		for units := 1; units <= impl.MaxUnits; units++ {
			checkScheduleRefused(t, l, units, numbersAs(t, starts))
		}
	}
	for _, start := range notStarts() {
		for at := range l {
			// Refused whether or not the others are a schedule.
			starts := []int{0, 0, 2, 3}
			starts[at] = start
			checkScheduleRefused(t, l, 2, starts)
			starts = []int{0, 0, 0, 0}
			starts[at] = start
			checkScheduleRefused(t, l, 1, starts)
		}
		checkScheduleRefused(t, nil, 1, []int{start})
		checkScheduleRefused(t, []impl.Task{{Long: 20}}, 1, []int{start})
	}
	checkScheduleRefused(t, nil, 1, []int{0})
	checkScheduleRefused(t, []impl.Task{{Long: 1}}, 1, nil)
	checkScheduleRefused(t, []impl.Task{{Long: 1}}, 1, make([]int, 100000))
}

// behindNumbers has numbers with others behind their length.
func behindNumbers(numbers []int) []int {
	return append(slices.Clone(numbers), 0, 1, -5)[:len(numbers)]
}

func behindTasks(l []impl.Task) []impl.Task {
	more := make([]impl.Task, 0, len(l)+2)
	for _, task := range l {
		more = append(more, impl.Task{Long: task.Long, After: behindNumbers(task.After)})
	}
	return append(more, impl.Task{Long: 3, After: []int{0}}, impl.Task{Long: -1})[:len(l)]
}

// keptTasks has also what is behind the lengths.
func keptTasks(l []impl.Task) []impl.Task {
	kept := slices.Clone(l[:cap(l)])
	for number, task := range kept {
		kept[number].After = slices.Clone(task.After[:cap(task.After)])
	}
	return kept
}

func sameTasks(l []impl.Task, kept []impl.Task) bool {
	return slices.EqualFunc(l[:cap(l)], kept, func(a impl.Task, b impl.Task) bool {
		return a.Long == b.Long && slices.Equal(a.After[:cap(a.After)], b.After)
	})
}

func TestScheduleLeavesWhatIsHandedIn(t *testing.T) {
	d := &lots{state: 8080}
	for round := range 600 {
		l := behindTasks(d.someTasks())
		if round%3 == 0 && len(l) > 0 {
			l[d.below(len(l))].Long = 0
		}
		order, starts := behindNumbers(d.order(len(l))), behindNumbers(make([]int, len(l)))
		kept, keptOrder, keptStarts := keptTasks(l), slices.Clone(order[:cap(order)]), slices.Clone(starts[:cap(starts)])
		impl.GoodTasks(l)
		impl.LongestChain(l)
		impl.RanksOf(l)
		impl.RankOrder(l)
		impl.WorkOf(l)
		for units := range impl.MaxUnits + 2 {
			impl.ListTimes(l, units, order)
			impl.IsSchedule(l, units, starts)
			impl.LeastTime(l, units)
		}
		if !sameTasks(l, kept) || !slices.Equal(order[:cap(order)], keptOrder) || !slices.Equal(starts[:cap(starts)], keptStarts) {
			t.Fatal("something was written into", tasksText(l), order, starts)
		}
	}
}

// Tasks, After, orders and starts behind a list's length are not read.
func TestScheduleReadsNothingBehind(t *testing.T) {
	whole := tasksAs(t, "3 2 2:1 4:0,1 1:3 99")
	checkTasksRefused(t, whole)
	order := rowOrder(len(whole))
	for end := range 6 {
		checkTasks(t, whole[:end])
		checkList(t, whole[:end], 2, order[:end])
		checkListRefused(t, whole[:end+1], 2, order[:end])
		checkListRefused(t, whole[:end], 2, order[:end+1])
	}
	after := []int{0, 1, 2}
	l := []impl.Task{{Long: 1}, {Long: 2}, {Long: 3, After: after[:0]}}
	checkListed(t, l, 3, []int{0, 1, 2}, []int{0, 0, 0}, 3)
	l[2].After = after[:1]
	checkListed(t, l, 3, []int{0, 1, 2}, []int{0, 0, 1}, 4)
	l[2].After = after[:2]
	checkListed(t, l, 3, []int{0, 1, 2}, []int{0, 0, 2}, 5)
	l[2].After = after
	checkTasksRefused(t, l)
	starts := []int{0, 0, 2, -1}
	l[2].After = after[:2]
	checkIsSchedule(t, l, 3, starts[:3], true)
	checkScheduleRefused(t, l, 3, starts[:2])
	checkScheduleRefused(t, l, 3, starts)
}

func TestScheduleAnswersAreNewMemory(t *testing.T) {
	l, order := tasksAs(t, "3 2 2:1 4:0,1"), []int{3, 2, 1, 0}
	for range 3 {
		starts, _, _ := impl.ListTimes(l, 2, order)
		if !slices.Equal(starts, []int{0, 0, 2, 3}) {
			t.Error(starts)
		}
		spoil(starts)
		ranks, _ := impl.RanksOf(l)
		if !slices.Equal(ranks, []int{7, 6, 2, 4}) {
			t.Error(ranks)
		}
		spoil(ranks)
		ranked, _ := impl.RankOrder(l)
		if !slices.Equal(ranked, []int{0, 1, 3, 2}) {
			t.Error(ranked)
		}
		spoil(ranked)
		if tasksText(l) != "3 2 2:1 4:0,1" || !slices.Equal(order, []int{3, 2, 1, 0}) {
			t.Error(tasksText(l), order)
		}
	}
}

// Calls that run at once have units of their own.
func TestListTimesAtOnce(t *testing.T) {
	var calls sync.WaitGroup
	for caller := range 8 {
		calls.Go(func() {
			d := &lots{state: uint64(caller)}
			for range 300 {
				l := d.someTasks()
				checkList(t, l, 1+d.below(impl.MaxUnits), d.order(len(l)))
			}
		})
	}
	calls.Wait()
}

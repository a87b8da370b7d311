package tests

import (
	"slices"
	"testing"

	"loop.example/constraintsolver/impl"
)

// task returns a task with the given starts.
func task(duration int, demand int, starts ...int) impl.Task {
	return impl.Task{Start: setOf(starts), Duration: duration, Demand: demand}
}

// isRunning reports whether the task is running at time t if it starts at the given time.
func isRunning(task impl.Task, start int, t int) bool {
	for i := range task.Duration {
		if start+i == t {
			return true
		}
	}
	return false
}

// isCompulsory reports whether the task is running at time t for every start.
func isCompulsory(task impl.Task, t int) bool {
	return !slices.ContainsFunc(valuesOf(task.Start), func(start int) bool { return !isRunning(task, start, t) })
}

// usageOf is Usage by its definition.
func usageOf(tasks []impl.Task, starts []int) []int {
	usage := make([]int, 11)
	for i, task := range tasks {
		for t := range usage {
			if isRunning(task, starts[i], t) {
				usage[t] += task.Demand
			}
		}
	}
	return usage
}

// makespanOf is Makespan by its definition.
func makespanOf(tasks []impl.Task, starts []int) int {
	ends := make([]int, len(tasks))
	for i, task := range tasks {
		ends[i] = starts[i] + task.Duration
	}
	return slices.Max(ends)
}

// startsOf returns the domains of the tasks.
func startsOf(tasks []impl.Task) []int {
	var domains []int
	for _, task := range tasks {
		domains = append(domains, task.Start)
	}
	return domains
}

// movedTo returns the tasks with other domains.
func movedTo(tasks []impl.Task, domains []int) []impl.Task {
	list := slices.Clone(tasks)
	for i, d := range domains {
		list[i].Start = d
	}
	return list
}

// cumulativeOf returns the model with the start domains and the corresponding Cumulative constraint.
func cumulativeOf(tasks []impl.Task, capacity int) impl.Model {
	c := impl.Constraint{Kind: impl.Cumulative, Bound: capacity, Args: make([]int, 2*len(tasks))}
	for i, task := range tasks {
		c.Vars = append(c.Vars, i)
		c.Args[i], c.Args[len(tasks)+i] = task.Duration, task.Demand
	}
	return impl.Model{Domains: startsOf(tasks), Constraints: []impl.Constraint{c}}
}

// isTooMuch reports whether task i would exceed the capacity with a start, given the compulsory parts of the others.
func isTooMuch(tasks []impl.Task, capacity int, i int, start int) bool {
	for t := range 11 {
		needed := tasks[i].Demand
		for j, other := range tasks {
			if j != i && isCompulsory(other, t) {
				needed += other.Demand
			}
		}
		if isRunning(tasks[i], start, t) && needed > capacity {
			return true
		}
	}
	return false
}

// timetableOf is TimetableFilter by its definition. It removes one value at a time, and the last ones first. It also
// returns the number of values that it removes because of values that it has removed before.
func timetableOf(tasks []impl.Task, capacity int) ([]int, int) {
	present := slices.Clone(tasks)
	late := 0
	for i := len(present) - 1; i >= 0; i-- {
		values := valuesOf(present[i].Start)
		slices.Reverse(values)
		for _, start := range values {
			if isTooMuch(present, capacity, i, start) {
				if !isTooMuch(tasks, capacity, i, start) {
					late++
				}
				present[i].Start &^= 1 << start
				if present[i].Start == 0 {
					return make([]int, len(tasks)), late
				}
				i = len(present)
				break
			}
		}
	}
	return startsOf(present), late
}

// energyIn is RequiredEnergy by its definition.
func energyIn(tasks []impl.Task, low int, high int) int {
	sum := 0
	for _, task := range tasks {
		var times []int
		for _, start := range valuesOf(task.Start) {
			n := 0
			for t := low; t < high; t++ {
				if isRunning(task, start, t) {
					n++
				}
			}
			times = append(times, n)
		}
		sum += task.Demand * slices.Min(times)
	}
	return sum
}

// overloadOf is Overload by its definition.
func overloadOf(tasks []impl.Task, capacity int) (int, int, bool) {
	for low := 0; low <= 11; low++ {
		for high := low + 1; high <= 11; high++ {
			if energyIn(tasks, low, high) > capacity*(high-low) {
				return low, high, true
			}
		}
	}
	return 0, 0, false
}

// schedulesOf lists the starts in the domains for which the usage does not exceed the capacity.
func schedulesOf(tasks []impl.Task, capacity int) [][]int {
	return slices.DeleteFunc(allAssignments(len(tasks)), func(x []int) bool {
		return !inDomains(impl.Model{Domains: startsOf(tasks)}, x) || slices.Max(usageOf(tasks, x)) > capacity
	})
}

// scheduleOf is Schedule by its definition. It also returns the number of schedules with the smallest makespan.
func scheduleOf(tasks []impl.Task, capacity int) ([]int, int) {
	return firstLeast(schedulesOf(tasks, capacity), func(x []int) int { return makespanOf(tasks, x) })
}

// energyOf returns the energy of all tasks together.
func energyOf(tasks []impl.Task) int {
	sum := 0
	for _, task := range tasks {
		sum += task.Demand * task.Duration
	}
	return sum
}

// narrow returns a domain that is not empty, and often an interval with few values.
func (s source) narrow() int {
	if s.IntN(3) == 0 {
		return s.between(1, 63)
	}
	low := s.between(0, 5)
	return impl.DomainRange(low, low+s.between(0, 5))
}

// tasks returns valid tasks.
func (s source) tasks() []impl.Task {
	longest, highest := s.between(1, 6), s.between(1, 9)
	var list []impl.Task
	for range s.between(1, 4) {
		list = append(list, impl.Task{Start: s.narrow(), Duration: s.between(1, longest), Demand: s.between(0, highest)})
	}
	return list
}

// busy returns valid tasks and a capacity that is often just enough for them, or just too small.
func (s source) busy() ([]impl.Task, int) {
	tasks := s.tasks()
	if s.IntN(8) == 0 {
		return tasks, s.between(0, 9)
	}
	highest := 0
	for _, task := range tasks {
		highest = max(highest, task.Demand)
	}
	return tasks, min(9, max(0, highest+max(0, s.between(-1, 4))))
}

// validTask returns the smallest task, one of whose fields is then made invalid.
func validTask() impl.Task {
	return impl.Task{Start: 1, Duration: 1}
}

// invalidTasks lists tasks that are invalid in different ways.
func invalidTasks() []impl.Task {
	list := []impl.Task{{}, {Duration: 1}, {Start: 1}, {Start: 63, Demand: 1}}
	for _, d := range append(invalidDomains(), 0) {
		bad := validTask()
		bad.Start = d
		list = append(list, bad)
	}
	for _, duration := range []int{smallestInt, -1, 0, 7, 8, 64, 1 << 32, 1<<32 + 1, largestInt} {
		bad := validTask()
		bad.Duration = duration
		list = append(list, bad)
	}
	for _, demand := range []int{smallestInt, -9, -1, 10, 11, 64, 1 << 32, 1<<32 + 1, largestInt} {
		bad := validTask()
		bad.Demand = demand
		list = append(list, bad)
	}
	return list
}

// invalidTaskLists lists what are no tasks.
func invalidTaskLists() [][]impl.Task {
	list := [][]impl.Task{nil, {}, slices.Repeat([]impl.Task{validTask()}, 5), slices.Repeat([]impl.Task{validTask()}, 100)}
	for _, bad := range invalidTasks() {
		for n := 1; n <= 4; n++ {
			for i := range n {
				tasks := slices.Repeat([]impl.Task{validTask()}, n)
				tasks[i] = bad
				list = append(list, tasks)
			}
		}
	}
	return list
}

// invalidCapacities lists numbers that are no capacities.
func invalidCapacities() []int {
	return []int{smallestInt, -9, -1, 10, 11, 64, 1 << 32, 1<<32 + 1, largestInt}
}

// checkPart reports a task that does not have the wanted compulsory part.
func checkPart(t *testing.T, task impl.Task, low int, high int) {
	t.Helper()
	if a, b := impl.CompulsoryPart(task); a != low || b != high {
		t.Errorf("CompulsoryPart(%+v) = %d, %d, want %d, %d", task, a, b, low, high)
	}
}

// checkUse reports starts with another usage or makespan than the wanted one.
func checkUse(t *testing.T, tasks []impl.Task, starts []int, makespan int, usage ...int) {
	t.Helper()
	if got := impl.Usage(tasks, starts); !slices.Equal(got, usage) {
		t.Errorf("Usage(%+v, %v) = %v, want %v", tasks, starts, got, usage)
	}
	if got := impl.Makespan(tasks, starts); got != makespan {
		t.Errorf("Makespan(%+v, %v) = %d, want %d", tasks, starts, got, makespan)
	}
}

// checkTimetable reports tasks of which TimetableFilter does not leave the wanted domains.
func checkTimetable(t *testing.T, tasks []impl.Task, capacity int, want ...int) {
	t.Helper()
	if got := impl.TimetableFilter(tasks, capacity); !slices.Equal(got, want) {
		t.Errorf("TimetableFilter(%+v, %d) = %v, want %v", tasks, capacity, got, want)
	}
}

// checkEnergy reports tasks that do not need the wanted energy in an interval.
func checkEnergy(t *testing.T, tasks []impl.Task, low int, high int, want int) {
	t.Helper()
	if got := impl.RequiredEnergy(tasks, low, high); got != want {
		t.Errorf("RequiredEnergy(%+v, %d, %d) = %d, want %d", tasks, low, high, got, want)
	}
}

// checkOverload reports tasks with another overload than the wanted one.
func checkOverload(t *testing.T, tasks []impl.Task, capacity int, low int, high int, want bool) {
	t.Helper()
	if a, b, ok := impl.Overload(tasks, capacity); a != low || b != high || ok != want {
		t.Errorf("Overload(%+v, %d) = %d, %d, %v, want %d, %d, %v", tasks, capacity, a, b, ok, low, high, want)
	}
}

// checkSchedule reports tasks for which Schedule does not return the wanted starts, or any if nil is wanted.
func checkSchedule(t *testing.T, tasks []impl.Task, capacity int, want ...int) {
	t.Helper()
	if x, ok := impl.Schedule(tasks, capacity); ok != (want != nil) || !slices.Equal(x, want) {
		t.Errorf("Schedule(%+v, %d) = %v, %v, want %v", tasks, capacity, x, ok, want)
	}
}

func TestPromise87ValidTasksAreAValidCumulativeConstraint(t *testing.T) {
	s := newSource(173)
	for range 1000 {
		tasks, capacity := s.busy()
		if !impl.ValidTasks(tasks, capacity) || !impl.ValidModel(cumulativeOf(tasks, capacity)) {
			t.Fatalf("ValidTasks(%+v, %d) = %v", tasks, capacity, impl.ValidTasks(tasks, capacity))
		}
		for n := range tasks {
			if impl.ValidTasks(tasks[:n], capacity) != (n > 0) {
				t.Fatalf("ValidTasks(%+v, %d) = %v", tasks[:n], capacity, n == 0)
			}
		}
	}
}

func TestValidTasks(t *testing.T) {
	if impl.MaxTasks != 4 || impl.MaxDuration != 6 || impl.MaxTime != 11 {
		t.Errorf("the limits are %d, %d and %d", impl.MaxTasks, impl.MaxDuration, impl.MaxTime)
	}
	for n := 1; n <= 4; n++ {
		for capacity := range 10 {
			for d := 1; d <= 63; d++ {
				tasks := slices.Repeat([]impl.Task{{Start: 32, Duration: 6, Demand: 9}}, n)
				tasks[n-1] = impl.Task{Start: d, Duration: 1, Demand: 0}
				if !impl.ValidTasks(tasks, capacity) {
					t.Errorf("ValidTasks(%+v, %d) = false", tasks, capacity)
				}
			}
		}
	}
	for _, tasks := range invalidTaskLists() {
		for _, capacity := range []int{0, 1, 9} {
			if impl.ValidTasks(tasks, capacity) {
				t.Errorf("ValidTasks(%+v, %d) = true", tasks, capacity)
			}
		}
	}
	for _, capacity := range invalidCapacities() {
		if impl.ValidTasks([]impl.Task{validTask()}, capacity) {
			t.Errorf("ValidTasks with the capacity %d = true", capacity)
		}
	}
}

func TestPromise88CompulsoryPartIsOccupiedForEveryStart(t *testing.T) {
	parts := 0
	for d := 1; d <= 63; d++ {
		for duration := 1; duration <= 6; duration++ {
			for _, demand := range []int{0, 5, 9} {
				task := impl.Task{Start: d, Duration: duration, Demand: demand}
				low, high := impl.CompulsoryPart(task)
				for time := range 12 {
					if isInside := low <= time && time < high; isInside != isCompulsory(task, time) {
						t.Fatalf("CompulsoryPart(%+v) = %d, %d, but time %d is there", task, low, high, time)
					}
				}
				if low != 0 || high != 0 {
					parts++
				}
			}
		}
	}
	if parts < 100 {
		t.Errorf("only %d tasks had compulsory parts", parts)
	}
}

func TestCompulsoryParts(t *testing.T) {
	checkPart(t, task(1, 0, 0), 0, 1)
	checkPart(t, task(6, 9, 5), 5, 11)
	checkPart(t, task(3, 2, 2, 4), 4, 5)
	checkPart(t, task(6, 2, 0, 1, 2, 3, 4, 5), 5, 6)
	// The parts that end just when they would begin, or before, are empty.
	checkPart(t, task(2, 2, 2, 4), 0, 0)
	checkPart(t, task(1, 2, 2, 4), 0, 0)
	checkPart(t, task(5, 2, 0, 1, 2, 3, 4, 5), 0, 0)
	for _, bad := range invalidTasks() {
		checkPart(t, bad, 0, 0)
	}
	// These numbers would be a part if only one of the limits did not hold.
	checkPart(t, impl.Task{Start: 6, Duration: 7, Demand: 1}, 0, 0)
	checkPart(t, impl.Task{Start: 6, Duration: 6, Demand: 10}, 0, 0)
	checkPart(t, impl.Task{Start: 70, Duration: 6, Demand: 1}, 0, 0)
}

func TestPromise89UsageAccountsForAllDemands(t *testing.T) {
	s := newSource(174)
	seen := map[bool]int{}
	for range 3000 {
		tasks, capacity := s.busy()
		starts := s.list(len(tasks), 0, 5)
		usage := impl.Usage(tasks, starts)
		sum := 0
		for _, n := range usage {
			sum += n
		}
		if sum != energyOf(tasks) || !slices.Equal(usage, usageOf(tasks, starts)) {
			t.Fatalf("Usage(%+v, %v) = %v", tasks, starts, usage)
		}
		isEnough := slices.Max(usage) <= capacity
		if isEnough != (len(impl.Violated(cumulativeOf(tasks, capacity), starts)) == 0) {
			t.Fatalf("Usage(%+v, %v) = %v, but Violated with %d is different", tasks, starts, usage, capacity)
		}
		seen[isEnough]++
	}
	if seen[true] < 500 || seen[false] < 500 {
		t.Errorf("the usages were not balanced: %v", seen)
	}
}

func TestPromise90MakespanIsTheEndOfTheLastUse(t *testing.T) {
	s := newSource(175)
	for range 1000 {
		tasks := s.tasks()
		starts := s.list(len(tasks), 0, 5)
		makespan, usage := impl.Makespan(tasks, starts), impl.Usage(tasks, starts)
		if makespan != makespanOf(tasks, starts) {
			t.Fatalf("Makespan(%+v, %v) = %d", tasks, starts, makespan)
		}
		for time, n := range usage {
			if time >= makespan && n > 0 {
				t.Fatalf("Makespan(%+v, %v) = %d, but Usage = %v", tasks, starts, makespan, usage)
			}
		}
		// With demands the makespan is not only a bound.
		for i := range tasks {
			tasks[i].Demand = s.between(1, 9)
		}
		usage = impl.Usage(tasks, starts)
		if usage[makespan-1] == 0 || slices.Max(append(usage[makespan:], 0)) > 0 {
			t.Fatalf("Makespan(%+v, %v) = %d, but Usage = %v", tasks, starts, makespan, usage)
		}
	}
}

func TestUsageOfTimes(t *testing.T) {
	tasks := []impl.Task{task(3, 2, 0), task(6, 9, 1, 2)}
	checkUse(t, tasks, []int{0, 1}, 7, 2, 11, 11, 9, 9, 9, 9, 0, 0, 0, 0)
	// The starts need not be in the domains, and the last time is 10.
	checkUse(t, tasks, []int{5, 5}, 11, 0, 0, 0, 0, 0, 11, 11, 11, 9, 9, 9)
	checkUse(t, tasks, []int{3, 0}, 6, 9, 9, 9, 11, 11, 11, 0, 0, 0, 0, 0)
	checkUse(t, tasks[:1], []int{5}, 8, 0, 0, 0, 0, 0, 2, 2, 2, 0, 0, 0)
	// A task without demand uses nothing, but ends the schedule.
	checkUse(t, []impl.Task{task(1, 0, 0), task(1, 4, 0)}, []int{4, 1}, 5, 0, 4, 0, 0, 0, 0, 0, 0, 0, 0, 0)
	all := slices.Repeat([]impl.Task{task(6, 9, 0)}, 4)
	checkUse(t, all, []int{0, 0, 0, 0}, 6, 36, 36, 36, 36, 36, 36, 0, 0, 0, 0, 0)
}

func TestUsageRejectsInvalidArguments(t *testing.T) {
	for _, tasks := range invalidTaskLists() {
		checkUse(t, tasks, make([]int, len(tasks)), -1)
		checkUse(t, tasks, nil, -1)
	}
	for n := 1; n <= 4; n++ {
		for _, starts := range invalidAssignments(n) {
			checkUse(t, slices.Repeat([]impl.Task{task(2, 3, 0, 5)}, n), starts, -1)
		}
	}
}

func TestPromise91TimetableFilteringIsSound(t *testing.T) {
	s := newSource(176)
	var removed, weaker, empty int
	for range 5000 {
		tasks, capacity := s.busy()
		domains := impl.TimetableFilter(tasks, capacity)
		stronger := impl.Propagate(cumulativeOf(tasks, capacity))
		if !contains(startsOf(tasks), domains) || !contains(domains, stronger) {
			t.Fatalf("TimetableFilter(%+v, %d) = %v, but Propagate = %v", tasks, capacity, domains, stronger)
		}
		if domains[0] == 0 {
			empty++
			continue
		}
		checkTimetable(t, movedTo(tasks, domains), capacity, domains...)
		if !slices.Equal(domains, startsOf(tasks)) {
			removed++
		}
		if !slices.Equal(domains, stronger) {
			weaker++
		}
	}
	if removed < 100 || weaker < 100 || empty < 100 {
		t.Errorf("filtering removed values %d times, was weaker than propagation %d times, and failed %d times", removed, weaker, empty)
	}
}

func TestTimetableFilterByItsDefinition(t *testing.T) {
	s := newSource(177)
	var late, empty int
	for range 5000 {
		tasks, capacity := s.busy()
		want, n := timetableOf(tasks, capacity)
		checkTimetable(t, tasks, capacity, want...)
		if n > 0 && want[0] != 0 {
			late++
		} else if n > 0 {
			empty++
		}
	}
	if late < 50 || empty < 50 {
		t.Errorf("removals led to others %d times, and to empty domains %d times", late, empty)
	}
}

func TestTimetableFiltering(t *testing.T) {
	// The second task can only be before or behind the first one.
	checkTimetable(t, []impl.Task{task(2, 2, 2), task(1, 2, 0, 1, 2, 3, 4, 5)}, 3, 4, 51)
	checkTimetable(t, []impl.Task{task(2, 2, 2), task(2, 2, 0, 1, 2, 3, 4, 5)}, 3, 4, 49)
	checkTimetable(t, []impl.Task{task(2, 2, 2), task(2, 2, 0, 1, 2, 3, 4, 5)}, 4, 4, 63)
	checkTimetable(t, []impl.Task{task(2, 2, 2), task(2, 0, 0, 1, 2, 3, 4, 5)}, 2, 4, 63)
	// Only times that are in the compulsory part count.
	checkTimetable(t, []impl.Task{task(3, 2, 2, 3), task(1, 2, 0, 1, 2, 3, 4, 5)}, 3, 12, 39)
	checkTimetable(t, []impl.Task{task(1, 2, 2, 3), task(1, 2, 0, 1, 2, 3, 4, 5)}, 3, 12, 63)
	// The second task gets a compulsory part only when it loses a start, and then the third one loses some.
	chain := []impl.Task{task(2, 2, 0), task(2, 2, 0, 2, 3), task(1, 2, 0, 1, 2, 3, 4)}
	checkTimetable(t, chain, 3, 1, 12, 20)
	slices.Reverse(chain)
	checkTimetable(t, chain, 3, 20, 12, 1)
	// Two compulsory parts together leave too little for a third task, but each alone does not.
	checkTimetable(t, []impl.Task{task(2, 1, 1), task(2, 1, 2), task(1, 1, 0, 1, 2, 3, 4)}, 2, 2, 4, 27)
	// A task with a compulsory part does not stand in its own way.
	checkTimetable(t, []impl.Task{task(4, 3, 0, 1, 2)}, 3, 7)
	checkTimetable(t, []impl.Task{task(1, 9, 5)}, 9, 32)
	// It is not search: both tasks have to be at the same time, but none has a compulsory part.
	checkTimetable(t, []impl.Task{task(2, 2, 0, 2), task(2, 2, 0, 2), task(2, 2, 0, 2)}, 3, 5, 5, 5)
}

func TestTimetableFilteringFailsForAllTasks(t *testing.T) {
	// Without compulsory parts, too, a task whose own demand exceeds the capacity has no start.
	checkTimetable(t, []impl.Task{task(1, 4, 0, 1, 2, 3, 4, 5)}, 3, 0)
	checkTimetable(t, []impl.Task{task(1, 1, 0, 1, 2, 3, 4, 5)}, 0, 0)
	checkTimetable(t, []impl.Task{task(1, 4, 0, 1, 2, 3, 4, 5)}, 4, 63)
	checkTimetable(t, []impl.Task{task(1, 0, 0, 1, 2, 3, 4, 5)}, 0, 63)
	for i := range 4 {
		tasks := slices.Repeat([]impl.Task{task(1, 1, 0, 5)}, 4)
		tasks[i].Demand = 9
		checkTimetable(t, tasks, 8, 0, 0, 0, 0)
		checkTimetable(t, tasks, 9, 33, 33, 33, 33)
	}
	// Two tasks with one start each, and a third one far from them.
	checkTimetable(t, []impl.Task{task(1, 2, 3), task(1, 2, 3), task(1, 1, 0)}, 3, 0, 0, 0)
	checkTimetable(t, []impl.Task{task(1, 2, 3), task(1, 2, 3), task(1, 1, 0)}, 4, 8, 8, 1)
	// A task without demand cannot be where the others need too much, but they cannot be there, either.
	checkTimetable(t, []impl.Task{task(1, 2, 3), task(1, 2, 3), task(1, 0, 0, 3)}, 3, 0, 0, 0)
}

func TestPromise92RequiredEnergyIsALowerBoundOfTheUsage(t *testing.T) {
	s := newSource(178)
	less := 0
	for range 300 {
		tasks := s.tasks()
		checkEnergy(t, tasks, 0, 11, energyOf(tasks))
		for range 20 {
			var starts []int
			for _, task := range tasks {
				values := valuesOf(task.Start)
				starts = append(starts, values[s.IntN(len(values))])
			}
			low := s.between(0, 11)
			high := s.between(low, 11)
			used := 0
			for _, n := range impl.Usage(tasks, starts)[low:high] {
				used += n
			}
			needed := impl.RequiredEnergy(tasks, low, high)
			if needed > used || needed != energyIn(tasks, low, high) {
				t.Fatalf("RequiredEnergy(%+v, %d, %d) = %d, but with %v they use %d", tasks, low, high, needed, starts, used)
			}
			if needed < used && needed > 0 {
				less++
			}
		}
	}
	if less < 300 {
		t.Errorf("the energy was less than the usage only %d times", less)
	}
}

func TestRequiredEnergyByItsDefinition(t *testing.T) {
	s := newSource(179)
	for range 200 {
		tasks := s.tasks()
		for low := range 12 {
			for high := low; high <= 11; high++ {
				checkEnergy(t, tasks, low, high, energyIn(tasks, low, high))
			}
		}
	}
}

func TestRequiredEnergy(t *testing.T) {
	// It is enough that one start avoids a part of the interval, at either end.
	checkEnergy(t, []impl.Task{task(4, 3, 0, 5)}, 0, 4, 0)
	checkEnergy(t, []impl.Task{task(4, 3, 0, 5)}, 3, 6, 3)
	checkEnergy(t, []impl.Task{task(4, 3, 0, 1, 5)}, 3, 6, 3)
	checkEnergy(t, []impl.Task{task(4, 3, 0, 5)}, 2, 7, 6)
	// A start in the middle of the domain may be the best one.
	checkEnergy(t, []impl.Task{task(2, 3, 0, 2, 4)}, 0, 2, 0)
	checkEnergy(t, []impl.Task{task(6, 2, 2)}, 4, 6, 4)
	checkEnergy(t, []impl.Task{task(6, 2, 5), task(1, 9, 5), task(3, 0, 5)}, 5, 11, 21)
	checkEnergy(t, slices.Repeat([]impl.Task{task(6, 9, 0, 1, 2, 3, 4, 5)}, 4), 0, 11, 216)
	for time := range 12 {
		checkEnergy(t, []impl.Task{task(6, 9, 0), task(6, 9, 5)}, time, time, 0)
	}
}

func TestRequiredEnergyRejectsInvalidArguments(t *testing.T) {
	for _, tasks := range invalidTaskLists() {
		checkEnergy(t, tasks, 0, 11, -1)
		checkEnergy(t, tasks, 0, 0, -1)
	}
	tasks := []impl.Task{task(6, 9, 0)}
	for _, interval := range [][2]int{{1, 0}, {11, 10}, {-1, 0}, {-1, 5}, {-1, -1}, {-2, -1}, {0, 12}, {11, 12}, {12, 12}, {12, 11}, {0, -1},
		{0, 1 << 32}, {0, largestInt}, {smallestInt, 0}, {smallestInt, largestInt}, {largestInt, smallestInt}, {largestInt, largestInt}} {
		checkEnergy(t, tasks, interval[0], interval[1], -1)
	}
}

func TestPromise93OverloadProvesThatThereIsNoSchedule(t *testing.T) {
	s := newSource(180)
	var overloads, others int
	for range 2000 {
		tasks, capacity := s.busy()
		low, high, ok := impl.Overload(tasks, capacity)
		x, solved := impl.Schedule(tasks, capacity)
		if ok && (solved || impl.RequiredEnergy(tasks, low, high) <= capacity*(high-low)) {
			t.Fatalf("Overload(%+v, %d) = %d, %d, but Schedule = %v", tasks, capacity, low, high, x)
		}
		low, high, ok = overloadOf(tasks, capacity)
		checkOverload(t, tasks, capacity, low, high, ok)
		if ok {
			overloads++
		} else if !solved {
			others++
		}
	}
	if overloads < 200 || others < 20 {
		t.Errorf("there were %d overloads, and %d times no schedule without one", overloads, others)
	}
}

func TestOverloads(t *testing.T) {
	// Two tasks for the same time: the less room there is, the earlier the first interval begins.
	same := []impl.Task{task(1, 2, 4), task(1, 2, 4)}
	checkOverload(t, same, 4, 0, 0, false)
	checkOverload(t, same, 3, 4, 5, true)
	checkOverload(t, same, 2, 4, 5, true)
	checkOverload(t, same, 1, 2, 5, true)
	checkOverload(t, same, 0, 0, 5, true)
	// The interval that begins earlier comes first, and of those with the same beginning the shorter one.
	long := []impl.Task{task(2, 3, 3), task(2, 3, 3)}
	checkOverload(t, long, 5, 3, 4, true)
	checkOverload(t, long, 4, 3, 4, true)
	checkOverload(t, long, 3, 2, 5, true)
	// An interval that is too short for three tasks, although none of them has a compulsory part.
	checkOverload(t, slices.Repeat([]impl.Task{task(1, 2, 3, 4)}, 3), 2, 3, 5, true)
	checkOverload(t, slices.Repeat([]impl.Task{task(1, 2, 3, 4)}, 2), 2, 0, 0, false)
	// The first and the last times count, too.
	checkOverload(t, []impl.Task{task(1, 1, 0)}, 0, 0, 1, true)
	checkOverload(t, []impl.Task{task(6, 5, 5), task(6, 5, 5)}, 9, 5, 6, true)
	checkOverload(t, []impl.Task{task(6, 9, 5)}, 9, 0, 0, false)
	checkOverload(t, []impl.Task{task(6, 3, 4, 5), task(6, 3, 4, 5)}, 5, 4, 11, true)
	checkOverload(t, []impl.Task{task(6, 1, 5), task(1, 9, 0, 5)}, 0, 0, 6, true)
	checkOverload(t, []impl.Task{task(1, 0, 0)}, 0, 0, 0, false)
	// There may be no schedule without an overload: there is room enough, but not in one piece.
	pieces := []impl.Task{task(1, 1, 1), task(1, 1, 3), task(2, 1, 0, 2)}
	checkOverload(t, pieces, 1, 0, 0, false)
	checkSchedule(t, pieces, 1)
	pieces[2].Start = 4
	checkOverload(t, pieces, 1, 1, 4, true)
}

func TestPromise94ScheduleIsFeasibleAndHasTheSmallestMakespan(t *testing.T) {
	s := newSource(181)
	var later, failed, tied int
	for range 4000 {
		tasks, capacity := s.busy()
		m := cumulativeOf(tasks, capacity)
		x, ok := impl.Schedule(tasks, capacity)
		if ok != (impl.CountSolutions(m) > 0) || ok && !impl.IsSolution(m, x) {
			t.Fatalf("Schedule(%+v, %d) = %v, %v", tasks, capacity, x, ok)
		}
		for _, y := range impl.SolveAll(m, 20) {
			if impl.Makespan(tasks, y) < impl.Makespan(tasks, x) {
				t.Fatalf("Schedule(%+v, %d) = %v, but %v ends earlier", tasks, capacity, x, y)
			}
		}
		want, ties := scheduleOf(tasks, capacity)
		checkSchedule(t, tasks, capacity, want...)
		switch {
		case !ok:
			failed++
		case !slices.Equal(want, schedulesOf(tasks, capacity)[0]):
			later++
		case ties > 1:
			tied++
		}
	}
	if later < 40 || failed < 400 || tied < 400 {
		t.Errorf("the first schedule was too long %d times, %d times there was none, and %d times there were ties", later, failed, tied)
	}
}

func TestSchedules(t *testing.T) {
	// Three tasks one after the other, or two at the same time, in the first of all orders.
	equal := slices.Repeat([]impl.Task{task(2, 2, 0, 1, 2, 3, 4, 5)}, 4)
	checkSchedule(t, equal[:3], 3, 0, 2, 4)
	checkSchedule(t, equal[:3], 4, 0, 0, 2)
	checkSchedule(t, equal[:3], 5, 0, 0, 2)
	checkSchedule(t, equal[:3], 6, 0, 0, 0)
	checkSchedule(t, equal, 3)
	checkSchedule(t, equal, 4, 0, 0, 2, 2)
	// The smallest makespan comes before the smallest starts.
	checkSchedule(t, []impl.Task{task(1, 2, 0, 1, 2, 3, 4, 5), task(5, 2, 0, 2)}, 2, 5, 0)
	checkSchedule(t, []impl.Task{task(1, 2, 0, 1, 2, 3, 4, 5), task(5, 2, 0, 1, 2)}, 2, 0, 1)
	checkSchedule(t, []impl.Task{task(1, 2, 0, 1, 2, 3, 4, 5), task(5, 2, 0, 2)}, 4, 0, 0)
	// A task that does not end last starts as early as it can, but only at a start in its domain.
	checkSchedule(t, []impl.Task{task(1, 1, 1, 2), task(6, 1, 3)}, 9, 1, 3)
	checkSchedule(t, []impl.Task{task(6, 9, 0), task(1, 1, 0, 5), task(1, 0, 4)}, 9)
	// Tasks without demand run at any time, whatever the capacity is.
	checkSchedule(t, []impl.Task{task(6, 0, 0, 1), task(6, 0, 2, 5)}, 0, 0, 2)
	checkSchedule(t, []impl.Task{task(6, 9, 0), task(1, 0, 3)}, 9, 0, 3)
	// With one start each, there is one schedule or none.
	checkSchedule(t, []impl.Task{task(2, 5, 0), task(3, 5, 2), task(6, 4, 5)}, 5, 0, 2, 5)
	checkSchedule(t, []impl.Task{task(2, 5, 0), task(4, 5, 2), task(6, 1, 5)}, 5)
	checkSchedule(t, []impl.Task{task(6, 9, 5)}, 9, 5)
}

func TestTasksWhoseOwnDemandExceedsTheCapacity(t *testing.T) {
	s := newSource(182)
	for range 500 {
		tasks := s.tasks()
		i := s.IntN(len(tasks))
		capacity := s.between(0, 8)
		tasks[i].Demand = s.between(capacity+1, 9)
		checkTimetable(t, tasks, capacity, make([]int, len(tasks))...)
		checkSchedule(t, tasks, capacity)
		low, high, ok := overloadOf(tasks, capacity)
		checkOverload(t, tasks, capacity, low, high, ok)
		// If its start is known, the task is an overload of the time at which it starts, unless an earlier interval is one.
		tasks[i].Start = 1 << s.between(0, 5)
		if low, _, ok := impl.Overload(tasks, capacity); !ok || 1<<low > tasks[i].Start {
			t.Fatalf("Overload(%+v, %d) = %d, %v", tasks, capacity, low, ok)
		}
	}
	// It needs too much at every time, but not in an interval that is long enough for all its starts.
	free := []impl.Task{task(1, 4, 0, 1, 2, 3, 4, 5)}
	checkOverload(t, free, 3, 0, 0, false)
	checkOverload(t, []impl.Task{task(1, 4, 3)}, 3, 3, 4, true)
	checkOverload(t, free, 0, 0, 6, true)
	checkTimetable(t, free, 3, 0)
	checkSchedule(t, free, 3)
	checkSchedule(t, free, 4, 0)
	checkUse(t, free, []int{2}, 3, 0, 0, 4, 0, 0, 0, 0, 0, 0, 0, 0)
}

func TestPromise95MoreCapacityDoesNotHurt(t *testing.T) {
	s := newSource(183)
	shorter := 0
	for range 500 {
		tasks := s.tasks()
		last := -1
		for capacity := range 10 {
			x, ok := impl.Schedule(tasks, capacity)
			if !ok {
				if last >= 0 {
					t.Fatalf("Schedule(%+v, %d) fails, but not with less capacity", tasks, capacity)
				}
				continue
			}
			makespan := impl.Makespan(tasks, x)
			if last >= 0 && makespan > last || energyOf(tasks) > capacity*makespan {
				t.Fatalf("Schedule(%+v, %d) ends at %d, and with less capacity at %d", tasks, capacity, makespan, last)
			}
			if makespan < last {
				shorter++
			}
			last = makespan
		}
	}
	if shorter < 50 {
		t.Errorf("more capacity made schedules shorter only %d times", shorter)
	}
}

func TestSchedulingRejectsInvalidArguments(t *testing.T) {
	for _, tasks := range invalidTaskLists() {
		for _, capacity := range []int{-1, 0, 9} {
			checkTimetable(t, tasks, capacity)
			checkOverload(t, tasks, capacity, 0, 0, false)
			checkSchedule(t, tasks, capacity)
		}
	}
	for _, capacity := range invalidCapacities() {
		for _, tasks := range [][]impl.Task{{task(1, 0, 0)}, {task(6, 9, 0), task(6, 9, 0)}} {
			checkTimetable(t, tasks, capacity)
			checkOverload(t, tasks, capacity, 0, 0, false)
			checkSchedule(t, tasks, capacity)
		}
	}
}

// scheduledLists calls all functions of the chapter that return lists.
func scheduledLists(tasks []impl.Task, capacity int, starts []int) [][]int {
	x, _ := impl.Schedule(tasks, capacity)
	return lists(impl.Usage(tasks, starts), impl.TimetableFilter(tasks, capacity), x)
}

func TestSchedulingLeavesItsArgumentsAlone(t *testing.T) {
	s := newSource(184)
	for range 500 {
		tasks, capacity := s.busy()
		tasks = append(slices.Grow(tasks, 3), tasks...)[:len(tasks)]
		starts := append(s.list(len(tasks), 0, 5), 7, 8)[:len(tasks)]
		tasksBefore, startsBefore := slices.Clone(tasks[:cap(tasks)]), slices.Clone(starts[:cap(starts)])
		want := spoil(t, scheduledLists(tasks, capacity, starts))
		impl.ValidTasks(tasks, capacity)
		impl.Makespan(tasks, starts)
		impl.RequiredEnergy(tasks, 0, 11)
		impl.Overload(tasks, capacity)
		if !slices.Equal(tasks[:cap(tasks)], tasksBefore) || !slices.Equal(starts[:cap(starts)], startsBefore) {
			t.Fatal("an argument was changed, or shares memory with a result")
		}
		if !sameLists(scheduledLists(tasks, capacity, starts), want) {
			t.Fatal("a result is kept from call to call")
		}
	}
}

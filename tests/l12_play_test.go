package tests

import (
	"math"
	"math/rand/v2"
	"reflect"
	"slices"
	"testing"

	"loop.example/g01608/impl"
)

// wantRun performs the steps one by one with the oracle of l11_step_test.go.
func wantRun(w impl.World, picks []int) impl.World {
	w = cloneOf(w)
	for _, thread := range picks {
		w = wantStep(w, thread)
	}
	return w
}

// wantFinish performs a step of each thread in turn and looks before each one whether there is anything to do.
func wantFinish(w impl.World) impl.World {
	w = cloneOf(w)
	for n := 0; n < 4000 && !wantIdle(w) && wantWorldOk(w); n++ {
		w = wantStep(w, n&3)
	}
	return w
}

func wantIdle(w impl.World) bool {
	return !slices.ContainsFunc(w.Jobs, func(j impl.Job) bool { return j.Busy }) &&
		!slices.ContainsFunc(w.Todo, func(q impl.Queue) bool { return len(q.Ops) > 0 })
}

// turns lists n threads in turn.
func turns(n int) []int {
	out := make([]int, 0)
	for len(out) < n {
		out = append(out, 0, 1, 2, 3)
	}
	return out[:max(n, 0)]
}

func times(n, thread int) []int {
	return slices.Repeat([]int{thread}, n)
}

func requireSame(t *testing.T, name string, got, want impl.World) {
	t.Helper()
	if d := differences(reflect.ValueOf(got), reflect.ValueOf(want)); len(d) > 0 {
		t.Errorf("%s: %q", name, d)
	}
}

// play looks at the argument and at memory that is shared; the result is not compared with anything.
func play(t *testing.T, l []impl.Queue, picks []int) impl.World {
	t.Helper()
	x := roomyCopy(impl.Script{Todo: l, Picks: picks})
	k := keep(x)
	got := impl.Play(x)
	k.check(t, "Play", got)
	return got
}

func checkPlay(t *testing.T, l []impl.Queue, picks []int) impl.World {
	t.Helper()
	got := play(t, l, picks)
	want := emptyWorld(l)
	stepped := impl.WorldNew(l)
	for _, thread := range picks[:min(len(picks), 500)] {
		want = wantStep(want, thread)
		stepped = impl.Step(stepped, thread)
	}
	requireSame(t, "Play", got, want)
	requireSame(t, "Play by Step", got, stepped)
	if !impl.WorldOk(got) {
		t.Errorf("the world of %v is not valid: %+v", picks, got)
	}
	return got
}

// rounds and finish look like play at the argument and at the memory.
func rounds(t *testing.T, w impl.World, n int) impl.World {
	t.Helper()
	arg := roomyCopy(w)
	k := keep(arg)
	got := impl.Rounds(arg, n)
	k.check(t, "Rounds", got)
	return got
}

func finish(t *testing.T, w impl.World) impl.World {
	t.Helper()
	arg := roomyCopy(w)
	k := keep(arg)
	got := impl.Finish(arg)
	k.check(t, "Finish", got)
	return got
}

func checkRounds(t *testing.T, w impl.World, n int) impl.World {
	t.Helper()
	got := rounds(t, w, n)
	requireSame(t, "Rounds "+impl.Dec(n), got, wantRun(w, turns(min(n, 4000))))
	return got
}

func checkFinish(t *testing.T, w impl.World) impl.World {
	t.Helper()
	got := finish(t, w)
	requireSame(t, "Finish", got, wantFinish(w))
	if impl.Idle(got) {
		requireEnd(t, got)
	}
	return got
}

// requireEnd requires that nothing happens any more in a world that is Idle.
func requireEnd(t *testing.T, w impl.World) {
	t.Helper()
	if !wantIdle(w) {
		t.Errorf("not at its end: %+v", w)
	}
	for thread := -1; thread <= 4; thread++ {
		requireUnchanged(t, w, thread)
	}
	requireSame(t, "Finish again", finish(t, w), w)
	for _, n := range []int{1, 4, 4000} {
		requireSame(t, "Rounds afterwards", rounds(t, w, n), w)
	}
}

// anyPicks has all threads, one of them more often than the others, and now and then no thread.
func anyPicks(r *rand.Rand, n int) []int {
	often := r.IntN(4)
	picks := make([]int, n)
	for i := range picks {
		picks[i] = oneOf(r, 0, 1, 2, 3, 3, often, often, r.IntN(4))
		if r.IntN(15) == 0 {
			picks[i] = oneOf(r, noThreads()...)
		}
	}
	return picks
}

func noThreads() []int {
	return append(farNumbers(), -1, -3, -4, 4, 5, 6, 7, 8, 1<<32, 1<<32+1, 1<<63-4, -1<<63+3)
}

// busyTodo registers some keys at first and then records them with many flushes in between.
func busyTodo(r *rand.Rand) []impl.Queue {
	l := todoOf(r.IntN(11))
	for i := range 3 {
		key := []string{"a", "b", "cpu"}[i]
		l[i].Ops = []impl.Op{registerOp(key, 1+r.IntN(3)), registerOp(oneOf(r, "a", "e"), 1+r.IntN(3))}
		for len(l[i].Ops) < 5+r.IntN(6) {
			l[i].Ops = append(l[i].Ops, recordOp(oneOf(r, key, key, "a", "e", "cpu"), oneOf(r, 0, 1, 7, 300, 65535)))
		}
	}
	return l
}

func TestPlay(t *testing.T) {
	small := todoOf(2, []impl.Op{registerOp("a", 1), recordOp("a", 5)}, []impl.Op{recordOp("a", 6), registerOp("e", 3)}, []impl.Op{registerOp("b", 2)})
	for _, l := range append(validTodos(), small) {
		for _, picks := range [][]int{
			nil, {}, {0}, {1}, {2}, {3}, {0, 1, 2, 3}, {3, 2, 1, 0}, {0, 0, 0, 0}, {3, 0, 3, 0, 3},
			turns(60), turns(333), turns(500), times(100, 0), times(300, 3),
			slices.Concat(times(5, 0), times(5, 3), times(50, 1), times(60, 3), times(30, 0), turns(200)),
		} {
			checkPlay(t, l, picks)
		}
	}
}

func TestPlayOfManySchedules(t *testing.T) {
	r := rand.New(rand.NewPCG(12, 1))
	for i := range 120 {
		l := anyTodo(r)
		if i%2 == 0 {
			l = busyTodo(r)
		}
		checkPlay(t, l, anyPicks(r, oneOf(r, 3, 40, 200, 500, 600)))
		if t.Failed() {
			return
		}
	}
}

// Every schedule of five picks, ones that are no threads included.
func TestPlayOfEverySmallSchedule(t *testing.T) {
	l := todoOf(1, []impl.Op{registerOp("a", 1), recordOp("a", 5)}, []impl.Op{registerOp("a", 2)}, []impl.Op{recordOp("a", 6)})
	picks := make([]int, 5)
	var visit func(place int, want impl.World)
	visit = func(place int, want impl.World) {
		requireSame(t, "Play", impl.Play(impl.Script{Todo: l, Picks: picks[:place]}), want)
		if place == len(picks) || t.Failed() {
			return
		}
		for thread := -1; thread <= 4; thread++ {
			picks[place] = thread
			visit(place+1, wantStep(want, thread))
		}
	}
	visit(0, emptyWorld(l))
}

// A schedule written out, with everything that it leaves.
func TestPlayWrittenOut(t *testing.T) {
	l := todoOf(1, []impl.Op{registerOp("a", 1), recordOp("a", 5)}, []impl.Op{recordOp("b", 9)})
	w := checkPlay(t, l, []int{0, 1, 0, 3, 1, 2, -1, 0, 3, 1, 4, 0})
	want := []impl.Ev{
		{Kind: 1, Who: 0, Serial: 1, At: 1, Op: registerOp("a", 1), Win: -1},
		{Kind: 1, Who: 1, Serial: 2, At: 2, Op: recordOp("b", 9), Win: -1},
		{Kind: 1, Who: 3, Serial: 3, At: 4, Op: flushOp(), Win: -1},
		{Kind: 2, Who: 1, Serial: 2, At: 5, Op: recordOp("b", 9), Code: 2, Win: -1},
		{Kind: 2, Who: 0, Serial: 1, At: 6, Op: registerOp("a", 1), Win: -1},
		{Kind: 2, Who: 3, Serial: 3, At: 7, Op: flushOp()},
		{Kind: 3, Who: 1, Serial: 2, At: 8, Op: recordOp("b", 9), Code: 2, Win: -1, Steps: 2},
		{Kind: 3, Who: 0, Serial: 1, At: 9, Op: registerOp("a", 1), Win: -1, Steps: 3},
	}
	if differ(w.Log, want) || w.Now != 9 || w.Serial != 3 || len(w.Todo[0].Ops) != 1 || w.Jobs[3].Pc != 13 || w.Cells[0] != 1 || w.Cells[3] != wantTagged("a", 1) {
		t.Errorf("%+v, want the log %+v", w, want)
	}
}

// Picks that are not threads do nothing, wherever they stand.
func TestPlayOfPicksThatAreNoThreads(t *testing.T) {
	l := fullTodo()
	picks := []int{0, 1, 0, 3, 3, 2, 0, 1, 3, 0}
	want := checkPlay(t, l, picks)
	for _, n := range noThreads() {
		for place := range len(picks) + 1 {
			requireSame(t, "with a pick that is no thread", play(t, l, slices.Insert(slices.Clone(picks), place, n)), want)
			requireSame(t, "with two such picks", play(t, l, slices.Insert(slices.Clone(picks), place, n, n)), want)
		}
		requireSame(t, "with such picks around", play(t, l, slices.Concat([]int{n, -1}, picks, []int{4, n})), want)
		requireSame(t, "such a pick alone", play(t, l, []int{n}), emptyWorld(l))
		requireSame(t, "many such picks", play(t, l, times(500, n)), emptyWorld(l))
	}
	requireSame(t, "all such picks", play(t, l, noThreads()), emptyWorld(l))
	requireSame(t, "all such picks around", play(t, l, slices.Concat(noThreads(), picks, noThreads())), want)
}

// They count among the first MaxPicks.
func TestPlayCountsPicksThatAreNoThreads(t *testing.T) {
	l := fullTodo()
	for _, n := range noThreads() {
		for _, x := range []struct {
			picks []int
			now   int
		}{
			{append(times(498, n), 0, 0, 0), 2},
			{append(times(499, n), 0, 0), 1},
			{append(times(500, n), 0, 0), 0},
			{append(times(501, n), 0, 0), 0},
			{append([]int{0, n}, times(600, n)...), 1},
			{slices.Concat([]int{3}, times(498, n), []int{3, 3, 3}), 2},
			{slices.Repeat([]int{n, 3}, 400), 250},
			{slices.Repeat([]int{3, n, n}, 400), 167},
		} {
			if w := checkPlay(t, l, x.picks); w.Now != x.now {
				t.Errorf("%d steps with picks %d, want %d", w.Now, n, x.now)
			}
		}
	}
}

// longPicks are picks of which each has something to do, if the workload is the full one.
func longPicks(n int) []int {
	picks := turns(n)
	for i := range picks {
		if i >= 240 {
			picks[i] = 3
		}
	}
	return picks
}

func TestMaxPicks(t *testing.T) {
	// After 60 rounds the flusher has 340 of its 400 steps left, more than enough for all further picks up to the 550th.
	l := fullTodo()
	at := func(n int) impl.World {
		return checkPlay(t, l, longPicks(n))
	}
	last := at(500)
	if impl.MaxPicks != 500 || at(0).Now != 0 || at(1).Now != 1 || at(498).Now != last.Now-2 || at(499).Now != last.Now-1 || impl.Step(last, 3).Now != last.Now+1 {
		t.Errorf("MaxPicks %d, %d steps of 500 picks", impl.MaxPicks, last.Now)
	}
	for _, n := range []int{501, 502, 512, 550, 1000, 5000} {
		requireSame(t, "more than MaxPicks picks", at(n), last)
	}
	// Whatever the pick beyond is.
	for _, thread := range append(noThreads(), 0, 1, 2, 3) {
		requireSame(t, "one pick beyond", play(t, l, append(longPicks(500), thread)), last)
	}
	if d := differences(reflect.ValueOf(play(t, l, append(longPicks(499), 0))), reflect.ValueOf(last)); len(d) == 0 {
		t.Error("the last pick does not matter")
	}
}

func TestPlayOfInvalidTodos(t *testing.T) {
	for _, l := range invalidTodos() {
		for _, picks := range [][]int{nil, {0}, {3}, {-1, 0, 4}, turns(40), turns(500), turns(501)} {
			got := play(t, l, picks)
			requireSame(t, "Play of an invalid workload", got, impl.World{})
			if !impl.SameWorld(got, impl.World{}) {
				t.Errorf("Play of the workload %+v: %+v", l, got)
			}
		}
	}
	requireSame(t, "Play of nothing", impl.Play(impl.Script{}), impl.World{})
}

func isPrefix(a, b []impl.Ev) bool {
	return len(a) <= len(b) && !differ(a, b[:min(len(a), len(b))])
}

// checkLog is what holds of the log of every schedule.
func checkLog(t *testing.T, w impl.World) {
	t.Helper()
	calls, at := 0, 0
	for _, e := range w.Log {
		if e.At <= at || e.At > w.Now || e.Serial < 1 || e.Serial > w.Serial {
			t.Errorf("the event %+v after the moment %d in a world at %d", e, at, w.Now)
		}
		at = e.At
		if e.Kind == 1 {
			calls++
			if e.Serial != calls {
				t.Errorf("the call %d has the serial %d", calls, e.Serial)
			}
		}
	}
	if w.Serial != calls || impl.Among(w.Log, 1) != calls {
		t.Errorf("Serial %d after %d calls", w.Serial, calls)
	}
}

// The log of the first picks is the beginning of the log of all of them, and each pick appends at most one event.
func TestLogOfAPrefix(t *testing.T) {
	r := rand.New(rand.NewPCG(12, 2))
	for range 25 {
		l, picks := busyTodo(r), anyPicks(r, 180)
		whole := impl.Play(impl.Script{Todo: l, Picks: picks})
		checkLog(t, whole)
		before := impl.Play(impl.Script{Todo: l})
		if len(before.Log) != 0 || before.Now != 0 || before.Serial != 0 {
			t.Fatalf("without picks: %+v", before)
		}
		for n, thread := range picks {
			after := impl.Play(impl.Script{Todo: l, Picks: picks[:n+1]})
			moves, calls := 0, 0
			if wantSteps(before, thread) {
				moves = 1
				if !before.Jobs[thread].Busy {
					calls = 1
				}
			}
			if !isPrefix(after.Log, whole.Log) || !isPrefix(before.Log, after.Log) || len(after.Log) > len(before.Log)+moves {
				t.Fatalf("the log of %v after the one of %v: %+v, %+v", picks[:n+1], picks[:n], after.Log, before.Log)
			}
			if after.Now != before.Now+moves || after.Serial != before.Serial+calls {
				t.Fatalf("Now %d and Serial %d after %d and %d", after.Now, after.Serial, before.Now, before.Serial)
			}
			before = after
		}
		requireSame(t, "all picks", before, whole)
		if end := impl.Finish(whole); !isPrefix(whole.Log, end.Log) || !isPrefix(whole.Log, impl.Rounds(whole, 77).Log) {
			t.Fatalf("the log has another beginning: %+v, %+v", end.Log, whole.Log)
		}
	}
}

// middleWorlds are valid worlds in the middle of operations: ones that schedules reach, one at each state, and ones with numbers from everywhere.
func middleWorlds(r *rand.Rand, n int) []impl.World {
	out := []impl.World{withoutJob(0), withoutJob(3), busyWorld(), emptyWorld(fullTodo()), emptyWorld(todoOf(0))}
	for kind := 1; kind <= 3; kind++ {
		for _, pc := range statesOf(kind) {
			w := worldAt([]int{0, 0, 1, 3}[kind], jobAt(kind, pc))
			w.Todo[0].Ops = []impl.Op{recordOp("b", 4), registerOp("d", 1)}
			out = append(out, w)
		}
	}
	for range n {
		out = append(out, anyWorld(r), impl.Play(impl.Script{Todo: busyTodo(r), Picks: anyPicks(r, r.IntN(150))}))
	}
	return out
}

func TestRounds(t *testing.T) {
	r := rand.New(rand.NewPCG(12, 3))
	for _, w := range middleWorlds(r, 15) {
		for _, n := range []int{math.MinInt, -5, -4, -1, 0, 1, 2, 3, 4, 5, 6, 7, 8, 9, 15, 16, 17, 60, 333} {
			checkRounds(t, w, n)
		}
		stepped := w
		for n := range 41 {
			requireSame(t, "Rounds by Step", impl.Rounds(w, n), stepped)
			stepped = impl.Step(stepped, n%4)
		}
	}
}

// Rounds begins with thread 0, whatever was done before.
func TestRoundsBeginWithThread0(t *testing.T) {
	l := fullTodo()
	for before := range 13 {
		w := impl.Play(impl.Script{Todo: l, Picks: turns(before)})
		for n := range 13 {
			got := impl.Rounds(w, n)
			requireSame(t, "Rounds after other steps", got, wantRun(emptyWorld(l), append(turns(before), turns(n)...)))
			// Within one round, the first n threads do something each.
			for thread := 0; n <= 4 && thread < 4; thread++ {
				if differ(got.Jobs[thread], w.Jobs[thread]) != (thread < n) {
					t.Errorf("thread %d after %d steps and then %d: %+v", thread, before, n, got.Jobs[thread])
				}
			}
		}
	}
	// So one step and then another one are not two.
	w := emptyWorld(l)
	if got := impl.Rounds(impl.Rounds(w, 1), 1); got.Jobs[1].Busy || got.Now != 2 || got.Serial != 1 {
		t.Errorf("the step after a round of one step: %+v", got.Jobs)
	}
}

// waitingWorld has a flush that waits for a thread that is not there, so that thread 3 has something to do for ever.
func waitingWorld() impl.World {
	w := emptyWorld(todoOf(3, []impl.Op{registerOp("a", 1), recordOp("a", 5)}, nil, []impl.Op{recordOp("a", 6)}))
	w.Cells[1] = 1
	return w
}

func TestRoundsLimits(t *testing.T) {
	w := waitingWorld()
	// The first step of thread 3 calls the flush and is not one of its job.
	flushSteps := func(n int) int {
		got := checkRounds(t, w, n)
		if impl.Idle(got) || got.Jobs[3].Pc != 13 || got.Jobs[3].E != 0 {
			t.Errorf("the flush after %d steps: %+v", n, got.Jobs[3])
		}
		return got.Jobs[3].Steps + 1
	}
	for _, x := range [][2]int{{12, 3}, {3995, 998}, {3996, 999}, {3999, 999}, {4000, 1000}, {4001, 1000}, {4003, 1000}, {4004, 1000}, {4005, 1000}, {5000, 1000}, {8000, 1000}, {1 << 32, 1000}, {math.MaxInt - 1, 1000}, {math.MaxInt, 1000}} {
		if n := flushSteps(x[0]); n != x[1] {
			t.Errorf("%d steps of the flush in Rounds %d, want %d", n, x[0], x[1])
		}
	}
	for _, n := range []int{0, -1, -2, -3, -4, -4000, -4001, -1 << 32, math.MinInt + 1, math.MinInt} {
		requireSame(t, "Rounds without steps", rounds(t, w, n), w)
		requireSame(t, "Rounds without steps", rounds(t, busyWorld(), n), busyWorld())
	}
	if n := flushSteps(8); n != 2 || impl.Rounds(w, 1).Now != 1 || impl.Rounds(w, 2).Now != 1 || impl.Rounds(w, 3).Now != 2 {
		t.Errorf("%d steps of the flush in two rounds", n)
	}
}

func TestRoundsCanBeSplit(t *testing.T) {
	r := rand.New(rand.NewPCG(12, 4))
	worlds := append(middleWorlds(r, 6), waitingWorld())
	for _, w := range worlds {
		for n := 0; n <= 40; n += 4 {
			for _, m := range []int{0, 1, 2, 3, 4, 7, 20, 133} {
				requireSame(t, "two parts", impl.Rounds(impl.Rounds(w, n), m), impl.Rounds(w, n+m))
			}
		}
		for _, x := range [][2]int{{0, 4000}, {4, 3996}, {2000, 2000}, {3996, 3}, {3996, 4}, {4000, 0}} {
			requireSame(t, "two long parts", impl.Rounds(impl.Rounds(w, x[0]), x[1]), impl.Rounds(w, x[0]+x[1]))
		}
		parts := w
		for range 1000 {
			parts = impl.Rounds(parts, 4)
		}
		requireSame(t, "a thousand parts", parts, impl.Rounds(w, 4000))
	}
}

// checkWorkload requires that each operation of the workload was called, took effect and was told once, by its thread and in its order.
func checkWorkload(t *testing.T, l []impl.Queue, log []impl.Ev) {
	t.Helper()
	for thread, q := range l {
		for kind := 1; kind <= 3; kind++ {
			var ops []impl.Op
			for _, e := range log {
				if e.Kind == kind && e.Who == thread {
					ops = append(ops, e.Op)
				}
			}
			if !slices.Equal(ops, q.Ops) {
				t.Errorf("events %d of thread %d: %+v, want %+v", kind, thread, ops, q.Ops)
			}
		}
	}
}

func TestFinish(t *testing.T) {
	r := rand.New(rand.NewPCG(12, 5))
	lists := append(validTodos(), fullTodo())
	for range 15 {
		lists = append(lists, anyTodo(r), busyTodo(r))
	}
	for _, l := range lists {
		for _, picks := range [][]int{nil, turns(50), anyPicks(r, 30), anyPicks(r, 500)} {
			w := checkFinish(t, impl.Play(impl.Script{Todo: l, Picks: picks}))
			if !impl.Idle(w) || !impl.WorldOk(w) || w.Cells[1]+w.Cells[2] != 0 || w.Cells[0] != len(l[3].Ops) {
				t.Errorf("at the end: %+v", w)
			}
			checkLog(t, w)
			checkWorkload(t, l, w.Log)
		}
	}
}

// Finish ends with the step after which the world is Idle.
func TestFinishIsRounds(t *testing.T) {
	r := rand.New(rand.NewPCG(12, 6))
	for range 12 {
		w := impl.Play(impl.Script{Todo: busyTodo(r), Picks: anyPicks(r, 60)})
		end := checkFinish(t, w)
		n := 0
		for ; !impl.Idle(impl.Rounds(w, n)); n++ {
			if impl.Rounds(w, n).Now == end.Now {
				t.Fatalf("the last step is not the one that ends: %+v", end)
			}
		}
		for _, m := range []int{n, n + 1, n + 2, n + 3, n + 4, n + 40, 4000} {
			requireSame(t, "Rounds up to the end", impl.Rounds(w, m), end)
		}
	}
}

func TestFinishOfAnyWorlds(t *testing.T) {
	r := rand.New(rand.NewPCG(12, 7))
	for _, w := range middleWorlds(r, 12) {
		checkFinish(t, w)
	}
}

// Worlds that are not Idle after 4000 steps, as the flush waits for a thread that is not in its buffer.
func TestFinishWithoutAnEnd(t *testing.T) {
	// Of the three threads that are said to be inside, two leave.
	for _, w := range []impl.World{waitingWorld(), insideWorld(3, jobAt(3, 13), 3, 0), insideWorld(3, jobAt(3, 13), 1<<48-1, 0)} {
		got := w
		for n := 1; n <= 3; n++ {
			next := checkFinish(t, got)
			requireSame(t, "Finish and Rounds", next, impl.Rounds(got, 4000))
			flushSteps := 1000
			if !got.Jobs[3].Busy {
				flushSteps = 999
			}
			if impl.Idle(next) || next.Jobs[3].Pc != 13 || next.Jobs[3].Steps != got.Jobs[3].Steps+flushSteps || len(next.Todo[0].Ops) != 0 {
				t.Errorf("after 4000 steps: %+v", next.Jobs[3])
			}
			got = next
		}
		// When the thread is gone, the flush ends.
		got.Cells[1], got.Cells[2] = 0, 0
		end := checkFinish(t, got)
		if n := len(impl.Reports(end)) - len(impl.Reports(got)); !impl.Idle(end) || n != 1+len(got.Todo[3].Ops) {
			t.Errorf("%d reports more at the end", n)
		}
	}
	if end := checkFinish(t, insideWorld(3, jobAt(3, 13), 2, 0)); !impl.Idle(end) {
		t.Errorf("the flush did not end: %+v", end.Jobs)
	}
}

// Worlds in which no thread can do a step although there are operations left.
func TestFinishAtTheLastSerialAndMoment(t *testing.T) {
	for thread := range 4 {
		w := emptyWorld(fullTodo())
		w.Serial = 1000000
		requireSame(t, "Finish at MaxSerial", checkFinish(t, w), w)
		requireSame(t, "Rounds at MaxSerial", checkRounds(t, w, 44), w)
		w.Serial = 999998
		if end := checkFinish(t, w); end.Serial != 1000000 || impl.Among(end.Log, 1) != 2 || impl.Among(end.Log, 3) != 2 || impl.Idle(end) {
			t.Errorf("two serials before the last one: %+v", end)
		}
		w = worldAt(thread, jobAt([]int{1, 2, 2, 3}[thread], 11))
		w.Now = 1000000000
		requireSame(t, "Finish at MaxNow", checkFinish(t, w), w)
		requireSame(t, "Rounds at MaxNow", checkRounds(t, w, 44), w)
		w.Now = 1000000000 - 3
		if end := checkFinish(t, w); end.Now != 1000000000 || impl.Idle(end) {
			t.Errorf("three moments before the last one: %+v", end)
		}
	}
}

func TestRoundsAndFinishOfInvalidWorlds(t *testing.T) {
	for _, w := range invalidWorlds() {
		for _, n := range []int{-1, 0, 1, 3, 4, 5, 4000, 4001} {
			requireSame(t, "Rounds of an invalid world", rounds(t, w, n), w)
		}
		requireSame(t, "Finish of an invalid world", finish(t, w), w)
	}
}

// Empty slices may be nil or not, in all places at once.
func TestSchedulesWithNilAndEmptySlices(t *testing.T) {
	r := rand.New(rand.NewPCG(12, 8))
	for _, w := range slices.Concat(middleWorlds(r, 20), someWorlds(), invalidWorlds()) {
		withNil, without := roomyCopy(w), roomyCopy(w)
		emptied(reflect.ValueOf(&withNil).Elem(), true)
		emptied(reflect.ValueOf(&without).Elem(), false)
		for _, other := range []impl.World{withNil, without} {
			for _, n := range []int{0, 5, 90} {
				requireSame(t, "Rounds with other empty slices", impl.Rounds(other, n), impl.Rounds(w, n))
			}
			if differ(impl.Tells(other), impl.Tells(w)) || differ(impl.Reports(other), impl.Reports(w)) || impl.Among(other.Log, 3) != impl.Among(w.Log, 3) {
				t.Errorf("with other empty slices: %+v", w)
			}
		}
		requireSame(t, "Finish with other empty slices", impl.Finish(withNil), impl.Finish(without))
	}
	for _, ops := range [][]impl.Op{nil, {}} {
		l := []impl.Queue{{Ops: ops}, {Ops: []impl.Op{recordOp("a", 1)}}, {Ops: ops}, {Ops: ops}}
		for _, picks := range [][]int{nil, {}} {
			requireSame(t, "Play without picks", impl.Play(impl.Script{Todo: l, Picks: picks}), emptyWorld(l))
		}
		checkPlay(t, l, []int{0, 1, 2, 3, 1, 0})
	}
	for _, l := range [][]impl.Queue{nil, {}} {
		for _, picks := range [][]int{nil, {}, {0}} {
			requireSame(t, "Play of an empty workload", impl.Play(impl.Script{Todo: l, Picks: picks}), impl.World{})
		}
	}
}

// Slices of the argument that share memory must not do so in the result, and no two results share any.
func TestSchedulesOfSharedMemory(t *testing.T) {
	shared := make([]int, 40, 60)
	for i := range shared {
		shared[i] = 3*i + 1
	}
	ops := append(make([]impl.Op, 0, 20), slices.Repeat([]impl.Op{recordOp("a", 5)}, 12)...)
	flushes := append(make([]impl.Op, 0, 20), flushOp(), flushOp())
	w := worldAt(0, jobAt(2, 3))
	rows := append(make([]impl.Row, 0, 9), countRow("a", 3), countRow("b", 4))
	for i := range 3 {
		w.Jobs[i] = jobAt(2, []int{11, 9, 11}[i])
		w.Jobs[i].Keys, w.Jobs[i].Raw = shared[:4], shared[2:34]
		w.Todo[i].Ops = ops[i : i+8]
		w.Log[i].Rows = rows
	}
	w.Todo[3].Ops, w.Log[0].Kind, w.Log[0].Op = flushes, 3, flushOp()
	for _, now := range []int{5, 1000000000, -1} {
		w.Now = now
		k := keep(w)
		k.check(t, "Rounds, Finish, Tells and Reports", impl.Rounds(w, 0), impl.Rounds(w, 30), impl.Finish(w), impl.Finish(w), impl.Tells(w), impl.Tells(w), impl.Reports(w), impl.Reports(w))
		end := impl.Finish(w)
		keep(end).check(t, "what is left", impl.Finish(end), impl.Rounds(end, 9), impl.Tells(end), impl.Reports(end))
	}
	x := impl.Script{Todo: []impl.Queue{{Ops: ops[:9]}, {Ops: ops[2:8]}, {Ops: ops[:3]}, {Ops: flushes}}, Picks: append(make([]int, 0, 700), turns(300)...)}
	k := keep(x)
	k.check(t, "Play", impl.Play(x), impl.Play(x))
	x.Todo = nil
	keep(x).check(t, "Play of nothing", impl.Play(x))
}

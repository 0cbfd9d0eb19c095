package tests

import (
	"math/rand/v2"
	"slices"
	"strconv"
	"testing"

	"loop.example/g01608/impl"
)

// Worlds that steps of all threads in many orders reach. Each step is compared with the oracle of l11_step_test.go.

// stateOf is the world without the things that only count: Now, the log, serials, steps and flips.
func stateOf(w impl.World) string {
	var out []byte
	add := func(numbers ...int) {
		for _, n := range numbers {
			out = strconv.AppendInt(append(out, ' '), int64(n), 36)
		}
	}
	add(w.Cells...)
	for thread, j := range w.Jobs {
		add(len(w.Todo[thread].Ops), j.Pc, j.K, j.Slot, j.What, j.E, j.Stamp, j.Old, j.Code, len(j.Keys))
		add(j.Keys...)
		add(j.Raw...)
		out = strconv.AppendBool(out, j.Busy)
	}
	return string(out)
}

// explore performs the steps of all threads from every world that any schedule reaches, and returns how many these are.
func explore(t *testing.T, start impl.World) int {
	t.Helper()
	seen := map[string]bool{stateOf(start): true}
	open := []impl.World{start}
	for len(open) > 0 && !t.Failed() {
		w := open[len(open)-1]
		open = open[:len(open)-1]
		for thread := range 4 {
			next := compareStep(t, w, thread)
			if state := stateOf(next); !seen[state] {
				seen[state] = true
				open = append(open, next)
			}
		}
	}
	return len(seen)
}

func TestEveryOrderOfSteps(t *testing.T) {
	keyed, _ := keyedCells(t, []string{"a", "e", "b", "c"}, []int{1, 3, 2, 1})
	late := slices.Clone(keyed)
	late[0] = 1<<48 - 1
	for _, x := range []struct {
		cells []int
		todo  []impl.Queue
		least int
	}{
		{make([]int, 71), todoOf(0, []impl.Op{registerOp("a", 1), registerOp("e", 2)}, []impl.Op{registerOp("e", 3)}, []impl.Op{registerOp("a", 1), recordOp("e", 4)}), 1000},
		{keyed, todoOf(0, []impl.Op{recordOp("b", 3)}, []impl.Op{recordOp("b", 4)}, []impl.Op{recordOp("b", 5)}), 4000},
		{keyed, todoOf(0, []impl.Op{recordOp("e", 3), recordOp("e", 3)}, []impl.Op{recordOp("e", 4), registerOp("hits", 3)}), 500},
		{keyed, todoOf(1, []impl.Op{recordOp("a", 3)}, []impl.Op{recordOp("b", 4)}), 9000},
		{late, todoOf(2, []impl.Op{recordOp("b", 3)}, []impl.Op{recordOp("b", 4)}), 9000},
		{late, todoOf(2, []impl.Op{recordOp("e", 3), recordOp("b", 2)}), 4000},
	} {
		w := impl.WorldNew(x.todo)
		w.Cells = x.cells
		if n := explore(t, w); n < x.least {
			t.Fatalf("only %d worlds from %+v", n, x.todo)
		}
	}
}

// seenSince says of a thread's operation which codes were true at some time since its call.
type seenSince map[int]bool

// observe adds what the cells say of the codes of the job's operation now.
func (s seenSince) observe(w impl.World, j impl.Job) {
	if j.Op.Kind == 3 {
		return
	}
	slot, kind := wantFound(w.Cells, j.Op.Key)
	if j.Op.Kind == 1 {
		_, code, _ := wantRegistered(w.Cells, j.Op.Key, j.Op.What)
		s[code] = s[code] || code != 0 || slot >= 0
		return
	}
	s[2] = s[2] || slot < 0
	s[0] = s[0] || slot >= 0
	if slot >= 0 && kind == 3 && j.Pc == 5 && w.Cells[slotAt(j.E, slot)+4] > 2 {
		s[5] = true
	}
}

// checkCodes performs the steps and requires that every code that is given was true by then.
func checkCodes(t *testing.T, w impl.World, picks []int, count map[int]int) {
	t.Helper()
	seen := make([]seenSince, 4)
	for _, thread := range picks {
		next := impl.Step(w, thread)
		if next.Jobs[thread].Busy && !w.Jobs[thread].Busy {
			seen[thread] = seenSince{}
		}
		for i, j := range next.Jobs {
			if j.Busy {
				seen[i].observe(next, j)
			}
		}
		if len(next.Log) > len(w.Log) {
			e := next.Log[len(next.Log)-1]
			if e.Kind == 2 && e.Op.Kind != 3 && !seen[thread][e.Code] {
				t.Fatalf("the code %d of %+v was never true: %+v", e.Code, e, next.Log)
			}
			if point := pointOf(next.Log, e.Serial); e.Kind == 3 && (len(point) != 1 || point[0].Code != e.Code) {
				t.Fatalf("%+v is told of %+v", e, point)
			}
			count[10*e.Op.Kind+e.Code]++
		}
		w = next
	}
}

func pointOf(log []impl.Ev, serial int) []impl.Ev {
	var out []impl.Ev
	for _, e := range log {
		if e.Kind == 2 && e.Serial == serial {
			out = append(out, e)
		}
	}
	return out
}

func anyTodo(r *rand.Rand) []impl.Queue {
	l := todoOf(r.IntN(5))
	for i := range 3 {
		for range 1 + r.IntN(9) {
			key := oneOf(r, "a", "e", "b", "c", "d", "cpu")
			o := recordOp(key, oneOf(r, 0, 1, 7, 65535))
			if r.IntN(3) == 0 {
				o = registerOp(key, oneOf(r, 1, 3, 3, 2))
			}
			l[i].Ops = append(l[i].Ops, o)
		}
	}
	return l
}

func TestCodesWereTrue(t *testing.T) {
	r := rand.New(rand.NewPCG(11, 2))
	count := map[int]int{}
	timers, _ := keyedCells(t, []string{"a", "e", "b"}, []int{3, 3, 3})
	for n := range 300 {
		picks := make([]int, 400)
		for i := range picks {
			picks[i] = oneOf(r, 0, 1, 2, 3, r.IntN(3))
		}
		w := impl.WorldNew(anyTodo(r))
		if n%2 == 0 {
			w.Cells = timers
		}
		checkCodes(t, w, picks, count)
	}
	// Each code of a registration, a record and a flush must have been given.
	for _, code := range []int{10, 13, 14, 20, 22, 25, 30} {
		if count[code] < 50 {
			t.Errorf("the code %d of operation %d is given only %d times", code%10, code/10, count[code])
		}
	}
}

// Many schedules of full workloads, in which all steps are compared.
func TestStepsOfManySchedules(t *testing.T) {
	r := rand.New(rand.NewPCG(11, 3))
	for i := range 40 {
		w := impl.WorldNew(anyTodo(r))
		w.Cells[0] = oneOf(r, 0, 1, 1<<48-2, 1<<48-1)
		for n := 0; n < 1500 && !impl.Idle(w); n++ {
			thread := n % 4
			if i > 5 {
				thread = oneOf(r, 0, 1, 2, 3, i%4)
			}
			w = compareStep(t, w, thread)
		}
		if t.Failed() || !impl.Idle(w) || w.Now < w.Serial*2 {
			t.Fatalf("at the end: %+v", w)
		}
		for thread := range 4 {
			requireUnchanged(t, w, thread)
		}
	}
}

// steps performs so many steps of one thread.
func steps(t *testing.T, w impl.World, thread, n int) impl.World {
	t.Helper()
	for range n {
		w = compareStep(t, w, thread)
	}
	return w
}

// finishThread performs steps until the thread has nothing to do.
func finishThread(t *testing.T, w impl.World, thread int) impl.World {
	t.Helper()
	for n := 0; n < 900 && (w.Jobs[thread].Busy || len(w.Todo[thread].Ops) > 0); n++ {
		w = compareStep(t, w, thread)
	}
	if w.Jobs[thread].Busy {
		t.Fatalf("thread %d does not end: %+v", thread, w.Jobs[thread])
	}
	return w
}

func requirePc(t *testing.T, w impl.World, thread, pc, e, flips int) {
	t.Helper()
	if j := w.Jobs[thread]; !j.Busy || j.Pc != pc || j.E != e || j.Flips != flips {
		t.Fatalf("thread %d at %q with E %d and Flips %d, want %q, %d, %d", thread, impl.PcWord(j.Pc), j.E, j.Flips, impl.PcWord(pc), e, flips)
	}
}

func lastEvent(w impl.World) impl.Ev {
	return w.Log[len(w.Log)-1]
}

// keyedWorld has a counter a, a gauge b and a timer c, and this epoch.
func keyedWorld(t *testing.T, epoch int, l []impl.Queue) impl.World {
	t.Helper()
	w := impl.WorldNew(l)
	w.Cells, _ = keyedCells(t, []string{"a", "b", "c"}, []int{1, 2, 3})
	w.Cells[0] = epoch
	return w
}

// A flush between reading the epoch and reading it again makes the writer leave, be it before or after it enters, and even if the buffer is the same one again.
func TestEpochChangesBeforeTheRecheck(t *testing.T) {
	for _, key := range []string{"a", "b", "c"} {
		for _, epoch := range []int{0, 1, 1<<48 - 2, 1<<48 - 1} {
			for entered := range 2 {
				for _, flushes := range []int{1, 2, 3} {
					w := keyedWorld(t, epoch, todoOf(flushes, []impl.Op{recordOp(key, 9)}))
					w = steps(t, w, 0, 3+entered)
					requirePc(t, w, 0, 3+entered, epoch, 0)
					if entered == 0 {
						w = finishThread(t, w, 3)
					} else {
						// The flush waits for the writer, so there is only one.
						w, flushes = steps(t, w, 3, 5), 1
						requirePc(t, w, 3, 13, epoch, 0)
					}
					now := wrapped(epoch, flushes)
					w = steps(t, w, 0, 1-entered)
					w = steps(t, w, 0, 1)
					requirePc(t, w, 0, 10, epoch, 0)
					w = steps(t, w, 0, 1)
					requirePc(t, w, 0, 2, epoch, 1)
					w = steps(t, w, 0, 3)
					requirePc(t, w, 0, 5, now, 1)
					w = finishThread(t, w, 0)
					if e := lastEvent(w); e.Kind != 3 || e.Code != 0 || e.Flips != 1 || pointOf(w.Log, e.Serial)[0].Win != now {
						t.Errorf("%q in epoch %d after %d flushes: %+v", key, epoch, flushes, w.Log)
					}
					if rows := impl.ReportIn(w.Cells, now&1); len(rows) != 1 || rows[0].Key != key || w.Cells[1] != 0 || w.Cells[2] != 0 {
						t.Errorf("the window %d: %+v, %v", now, rows, w.Cells)
					}
				}
			}
		}
	}
}

// Several flushes make the writer begin anew several times.
func TestEpochChangesAgainAndAgain(t *testing.T) {
	w := keyedWorld(t, 6, todoOf(10, []impl.Op{recordOp("c", 9)}))
	w = steps(t, w, 0, 3)
	for n := range 10 {
		requirePc(t, w, 0, 3, 6+n, n)
		for w.Cells[0] == 6+n || w.Jobs[3].Busy {
			w = steps(t, w, 3, 1)
		}
		w = steps(t, w, 0, 4)
	}
	requirePc(t, w, 0, 3, 16, 10)
	w = finishThread(t, w, 0)
	// The call is no step of the job; then come probe, 11 times epoch, enter and recheck, 10 times leave, and data, store, exit, tell.
	if e := lastEvent(w); e.Flips != 10 || e.Steps != 48 || e.Code != 0 {
		t.Errorf("%+v", e)
	}
	if r := impl.RowIn(w.Cells, 0, 2); r.N != 1 || r.Total != 9 {
		t.Errorf("%+v", r)
	}
}

// A flush after the second reading waits, and the record is in its report.
func TestEpochChangesAfterTheRecheck(t *testing.T) {
	for _, key := range []string{"a", "b", "c"} {
		for _, epoch := range []int{0, 1, 1<<48 - 1} {
			// The states from data to exit, at which the writer is inside.
			for before := range 4 {
				if key == "a" && before > 1 || key == "c" && before > 2 {
					continue
				}
				w := keyedWorld(t, epoch, todoOf(1, []impl.Op{recordOp(key, 9)}, []impl.Op{recordOp(key, 4)}))
				w = steps(t, w, 0, 5)
				requirePc(t, w, 0, 5, epoch, 0)
				w = steps(t, w, 0, before)
				w = steps(t, w, 3, 7)
				requirePc(t, w, 3, 13, epoch, 0)
				if w.Cells[0] != wrapped(epoch, 1) {
					t.Errorf("the epoch after %d: %d", epoch, w.Cells[0])
				}
				// Another writer records in the next window meanwhile.
				w = finishThread(t, w, 1)
				w = finishThread(t, w, 0)
				w = finishThread(t, w, 3)
				e := lastEvent(w)
				if len(e.Rows) != 1 || impl.Quiet(e.Rows[0]) || e.Rows[0].Sum+e.Rows[0].Last+e.Rows[0].Total != 9 {
					t.Errorf("the report of the window %d of %q: %+v", epoch, key, e)
				}
				if rows := impl.ReportIn(w.Cells, 1-epoch&1); len(rows) != 1 || rows[0].Sum+rows[0].Last+rows[0].Total != 4 || !impl.BufClear(w.Cells, epoch&1) {
					t.Errorf("the window after %d of %q: %+v", epoch, key, rows)
				}
			}
		}
	}
}

// Two writers claim one slot: the second one probes again and finds the key, another kind, or another key.
func TestClaimOfASlotThatWasTaken(t *testing.T) {
	for _, x := range []struct {
		second impl.Op
		code   int
		steps  int
		keys   []string
	}{
		{registerOp("a", 1), 0, 4, []string{"a"}},
		{registerOp("a", 2), 4, 4, []string{"a"}},
		{registerOp("e", 2), 0, 6, []string{"a", "e"}},
		{recordOp("a", 5), 0, 7, []string{"a"}},
		{recordOp("e", 5), 2, 3, []string{"a"}},
	} {
		w := impl.WorldNew(todoOf(0, []impl.Op{registerOp("a", 1)}, []impl.Op{x.second}))
		w = steps(t, w, 0, 2)
		if x.second.Kind == 1 {
			w = steps(t, w, 1, 2)
		}
		w = finishThread(t, w, 0)
		w = finishThread(t, w, 1)
		e := lastEvent(w)
		if e.Who != 1 || e.Code != x.code || e.Steps != x.steps || !slices.Equal(impl.KeysIn(w.Cells), x.keys) || !impl.TableOk(w.Cells) {
			t.Errorf("%+v: %+v, %q", x.second, e, impl.KeysIn(w.Cells))
		}
	}
}

// Of two gauges the one with the greater stamp stays, whichever of them is stored first.
func TestGaugesOfTwoWriters(t *testing.T) {
	for first := range 2 {
		w := keyedWorld(t, 0, todoOf(0, []impl.Op{recordOp("b", 1)}, []impl.Op{recordOp("b", 2)}))
		w = steps(t, steps(t, w, 0, 6), 1, 6)
		if w.Jobs[0].Stamp != 1 || w.Jobs[1].Stamp != 2 {
			t.Fatalf("the stamps: %+v", w.Jobs)
		}
		w = finishThread(t, w, first)
		w = finishThread(t, w, 1-first)
		if w.Cells[impl.GaugeCell(0, 1)] != packed(2, 2) || lastEvent(w).Code != 0 {
			t.Errorf("the gauge after thread %d was first: %d", first, w.Cells[impl.GaugeCell(0, 1)])
		}
	}
	// Both look before one of them stores: the other one must look again.
	for first := range 2 {
		w := keyedWorld(t, 0, todoOf(0, []impl.Op{recordOp("b", 1)}, []impl.Op{recordOp("b", 2)}))
		w = steps(t, steps(t, w, 0, 7), 1, 7)
		w = steps(t, steps(t, w, first, 1), 1-first, 1)
		requirePc(t, w, first, 9, 0, 0)
		requirePc(t, w, 1-first, 6, 0, 0)
		w = steps(t, w, 1-first, 1)
		requirePc(t, w, 1-first, []int{7, 9}[first], 0, 0)
		w = finishThread(t, finishThread(t, w, 0), 1)
		if w.Cells[impl.GaugeCell(0, 1)] != packed(2, 2) {
			t.Errorf("the gauge after thread %d was first: %d", first, w.Cells[impl.GaugeCell(0, 1)])
		}
	}
}

// A flush reports what was drained, and the drained buffer is clear; the log has everything of it.
func TestStepsOfAFlush(t *testing.T) {
	w := keyedWorld(t, 4, todoOf(1))
	w.Cells[7], w.Cells[8] = 5, 1<<48-1
	copy(w.Cells[15:], rawSlot(0, 0, 2, packed(2, 77), 0, 0, 0, 0))
	copy(w.Cells[23:], rawSlot(0, 0, 0, 0, 5, 8, 2, 10))
	w.Cells[39] = 6
	w = finishThread(t, w, 3)
	timer := timerOf([]int{7, 1, 9, 0, 0})
	timer.Key = "c"
	want := []impl.Ev{
		{Kind: 1, Who: 3, Serial: 1, At: 1, Op: flushOp(), Win: -1},
		{Kind: 2, Who: 3, Serial: 1, At: 2, Op: flushOp(), Win: 4},
		{Kind: 3, Who: 3, Serial: 1, At: 40, Op: flushOp(), Win: -1, Steps: 39, Rows: []impl.Row{countRow("a", 4), gaugeRow("b", 77), timer}},
	}
	if differ(w.Log, want) || w.Now != 40 || !impl.BufClear(w.Cells, 0) || w.Cells[39] != 6 || w.Cells[0] != 5 {
		t.Errorf("%+v, want the log %+v", w, want)
	}
}

// Operations that run one after another do what the sequential functions do.
func TestOneOperationAfterAnother(t *testing.T) {
	r := rand.New(rand.NewPCG(11, 4))
	for range 60 {
		w := impl.WorldNew(anyTodo(r))
		a := make([]int, 71)
		for !impl.Idle(w) {
			thread := r.IntN(4)
			if len(w.Todo[thread].Ops) == 0 {
				continue
			}
			o, code, rows := w.Todo[thread].Ops[0], 0, []impl.Row(nil)
			switch o.Kind {
			case 1:
				a, _, code = impl.Register(a, o.Key, o.What)
			case 2:
				a, code = impl.RecordNow(a, thread, o.Key, o.Val)
			default:
				a, rows = impl.FlushNow(a)
			}
			w = steps(t, w, thread, 2)
			for w.Jobs[thread].Busy {
				w = steps(t, w, thread, 1)
			}
			if e := lastEvent(w); e.Kind != 3 || e.Op != o || e.Code != code || !slices.Equal(e.Rows, rows) || !slices.Equal(w.Cells, a) {
				t.Fatalf("%+v of thread %d: %+v, want %d, %+v; %v, want %v", o, thread, e, code, rows, w.Cells, a)
			}
		}
	}
}

// The exact numbers of steps of single operations.
func TestStepsAreCounted(t *testing.T) {
	for _, x := range []struct {
		o     impl.Op
		steps int
	}{
		{recordOp("a", 1), 7}, {recordOp("b", 1), 9}, {recordOp("c", 1), 8}, {recordOp("d", 1), 2}, {recordOp("e", 1), 5},
		{registerOp("a", 1), 2}, {registerOp("a", 2), 2}, {registerOp("d", 2), 3}, {registerOp("e", 2), 6},
	} {
		w := keyedWorld(t, 0, todoOf(0, nil, []impl.Op{x.o}))
		w = finishThread(t, w, 1)
		if e := lastEvent(w); e.Steps != x.steps || w.Now != x.steps+1 || e.At != w.Now || e.Serial != 1 || e.Who != 1 {
			t.Errorf("%+v: %+v, %d moments", x.o, e, w.Now)
		}
	}
}

package tests

import (
	"math/rand/v2"
	"strconv"
	"testing"

	"loop.example/g01608/impl"
)

// Promises 12 and 13: what SerialOk and the replay say of schedules.

// requireSerialAt requires promise 12 in this world.
func requireSerialAt(t *testing.T, w impl.World) {
	t.Helper()
	if !impl.SerialOk(w) {
		m, ok := impl.Replay(w.Log)
		t.Fatalf("SerialOk is false: Replay %+v, %v, Strict %v, ModelOf %+v, the log %+v", m, ok, impl.Strict(w.Log), impl.ModelOf(w.Cells), w.Log)
	}
}

// historyOf is stateOf with the order of all events and with their results.
func historyOf(w impl.World) string {
	out := []byte(stateOf(w))
	for _, e := range w.Log {
		for _, n := range []int{e.Kind, e.Serial, e.Who, e.Code, e.Win, len(e.Rows)} {
			out = strconv.AppendInt(append(out, ' '), int64(n), 36)
		}
		for _, r := range e.Rows {
			out = append(out, r.Key...)
			for _, n := range []int{r.Sum, r.Last, r.N, r.Min, r.Max, r.Total, r.Dropped} {
				out = strconv.AppendInt(append(out, ' '), int64(n), 36)
			}
		}
	}
	return string(out)
}

// eachHistory visits each world with each history that any schedule gives it, and returns how many these are.
func eachHistory(t *testing.T, start impl.World, visit func(w impl.World)) int {
	t.Helper()
	seen := map[string]bool{historyOf(start): true}
	open := []impl.World{start}
	for len(open) > 0 && !t.Failed() {
		w := open[len(open)-1]
		open = open[:len(open)-1]
		visit(w)
		for thread := range 4 {
			next := impl.Step(w, thread)
			// While a flush drains a buffer nobody else is in it, so it need not pause; TestSerialOkInEveryState has such pauses.
			for next.Jobs[3].Pc == 15 {
				next = impl.Step(next, 3)
			}
			if name := historyOf(next); !seen[name] {
				seen[name] = true
				open = append(open, next)
			}
		}
	}
	return len(seen)
}

// readyWorld is the world after registrations by thread 0, with this workload ahead.
func readyWorld(t *testing.T, keys []impl.KRow, l []impl.Queue) impl.World {
	t.Helper()
	var ops []impl.Op
	for _, k := range keys {
		ops = append(ops, registerOp(k.Key, k.Kind))
	}
	w := impl.Finish(impl.WorldNew(todoOf(0, ops)))
	w.Todo = l
	return w
}

// Registrations beside records, records of each kind with up to three flushes, and more samples than there is room for.
func TestSerialOkInEveryHistory(t *testing.T) {
	first, second := recordOp("a", 5), recordOp("a", 6)
	for _, x := range []struct {
		keys  []impl.KRow
		todo  []impl.Queue
		least int
	}{
		{nil, todoOf(0, []impl.Op{registerOp("a", 1)}, []impl.Op{registerOp("a", 2)}, []impl.Op{first}), 9000},
		{nil, todoOf(0, []impl.Op{registerOp("a", 1)}, []impl.Op{registerOp("e", 2)}, []impl.Op{recordOp("e", 3)}), 11000},
		{nil, todoOf(1, []impl.Op{registerOp("a", 1), first}), 1500},
		{krows("a", 1), todoOf(1, []impl.Op{first}, []impl.Op{second}), 40000},
		{krows("a", 2), todoOf(1, []impl.Op{first}, []impl.Op{second}), 60000},
		{krows("a", 3), todoOf(1, []impl.Op{first}, []impl.Op{second}), 40000},
		{krows("a", 2), todoOf(0, []impl.Op{first}, []impl.Op{second}, []impl.Op{recordOp("a", 7)}), 80000},
		{krows("a", 3), todoOf(0, []impl.Op{first, first}, []impl.Op{second, second}), 14000},
		{krows("a", 1), todoOf(2, []impl.Op{first, second}), 20000},
		{krows("a", 2), todoOf(3, []impl.Op{first}), 5000},
	} {
		ends := 0
		n := eachHistory(t, readyWorld(t, x.keys, x.todo), func(w impl.World) {
			requireSerialAt(t, w)
			if impl.Idle(w) {
				ends++
				requireReports(t, w, 0)
			}
		})
		if n < x.least || ends < 90 {
			t.Errorf("only %d histories with %d ends of %+v", n, ends, x.todo)
		}
	}
}

// anyStart returns a world at the beginning of a schedule, for some i one that begins shortly before the epoch wraps around.
func anyStart(r *rand.Rand, i int) impl.World {
	l := busyTodo(r)
	if i%3 == 0 {
		l = anyTodo(r)
	}
	w := impl.WorldNew(l)
	if i%4 == 0 {
		w.Cells[0] = 1<<48 - 1 - r.IntN(4)
	}
	return w
}

// Every state of many schedules, also of ones that begin shortly before the epoch wraps around.
func TestSerialOkInEveryState(t *testing.T) {
	r := rand.New(rand.NewPCG(15, 5))
	for i := range 120 {
		w := anyStart(r, i)
		requireSerialAt(t, w)
		for _, thread := range anyPicks(r, oneOf(r, 60, 300, 500)) {
			w = impl.Step(w, thread)
			requireSerialAt(t, w)
		}
		for n := 0; n < 2000 && !impl.Idle(w); n++ {
			w = impl.Step(w, n%4)
			requireSerialAt(t, w)
		}
		if !impl.Idle(w) || !wantSerialOk(w) {
			t.Fatalf("at the end: %+v", w)
		}
	}
}

// requireReports requires promise 13: before each flush of the order, the model has exactly the records of the window that it ends, and so has its report. It counts the reports.
func requireReports(t *testing.T, w impl.World, first int) int {
	t.Helper()
	win, reports := first, 0
	order := impl.Order(w.Log)
	for i, serial := range order {
		point := pointOf(w.Log, serial)[0]
		if point.Op.Kind != 3 {
			continue
		}
		want := windowRows(w.Log, win)
		before, after := impl.ReplayTo(w.Log, i), impl.ReplayTo(w.Log, i+1)
		if point.Win != win || differ(before.Rows, want) || differ(after.Keys, before.Keys) || len(after.Rows) > 0 {
			t.Errorf("the flush of the window %d ends the window %d, with %+v before and %+v after it, want %+v; %+v", win, point.Win, before, after, want, w.Log)
		}
		if told := wantPlace(w.Log, 3, serial); told >= 0 {
			reports++
			if differ(w.Log[told].Rows, want) {
				t.Errorf("the report of the window %d: %+v, want %+v; %+v", win, w.Log[told].Rows, want, w.Log)
			}
		}
		win = wrapped(win, 1)
	}
	m, ok := impl.Replay(w.Log)
	if !ok || differ(m, impl.ReplayTo(w.Log, len(order))) || differ(m.Rows, windowRows(w.Log, win)) {
		t.Errorf("the window %d, not ended yet: %+v, %v, want %+v; %+v", win, m, ok, windowRows(w.Log, win), w.Log)
	}
	if impl.Idle(w) && differ(m, impl.ModelOf(w.Cells)) {
		t.Errorf("at the end: %+v and the cells %v", m, w.Cells)
	}
	return reports
}

func TestReportsHaveTheRecordsOfTheirWindows(t *testing.T) {
	r := rand.New(rand.NewPCG(15, 6))
	reports := 0
	for i := range 200 {
		first := 0
		if i%3 == 0 {
			first = 1<<48 - 1 - r.IntN(4)
		}
		w := impl.WorldNew(busyTodo(r))
		w.Cells[0] = first
		for _, thread := range anyPicks(r, oneOf(r, 100, 300, 500)) {
			w = impl.Step(w, thread)
		}
		requireReports(t, w, first)
		reports += requireReports(t, impl.Finish(w), first)
		if t.Failed() {
			return
		}
	}
	if reports < 500 {
		t.Errorf("only %d reports", reports)
	}
}

// A writer that stops for ever after any of its steps, while all others go on. Once its record has its point it is in the report of its window, though the record itself is never reported.
func TestRecordOfAWriterThatStops(t *testing.T) {
	for kind := 1; kind <= 3; kind++ {
		start := readyWorld(t, krows("a", kind), todoOf(2, []impl.Op{recordOp("a", 5)}, []impl.Op{recordOp("a", 6)}))
		// The call and all steps of the record but its report.
		last := []int{0, 7, 9, 8}[kind]
		for n := 1; n <= last; n++ {
			w := steps(t, start, 0, n)
			for k := range 400 {
				w = impl.Step(w, []int{3, 1, 2}[k%3])
				requireSerialAt(t, w)
			}
			// From its entering to its exit the flush waits for it.
			flushes := 2
			if n >= 4 && n < last {
				flushes = 0
			}
			if got := requireReports(t, w, 0); got != flushes || len(impl.Reports(w)) != flushes || impl.Idle(w) {
				t.Errorf("kind %d after %d steps: %d flushes were told, want %d", kind, n, got, flushes)
			}
			if points := pointOf(w.Log, 2); len(points) > 0 != (n >= 6) || wantPlace(w.Log, 1, 2) < 0 || wantPlace(w.Log, 3, 2) >= 0 {
				t.Errorf("kind %d after %d steps: %+v", kind, n, w.Log)
			}
			if n == last {
				requireTogether(t, w)
			}
		}
	}
}

// requireTogether requires that all reports together with what is not reported yet have 5 and 6, or the latter alone if both set a gauge in one window.
func requireTogether(t *testing.T, w impl.World) {
	t.Helper()
	sum, gauges := 0, 0
	for _, rows := range append(impl.Reports(w), impl.ReportIn(w.Cells, w.Cells[0]&1)) {
		for _, row := range rows {
			sum += row.Sum + row.Total + row.Last
			if row.Set {
				gauges++
			}
		}
	}
	if sum != 11 && (gauges != 1 || sum != 6) {
		t.Errorf("the reports have %d together: %+v", sum, w.Log)
	}
}

// Reports of two windows in which a record is lost, counted twice, in the other window or wrong.
func TestSerialOkOfLostAndDoubledRecords(t *testing.T) {
	for kind := 1; kind <= 3; kind++ {
		w := readyWorld(t, krows("a", kind), todoOf(1, []impl.Op{recordOp("a", 5)}))
		w = finishThread(t, finishThread(t, w, 0), 3)
		w.Todo = todoOf(1, nil, nil, []impl.Op{recordOp("a", 6)})
		w = finishThread(t, finishThread(t, w, 2), 3)
		rowOf := func(list ...int) []impl.Row {
			var m impl.Model
			m, _, _ = impl.ModelDo(m, registerOp("a", kind))
			for _, v := range list {
				m, _, _ = impl.ModelDo(m, recordOp("a", v))
			}
			return m.Rows
		}
		places := []int{wantPlace(w.Log, 3, 3), wantPlace(w.Log, 3, 5)}
		if differ(impl.Reports(w), [][]impl.Row{rowOf(5), rowOf(6)}) || len(w.Log) != places[1]+1 {
			t.Fatalf("the reports of kind %d: %+v", kind, w.Log)
		}
		requireSerial(t, w, true)
		for _, x := range [][2][]int{{{}, {6}}, {{5}, {}}, {{}, {}}, {{5, 6}, {}}, {{}, {5, 6}}, {{}, {6, 5}}, {{6}, {5}}, {{5}, {6, 5}}, {{6, 5}, {6}}, {{5, 6}, {6}}, {{5, 5}, {6, 6}}, {{5}, {5}}, {{6}, {6}}, {{5}, {7}}, {{4}, {6}}} {
			changed := cloneOf(w)
			same := true
			for i, list := range x {
				changed.Log[places[i]].Rows = rowOf(list...)
				same = same && !differ(rowOf(list...), w.Log[places[i]].Rows)
			}
			// A gauge has only the last one.
			if same && kind != 2 {
				t.Errorf("%v is no change", x)
			}
			requireSerial(t, changed, same)
		}
		// What is in the cells at the end, beside the log.
		changed := w
		changed.Cells, _ = impl.RecordNow(w.Cells, 0, "a", 5)
		requireSerial(t, changed, false)
		changed.Cells, _, _ = impl.Register(w.Cells, "b", 1)
		requireSerial(t, changed, false)
		changed.Cells, _ = impl.FlushNow(w.Cells)
		requireSerial(t, changed, true)
	}
}

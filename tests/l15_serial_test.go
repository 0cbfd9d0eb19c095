package tests

import (
	"math"
	"math/rand/v2"
	"reflect"
	"slices"
	"testing"

	"loop.example/g01608/impl"
)

// wantReplay returns the model before the first operation of the order and after each one, and whether all results agree.
func wantReplay(l []impl.Ev) ([]impl.Model, bool) {
	models, agree := []impl.Model{{}}, true
	for i, serial := range wantOrder(l) {
		point := l[wantPlace(l, 2, serial)]
		m, code, rows := wantModelDo(models[i], point.Op)
		models = append(models, m)
		if point.Code != code {
			agree = false
		}
		if told := wantPlace(l, 3, serial); told >= 0 && (l[told].Code != code || differ(l[told].Rows, rows)) {
			agree = false
		}
	}
	return models, agree
}

// wantModelOf reads the keys off the key cells in the order of their numbers, which is not that of the keys.
func wantModelOf(a []int) impl.Model {
	if !wantTableOk(a) {
		return impl.Model{}
	}
	x := tables{map[string]int{}, map[string]impl.Row{}}
	for _, tag := range a[3:7] {
		if tag != 0 {
			key, kind := wantUntagged(tag)
			x.kinds[key] = kind
		}
	}
	m := x.model()
	m.Rows = wantReportIn(a, a[0]&1)
	return m
}

func wantSerialOk(w impl.World) bool {
	models, agree := wantReplay(w.Log)
	if wantIdle(w) {
		agree = agree && wantWorldOk(w) && !differ(models[len(models)-1], wantModelOf(w.Cells))
	}
	return agree && wantStrict(w.Log)
}

// compareReplay compares Replay and ReplayTo, the latter for each number of operations.
func compareReplay(t *testing.T, l []impl.Ev) {
	t.Helper()
	models, agree := wantReplay(l)
	if got, ok := impl.Replay(l); ok != agree || differ(got, models[len(models)-1]) || !impl.ModelOk(got) {
		t.Errorf("Replay of %+v: %+v, %v, want %+v, %v", l, got, ok, models[len(models)-1], agree)
	}
	for n := -2; n < len(models)+2; n++ {
		if got, want := impl.ReplayTo(l, n), models[max(0, min(n, len(models)-1))]; differ(got, want) {
			t.Errorf("ReplayTo of %+v, %d: %+v, want %+v", l, n, got, want)
		}
	}
}

// checkReplay looks also at the argument, at memory that is shared, and at numbers far away.
func checkReplay(t *testing.T, l []impl.Ev) {
	t.Helper()
	arg := roomyCopy(l)
	k := keep(arg)
	compareReplay(t, arg)
	whole, _ := impl.Replay(arg)
	none, all := impl.ReplayTo(arg, math.MinInt), impl.ReplayTo(arg, math.MaxInt)
	again, _ := impl.Replay(arg)
	k.check(t, "Replay and ReplayTo", whole, none, all, again)
	for _, n := range farNumbers() {
		want := impl.Model{}
		if n > 0 {
			want = whole
		}
		if got := impl.ReplayTo(arg, n); differ(got, want) {
			t.Errorf("ReplayTo of %+v, %d: %+v, want %+v", l, n, got, want)
		}
	}
	// A caller that writes into the results changes no later one.
	want := roomyCopy(whole)
	for _, m := range []impl.Model{whole, all, again} {
		clear(m.Keys[:cap(m.Keys)])
		clear(m.Rows[:cap(m.Rows)])
	}
	if got, _ := impl.Replay(arg); differ(got, want) {
		t.Errorf("Replay again: %+v, want %+v", got, want)
	}
}

func requireReplay(t *testing.T, l []impl.Ev, agree bool, want impl.Model) {
	t.Helper()
	checkReplay(t, l)
	requireResult(t, l, agree, want)
}

// requireResult is requireReplay without the comparison with the oracle.
func requireResult(t *testing.T, l []impl.Ev, agree bool, want impl.Model) {
	t.Helper()
	if got, ok := impl.Replay(l); ok != agree || differ(got, want) {
		t.Errorf("Replay of %+v: %+v, %v, want %+v, %v", l, got, ok, want, agree)
	}
}

func checkModelOf(t *testing.T, a []int) impl.Model {
	t.Helper()
	arg := roomyCopy(a)
	k := keep(arg)
	got := impl.ModelOf(arg)
	if want := wantModelOf(a); differ(got, want) || !impl.ModelOk(got) {
		t.Errorf("ModelOf(%v) = %+v, want %+v", a, got, want)
	}
	k.check(t, "ModelOf", got, impl.ModelOf(arg))
	return got
}

func requireModelOf(t *testing.T, a []int, want impl.Model) {
	t.Helper()
	if got := checkModelOf(t, a); differ(got, want) {
		t.Errorf("ModelOf(%v) = %+v, required is %+v", a, got, want)
	}
}

func checkSerial(t *testing.T, w impl.World) bool {
	t.Helper()
	arg := roomyCopy(w)
	k := keep(arg)
	got := impl.SerialOk(arg)
	if want := wantSerialOk(w); got != want {
		t.Errorf("SerialOk(%+v) = %v, want %v", w, got, want)
	}
	k.check(t, "SerialOk")
	return got
}

func requireSerial(t *testing.T, w impl.World, want bool) {
	t.Helper()
	if got := checkSerial(t, w); got != want {
		t.Errorf("SerialOk(%+v) = %v, required is %v", w, got, want)
	}
}

// done is an operation with its results.
type done struct {
	op   impl.Op
	code int
	rows []impl.Row
}

// history is the log of operations that are executed one after another; operation i has the serial i+1.
func history(list ...done) []impl.Ev {
	var l []impl.Ev
	win := 0
	for i, d := range list {
		call := calledAt(i+1, 3*i+1, d.op)
		point, told := call, call
		point.Kind, point.At, point.Code = 2, 3*i+2, d.code
		told.Kind, told.At, told.Code, told.Rows = 3, 3*i+3, d.code, d.rows
		switch {
		case d.op.Kind == 3:
			point.Win = win
			win++
		case d.op.Kind == 2 && d.code != 2:
			point.Win = win
		}
		l = append(l, call, point, told)
	}
	return l
}

// everyResult has operations of each kind with each of their codes.
func everyResult() []impl.Ev {
	return history(
		done{op: recordOp("t", 5), code: 2},
		done{op: registerOp("t", 3)}, done{op: registerOp("t", 3)}, done{op: registerOp("t", 1), code: 4},
		done{op: registerOp("g", 2)}, done{op: registerOp("c", 1)}, done{op: registerOp("a", 1)}, done{op: registerOp("z", 1), code: 3}, done{op: recordOp("z", 1), code: 2},
		done{op: recordOp("t", 7)}, done{op: recordOp("t", 0)}, done{op: recordOp("t", 65535)}, done{op: recordOp("t", 9), code: 5},
		done{op: recordOp("g", 8)}, done{op: recordOp("g", 0)}, done{op: recordOp("c", 5)}, done{op: recordOp("c", 6)}, done{op: recordOp("a", 0)},
		done{op: flushOp(), rows: []impl.Row{countRow("c", 11), gaugeRow("g", 0), timerRowOf("t", 3, 0, 65535, 65542, 1)}},
		done{op: flushOp()},
		done{op: recordOp("t", 9)}, done{op: recordOp("a", 3)},
		done{op: flushOp(), rows: []impl.Row{countRow("a", 3), timerRowOf("t", 1, 9, 9, 9, 0)}},
		done{op: recordOp("g", 4)},
	)
}

func fourKeys() []impl.KRow {
	return krows("a", 1, "c", 1, "g", 2, "t", 3)
}

func TestReplayWrittenOut(t *testing.T) {
	l := everyResult()
	requireReplay(t, l, true, modelOf(fourKeys(), gaugeRow("g", 4)))
	for n, want := range map[int]impl.Model{
		-1: {}, 0: {}, 1: {}, 2: modelOf(krows("t", 3)), 4: modelOf(krows("t", 3)), 5: modelOf(krows("g", 2, "t", 3)), 6: modelOf(krows("c", 1, "g", 2, "t", 3)), 8: modelOf(fourKeys()), 9: modelOf(fourKeys()),
		11: modelOf(fourKeys(), timerRowOf("t", 2, 0, 7, 7, 0)), 13: modelOf(fourKeys(), timerRowOf("t", 3, 0, 65535, 65542, 1)),
		14: modelOf(fourKeys(), gaugeRow("g", 8), timerRowOf("t", 3, 0, 65535, 65542, 1)), 16: modelOf(fourKeys(), countRow("c", 5), gaugeRow("g", 0), timerRowOf("t", 3, 0, 65535, 65542, 1)),
		18: modelOf(fourKeys(), countRow("c", 11), gaugeRow("g", 0), timerRowOf("t", 3, 0, 65535, 65542, 1)),
		19: modelOf(fourKeys()), 20: modelOf(fourKeys()), 21: modelOf(fourKeys(), timerRowOf("t", 1, 9, 9, 9, 0)), 23: modelOf(fourKeys()),
		24: modelOf(fourKeys(), gaugeRow("g", 4)), 25: modelOf(fourKeys(), gaugeRow("g", 4)), 72: modelOf(fourKeys(), gaugeRow("g", 4)), math.MaxInt: modelOf(fourKeys(), gaugeRow("g", 4)), math.MinInt: {},
	} {
		if got := impl.ReplayTo(l, n); differ(got, want) {
			t.Errorf("ReplayTo %d: %+v, want %+v", n, got, want)
		}
	}
	// The first events of the log are a log, too.
	for n := range l {
		checkReplay(t, l[:n])
		if _, ok := impl.Replay(l[:n]); !ok {
			t.Errorf("Replay of the first %d events is false", n)
		}
	}
}

func TestReplayOfNothing(t *testing.T) {
	for _, l := range [][]impl.Ev{
		nil, {}, {{}}, {calledAt(1, 1, registerOp("a", 1))}, {calledAt(1, 1, registerOp("a", 1)), toldAt(1, 2, registerOp("a", 1))},
		{{Kind: 3, Serial: 1, Op: flushOp(), Code: 4, Rows: []impl.Row{countRow("a", 1)}}, {Kind: 0, Serial: 1, Op: registerOp("a", 1)}, {Kind: 4, Serial: 1, Op: registerOp("a", 1)}, {Kind: -2, Serial: 1, Op: registerOp("a", 1)}},
	} {
		requireReplay(t, l, true, impl.Model{})
	}
}

// Each code and each report of a log that agrees, changed by itself. The model is the same: it does not depend on them.
func TestReplayOfWrongResults(t *testing.T) {
	l := everyResult()
	want := modelOf(fourKeys(), gaugeRow("g", 4))
	for i := range l {
		for _, code := range append(farNumbers(), 0, 1, 2, 3, 4, 5, 6, 256, 1<<32) {
			changed := slices.Clone(l)
			changed[i].Code = code
			requireResult(t, changed, l[i].Kind == 1 || code == l[i].Code, want)
		}
		var reports [][]impl.Row
		for _, r := range []impl.Row{{}, countRow("a", 1), timerRowOf("t", 1, 9, 9, 9, 0), gaugeRow("g", 0)} {
			reports = append(reports, append(slices.Clone(l[i].Rows), r), append([]impl.Row{r}, l[i].Rows...))
		}
		reports = append(reports, make([]impl.Row, 4), make([]impl.Row, 5), slices.Repeat([]impl.Row{countRow("a", 1)}, 6))
		if n := len(l[i].Rows); n > 0 {
			backwards := slices.Clone(l[i].Rows)
			slices.Reverse(backwards)
			reports = append(reports, nil, l[i].Rows[:n-1], l[i].Rows[1:], backwards, append(slices.Clone(l[i].Rows), l[i].Rows...))
		}
		for _, rows := range reports {
			changed := slices.Clone(l)
			changed[i].Rows = rows
			requireResult(t, changed, l[i].Kind != 3, want)
		}
		rows := roomyCopy(l[i].Rows)
		eachChange(reflect.ValueOf(&rows).Elem(), "", func(path string) {
			changed := slices.Clone(l)
			changed[i].Rows = rows
			if _, ok := impl.Replay(changed); ok != (l[i].Kind != 3) {
				t.Errorf("Replay with another %s in the report %+v: %v", path, l[i], ok)
			}
		})
	}
	// Both codes of an operation wrong in the same way, and two wrong results that do not make a right one.
	for i := 0; i < len(l); i += 3 {
		changed := slices.Clone(l)
		changed[i+1].Code++
		changed[i+2].Code++
		requireReplay(t, changed, false, want)
		changed[i+1].Code -= 2
		requireReplay(t, changed, false, want)
	}
}

// Everything else in the events does not matter, as long as the order stays.
func TestReplayOfOtherFields(t *testing.T) {
	l := everyResult()
	want := modelOf(fourKeys(), gaugeRow("g", 4))
	for i := range l {
		changed := roomyCopy(l)
		changed[i].Who, changed[i].Steps, changed[i].Flips = 7, -3, 1<<40
		if l[i].Kind != 2 {
			// Only the point's operation is executed, and only its time and window place it.
			changed[i].Op, changed[i].At, changed[i].Win = flushOp(), -9, 2
		}
		requireReplay(t, changed, true, want)
		changed = slices.Delete(slices.Clone(l), i, i+1)
		checkReplay(t, changed)
		if _, ok := impl.Replay(changed); l[i].Kind != 2 && !ok {
			t.Errorf("Replay without %+v is false", l[i])
		}
	}
	// Other serials: they only connect the events.
	renamed := slices.Clone(l)
	for i := range renamed {
		renamed[i].Serial = []int{math.MinInt, math.MaxInt, -1, 0, 5, 7}[renamed[i].Serial%6] ^ renamed[i].Serial/6<<8
	}
	requireReplay(t, renamed, true, want)
	// The reports stand before everything else, or between other events.
	mixed := slices.Clone(l)
	slices.SortStableFunc(mixed, func(a, b impl.Ev) int { return b.Kind - a.Kind })
	requireReplay(t, mixed, true, want)
}

// Of a serial only the first point and the first report count.
func TestReplayOfFirstEvents(t *testing.T) {
	l := everyResult()
	want := modelOf(fourKeys(), gaugeRow("g", 4))
	for i, e := range l {
		if e.Kind == 1 {
			continue
		}
		other := e
		other.Code, other.Op, other.At, other.Rows = 77, registerOp("q", 2), 1, []impl.Row{countRow("c", 1)}
		requireReplay(t, append(slices.Clone(l), other), true, want)
		requireReplay(t, slices.Insert(slices.Clone(l), i+1, other), true, want)
		changed := slices.Insert(slices.Clone(l), i, other)
		checkReplay(t, changed)
		if _, ok := impl.Replay(changed); ok {
			t.Errorf("Replay with %+v first is true", other)
		}
	}
}

// Results that are not reported cannot be wrong: of every operation, of each one, and of every second one.
func TestReplayWithoutReports(t *testing.T) {
	l := everyResult()
	want := modelOf(fourKeys(), gaugeRow("g", 4))
	for skip := range 28 {
		var some []impl.Ev
		for _, e := range l {
			if e.Kind != 3 || skip < 24 && e.Serial != skip+1 || skip >= 26 && e.Serial%2 == skip%2 {
				some = append(some, e)
			}
		}
		requireReplay(t, some, true, want)
	}
}

// A record that has its point but is never told. The report of its window has it nevertheless.
func TestRecordThatWasNeverReported(t *testing.T) {
	for _, x := range []struct {
		kind int
		row  impl.Row
	}{{1, countRow("a", 12)}, {2, gaugeRow("a", 7)}, {3, timerRowOf("a", 2, 5, 7, 12, 0)}} {
		reg, first, second, flush := registerOp("a", x.kind), recordOp("a", 5), recordOp("a", 7), flushOp()
		told := toldAt(4, 20, flush)
		told.Rows = []impl.Row{x.row}
		for _, l := range [][]impl.Ev{
			// Its point comes before the end of the window; after it, before the report; and after the report.
			{pointAt(1, 2, reg, -1), pointAt(2, 3, first, 0), toldAt(2, 4, first), calledAt(3, 5, second), pointAt(3, 6, second, 0), pointAt(4, 7, flush, 0), told},
			{pointAt(1, 2, reg, -1), pointAt(2, 3, first, 0), toldAt(2, 4, first), calledAt(3, 5, second), pointAt(4, 6, flush, 0), pointAt(3, 7, second, 0), told},
			{pointAt(1, 2, reg, -1), pointAt(2, 3, first, 0), toldAt(2, 4, first), calledAt(3, 5, second), pointAt(4, 6, flush, 0), told, pointAt(3, 30, second, 0)},
		} {
			requireReplay(t, l, true, modelOf(krows("a", x.kind)))
			requireSerial(t, impl.World{Log: l, Jobs: []impl.Job{{Busy: true}}}, true)
			// The report of the record changes nothing, if its code is right.
			reported := append(slices.Clone(l), toldAt(3, 40, second))
			requireReplay(t, reported, true, modelOf(krows("a", x.kind)))
			reported[len(l)].Code = 5
			requireReplay(t, reported, false, modelOf(krows("a", x.kind)))
			// Without its point, the record is in no report.
			var without []impl.Ev
			for _, e := range l {
				if e.Kind != 2 || e.Serial != 3 {
					without = append(without, e)
				}
			}
			requireReplay(t, without, false, modelOf(krows("a", x.kind)))
			requireSerial(t, impl.World{Log: without, Jobs: []impl.Job{{Busy: true}}}, false)
		}
		// In the next window it is only in the model.
		row := []impl.Row{countRow("a", 7), gaugeRow("a", 7), timerRowOf("a", 1, 7, 7, 7, 0)}[x.kind-1]
		l := []impl.Ev{pointAt(1, 2, reg, -1), pointAt(4, 6, flush, 0), toldAt(4, 20, flush), pointAt(3, 30, second, 1)}
		requireReplay(t, l, true, modelOf(krows("a", x.kind), row))
		requireReplay(t, l[:3], true, modelOf(krows("a", x.kind)))
		// A point whose code is wrong is wrong without a report, too.
		l[3].Code = 5
		requireReplay(t, l, false, modelOf(krows("a", x.kind), row))
		requireSerial(t, impl.World{Log: l, Jobs: []impl.Job{{Busy: true}}}, false)
	}
}

// Operations that are not valid leave the model as it is, with the code args.
func TestReplayOfInvalidOps(t *testing.T) {
	want := modelOf(krows("a", 1), countRow("a", 5))
	for serial, o := range append(noOps(), []impl.Op{registerOp("a", 4), recordOp("a", 65536), {Kind: 3, Val: 1}}...) {
		l := history(done{op: registerOp("a", 1)}, done{op: recordOp("a", 5)})
		for code := -1; code <= 6; code++ {
			point := impl.Ev{Kind: 2, Serial: serial + 9, At: 90, Op: o, Code: code, Win: -1}
			requireReplay(t, append(l, point), code == 1, want)
			for _, toldCode := range []int{0, 1, 2} {
				told := impl.Ev{Kind: 3, Serial: serial + 9, At: 91, Op: o, Code: toldCode}
				requireReplay(t, append(l, point, told), code == 1 && toldCode == 1, want)
				told.Rows = []impl.Row{countRow("a", 5)}
				requireReplay(t, append(l, point, told), false, want)
			}
		}
	}
}

// The operations are executed in their order, not as they stand in the log.
func TestReplayInOrder(t *testing.T) {
	keys := krows("g", 2, "t", 3)
	start := history(done{op: registerOp("g", 2)}, done{op: registerOp("t", 3)})
	at := func(times ...int) []impl.Ev {
		l := slices.Clone(start)
		for i, n := range times {
			l = append(l, pointAt(10+i, 20+n, recordOp("g", 100+n), 0))
		}
		return l
	}
	requireReplay(t, at(1, 2, 3), true, modelOf(keys, gaugeRow("g", 103)))
	requireReplay(t, at(3, 2, 1), true, modelOf(keys, gaugeRow("g", 103)))
	requireReplay(t, at(2, 3, 1), true, modelOf(keys, gaugeRow("g", 103)))
	// The end of the window stands between the records of both windows, whatever stands last in the log.
	flush := pointAt(3, 50, flushOp(), 0)
	late, next := pointAt(4, 70, recordOp("g", 8), 0), pointAt(5, 60, recordOp("g", 9), 1)
	for _, l := range [][]impl.Ev{{flush, next, late}, {late, next, flush}, {next, flush, late}} {
		requireReplay(t, append(at(1), l...), true, modelOf(keys, gaugeRow("g", 9)))
		if got := impl.ReplayTo(append(at(1), l...), 4); differ(got, modelOf(keys, gaugeRow("g", 8))) {
			t.Errorf("before the end of the window: %+v", got)
		}
	}
	// The sample that is dropped is the one that takes effect last.
	orders([]string{"1", "2", "3", "4"}, func(list []string) {
		for dropped := 1; dropped <= 4; dropped++ {
			l := slices.Clone(start)
			for i, name := range list {
				n, _ := impl.ReadDec(name)
				e := pointAt(10+i, 20+n, recordOp("t", n), 0)
				if n == dropped {
					e.Code = 5
				}
				l = append(l, e)
			}
			compareReplay(t, l)
			if got, ok := impl.Replay(l); ok != (dropped == 4) || differ(got, modelOf(keys, timerRowOf("t", 3, 1, 3, 6, 1))) {
				t.Errorf("Replay of samples at %q with %d dropped: %+v, %v", list, dropped, got, ok)
			}
		}
	})
}

// More samples than a row can count as dropped.
func TestReplayOfALongLog(t *testing.T) {
	const n = 65545
	l := history(done{op: registerOp("a", 3)})
	for i := range n {
		e := pointAt(i+2, i+9, recordOp("a", i%10), 0)
		if i > 2 {
			e.Code = 5
		}
		l = append(l, e)
	}
	told := toldAt(n+2, n+99, flushOp())
	told.Rows = []impl.Row{timerRowOf("a", 3, 0, 2, 3, 65535)}
	l = append(l, pointAt(n+2, n+98, flushOp(), 0), told)
	if m, ok := impl.Replay(l); !ok || differ(m, modelOf(krows("a", 3))) || !impl.SerialOk(impl.World{Log: l, Jobs: []impl.Job{{Busy: true}}}) {
		t.Errorf("Replay of a long log: %+v, %v", m, ok)
	}
	for _, x := range [][2]int{{4, 0}, {5, 1}, {100, 96}, {n, 65535}, {n + 1, 65535}} {
		if m := impl.ReplayTo(l, x[0]); differ(m, modelOf(krows("a", 3), timerRowOf("a", 3, 0, 2, 3, x[1]))) {
			t.Errorf("ReplayTo of a long log, %d: %+v", x[0], m)
		}
	}
	l[len(l)-1].Rows[0].Dropped = 65534
	if _, ok := impl.Replay(l); ok {
		t.Error("Replay of a long log with a wrong report is true")
	}
}

// Every log of up to four points and reports of a registration, a record and a flush.
func TestReplayOfEveryFewEvents(t *testing.T) {
	rows := toldAt(3, 9, flushOp())
	rows.Rows = []impl.Row{countRow("a", 5)}
	noRows, none := toldAt(3, 9, flushOp()), pointAt(2, 4, recordOp("a", 5), -1)
	none.Code = 2
	toldNone := toldAt(2, 9, recordOp("a", 5))
	toldNone.Code = 2
	events := []impl.Ev{
		pointAt(1, 3, registerOp("a", 1), -1), pointAt(2, 4, recordOp("a", 5), 0), none, pointAt(3, 5, flushOp(), 0),
		pointAt(1, 9, registerOp("a", 1), -1), pointAt(3, 1, flushOp(), 0), toldAt(2, 9, recordOp("a", 5)), toldNone, rows, noRows,
	}
	agree := map[bool]int{}
	stringsOver("\x00\x01\x02\x03\x04\x05\x06\x07\x08\x09", 4, func(s string) {
		l := logOf(events, s)
		compareReplay(t, l)
		_, ok := impl.Replay(l)
		agree[ok]++
	})
	if agree[true] < 1000 || agree[false] < 1000 {
		t.Errorf("agree or not: %v", agree)
	}
}

// Logs of schedules with a few changes, and logs of anything.
func TestReplayOfAnyLogs(t *testing.T) {
	r := rand.New(rand.NewPCG(15, 1))
	agree := map[bool]int{}
	for range 1500 {
		w := impl.Finish(impl.Play(impl.Script{Todo: busyTodo(r), Picks: anyPicks(r, r.IntN(300))}))
		l := w.Log[:r.IntN(len(w.Log)+1)]
		for range r.IntN(9) {
			l = changedLog(r, l)
		}
		compareReplay(t, l)
		_, ok := impl.Replay(l)
		agree[ok]++
		w.Log = l
		if want := wantSerialOk(w); impl.SerialOk(w) != want {
			t.Errorf("SerialOk(%+v) = %v", w, !want)
		}
		if t.Failed() {
			return
		}
	}
	if agree[true] < 300 || agree[false] < 300 {
		t.Errorf("agree or not: %v", agree)
	}
	for range 300 {
		checkReplay(t, anyLog(r, r.IntN(20), 9, 30))
	}
	for _, l := range [][]impl.Ev{someEvents(), busyWorld().Log, append(someEvents(), someEvents()...)} {
		checkReplay(t, l)
	}
}

// changedLog changes one event of the log.
func changedLog(r *rand.Rand, l []impl.Ev) []impl.Ev {
	if len(l) == 0 {
		return l
	}
	l = cloneOf(impl.World{Log: l}).Log
	i, j := r.IntN(len(l)), r.IntN(len(l))
	e := &l[i]
	switch r.IntN(9) {
	case 0:
		return slices.Delete(l, i, i+1)
	case 1:
		l[i], l[j] = l[j], l[i]
	case 2:
		return slices.Insert(l, j, l[i])
	case 3:
		e.Code = r.IntN(6)
	case 4:
		e.Serial = l[j].Serial
	case 5:
		e.At, e.Win = l[j].At, l[j].Win
	case 6:
		e.Op = l[j].Op
	case 7:
		e.Rows = l[j].Rows
	case 8:
		e.Kind = 1 + r.IntN(3)
	}
	return cloneOf(impl.World{Log: l}).Log
}

func TestModelOf(t *testing.T) {
	requireModelOf(t, make([]int, 71), impl.Model{})
	// The keys stand in their own order, not in that of their slots, and the rows are those of the epoch's buffer.
	a, _ := keyedCells(t, []string{"q", "a", "hits", "cpu"}, []int{1, 2, 3, 1})
	keys := krows("a", 2, "cpu", 1, "hits", 3, "q", 1)
	requireModelOf(t, a, modelOf(keys))
	slots := map[string]int{}
	for _, key := range []string{"q", "a", "hits", "cpu"} {
		slots[key], _ = impl.FindKey(a, key)
	}
	for b := range 2 {
		copy(a[slotAt(b, slots["q"]):], rawSlot(3+b, 4, 0, 0, 0, 0, 0, 0))
		copy(a[slotAt(b, slots["a"]):], rawSlot(0, 0, 2, packed(2, 9+b), 0, 0, 0, 0))
		copy(a[slotAt(b, slots["hits"]):], rawSlot(0, 0, 0, 0, 4, 6+b, 2, 8))
	}
	for _, epoch := range []int{0, 1, 2, 3, 17, 1 << 32, 1<<48 - 2, 1<<48 - 1} {
		a[0] = epoch
		b := epoch & 1
		requireModelOf(t, a, modelOf(keys, gaugeRow("a", 9+b), timerRowOf("hits", 3, 1, 7, 13+b, 1), countRow("q", 7+b)))
		// The other buffer, and the threads inside, do not matter.
		for i := range 32 {
			requireModelOf(t, stored(a, slotAt(1-b, 0)+i, 12345, true), impl.ModelOf(a))
		}
		requireModelOf(t, stored(stored(a, 1, 7, true), 2, 1<<48-1, true), impl.ModelOf(a))
		cleared := impl.ClearBuf(a, b)
		requireModelOf(t, cleared, modelOf(keys))
	}
	// A row that is quiet is not in the model, but its key is.
	a[slotAt(1, slots["q"])], a[slotAt(1, slots["q"])+1] = 1<<48-5, 5
	requireModelOf(t, a, modelOf(keys, gaugeRow("a", 10), timerRowOf("hits", 3, 1, 7, 14, 1)))
}

// Every table of keys that are registered in any order, with rows in both buffers.
func TestModelOfKeysInEveryOrder(t *testing.T) {
	for _, list := range [][]string{{"a", "e", "i", "q"}, {"d", "hits", "b", "aa"}, {"a_9Z", "Z", "_", "0"}} {
		orders(list, func(keys []string) {
			for n := range 5 {
				a, of := keyedCells(t, keys[:n], []int{1, 2, 3, 1})
				for i := 39; i < 71; i++ {
					a[i] = packed(i, 7*i)
				}
				var want []impl.KRow
				for _, key := range slices.Sorted(slices.Values(keys[:n])) {
					want = append(want, impl.KRow{Key: key, Kind: of[key]})
				}
				requireModelOf(t, a, modelOf(want))
				a[0] = 5
				if m := checkModelOf(t, a); differ(m.Keys, want) {
					t.Errorf("the keys of %q: %+v", keys[:n], m.Keys)
				}
			}
		})
	}
}

// Without a valid table there are no keys and no rows.
func TestModelOfInvalidTables(t *testing.T) {
	a, e, b := wantTagged("a", 1), wantTagged("e", 2), wantTagged("b", 3)
	lists := append(invalidLists(), nil, make([]int, 70), make([]int, 72))
	for _, tags := range [][]int{{0, a}, {b}, {a, 0, e}, {a, a}, {a, e, a}, {a, wantTagged("a", 2)}, {a, 1}, {1}, {a, b, 4}, {a, b, impl.Word - 1}, {a, b, e, 4 * 97}, {0, b, a, a}} {
		lists = append(lists, tableWith(tags...))
	}
	valid := tableWith(a, b, e)
	for i := range valid {
		for _, n := range []int{-1, impl.Word, math.MinInt, math.MaxInt} {
			lists = append(lists, stored(valid, i, n, true))
		}
	}
	lists = append(lists, valid[:70], valid[1:], append(slices.Clone(valid), 0))
	for _, a := range lists {
		requireModelOf(t, a, impl.Model{})
	}
	if m := checkModelOf(t, valid); len(m.Keys) != 3 || len(m.Rows) == 0 {
		t.Errorf("a valid table: %+v", m)
	}
}

func TestModelOfAnyCells(t *testing.T) {
	r := rand.New(rand.NewPCG(15, 2))
	for range 3000 {
		w := anyWorld(r)
		checkModelOf(t, w.Cells)
		tags := []int{wantTagged(oneOf(r, "a", "e"), 1+r.IntN(3)), wantTagged(oneOf(r, "b", "i"), 1+r.IntN(3)), oneOf(r, 0, wantTagged("c", 3), wantTagged("q", 2)), oneOf(r, 0, wantTagged("d", 3))}
		copy(w.Cells[3:7], tags)
		checkModelOf(t, w.Cells)
	}
	for _, w := range append(someWorlds(), invalidWorlds()...) {
		checkModelOf(t, w.Cells)
	}
}

// endOf returns a world at the end of these operations, which one thread each executes.
func endOf(t *testing.T, l []impl.Queue) impl.World {
	t.Helper()
	w := impl.Finish(impl.WorldNew(l))
	if !impl.Idle(w) {
		t.Fatalf("not at the end: %+v", w)
	}
	return w
}

func smallEnd(t *testing.T) impl.World {
	t.Helper()
	return endOf(t, todoOf(1, []impl.Op{registerOp("a", 1), recordOp("a", 5), recordOp("a", 6)}, []impl.Op{registerOp("b", 2), recordOp("b", 9)}))
}

func TestSerialOk(t *testing.T) {
	busy := []impl.Job{{Busy: true}}
	right, wrong := everyResult(), everyResult()
	wrong[1].Code = 0
	notStrict := []impl.Ev{calledAt(1, 1, registerOp("a", 1)), pointAt(1, 7, registerOp("a", 1), -1), toldAt(1, 8, registerOp("a", 1)), calledAt(2, 9, registerOp("a", 1)), pointAt(2, 6, registerOp("a", 1), -1)}
	requireReplay(t, notStrict, true, modelOf(krows("a", 1)))
	// Not Idle: only the log counts.
	requireSerial(t, impl.World{Jobs: busy}, true)
	requireSerial(t, impl.World{Log: right, Jobs: busy}, true)
	requireSerial(t, impl.World{Log: wrong, Jobs: busy}, false)
	requireSerial(t, impl.World{Log: notStrict, Jobs: busy}, false)
	requireSerial(t, impl.World{Log: right, Todo: todoOf(1)}, true)
	requireSerial(t, impl.World{Log: right, Todo: []impl.Queue{{}, {Ops: []impl.Op{{Kind: 9}}}}}, true)
	// Idle: the world must be valid, and the cells must have the model.
	requireSerial(t, impl.World{}, false)
	requireSerial(t, impl.World{Log: right}, false)
	requireSerial(t, emptyWorld(todoOf(0)), true)
	w := emptyWorld(todoOf(0))
	w.Log = right
	requireSerial(t, w, false)
	w.Cells, _ = keyedCells(t, []string{"t", "g", "c", "a"}, []int{3, 2, 1, 1})
	w.Cells[0] = 3
	requireSerial(t, w, false)
	slot, _ := impl.FindKey(w.Cells, "g")
	w.Cells[slotAt(3, slot)+3] = packed(1, 4)
	requireSerial(t, w, true)
	w.Log = wrong
	requireSerial(t, w, false)
	w.Log = append(slices.Clone(right), toldAt(99, 1, flushOp()), calledAt(1, 1, flushOp()))
	requireSerial(t, w, true)
	w.Log = append(slices.Clone(right), calledAt(98, 1, flushOp()), pointAt(98, 0, recordOp("g", 1), 2))
	requireSerial(t, w, false)
	// The same keys and rows with an operation that precedes one before it.
	w = emptyWorld(todoOf(0))
	w.Log = notStrict
	w.Cells, _ = keyedCells(t, []string{"a"}, []int{1})
	requireSerial(t, w, false)
	w.Log = notStrict[:4]
	requireSerial(t, w, true)
}

// Each thing in a world at its end changed by itself.
func TestSerialOkOfChangedWorlds(t *testing.T) {
	for _, base := range []impl.World{smallEnd(t), endOf(t, todoOf(2, []impl.Op{registerOp("t", 3), recordOp("t", 5), recordOp("t", 6)})), emptyWorld(todoOf(0))} {
		requireSerial(t, base, true)
		w := roomyCopy(base)
		count := map[bool]int{}
		eachChange(reflect.ValueOf(&w).Elem(), "", func(path string) {
			got, want := impl.SerialOk(w), wantSerialOk(w)
			if got != want {
				t.Errorf("SerialOk with another %s of %+v: %v, want %v", path, base, got, want)
			}
			count[want]++
		})
		if count[false] < 100 || len(base.Log) > 0 && count[true] < 100 {
			t.Errorf("true or false: %v", count)
		}
	}
	// In the midst of operations.
	r := rand.New(rand.NewPCG(15, 3))
	for range 6 {
		w := impl.Play(impl.Script{Todo: busyTodo(r), Picks: anyPicks(r, 90)})
		requireSerial(t, w, true)
		eachChange(reflect.ValueOf(&w).Elem(), "", func(path string) {
			if want := wantSerialOk(w); impl.SerialOk(w) != want {
				t.Errorf("SerialOk with another %s of %+v: %v", path, w, !want)
			}
		})
	}
}

// A valid world at its end whose cells have another model than the log.
func TestSerialOkOfOtherCells(t *testing.T) {
	w := smallEnd(t)
	b := w.Cells[0] & 1
	slot, _ := impl.FindKey(w.Cells, "a")
	for _, x := range []struct {
		cell, n int
		want    bool
	}{
		// The stripes may have another share of the sum, and what is not of the key's kind does not count.
		{slotAt(b, slot), w.Cells[slotAt(b, slot)] + 1, false}, {slotAt(b, slot) + 1, w.Cells[slotAt(b, slot)+1] + 1, false}, {slotAt(b, slot) + 2, 9, true}, {slotAt(b, slot) + 4, 9, true},
		{slotAt(b, 3), 9, true}, {slotAt(1-b, slot), 9, true}, {0, w.Cells[0] + 2, true}, {0, w.Cells[0] + 1, false}, {1, 9, true}, {2, 1<<48 - 1, true}, {3, -1, false}, {70, impl.Word, false},
		{6, wantTagged("d", 1), false}, {6, 5, false}, {3 + slot, 0, false}, {3 + slot, wantTagged("a", 3), false}, {3 + slot, wantTagged("e", 1), false},
	} {
		changed := w
		changed.Cells = stored(w.Cells, x.cell, x.n, true)
		requireSerial(t, changed, x.want)
		// Not at its end, the cells do not matter.
		changed.Todo = todoOf(1)
		requireSerial(t, changed, true)
	}
}

func TestSerialOkOfAnyWorlds(t *testing.T) {
	r := rand.New(rand.NewPCG(15, 4))
	for range 400 {
		checkSerial(t, anyWorld(r))
	}
	for _, w := range slices.Concat(someWorlds(), invalidWorlds(), middleWorlds(r, 12), []impl.World{busyWorld(), waitingWorld()}) {
		checkSerial(t, w)
		w.Log = everyResult()
		checkSerial(t, w)
		w.Log = nil
		checkSerial(t, w)
	}
	// An invalid world that is Idle is refused whatever its log.
	for _, w := range invalidWorlds() {
		for _, l := range [][]impl.Ev{nil, everyResult()} {
			w.Log = l
			requireSerial(t, w, !impl.Idle(w))
		}
	}
}

// Empty slices may be nil or not.
func TestSerialWithNilAndEmptySlices(t *testing.T) {
	for _, w := range []impl.World{smallEnd(t), endOf(t, todoOf(2, []impl.Op{registerOp("t", 3)})), emptyWorld(todoOf(0))} {
		for _, asNil := range []bool{true, false} {
			other := roomyCopy(w)
			emptied(reflect.ValueOf(&other).Elem(), asNil)
			requireSerial(t, other, true)
			m, ok := impl.Replay(other.Log)
			if want, _ := impl.Replay(w.Log); !ok || !impl.SameModel(m, want) || !impl.SameModel(m, impl.ModelOf(other.Cells)) {
				t.Errorf("Replay with other empty slices: %+v, %v", m, ok)
			}
		}
	}
}

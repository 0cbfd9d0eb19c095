package tests

import (
	"math"
	"math/big"
	"math/rand/v2"
	"reflect"
	"slices"
	"testing"

	"loop.example/g01608/impl"
)

// wantValues returns the values of the records of each key that have a point with this code.
func wantValues(l []impl.Ev, code int) map[string][]int {
	values := map[string][]int{}
	for _, e := range l {
		isPoint, isRecord := e.Kind == 2, e.Op.Kind == 2
		if isPoint && isRecord && e.Code == code {
			values[e.Op.Key] = append(values[e.Op.Key], e.Op.Val)
		}
	}
	return values
}

// wantSum adds without wrapping around.
func wantSum(l []impl.Ev, key string) int {
	total := new(big.Int)
	for _, v := range wantValues(l, 0)[key] {
		total.Add(total, big.NewInt(int64(v)))
	}
	return int(total.Mod(total, big.NewInt(impl.Word)).Int64())
}

func wantSamples(l []impl.Ev, key string) []int {
	return slices.Sorted(slices.Values(wantValues(l, 0)[key]))
}

func wantCodes(l []impl.Ev, code int) int {
	count := map[int]int{}
	for _, e := range l {
		if e.Kind == 3 {
			count[e.Code]++
		}
	}
	return count[code]
}

func wantTotal(rs [][]impl.Row, key string) impl.Row {
	var total impl.Row
	for _, r := range slices.Concat(rs...) {
		if r.Key == key {
			total = wantMerged(total, r)
		}
	}
	return total
}

func wantConserved(w impl.World) bool {
	if !wantWorldOk(w) || !wantIdle(w) {
		return false
	}
	var rs [][]impl.Row
	for _, e := range w.Log {
		if e.Kind == 3 && e.Op.Kind == 3 {
			rs = append(rs, e.Rows)
		}
	}
	rs = append(rs, wantReportIn(w.Cells, w.Cells[0]&1))
	for _, tag := range w.Cells[3:7] {
		key, kind := wantUntagged(tag)
		row, samples := wantTotal(rs, key), wantSamples(w.Log, key)
		if kind == 1 && row.Sum != wantSum(w.Log, key) {
			return false
		}
		if kind != 3 {
			continue
		}
		want := impl.Row{N: len(samples), Min: row.Min, Max: row.Max, Dropped: len(wantValues(w.Log, 5)[key])}
		if len(samples) > 0 {
			want.Min, want.Max = slices.Min(samples), slices.Max(samples)
		}
		for _, v := range samples {
			want.Total += v
		}
		if (impl.Row{N: row.N, Min: row.Min, Max: row.Max, Total: row.Total, Dropped: row.Dropped}) != want {
			return false
		}
	}
	return true
}

// compareTotals compares what is read off a log, for its keys and others.
func compareTotals(t *testing.T, l []impl.Ev, keys ...string) {
	t.Helper()
	for _, e := range l {
		keys = append(keys, e.Op.Key)
	}
	slices.Sort(keys)
	for _, key := range slices.Compact(append(keys, "\x00")) {
		if got, want := impl.SumOf(l, key), wantSum(l, key); got != want {
			t.Errorf("SumOf(%+v, %q) = %d, want %d", l, key, got, want)
		}
		if got, want := impl.SamplesOf(l, key), wantSamples(l, key); !slices.Equal(got, want) {
			t.Errorf("SamplesOf(%+v, %q) = %v, want %v", l, key, got, want)
		}
	}
	for _, code := range append(farNumbers(), 0, 1, 2, 3, 4, 5, 6, 1<<32) {
		if got, want := impl.CodesIn(l, code), wantCodes(l, code); got != want {
			t.Errorf("CodesIn(%+v, %d) = %d, want %d", l, code, got, want)
		}
	}
}

// checkTotals looks also at the argument and at memory that is shared.
func checkTotals(t *testing.T, l []impl.Ev, keys ...string) {
	t.Helper()
	arg := roomyCopy(l)
	k := keep(arg)
	compareTotals(t, arg, append([]string{"", "a", "b", "t"}, keys...)...)
	samples := impl.SamplesOf(arg, "a")
	k.check(t, "SumOf, SamplesOf and CodesIn", samples, impl.SamplesOf(arg, "a"), impl.SamplesOf(arg, "t"))
	clear(samples[:cap(samples)])
	if got := impl.SamplesOf(arg, "a"); !slices.Equal(got, wantSamples(l, "a")) {
		t.Errorf("SamplesOf again: %v", got)
	}
}

func requireTotals(t *testing.T, l []impl.Ev, key string, sum int, samples ...int) {
	t.Helper()
	checkTotals(t, l, key)
	if got, list := impl.SumOf(l, key), impl.SamplesOf(l, key); got != sum || !slices.Equal(list, samples) {
		t.Errorf("the totals of %q: %d, %v, want %d, %v", key, got, list, sum, samples)
	}
}

func checkTotalIn(t *testing.T, rs [][]impl.Row, key string) {
	t.Helper()
	requireTotalIn(t, rs, key, wantTotal(rs, key))
}

func requireTotalIn(t *testing.T, rs [][]impl.Row, key string, want impl.Row) {
	t.Helper()
	arg := roomyCopy(rs)
	k := keep(arg)
	if got := impl.TotalIn(arg, key); got != want {
		t.Errorf("TotalIn(%+v, %q) = %+v, want %+v", rs, key, got, want)
	}
	k.check(t, "TotalIn")
}

func checkConserved(t *testing.T, w impl.World) bool {
	t.Helper()
	arg := roomyCopy(w)
	k := keep(arg)
	got := impl.Conserved(arg)
	if want := wantConserved(w); got != want {
		t.Errorf("Conserved(%+v) = %v, want %v", w, got, want)
	}
	k.check(t, "Conserved")
	return got
}

func requireConserved(t *testing.T, w impl.World, want bool) {
	t.Helper()
	if got := checkConserved(t, w); got != want {
		t.Errorf("Conserved(%+v) = %v, required is %v", w, got, want)
	}
}

func TestTotalsWrittenOut(t *testing.T) {
	l := everyResult()
	// The sample with the code dropped is in no total, and neither is a record of a key that is not there.
	requireTotals(t, l, "t", 65551, 0, 7, 9, 65535)
	requireTotals(t, l, "g", 12, 0, 4, 8)
	requireTotals(t, l, "c", 11, 5, 6)
	requireTotals(t, l, "a", 3, 0, 3)
	for _, key := range []string{"z", "", "tt", "T", "t ", "hits5", "\xff"} {
		requireTotals(t, l, key, 0)
	}
	for code, n := range []int{19, 0, 2, 1, 1, 1, 0} {
		if got := impl.CodesIn(l, code); got != n {
			t.Errorf("%d reports with the code %d, want %d", got, code, n)
		}
	}
	requireTotals(t, nil, "a", 0)
	requireTotals(t, []impl.Ev{}, "", 0)
	requireTotals(t, []impl.Ev{{}}, "", 0)
	if impl.CodesIn(nil, 0) != 0 || impl.CodesIn([]impl.Ev{{}}, 0) != 0 || impl.CodesIn([]impl.Ev{{Kind: 3}, {Kind: 3, Code: -7}}, -7) != 1 {
		t.Error("reports of no operation")
	}
	for n := range l {
		checkTotals(t, l[:n])
		checkTotals(t, l[n:])
	}
}

// A point counts if it is that of a record with the code ok, and by nothing else.
func TestTotalsOfEachField(t *testing.T) {
	l := history(done{op: registerOp("a", 1)}, done{op: recordOp("a", 5)}, done{op: recordOp("b", 9)}, done{op: recordOp("a", 7)}, done{op: flushOp()})
	requireTotals(t, l, "a", 12, 5, 7)
	for i, e := range l {
		isPoint := i == 4
		for _, x := range []struct {
			change  func(e *impl.Ev)
			counted bool
		}{
			{func(e *impl.Ev) { e.Kind = 1 }, false}, {func(e *impl.Ev) { e.Kind = 3 }, false}, {func(e *impl.Ev) { e.Kind = 0 }, false}, {func(e *impl.Ev) { e.Kind = -2 }, false},
			{func(e *impl.Ev) { e.Op.Kind = 1 }, false}, {func(e *impl.Ev) { e.Op.Kind = 3 }, false}, {func(e *impl.Ev) { e.Op.Kind = 0 }, false},
			{func(e *impl.Ev) { e.Op.Key = "b" }, false}, {func(e *impl.Ev) { e.Op.Key = "ab" }, false}, {func(e *impl.Ev) { e.Op.Key = "" }, false},
			{func(e *impl.Ev) { e.Code = 5 }, false}, {func(e *impl.Ev) { e.Code = 1 }, false}, {func(e *impl.Ev) { e.Code = -1 }, false}, {func(e *impl.Ev) { e.Code = 1 << 32 }, false},
			{func(e *impl.Ev) { e.Serial, e.At, e.Who = -4, math.MinInt, 99 }, true}, {func(e *impl.Ev) { e.Serial = 4 }, true}, {func(e *impl.Ev) { e.Serial = 2 }, true}, {func(e *impl.Ev) { e.Win = -1 }, true}, {func(e *impl.Ev) { e.Op.What = 3 }, true},
			{func(e *impl.Ev) { e.Steps, e.Flips, e.Rows = 7, 7, []impl.Row{countRow("a", 1)} }, true},
		} {
			changed := slices.Clone(l)
			x.change(&changed[i])
			checkTotals(t, changed)
			if isPoint && x.counted {
				requireTotals(t, changed, "a", 12, 5, 7)
			} else if isPoint {
				requireTotals(t, changed, "a", 7, 7)
			}
		}
		changed := roomyCopy(l)
		eachChange(reflect.ValueOf(&changed[i]).Elem(), "", func(path string) { compareTotals(t, changed, "a") })
		// Every point counts, also several of one serial, and also without a call and a report.
		twice := slices.Insert(slices.Clone(l), i, e)
		checkTotals(t, twice)
		if isPoint {
			requireTotals(t, twice, "a", 17, 5, 5, 7)
		}
	}
	requireTotals(t, []impl.Ev{l[4]}, "a", 5, 5)
}

// Sums modulo Word, which are never negative, and samples of any size, which are not changed.
func TestTotalsOfFarNumbers(t *testing.T) {
	of := func(values ...int) []impl.Ev {
		var l []impl.Ev
		for i, v := range values {
			l = append(l, pointAt(i, i, recordOp("a", v), 0))
		}
		return l
	}
	requireTotals(t, of(1<<48-1), "a", 1<<48-1, 1<<48-1)
	requireTotals(t, of(1<<48), "a", 0, 1<<48)
	requireTotals(t, of(1, 1<<48-1), "a", 0, 1, 1<<48-1)
	requireTotals(t, of(1<<48-1, 1<<48-1), "a", 1<<48-2, 1<<48-1, 1<<48-1)
	requireTotals(t, of(-1), "a", 1<<48-1, -1)
	requireTotals(t, of(3, -5), "a", 1<<48-2, -5, 3)
	requireTotals(t, of(math.MaxInt, 1), "a", 0, 1, math.MaxInt)
	requireTotals(t, of(math.MinInt, -1, math.MaxInt), "a", 1<<48-2, math.MinInt, -1, math.MaxInt)
	requireTotals(t, of(farNumbers()...), "a", wantSum(of(farNumbers()...), "a"), farNumbers()...)
	requireTotals(t, of(65535, 0, 65535, 0, 3), "a", 131073, 0, 0, 3, 65535, 65535)
	var many []int
	for i := range 70000 {
		many = append(many, 65535-i%65536)
	}
	if l := of(many...); impl.SumOf(l, "a") != wantSum(l, "a") || !slices.Equal(impl.SamplesOf(l, "a"), slices.Sorted(slices.Values(many))) {
		t.Error("many records")
	}
}

// Every order of a few samples gives the same totals.
func TestTotalsInEveryOrder(t *testing.T) {
	orders([]string{"9", "0", "30", "9", "4"}, func(list []string) {
		var l []impl.Ev
		for i, name := range list {
			v, _ := impl.ReadDec(name)
			l = append(l, pointAt(i+1, i, recordOp("a", v), i%2), pointAt(i+9, i, recordOp("b", 1), 0))
		}
		if impl.SumOf(l, "a") != 52 || !slices.Equal(impl.SamplesOf(l, "a"), []int{0, 4, 9, 9, 30}) {
			t.Errorf("samples in the order %q: %v", list, impl.SamplesOf(l, "a"))
		}
	})
}

func TestTotalsOfAnyLogs(t *testing.T) {
	r := rand.New(rand.NewPCG(16, 1))
	for range 800 {
		checkTotals(t, anyLog(r, r.IntN(25), 1+r.IntN(9), 30))
	}
	for _, l := range [][]impl.Ev{someEvents(), busyWorld().Log, append(someEvents(), someEvents()...)} {
		checkTotals(t, l)
	}
	// Each report has one code.
	for range 60 {
		l := impl.Play(impl.Script{Todo: busyTodo(r), Picks: anyPicks(r, 400)}).Log
		checkTotals(t, l)
		n := 0
		for code := range 6 {
			n += impl.CodesIn(l, code)
		}
		if n != impl.Among(l, 3) || n == 0 || impl.CodesIn(l, 1) != 0 {
			t.Errorf("%d reports with a code among %d", n, impl.Among(l, 3))
		}
	}
}

func TestTotalIn(t *testing.T) {
	a, g := countRow("a", 4), gaugeRow("g", 9)
	rs := [][]impl.Row{{a, g, timerRow(2, 3, 9, 12, 0)}, {}, {gaugeRow("g", 0)}, {countRow("a", 1<<48-1), timerRow(3, 1, 5, 8, 7)}, nil, {timerRow(1, 4, 4, 4, 0)}}
	requireTotalIn(t, rs, "a", countRow("a", 3))
	requireTotalIn(t, rs, "g", gaugeRow("g", 0))
	requireTotalIn(t, rs, "t", timerRow(6, 1, 9, 24, 7))
	for _, key := range []string{"", "b", "aa", "A", "a ", "tt"} {
		requireTotalIn(t, rs, key, impl.Row{})
	}
	for n := range rs {
		for _, key := range []string{"a", "g", "t", "b", ""} {
			checkTotalIn(t, rs[:n], key)
			checkTotalIn(t, rs[n:], key)
		}
	}
	requireTotalIn(t, nil, "a", impl.Row{})
	requireTotalIn(t, [][]impl.Row{{}, nil}, "a", impl.Row{})
	requireTotalIn(t, [][]impl.Row{{g, a}}, "a", a)
	// One report may have several rows of the key, in any order and anywhere.
	requireTotalIn(t, [][]impl.Row{{g, a, a}, {a, g, a}}, "a", countRow("a", 16))
	// A single row is not changed, though it is no sum modulo Word, or not valid at all.
	for _, r := range append(invalidRows(), countRow("a", 1<<48+5), countRow("a", -1)) {
		requireTotalIn(t, [][]impl.Row{{}, {r}}, r.Key, r)
	}
	// The first row of the key that is not the zero row gives the kind; rows of another kind do not count.
	other := impl.Row{Key: "a", Kind: 2, Sum: 100, N: 5}
	requireTotalIn(t, [][]impl.Row{{a, other}, {other, a}}, "a", countRow("a", 8))
	requireTotalIn(t, [][]impl.Row{{other, a}, {a}}, "a", other)
	requireTotalIn(t, [][]impl.Row{{{}, {}}, {{Kind: 1, Sum: 5}, {}, {Kind: 1, Sum: 6}, {Kind: 2, Sum: 7}}}, "", impl.Row{Kind: 1, Sum: 11})
}

func TestTotalInOfAnyReports(t *testing.T) {
	r := rand.New(rand.NewPCG(16, 2))
	rows := slices.Concat(validRows(), invalidRows(), []impl.Row{{}, countRow("a", 1), countRow("b", 1<<48-1), gaugeRow("a", 7), timerRowOf("a", 2, 1, 5, 6, 0)})
	for range 2000 {
		rs := make([][]impl.Row, r.IntN(5))
		for i := range rs {
			for range r.IntN(5) {
				rs[i] = append(rs[i], oneOf(r, rows...))
			}
		}
		for _, row := range append(slices.Concat(rs...), impl.Row{}, countRow("a", 0)) {
			checkTotalIn(t, rs, row.Key)
		}
	}
}

// keyOps registers the key, and then records these values.
func keyOps(key string, kind int, values ...int) []impl.Op {
	ops := []impl.Op{registerOp(key, kind)}
	for _, v := range values {
		ops = append(ops, recordOp(key, v))
	}
	return ops
}

// A key without records is conserved, be it alone or beside others, without a flush and with some.
func TestConservedOfAKeyWithoutRecords(t *testing.T) {
	for kind := 1; kind <= 3; kind++ {
		for flushes := range 4 {
			requireConserved(t, endOf(t, todoOf(flushes, keyOps("a", kind))), true)
			for other := 1; other <= 3; other++ {
				w := endOf(t, todoOf(flushes, keyOps("a", kind), keyOps("e", other, 5, 6)))
				requireConserved(t, w, true)
				requireTotalIn(t, impl.Reports(w), "a", impl.Row{})
				requireTotals(t, w.Log, "a", 0)
				// A record in the log that is in no report.
				point := pointAt(99, 99, recordOp("a", 5), 0)
				w.Log = append(w.Log, point)
				requireConserved(t, w, kind == 2)
				w.Log[len(w.Log)-1].Code = 5
				requireConserved(t, w, kind != 3)
				w.Log[len(w.Log)-1].Code = 2
				requireConserved(t, w, true)
			}
			// A record in the cells that is not in the log.
			w := endOf(t, todoOf(flushes, keyOps("a", kind)))
			w.Cells, _ = impl.RecordNow(w.Cells, 0, "a", 5)
			requireConserved(t, w, kind == 2)
		}
	}
	// The record of a key that is registered only afterwards is not accepted.
	w := finishThread(t, impl.WorldNew(todoOf(1, []impl.Op{recordOp("a", 5)}, keyOps("a", 3))), 0)
	w = impl.Finish(w)
	requireTotals(t, w.Log, "a", 0)
	requireConserved(t, w, true)
	// Without any key nothing can be lost.
	requireConserved(t, emptyWorld(todoOf(0)), true)
	w = emptyWorld(todoOf(0))
	w.Log = everyResult()
	requireConserved(t, w, true)
}

// A counter's records of 0 give no row, yet nothing is lost.
func TestConservedOfRecordsOf0(t *testing.T) {
	for kind := 1; kind <= 3; kind++ {
		w := endOf(t, todoOf(1, keyOps("a", kind, 0, 0)))
		requireConserved(t, w, true)
		requireTotals(t, w.Log, "a", 0, 0, 0)
		if kind == 1 {
			requireTotalIn(t, append(impl.Reports(w), impl.ReportIn(w.Cells, w.Cells[0]&1)), "a", impl.Row{})
		}
	}
}

// readyEnd has two reports and a third window of a counter, a gauge and a timer with samples that were dropped.
func readyEnd(t *testing.T) impl.World {
	t.Helper()
	w := readyWorld(t, krows("a", 1, "b", 2, "t", 3), todoOf(0))
	for i, values := range [][]int{{5, 9, 7, 8, 6}, {3}, {20, 4}} {
		w.Todo[i%3].Ops = nil
		for _, v := range values {
			w.Todo[i%3].Ops = append(w.Todo[i%3].Ops, recordOp("t", v))
		}
		w.Todo[i%3].Ops = append(w.Todo[i%3].Ops, recordOp("a", 100+i), recordOp("b", i))
		w = impl.Finish(w)
		if i < 2 {
			w.Todo[3].Ops = []impl.Op{flushOp()}
			w = impl.Finish(w)
		}
	}
	want := [][]impl.Row{{countRow("a", 100), gaugeRow("b", 0), timerRow(3, 5, 9, 21, 2)}, {countRow("a", 101), gaugeRow("b", 1), timerRow(1, 3, 3, 3, 0)}}
	if got := impl.Reports(w); differ(got, want) || differ(impl.ReportIn(w.Cells, 0), []impl.Row{countRow("a", 102), gaugeRow("b", 2), timerRow(2, 4, 20, 24, 0)}) {
		t.Fatalf("the reports %+v of %+v", got, w)
	}
	return w
}

func TestConservedWrittenOut(t *testing.T) {
	w := readyEnd(t)
	requireConserved(t, w, true)
	requireTotals(t, w.Log, "t", 48, 3, 4, 5, 7, 9, 20)
	requireTotals(t, w.Log, "a", 303, 100, 101, 102)
	requireTotals(t, w.Log, "b", 3, 0, 1, 2)
	rs := append(impl.Reports(w), impl.ReportIn(w.Cells, 0))
	requireTotalIn(t, rs, "t", timerRow(6, 3, 20, 48, 2))
	requireTotalIn(t, rs, "a", countRow("a", 303))
	requireTotalIn(t, rs, "b", gaugeRow("b", 2))
	if impl.CodesIn(w.Log, 0) != 17 || impl.CodesIn(w.Log, 5) != 2 {
		t.Errorf("codes: %+v", w.Log)
	}
}

// Each row of each report lost, doubled, moved, and changed in each field.
func TestConservedOfWrongReports(t *testing.T) {
	w := readyEnd(t)
	places := []int{}
	for i, e := range w.Log {
		if e.Kind == 3 && e.Op.Kind == 3 {
			places = append(places, i)
		}
	}
	for i, place := range places {
		rows := w.Log[place].Rows
		set := func(want bool, rows ...impl.Row) {
			t.Helper()
			changed := cloneOf(w)
			changed.Log[place].Rows = rows
			requireConserved(t, changed, want)
		}
		set(false)
		for k, r := range rows {
			isGauge := r.Kind == 2
			set(isGauge, slices.Delete(slices.Clone(rows), k, k+1)...)
			set(isGauge, append(slices.Clone(rows), r)...)
			changed := cloneOf(w)
			other := &changed.Log[places[1-i]].Rows
			*other = append(*other, r)
			requireConserved(t, changed, isGauge)
			// In the other report instead of in this one, nothing is lost.
			changed.Log[place].Rows = slices.Delete(changed.Log[place].Rows, k, k+1)
			requireConserved(t, changed, true)
			for _, f := range rowFields() {
				for _, d := range []int{-1, 1} {
					one := slices.Clone(rows)
					*f.at(&one[k]) += d
					want := f.kind != r.Kind || isGauge
					if f.name == "Min" || f.name == "Max" {
						// Only the least and the greatest of all samples are known.
						want = wantConserved(withRows(w, place, one))
					}
					set(want, one...)
				}
			}
			one := slices.Clone(rows)
			one[k].Key = "x"
			set(isGauge, one...)
			one[k].Key, one[k].Kind = r.Key, r.Kind%3+1
			checkConserved(t, withRows(w, place, one))
			one[k] = r
			one[k].Set, one[k].Last = !r.Set, r.Last+9
			set(true, one...)
		}
		// The order of the rows and of the reports does not matter.
		backwards := slices.Clone(rows)
		slices.Reverse(backwards)
		set(true, backwards...)
		changed := cloneOf(w)
		changed.Log[place].Rows, changed.Log[places[1-i]].Rows = w.Log[places[1-i]].Rows, rows
		requireConserved(t, changed, true)
		// The whole report lost, told twice, told by another operation, and not told.
		changed.Log = slices.Delete(slices.Clone(w.Log), place, place+1)
		requireConserved(t, changed, false)
		changed.Log = append(slices.Clone(w.Log), w.Log[place])
		requireConserved(t, changed, false)
		for _, o := range []impl.Op{registerOp("a", 1), recordOp("q", 1), {}} {
			changed = cloneOf(w)
			changed.Log[place].Op = o
			requireConserved(t, changed, false)
		}
		for _, kind := range []int{0, 1, 2, 4} {
			changed = cloneOf(w)
			changed.Log[place].Kind = kind
			requireConserved(t, changed, false)
		}
	}
}

func withRows(w impl.World, place int, rows []impl.Row) impl.World {
	out := cloneOf(w)
	out.Log[place].Rows = rows
	return out
}

// The least or the greatest sample of all, in a report or in the cells, is another one.
func TestConservedOfWrongExtremes(t *testing.T) {
	for _, values := range [][]int{{7}, {7, 3}, {3, 7}, {5, 5}, {0, 65535}, {1, 2, 3}, {3, 1, 2}, {1, 2, 3, 0}, {0}} {
		w := endOf(t, todoOf(0, keyOps("t", 3, values...)))
		for _, flushed := range []bool{false, true} {
			if flushed {
				w.Todo = todoOf(1)
				w = impl.Finish(w)
			}
			requireConserved(t, w, true)
			// Of two samples, one more and one less: the sum stays.
			for i, e := range w.Log {
				if e.Kind != 2 || e.Op.Kind != 2 {
					continue
				}
				for _, d := range []int{-1, 1} {
					changed := cloneOf(w)
					changed.Log[i].Op.Val += d
					requireConserved(t, changed, e.Code != 0)
					for k, other := range w.Log {
						if k == i || other.Kind != 2 || other.Op.Kind != 2 || e.Code != 0 || other.Code != 0 {
							continue
						}
						both := cloneOf(changed)
						both.Log[k].Op.Val -= d
						checkConserved(t, both)
					}
				}
			}
			for i, e := range w.Log {
				for _, f := range []string{"Min", "Max"} {
					if e.Kind != 3 || len(e.Rows) == 0 {
						continue
					}
					for _, d := range []int{-1, 1} {
						changed := cloneOf(w)
						*reflect.ValueOf(&changed.Log[i].Rows[0]).Elem().FieldByName(f).Addr().Interface().(*int) += d
						requireConserved(t, changed, false)
					}
				}
			}
		}
	}
	w := endOf(t, todoOf(1, keyOps("t", 3, 1, 5, 9)))
	l := slices.Clone(w.Log)
	values := func(want bool, list ...int) {
		t.Helper()
		k := 0
		for i, e := range l {
			if e.Kind == 2 && e.Op.Kind == 2 {
				l[i].Op.Val = list[k]
				k++
			}
		}
		changed := w
		changed.Log = l
		requireConserved(t, changed, want)
	}
	values(true, 1, 5, 9)
	values(true, 9, 5, 1)
	values(false, 1, 6, 8)
	values(false, 2, 4, 9)
	values(false, 2, 5, 8)
	values(false, 0, 5, 10)
	values(false, 1, 5, 8)
	values(false, 5, 5, 5)
}

// Each point of a record lost, doubled and changed.
func TestConservedOfWrongPoints(t *testing.T) {
	w := readyEnd(t)
	points := map[int]int{}
	for i, e := range w.Log {
		if e.Kind != 2 || e.Op.Kind != 2 {
			continue
		}
		points[10*len(e.Op.Key)+e.Code]++
		isGauge := e.Op.Key == "b"
		changed := w
		changed.Log = slices.Delete(slices.Clone(w.Log), i, i+1)
		requireConserved(t, changed, isGauge)
		changed.Log = slices.Insert(slices.Clone(w.Log), i, e)
		requireConserved(t, changed, isGauge)
		for code := -1; code <= 6; code++ {
			changed = cloneOf(w)
			changed.Log[i].Code = code
			requireConserved(t, changed, isGauge || code == e.Code)
		}
		for _, kind := range []int{0, 1, 3} {
			changed = cloneOf(w)
			changed.Log[i].Op.Kind = kind
			requireConserved(t, changed, isGauge)
			changed = cloneOf(w)
			changed.Log[i].Kind = kind
			requireConserved(t, changed, isGauge)
		}
		for _, d := range []int{-1, 1, 1 << 32} {
			changed = cloneOf(w)
			changed.Log[i].Op.Val += d
			requireConserved(t, changed, isGauge || e.Code == 5)
		}
		changed = cloneOf(w)
		changed.Log[i].Op.Key = "x"
		requireConserved(t, changed, isGauge)
		// Nothing else in the event matters, and neither do the calls and reports of records.
		changed = cloneOf(w)
		changed.Log[i].Serial, changed.Log[i].At, changed.Log[i].Win, changed.Log[i].Who, changed.Log[i].Steps = 77, -1, 9, 9, 9
		requireConserved(t, changed, true)
		var some []impl.Ev
		for _, other := range w.Log {
			if other.Serial != e.Serial || other.Kind == 2 {
				some = append(some, other)
			}
		}
		changed.Log = some
		requireConserved(t, changed, true)
	}
	if points[10] != 12 || points[15] != 2 {
		t.Errorf("points of each code: %v", points)
	}
}

// What is in the cells at the end.
func TestConservedOfOtherCells(t *testing.T) {
	w := readyEnd(t)
	slots := map[string]int{}
	for _, key := range []string{"a", "b", "t"} {
		slots[key], _ = impl.FindKey(w.Cells, key)
	}
	free := 6 - slots["a"] - slots["b"] - slots["t"]
	a, b, timer := slotAt(0, slots["a"]), slotAt(0, slots["b"]), slotAt(0, slots["t"])
	for _, x := range []struct {
		cell, n int
		want    bool
	}{
		{a, w.Cells[a] + 1, false}, {a + 1, w.Cells[a+1] + 1, false}, {a, 0, false}, {a + 2, 9, true}, {a + 3, packed(1, 9), true}, {a + 4, 9, true}, {a + 5, 9, true},
		{b + 2, 0, true}, {b + 3, 0, true}, {b + 3, packed(9, 9), true}, {b, 9, true},
		{timer + 4, 1, false}, {timer + 4, 0, false}, {timer + 4, 3, true}, {timer + 4, 4, true}, {timer + 5, w.Cells[timer+5] + 1, false}, {timer + 6, w.Cells[timer+6] - 1, false}, {timer + 7, 9, true}, {timer, 9, true},
		{slotAt(1, slots["a"]), 9, true}, {slotAt(1, slots["t"]) + 4, 1, true}, {slotAt(0, free), 9, true}, {1, 9, true}, {2, 1<<48 - 1, true},
		{0, w.Cells[0] + 1, false}, {0, w.Cells[0] + 2, true}, {0, 1<<48 - 2, true}, {0, 1<<48 - 1, false}, {0, -2, false}, {0, 1 << 48, false}, {70, -1, false}, {70, 1 << 48, false},
		// A key that is not there any more is not looked at; each key cell has its own kind, also in a table that is not valid.
		{3 + slots["a"], 0, true}, {3 + slots["t"], 0, true}, {3 + slots["a"], 5, true}, {3 + slots["t"], wantTagged("x", 3), false}, {3 + slots["a"], wantTagged("x", 1), false}, {3 + slots["t"], wantTagged("x", 2), true}, {3 + free, wantTagged("d", 1), true}, {3 + free, wantTagged("d", 3), true},
		{3 + free, wantTagged("a", 1), true}, {3 + free, wantTagged("a", 2), true}, {3 + free, wantTagged("a", 3), false}, {3 + free, wantTagged("t", 3), true}, {3 + free, wantTagged("t", 1), false},
		{3 + slots["a"], wantTagged("a", 3), false}, {3 + slots["a"], wantTagged("a", 2), true}, {3 + slots["t"], wantTagged("t", 1), false}, {3 + slots["t"], wantTagged("t", 2), true}, {3 + slots["b"], wantTagged("b", 1), false}, {3 + slots["b"], wantTagged("b", 3), false},
	} {
		changed := w
		changed.Cells = stored(w.Cells, x.cell, x.n, true)
		requireConserved(t, changed, x.want)
	}
	// The whole window lost, and reported once more without a report.
	for b := range 2 {
		changed := w
		changed.Cells = impl.ClearBuf(w.Cells, b)
		requireConserved(t, changed, b == 1)
	}
	changed := w
	changed.Cells, _ = impl.FlushNow(w.Cells)
	requireConserved(t, changed, false)
	for i, key := range []string{"a", "b", "t"} {
		changed.Cells, _ = impl.RecordNow(w.Cells, 0, key, 7)
		requireConserved(t, changed, i == 1)
	}
}

// A table in which the probe sequence of a key ends before it: the key is still one of KeysIn, and nothing of it may be lost.
func TestConservedOfAKeyThatIsNotFound(t *testing.T) {
	for kind := 1; kind <= 3; kind++ {
		w := endOf(t, todoOf(0, keyOps("a", 1), keyOps("e", kind, 7)))
		for _, flushed := range []bool{false, true} {
			if flushed {
				w.Todo = todoOf(1)
				w = impl.Finish(w)
			}
			changed := w
			slot, _ := impl.FindKey(w.Cells, "a")
			changed.Cells = stored(w.Cells, 3+slot, 0, true)
			if found, _ := impl.FindKey(changed.Cells, "e"); found >= 0 || len(impl.KeysIn(changed.Cells)) != 1 {
				t.Fatalf("the table: %v", changed.Cells)
			}
			requireConserved(t, changed, true)
			changed.Log = append(slices.Clone(w.Log), pointAt(9, 9, recordOp("e", 1), 0))
			requireConserved(t, changed, kind == 2)
		}
	}
}

// Sums of a counter that wrap around, in the log and over several reports.
func TestConservedModuloWord(t *testing.T) {
	w := endOf(t, todoOf(2, keyOps("a", 1)))
	var places []int
	for i, e := range w.Log {
		if e.Kind == 3 && e.Op.Kind == 3 {
			places = append(places, i)
		}
	}
	w.Log = append(w.Log, pointAt(8, 8, recordOp("a", 1<<48-1), 0), pointAt(9, 9, recordOp("a", 6), 1))
	requireConserved(t, w, false)
	for _, x := range []struct {
		sums [2]int
		want bool
	}{
		{[2]int{1<<48 - 1, 6}, true}, {[2]int{6, 1<<48 - 1}, true}, {[2]int{2, 3}, true}, {[2]int{5, 0}, true}, {[2]int{1<<48 - 1, 1<<48 - 1}, false}, {[2]int{1<<48 - 1, 5}, false}, {[2]int{1<<48 - 1, 7}, false}, {[2]int{-1, 6}, true}, {[2]int{1 << 48, 5}, true},
	} {
		for i, place := range places {
			w.Log[place].Rows = []impl.Row{countRow("a", x.sums[i])}
		}
		requireConserved(t, w, x.want)
	}
	// The stripes of the last window are a third summand.
	slot, _ := impl.FindKey(w.Cells, "a")
	w.Cells = stored(stored(w.Cells, slotAt(0, slot), 1<<48-7, true), slotAt(0, slot)+1, 12, true)
	requireConserved(t, w, false)
	w.Log[places[0]].Rows, w.Log[places[1]].Rows = nil, nil
	requireConserved(t, w, true)
}

// Each thing in a world at its end changed by itself.
func TestConservedOfChangedWorlds(t *testing.T) {
	timer := endOf(t, todoOf(2, keyOps("t", 3, 5, 6, 9, 9), keyOps("a", 1, 3)))
	for _, base := range []impl.World{readyEnd(t), timer, smallEnd(t), emptyWorld(todoOf(0))} {
		requireConserved(t, base, true)
		w := roomyCopy(base)
		count := map[bool]int{}
		eachChange(reflect.ValueOf(&w).Elem(), "", func(path string) {
			got, want := impl.Conserved(w), wantConserved(w)
			if got != want {
				t.Errorf("Conserved with another %s of %+v: %v, want %v", path, base, got, want)
			}
			count[want]++
		})
		if count[false] < 100 || len(base.Log) > 0 && count[true] < 100 {
			t.Errorf("true or false: %v", count)
		}
	}
}

// A world that is not at its end or not valid, though its totals are right.
func TestConservedOnlyAtTheEnd(t *testing.T) {
	for _, base := range []impl.World{readyEnd(t), emptyWorld(todoOf(0))} {
		for thread := range 4 {
			w := cloneOf(base)
			w.Todo[thread].Ops = fullTodo()[thread].Ops[:1]
			requireConserved(t, w, false)
			w = impl.Step(w, thread)
			if !w.Jobs[thread].Busy {
				t.Fatalf("thread %d has no job", thread)
			}
			requireConserved(t, w, false)
			w = cloneOf(base)
			w.Jobs[thread].K = 1
			requireConserved(t, w, false)
			w = cloneOf(base)
			w.Jobs = w.Jobs[:thread]
			requireConserved(t, w, false)
			w = cloneOf(base)
			w.Todo = w.Todo[:thread]
			requireConserved(t, w, false)
		}
		for _, n := range append(farNumbers(), 1000001) {
			w := cloneOf(base)
			w.Serial = n
			requireConserved(t, w, false)
		}
		for _, n := range append(farNumbers(), 1000000001) {
			w := cloneOf(base)
			w.Now = n
			requireConserved(t, w, within(n, 0, 1000000000))
		}
		for _, a := range invalidLists() {
			w := cloneOf(base)
			w.Cells = a
			requireConserved(t, w, false)
		}
		w := cloneOf(base)
		w.Serial, w.Now = 1000000, 1000000000
		requireConserved(t, w, true)
	}
	requireConserved(t, impl.World{}, false)
	for _, w := range invalidWorlds() {
		for _, l := range [][]impl.Ev{nil, everyResult()} {
			w.Log = l
			requireConserved(t, w, false)
		}
	}
}

func TestConservedOfAnyWorlds(t *testing.T) {
	r := rand.New(rand.NewPCG(16, 3))
	for range 400 {
		w := anyWorld(r)
		checkConserved(t, w)
		w.Jobs, w.Todo = make([]impl.Job, 4), todoOf(0)
		checkConserved(t, w)
	}
	for _, w := range slices.Concat(someWorlds(), middleWorlds(r, 12), []impl.World{busyWorld(), waitingWorld()}) {
		checkConserved(t, w)
		w.Log = everyResult()
		checkConserved(t, w)
	}
	// Ends of schedules with a few changes in the log.
	count := map[bool]int{}
	for range 1200 {
		w := impl.Finish(impl.Play(impl.Script{Todo: busyTodo(r), Picks: anyPicks(r, r.IntN(300))}))
		for range r.IntN(16) {
			w.Log = changedLog(r, w.Log)
		}
		count[checkConserved(t, w)]++
		if t.Failed() {
			return
		}
	}
	if count[true] < 200 || count[false] < 200 {
		t.Errorf("true or false: %v", count)
	}
}

// Empty slices may be nil or not.
func TestTotalsWithNilAndEmptySlices(t *testing.T) {
	for _, w := range []impl.World{readyEnd(t), smallEnd(t), emptyWorld(todoOf(0))} {
		for _, asNil := range []bool{true, false} {
			other := roomyCopy(w)
			emptied(reflect.ValueOf(&other).Elem(), asNil)
			requireConserved(t, other, true)
			for _, key := range []string{"a", "b", "t"} {
				requireTotals(t, other.Log, key, wantSum(w.Log, key), wantSamples(w.Log, key)...)
				requireTotalIn(t, impl.Reports(other), key, impl.TotalIn(impl.Reports(w), key))
			}
		}
	}
}

package tests

import (
	"math"
	"math/rand/v2"
	"slices"
	"strings"
	"testing"

	"loop.example/g01608/impl"
)

// What is read off a log: Tells, Among and Reports, and what the reports of a schedule contain.

// checkLists compares what is read off the log of a world with loops over the log.
func checkLists(t *testing.T, w impl.World) {
	t.Helper()
	var tells []impl.Ev
	var reports [][]impl.Row
	kinds := map[int]int{}
	for _, e := range w.Log {
		kinds[e.Kind]++
		if e.Kind == 3 {
			tells = append(tells, e)
			if e.Op.Kind == 3 {
				reports = append(reports, e.Rows)
			}
		}
	}
	arg := roomyCopy(w)
	k := keep(arg)
	gotTells, gotReports := impl.Tells(arg), impl.Reports(arg)
	if differ(gotTells, tells) || differ(gotReports, reports) {
		t.Errorf("%+v: %+v, %+v", w.Log, gotTells, gotReports)
	}
	for _, kind := range append(farNumbers(), -1, 0, 1, 2, 3, 4, 5, 1<<32+3) {
		if n := impl.Among(arg.Log, kind); n != kinds[kind] {
			t.Errorf("%d events of the kind %d among %+v", n, kind, w.Log)
		}
	}
	k.check(t, "Tells, Reports and Among", gotTells, gotReports)
	// A caller that writes into the result does not change the log.
	for _, e := range gotTells {
		clear(e.Rows)
	}
	for _, rows := range gotReports {
		clear(rows)
	}
	clear(gotTells)
	k.check(t, "Tells and Reports afterwards", impl.Tells(arg), impl.Reports(arg))
}

// someEvents has events of every kind and of kinds that do not exist, for operations of every kind and of ones that do not exist.
func someEvents() []impl.Ev {
	var out []impl.Ev
	rows := []impl.Row{countRow("a", 3), gaugeRow("cpu", 9), timerOf([]int{2, 4}), {}}
	for _, kind := range []int{-1, 0, 1, 2, 3, 4, 5, math.MaxInt, math.MinInt} {
		for i, o := range []impl.Op{flushOp(), registerOp("a", 1), recordOp("b", 4), {}, {Kind: 4}, {Kind: -1}, {Kind: 3, Val: 9}, {Kind: 3, Key: "a", What: 1}} {
			n := len(out)
			out = append(out, impl.Ev{Kind: kind, Who: i - 1, Serial: n, At: -n, Op: o, Code: i, Win: n % 5, Steps: n + 1, Flips: n - 9, Rows: rows[:n%5]})
		}
	}
	return out
}

func TestListsOfAnyEvents(t *testing.T) {
	all := someEvents()
	for _, e := range all {
		checkLists(t, impl.World{Log: []impl.Ev{e}})
		checkLists(t, impl.World{Log: []impl.Ev{e, {}, e, e}})
	}
	backwards := slices.Clone(all)
	slices.Reverse(backwards)
	for _, log := range [][]impl.Ev{nil, {}, {{}}, all, backwards, all[1:], append(backwards, all...)} {
		for _, w := range append(someWorlds(), busyWorld(), waitingWorld()) {
			w.Log = log
			checkLists(t, w)
		}
	}
	r := rand.New(rand.NewPCG(12, 9))
	for range 300 {
		log := make([]impl.Ev, r.IntN(12))
		for i := range log {
			log[i] = oneOf(r, all...)
		}
		checkLists(t, impl.World{Log: log, Now: r.IntN(9)})
	}
	for _, w := range invalidWorlds() {
		w.Log = all
		checkLists(t, w)
	}
}

// All lists of up to five events of kinds 0 to 4.
func TestAmong(t *testing.T) {
	stringsOver("\x00\x01\x02\x03\x04", 5, func(s string) {
		var log []impl.Ev
		for i := range len(s) {
			log = append(log, impl.Ev{Kind: int(s[i]), Who: 3, Op: flushOp()})
		}
		for kind := -1; kind < 6; kind++ {
			if n := impl.Among(log, kind); kind < 0 && n != 0 || kind >= 0 && n != strings.Count(s, string(rune(kind))) {
				t.Errorf("%d events of the kind %d among %q", n, kind, s)
			}
		}
	})
	if impl.Among(nil, 0) != 0 || impl.Among(nil, 1) != 0 || impl.Among(nil, 3) != 0 {
		t.Error("events among none")
	}
}

// The results written out, for a log that is laid out by hand.
func TestTellsAndReportsWrittenOut(t *testing.T) {
	first, second := []impl.Row{countRow("z", 1), gaugeRow("a", 4)}, []impl.Row{timerOf([]int{7})}
	log := []impl.Ev{
		{Kind: 3, Who: 3, Serial: 9, At: 5, Op: flushOp(), Win: -1, Rows: first},
		{Kind: 1, Who: 3, Serial: 2, Op: flushOp(), Rows: second},
		{Kind: 3, Who: 0, Serial: 3, At: 2, Op: recordOp("a", 4), Code: 5, Rows: second},
		{Kind: 2, Who: 3, Serial: 2, Op: flushOp(), Rows: second},
		{Kind: 3, Who: 3, Serial: 2, At: 7, Op: flushOp()},
		{Kind: 3, Who: 1, Serial: 4, At: 8, Op: registerOp("b", 2), Code: 3},
		{Kind: 3, Who: 2, Serial: 9, At: 1, Op: flushOp(), Flips: 3, Rows: second},
		{Kind: 4, Who: 3, Serial: 9, At: 1, Op: flushOp(), Rows: first},
	}
	w := emptyWorld(todoOf(0))
	w.Log = log
	checkLists(t, w)
	if got := impl.Tells(w); differ(got, []impl.Ev{log[0], log[2], log[4], log[5], log[6]}) {
		t.Errorf("Tells: %+v", got)
	}
	if got := impl.Reports(w); differ(got, [][]impl.Row{first, {}, second}) {
		t.Errorf("Reports: %+v", got)
	}
}

// windowRows returns the report that the records accepted in a window give, read off the log alone.
func windowRows(log []impl.Ev, win int) []impl.Row {
	kinds := map[string]int{}
	for _, e := range log {
		if e.Kind == 2 && e.Op.Kind == 1 && e.Code == 0 {
			kinds[e.Op.Key] = e.Op.What
		}
	}
	var out []impl.Row
	for key, kind := range kinds {
		r := impl.Row{Key: key, Kind: kind}
		var samples []int
		for _, e := range log {
			if e.Kind != 2 || e.Op.Kind != 2 || e.Op.Key != key || e.Win != win {
				continue
			}
			switch {
			case e.Code == 5:
				r.Dropped++
			case kind == 1:
				r.Sum += e.Op.Val
			case kind == 2:
				r.Set, r.Last = true, e.Op.Val
			default:
				samples = append(samples, e.Op.Val)
				r.N, r.Total = r.N+1, r.Total+e.Op.Val
				r.Min, r.Max = slices.Min(samples), slices.Max(samples)
			}
		}
		if r.Sum != 0 || r.Set || r.N != 0 {
			out = append(out, r)
		}
	}
	slices.SortFunc(out, func(a, b impl.Row) int { return strings.Compare(a.Key, b.Key) })
	return out
}

// checkWindows compares each report with the records that were accepted in its window, and at the end also what is not reported yet; the first epoch is that at which the world began. It counts the rows of each kind.
func checkWindows(t *testing.T, w impl.World, first int, rows map[int]int) {
	t.Helper()
	reports := impl.Reports(w)
	next := 0
	for _, e := range w.Log {
		if e.Kind != 3 || e.Op.Kind != 3 {
			continue
		}
		// The flushes follow one another, and so do their windows.
		win := pointOf(w.Log, e.Serial)[0].Win
		if win != wrapped(first, next) || next >= len(reports) {
			t.Fatalf("the report %d of %d is that of the window %d", next, len(reports), win)
		}
		want := windowRows(w.Log, win)
		if !impl.ReportOk(reports[next]) || !slices.Equal(reports[next], want) {
			t.Errorf("the report of the window %d: %+v, want %+v; %+v", win, reports[next], want, w.Log)
		}
		for _, r := range want {
			rows[r.Kind]++
		}
		next++
	}
	if next != len(reports) {
		t.Errorf("%d reports of %d flushes", len(reports), next)
	}
	left := wrapped(first, next)
	if want := windowRows(w.Log, left); impl.Idle(w) && !slices.Equal(impl.ReportIn(w.Cells, left&1), want) {
		t.Errorf("the window %d, not reported yet: %+v, want %+v", left, impl.ReportIn(w.Cells, left&1), want)
	}
}

func TestReportsOfManySchedules(t *testing.T) {
	r := rand.New(rand.NewPCG(12, 10))
	rows := map[int]int{}
	for range 250 {
		l := busyTodo(r)
		w := impl.Play(impl.Script{Todo: l, Picks: anyPicks(r, oneOf(r, 100, 300, 500))})
		checkWindows(t, w, 0, rows)
		end := impl.Finish(w)
		checkWindows(t, end, 0, rows)
		checkLists(t, end)
		if len(impl.Reports(end)) != len(l[3].Ops) || len(impl.Tells(end)) != end.Serial {
			t.Errorf("%d reports of %d flushes", len(impl.Reports(end)), len(l[3].Ops))
		}
		if t.Failed() {
			return
		}
	}
	for kind := 1; kind <= 3; kind++ {
		if rows[kind] < 100 {
			t.Errorf("only %d rows of the kind %d", rows[kind], kind)
		}
	}
}

// Worlds that begin shortly before the epoch wraps around.
func TestReportsWhereTheEpochWrapsAround(t *testing.T) {
	r := rand.New(rand.NewPCG(12, 11))
	rows := map[int]int{}
	past := 0
	for range 120 {
		first := 1<<48 - 1 - r.IntN(4)
		w := impl.WorldNew(busyTodo(r))
		w.Cells[0] = first
		for _, thread := range anyPicks(r, oneOf(r, 0, 100, 300, 500)) {
			w = impl.Step(w, thread)
		}
		checkWindows(t, w, first, rows)
		end := checkFinish(t, w)
		checkWindows(t, end, first, rows)
		if len(impl.Reports(end)) > 4 && end.Cells[0] < 10 {
			past++
		}
	}
	if rows[1] < 50 || rows[2] < 50 || rows[3] < 50 || past < 30 {
		t.Errorf("the rows of each kind: %v; %d worlds beyond the last epoch", rows, past)
	}
}

// A flush that switches at every moment of the records of two writers.
func TestReportsOfAFlushAtEachMoment(t *testing.T) {
	rows := map[int]int{}
	for kind := 1; kind <= 3; kind++ {
		l := todoOf(2, []impl.Op{registerOp("a", kind), recordOp("a", 5), recordOp("a", 6)}, []impl.Op{recordOp("a", 7), recordOp("a", 8), recordOp("a", 9)})
		for before := range 50 {
			for between := range 12 {
				picks := slices.Concat(times(4, 0), slices.Repeat([]int{0, 1}, before/2), times(before%2, 0), times(2, 3), slices.Repeat([]int{1, 0, 0}, between), times(45, 3), times(between, 1), times(3, 3))
				w := impl.Play(impl.Script{Todo: l, Picks: picks})
				checkWindows(t, w, 0, rows)
				checkWindows(t, impl.Finish(w), 0, rows)
			}
		}
	}
	if rows[1] < 100 || rows[2] < 100 || rows[3] < 100 {
		t.Errorf("the rows of each kind: %v", rows)
	}
}

// Three reports and the log of operations of every kind, written out.
func TestReportsWrittenOut(t *testing.T) {
	l := todoOf(4,
		[]impl.Op{registerOp("h", 1), recordOp("h", 5), recordOp("h", 6), recordOp("h", 7)},
		[]impl.Op{registerOp("g", 2), recordOp("g", 3), recordOp("g", 4), recordOp("x", 1), registerOp("h", 2)},
		[]impl.Op{registerOp("t", 3), recordOp("t", 9), recordOp("t", 1), recordOp("t", 2), recordOp("t", 8), recordOp("t", 0)})
	w := impl.WorldNew(l)
	var picks []int
	// one performs the threads' next operations, one after the other.
	one := func(threads ...int) {
		for _, thread := range threads {
			for n := len(w.Todo[thread].Ops); len(w.Todo[thread].Ops) == n || w.Jobs[thread].Busy; {
				w = impl.Step(w, thread)
				picks = append(picks, thread)
			}
		}
	}
	one(0, 1, 2, 0, 0, 1, 2, 1, 3)
	one(2, 2, 2, 2, 1, 3, 3, 0, 1)
	w = checkPlay(t, l, picks)
	timer := impl.Row{Key: "t", Kind: 3, N: 3, Min: 1, Max: 8, Total: 11, Dropped: 1}
	want := [][]impl.Row{{gaugeRow("g", 4), countRow("h", 11), {Key: "t", Kind: 3, N: 1, Min: 9, Max: 9, Total: 9}}, {timer}, {}}
	if got := impl.Reports(w); differ(got, want) {
		t.Errorf("%+v, want %+v", got, want)
	}
	if impl.Among(w.Log, 1) != 18 || impl.Among(w.Log, 2) != 18 || impl.Among(w.Log, 3) != 18 || impl.Among(w.Log, 4) != 0 || w.Serial != 18 || w.Now != len(picks) {
		t.Errorf("%d, %d and %d events", impl.Among(w.Log, 1), impl.Among(w.Log, 2), impl.Among(w.Log, 3))
	}
	var codes []int
	for _, e := range impl.Tells(w) {
		codes = append(codes, 10*e.Op.Kind+e.Code)
	}
	if !slices.Equal(codes, []int{10, 10, 10, 20, 20, 20, 20, 20, 30, 20, 20, 20, 25, 22, 30, 30, 20, 14}) {
		t.Errorf("the codes: %v", codes)
	}
	end := checkFinish(t, w)
	if got := impl.Reports(end); differ(got, append(want, []impl.Row{countRow("h", 7)})) {
		t.Errorf("at the end: %+v", got)
	}
	checkWorkload(t, l, end.Log)
}

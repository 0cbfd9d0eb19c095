package tests

import (
	"math"
	"slices"
	"testing"

	"loop.example/g01608/impl"
)

// slotAt returns the index of the first cell of a slot of the buffer that an epoch records into.
func slotAt(epoch, slot int) int {
	return []int{7, 39}[epoch&1] + 8*slot
}

// wantRecordedIn records the value in the cells of one slot.
func wantRecordedIn(raw []int, w, kind, v int) int {
	switch {
	case kind == 1:
		// Writers 0 and 2 have the same stripe.
		s := []int{0, 1, 0}[w]
		raw[s] = wrapped(raw[s], v)
	case kind == 2:
		raw[2] = wrapped(raw[2], 1)
		greater := within(raw[3], 65536, 4294967295) && raw[3]>>16 > raw[2]
		if !greater && within(raw[2], 1, 65535) {
			raw[3] = packed(raw[2], v)
		} else if !greater {
			raw[3] = 0
		}
	default:
		old := raw[4]
		raw[4] = wrapped(old, 1)
		if old > 2 {
			return 5
		}
		raw[5+old] = v + 1
	}
	return 0
}

func wantRecorded(a []int, w int, key string, v int) ([]int, int) {
	out := slices.Clone(a)
	if !wantValidCells(a) || !within(w, 0, 2) || !keyPattern.MatchString(key) || !within(v, 0, 65535) {
		return out, 1
	}
	slot, kind := wantFound(a, key)
	if slot < 0 {
		return out, 2
	}
	first := slotAt(a[0], slot)
	code := wantRecordedIn(out[first:first+8], w, kind, v)
	return out, code
}

func wantFlushed(a []int) ([]int, []impl.Row) {
	if !wantValidCells(a) {
		return slices.Clone(a), nil
	}
	out := wantCleared(a, a[0]&1)
	out[0] = wrapped(a[0], 1)
	return out, wantReportIn(a, a[0]&1)
}

// checkRecord returns the cells with the record, and the code.
func checkRecord(t *testing.T, a []int, w int, key string, v int) ([]int, int) {
	t.Helper()
	arg := roomy(a)
	want, wantCode := wantRecorded(a, w, key, v)
	got, code := impl.RecordNow(arg, w, key, v)
	if !slices.Equal(got, want) || code != wantCode {
		t.Errorf("RecordNow(%v, %d, %q, %d) = %v, %d, want %v, %d", a, w, key, v, got, code, want, wantCode)
	}
	checkApart(t, "RecordNow", arg, a, got)
	return got, code
}

// requireRecord checks that a record changes exactly these cells, given as index and number, as the test itself says.
func requireRecord(t *testing.T, a []int, w int, key string, v int, code int, changes ...[2]int) []int {
	t.Helper()
	want := slices.Clone(a)
	for _, c := range changes {
		want[c[0]] = c[1]
	}
	got, gotCode := checkRecord(t, a, w, key, v)
	if !slices.Equal(got, want) || gotCode != code {
		t.Errorf("RecordNow(%v, %d, %q, %d) = %v, %d, required are %v, %d", a, w, key, v, got, gotCode, want, code)
	}
	return got
}

func checkFlush(t *testing.T, a []int) ([]int, []impl.Row) {
	t.Helper()
	arg := roomy(a)
	want, wantRows := wantFlushed(a)
	got, rows := impl.FlushNow(arg)
	if !slices.Equal(got, want) || !slices.Equal(rows, wantRows) {
		t.Errorf("FlushNow(%v) = %v, %+v, want %v, %+v", a, got, rows, want, wantRows)
	}
	checkApart(t, "FlushNow", arg, a, got)
	// A change of the rows must not show in the next ones.
	out := slices.Clone(rows)
	for i := range rows[:cap(rows)] {
		rows[:cap(rows)][i] = markRow()
	}
	if _, again := impl.FlushNow(arg); !slices.Equal(again, wantRows) {
		t.Errorf("FlushNow(%v) again = %+v, want %+v", a, again, wantRows)
	}
	return got, out
}

// checkNow compares both functions for these cells, with each key, each writer and one beyond them, and the limits of the values.
func checkNow(t *testing.T, a []int, keys ...string) {
	t.Helper()
	for _, key := range keys {
		for w := -1; w <= 3; w++ {
			for _, v := range []int{-1, 0, 1, 65535, 65536} {
				checkRecord(t, a, w, key, v)
			}
		}
	}
	checkFlush(t, a)
}

// window is a test's own account of the cells: the values that each key was given in the window, in order.
type window struct {
	kinds  map[string]int
	values map[string][]int
}

func newWindow(kinds map[string]int) *window {
	return &window{kinds, map[string][]int{}}
}

// row returns the row of a key, computed from all its values at once.
func (m *window) row(key string) impl.Row {
	values := m.values[key]
	switch m.kinds[key] {
	case 1:
		sum := 0
		for _, v := range values {
			sum += v
		}
		return countRow(key, sum)
	case 2:
		return gaugeRow(key, values[len(values)-1])
	}
	r := timerOf(values)
	r.Key = key
	return r
}

// rows returns the report: a counter that was only given zeros is quiet.
func (m *window) rows() []impl.Row {
	var keys []string
	for key, values := range m.values {
		if m.kinds[key] != 1 || slices.Max(values) > 0 {
			keys = append(keys, key)
		}
	}
	slices.Sort(keys)
	var out []impl.Row
	for _, key := range keys {
		out = append(out, m.row(key))
	}
	return out
}

func (m *window) code(key string) int {
	switch {
	case m.kinds[key] == 0:
		return 2
	case m.kinds[key] == 3 && len(m.values[key]) > 3:
		return 5
	}
	return 0
}

// record records in the cells and in the account, and requires that they agree.
func (m *window) record(t *testing.T, a []int, w int, key string, v int) []int {
	t.Helper()
	if m.kinds[key] != 0 {
		m.values[key] = append(m.values[key], v)
	}
	got, code := checkRecord(t, a, w, key, v)
	if want := m.code(key); code != want {
		t.Errorf("the code of %q with %d of writer %d: %d, want %d", key, v, w, code, want)
	}
	b := a[0] & 1
	if rows := impl.ReportIn(got, b); !slices.Equal(rows, m.rows()) {
		t.Errorf("the window after %q with %d of writer %d: %+v, want %+v", key, v, w, rows, m.rows())
	}
	if other := impl.ReportIn(got, 1-b); !slices.Equal(other, impl.ReportIn(a, 1-b)) {
		t.Errorf("the other window after %q with %d of writer %d: %+v", key, v, w, other)
	}
	return got
}

// flush requires that the window is handed back and then empty, that the other one has not changed, and that the next records go there.
func (m *window) flush(t *testing.T, a []int) []int {
	t.Helper()
	b := a[0] & 1
	got, rows := checkFlush(t, a)
	if !slices.Equal(rows, m.rows()) || !impl.ReportOk(rows) {
		t.Errorf("the rows of a flush: %+v, want %+v", rows, m.rows())
	}
	if !impl.BufClear(got, b) || !slices.Equal(got[slotAt(b+1, 0):][:32], a[slotAt(b+1, 0):][:32]) || !slices.Equal(got[1:7], a[1:7]) {
		t.Errorf("the cells after a flush of %v: %v", a, got)
	}
	if got[0] != wrapped(a[0], 1) {
		t.Errorf("the epoch after %d: %d", a[0], got[0])
	}
	m.values = map[string][]int{}
	return got
}

// keyedCells returns cells in which keys of these kinds were registered; all other cells are 0.
func keyedCells(t *testing.T, keys []string, kinds []int) ([]int, map[string]int) {
	t.Helper()
	a := make([]int, 71)
	of := map[string]int{}
	for i, key := range keys {
		next, _, code := impl.Register(a, key, kinds[i])
		if code != 0 {
			t.Fatalf("Register of %q: %d", key, code)
		}
		a, of[key] = next, kinds[i]
	}
	return a, of
}

// A record of each kind, cell by cell.
func TestRecordNowOfEachKind(t *testing.T) {
	a := cellsOf(slotIn{tag: wantTagged("a", 1)}, slotIn{tag: wantTagged("b", 2)}, slotIn{tag: wantTagged("c", 3)})
	b := requireRecord(t, a, 0, "a", 5, 0, [2]int{7, 5})
	b = requireRecord(t, b, 1, "a", 6, 0, [2]int{8, 6})
	b = requireRecord(t, b, 2, "a", 7, 0, [2]int{7, 12})
	b = requireRecord(t, b, 1, "a", 0, 0)
	b = requireRecord(t, b, 2, "b", 9, 0, [2]int{17, 1}, [2]int{18, 65545})
	b = requireRecord(t, b, 1, "b", 3, 0, [2]int{17, 2}, [2]int{18, 131075})
	b = requireRecord(t, b, 0, "b", 0, 0, [2]int{17, 3}, [2]int{18, 196608})
	b = requireRecord(t, b, 1, "c", 0, 0, [2]int{27, 1}, [2]int{28, 1})
	b = requireRecord(t, b, 0, "c", 9, 0, [2]int{27, 2}, [2]int{29, 10})
	b = requireRecord(t, b, 2, "c", 65535, 0, [2]int{27, 3}, [2]int{30, 65536})
	b = requireRecord(t, b, 2, "c", 4, 5, [2]int{27, 4})
	b = requireRecord(t, b, 0, "c", 5, 5, [2]int{27, 5})
	requireRecord(t, b, 0, "d", 5, 2)
	requireReport(t, b, 0, countRow("a", 18), gaugeRow("b", 0), impl.Row{Key: "c", Kind: 3, N: 3, Max: 65535, Total: 65544, Dropped: 2})
	requireReport(t, b, 1)
	next, rows := checkFlush(t, b)
	if !slices.Equal(rows, impl.ReportIn(b, 0)) || !slices.Equal(next, stored(a, 0, 5, true)) {
		t.Errorf("FlushNow(%v) = %v, %+v", b, next, rows)
	}
	next = requireRecord(t, next, 1, "a", 8, 0, [2]int{40, 8})
	next = requireRecord(t, next, 1, "b", 2, 0, [2]int{49, 1}, [2]int{50, 65538})
	next = requireRecord(t, next, 1, "c", 3, 0, [2]int{59, 1}, [2]int{60, 4})
	requireReport(t, next, 0)
	requireReport(t, next, 1, countRow("a", 8), gaugeRow("b", 2), impl.Row{Key: "c", Kind: 3, N: 1, Min: 3, Max: 3, Total: 3})
}

// Each kind in each slot, recorded by each writer with the limits of the values, in windows of both parities.
func TestRecordNowInEachSlot(t *testing.T) {
	for _, epoch := range []int{0, 1, 2, 3, impl.Word/2 - 1, impl.Word / 2, impl.Word - 2, impl.Word - 1} {
		for slot := range 4 {
			key := "abcd"[slot : slot+1]
			first := []int{7, 39}[epoch%2] + 8*slot
			for w := range 3 {
				for _, v := range []int{0, 1, 258, 65534, 65535} {
					count := tableWith(wantTagged("a", 1), wantTagged("b", 1), wantTagged("c", 1), wantTagged("d", 1))
					count[0] = epoch
					at := first + w%2
					requireRecord(t, count, w, key, v, 0, [2]int{at, count[at] + v})
					gauge := tableWith(wantTagged("a", 2), wantTagged("b", 2), wantTagged("c", 2), wantTagged("d", 2))
					gauge[0] = epoch
					// The gauges of tableWith have small stamps, if any.
					stamp := gauge[first+2] + 1
					requireRecord(t, gauge, w, key, v, 0, [2]int{first + 2, stamp}, [2]int{first + 3, packed(stamp, v)})
					timer := tableWith(wantTagged("a", 3), wantTagged("b", 3), wantTagged("c", 3), wantTagged("d", 3))
					timer[0] = epoch
					requireRecord(t, timer, w, key, v, 5, [2]int{first + 4, timer[first+4] + 1})
					for ticket := range 3 {
						timer[first+4] = ticket
						requireRecord(t, timer, w, key, v, 0, [2]int{first + 4, ticket + 1}, [2]int{first + 5 + ticket, v + 1})
					}
				}
			}
		}
	}
}

// The limits of a stripe: sums that come to Word-1, to Word and beyond it.
func TestRecordNowOfACounter(t *testing.T) {
	const top = impl.Word - 1
	for _, c := range []struct{ old, v, want int }{
		{0, 0, 0}, {0, 1, 1}, {0, 65535, 65535}, {65535, 65535, 131070}, {7, 0, 7}, {top, 0, top}, {top - 1, 1, top}, {top - 5, 5, top}, {impl.Word - 65536, 65535, top},
		{top, 1, 0}, {top - 4, 5, 0}, {impl.Word - 65535, 65535, 0}, {top, 2, 1}, {top, 65535, 65534}, {top - 1, 65535, 65533},
	} {
		for epoch := range 2 {
			for slot := range 4 {
				for w := range 3 {
					slots := make([]slotIn, 4)
					slots[slot].tag = wantTagged("abcd"[slot:slot+1], 1)
					a := cellsOf(slots...)
					a[0] = epoch
					first := slotAt(epoch, slot)
					at, beside := first+w%2, first+1-w%2
					a[at], a[beside] = c.old, 9
					b := requireRecord(t, a, w, "abcd"[slot:slot+1], c.v, 0, [2]int{at, c.want})
					if r := impl.RowIn(b, epoch, slot); r.Sum != (c.want+9)%impl.Word {
						t.Errorf("the sum of %d, %d and 9: %d", c.old, c.v, r.Sum)
					}
				}
			}
		}
	}
}

// A count of both stripes: each writer adds to its own, and the report has the sum of all.
func TestCountsOfAllWriters(t *testing.T) {
	a, kinds := keyedCells(t, []string{"hits", "a"}, []int{1, 1})
	m := newWindow(kinds)
	for range 3 {
		for w, v := range []int{3, 40, 500} {
			a = m.record(t, a, w, "hits", v)
		}
	}
	slot, _ := impl.FindKey(a, "hits")
	if a[impl.StripeCell(0, slot, 0)] != 1509 || a[impl.StripeCell(0, slot, 1)] != 120 {
		t.Errorf("the stripes: %v", a)
	}
	requireReport(t, a, 0, countRow("hits", 1629))
	a = m.flush(t, a)
	a = m.record(t, a, 1, "hits", 0)
	requireReport(t, a, 1)
	m.flush(t, a)
}

// gaugeCells returns cells with a gauge of key a, b, c or d in this slot of the buffer of this epoch.
func gaugeCells(epoch, slot, stamp, gauge int) []int {
	tags := make([]int, 4)
	tags[slot] = wantTagged("abcd"[slot:slot+1], 2)
	a := tableWith(tags...)
	a[0] = epoch
	first := slotAt(epoch, slot)
	a[first+2], a[first+3] = stamp, gauge
	return a
}

// The stamp of the gauge may be greater than the new one: then another writer has set it since, and it stays.
func TestRecordNowOfAGauge(t *testing.T) {
	const top = impl.Word - 1
	for _, c := range []struct{ stamp, gauge, newStamp, newGauge int }{
		// Not set; set with the stamp before, and with an older one.
		{0, 0, 1, packed(1, 9)}, {1, packed(1, 5), 2, packed(2, 9)}, {5, packed(1, 7), 6, packed(6, 9)}, {5, packed(5, 65535), 6, packed(6, 9)}, {5, 0, 6, packed(6, 9)},
		// The stamp of the gauge is one less than the new one, equal to it, one more, and far greater.
		{0, packed(1, 5), 1, packed(1, 9)}, {0, packed(2, 5), 1, packed(2, 5)}, {0, packed(65535, 5), 1, packed(65535, 5)},
		{6, packed(6, 5), 7, packed(7, 9)}, {6, packed(7, 5), 7, packed(7, 9)}, {6, packed(7, 65535), 7, packed(7, 9)}, {6, packed(8, 0), 7, packed(8, 0)}, {6, packed(8, 5), 7, packed(8, 5)},
		{6, packed(9, 65535), 7, packed(9, 65535)}, {6, packed(300, 5), 7, packed(300, 5)}, {6, packed(65535, 65535), 7, packed(65535, 65535)},
		// A gauge with the same value or a greater one, but an older stamp.
		{3, packed(3, 9), 4, packed(4, 9)}, {3, packed(3, 10), 4, packed(4, 9)}, {3, packed(3, 8), 4, packed(4, 9)}, {3, packed(4, 10), 4, packed(4, 9)}, {3, packed(4, 9), 4, packed(4, 9)},
		// The greatest stamp of a gauge.
		{65533, packed(65533, 1), 65534, packed(65534, 9)}, {65533, packed(65535, 1), 65534, packed(65535, 1)}, {65533, packed(65534, 1), 65534, packed(65534, 9)},
		{65534, packed(65534, 1), 65535, packed(65535, 9)}, {65534, packed(65535, 1), 65535, packed(65535, 9)}, {65534, packed(1, 1), 65535, packed(65535, 9)}, {65534, 0, 65535, packed(65535, 9)},
		// One beyond it: PackGauge of it is 0.
		{65535, packed(65535, 1), 65536, 0}, {65535, packed(1, 1), 65536, 0}, {65535, 0, 65536, 0}, {65536, packed(65535, 65535), 65537, 0}, {65536, packed(1, 0), 65537, 0}, {1000000, packed(17, 4), 1000001, 0},
		{top - 1, packed(65535, 7), top, 0}, {top - 1, 0, top, 0}, {impl.Word / 2, packed(3, 7), impl.Word/2 + 1, 0}, {1 << 32, packed(3, 7), 1<<32 + 1, 0},
		// After the greatest stamp of a cell comes 0, and every gauge's stamp is greater.
		{top, packed(1, 7), 0, packed(1, 7)}, {top, packed(65535, 65535), 0, packed(65535, 65535)}, {top, 0, 0, 0}, {top, 65535, 0, 0}, {top, packed(65536, 3), 0, 0},
		// A gauge that UnpackGauge does not decode has no stamp, however great it is.
		{0, 1, 1, packed(1, 9)}, {0, 65535, 1, packed(1, 9)}, {4, 65535, 5, packed(5, 9)}, {4, packed(65536, 0), 5, packed(5, 9)}, {4, packed(65536, 7), 5, packed(5, 9)}, {4, packed(65537, 65535), 5, packed(5, 9)},
		{0, top, 1, packed(1, 9)}, {65534, top, 65535, packed(65535, 9)}, {4, 1<<47 + packed(9, 7), 5, packed(5, 9)}, {65535, top, 65536, 0}, {65535, packed(65536, 7), 65536, 0}, {65535, packed(65537, 7), 65536, 0},
	} {
		for n := range 8 {
			epoch, slot := n/4, n%4
			a, key := gaugeCells(epoch, slot, c.stamp, c.gauge), "abcd"[slot:slot+1]
			first := slotAt(epoch, slot)
			for w := range 3 {
				requireRecord(t, a, w, key, 9, 0, [2]int{first + 2, c.newStamp}, [2]int{first + 3, c.newGauge})
				checkRecord(t, a, w, key, 0)
				checkRecord(t, a, w, key, 65535)
			}
		}
	}
}

// Every stamp near the limits beside every gauge near them.
func TestRecordNowOfEveryStampAndGauge(t *testing.T) {
	stamps := []int{0, 1, 2, 3, 255, 256, 65533, 65534, 65535, 65536, 65537, 1 << 32, impl.Word - 2, impl.Word - 1}
	gauges := []int{0, 1, 65535, impl.Word - 1, packed(65536, 0), packed(65536, 65535)}
	for _, stamp := range []int{1, 2, 3, 4, 5, 255, 256, 257, 258, 65533, 65534, 65535} {
		gauges = append(gauges, packed(stamp, 0), packed(stamp, 9), packed(stamp, 65535))
	}
	for _, stamp := range stamps {
		for _, gauge := range gauges {
			for _, v := range []int{0, 9, 65535} {
				checkRecord(t, gaugeCells(0, 3, stamp, gauge), 1, "d", v)
				checkRecord(t, gaugeCells(1, 0, stamp, gauge), 2, "a", v)
			}
		}
	}
	for _, n := range numbersNear() {
		checkRecord(t, gaugeCells(1, 2, n, packed(7, 5)), 0, "c", 4)
		checkRecord(t, gaugeCells(0, 1, 6, n), 0, "b", 4)
	}
}

// The last of several records of a gauge counts, whichever writer made it and whether it is greater or not.
func TestLastGaugeCounts(t *testing.T) {
	a, kinds := keyedCells(t, []string{"cpu", "b", "t"}, []int{2, 2, 3})
	m := newWindow(kinds)
	for n, v := range []int{5, 9, 2, 2, 0, 65535, 65534, 7} {
		a = m.record(t, a, n%3, "cpu", v)
		requireReport(t, a, 0, gaugeRow("cpu", v))
	}
	a = m.flush(t, a)
	// The next window begins with stamp 1 again, and a gauge set to 0 is reported.
	a = m.record(t, a, 2, "cpu", 0)
	requireReport(t, a, 1, gaugeRow("cpu", 0))
	slot, _ := impl.FindKey(a, "cpu")
	if a[impl.StampCell(1, slot)] != 1 || a[impl.GaugeCell(1, slot)] != 65536 {
		t.Errorf("the gauge in the next window: %v", a)
	}
	m.flush(t, a)
}

// As many records as a gauge has stamps in one window.
func TestGaugeUpToTheGreatestStamp(t *testing.T) {
	a, _ := keyedCells(t, []string{"g"}, []int{2})
	slot, _ := impl.FindKey(a, "g")
	for n := 1; n <= 65535; n++ {
		next, code := impl.RecordNow(a, n%3, "g", n%1000)
		if code != 0 || next[impl.StampCell(0, slot)] != n || next[impl.GaugeCell(0, slot)] != packed(n, n%1000) {
			t.Fatalf("record %d: %v, %d", n, next, code)
		}
		a = next
	}
	requireReport(t, a, 0, gaugeRow("g", 535))
	a = requireRecord(t, a, 1, "g", 3, 0, [2]int{impl.StampCell(0, slot), 65536}, [2]int{impl.GaugeCell(0, slot), 0})
	requireReport(t, a, 0)
}

// Tickets below, at and beyond RingCap, up to the greatest number of a cell.
func TestRecordNowOfATimer(t *testing.T) {
	const top = impl.Word - 1
	for epoch := range 3 {
		for slot := range 4 {
			key := "abcd"[slot : slot+1]
			first := slotAt(epoch, slot)
			for w := range 3 {
				for _, v := range []int{0, 1, 9, 65534, 65535} {
					slots := make([]slotIn, 4)
					slots[slot] = slotIn{wantTagged(key, 3), [2][]int{rawSlot(5, 7, 4, packed(4, 9), 0, 3, 6, 2), rawSlot(5, 7, 4, packed(4, 9), 0, 3, 6, 2)}}
					a := cellsOf(slots...)
					a[0] = epoch
					for _, ticket := range []int{0, 1, 2} {
						a[first+4] = ticket
						requireRecord(t, a, w, key, v, 0, [2]int{first + 4, ticket + 1}, [2]int{first + 5 + ticket, v + 1})
					}
					for _, ticket := range []int{3, 4, 5, 7, 8, 65535, 65536, 1 << 32, impl.Word / 2, top - 1} {
						a[first+4] = ticket
						requireRecord(t, a, w, key, v, 5, [2]int{first + 4, ticket + 1})
					}
					// After the greatest ticket comes 0, but this sample is dropped.
					a[first+4] = top
					requireRecord(t, a, w, key, v, 5, [2]int{first + 4, 0})
				}
			}
		}
	}
}

// A timer filled up to RingCap and beyond: the first samples stay, the others are dropped.
func TestTimerBeyondItsSamples(t *testing.T) {
	a, kinds := keyedCells(t, []string{"t", "a", "g"}, []int{3, 1, 2})
	m := newWindow(kinds)
	for range 2 {
		for n, v := range []int{8, 2, 5, 0, 65535, 3, 9} {
			a = m.record(t, a, n%3, "t", v)
			a = m.record(t, a, (n+1)%3, "a", v)
		}
		requireReport(t, a, a[0]&1, countRow("a", 65562), timerRow(3, 2, 8, 15, 4))
		a = m.flush(t, a)
	}
}

// Several keys of each kind in every mix of kinds, recorded by each writer, in windows of both parities with flushes between.
func TestWindowsOfEveryMixOfKinds(t *testing.T) {
	for _, keys := range [][]string{{"a", "b", "c", "d"}, {"hits", "cpu", "t", "B_2"}, {"q", "i", "e", "a"}} {
		for mix := range 81 {
			a, kinds := keyedCells(t, keys, []int{1 + mix%3, 1 + mix/3%3, 1 + mix/9%3, 1 + mix/27})
			for _, epoch := range []int{0, 1, impl.Word - 1} {
				a[0] = epoch
				m := newWindow(kinds)
				for n := range 5 {
					for i := range 5*n + 3 {
						a = m.record(t, a, (i+mix)%3, keys[(i*i+n)%4], (i*7919+n*mix)%65536)
					}
					a = m.record(t, a, n%3, "none", 5)
					a = m.flush(t, a)
				}
				a = m.flush(t, a)
			}
		}
	}
}

// Every sequence of five of these records and flushes.
func TestEveryFewRecordsAndFlushes(t *testing.T) {
	start, kinds := keyedCells(t, []string{"c", "g", "t"}, []int{1, 2, 3})
	var extend func(a []int, m *window, left int)
	extend = func(a []int, m *window, left int) {
		if left == 0 {
			return
		}
		for i, key := range []string{"c", "g", "t", "t", "none"} {
			next := newWindow(kinds)
			for k, values := range m.values {
				next.values[k] = slices.Clone(values)
			}
			extend(next.record(t, a, i%3, key, 10*left+i), next, left-1)
		}
		next := newWindow(kinds)
		next.values = m.values
		extend(next.flush(t, a), next, left-1)
	}
	for epoch := range 2 {
		extend(stored(start, 0, epoch, true), newWindow(kinds), 5)
	}
}

// The epoch chooses the window and is incremented modulo Word.
func TestFlushNowOfEachEpoch(t *testing.T) {
	reports := [2][]impl.Row{
		{countRow("B_2", 3), gaugeRow("cpu", 0), countRow("hits", 12), timerRow(1, 0, 0, 0, 0)},
		{countRow("B_2", 1), gaugeRow("cpu", 65535), countRow("hits", impl.Word-1), timerRow(3, 2, 8, 15, 1)},
	}
	a := cellsOf(fourSlots()...)
	for _, c := range []struct{ epoch, next, b int }{
		{0, 1, 0}, {1, 2, 1}, {2, 3, 0}, {3, 4, 1}, {65535, 65536, 1}, {65536, 65537, 0}, {1<<32 - 1, 1 << 32, 1}, {impl.Word - 3, impl.Word - 2, 1}, {impl.Word - 2, impl.Word - 1, 0}, {impl.Word - 1, 0, 1},
	} {
		a[0] = c.epoch
		got, rows := checkFlush(t, a)
		if !slices.Equal(rows, reports[c.b]) {
			t.Errorf("the rows of the flush of epoch %d: %+v", c.epoch, rows)
		}
		want := slices.Clone(a)
		want[0] = c.next
		clear(want[7+32*c.b : 39+32*c.b])
		if !slices.Equal(got, want) {
			t.Errorf("the cells after the flush of epoch %d: %v, want %v", c.epoch, got, want)
		}
		requireReport(t, got, c.b)
		requireReport(t, got, 1-c.b, reports[1-c.b]...)
		// The other window comes next, unless the epoch was the last one of its parity.
		both, rows := checkFlush(t, got)
		if !slices.Equal(rows, reports[1-c.b]) || !impl.BufClear(both, 0) || !impl.BufClear(both, 1) {
			t.Errorf("the second flush from epoch %d on: %v, %+v", c.epoch, both, rows)
		}
		if _, rows := checkFlush(t, both); len(rows) != 0 {
			t.Errorf("the third flush from epoch %d on: %+v", c.epoch, rows)
		}
	}
}

// Empty windows, also in cells without keys, have no rows; the epoch is incremented all the same.
func TestFlushNowOfEmptyWindows(t *testing.T) {
	a := make([]int, 71)
	for n := range 5 {
		got, rows := checkFlush(t, a)
		if len(rows) != 0 || !slices.Equal(got, stored(make([]int, 71), 0, n+1, true)) {
			t.Errorf("flush %d of empty cells: %v, %+v", n, got, rows)
		}
		a = got
	}
}

// Each cell by itself, 0 and the greatest one; and cells of slots without a kind, which are cleared without a row.
func TestFlushNowOfEachCell(t *testing.T) {
	for _, a := range validLists() {
		checkNow(t, a, "a", "g")
	}
	for i := range 71 {
		for _, n := range []int{0, 1, impl.Word - 1} {
			for epoch := range 2 {
				for _, a := range [][]int{make([]int, 71), cellsOf(fourSlots()...), tableWith(4*97, 5)} {
					a[0] = epoch
					a[i] = n
					checkFlush(t, a)
				}
			}
		}
	}
}

// The rows are those of ReportIn: tables with one key in several slots and with numbers that are no tags.
func TestNowWithAnyTable(t *testing.T) {
	raw, other := rawSlot(5, 7, 4, packed(4, 9), 2, 3, 9, 6), rawSlot(0, 3, 0, 65535, 5, 0, 0, 0)
	tags := []int{0, wantTagged("a", 1), wantTagged("a", 3), wantTagged("d", 2), wantTagged("b", 2), wantTagged("e", 3), 4 * 97}
	k := len(tags)
	for n := range k * k * k * k {
		a := cellsOf(
			slotIn{tags[n%k], [2][]int{raw, other}}, slotIn{tags[n/k%k], [2][]int{other, raw}},
			slotIn{tags[n/k/k%k], [2][]int{raw, raw}}, slotIn{tags[n/k/k/k], [2][]int{other, other}},
		)
		a[0] = n
		for _, key := range []string{"a", "b", "d", "e", "q"} {
			checkRecord(t, a, n%3, key, n)
		}
		checkFlush(t, a)
	}
}

// One key in two slots: the record goes where its probe sequence ends.
func TestRecordNowOfAKeyInTwoSlots(t *testing.T) {
	a := cellsOf(slotIn{tag: wantTagged("b", 1)}, slotIn{tag: wantTagged("a", 1)}, slotIn{tag: wantTagged("a", 2)})
	requireRecord(t, a, 0, "a", 5, 0, [2]int{15, 5})
	a = cellsOf(slotIn{tag: 4 * 97}, slotIn{}, slotIn{tag: wantTagged("a", 3)})
	requireRecord(t, a, 0, "a", 5, 2)
	a[4] = 4 * 97
	requireRecord(t, a, 0, "a", 5, 0, [2]int{27, 1}, [2]int{28, 6})
	// The keys of the first and the last slot, whatever the others hold.
	a = cellsOf(slotIn{tag: wantTagged("a", 1)}, slotIn{}, slotIn{}, slotIn{tag: wantTagged("d", 1)})
	requireRecord(t, a, 1, "a", 5, 0, [2]int{8, 5})
	requireRecord(t, a, 1, "d", 5, 0, [2]int{32, 5})
	a[0] = 1
	requireRecord(t, a, 2, "a", 5, 0, [2]int{39, 5})
	requireRecord(t, a, 2, "d", 5, 0, [2]int{63, 5})
}

// A key that is not there: no table, a table of others, a full table, and keys that differ in one byte.
func TestRecordNowWithoutTheKey(t *testing.T) {
	full := cellsOf(fourSlots()...)
	for _, a := range [][]int{make([]int, 71), tableWith(), tableWith(wantTagged("a", 1)), full, tableWith(4*97, 5, 1, impl.Word-1)} {
		for _, key := range []string{"zz", "hit", "Hits", "hitt", "cpv", "CPU", "t0", "T", "B_1", "_", "0"} {
			for w := range 3 {
				for _, v := range []int{0, 9, 65535} {
					requireRecord(t, a, w, key, v, 2)
				}
			}
		}
	}
	for _, key := range someKeys() {
		requireRecord(t, make([]int, 71), 0, key, 5, 2)
	}
}

// Keys of every length and byte that are there, with each kind.
func TestRecordNowOfEveryKey(t *testing.T) {
	for _, key := range someKeys() {
		for kind := 1; kind <= 3; kind++ {
			a, kinds := keyedCells(t, []string{key}, []int{kind})
			m := newWindow(kinds)
			a = m.record(t, a, 1, key, 7)
			a = m.record(t, a, 2, key, 4)
			m.flush(t, a)
		}
	}
}

// Writers, values and keys that are not there: the cells stay as they are.
func TestRecordNowOfInvalidArguments(t *testing.T) {
	a := cellsOf(fourSlots()...)
	for _, key := range []string{"hits", "cpu", "t", "B_2", "none"} {
		for _, w := range append(badNumbers(3), -1, 3, 4) {
			requireRecord(t, a, w, key, 5, 1)
		}
		for _, v := range append(noSamples(), -1, 65536, impl.Word, math.MaxInt) {
			for w := range 3 {
				requireRecord(t, a, w, key, v, 1)
			}
			requireRecord(t, a, 3, key, v, 1)
			requireRecord(t, a, -1, key, v, 1)
		}
	}
	for _, key := range append(someNoKeys(), "hits ", "hits0", "cpu\x00", "t-", "\x00t") {
		for w := -1; w <= 3; w++ {
			for _, v := range []int{-1, 0, 5, 65535, 65536} {
				requireRecord(t, a, w, key, v, 1)
				requireRecord(t, make([]int, 71), w, key, v, 1)
			}
		}
	}
	// Two conditions at once, the other one being that there is no such key: CdArgs applies first.
	empty := make([]int, 71)
	requireRecord(t, empty, 3, "a", 5, 1)
	requireRecord(t, empty, -1, "a", 5, 1)
	requireRecord(t, empty, 0, "a", -1, 1)
	requireRecord(t, empty, 0, "a", 65536, 1)
	requireRecord(t, empty, 0, "", 5, 1)
	requireRecord(t, empty, 0, "a", 5, 2)
	// A timer that is full would be CdDropped.
	timer := cellsOf(slotIn{wantTagged("a", 3), [2][]int{rawSlot(0, 0, 0, 0, 3, 1, 1, 1), nil}})
	requireRecord(t, timer, 3, "a", 5, 1)
	requireRecord(t, timer, 0, "a", 65536, 1)
	requireRecord(t, timer, 0, "a", 5, 5, [2]int{11, 4})
}

// Invalid cells come back as they are, with CdArgs and without rows.
func TestNowOfInvalidCells(t *testing.T) {
	full, empty := cellsOf(fourSlots()...), make([]int, 71)
	lists := append(invalidLists(), full[:70], full[:7], full[1:], append(slices.Clone(full), 0), append(slices.Clone(full), full...), make([]int, 70), make([]int, 72))
	for i := range full {
		for _, n := range []int{-1, impl.Word, impl.Word + 1, math.MinInt, math.MaxInt} {
			lists = append(lists, stored(full, i, n, true), stored(empty, i, n, true))
		}
	}
	for k, a := range lists {
		for _, key := range []string{"hits", "cpu", "t", "B_2", "none", "", "abcde"} {
			requireRecord(t, a, k%3, key, 5, 1)
			requireRecord(t, a, 3, key, 65536, 1)
		}
		if got, rows := checkFlush(t, a); !slices.Equal(got, a) || len(rows) != 0 {
			t.Errorf("FlushNow of invalid cells %d: %v, %+v", k, got, rows)
		}
	}
	if got, code := impl.RecordNow(nil, 0, "a", 1); len(got) != 0 || code != 1 {
		t.Errorf("RecordNow of nil: %v, %d", got, code)
	}
	if got, rows := impl.FlushNow(nil); len(got) != 0 || len(rows) != 0 {
		t.Errorf("FlushNow of nil: %v, %v", got, rows)
	}
}

// What both functions return can be changed without the cells that came in; a part of a longer list is not extended in place.
func TestNowSharesNoMemory(t *testing.T) {
	long := append(cellsOf(fourSlots()...), cellsOf(fourSlots()...)...)
	before := slices.Clone(long)
	for _, key := range []string{"hits", "cpu", "t", "B_2", "none", ""} {
		for w := -1; w <= 3; w++ {
			got, _ := impl.RecordNow(long[:71], w, key, 5)
			clear(got[:cap(got)])
			if !slices.Equal(long, before) {
				t.Fatalf("the result of RecordNow of %q by writer %d shares memory with the cells", key, w)
			}
		}
	}
	for _, n := range []int{0, 70, 71, 72} {
		got, rows := impl.FlushNow(long[:n])
		clear(got[:cap(got)])
		clear(rows[:cap(rows)])
		if !slices.Equal(long, before) {
			t.Fatalf("the result of FlushNow of %d cells shares memory with them", n)
		}
	}
}

// Cells with any numbers: each cell of a slot by itself and each pair with a few.
func TestNowOfAnyCells(t *testing.T) {
	few := []int{0, 1, 2, 3, 4, 65535, 65536, packed(4, 9), packed(5, 0), packed(6, 7), impl.Word - 2, impl.Word - 1}
	for kind := 1; kind <= 3; kind++ {
		for epoch := range 2 {
			for _, raw := range someRaws() {
				a := cellsOf(slotIn{wantTagged("a", kind), [2][]int{raw, raw}}, slotIn{wantTagged("b", 1), [2][]int{raw, raw}})
				a[0] = epoch
				for i := range 8 {
					for _, n := range few {
						one := stored(a, slotAt(epoch, 0)+i, n, true)
						checkNow(t, one, "a")
						for k := range i {
							for _, m := range few {
								checkRecord(t, stored(one, slotAt(epoch, 0)+k, m, true), (i+k)%3, "a", m%65536)
							}
						}
					}
				}
			}
		}
	}
}

package tests

import (
	"maps"
	"math"
	"slices"
	"testing"

	"loop.example/g01608/impl"
)

// rawSlot returns the cells of a slot: two stripes, the stamp, the gauge, the ticket and three samples.
func rawSlot(first, second, stamp, gauge, ticket, a, b, c int) []int {
	return []int{first, second, stamp, gauge, ticket, a, b, c}
}

// packed is the gauge with this stamp and value, written out so that a wrong PackGauge shows.
func packed(stamp, v int) int {
	return stamp<<16 | v
}

// wantRowFrom takes the sum from the library and the samples from a list.
func wantRowFrom(tag int, raw []int) impl.Row {
	key, kind := wantUntagged(tag)
	if kind == 0 || len(raw) != 8 {
		return impl.Row{}
	}
	switch {
	case kind == 1:
		return countRow(key, wrapped(raw[0], raw[1]))
	case kind == 2 && within(raw[3], 65536, 4294967295):
		return gaugeRow(key, raw[3]&65535)
	case kind == 2:
		return impl.Row{Key: key, Kind: 2}
	}
	var samples []int
	for i, n := range raw[5:] {
		if i < raw[4] && within(n, 1, 65536) {
			samples = append(samples, n-1)
		}
	}
	r := timerOf(samples)
	r.Key = key
	if len(samples) == 3 && raw[4] > 3 {
		r.Dropped = []int{raw[4] - 3, 65535}[min(raw[4]/65539, 1)]
	}
	return r
}

func checkRowFrom(t *testing.T, tag int, raw []int) {
	t.Helper()
	arg := roomy(raw)
	got, want := impl.RowFrom(tag, arg), wantRowFrom(tag, raw)
	if got != want {
		t.Errorf("RowFrom(%d, %v) = %+v, want %+v", tag, raw, got, want)
	}
	if got != (impl.Row{}) && (!impl.RowOk(got) || !wantRowOk(got)) {
		t.Errorf("RowFrom(%d, %v) = %+v is not valid", tag, raw, got)
	}
	checkApart(t, "RowFrom", arg, raw, nil)
}

// requireRowFrom checks that RowFrom returns this row, as the test itself says.
func requireRowFrom(t *testing.T, tag int, raw []int, want impl.Row) {
	t.Helper()
	if got := impl.RowFrom(tag, raw); got != want {
		t.Errorf("RowFrom(%d, %v) = %+v, want %+v", tag, raw, got, want)
	}
	checkRowFrom(t, tag, raw)
}

func TestRowFromOfACounter(t *testing.T) {
	const top = impl.Word - 1
	for _, c := range [][3]int{
		{0, 0, 0}, {5, 7, 12}, {5, 0, 5}, {0, 7, 7}, {65535, 65535, 131070}, {top, 0, top}, {0, top, top}, {top - 1, 1, top}, {impl.Word / 2, impl.Word/2 - 1, top},
		// Sums that come to Word or beyond it.
		{top, 1, 0}, {1, top, 0}, {impl.Word / 2, impl.Word / 2, 0}, {top, 2, 1}, {2, top, 1}, {top, top, top - 1},
		// Numbers that no cell can hold, and sums that an int cannot hold.
		{-1, 0, top}, {0, -1, top}, {-1, 1, 0}, {-1, -1, top - 1}, {5, -12, impl.Word - 7}, {impl.Word, 0, 0}, {0, impl.Word, 0}, {impl.Word + 3, 4, 7}, {-impl.Word, 4, 4}, {4, -impl.Word - 1, 3},
		{math.MaxInt, 0, top}, {math.MaxInt, 1, 0}, {math.MaxInt, math.MaxInt, top - 1}, {math.MinInt, 0, 0}, {math.MinInt, 9, 9}, {math.MinInt, math.MinInt, 0}, {math.MinInt, -1, top}, {math.MinInt, math.MaxInt, top},
	} {
		for _, key := range []string{"a", "hits", "_", "Z9"} {
			requireRowFrom(t, wantTagged(key, 1), rawSlot(c[0], c[1], 0, 0, 0, 0, 0, 0), countRow(key, c[2]))
			requireRowFrom(t, wantTagged(key, 1), rawSlot(c[0], c[1], 4, packed(4, 9), 5, 3, 9, 6), countRow(key, c[2]))
		}
	}
}

func TestRowFromOfAGauge(t *testing.T) {
	tag := wantTagged("gg", 2)
	for _, stamp := range []int{1, 2, 4, 255, 256, 65534, 65535} {
		for _, v := range []int{0, 1, 9, 255, 256, 65534, 65535} {
			// Only the gauge matters, not the stamp beside it.
			for _, beside := range []int{0, 1, stamp, 65536, impl.Word - 1, -1} {
				requireRowFrom(t, tag, rawSlot(0, 0, beside, packed(stamp, v), 0, 0, 0, 0), gaugeRow("gg", v))
				requireRowFrom(t, tag, rawSlot(5, 7, beside, packed(stamp, v), 3, 3, 9, 6), gaugeRow("gg", v))
			}
		}
	}
	// No stamp, one that is too great, and numbers that no cell can hold.
	for _, gauge := range []int{
		0, 1, 7, 65534, 65535, packed(65536, 0), packed(65536, 9), packed(65537, 7), packed(1<<17, 7), impl.Word - 1, impl.Word, impl.Word + packed(3, 7), 1<<62 + packed(3, 7),
		-1, -65535, -65536, -65537, -packed(3, 7), -packed(65535, 65535), -impl.Word, math.MinInt, math.MinInt + packed(3, 7), math.MaxInt,
	} {
		for _, stamp := range []int{0, 3, 65535} {
			requireRowFrom(t, tag, rawSlot(0, 0, stamp, gauge, 0, 0, 0, 0), impl.Row{Key: "gg", Kind: 2})
			requireRowFrom(t, tag, rawSlot(5, 7, stamp, gauge, 3, 3, 9, 6), impl.Row{Key: "gg", Kind: 2})
		}
	}
	for _, n := range numbersNear() {
		checkRowFrom(t, tag, rawSlot(5, 7, 4, n, 3, 3, 9, 6))
	}
}

func TestRowFromOfATimer(t *testing.T) {
	tag := wantTagged("t", 3)
	for _, c := range []struct {
		ticket  int
		samples [3]int
		want    impl.Row
	}{
		{0, [3]int{0, 0, 0}, timerRow(0, 0, 0, 0, 0)},
		{0, [3]int{3, 9, 6}, timerRow(0, 0, 0, 0, 0)},
		{1, [3]int{3, 9, 6}, timerRow(1, 2, 2, 2, 0)},
		{2, [3]int{3, 9, 6}, timerRow(2, 2, 8, 10, 0)},
		{3, [3]int{3, 9, 6}, timerRow(3, 2, 8, 15, 0)},
		{4, [3]int{3, 9, 6}, timerRow(3, 2, 8, 15, 1)},
		{5, [3]int{3, 9, 6}, timerRow(3, 2, 8, 15, 2)},
		// The limits of Dropped: 65535 and one more, and the greatest numbers.
		{65537, [3]int{3, 9, 6}, timerRow(3, 2, 8, 15, 65534)},
		{65538, [3]int{3, 9, 6}, timerRow(3, 2, 8, 15, 65535)},
		{65539, [3]int{3, 9, 6}, timerRow(3, 2, 8, 15, 65535)},
		{65540, [3]int{3, 9, 6}, timerRow(3, 2, 8, 15, 65535)},
		{impl.Word - 1, [3]int{3, 9, 6}, timerRow(3, 2, 8, 15, 65535)},
		{impl.Word, [3]int{3, 9, 6}, timerRow(3, 2, 8, 15, 65535)},
		{math.MaxInt, [3]int{3, 9, 6}, timerRow(3, 2, 8, 15, 65535)},
		// Tickets that no cell can hold, and have given out no sample.
		{-1, [3]int{3, 9, 6}, timerRow(0, 0, 0, 0, 0)},
		{-3, [3]int{3, 9, 6}, timerRow(0, 0, 0, 0, 0)},
		{math.MinInt, [3]int{3, 9, 6}, timerRow(0, 0, 0, 0, 0)},
		{math.MinInt + 2, [3]int{3, 9, 6}, timerRow(0, 0, 0, 0, 0)},
		// The limits of a sample: the values 0 and 65535.
		{1, [3]int{1, 0, 0}, timerRow(1, 0, 0, 0, 0)},
		{1, [3]int{65536, 0, 0}, timerRow(1, 65535, 65535, 65535, 0)},
		{3, [3]int{1, 1, 1}, timerRow(3, 0, 0, 0, 0)},
		{3, [3]int{65536, 1, 65536}, timerRow(3, 0, 65535, 131070, 0)},
		{9, [3]int{65536, 65536, 65536}, timerRow(3, 65535, 65535, 196605, 6)},
		// One beyond them, within the ticket: such a sample is not there, and then none is dropped.
		{1, [3]int{0, 9, 6}, timerRow(0, 0, 0, 0, 0)},
		{1, [3]int{65537, 9, 6}, timerRow(0, 0, 0, 0, 0)},
		{2, [3]int{0, 9, 6}, timerRow(1, 8, 8, 8, 0)},
		{2, [3]int{3, 0, 6}, timerRow(1, 2, 2, 2, 0)},
		{3, [3]int{0, 9, 6}, timerRow(2, 5, 8, 13, 0)},
		{3, [3]int{3, 0, 6}, timerRow(2, 2, 5, 7, 0)},
		{3, [3]int{3, 9, 0}, timerRow(2, 2, 8, 10, 0)},
		{3, [3]int{0, 0, 0}, timerRow(0, 0, 0, 0, 0)},
		{3, [3]int{65537, 9, 6}, timerRow(2, 5, 8, 13, 0)},
		{3, [3]int{3, 65537, 6}, timerRow(2, 2, 5, 7, 0)},
		{3, [3]int{3, 9, 65537}, timerRow(2, 2, 8, 10, 0)},
		{4, [3]int{0, 9, 6}, timerRow(2, 5, 8, 13, 0)},
		{4, [3]int{3, 9, 0}, timerRow(2, 2, 8, 10, 0)},
		{70000, [3]int{3, 9, 65537}, timerRow(2, 2, 8, 10, 0)},
		{5, [3]int{0, 65537, 1}, timerRow(1, 0, 0, 0, 0)},
		{5, [3]int{0, 65537, 0}, timerRow(0, 0, 0, 0, 0)},
		{math.MaxInt, [3]int{3, 9, 0}, timerRow(2, 2, 8, 10, 0)},
		// Samples that no cell can hold; the value of the least integer is not one either.
		{4, [3]int{-1, math.MinInt, math.MaxInt}, timerRow(0, 0, 0, 0, 0)},
		{4, [3]int{math.MinInt, 9, impl.Word}, timerRow(1, 8, 8, 8, 0)},
		{3, [3]int{impl.Word + 3, 1<<32 + 9, -6}, timerRow(0, 0, 0, 0, 0)},
		{3, [3]int{impl.Word - 1, 65536, 1}, timerRow(2, 0, 65535, 65535, 0)},
	} {
		ring := c.samples
		requireRowFrom(t, tag, rawSlot(0, 0, 0, 0, c.ticket, ring[0], ring[1], ring[2]), c.want)
		requireRowFrom(t, tag, rawSlot(5, 7, 4, packed(4, 9), c.ticket, ring[0], ring[1], ring[2]), c.want)
	}
}

// Every ticket with every three samples of the limits, one beyond them and numbers that no cell can hold.
func TestRowFromOfEveryTicketAndSamples(t *testing.T) {
	samples := []int{math.MinInt, -1, 0, 1, 2, 65536, 65537, impl.Word - 1, math.MaxInt}
	for _, ticket := range []int{math.MinInt, -1, 0, 1, 2, 3, 4, 5, 65537, 65538, 65539, impl.Word - 1, impl.Word, math.MaxInt} {
		for n := range 9 * 9 * 9 {
			checkRowFrom(t, wantTagged("tick", 3), rawSlot(5, 7, 4, packed(4, 9), ticket, samples[n%9], samples[n/9%9], samples[n/81]))
		}
	}
}

// someRaws has the cells of slots that give a row of each kind, of one kind only and of none.
func someRaws() [][]int {
	const top = impl.Word - 1
	return [][]int{
		rawSlot(5, 7, 4, packed(4, 9), 5, 3, 9, 6), rawSlot(0, 0, 0, 0, 0, 0, 0, 0), rawSlot(top, top, top, top, top, top, top, top), rawSlot(1, 1, 1, 1, 1, 1, 1, 1),
		rawSlot(0, 7, 0, 0, 0, 0, 0, 0), rawSlot(0, 0, 1, packed(1, 0), 0, 0, 0, 0), rawSlot(0, 0, 0, 0, 1, 1, 0, 0), rawSlot(top, 1, 4, 65535, 3, 0, 65537, 0),
	}
}

func TestRowFromTags(t *testing.T) {
	for k, raw := range someRaws() {
		for _, key := range someKeys() {
			for _, kind := range []int{1, 2, 3} {
				if r := impl.RowFrom(wantTagged(key, kind), raw); r.Key != key || r.Kind != kind {
					t.Errorf("the row of %q with kind %d from raw %d: %+v", key, kind, k, r)
				}
				checkRowFrom(t, wantTagged(key, kind), raw)
			}
		}
		for _, tag := range numbersNear() {
			checkRowFrom(t, tag, raw)
		}
		// 0, numbers with kind 0, and numbers that Untag does not decode for other reasons.
		for _, tag := range []int{
			0, 4 * 97, 4 * 24930, 4 * 1633837924, 1, 2, 3, 97, 4*45 + 1, 4*(97*256+45) + 2, 4*97*256 + 3, 4*(1633837924*256+101) + 1,
			1<<40 + wantTagged("a", 1), impl.Word - 1, impl.Word + wantTagged("a", 1), -1, -wantTagged("a", 1), -wantTagged("a", 3), math.MinInt, math.MinInt + wantTagged("b", 2), math.MaxInt,
		} {
			requireRowFrom(t, tag, raw, impl.Row{})
		}
	}
}

func TestRowFromLength(t *testing.T) {
	numbers := slices.Concat(someRaws()...)
	for kind := 1; kind <= 3; kind++ {
		tag := wantTagged("a", kind)
		for n := range 25 {
			checkRowFrom(t, tag, numbers[:n])
			if n != impl.PerSlot {
				requireRowFrom(t, tag, numbers[:n], impl.Row{})
			}
		}
		for _, raw := range someRaws() {
			requireRowFrom(t, tag, raw[1:], impl.Row{})
			requireRowFrom(t, tag, raw[:7], impl.Row{})
			requireRowFrom(t, tag, append(slices.Clone(raw), 0), impl.Row{})
			requireRowFrom(t, tag, append([]int{0}, raw...), impl.Row{})
		}
		requireRowFrom(t, tag, nil, impl.Row{})
		requireRowFrom(t, tag, []int{}, impl.Row{})
		if impl.RowFrom(0, nil) != (impl.Row{}) {
			t.Error("the row of nothing")
		}
	}
}

// Each cell with many numbers, and each pair of cells with a few.
func TestRowFromOfAnyNumbers(t *testing.T) {
	few := []int{0, 1, 3, 4, -1, 65536, 65538, 65539, impl.Word - 1, math.MinInt, math.MaxInt}
	for kind := 1; kind <= 3; kind++ {
		tag := wantTagged("any", kind)
		for _, raw := range someRaws() {
			for i := range raw {
				for _, n := range numbersNear() {
					checkRowFrom(t, tag, stored(raw, i, n, true))
				}
				for k := range i {
					for n := range 11 * 11 {
						checkRowFrom(t, tag, stored(stored(raw, i, few[n%11], true), k, few[n/11], true))
					}
				}
			}
		}
	}
}

// slotIn is a key cell with the cells of its slot in buffer 0 and in buffer 1.
type slotIn struct {
	tag  int
	raws [2][]int
}

// cellsOf returns valid cells with these slots, from slot 0 on; a slot that is not given is all 0.
func cellsOf(slots ...slotIn) []int {
	a := make([]int, 71)
	a[0], a[1], a[2] = 4, 1, 2
	for i, s := range slots {
		a[3+i] = s.tag
		copy(a[7+8*i:], s.raws[0])
		copy(a[39+8*i:], s.raws[1])
	}
	return a
}

func wantRowIn(a []int, b, slot int) impl.Row {
	if !wantValidCells(a) || !within(b, 0, 1) || !within(slot, 0, 3) {
		return impl.Row{}
	}
	first := 7 + 32*b + 8*slot
	return wantRowFrom(a[3+slot], a[first:first+8])
}

// wantReportIn goes through the slots from the last one on, so that the smallest one gives the row of a key.
func wantReportIn(a []int, b int) []impl.Row {
	rows := map[string]impl.Row{}
	for slot := 3; slot >= 0; slot-- {
		if r := wantRowIn(a, b, slot); r.Sum != 0 || r.N != 0 || r.Set {
			rows[r.Key] = r
		}
	}
	var out []impl.Row
	for _, key := range slices.Sorted(maps.Keys(rows)) {
		out = append(out, rows[key])
	}
	return out
}

func wantCleared(a []int, b int) []int {
	out := slices.Clone(a)
	for i := range out {
		if wantValidCells(a) && within(b, 0, 1) && within(i-7-32*b, 0, 31) {
			out[i] = 0
		}
	}
	return out
}

func wantBufClear(a []int, b int) bool {
	if !wantValidCells(a) || !within(b, 0, 1) {
		return false
	}
	for _, n := range [][]int{a[7:39], a[39:71]}[b] {
		if n != 0 {
			return false
		}
	}
	return true
}

func checkRowIn(t *testing.T, a []int, b, slot int) {
	t.Helper()
	arg := roomy(a)
	if got, want := impl.RowIn(arg, b, slot), wantRowIn(a, b, slot); got != want {
		t.Errorf("RowIn(%v, %d, %d) = %+v, want %+v", a, b, slot, got, want)
	}
	checkApart(t, "RowIn", arg, a, nil)
}

func checkReportIn(t *testing.T, a []int, b int) {
	t.Helper()
	arg := roomy(a)
	got, want := impl.ReportIn(arg, b), wantReportIn(a, b)
	if !slices.Equal(got, want) {
		t.Errorf("ReportIn(%v, %d) = %+v, want %+v", a, b, got, want)
	}
	if !impl.ReportOk(got) || !wantReportOk(got) {
		t.Errorf("ReportIn(%v, %d) = %+v is not valid", a, b, got)
	}
	// A change of the result must not show in the next one.
	for i := range got[:cap(got)] {
		got[:cap(got)][i] = markRow()
	}
	if again := impl.ReportIn(arg, b); !slices.Equal(again, want) {
		t.Errorf("ReportIn(%v, %d) again = %+v, want %+v", a, b, again, want)
	}
	checkApart(t, "ReportIn", arg, a, nil)
}

func checkClearBuf(t *testing.T, a []int, b int) {
	t.Helper()
	arg := roomy(a)
	if got, want := impl.BufClear(arg, b), wantBufClear(a, b); got != want {
		t.Errorf("BufClear(%v, %d) = %v, want %v", a, b, got, want)
	}
	checkApart(t, "BufClear", arg, a, nil)
	got := impl.ClearBuf(arg, b)
	if want := wantCleared(a, b); !slices.Equal(got, want) {
		t.Errorf("ClearBuf(%v, %d) = %v, want %v", a, b, got, want)
	}
	checkApart(t, "ClearBuf", arg, a, got)
}

// checkCleared checks promise 7 for one buffer of valid cells: it is empty, and the other one and its report stay.
func checkCleared(t *testing.T, a []int, b int) {
	t.Helper()
	got := impl.ClearBuf(a, b)
	if !impl.BufClear(got, b) || len(impl.ReportIn(got, b)) != 0 {
		t.Errorf("buffer %d of %v is not empty: %v", b, a, got)
	}
	if impl.BufClear(got, 1-b) != impl.BufClear(a, 1-b) || !impl.SameReport(impl.ReportIn(got, 1-b), impl.ReportIn(a, 1-b)) {
		t.Errorf("with buffer %d of %v the other one is changed: %v", b, a, got)
	}
	if !slices.Equal(impl.KeysIn(got), impl.KeysIn(a)) || !slices.Equal(got[:7], a[:7]) {
		t.Errorf("with buffer %d of %v the keys are changed: %v", b, a, got)
	}
}

// checkDrain compares all functions of the chapter for both buffers, all slots and one beyond them.
func checkDrain(t *testing.T, a []int) {
	t.Helper()
	for b := -1; b <= 2; b++ {
		for slot := -1; slot <= 4; slot++ {
			checkRowIn(t, a, b, slot)
		}
		checkReportIn(t, a, b)
		checkClearBuf(t, a, b)
	}
}

func requireReport(t *testing.T, a []int, b int, want ...impl.Row) {
	t.Helper()
	if got := impl.ReportIn(a, b); !slices.Equal(got, want) {
		t.Errorf("ReportIn(%v, %d) = %+v, want %+v", a, b, got, want)
	}
}

// fourSlots has a slot of each kind and a further counter, each with a row in both buffers.
func fourSlots() []slotIn {
	return []slotIn{
		{wantTagged("hits", 1), [2][]int{rawSlot(5, 7, 0, 0, 0, 0, 0, 0), rawSlot(impl.Word-1, 0, 0, 0, 0, 0, 0, 0)}},
		{wantTagged("cpu", 2), [2][]int{rawSlot(0, 0, 1, packed(1, 0), 0, 0, 0, 0), rawSlot(0, 0, 65535, packed(65535, 65535), 0, 0, 0, 0)}},
		{wantTagged("t", 3), [2][]int{rawSlot(0, 0, 0, 0, 1, 1, 0, 0), rawSlot(0, 0, 0, 0, 4, 3, 9, 6)}},
		{wantTagged("B_2", 1), [2][]int{rawSlot(impl.Word-1, 4, 0, 0, 0, 0, 0, 0), rawSlot(0, 1, 0, 0, 0, 0, 0, 0)}},
	}
}

// The order of the rows is that of the keys, whatever the order of the slots; reading and clearing one buffer does not concern the other one.
func TestReportsOfBothBuffers(t *testing.T) {
	reports := [2][]impl.Row{
		{countRow("B_2", 3), gaugeRow("cpu", 0), countRow("hits", 12), timerRow(1, 0, 0, 0, 0)},
		{countRow("B_2", 1), gaugeRow("cpu", 65535), countRow("hits", impl.Word-1), timerRow(3, 2, 8, 15, 1)},
	}
	slots := fourSlots()
	orders([]string{"\x00", "\x01", "\x02", "\x03"}, func(list []string) {
		var placed []slotIn
		for _, s := range list {
			placed = append(placed, slots[s[0]])
		}
		a := cellsOf(placed...)
		checkDrain(t, a)
		for b, report := range reports {
			requireReport(t, a, b, report...)
			cleared := impl.ClearBuf(a, b)
			requireReport(t, cleared, b)
			requireReport(t, cleared, 1-b, reports[1-b]...)
			if !impl.BufClear(cleared, b) || impl.BufClear(cleared, 1-b) || impl.BufClear(a, 0) || impl.BufClear(a, 1) {
				t.Errorf("BufClear after buffer %d of %v was cleared", b, a)
			}
			checkCleared(t, a, b)
			checkDrain(t, cleared)
			both := impl.ClearBuf(cleared, 1-b)
			if !impl.BufClear(both, 0) || !impl.BufClear(both, 1) || !slices.Equal(both[:7], a[:7]) {
				t.Errorf("both buffers of %v cleared: %v", a, both)
			}
		}
	})
}

// No slot, one slot at each place and all but one with a row.
func TestReportOfSomeSlots(t *testing.T) {
	slots := fourSlots()
	none := rawSlot(0, 0, 0, 0, 0, 0, 0, 0)
	for without := range 16 {
		for b := range 2 {
			placed := slices.Clone(slots)
			var keys []string
			for i, key := range []string{"hits", "cpu", "t", "B_2"} {
				if without>>i&1 == 1 {
					placed[i].raws[b] = none
				} else {
					keys = append(keys, key)
				}
			}
			slices.Sort(keys)
			a := cellsOf(placed...)
			checkDrain(t, a)
			var got []string
			for _, r := range impl.ReportIn(a, b) {
				got = append(got, r.Key)
			}
			if !slices.Equal(got, keys) || len(impl.ReportIn(a, 1-b)) != 4 || len(impl.KeysIn(a)) != 4 {
				t.Errorf("keys in the report of buffer %d of %v: %q, want %q", b, a, got, keys)
			}
			if impl.BufClear(a, b) != (without == 15) || impl.BufClear(a, 1-b) {
				t.Errorf("BufClear(%v, %d) = %v", a, b, impl.BufClear(a, b))
			}
		}
	}
	requireReport(t, make([]int, 71), 0)
	requireReport(t, make([]int, 71), 1)
	checkDrain(t, make([]int, 71))
}

// Of several slots with one key, the smallest one that has a row gives it.
func TestSlotsWithTheSameKey(t *testing.T) {
	count, gauge, timer := wantTagged("a", 1), wantTagged("a", 2), wantTagged("a", 3)
	timerA := func(n, least, greatest, total int) impl.Row {
		return impl.Row{Key: "a", Kind: 3, N: n, Min: least, Max: greatest, Total: total}
	}
	// raw gives a row of each kind, with quiet ones for single kinds below.
	raw, other, none := rawSlot(5, 7, 4, packed(4, 9), 2, 3, 9, 6), rawSlot(1, 0, 1, packed(1, 2), 1, 5, 0, 0), rawSlot(0, 0, 0, 0, 0, 0, 0, 0)
	noCount, noGauge, noTimer := rawSlot(0, 0, 4, packed(4, 9), 2, 3, 9, 6), rawSlot(5, 7, 4, 9, 2, 3, 9, 6), rawSlot(5, 7, 4, packed(4, 9), 0, 3, 9, 6)
	for _, c := range []struct {
		low, high       int
		lowRaw, highRaw []int
		want            []impl.Row
	}{
		// One kind: the smaller slot quiet, the greater one quiet, both with a row, neither with a row.
		{count, count, noCount, raw, []impl.Row{countRow("a", 12)}},
		{count, count, raw, noCount, []impl.Row{countRow("a", 12)}},
		{count, count, raw, other, []impl.Row{countRow("a", 12)}},
		{count, count, other, raw, []impl.Row{countRow("a", 1)}},
		{count, count, noCount, none, nil},
		{gauge, gauge, noGauge, raw, []impl.Row{gaugeRow("a", 9)}},
		{gauge, gauge, raw, noGauge, []impl.Row{gaugeRow("a", 9)}},
		{gauge, gauge, raw, other, []impl.Row{gaugeRow("a", 9)}},
		{gauge, gauge, other, raw, []impl.Row{gaugeRow("a", 2)}},
		{gauge, gauge, noGauge, none, nil},
		{timer, timer, noTimer, raw, []impl.Row{timerA(2, 2, 8, 10)}},
		{timer, timer, raw, noTimer, []impl.Row{timerA(2, 2, 8, 10)}},
		{timer, timer, raw, other, []impl.Row{timerA(2, 2, 8, 10)}},
		{timer, timer, other, raw, []impl.Row{timerA(1, 4, 4, 4)}},
		{timer, timer, noTimer, none, nil},
		// Different kinds.
		{count, gauge, raw, raw, []impl.Row{countRow("a", 12)}},
		{count, gauge, noCount, raw, []impl.Row{gaugeRow("a", 9)}},
		{count, gauge, raw, noGauge, []impl.Row{countRow("a", 12)}},
		{count, gauge, noCount, noGauge, nil},
		{gauge, count, raw, raw, []impl.Row{gaugeRow("a", 9)}},
		{gauge, count, noGauge, raw, []impl.Row{countRow("a", 12)}},
		{gauge, count, raw, noCount, []impl.Row{gaugeRow("a", 9)}},
		{timer, count, raw, raw, []impl.Row{timerA(2, 2, 8, 10)}},
		{timer, count, noTimer, raw, []impl.Row{countRow("a", 12)}},
		{count, timer, raw, raw, []impl.Row{countRow("a", 12)}},
		{count, timer, noCount, raw, []impl.Row{timerA(2, 2, 8, 10)}},
		{timer, gauge, raw, raw, []impl.Row{timerA(2, 2, 8, 10)}},
		{timer, gauge, noTimer, raw, []impl.Row{gaugeRow("a", 9)}},
		{gauge, timer, raw, other, []impl.Row{gaugeRow("a", 9)}},
		{timer, gauge, noTimer, noGauge, nil},
	} {
		for b := range 2 {
			for high := 1; high < 4; high++ {
				for low := range high {
					// The other buffer has the slots' cells the other way round, so that a mistaken buffer shows.
					slots := make([]slotIn, 4)
					slots[low].tag, slots[high].tag = c.low, c.high
					slots[low].raws[b], slots[high].raws[b] = c.lowRaw, c.highRaw
					slots[low].raws[1-b], slots[high].raws[1-b] = c.highRaw, c.lowRaw
					a := cellsOf(slots...)
					requireReport(t, a, b, c.want...)
					checkDrain(t, a)
					checkCleared(t, a, b)
					// The key between, before and behind other keys.
					for i, key := range []string{"b", "A", "aa", "Zz"} {
						if i != low && i != high {
							slots[i] = slotIn{wantTagged(key, 1), [2][]int{other, other}}
						}
					}
					checkDrain(t, cellsOf(slots...))
				}
			}
		}
	}
}

// Three and four slots with one key, each of them quiet or not.
func TestManySlotsWithTheSameKey(t *testing.T) {
	for _, kinds := range [][4]int{{1, 1, 1, 1}, {2, 2, 2, 2}, {3, 3, 3, 3}, {1, 2, 3, 1}, {3, 2, 1, 3}, {2, 1, 1, 2}} {
		for quiet := range 16 {
			slots := make([]slotIn, 4)
			smallest := -1
			for i := range slots {
				slots[i].tag = wantTagged("key", kinds[i])
				if quiet>>i&1 == 1 {
					continue
				}
				slots[i].raws[0] = rawSlot(i+1, 0, 1, packed(1, i+1), 1, i+2, 0, 0)
				if smallest < 0 {
					smallest = i
				}
			}
			a := cellsOf(slots...)
			checkDrain(t, a)
			requireReport(t, a, 1)
			got := impl.ReportIn(a, 0)
			if smallest < 0 {
				requireReport(t, a, 0)
			} else if v := smallest + 1; len(got) != 1 || got[0].Kind != kinds[smallest] || got[0].Sum+got[0].Last+got[0].Total != v {
				t.Errorf("ReportIn(%v, 0) = %+v, want one row with %d", a, got, v)
			}
		}
	}
}

// Every table of these slots: one key with several kinds, keys that are a part of each other, and numbers that are no tags.
func TestReportOfEveryFewSlots(t *testing.T) {
	raw, other := rawSlot(5, 7, 4, packed(4, 9), 2, 3, 9, 6), rawSlot(0, 3, 0, 65535, 5, 0, 0, 0)
	var choices []slotIn
	for _, tag := range []int{0, wantTagged("a", 1), wantTagged("a", 3), wantTagged("aa", 2), wantTagged("b", 1), wantTagged("A", 3), 4 * 97} {
		choices = append(choices, slotIn{tag, [2][]int{raw, other}}, slotIn{tag, [2][]int{other, raw}})
	}
	k := len(choices)
	for n := range k * k * k * k {
		a := cellsOf(choices[n%k], choices[n/k%k], choices[n/k/k%k], choices[n/k/k/k])
		checkReportIn(t, a, 0)
		checkReportIn(t, a, 1)
	}
}

// The keys are compared byte by byte.
func TestReportOfEveryPairOfKeys(t *testing.T) {
	for _, low := range someKeys() {
		for _, high := range someKeys() {
			raws := [2][]int{rawSlot(1, 2, 0, 0, 1, 1, 0, 0), rawSlot(4, 0, 0, 0, 1, 9, 0, 0)}
			a := cellsOf(slotIn{}, slotIn{wantTagged(low, 1), raws}, slotIn{}, slotIn{wantTagged(high, 3), raws})
			checkDrain(t, a)
			report := impl.ReportIn(a, 0)
			if low == high {
				requireReport(t, a, 0, countRow(low, 3))
			} else if len(report) != 2 || slices.Compare([]byte(report[0].Key), []byte(report[1].Key)) >= 0 {
				t.Errorf("ReportIn of %q and %q: %+v", low, high, report)
			}
		}
	}
}

// Key cells that hold no tag have no row, whatever their slots contain.
func TestSlotsWithoutAKind(t *testing.T) {
	raw := rawSlot(5, 7, 4, packed(4, 9), 5, 3, 9, 6)
	for _, tag := range []int{0, 1, 2, 3, 4 * 97, 4 * 24930, 4*45 + 1, 4*(97*256+45) + 2, 4*97*256 + 1, 4*(1633837924*256+101) + 1, 1<<40 + wantTagged("a", 1), impl.Word - 1} {
		without := slotIn{tag, [2][]int{raw, raw}}
		for slot := range 4 {
			for b := range 2 {
				a := cellsOf(without, without, without, without)
				requireReport(t, a, b)
				if r := impl.RowIn(a, b, slot); r != (impl.Row{}) {
					t.Errorf("RowIn(%v, %d, %d) = %+v", a, b, slot, r)
				}
				a[3+slot] = wantTagged("k", 1)
				requireReport(t, a, b, countRow("k", 12))
				checkDrain(t, a)
				checkCleared(t, a, b)
			}
		}
	}
}

// Each slot of each buffer has cells of its own: cells that are all different, with each kind in each slot.
func TestRowInOfEachSlot(t *testing.T) {
	for kind := 1; kind <= 3; kind++ {
		for b := range 2 {
			for slot := range 4 {
				a := tableWith(wantTagged("a", kind), wantTagged("b", kind), wantTagged("c", kind), wantTagged("d", kind))
				for i := 7; i < 71; i++ {
					a[i] = 65536 + 100*i
				}
				first := 7 + 32*b + 8*slot
				copy(a[first:], rawSlot(5, 7, 4, packed(4, 9), 3, 3, 9, 6))
				want := []impl.Row{{Sum: 12}, {Set: true, Last: 9}, {N: 3, Min: 2, Max: 8, Total: 15}}[kind-1]
				want.Key, want.Kind = "abcd"[slot:slot+1], kind
				if r := impl.RowIn(a, b, slot); r != want {
					t.Errorf("RowIn(%v, %d, %d) = %+v, want %+v", a, b, slot, r, want)
				}
				checkDrain(t, a)
				// A single cell of the slot changes no other row.
				for i := range 8 {
					checkDrain(t, stored(a, first+i, 0, true))
					checkDrain(t, stored(a, first+i, impl.Word-1, true))
				}
			}
		}
	}
}

// Buffers and slots that are not there.
func TestNoSuchBufferOrSlot(t *testing.T) {
	a := cellsOf(fourSlots()...)
	for _, n := range append(badNumbers(4), badNumbers(2)...) {
		for k := range 4 {
			checkRowIn(t, a, n, k)
			checkRowIn(t, a, k, n)
			if within(n, 0, 3) {
				continue
			}
			if r := impl.RowIn(a, n, k); r != (impl.Row{}) {
				t.Errorf("RowIn of buffer %d and slot %d: %+v", n, k, r)
			}
			if r := impl.RowIn(a, k, n); r != (impl.Row{}) {
				t.Errorf("RowIn of buffer %d and slot %d: %+v", k, n, r)
			}
		}
		checkRowIn(t, a, n, n)
		checkReportIn(t, a, n)
		checkClearBuf(t, a, n)
		requireReport(t, a, n)
		if impl.BufClear(a, n) || impl.BufClear(make([]int, 71), n) || !slices.Equal(impl.ClearBuf(a, n), a) {
			t.Errorf("there is a buffer %d", n)
		}
		checkClearBuf(t, make([]int, 71), n)
	}
	for _, b := range []int{-1, 2} {
		requireReport(t, a, b)
		if impl.BufClear(make([]int, 71), b) || !slices.Equal(impl.ClearBuf(a, b), a) {
			t.Errorf("there is a buffer %d", b)
		}
	}
	for _, slot := range []int{-1, 4} {
		if impl.RowIn(a, 0, slot) != (impl.Row{}) || impl.RowIn(a, 1, slot) != (impl.Row{}) {
			t.Errorf("there is a slot %d", slot)
		}
	}
}

// Cells of which one is 0 or the greatest one, cells that are all so, and each cell by itself.
func TestClearBufOfEachCell(t *testing.T) {
	for _, a := range validLists() {
		checkDrain(t, a)
		checkCleared(t, a, 0)
		checkCleared(t, a, 1)
	}
	for i := range 71 {
		for _, n := range []int{0, 1, impl.Word - 1} {
			one, other := stored(make([]int, 71), i, n, true), stored(tableWith(wantTagged("a", 1)), i, n, true)
			checkClearBuf(t, other, 0)
			checkClearBuf(t, other, 1)
			for b := range 2 {
				inside := within(i, 7+32*b, 38+32*b)
				checkClearBuf(t, one, b)
				if got := impl.BufClear(one, b); got != (n == 0 || !inside) {
					t.Errorf("BufClear with cell %d = %d and buffer %d: %v", i, n, b, got)
				}
				if got := impl.ClearBuf(one, b); got[i] != n && !inside || got[i] != 0 && inside {
					t.Errorf("ClearBuf with cell %d = %d and buffer %d: %v", i, n, b, got)
				}
				checkCleared(t, one, b)
			}
		}
	}
}

// What ClearBuf returns can be changed and cleared again without the cells that came in.
func TestClearBufSharesNoMemory(t *testing.T) {
	a := cellsOf(fourSlots()...)
	before := slices.Clone(a)
	for _, b := range []int{0, 1, -1, 2} {
		got := impl.ClearBuf(a, b)
		for i := range got {
			got[i] = 5
		}
		if !slices.Equal(a, before) {
			t.Fatalf("the result of ClearBuf of buffer %d shares memory with the cells", b)
		}
	}
	// The argument is a part of a longer list: nothing behind it changes.
	long := append(slices.Clone(a), a...)
	part := impl.ClearBuf(long[:71], 1)
	part = append(part, 9)
	if !slices.Equal(long, append(slices.Clone(before), before...)) || part[71] != 9 {
		t.Error("ClearBuf of a part of a list changes the list")
	}
}

// Invalid cells have no rows and stay as they are.
func TestDrainOfInvalidCells(t *testing.T) {
	full, empty := cellsOf(fourSlots()...), make([]int, 71)
	lists := append(invalidLists(), full[:70], full[:7], full[1:], append(slices.Clone(full), 0), append(slices.Clone(full), full...), make([]int, 70), make([]int, 72))
	for i := range full {
		for _, n := range []int{-1, impl.Word, impl.Word + 1, math.MinInt, math.MaxInt} {
			lists = append(lists, stored(full, i, n, true), stored(empty, i, n, true))
		}
	}
	for k, a := range lists {
		checkDrain(t, a)
		for b := -1; b <= 2; b++ {
			for slot := range 4 {
				if r := impl.RowIn(a, b, slot); r != (impl.Row{}) {
					t.Errorf("RowIn of buffer %d and slot %d of invalid cells %d: %+v", b, slot, k, r)
				}
			}
			requireReport(t, a, b)
			if impl.BufClear(a, b) || !slices.Equal(impl.ClearBuf(a, b), a) {
				t.Errorf("buffer %d of invalid cells %d is clear or is cleared", b, k)
			}
		}
	}
	for b := -1; b <= 2; b++ {
		if impl.RowIn(nil, b, 0) != (impl.Row{}) || len(impl.ReportIn(nil, b)) != 0 || len(impl.ClearBuf(nil, b)) != 0 || impl.BufClear(nil, b) {
			t.Errorf("there are rows or cells in nil, buffer %d", b)
		}
	}
}

// The rows that registered keys have in a table made by Register.
func TestReportOfRegisteredKeys(t *testing.T) {
	a := make([]int, 71)
	for i, key := range []string{"q", "i", "e", "a"} {
		a, _, _ = impl.Register(a, key, 1+i%3)
	}
	for _, c := range []struct{ cell, n int }{
		{impl.StripeCell(0, 0, 0), 4}, {impl.StripeCell(0, 0, 1), impl.Word - 1}, {impl.StripeCell(1, 3, 1), 8},
		{impl.GaugeCell(0, 1), packed(3, 7)}, {impl.StampCell(0, 1), 3}, {impl.StampCell(1, 1), 5},
		{impl.TicketCell(0, 2), 2}, {impl.RingCell(0, 2, 0), 7}, {impl.RingCell(0, 2, 1), 1}, {impl.RingCell(0, 2, 2), 9}, {impl.RingCell(1, 2, 0), 4},
	} {
		a, _ = impl.StoreCell(a, c.cell, c.n)
	}
	checkDrain(t, a)
	requireReport(t, a, 0, impl.Row{Key: "e", Kind: 3, N: 2, Max: 6, Total: 6}, gaugeRow("i", 7), countRow("q", 3))
	requireReport(t, a, 1, countRow("a", 8))
	cleared := impl.ClearBuf(a, 0)
	requireReport(t, cleared, 0)
	requireReport(t, cleared, 1, countRow("a", 8))
	if !impl.TableOk(cleared) || !slices.Equal(impl.KeysIn(cleared), []string{"q", "i", "e", "a"}) {
		t.Errorf("the table after ClearBuf: %v", cleared)
	}
}

package tests

import (
	"math"
	"math/big"
	"slices"
	"testing"

	"loop.example/g01608/impl"
)

func countRow(key string, sum int) impl.Row {
	return impl.Row{Key: key, Kind: 1, Sum: sum}
}

// gaugeRow returns the row of a gauge that has been set.
func gaugeRow(key string, last int) impl.Row {
	return impl.Row{Key: key, Kind: 2, Set: true, Last: last}
}

func timerRow(n, least, greatest, total, dropped int) impl.Row {
	return impl.Row{Key: "t", Kind: 3, N: n, Min: least, Max: greatest, Total: total, Dropped: dropped}
}

// timerOf returns the row of a timer that was given these samples one after another.
func timerOf(samples []int) impl.Row {
	kept := samples[:min(len(samples), 3)]
	if len(kept) == 0 {
		return timerRow(0, 0, 0, 0, 0)
	}
	total := 0
	for _, v := range kept {
		total += v
	}
	return timerRow(len(kept), slices.Min(kept), slices.Max(kept), total, min(len(samples)-len(kept), 65535))
}

// rowField is a number field of a row, with the kind of the rows that have it.
type rowField struct {
	name string
	kind int
	at   func(r *impl.Row) *int
}

func rowFields() []rowField {
	return []rowField{
		{"Sum", 1, func(r *impl.Row) *int { return &r.Sum }},
		{"Last", 2, func(r *impl.Row) *int { return &r.Last }},
		{"N", 3, func(r *impl.Row) *int { return &r.N }},
		{"Min", 3, func(r *impl.Row) *int { return &r.Min }},
		{"Max", 3, func(r *impl.Row) *int { return &r.Max }},
		{"Total", 3, func(r *impl.Row) *int { return &r.Total }},
		{"Dropped", 3, func(r *impl.Row) *int { return &r.Dropped }},
	}
}

func within(n, least, greatest int) bool {
	return n >= least && n <= greatest
}

// wantTotalOk compares with products that cannot wrap around.
func wantTotalOk(r impl.Row) bool {
	n, total := big.NewInt(int64(r.N)), big.NewInt(int64(r.Total))
	least, greatest := big.NewInt(int64(r.Min)), big.NewInt(int64(r.Max))
	return total.Cmp(least.Mul(least, n)) >= 0 && total.Cmp(greatest.Mul(greatest, n)) <= 0
}

func wantRowOk(r impl.Row) bool {
	valid := keyPattern.MatchString(r.Key) && within(r.Kind, 1, 3) && (r.Kind == 2 || !r.Set)
	for _, f := range rowFields() {
		valid = valid && (f.kind == r.Kind || *f.at(&r) == 0)
	}
	switch {
	case r.Kind == 1:
		return valid && within(r.Sum, 0, 1<<48-1)
	case r.Kind == 2 && r.Set:
		return valid && within(r.Last, 0, 65535)
	case r.Kind == 2:
		return valid && r.Last == 0
	case r.N == 0:
		return valid && r.Min == 0 && r.Max == 0 && r.Total == 0 && r.Dropped == 0
	case r.N == 3:
		valid = valid && within(r.Dropped, 0, 65535)
	default:
		valid = valid && within(r.N, 1, 2) && r.Dropped == 0
	}
	return valid && r.Min >= 0 && r.Min <= r.Max && r.Max <= 65535 && wantTotalOk(r)
}

// wantSampled takes the new least and greatest sample from the list of both, or of the sample alone.
func wantSampled(r impl.Row, v int) impl.Row {
	if !wantRowOk(r) || r.Kind != 3 || !within(v, 0, 65535) {
		return r
	}
	lists := [][]int{{v}, {r.Min, r.Max, v}, {r.Min, r.Max, v}}
	if r.N == len(lists) {
		r.Dropped = []int{r.Dropped + 1, 65535}[r.Dropped/65535]
		return r
	}
	list := lists[r.N]
	return impl.Row{Key: r.Key, Kind: 3, N: r.N + 1, Min: slices.Min(list), Max: slices.Max(list), Total: r.Total + v}
}

func wantCounted(r impl.Row, v int) impl.Row {
	if !wantRowOk(r) || r.Kind != 1 || !within(v, 0, 65535) {
		return r
	}
	r.Sum = (r.Sum + v) & (1<<48 - 1)
	return r
}

func wantReportOk(l []impl.Row) bool {
	valid := len(l) <= 4
	for i, r := range l {
		valid = valid && wantRowOk(r) && (r.Sum != 0 || r.N != 0 || r.Set)
		for _, earlier := range l[:i] {
			valid = valid && slices.Compare([]byte(earlier.Key), []byte(r.Key)) < 0
		}
	}
	return valid
}

// checkRow compares all functions for one row.
func checkRow(t *testing.T, r impl.Row, samples ...int) {
	t.Helper()
	valid := wantRowOk(r)
	if impl.RowOk(r) != valid {
		t.Errorf("RowOk(%+v) is not %v", r, valid)
	}
	quiet := r.Sum == 0 && r.N == 0 && !r.Set
	if impl.Quiet(r) != quiet {
		t.Errorf("Quiet(%+v) is not %v", r, quiet)
	}
	for _, v := range samples {
		sampled, counted := impl.Sampled(r, v), impl.Counted(r, v)
		if want := wantSampled(r, v); sampled != want {
			t.Errorf("Sampled(%+v, %d) = %+v, want %+v", r, v, sampled, want)
		}
		if want := wantCounted(r, v); counted != want {
			t.Errorf("Counted(%+v, %d) = %+v, want %+v", r, v, counted, want)
		}
		if impl.RowOk(sampled) != valid || impl.RowOk(counted) != valid {
			t.Errorf("%+v is valid: %v; with %d as a sample %v, as a count %v", r, valid, v, impl.RowOk(sampled), impl.RowOk(counted))
		}
	}
}

// requireRow checks that the row is or is not valid, as the test itself says.
func requireRow(t *testing.T, r impl.Row, valid bool) {
	t.Helper()
	if impl.RowOk(r) != valid || wantRowOk(r) != valid {
		t.Errorf("RowOk(%+v) = %v, want %v", r, impl.RowOk(r), valid)
	}
	checkRow(t, r, someSamples()...)
}

// someSamples has the limits, the numbers next to them and numbers that are a sample's in their low bits only.
func someSamples() []int {
	return []int{0, 1, 2, 7, 255, 256, 65534, 65535, 65536, 65537, -1, -2, -65535, -65536, 1 << 16, 1 << 32, 1<<32 + 5, 1 << 48, 1<<48 - 1, math.MinInt, math.MinInt + 5, math.MaxInt}
}

func noSamples() []int {
	return slices.DeleteFunc(someSamples(), func(v int) bool { return v >= 0 && v <= 65535 })
}

func validRows() []impl.Row {
	return []impl.Row{
		countRow("c", 0), countRow("c", 1), countRow("_9Zz", 258), countRow("c", impl.Word-2), countRow("c", impl.Word-1),
		{Key: "g", Kind: 2}, gaugeRow("g", 0), gaugeRow("g", 1), gaugeRow("gggg", 65534), gaugeRow("g", 65535),
		timerRow(0, 0, 0, 0, 0), timerRow(1, 0, 0, 0, 0), timerRow(1, 7, 7, 7, 0), timerRow(1, 65535, 65535, 65535, 0),
		timerRow(2, 0, 0, 0, 0), timerRow(2, 2, 9, 11, 0), timerRow(2, 0, 65535, 65535, 0), timerRow(2, 65535, 65535, 131070, 0),
		timerRow(3, 0, 0, 0, 0), timerRow(3, 2, 9, 16, 0), timerRow(3, 65535, 65535, 196605, 0),
		timerRow(3, 0, 0, 0, 1), timerRow(3, 2, 9, 16, 65534), timerRow(3, 2, 9, 16, 65535), timerRow(3, 65535, 65535, 196605, 65535),
		// No samples have such a total, but the limits that the document states for it are wider.
		timerRow(1, 2, 9, 5, 0), timerRow(2, 2, 9, 4, 0), timerRow(2, 2, 9, 18, 0), timerRow(3, 2, 9, 6, 0), timerRow(3, 2, 9, 27, 4), timerRow(3, 0, 65535, 196605, 0),
	}
}

func invalidRows() []impl.Row {
	var out []impl.Row
	add := func(r impl.Row, change func(r *impl.Row)) {
		change(&r)
		out = append(out, r)
	}
	for _, n := range []int{-1, impl.Word, impl.Word + 1, 2 * impl.Word, math.MinInt, math.MaxInt} {
		out = append(out, countRow("c", n))
	}
	for _, n := range []int{-1, 65536, 65537, 1 << 32, math.MinInt, math.MaxInt} {
		out = append(out, gaugeRow("g", n), impl.Row{Key: "g", Kind: 2, Last: n})
	}
	out = append(out, impl.Row{Key: "g", Kind: 2, Last: 1}, impl.Row{Key: "g", Kind: 2, Last: 65535})
	for _, r := range validRows() {
		for _, key := range someNoKeys() {
			add(r, func(r *impl.Row) { r.Key = key })
		}
		for _, kind := range []int{0, 4, -1, -3, 5, 257, 65539, math.MinInt, math.MaxInt} {
			add(r, func(r *impl.Row) { r.Kind = kind })
		}
		if r.Kind != 2 {
			add(r, func(r *impl.Row) { r.Set = true })
		}
		for _, f := range rowFields() {
			for _, n := range []int{1, -1, 7, impl.Word, math.MinInt, math.MaxInt} {
				if f.kind != r.Kind {
					add(r, func(r *impl.Row) { *f.at(r) = n })
				}
			}
		}
	}
	return append(out, invalidTimers()...)
}

func invalidTimers() []impl.Row {
	out := []impl.Row{
		// Without samples nothing else may be there.
		timerRow(0, 1, 0, 0, 0), timerRow(0, 0, 1, 0, 0), timerRow(0, 0, 0, 1, 0), timerRow(0, 0, 0, 0, 1), timerRow(0, 2, 9, 11, 3), timerRow(0, -1, 0, 0, 0), timerRow(0, 0, 0, 0, -1),
		// One sample too many, less than none.
		timerRow(4, 2, 9, 20, 0), timerRow(4, 2, 9, 20, 1), timerRow(4, 0, 0, 0, 0), timerRow(-1, 0, 0, 0, 0), timerRow(-1, 2, 9, -9, 0), timerRow(-3, 0, 0, 0, 0), timerRow(math.MaxInt, 0, 0, 0, 0), timerRow(math.MinInt, 0, 0, 0, 0),
		// Least and greatest.
		timerRow(1, 8, 7, 8, 0), timerRow(1, 8, 7, 7, 0), timerRow(2, 9, 2, 11, 0), timerRow(3, 9, 0, 9, 0), timerRow(3, 65535, 65534, 196604, 0),
		timerRow(1, -1, 0, 0, 0), timerRow(1, -1, -1, -1, 0), timerRow(2, -1, 9, 8, 0), timerRow(3, -1, 65535, 0, 0), timerRow(3, math.MinInt, 9, 9, 0),
		timerRow(1, 65536, 65536, 65536, 0), timerRow(1, 0, 65536, 0, 0), timerRow(2, 0, 65536, 65536, 0), timerRow(3, 0, 65536, 7, 9), timerRow(3, 0, math.MaxInt, 7, 0), timerRow(3, 0, 1<<32+1, 7, 0),
		// Products that wrap around.
		timerRow(1<<62, 0, 4, 0, 0), timerRow(1<<62, 4, 8, 0, 0), timerRow(2, 1<<62, 1<<63-1, -2, 0), timerRow(3, math.MinInt, math.MaxInt, 0, 0), timerRow(2, math.MinInt, 0, 0, 0),
		// Dropped.
		timerRow(1, 7, 7, 7, 1), timerRow(2, 2, 9, 11, 1), timerRow(1, 0, 0, 0, 1), timerRow(2, 0, 0, 0, 65535), timerRow(1, 7, 7, 7, -1), timerRow(2, 2, 9, 11, -1), timerRow(2, 2, 9, 11, 65536),
		timerRow(3, 2, 9, 16, 65536), timerRow(3, 2, 9, 16, 65537), timerRow(3, 2, 9, 16, -1), timerRow(3, 2, 9, 16, math.MinInt), timerRow(3, 2, 9, 16, math.MaxInt), timerRow(3, 0, 0, 0, 65536), timerRow(3, 0, 0, 0, -1),
	}
	// Totals one beyond the limits.
	for n := 1; n <= 3; n++ {
		for _, p := range [][2]int{{0, 0}, {7, 7}, {2, 9}, {0, 65535}, {65535, 65535}} {
			out = append(out, timerRow(n, p[0], p[1], n*p[0]-1, 0), timerRow(n, p[0], p[1], n*p[1]+1, 0))
			out = append(out, timerRow(n, p[0], p[1], math.MinInt, 0), timerRow(n, p[0], p[1], math.MaxInt, 0))
		}
	}
	return out
}

func TestSampledExamples(t *testing.T) {
	for _, list := range []struct {
		samples []int
		rows    []impl.Row
	}{
		{[]int{5, 2, 9, 4, 0, 65535}, []impl.Row{timerRow(1, 5, 5, 5, 0), timerRow(2, 2, 5, 7, 0), timerRow(3, 2, 9, 16, 0), timerRow(3, 2, 9, 16, 1), timerRow(3, 2, 9, 16, 2), timerRow(3, 2, 9, 16, 3)}},
		{[]int{9, 5, 2, 2}, []impl.Row{timerRow(1, 9, 9, 9, 0), timerRow(2, 5, 9, 14, 0), timerRow(3, 2, 9, 16, 0), timerRow(3, 2, 9, 16, 1)}},
		{[]int{2, 5, 9, 10}, []impl.Row{timerRow(1, 2, 2, 2, 0), timerRow(2, 2, 5, 7, 0), timerRow(3, 2, 9, 16, 0), timerRow(3, 2, 9, 16, 1)}},
		{[]int{0, 0, 0, 0, 0}, []impl.Row{timerRow(1, 0, 0, 0, 0), timerRow(2, 0, 0, 0, 0), timerRow(3, 0, 0, 0, 0), timerRow(3, 0, 0, 0, 1), timerRow(3, 0, 0, 0, 2)}},
		{[]int{65535, 65535, 65535, 65535}, []impl.Row{timerRow(1, 65535, 65535, 65535, 0), timerRow(2, 65535, 65535, 131070, 0), timerRow(3, 65535, 65535, 196605, 0), timerRow(3, 65535, 65535, 196605, 1)}},
		{[]int{65535, 0, 1, 0}, []impl.Row{timerRow(1, 65535, 65535, 65535, 0), timerRow(2, 0, 65535, 65535, 0), timerRow(3, 0, 65535, 65536, 0), timerRow(3, 0, 65535, 65536, 1)}},
		// Numbers that are no samples are neither kept nor dropped.
		{[]int{-1, 65536, 4, -1, 65536, 4, 4, -1, 65536, 4}, []impl.Row{
			timerRow(0, 0, 0, 0, 0), timerRow(0, 0, 0, 0, 0), timerRow(1, 4, 4, 4, 0), timerRow(1, 4, 4, 4, 0), timerRow(1, 4, 4, 4, 0),
			timerRow(2, 4, 4, 8, 0), timerRow(3, 4, 4, 12, 0), timerRow(3, 4, 4, 12, 0), timerRow(3, 4, 4, 12, 0), timerRow(3, 4, 4, 12, 1),
		}},
	} {
		r := timerRow(0, 0, 0, 0, 0)
		for n, v := range list.samples {
			if r = impl.Sampled(r, v); r != list.rows[n] || !impl.RowOk(r) {
				t.Errorf("after %v: %+v, want %+v", list.samples[:n+1], r, list.rows[n])
			}
		}
	}
}

// Promise 6 for every list of few samples: the first RingCap ones are kept and all further ones counted as dropped.
func TestEveryListOfFewSamples(t *testing.T) {
	samples := []int{0, 1, 5, 65534, 65535}
	var extend func(done []int, r impl.Row)
	extend = func(done []int, r impl.Row) {
		if r != timerOf(done) || !impl.RowOk(r) || r.N > impl.RingCap || r.N+r.Dropped != len(done) || impl.Quiet(r) != (len(done) == 0) {
			t.Errorf("after the samples %v: %+v", done, r)
		}
		checkRow(t, r, -1, 65536, 0, 3)
		if len(done) == 6 {
			return
		}
		for _, v := range samples {
			extend(append(slices.Clone(done), v), impl.Sampled(r, v))
		}
	}
	extend(nil, timerRow(0, 0, 0, 0, 0))
}

// The number of dropped samples ends at MaxVal.
func TestManyDroppedSamples(t *testing.T) {
	r := timerRow(0, 0, 0, 0, 0)
	for n := range 65535 + 10 {
		r = impl.Sampled(r, 65535-n%1000)
		if want := timerRow(min(n+1, 3), max(65535-n, 65533), 65535, []int{65535, 131069, 196602}[min(n, 2)], min(max(n-2, 0), 65535)); r != want || !impl.RowOk(r) {
			t.Fatalf("after %d samples: %+v, want %+v", n+1, r, want)
		}
	}
	for _, c := range [][2]int{{0, 1}, {1, 2}, {65533, 65534}, {65534, 65535}, {65535, 65535}} {
		for _, v := range []int{0, 5, 65535} {
			if got := impl.Sampled(timerRow(3, 2, 9, 16, c[0]), v); got != timerRow(3, 2, 9, 16, c[1]) {
				t.Errorf("%d dropped samples and %d: %+v", c[0], v, got)
			}
		}
	}
}

// Every valid row with small numbers stays valid, also those that no list of samples gives.
func TestSampledOfEverySmallRow(t *testing.T) {
	valid := 0
	for n := -1; n <= 4; n++ {
		for least := -1; least <= 4; least++ {
			for greatest := -1; greatest <= 4; greatest++ {
				for total := -2; total <= 14; total++ {
					for dropped := -1; dropped <= 2; dropped++ {
						r := timerRow(n, least, greatest, total, dropped)
						checkRow(t, r, -1, 0, 2, 5, 65535, 65536)
						if impl.RowOk(r) {
							valid++
						}
					}
				}
			}
		}
	}
	// 1; for one sample and for two and three the totals of the 15 pairs; three samples with each of three numbers of dropped ones.
	if want := 1 + 35 + 55 + 3*75; valid != want {
		t.Errorf("%d of the small rows are valid, want %d", valid, want)
	}
}

func TestCountedExamples(t *testing.T) {
	for _, list := range []struct {
		first        int
		values, sums []int
	}{
		{0, []int{5, 2, 0, 9, 65535, 1}, []int{5, 7, 7, 16, 65551, 65552}},
		{0, []int{0, 0}, []int{0, 0}},
		{0, []int{65535, 65535, 65535}, []int{65535, 131070, 196605}},
		// Sums that come to Word or beyond it.
		{impl.Word - 1, []int{0, 1, 1}, []int{impl.Word - 1, 0, 1}},
		{impl.Word - 1, []int{3}, []int{2}},
		{impl.Word - 1, []int{65535}, []int{65534}},
		{impl.Word - 65535, []int{65534, 1, 65535}, []int{impl.Word - 1, 0, 65535}},
		{impl.Word - 65535, []int{65535}, []int{0}},
		{impl.Word - 65536, []int{65535, 1}, []int{impl.Word - 1, 0}},
		// Numbers that cannot be added.
		{7, []int{-1, 65536, 3, -7, 1 << 48}, []int{7, 7, 10, 10, 10}},
	} {
		r := countRow("cnt", list.first)
		for n, v := range list.values {
			if r = impl.Counted(r, v); r != countRow("cnt", list.sums[n]) || !impl.RowOk(r) || impl.Quiet(r) != (list.sums[n] == 0) {
				t.Errorf("%d after %v: %+v, want the sum %d", list.first, list.values[:n+1], r, list.sums[n])
			}
		}
	}
}

// Rows of the limits and near them with every number.
func TestCountedNearTheLimits(t *testing.T) {
	sums := numbersNear()
	for d := range 70 {
		sums = append(sums, d, 65535-d, 65535+d, impl.Word-d, impl.Word+d, impl.Word-65535-d, impl.Word-65535+d)
	}
	for _, sum := range sums {
		checkRow(t, countRow("a", sum), someSamples()...)
	}
	for v := range 65536 {
		want := v - 32768
		if want < 0 {
			want += impl.Word
		}
		if got := impl.Counted(countRow("a", impl.Word-32768), v); got != countRow("a", want) {
			t.Errorf("Counted with %d: %+v, want the sum %d", v, got, want)
		}
	}
}

func TestNumbersThatAreNoSamples(t *testing.T) {
	for _, r := range append(validRows(), invalidRows()...) {
		for _, v := range slices.Concat(noSamples(), []int{-3, 65539, 131071}) {
			if got := impl.Sampled(r, v); got != r {
				t.Errorf("Sampled(%+v, %d) = %+v", r, v, got)
			}
			if got := impl.Counted(r, v); got != r {
				t.Errorf("Counted(%+v, %d) = %+v", r, v, got)
			}
		}
	}
}

func TestSampledAndCountedOfOtherKinds(t *testing.T) {
	for _, r := range validRows() {
		for _, v := range []int{0, 1, 5, 65535} {
			if got := impl.Sampled(r, v); r.Kind != 3 && got != r {
				t.Errorf("Sampled(%+v, %d) = %+v", r, v, got)
			}
			if got := impl.Counted(r, v); r.Kind != 1 && got != r {
				t.Errorf("Counted(%+v, %d) = %+v", r, v, got)
			}
		}
	}
}

func TestRowOk(t *testing.T) {
	for _, r := range validRows() {
		requireRow(t, r, true)
		for _, key := range someKeys() {
			r.Key = key
			requireRow(t, r, true)
		}
	}
	for _, r := range invalidRows() {
		requireRow(t, r, false)
		for _, v := range []int{0, 1, 5, 65535} {
			if impl.Sampled(r, v) != r || impl.Counted(r, v) != r {
				t.Errorf("%+v is changed by %d: %+v, %+v", r, v, impl.Sampled(r, v), impl.Counted(r, v))
			}
		}
	}
	requireRow(t, impl.Row{}, false)
	requireRow(t, impl.Row{Key: "a"}, false)
	requireRow(t, impl.Row{Kind: 1}, false)
}

// Each number field of each row with many numbers, and each pair of fields with a few.
func TestRowsWithChangedFields(t *testing.T) {
	fields := rowFields()
	few := []int{0, 1, 3, 4, -1, 65535, 65536, impl.Word - 1}
	for _, first := range validRows() {
		for i, f := range fields {
			for _, n := range numbersNear() {
				r := first
				*f.at(&r) = n
				checkRow(t, r, 0, 65535, 65536)
			}
			for k := range len(fields) * len(few) * len(few) {
				r := first
				*f.at(&r) = few[k%len(few)]
				*fields[(i+k/len(few)/len(few))%len(fields)].at(&r) = few[k/len(few)%len(few)]
				checkRow(t, r, 5)
				r.Set = !r.Set
				checkRow(t, r, 5)
			}
		}
	}
}

func TestQuiet(t *testing.T) {
	for _, r := range []impl.Row{
		{}, countRow("a", 0), {Key: "a", Kind: 2}, timerRow(0, 0, 0, 0, 0),
		// Only three fields matter, whether the row is valid or not.
		{Key: "a", Kind: 2, Last: 3}, {Last: -1}, {Min: 1}, {Max: 1}, {Total: 1}, {Dropped: 1}, {Key: "abcde", Kind: 9}, {Key: "-", Kind: -1, Last: 5, Min: 1, Max: 2, Total: 3, Dropped: 4},
	} {
		if !impl.Quiet(r) {
			t.Errorf("Quiet(%+v) is false", r)
		}
	}
	for _, r := range []impl.Row{
		countRow("a", 1), countRow("a", impl.Word-1), gaugeRow("a", 0), gaugeRow("a", 65535), timerRow(1, 0, 0, 0, 0), timerRow(3, 0, 0, 0, 9),
		{Sum: 1}, {Sum: -1}, {Sum: math.MinInt}, {N: 1}, {N: -1}, {N: math.MinInt}, {Set: true}, {Sum: 1, N: -1}, {Key: "t", Kind: 3, Set: true}, {Key: "g", Kind: 2, Sum: 5}, {Key: "c", Kind: 1, N: 3},
	} {
		if impl.Quiet(r) {
			t.Errorf("Quiet(%+v) is true", r)
		}
	}
}

// roomyRows returns a copy of the list with unused capacity behind it, filled with a row that the tests do not have.
func roomyRows(l []impl.Row) []impl.Row {
	out := make([]impl.Row, len(l), len(l)+3)
	copy(out, l)
	for i := range out[len(l):cap(out)] {
		out[len(l):cap(out)][i] = markRow()
	}
	return out
}

func markRow() impl.Row {
	return impl.Row{Key: "mark", Sum: mark}
}

func checkRowsIntact(t *testing.T, name string, arg, before []impl.Row) {
	t.Helper()
	intact := len(arg) == len(before)
	for i, r := range arg[:cap(arg)] {
		intact = intact && (i < len(before) && r == before[i] || i >= len(before) && r == markRow())
	}
	if !intact {
		t.Errorf("%s changed its argument %v", name, before)
	}
}

func checkReport(t *testing.T, l []impl.Row, valid bool) {
	t.Helper()
	arg := roomyRows(l)
	if got := impl.ReportOk(arg); got != valid || wantReportOk(l) != valid {
		t.Errorf("ReportOk(%+v) = %v, want %v", l, got, valid)
	}
	checkRowsIntact(t, "ReportOk", arg, l)
}

func checkSame(t *testing.T, a, b []impl.Row, same bool) {
	t.Helper()
	first, second := roomyRows(a), roomyRows(b)
	if got := impl.SameReport(first, second); got != same {
		t.Errorf("SameReport(%+v, %+v) = %v, want %v", a, b, got, same)
	}
	if got := impl.SameReport(second, first); got != same {
		t.Errorf("SameReport(%+v, %+v) = %v, want %v", b, a, got, same)
	}
	checkRowsIntact(t, "SameReport", first, a)
	checkRowsIntact(t, "SameReport", second, b)
}

// countReport returns a report of counters with these keys, in this order.
func countReport(keys ...string) []impl.Row {
	var out []impl.Row
	for i, key := range keys {
		out = append(out, countRow(key, i+1))
	}
	return out
}

func TestReportOkLength(t *testing.T) {
	keys := []string{"a", "ab", "b", "c", "d", "e", "f", "g", "h"}
	checkReport(t, []impl.Row{}, true)
	for n := range keys {
		checkReport(t, countReport(keys[:n]...), n <= impl.Slots)
	}
	if !impl.ReportOk(nil) {
		t.Error("ReportOk(nil) is false")
	}
}

func TestReportOkOrder(t *testing.T) {
	for _, keys := range [][]string{
		{"a", "b"}, {"a", "aa"}, {"a", "ab", "abc", "abcd"}, {"0", "A", "_", "a"}, {"09", "1", "9", "A0"}, {"AZ", "Aa", "B", "a"}, {"Z", "_", "__", "z"},
		{"ab", "b"}, {"aaaa", "aaab", "aab", "ab"}, {"9", "A"}, {"Z", "a"}, {"0000", "zzzz"},
	} {
		report := countReport(keys...)
		checkReport(t, report, true)
		slices.Reverse(report)
		checkReport(t, report, false)
	}
	for _, keys := range [][]string{
		{"a", "a"}, {"ab", "a"}, {"abcd", "abc"}, {"b", "ab"}, {"a", "A"}, {"_", "Z"}, {"a", "_"}, {"A", "9"}, {"9", "09"},
		{"a", "a", "b"}, {"a", "b", "b"}, {"a", "b", "c", "c"}, {"a", "b", "c", "b"}, {"a", "b", "a"}, {"a", "c", "b", "d"}, {"b", "a", "c", "d"}, {"a", "c", "d", "b"}, {"a", "b", "d", "c"}, {"aa", "a", "b"}, {"a", "bb", "b"},
	} {
		checkReport(t, countReport(keys...), false)
	}
	// Equal keys of rows that differ.
	checkReport(t, []impl.Row{countRow("a", 1), gaugeRow("a", 1)}, false)
	checkReport(t, []impl.Row{gaugeRow("a", 1), countRow("a", 2)}, false)
}

func TestEveryPairOfKeysInAReport(t *testing.T) {
	for _, a := range someKeys() {
		for _, b := range someKeys() {
			checkReport(t, []impl.Row{countRow(a, 1), gaugeRow(b, 0)}, slices.Compare([]byte(a), []byte(b)) < 0)
		}
	}
}

// A row at each place of a report, valid or not.
func TestReportOkRows(t *testing.T) {
	keys := []string{"a", "b", "c", "d"}
	for n := 1; n <= len(keys); n++ {
		for i := range n {
			for _, r := range validRows() {
				report := countReport(keys[:n]...)
				r.Key = keys[i]
				report[i] = r
				checkReport(t, report, r.Sum != 0 || r.N != 0 || r.Set)
			}
			for _, r := range invalidRows() {
				report := countReport(keys[:n]...)
				// An invalid key stays as it is: no key before or after it makes it valid.
				if keyPattern.MatchString(r.Key) {
					r.Key = keys[i]
				}
				report[i] = r
				checkReport(t, report, false)
			}
		}
	}
	checkReport(t, []impl.Row{{}}, false)
	checkReport(t, []impl.Row{countRow("a", 3), gaugeRow("b", 0), timerRow(3, 2, 9, 16, 1)}, true)
	checkReport(t, []impl.Row{countRow("a", 3), {Key: "b", Kind: 2}, timerRow(3, 2, 9, 16, 1)}, false)
	checkReport(t, []impl.Row{countRow("a", 0)}, false)
	checkReport(t, []impl.Row{timerRow(0, 0, 0, 0, 0)}, false)
}

func TestSameReportLength(t *testing.T) {
	rows := slices.Concat(countReport("a", "b", "c"), []impl.Row{timerRow(3, 2, 9, 16, 1)}, []impl.Row{{}, {}})
	for n := range len(rows) + 1 {
		for k := range len(rows) + 1 {
			checkSame(t, rows[:n], slices.Clone(rows[:k]), n == k)
		}
	}
	if !impl.SameReport(nil, nil) || !impl.SameReport(nil, []impl.Row{}) || !impl.SameReport([]impl.Row{}, nil) || impl.SameReport(nil, []impl.Row{{}}) || impl.SameReport([]impl.Row{{}}, nil) {
		t.Error("SameReport of empty lists")
	}
}

// It accepts any lists: also long ones and invalid ones.
func TestSameReportOfAnyRows(t *testing.T) {
	all := append(validRows(), invalidRows()...)
	checkSame(t, all, slices.Clone(all), true)
	for i, r := range all {
		changed := slices.Clone(all)
		changed[i].N++
		checkSame(t, all[:i+1], changed[:i+1], false)
		checkSame(t, []impl.Row{r}, []impl.Row{r}, true)
	}
	few := validRows()
	for i, a := range few {
		for k, b := range few {
			checkSame(t, []impl.Row{a, b}, []impl.Row{b, a}, i == k)
		}
	}
}

// One field of one row makes the difference, at each place.
func TestSameReportFields(t *testing.T) {
	base := []impl.Row{countRow("a", 3), gaugeRow("b", 0), timerRow(3, 2, 9, 16, 1), {}}
	for i := range base {
		differ := func(change func(r *impl.Row)) {
			changed := slices.Clone(base)
			change(&changed[i])
			checkSame(t, base, changed, false)
			checkSame(t, changed, slices.Clone(changed), true)
			checkSame(t, base[i:i+1], changed[i:i+1], false)
		}
		for _, f := range rowFields() {
			for _, d := range []int{1, -1, 1 << 16, 1 << 32, 1 << 48, math.MinInt} {
				differ(func(r *impl.Row) { *f.at(r) += d })
			}
		}
		for _, d := range []int{1, -1, 4, 256, 1 << 32} {
			differ(func(r *impl.Row) { r.Kind += d })
		}
		differ(func(r *impl.Row) { r.Set = !r.Set })
		for _, key := range []string{"A", "aa", "bb", "ta", "-", "b\x00", "abcde"} {
			differ(func(r *impl.Row) { r.Key = key })
		}
		differ(func(r *impl.Row) { r.Key += "\x00" })
	}
}

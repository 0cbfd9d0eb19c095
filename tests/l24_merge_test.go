package tests

import (
	"math"
	"math/rand/v2"
	"reflect"
	"slices"
	"testing"

	"loop.example/g01608/impl"
)

// wantMerged takes Min and Max from a list of those that count.
func wantMerged(a, b impl.Row) impl.Row {
	if reflect.ValueOf(a).IsZero() {
		return b
	}
	if a.Key != b.Key || a.Kind != b.Kind {
		return a
	}
	out := impl.Row{Key: b.Key, Kind: b.Kind, Sum: wrapped(a.Sum, b.Sum), Set: a.Set || b.Set, Last: a.Last, N: a.N + b.N, Total: a.Total + b.Total, Dropped: a.Dropped + b.Dropped}
	if b.Set {
		out.Last = b.Last
	}
	var sides []impl.Row
	if a.N != 0 {
		sides = append(sides, a)
	}
	if a.N == 0 || b.N > 0 {
		sides = append(sides, b)
	}
	out.Min, out.Max = sides[0].Min, sides[0].Max
	for _, r := range sides {
		out.Min, out.Max = min(out.Min, r.Min), max(out.Max, r.Max)
	}
	return out
}

func checkMerged(t *testing.T, a, b impl.Row) {
	t.Helper()
	requireMerged(t, a, b, wantMerged(a, b))
}

func requireMerged(t *testing.T, a, b, want impl.Row) {
	t.Helper()
	if got := impl.MergeRow(a, b); got != want {
		t.Errorf("MergeRow(%+v, %+v) = %+v, want %+v", a, b, got, want)
	}
}

func TestMergeRowWrittenOut(t *testing.T) {
	requireMerged(t, countRow("a", 3), countRow("a", 4), countRow("a", 7))
	requireMerged(t, countRow("a", 0), countRow("a", 0), countRow("a", 0))
	requireMerged(t, countRow("a", 1<<48-1), countRow("a", 1), countRow("a", 0))
	requireMerged(t, countRow("a", 1<<48-1), countRow("a", 1<<48-1), countRow("a", 1<<48-2))
	// The later gauge counts if it is set, be it 0 or less than the first one.
	none := impl.Row{Key: "a", Kind: 2}
	requireMerged(t, gaugeRow("a", 9), gaugeRow("a", 4), gaugeRow("a", 4))
	requireMerged(t, gaugeRow("a", 9), gaugeRow("a", 0), gaugeRow("a", 0))
	requireMerged(t, gaugeRow("a", 9), none, gaugeRow("a", 9))
	requireMerged(t, none, gaugeRow("a", 9), gaugeRow("a", 9))
	requireMerged(t, none, none, none)
	requireMerged(t, timerRow(2, 3, 9, 12, 0), timerRow(1, 5, 5, 5, 0), timerRow(3, 3, 9, 17, 0))
	requireMerged(t, timerRow(1, 5, 5, 5, 0), timerRow(2, 3, 9, 12, 0), timerRow(3, 3, 9, 17, 0))
	requireMerged(t, timerRow(3, 4, 6, 15, 2), timerRow(3, 0, 5, 7, 65535), timerRow(6, 0, 6, 22, 65537))
	requireMerged(t, timerRow(3, 1, 2, 4, 0), timerRow(3, 7, 8, 22, 1), timerRow(6, 1, 8, 26, 1))
	// A row without samples has no minimum and no maximum.
	requireMerged(t, timerRow(0, 0, 0, 0, 0), timerRow(1, 5, 5, 5, 0), timerRow(1, 5, 5, 5, 0))
	requireMerged(t, timerRow(1, 5, 5, 5, 0), timerRow(0, 0, 0, 0, 0), timerRow(1, 5, 5, 5, 0))
	requireMerged(t, timerRow(0, 0, 0, 0, 0), timerRow(0, 0, 0, 0, 0), timerRow(0, 0, 0, 0, 0))
}

func TestMergeRowOfTheZeroRow(t *testing.T) {
	for _, r := range append(validRows(), invalidRows()...) {
		requireMerged(t, impl.Row{}, r, r)
		if r.Key != "" || r.Kind != 0 {
			requireMerged(t, r, impl.Row{}, r)
		}
	}
	requireMerged(t, impl.Row{}, impl.Row{}, impl.Row{})
	// A row that has neither key nor kind is not the zero row if it has anything else.
	requireMerged(t, impl.Row{Sum: 5}, impl.Row{}, impl.Row{Sum: 5})
	requireMerged(t, impl.Row{Sum: 5}, impl.Row{Sum: 6, Set: true}, impl.Row{Sum: 11, Set: true})
	requireMerged(t, impl.Row{Last: 5}, impl.Row{Key: "a", Kind: 1, Sum: 1}, impl.Row{Last: 5})
}

// Rows that differ in key or kind are not merged, whatever else they have.
func TestMergeRowOfOtherKeysAndKinds(t *testing.T) {
	full := impl.Row{Sum: 5, Set: true, Last: 6, N: 2, Min: 1, Max: 9, Total: 10, Dropped: 3}
	rows := []impl.Row{}
	for _, key := range []string{"", "a", "A", "aa", "b", "hits5", "a\x00"} {
		for _, kind := range []int{-1, 0, 1, 2, 3, 4, 1<<32 + 1} {
			r := full
			r.Key, r.Kind = key, kind
			rows = append(rows, r)
		}
	}
	for i, a := range rows {
		for k, b := range rows {
			want := a
			if i == k {
				want.Sum, want.N, want.Total, want.Dropped = 10, 4, 20, 6
			}
			requireMerged(t, a, b, want)
		}
	}
}

// All fields are merged, whatever the kind of the rows and whether they are valid.
func TestMergeRowOfEachField(t *testing.T) {
	numbers := append(farNumbers(), 0, 1, 5, 1<<48-1, 1<<48, -1<<48+1)
	for _, base := range []impl.Row{{Key: "a", Kind: 1}, {Key: "a", Kind: 2, Set: true, Last: 4}, timerRow(1, 5, 5, 5, 0), {Key: "x y", Kind: 7, Sum: 3, N: -1, Min: 2, Max: 1, Total: 6, Dropped: -9}} {
		for _, f := range rowFields() {
			for _, n := range numbers {
				for _, m := range numbers {
					a, b := base, base
					*f.at(&a), *f.at(&b) = n, m
					checkMerged(t, a, b)
					b.Set = !b.Set
					checkMerged(t, a, b)
					checkMerged(t, b, a)
				}
			}
		}
	}
}

func TestMergeRowOfEverySmallRow(t *testing.T) {
	var rows []impl.Row
	for n := -1; n <= 2; n++ {
		for least := -1; least <= 2; least++ {
			for greatest := -1; greatest <= 2; greatest++ {
				r := timerRow(n, least, greatest, 2*n, n+1)
				rows = append(rows, r)
				r.Set, r.Last, r.Sum = greatest > 0, 3*least, n+greatest
				rows = append(rows, r)
			}
		}
	}
	for _, a := range rows {
		for _, b := range rows {
			checkMerged(t, a, b)
		}
	}
	all := append(validRows(), invalidRows()...)
	for _, a := range all {
		for _, b := range all {
			checkMerged(t, a, b)
		}
	}
}

// The merged row of two windows is that of the samples, counts or values of both.
func TestMergeRowOfSplitLists(t *testing.T) {
	r := rand.New(rand.NewPCG(24, 1))
	for range 500 {
		samples := make([]int, 1+r.IntN(6))
		for i := range samples {
			samples[i] = oneOf(r, 0, 1, 7, 300, 65535, r.IntN(65536))
		}
		cut := r.IntN(len(samples) + 1)
		if cut > 3 || len(samples)-cut > 3 {
			continue
		}
		total, set := 0, impl.Row{Key: "g", Kind: 2}
		for _, v := range samples {
			total += v
			set = impl.MergeRow(set, gaugeRow("g", v))
		}
		requireMerged(t, timerOf(samples[:cut]), timerOf(samples[cut:]), timerRow(len(samples), slices.Min(samples), slices.Max(samples), total, 0))
		if set != gaugeRow("g", samples[len(samples)-1]) {
			t.Errorf("gauges %v: %+v", samples, set)
		}
	}
	if got := impl.MergeRow(countRow("a", math.MaxInt), countRow("a", math.MaxInt)); got != countRow("a", 1<<48-2) {
		t.Errorf("the greatest sums: %+v", got)
	}
}

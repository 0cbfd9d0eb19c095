package tests

import (
	"math/bits"
	"math/rand/v2"
	"slices"
	"testing"

	"loop.example/g01608/impl"
)

// Promise 14: what Conserved and the totals say of schedules.

// requireConservedEnd requires promise 14 of a world at the end of its schedule, and returns the world after one more flush.
func requireConservedEnd(t *testing.T, w impl.World) impl.World {
	t.Helper()
	if !impl.Conserved(w) {
		t.Fatalf("not conserved: %+v", w)
	}
	w.Todo = todoOf(1)
	w = impl.Finish(w)
	if !impl.Conserved(w) || len(impl.ReportIn(w.Cells, 0))+len(impl.ReportIn(w.Cells, 1)) != 0 {
		t.Fatalf("not conserved after one more flush: %+v", w)
	}
	// All that was accepted is in the reports now.
	for _, key := range impl.KeysIn(w.Cells) {
		_, kind := impl.FindKey(w.Cells, key)
		row, samples := impl.TotalIn(impl.Reports(w), key), wantSamples(w.Log, key)
		want := impl.Row{Key: key, Kind: kind}
		switch {
		case kind == 1 && wantSum(w.Log, key) > 0:
			want.Sum = wantSum(w.Log, key)
		case kind == 2 && len(samples) > 0:
			want.Set, want.Last = true, lastGauge(w.Log, key)
		case kind == 3 && len(samples) > 0:
			want.N, want.Min, want.Max, want.Dropped = len(samples), samples[0], samples[len(samples)-1], len(wantValues(w.Log, 5)[key])
			for _, v := range samples {
				want.Total += v
			}
		default:
			want = impl.Row{}
		}
		if row != want {
			t.Fatalf("the total of %q: %+v, want %+v; %+v", key, row, want, w.Log)
		}
	}
	return w
}

// lastGauge returns the value of the record of the gauge that takes effect last.
func lastGauge(l []impl.Ev, key string) int {
	order := impl.Order(l)
	slices.Reverse(order)
	for _, serial := range order {
		if e := pointOf(l, serial)[0]; e.Op.Kind == 2 && e.Op.Key == key && e.Code == 0 {
			return e.Op.Val
		}
	}
	return -1
}

func TestConservedInEveryHistory(t *testing.T) {
	first, second := recordOp("a", 5), recordOp("a", 6)
	for _, x := range []struct {
		keys  []impl.KRow
		todo  []impl.Queue
		least int
	}{
		{nil, todoOf(1, []impl.Op{registerOp("a", 1), first}), 1500},
		{nil, todoOf(0, []impl.Op{registerOp("a", 1)}, []impl.Op{registerOp("a", 3)}, []impl.Op{first}), 8500},
		{krows("a", 1), todoOf(2, []impl.Op{first, second}), 20000},
		{krows("a", 1, "b", 3), todoOf(1, []impl.Op{first}, []impl.Op{recordOp("b", 6)}), 40000},
		{krows("a", 2), todoOf(3, []impl.Op{first}), 5000},
		{krows("a", 3), todoOf(1, []impl.Op{first}, []impl.Op{second}), 40000},
		{krows("a", 3), todoOf(0, []impl.Op{first, first}, []impl.Op{second, second}), 14000},
	} {
		ends := 0
		n := eachHistory(t, readyWorld(t, x.keys, x.todo), func(w impl.World) {
			if impl.Idle(w) {
				ends++
				requireConservedEnd(t, w)
			} else if impl.Conserved(w) {
				t.Errorf("Conserved before the end: %+v", w)
			}
		})
		if n < x.least || ends < 90 {
			t.Errorf("only %d histories with %d ends of %+v", n, ends, x.todo)
		}
	}
}

// Long schedules, also ones in which the epoch wraps around.
func TestConservedOfManySchedules(t *testing.T) {
	r := rand.New(rand.NewPCG(16, 4))
	dropped, reports := 0, 0
	for i := range 400 {
		w := anyStart(r, i)
		for _, thread := range anyPicks(r, oneOf(r, 0, 100, 300, 500)) {
			w = impl.Step(w, thread)
		}
		if !impl.Idle(w) {
			requireConserved(t, w, false)
		}
		end := impl.Finish(w)
		requireConserved(t, end, true)
		end = requireConservedEnd(t, end)
		dropped += impl.CodesIn(end.Log, 5)
		reports += len(impl.Reports(end))
	}
	if dropped < 50 || reports < 1000 {
		t.Errorf("only %d dropped samples and %d reports", dropped, reports)
	}
}

// A flush that switches at every moment of the records of two writers.
func TestConservedOfAFlushAtEachMoment(t *testing.T) {
	for kind := 1; kind <= 3; kind++ {
		l := todoOf(2, keyOps("a", kind, 5, 6), []impl.Op{recordOp("a", 7), recordOp("a", 8), recordOp("a", 9)})
		for before := range 50 {
			for between := range 9 {
				picks := slices.Concat(times(4, 0), slices.Repeat([]int{0, 1}, before/2), times(before%2, 0), times(2, 3), slices.Repeat([]int{1, 0, 0}, between), times(45, 3), times(between, 1), times(3, 3))
				requireConservedEnd(t, impl.Finish(impl.Play(impl.Script{Todo: l, Picks: picks})))
			}
		}
	}
}

// Records of different powers of two: the sums show which records are in a report.
func TestEachRecordIsInOneReport(t *testing.T) {
	r := rand.New(rand.NewPCG(16, 5))
	spread := 0
	for i := range 150 {
		kind := 1 + i%2*2
		l := todoOf(r.IntN(11))
		for thread := range 3 {
			for k := range 5 {
				l[thread].Ops = append(l[thread].Ops, recordOp("a", 1<<(5*thread+k)))
			}
		}
		w := readyWorld(t, krows("a", kind), l)
		for _, thread := range anyPicks(r, oneOf(r, 100, 300, 500)) {
			w = impl.Step(w, thread)
		}
		w = requireConservedEnd(t, impl.Finish(w))
		found, full := 0, 0
		for win, rows := range impl.Reports(w) {
			if len(rows) == 0 {
				continue
			}
			sum := rows[0].Sum + rows[0].Total
			if len(rows) != 1 || found&sum != 0 || kind == 3 && bits.OnesCount(uint(sum)) != rows[0].N {
				t.Fatalf("the report %d has %+v, those before it %b; %+v", win, rows, found, w.Log)
			}
			found |= sum
			full++
		}
		accepted := wantSamples(w.Log, "a")
		if impl.SumOf(w.Log, "a") != found || bits.OnesCount(uint(found)) != len(accepted) || len(accepted)+impl.CodesIn(w.Log, 5) != 15 {
			t.Fatalf("the reports have %b, accepted are %v; %+v", found, accepted, w.Log)
		}
		if full > 2 {
			spread++
		}
	}
	if spread < 40 {
		t.Errorf("only %d worlds with records in more than two reports", spread)
	}
}

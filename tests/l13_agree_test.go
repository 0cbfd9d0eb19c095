package tests

import (
	"math/rand/v2"
	"slices"
	"testing"

	"loop.example/g01608/impl"
)

// Promise 8: sequential execution on the cells agrees with ModelDo.

// twin has the cells and the model after the same operations.
type twin struct {
	cells []int
	model impl.Model
}

// twinOf returns cells that are laid out by hand with the model of their keys and of the rows in the buffer of their epoch.
func twinOf(a []int) twin {
	var m impl.Model
	for _, key := range slices.Sorted(slices.Values(wantKeys(a))) {
		_, kind := wantFound(a, key)
		m.Keys = append(m.Keys, impl.KRow{Key: key, Kind: kind})
	}
	m.Rows = wantReportIn(a, a[0]&1)
	return twin{a, m}
}

// require checks that both sides have the same keys and rows.
func (x twin) require(t *testing.T) {
	t.Helper()
	keys, b := impl.KeysIn(x.cells), x.cells[0]&1
	slices.Sort(keys)
	agree := impl.TableOk(x.cells) && impl.ModelOk(x.model) && len(keys) == len(x.model.Keys) && impl.BufClear(x.cells, 1-b)
	for i, k := range x.model.Keys {
		agree = agree && keys[i] == k.Key
	}
	for _, key := range append(keys, "none", "", "a-") {
		slot, kind := impl.FindKey(x.cells, key)
		agree = agree && impl.ModelKind(x.model, key) == kind && impl.ModelRow(x.model, key) == impl.RowIn(x.cells, b, slot)
	}
	if !agree || !impl.SameReport(impl.ReportIn(x.cells, b), x.model.Rows) {
		t.Errorf("the cells %v with the report %+v and the model %+v", x.cells, impl.ReportIn(x.cells, b), x.model)
	}
}

// do performs the operation on both sides, requires that they agree, and returns also the code.
func (x twin) do(t *testing.T, w int, o impl.Op) (twin, int) {
	t.Helper()
	var next twin
	var code, modelCode int
	var rows, modelRows []impl.Row
	switch o.Kind {
	case 1:
		next.cells, _, code = impl.Register(x.cells, o.Key, o.What)
	case 2:
		next.cells, code = impl.RecordNow(x.cells, w, o.Key, o.Val)
	case 3:
		next.cells, rows = impl.FlushNow(x.cells)
	}
	next.model, modelCode, modelRows = impl.ModelDo(x.model, o)
	if code != modelCode || !impl.SameReport(rows, modelRows) {
		t.Errorf("%+v by writer %d after %v: %d, %+v on the cells, %d, %+v in the model %+v", o, w, x.cells, code, rows, modelCode, modelRows, x.model)
	}
	next.require(t)
	return next, code
}

// run performs the operations by one writer after another.
func (x twin) run(t *testing.T, ops ...impl.Op) twin {
	t.Helper()
	for n, o := range ops {
		x, _ = x.do(t, n%3, o)
	}
	return x
}

func newTwin() twin {
	return twin{cells: make([]int, 71)}
}

func TestCellsAgreeWithTheModel(t *testing.T) {
	x := newTwin().run(t,
		recordOp("hits", 5), registerOp("hits", 1), recordOp("hits", 5), registerOp("cpu", 2), registerOp("t", 3), registerOp("t", 3), registerOp("t", 1), recordOp("cpu", 9), recordOp("cpu", 3),
		recordOp("t", 7), recordOp("t", 0), recordOp("t", 65535), recordOp("t", 5), recordOp("t", 6), recordOp("hits", 65535), registerOp("z", 1), recordOp("z", 0), registerOp("e", 1), recordOp("e", 1))
	want := []impl.Row{gaugeRow("cpu", 3), countRow("hits", 65540), timerRow(3, 0, 65535, 65542, 2)}
	if !slices.Equal(x.model.Rows, want) || !slices.Equal(x.model.Keys, krows("cpu", 2, "hits", 1, "t", 3, "z", 1)) {
		t.Errorf("%+v", x.model)
	}
	x = x.run(t, flushOp(), flushOp(), recordOp("t", 1), recordOp("cpu", 0), recordOp("hits", 0), flushOp(), recordOp("z", 8))
	if !slices.Equal(x.model.Rows, []impl.Row{countRow("z", 8)}) || x.cells[0] != 3 {
		t.Errorf("%+v, %v", x.model, x.cells)
	}
	// Invalid arguments are the same on both sides.
	for _, o := range noOps() {
		if o == registerOp(o.Key, o.What) || o == recordOp(o.Key, o.Val) {
			if next, code := x.do(t, 1, o); code != 1 || differ(next, x) {
				t.Errorf("%+v: %d, %+v", o, code, next)
			}
		}
	}
}

// Every sequence of four of these operations, among them keys with one home and a key too many.
func TestEveryFewOperationsAgree(t *testing.T) {
	ops := []impl.Op{registerOp("a", 1), registerOp("e", 3), registerOp("e", 2), recordOp("a", 0), recordOp("a", 65535), recordOp("e", 4), recordOp("q", 7), flushOp()}
	var extend func(x twin, left int)
	extend = func(x twin, left int) {
		for i, o := range ops {
			if next, _ := x.do(t, i%3, o); left > 1 {
				extend(next, left-1)
			}
		}
	}
	extend(newTwin(), 4)
	extend(newTwin().run(t, registerOp("b", 2), registerOp("c", 3), registerOp("d", 1), recordOp("c", 5), recordOp("c", 9), recordOp("d", 1)), 4)
	// The last epoch, and a timer with one sample less than there is room for.
	a := cellsOf(slotIn{tag: wantTagged("a", 1)}, slotIn{wantTagged("e", 3), [2][]int{nil, rawSlot(0, 0, 0, 0, 2, 10, 2, 0)}})
	a[0] = impl.Word - 1
	x := twinOf(a)
	x.require(t)
	extend(x, 4)
}

// Keys in every order, so that each is the one that does not fit.
func TestKeysInEveryOrderAgree(t *testing.T) {
	for _, keys := range [][]string{{"a", "b", "c", "d", "e"}, {"a", "e", "i", "q", "1"}, {"d", "hits", "aa", "a", "l"}} {
		orders(keys, func(list []string) {
			x := newTwin()
			for n, key := range list {
				next, code := x.do(t, 0, registerOp(key, 1+n%3))
				if want := []int{0, 0, 0, 0, 3}[n]; code != want {
					t.Errorf("number %d of %q: %d", n, list, code)
				}
				x = next.run(t, recordOp(key, 3), recordOp(list[0], 0), registerOp(list[n/2], 2), recordOp(key, n))
			}
			x.run(t, flushOp(), recordOp(list[1], 7), flushOp())
		})
	}
}

// Numbers at their limits, laid out by hand: sums that come to Word, the last samples, and as many dropped ones as a row can count.
func TestLimitsAgree(t *testing.T) {
	const top = impl.Word - 1
	for _, epoch := range []int{0, 1, 2, top - 1, top} {
		with := func(raw []int, kind int) twin {
			s := slotIn{tag: wantTagged("a", kind)}
			s.raws[epoch&1] = raw
			a := cellsOf(s, slotIn{tag: wantTagged("b", 1)}, slotIn{tag: wantTagged("c", 2)})
			a[0] = epoch
			x := twinOf(a)
			x.require(t)
			return x
		}
		for _, v := range []int{0, 1, 2, 65534, 65535} {
			ops := []impl.Op{recordOp("a", v), recordOp("b", v), recordOp("a", v), recordOp("a", 65535-v), recordOp("c", v), recordOp("a", 1), flushOp(), recordOp("a", v), recordOp("a", v), flushOp()}
			for _, c := range [][2]int{{0, 0}, {top, 0}, {0, top}, {top, top}, {top - v, 0}, {top, 65535 - v}, {impl.Word / 2, impl.Word / 2}, {impl.Word / 2, impl.Word/2 - v}, {impl.Word - 65535, 0}, {impl.Word - 65535, 65535}, {5, impl.Word - 5}} {
				with(rawSlot(c[0], c[1], 0, 0, 0, 0, 0, 0), 1).run(t, ops...)
			}
			for _, stamp := range []int{0, 1, 7, 255, 65530, 65531} {
				gauge := 0
				if stamp > 0 {
					gauge = packed(stamp, 65535-v)
				}
				with(rawSlot(0, 0, stamp, gauge, 0, 0, 0, 0), 2).run(t, ops...)
			}
			for _, ticket := range []int{0, 1, 2, 3, 4, 65533, 65534, 65535, 65536, 65537, 65538, 65539, 1 << 32, top - 9} {
				samples := []int{8, 3, 6}
				clear(samples[min(ticket, 3):])
				with(rawSlot(0, 0, 0, 0, ticket, samples[0], samples[1], samples[2]), 3).run(t, ops...)
			}
		}
	}
}

// A counter that returns to 0 on both sides, by each writer, beside rows that stay.
func TestCounterThatReturnsTo0Agrees(t *testing.T) {
	for w := range 3 {
		for _, v := range []int{1, 5, 65535} {
			a, _ := keyedCells(t, []string{"a", "b", "c"}, []int{1, 1, 1})
			for i, key := range []string{"a", "b", "c"} {
				slot, _ := impl.FindKey(a, key)
				a[impl.StripeCell(0, slot, i%2)] = []int{4, impl.Word - v, 9}[i]
			}
			x, code := twinOf(a).do(t, w, recordOp("b", v))
			if code != 0 || !slices.Equal(x.model.Rows, []impl.Row{countRow("a", 4), countRow("c", 9)}) {
				t.Errorf("writer %d with %d: %d, %+v", w, v, code, x.model)
			}
			x.run(t, recordOp("b", 0), recordOp("b", 3), flushOp(), recordOp("b", v), flushOp())
		}
	}
}

// Many operations by all writers over several windows, with more keys than there are slots.
func TestManyOperationsAgree(t *testing.T) {
	r := rand.New(rand.NewPCG(13, 2))
	codes := map[int]int{}
	for range 300 {
		x := newTwin()
		x.cells[0] = oneOf(r, 0, 1, impl.Word-1, impl.Word-2, r.IntN(impl.Word))
		keys := oneOf(r, []string{"a", "b", "c", "d"}, []string{"a", "e", "i", "q", "b", "hits"}, []string{"hits", "cpu", "t"})
		for range 60 {
			key := oneOf(r, keys...)
			o := oneOf(r, recordOp(key, r.IntN(65536)), recordOp(key, oneOf(r, 0, 1, 65535)), recordOp(key, 5), registerOp(key, 1+r.IntN(3)))
			if r.IntN(20) == 0 {
				o = flushOp()
			}
			var code int
			x, code = x.do(t, r.IntN(3), o)
			codes[10*o.Kind+code]++
		}
		if t.Failed() {
			return
		}
	}
	for _, want := range []int{10, 13, 14, 20, 22, 25, 30} {
		if codes[want] < 100 {
			t.Errorf("kinds and codes: %v", codes)
		}
	}
}

package tests

import (
	"maps"
	"math"
	"math/rand/v2"
	"reflect"
	"slices"
	"testing"

	"loop.example/g01608/impl"
)

// modelOf returns a model with these keys, in this order, and these rows.
func modelOf(keys []impl.KRow, rows ...impl.Row) impl.Model {
	return impl.Model{Keys: keys, Rows: rows}
}

// krows gives the keys of a model, each followed by its kind.
func krows(list ...any) []impl.KRow {
	var out []impl.KRow
	for i := 0; i < len(list); i += 2 {
		out = append(out, impl.KRow{Key: list[i].(string), Kind: list[i+1].(int)})
	}
	return out
}

// timerRowOf is timerRow with another key.
func timerRowOf(key string, n, least, greatest, total, dropped int) impl.Row {
	r := timerRow(n, least, greatest, total, dropped)
	r.Key = key
	return r
}

func wantModelOk(m impl.Model) bool {
	valid := len(m.Keys) <= 4 && wantReportOk(m.Rows)
	for i, k := range m.Keys {
		valid = valid && wantTagged(k.Key, k.Kind) != 0
		for _, earlier := range m.Keys[:i] {
			valid = valid && slices.Compare([]byte(earlier.Key), []byte(k.Key)) < 0
		}
	}
	for _, r := range m.Rows {
		valid = valid && slices.Contains(m.Keys, impl.KRow{Key: r.Key, Kind: r.Kind})
	}
	return valid
}

// tables is a model without an order: the kinds and the rows that are not quiet, by key.
type tables struct {
	kinds map[string]int
	rows  map[string]impl.Row
}

func tablesOf(m impl.Model) tables {
	out := tables{map[string]int{}, map[string]impl.Row{}}
	for _, k := range m.Keys {
		out.kinds[k.Key] = k.Kind
	}
	for _, r := range m.Rows {
		out.rows[r.Key] = r
	}
	return out
}

func (x tables) model() impl.Model {
	var m impl.Model
	for _, key := range slices.Sorted(maps.Keys(x.kinds)) {
		m.Keys = append(m.Keys, impl.KRow{Key: key, Kind: x.kinds[key]})
	}
	for _, key := range slices.Sorted(maps.Keys(x.rows)) {
		m.Rows = append(m.Rows, x.rows[key])
	}
	return m
}

func (x tables) register(key string, kind int) int {
	old := x.kinds[key]
	if old == 0 && len(x.kinds) > 3 {
		return 3
	}
	if old == 0 {
		x.kinds[key] = kind
	}
	if old != 0 && old != kind {
		return 4
	}
	return 0
}

func (x tables) record(key string, v int) int {
	r, there := x.rows[key]
	if !there {
		r = impl.Row{Key: key, Kind: x.kinds[key]}
	}
	switch r.Kind {
	case 0:
		return 2
	case 1:
		x.rows[key] = wantCounted(r, v)
		if x.rows[key].Sum == 0 {
			delete(x.rows, key)
		}
	case 2:
		x.rows[key] = gaugeRow(key, v)
	case 3:
		x.rows[key] = wantSampled(r, v)
		return []int{0, 0, 0, 5}[r.N]
	}
	return 0
}

func wantModelDo(m impl.Model, o impl.Op) (impl.Model, int, []impl.Row) {
	if !wantModelOk(m) || !wantOpOk(o) {
		return m, 1, nil
	}
	x := tablesOf(m)
	code := 0
	switch o.Kind {
	case 1:
		code = x.register(o.Key, o.What)
	case 2:
		code = x.record(o.Key, o.Val)
	case 3:
		return modelOf(m.Keys), 0, m.Rows
	}
	return x.model(), code, nil
}

func checkModelOk(t *testing.T, m impl.Model, want bool) {
	t.Helper()
	arg := roomyCopy(m)
	k := keep(arg)
	if impl.ModelOk(arg) != want || wantModelOk(m) != want {
		t.Errorf("ModelOk(%+v) = %v, want %v", m, impl.ModelOk(arg), want)
	}
	k.check(t, "ModelOk")
}

// do performs the operation and looks at the argument, at memory that is shared, and at promise 18; the result is not compared with anything else.
func do(t *testing.T, m impl.Model, o impl.Op) (impl.Model, int, []impl.Row) {
	t.Helper()
	arg := roomyCopy(m)
	k := keep(arg)
	got, code, rows := impl.ModelDo(arg, o)
	k.check(t, "ModelDo", got, rows)
	if impl.ModelOk(got) != wantModelOk(m) {
		t.Errorf("ModelDo(%+v, %+v) = %+v, which is not as valid", m, o, got)
	}
	if valid := wantModelOk(m) && o == flushOp(); valid && (len(got.Rows) > 0 || differ(rows, m.Rows) || differ(got.Keys, m.Keys)) || !valid && len(rows) > 0 {
		t.Errorf("ModelDo(%+v, %+v) = %+v with the rows %+v", m, o, got, rows)
	}
	return got, code, rows
}

func checkDo(t *testing.T, m impl.Model, o impl.Op) (impl.Model, int) {
	t.Helper()
	got, code, rows := do(t, m, o)
	want, wantCode, wantRows := wantModelDo(m, o)
	if differ(got, want) || code != wantCode || differ(rows, wantRows) {
		t.Errorf("ModelDo(%+v, %+v) = %+v, %d, %+v, want %+v, %d, %+v", m, o, got, code, rows, want, wantCode, wantRows)
	}
	return got, code
}

// requireDo checks the model and the code that the test itself states.
func requireDo(t *testing.T, m impl.Model, o impl.Op, code int, want impl.Model) impl.Model {
	t.Helper()
	got, gotCode := checkDo(t, m, o)
	if differ(got, want) || gotCode != code {
		t.Errorf("ModelDo(%+v, %+v) = %+v, %d, required are %+v, %d", m, o, got, gotCode, want, code)
	}
	return got
}

// abcd has a key of each kind and a second counter.
func abcd() []impl.KRow {
	return krows("a", 1, "b", 2, "c", 3, "d", 1)
}

func abcdRows() []impl.Row {
	return []impl.Row{countRow("a", 3), gaugeRow("b", 0), timerRowOf("c", 3, 2, 9, 16, 1), countRow("d", impl.Word-1)}
}

func validModels() []impl.Model {
	out := []impl.Model{
		{}, {Keys: []impl.KRow{}, Rows: []impl.Row{}}, modelOf(krows("a", 1)), modelOf(krows("a", 2)), modelOf(krows("a_9Z", 3)),
		modelOf(krows("a", 1), countRow("a", 1)), modelOf(krows("a", 1), countRow("a", impl.Word-1)),
		modelOf(krows("a", 2), gaugeRow("a", 0)), modelOf(krows("a", 2), gaugeRow("a", 65535)),
		modelOf(krows("a", 3), timerRowOf("a", 1, 0, 0, 0, 0)), modelOf(krows("a", 3), timerRowOf("a", 3, 2, 9, 16, 65535)),
		modelOf(krows("0", 3, "A", 2, "_", 1, "a", 3)), modelOf(krows("a", 3, "aa", 2, "aaaa", 1, "ab", 1), gaugeRow("aa", 7), countRow("ab", 1)),
	}
	for some := range 16 {
		m := modelOf(abcd())
		for i, r := range abcdRows() {
			if some>>i&1 != 0 {
				m.Rows = append(m.Rows, r)
			}
		}
		out = append(out, m)
	}
	return out
}

// invalidModels have one fault each.
func invalidModels() []impl.Model {
	five := krows("a", 1, "b", 2, "c", 3, "d", 1, "e", 2)
	out := []impl.Model{
		modelOf(five), modelOf(five, countRow("a", 1)), modelOf(append(abcd(), five...)),
		modelOf(krows("b", 1, "a", 1)), modelOf(krows("a", 1, "a", 1)), modelOf(krows("a", 1, "a", 2)), modelOf(krows("a", 2, "a", 1)), modelOf(krows("a", 1, "b", 1, "b", 1)),
		modelOf(krows("a", 1, "c", 1, "b", 1)), modelOf(krows("b", 1, "a", 2, "c", 3)), modelOf(krows("a", 1, "b", 2, "d", 3, "c", 1)), modelOf(krows("a", 1, "b", 2, "c", 3, "a", 1)), modelOf(krows("aa", 1, "a", 1)), modelOf(krows("a", 1, "B", 1)),
		modelOf(krows("b", 2, "a", 1), countRow("a", 1), gaugeRow("b", 0)), modelOf(krows("a", 1, "a", 1), countRow("a", 1)),
		// Rows of no key and rows of another kind.
		modelOf(nil, countRow("a", 1)), modelOf(krows("b", 1), countRow("a", 1)), modelOf(abcd(), countRow("e", 1)), modelOf(abcd(), countRow("A", 1)), modelOf(abcd(), countRow("aa", 1)),
		modelOf(krows("a", 2), countRow("a", 1)), modelOf(krows("a", 3), countRow("a", 1)), modelOf(krows("a", 1), gaugeRow("a", 1)), modelOf(krows("a", 3), gaugeRow("a", 1)), modelOf(krows("a", 1), timerRowOf("a", 1, 0, 0, 0, 0)), modelOf(krows("a", 2), timerRowOf("a", 1, 0, 0, 0, 0)),
		modelOf(abcd(), countRow("a", 1), countRow("b", 1)), modelOf(abcd(), countRow("a", 1), gaugeRow("b", 1), gaugeRow("d", 1)),
		// No report: quiet rows, rows in another order, too many.
		modelOf(abcd(), countRow("a", 0)), modelOf(abcd(), impl.Row{Key: "b", Kind: 2}), modelOf(abcd(), timerRowOf("c", 0, 0, 0, 0, 0)), modelOf(abcd(), countRow("a", 1), countRow("d", 0)),
		modelOf(abcd(), gaugeRow("b", 1), countRow("a", 1)), modelOf(abcd(), countRow("a", 1), countRow("a", 1)), modelOf(abcd(), countRow("d", 1), timerRowOf("c", 1, 0, 0, 0, 0)), modelOf(abcd(), append(abcdRows(), countRow("d", 1))...), modelOf(five, append(abcdRows(), gaugeRow("e", 1))...),
		modelOf(abcd(), countRow("a", impl.Word)), modelOf(abcd(), countRow("a", -1)), modelOf(abcd(), gaugeRow("b", 65536)), modelOf(abcd(), timerRowOf("c", 4, 0, 0, 0, 0)), modelOf(abcd(), timerRowOf("c", 2, 0, 0, 0, 1)), modelOf(abcd(), impl.Row{}), modelOf(abcd(), countRow("a", 1), impl.Row{}),
		modelOf(krows("", 0), impl.Row{}), modelOf(krows("a", 0), impl.Row{Key: "a", Sum: 1}), modelOf(krows("a", 4), impl.Row{Key: "a", Kind: 4, Sum: 1}),
	}
	for _, key := range someNoKeys() {
		out = append(out, modelOf(krows(key, 1)), modelOf(krows(key, 2), gaugeRow(key, 1)))
	}
	for _, kind := range []int{0, 4, -1, -3, 5, 257, math.MinInt, math.MaxInt} {
		for i := range 4 {
			m := modelOf(abcd())
			m.Keys[i].Kind = kind
			out = append(out, m, modelOf(m.Keys[i:i+1]))
		}
	}
	return out
}

// someOps are valid operations for the keys of abcd and for others.
func someOps() []impl.Op {
	out := []impl.Op{flushOp()}
	for _, key := range []string{"a", "b", "c", "d", "0", "aa", "bb", "zzzz"} {
		for _, v := range []int{0, 1, 7, 65535} {
			out = append(out, recordOp(key, v))
		}
		out = append(out, registerOp(key, 1), registerOp(key, 2), registerOp(key, 3))
	}
	return out
}

func noOps() []impl.Op {
	return []impl.Op{
		{}, {Kind: 4}, {Kind: -1}, {Kind: 4, Key: "a", What: 1}, {Kind: 0, Key: "a", Val: 1}, {Kind: 5, Key: "a", Val: 1},
		registerOp("a", 0), registerOp("a", 4), registerOp("z", 0), registerOp("z", 4), registerOp("z", -1), registerOp("", 1), registerOp("hits5", 1), registerOp("a-b", 1), {Kind: 1, Key: "a", What: 1, Val: 1}, {Kind: 1, Key: "z", What: 1, Val: 5}, {Kind: 1, Key: "a", Val: 1},
		recordOp("a", -1), recordOp("a", 65536), recordOp("b", -1), recordOp("b", 65536), recordOp("c", -1), recordOp("c", 65536), recordOp("z", -1), recordOp("z", 65536), recordOp("a", math.MaxInt), recordOp("a", math.MinInt), recordOp("a", impl.Word),
		recordOp("", 1), recordOp("!", 1), recordOp("hits5", 1), recordOp("a\x00", 1), {Kind: 2, Key: "a", What: 1, Val: 1}, {Kind: 2, Key: "c", What: 3, Val: 1}, {Kind: 2, Key: "z", What: 1, Val: 1},
		{Kind: 3, Key: "a"}, {Kind: 3, What: 1}, {Kind: 3, Val: 1}, {Kind: 3, Key: "a", What: 1, Val: 1},
	}
}

func TestModelOk(t *testing.T) {
	for _, m := range validModels() {
		checkModelOk(t, m, true)
	}
	for _, m := range invalidModels() {
		checkModelOk(t, m, false)
	}
}

// Each field, element and length of each valid model changed by itself.
func TestModelOkOfChangedModels(t *testing.T) {
	for _, first := range validModels() {
		m := roomyCopy(first)
		eachChange(reflect.ValueOf(&m).Elem(), "", func(path string) {
			checkModelOk(t, m, wantModelOk(m))
		})
	}
	for _, key := range someKeys() {
		for kind := 1; kind <= 3; kind++ {
			checkModelOk(t, modelOf(krows(key, kind)), true)
		}
		for _, other := range someKeys() {
			ascending := slices.Compare([]byte(key), []byte(other)) < 0
			checkModelOk(t, modelOf(krows(key, 1, other, 2)), ascending)
			checkModelOk(t, modelOf(krows(key, 1, other, 2), countRow(key, 1), gaugeRow(other, 1)), ascending)
			checkModelOk(t, modelOf(krows(key, 1), countRow(other, 1)), key == other)
		}
	}
}

// All lists of up to five keys and kinds, and all lists of up to two rows beside each list of up to two keys.
func TestModelOkOfEveryFewKeysAndRows(t *testing.T) {
	keys := []impl.KRow{{Key: "a", Kind: 1}, {Key: "ab", Kind: 2}, {Key: "b", Kind: 3}, {Key: "c", Kind: 1}, {Key: "d", Kind: 2}, {Key: "a", Kind: 0}, {Key: "", Kind: 1}}
	rows := []impl.Row{countRow("a", 1), gaugeRow("ab", 0), timerRowOf("b", 1, 4, 4, 4, 0), gaugeRow("a", 1), countRow("b", 2), countRow("a", 0), {}}
	lists := [][]impl.KRow{{}}
	valid := 0
	for n := 0; n < len(lists); n++ {
		list := lists[n]
		m := modelOf(list)
		checkModelOk(t, m, wantModelOk(m))
		if wantModelOk(m) {
			valid++
		}
		if len(list) <= 2 {
			for _, r := range rows {
				checkModelOk(t, modelOf(list, r), wantModelOk(modelOf(list, r)))
				for _, s := range rows {
					checkModelOk(t, modelOf(list, r, s), wantModelOk(modelOf(list, r, s)))
				}
			}
		}
		if len(list) < 5 {
			for _, k := range keys {
				lists = append(lists, append(slices.Clone(list), k))
			}
		}
	}
	// The subsets of five keys without the one of all five.
	if valid != 31 {
		t.Errorf("%d of the lists of keys are valid", valid)
	}
}

// checkLookups compares ModelKind and ModelRow with the first elements that have the key.
func checkLookups(t *testing.T, m impl.Model, key string) {
	t.Helper()
	kind := 0
	for _, k := range slices.Backward(m.Keys) {
		if k.Key == key {
			kind = k.Kind
		}
	}
	var row impl.Row
	if kind != 0 {
		row = impl.Row{Key: key, Kind: kind}
	}
	for _, r := range slices.Backward(m.Rows) {
		if r.Key == key {
			row = r
		}
	}
	requireLookups(t, m, key, kind, row)
}

func requireLookups(t *testing.T, m impl.Model, key string, kind int, row impl.Row) {
	t.Helper()
	arg := roomyCopy(m)
	k := keep(arg)
	if got := impl.ModelKind(arg, key); got != kind {
		t.Errorf("ModelKind(%+v, %q) = %d, want %d", m, key, got, kind)
	}
	if got := impl.ModelRow(arg, key); got != row {
		t.Errorf("ModelRow(%+v, %q) = %+v, want %+v", m, key, got, row)
	}
	k.check(t, "ModelKind and ModelRow")
}

func TestModelKindAndModelRow(t *testing.T) {
	m := modelOf(abcd(), abcdRows()...)
	for i, r := range m.Rows {
		requireLookups(t, m, r.Key, []int{1, 2, 3, 1}[i], r)
		requireLookups(t, modelOf(m.Keys), r.Key, []int{1, 2, 3, 1}[i], impl.Row{Key: r.Key, Kind: r.Kind})
	}
	for _, key := range append(someNoKeys(), "e", "A", "aa", "ab", "0", "dddd") {
		requireLookups(t, m, key, 0, impl.Row{})
		requireLookups(t, impl.Model{}, key, 0, impl.Row{})
	}
	for _, m := range append(validModels(), invalidModels()...) {
		for _, key := range append(someNoKeys(), "a", "aa", "ab", "b", "c", "d", "e", "z") {
			checkLookups(t, m, key)
		}
	}
}

// Both accept any model: the first element counts, whatever its other fields are.
func TestModelKindAndModelRowOfAnyModel(t *testing.T) {
	m := modelOf(krows("b", 2, "a", 7, "a", 1, "", 3, "x-", -1, "z", 0, "z", 3, "b", 1),
		countRow("z", 5), gaugeRow("b", 4), countRow("b", 9), impl.Row{Kind: 3, N: 9}, impl.Row{Key: "q", Last: 5}, gaugeRow("z", 1))
	requireLookups(t, m, "a", 7, impl.Row{Key: "a", Kind: 7})
	requireLookups(t, m, "b", 2, gaugeRow("b", 4))
	requireLookups(t, m, "", 3, impl.Row{Kind: 3, N: 9})
	requireLookups(t, m, "x-", -1, impl.Row{Key: "x-", Kind: -1})
	requireLookups(t, m, "z", 0, countRow("z", 5))
	requireLookups(t, m, "q", 0, impl.Row{Key: "q", Last: 5})
	requireLookups(t, m, "c", 0, impl.Row{})
	m.Rows = nil
	requireLookups(t, m, "", 3, impl.Row{Kind: 3})
	// The first element with this key has no kind, and neither has the key.
	requireLookups(t, m, "z", 0, impl.Row{})
	for _, kind := range append(farNumbers(), 1, 2, 3, 4) {
		requireLookups(t, modelOf(krows("a", kind, "a", 2)), "a", kind, impl.Row{Key: "a", Kind: kind})
	}
	// Rows that are quiet, too.
	requireLookups(t, modelOf(krows("a", 2), countRow("a", 0)), "a", 2, countRow("a", 0))
	requireLookups(t, modelOf(nil, impl.Row{Key: "a"}, countRow("a", 1)), "a", 0, impl.Row{Key: "a"})
}

// One operation after another, with the models written out.
func TestModelDoWrittenOut(t *testing.T) {
	m := requireDo(t, impl.Model{}, recordOp("hits", 5), 2, impl.Model{})
	m = requireDo(t, m, registerOp("hits", 1), 0, modelOf(krows("hits", 1)))
	m = requireDo(t, m, recordOp("hits", 5), 0, modelOf(krows("hits", 1), countRow("hits", 5)))
	keys := krows("cpu", 2, "hits", 1)
	m = requireDo(t, m, registerOp("cpu", 2), 0, modelOf(keys, countRow("hits", 5)))
	m = requireDo(t, m, registerOp("cpu", 2), 0, m)
	m = requireDo(t, m, registerOp("cpu", 1), 4, m)
	m = requireDo(t, m, registerOp("hits", 3), 4, m)
	m = requireDo(t, m, recordOp("cpu", 9), 0, modelOf(keys, gaugeRow("cpu", 9), countRow("hits", 5)))
	m = requireDo(t, m, recordOp("cpu", 0), 0, modelOf(keys, gaugeRow("cpu", 0), countRow("hits", 5)))
	m = requireDo(t, m, recordOp("hits", 65535), 0, modelOf(keys, gaugeRow("cpu", 0), countRow("hits", 65540)))
	keys = krows("cpu", 2, "ddd", 3, "hits", 1)
	m = requireDo(t, m, registerOp("ddd", 3), 0, modelOf(keys, gaugeRow("cpu", 0), countRow("hits", 65540)))
	for n, row := range []impl.Row{
		timerRowOf("ddd", 1, 5, 5, 5, 0), timerRowOf("ddd", 2, 2, 5, 7, 0), timerRowOf("ddd", 3, 2, 9, 16, 0), timerRowOf("ddd", 3, 2, 9, 16, 1), timerRowOf("ddd", 3, 2, 9, 16, 2),
	} {
		m = requireDo(t, m, recordOp("ddd", []int{5, 2, 9, 0, 65535}[n]), []int{0, 0, 0, 5, 5}[n], modelOf(keys, gaugeRow("cpu", 0), row, countRow("hits", 65540)))
	}
	m = requireDo(t, m, recordOp("dd", 5), 2, m)
	m = requireDo(t, m, recordOp("a-", 5), 1, m)
	_, code, rows := do(t, m, flushOp())
	if want := []impl.Row{gaugeRow("cpu", 0), timerRowOf("ddd", 3, 2, 9, 16, 2), countRow("hits", 65540)}; code != 0 || !slices.Equal(rows, want) {
		t.Errorf("the flush of %+v: %d, %+v", m, code, rows)
	}
	m = requireDo(t, m, flushOp(), 0, modelOf(keys))
	m = requireDo(t, m, flushOp(), 0, modelOf(keys))
	// The kinds stay, and the samples begin anew.
	m = requireDo(t, m, registerOp("hits", 2), 4, modelOf(keys))
	m = requireDo(t, m, recordOp("ddd", 3), 0, modelOf(keys, timerRowOf("ddd", 1, 3, 3, 3, 0)))
	requireDo(t, m, recordOp("hits", 1), 0, modelOf(keys, timerRowOf("ddd", 1, 3, 3, 3, 0), countRow("hits", 1)))
}

// A counter that returns to 0 has no row any more, at each place of a report, and a new one with the next record.
func TestCounterThatReturnsTo0(t *testing.T) {
	keys := krows("a", 1, "b", 1, "c", 1, "d", 1)
	for some := range 16 {
		for i := range 4 {
			var before, after []impl.Row
			for k := range 4 {
				if k < i && some>>k&1 != 0 {
					before = append(before, countRow(keys[k].Key, k+1))
				}
				if k > i && some>>k&1 != 0 {
					after = append(after, countRow(keys[k].Key, k+1))
				}
			}
			key := keys[i].Key
			with := func(sum int) impl.Model {
				return modelOf(keys, slices.Concat(before, []impl.Row{countRow(key, sum)}, after)...)
			}
			without := modelOf(keys, slices.Concat(before, after)...)
			for _, v := range []int{1, 2, 5, 65534, 65535} {
				m := requireDo(t, with(impl.Word-v), recordOp(key, v), 0, without)
				requireLookups(t, m, key, 1, countRow(key, 0))
				requireDo(t, m, recordOp(key, 0), 0, without)
				requireDo(t, m, registerOp(key, 1), 0, without)
				requireDo(t, m, registerOp(key, 2), 4, without)
				requireDo(t, m, recordOp(key, 7), 0, with(7))
				// One less and one more.
				requireDo(t, with(impl.Word-v), recordOp(key, v-1), 0, with(impl.Word-1))
				if v < 65535 {
					requireDo(t, with(impl.Word-v), recordOp(key, v+1), 0, with(1))
				}
			}
			requireDo(t, with(impl.Word-1), recordOp(key, 65535), 0, with(65534))
			requireDo(t, with(impl.Word-1), recordOp(key, 0), 0, with(impl.Word-1))
			requireDo(t, without, recordOp(key, 0), 0, without)
		}
	}
	m := modelOf(krows("a", 1), countRow("a", impl.Word-5))
	m = requireDo(t, m, recordOp("a", 5), 0, modelOf(krows("a", 1)))
	if _, code, rows := do(t, m, flushOp()); code != 0 || len(rows) > 0 {
		t.Errorf("the flush of a counter that returned to 0: %d, %+v", code, rows)
	}
}

// The zeros of a gauge and of a timer are no quiet rows.
func TestRecordsOf0(t *testing.T) {
	m := requireDo(t, modelOf(abcd()), recordOp("a", 0), 0, modelOf(abcd()))
	m = requireDo(t, m, recordOp("b", 0), 0, modelOf(abcd(), gaugeRow("b", 0)))
	m = requireDo(t, m, recordOp("c", 0), 0, modelOf(abcd(), gaugeRow("b", 0), timerRowOf("c", 1, 0, 0, 0, 0)))
	m = requireDo(t, m, recordOp("d", 0), 0, m)
	requireDo(t, m, recordOp("d", 1), 0, modelOf(abcd(), gaugeRow("b", 0), timerRowOf("c", 1, 0, 0, 0, 0), countRow("d", 1)))
}

// A model with Slots keys takes no other, whatever its rows are.
func TestModelDoOfAFullModel(t *testing.T) {
	for _, rows := range [][]impl.Row{nil, abcdRows(), abcdRows()[1:3]} {
		for kind := 1; kind <= 3; kind++ {
			for _, key := range append(someKeys(), "e", "b_") {
				if slices.Contains([]string{"a", "b", "c", "d"}, key) {
					continue
				}
				full := modelOf(abcd(), rows...)
				requireDo(t, full, registerOp(key, kind), 3, full)
				requireDo(t, full, recordOp(key, 5), 2, full)
				for i := range 4 {
					less := modelOf(slices.Delete(abcd(), i, i+1))
					m, code := checkDo(t, less, registerOp(key, kind))
					if code != 0 || len(m.Keys) != 4 || impl.ModelKind(m, key) != kind {
						t.Errorf("%q as the fourth key beside %+v: %+v, %d", key, less, m, code)
					}
					requireDo(t, m, registerOp(abcd()[i].Key, kind), 3, m)
					requireDo(t, m, registerOp(key, kind), 0, m)
					requireDo(t, m, registerOp(key, kind%3+1), 4, m)
				}
			}
			for _, k := range abcd() {
				full := modelOf(abcd(), rows...)
				code := 4
				if k.Kind == kind {
					code = 0
				}
				requireDo(t, full, registerOp(k.Key, kind), code, full)
			}
		}
	}
}

// Keys and rows are in order, in whatever order the keys are registered and the values recorded.
func TestModelDoInEveryOrder(t *testing.T) {
	for _, keys := range [][]string{{"a", "b", "c", "d"}, {"Z", "_", "aa", "a"}, {"hits", "cpu", "0", "a_9Z"}, {"9", "A", "AA", "AAAA"}} {
		sorted := slices.Sorted(slices.Values(keys))
		orders(keys, func(list []string) {
			m := impl.Model{}
			for n, key := range list {
				m, _ = checkDo(t, m, registerOp(key, 1+n%3))
				if !slices.Contains(m.Keys, impl.KRow{Key: key, Kind: 1 + n%3}) || len(m.Keys) != n+1 {
					t.Errorf("%q after number %d of %q: %+v", key, n, list, m)
				}
			}
			orders(keys, func(list []string) {
				m := m
				for n, key := range list {
					m, _ = checkDo(t, m, recordOp(key, n+1))
					m, _ = checkDo(t, m, recordOp(list[n/2], 2))
				}
				for i, key := range sorted {
					if len(m.Keys) != 4 || len(m.Rows) != 4 || m.Keys[i].Key != key || m.Rows[i].Key != key {
						t.Errorf("after records in the order %q: %+v", list, m)
					}
				}
			})
		})
	}
}

// Each valid model with each operation: no other key and no other row changes.
func TestModelDoOfEachModel(t *testing.T) {
	for _, m := range validModels() {
		for _, o := range someOps() {
			got, code := checkDo(t, m, o)
			for _, key := range []string{"a", "aa", "ab", "b", "c", "d", "z"} {
				if key == o.Key || o.Kind == 3 {
					continue
				}
				if impl.ModelKind(got, key) != impl.ModelKind(m, key) || impl.ModelRow(got, key) != impl.ModelRow(m, key) {
					t.Errorf("%+v changes %q in %+v: %+v", o, key, m, got)
				}
			}
			if code != 0 && code != 5 && differ(got, m) {
				t.Errorf("%+v is %d and changes %+v: %+v", o, code, m, got)
			}
		}
		for _, o := range noOps() {
			requireDo(t, m, o, 1, m)
		}
	}
}

// An invalid model comes back as it is, with CdArgs and without rows, whatever the operation is.
func TestModelDoOfInvalidModels(t *testing.T) {
	for _, m := range invalidModels() {
		for _, o := range append(someOps(), noOps()...) {
			requireDo(t, m, o, 1, m)
		}
	}
	for _, first := range validModels() {
		m := roomyCopy(first)
		eachChange(reflect.ValueOf(&m).Elem(), "", func(path string) {
			for _, o := range []impl.Op{flushOp(), registerOp("b", 2), registerOp("a1", 1), recordOp("a", 1), recordOp("c", 65535), recordOp("c", 65536)} {
				checkDo(t, m, o)
			}
		})
	}
}

// CdOk for the first samples, then CdDropped, also when Dropped has come to MaxVal.
func TestModelDoOfATimer(t *testing.T) {
	keys := krows("a", 1, "t", 3, "u", 2)
	with := func(r impl.Row) impl.Model { return modelOf(keys, countRow("a", 5), r, gaugeRow("u", 3)) }
	for _, v := range []int{0, 1, 9, 65534, 65535} {
		for _, dropped := range []int{0, 1, 7, 65533, 65534} {
			requireDo(t, with(timerRow(3, 2, 9, 16, dropped)), recordOp("t", v), 5, with(timerRow(3, 2, 9, 16, dropped+1)))
		}
		requireDo(t, with(timerRow(3, 2, 9, 16, 65535)), recordOp("t", v), 5, with(timerRow(3, 2, 9, 16, 65535)))
		requireDo(t, with(timerRow(2, 2, 9, 11, 0)), recordOp("t", v), 0, with(timerRow(3, min(2, v), max(9, v), 11+v, 0)))
		requireDo(t, with(timerRow(1, 4, 4, 4, 0)), recordOp("t", v), 0, with(timerRow(2, min(4, v), max(4, v), 4+v, 0)))
		requireDo(t, modelOf(keys, countRow("a", 5), gaugeRow("u", 3)), recordOp("t", v), 0, with(timerRow(1, v, v, v, 0)))
	}
	// A counter and a gauge have no samples, so that their values are never dropped.
	requireDo(t, with(timerRow(3, 2, 9, 16, 5)), recordOp("a", 9), 0, modelOf(keys, countRow("a", 14), timerRow(3, 2, 9, 16, 5), gaugeRow("u", 3)))
	requireDo(t, with(timerRow(3, 2, 9, 16, 5)), recordOp("u", 9), 0, modelOf(keys, countRow("a", 5), timerRow(3, 2, 9, 16, 5), gaugeRow("u", 9)))
}

// Promise 18 for every sequence of four of these operations.
func TestEveryFewOperations(t *testing.T) {
	ops := []impl.Op{
		registerOp("b", 1), registerOp("a", 2), registerOp("c", 3), registerOp("b", 3), recordOp("b", 0), recordOp("b", 65535), recordOp("a", 4), recordOp("c", 7), flushOp(), {}, registerOp("ab", 1), recordOp("ab", 5),
	}
	start := modelOf(krows("b", 1, "c", 3), countRow("b", impl.Word-65535), timerRowOf("c", 2, 2, 9, 11, 0))
	var extend func(m impl.Model, left int)
	extend = func(m impl.Model, left int) {
		for _, o := range ops {
			if next, _ := checkDo(t, m, o); left > 1 {
				extend(next, left-1)
			}
		}
	}
	extend(impl.Model{}, 4)
	extend(start, 4)
}

// anyModel returns a valid model.
func anyModel(r *rand.Rand) impl.Model {
	x := tables{map[string]int{}, map[string]impl.Row{}}
	for range r.IntN(5) {
		key, kind := oneOf(r, "a", "aa", "b", "B", "_9", "hits", "zzzz", "0"), 1+r.IntN(3)
		x.kinds[key] = kind
		x.rows[key] = oneOf(r, rowsOfKind(key, kind)...)
		if r.IntN(3) == 0 {
			delete(x.rows, key)
		}
	}
	return x.model()
}

func rowsOfKind(key string, kind int) []impl.Row {
	switch kind {
	case 1:
		return []impl.Row{countRow(key, 1), countRow(key, 7), countRow(key, impl.Word-65535), countRow(key, impl.Word-1)}
	case 2:
		return []impl.Row{gaugeRow(key, 0), gaugeRow(key, 1), gaugeRow(key, 65535)}
	}
	return []impl.Row{timerRowOf(key, 1, 7, 7, 7, 0), timerRowOf(key, 2, 0, 65535, 65535, 0), timerRowOf(key, 3, 2, 9, 16, 0), timerRowOf(key, 3, 2, 9, 16, 65534), timerRowOf(key, 3, 0, 0, 0, 65535)}
}

// Many operations one after another, from many models.
func TestManyOperations(t *testing.T) {
	r := rand.New(rand.NewPCG(13, 1))
	codes := map[int]int{}
	for range 400 {
		m := anyModel(r)
		for range 40 {
			key := oneOf(r, "a", "aa", "b", "B", "_9", "hits", "zzzz", "0")
			o := oneOf(r, registerOp(key, 1+r.IntN(3)), recordOp(key, r.IntN(65536)), recordOp(key, oneOf(r, 0, 1, 65535)), recordOp(key, 5))
			if r.IntN(20) == 0 {
				o = flushOp()
			}
			if r.IntN(20) == 0 {
				o = oneOf(r, noOps()...)
			}
			var code int
			m, code = checkDo(t, m, o)
			codes[10*o.Kind+code]++
		}
		if t.Failed() {
			return
		}
	}
	for _, want := range []int{10, 11, 13, 14, 20, 21, 22, 25, 30, 31} {
		if codes[want] < 50 {
			t.Errorf("kinds and codes: %v", codes)
		}
	}
}

func checkSameModel(t *testing.T, a, b impl.Model, want bool) {
	t.Helper()
	first, second := roomyCopy(a), roomyCopy(b)
	k := keep(first, second)
	if impl.SameModel(first, second) != want || impl.SameModel(second, first) != want {
		t.Errorf("SameModel(%+v, %+v) is not %v", a, b, want)
	}
	k.check(t, "SameModel")
}

// It accepts any models, also invalid ones.
func TestSameModel(t *testing.T) {
	all := append(validModels(), invalidModels()...)
	for _, a := range all {
		for _, b := range all {
			checkSameModel(t, a, b, slices.Equal(a.Keys, b.Keys) && slices.Equal(a.Rows, b.Rows))
		}
	}
	for _, m := range all {
		changed := roomyCopy(m)
		eachChange(reflect.ValueOf(&changed).Elem(), "", func(path string) {
			// A key that ends with a zero byte comes once as it was.
			checkSameModel(t, m, changed, !differ(m, changed))
			checkSameModel(t, changed, roomyCopy(changed), true)
		})
	}
	// The order counts.
	m := modelOf(abcd(), abcdRows()...)
	for i := range 4 {
		for k := range i {
			other := roomyCopy(m)
			other.Keys[i], other.Keys[k] = other.Keys[k], other.Keys[i]
			checkSameModel(t, m, other, false)
			other = roomyCopy(m)
			other.Rows[i], other.Rows[k] = other.Rows[k], other.Rows[i]
			checkSameModel(t, m, other, false)
		}
	}
	checkSameModel(t, impl.Model{}, modelOf(krows("a", 1)), false)
	checkSameModel(t, impl.Model{}, modelOf(nil, impl.Row{}), false)
	checkSameModel(t, impl.Model{Keys: []impl.KRow{{}}}, impl.Model{Rows: []impl.Row{{}}}, false)
}

func TestModelsWithNilAndEmptySlices(t *testing.T) {
	none := []impl.Model{{}, {Keys: []impl.KRow{}}, {Rows: []impl.Row{}}, {Keys: []impl.KRow{}, Rows: []impl.Row{}}}
	for _, m := range none {
		checkModelOk(t, m, true)
		requireLookups(t, m, "a", 0, impl.Row{})
		for _, o := range append(someOps(), noOps()...) {
			got, code := checkDo(t, m, o)
			want, wantCode, _ := impl.ModelDo(impl.Model{}, o)
			if !impl.SameModel(got, want) || code != wantCode {
				t.Errorf("%+v in the empty model: %+v, %d, want %+v, %d", o, got, code, want, wantCode)
			}
		}
		for _, other := range none {
			checkSameModel(t, m, other, true)
		}
		m.Keys = krows("a", 1)
		checkSameModel(t, m, modelOf(krows("a", 1)), true)
	}
}

// A caller that writes into the results changes neither the model that came in nor what the next calls return.
func TestModelDoSharesNoMemory(t *testing.T) {
	for _, m := range append(validModels(), invalidModels()...) {
		for _, o := range append(someOps(), noOps()...) {
			arg := roomyCopy(m)
			k := keep(arg)
			got, _, rows := impl.ModelDo(arg, o)
			kept, keptRows := roomyCopy(got), slices.Clone(rows)
			clear(rows[:cap(rows)])
			if differ(got, kept) {
				t.Errorf("the rows of %+v in %+v are those of the model", o, m)
			}
			clear(got.Keys[:cap(got.Keys)])
			clear(got.Rows[:cap(got.Rows)])
			k.check(t, "ModelDo")
			if again, _, rows := impl.ModelDo(arg, o); differ(again, kept) || differ(rows, keptRows) {
				t.Errorf("%+v in %+v again: %+v, %+v", o, m, again, rows)
			}
		}
	}
}

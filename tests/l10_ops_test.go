package tests

import (
	"math"
	"reflect"
	"slices"
	"testing"

	"loop.example/g01608/impl"
)

// roomyCopy returns a deep copy in which each slice has unused capacity, filled with marks.
func roomyCopy[T any](v T) T {
	var out T
	copyInto(reflect.ValueOf(&out).Elem(), reflect.ValueOf(v), 2)
	return out
}

// copyInto makes a deep copy, with so much unused capacity behind each slice.
func copyInto(to, from reflect.Value, room int) {
	switch from.Kind() {
	case reflect.Slice:
		n := from.Len()
		list := reflect.MakeSlice(from.Type(), n+room, n+room)
		for i := range n {
			copyInto(list.Index(i), from.Index(i), room)
		}
		for i := n; i < n+room; i++ {
			markAll(list.Index(i))
		}
		to.Set(list.Slice(0, n))
	case reflect.Struct:
		for i := range from.NumField() {
			copyInto(to.Field(i), from.Field(i), room)
		}
	default:
		to.Set(from)
	}
}

// markAll sets everything in the value, so that it equals nothing that a test uses.
func markAll(v reflect.Value) {
	switch v.Kind() {
	case reflect.Int:
		v.SetInt(mark)
	case reflect.String:
		v.SetString("#mark")
	case reflect.Bool:
		v.SetBool(true)
	case reflect.Slice:
		v.Set(reflect.MakeSlice(v.Type(), 1, 1))
		markAll(v.Index(0))
	case reflect.Struct:
		for i := range v.NumField() {
			markAll(v.Field(i))
		}
	}
}

// laidOut lists everything in the value, the lengths of the slices and what is in their unused capacity included.
func laidOut(v reflect.Value) []any {
	var out []any
	switch v.Kind() {
	case reflect.Slice:
		out = append(out, v.Len(), v.Cap())
		all := v.Slice(0, v.Cap())
		for i := range all.Len() {
			out = append(out, laidOut(all.Index(i))...)
		}
	case reflect.Struct:
		for i := range v.NumField() {
			out = append(out, laidOut(v.Field(i))...)
		}
	default:
		out = append(out, v.Interface())
	}
	return out
}

// kept remembers arguments of a call, so that a change of them is seen afterwards.
type kept struct {
	args   []any
	before [][]any
}

func keep(args ...any) kept {
	k := kept{args: args}
	for _, a := range args {
		k.before = append(k.before, laidOut(reflect.ValueOf(a)))
	}
	return k
}

// check reports an error if the call changed an argument, or if its results share memory with one or with each other.
func (k kept) check(t *testing.T, name string, results ...any) {
	t.Helper()
	var memory []span
	for i, a := range k.args {
		if !slices.Equal(k.before[i], laidOut(reflect.ValueOf(a))) {
			t.Errorf("%s changed its argument %d, now %+v", name, i, a)
		}
		memory = append(memory, spansOf(reflect.ValueOf(a))...)
	}
	for _, r := range results {
		for _, s := range spansOf(reflect.ValueOf(r)) {
			for _, other := range memory {
				if s.from < other.to && other.from < s.to {
					t.Errorf("%s shares memory in its result %+v", name, r)
					return
				}
			}
			memory = append(memory, s)
		}
	}
}

// span is the memory of a slice, its unused capacity included.
type span struct {
	from, to uintptr
}

func spansOf(v reflect.Value) []span {
	var out []span
	switch v.Kind() {
	case reflect.Slice:
		if v.Cap() > 0 {
			out = append(out, span{v.Pointer(), v.Pointer() + uintptr(v.Cap())*v.Type().Elem().Size()})
		}
		for i := range v.Len() {
			out = append(out, spansOf(v.Index(i))...)
		}
	case reflect.Struct:
		for i := range v.NumField() {
			out = append(out, spansOf(v.Field(i))...)
		}
	}
	return out
}

// eachChange changes one thing in the value, calls visit and takes the change back, for every field of every struct in it, every element, and every length.
func eachChange(v reflect.Value, path string, visit func(path string)) {
	try := func(changed reflect.Value) {
		saved := reflect.New(v.Type()).Elem()
		saved.Set(v)
		v.Set(changed)
		visit(path)
		v.Set(saved)
	}
	switch v.Kind() {
	case reflect.Int:
		n := int(v.Int())
		for _, other := range []int{n + 1, n - 1, n + 1<<40, -n, -n - 1} {
			if other != n {
				try(reflect.ValueOf(other))
			}
		}
	case reflect.String:
		try(reflect.ValueOf(v.String() + "x"))
		if s := v.String(); s != "" {
			try(reflect.ValueOf(s[1:]))
			try(reflect.ValueOf(s[:len(s)-1] + "\x00"))
		}
	case reflect.Bool:
		try(reflect.ValueOf(!v.Bool()))
	case reflect.Slice:
		try(reflect.Append(v.Slice3(0, v.Len(), v.Len()), reflect.Zero(v.Type().Elem())))
		if n := v.Len(); n > 0 {
			try(v.Slice(0, n-1))
			try(v.Slice(0, 0))
		}
		for i := range v.Len() {
			eachChange(v.Index(i), path+"["+impl.Dec(i)+"]", visit)
		}
	case reflect.Struct:
		for i := range v.NumField() {
			eachChange(v.Field(i), path+"."+v.Type().Field(i).Name, visit)
		}
	}
}

// farNumbers are numbers far from the limits of nearly all fields.
func farNumbers() []int {
	return []int{math.MinInt, math.MinInt + 1, -1 << 48, -1 << 32, -2, -1, math.MaxInt32 + 1, 1 << 49, math.MaxInt - 1, math.MaxInt}
}

func registerOp(key string, kind int) impl.Op {
	return impl.Op{Kind: 1, Key: key, What: kind}
}

func recordOp(key string, v int) impl.Op {
	return impl.Op{Kind: 2, Key: key, Val: v}
}

func flushOp() impl.Op {
	return impl.Op{Kind: 3}
}

func wantOpOk(o impl.Op) bool {
	key := keyPattern.MatchString(o.Key)
	switch o.Kind {
	case 1:
		return key && within(o.What, 1, 3) && o == registerOp(o.Key, o.What)
	case 2:
		return key && within(o.Val, 0, 65535) && o == recordOp(o.Key, o.Val)
	}
	return o == flushOp()
}

func checkOp(t *testing.T, o impl.Op, want bool) {
	t.Helper()
	if impl.OpOk(o) != want {
		t.Errorf("OpOk(%+v) = %v", o, !want)
	}
}

func TestOpConstants(t *testing.T) {
	if impl.Writers != 3 || impl.Threads != 4 || impl.MaxOps != 10 || impl.MaxSerial != 1000000 || impl.MaxNow != 1000000000 {
		t.Error("limits")
	}
	if impl.OpRegister != 1 || impl.OpRecord != 2 || impl.OpFlush != 3 || impl.EvCall != 1 || impl.EvPoint != 2 || impl.EvTell != 3 {
		t.Error("kinds of operations and events")
	}
}

func TestOpOk(t *testing.T) {
	for _, o := range []impl.Op{
		registerOp("a", 1), registerOp("a_9Z", 2), registerOp("hits", 3),
		recordOp("a", 0), recordOp("a_9Z", 1), recordOp("cpu", 65535), flushOp(),
	} {
		checkOp(t, o, true)
	}
	for _, o := range []impl.Op{
		{}, {Kind: 4}, {Kind: -1}, {Kind: 4, Key: "a", What: 1}, {Kind: 0, Key: "a", Val: 1}, {Kind: 4, Key: "a", Val: 1},
		registerOp("a", 0), registerOp("a", 4), registerOp("a", -1), registerOp("", 1), registerOp("hits5", 1), registerOp("a-b", 1), registerOp("a ", 1), registerOp("\xc3\xa4", 1),
		recordOp("a", -1), recordOp("a", 65536), recordOp("", 0), recordOp("hits5", 0), recordOp("a.b", 0), recordOp("a\x00", 0),
		{Kind: 1, Key: "a", What: 1, Val: 1}, {Kind: 1, Key: "a", What: 1, Val: -1}, {Kind: 1, Key: "a", What: 3, Val: 65535}, {Kind: 1, Key: "a", Val: 1},
		{Kind: 2, Key: "a", What: 1}, {Kind: 2, Key: "a", What: 3, Val: 5}, {Kind: 2, Key: "a", What: -1, Val: 5},
		{Kind: 3, Key: "a"}, {Kind: 3, Key: " "}, {Kind: 3, What: 1}, {Kind: 3, What: -1}, {Kind: 3, Val: 1}, {Kind: 3, Val: -1}, {Kind: 3, Key: "a", What: 1, Val: 1},
	} {
		checkOp(t, o, false)
	}
}

func TestOpOkOfEveryMixOfFields(t *testing.T) {
	kinds := append(farNumbers(), 0, 1, 2, 3, 4, 5)
	values := append(farNumbers(), 0, 1, 5, 65534, 65535, 65536)
	for _, key := range append(someNoKeys(), someKeys()...) {
		for _, kind := range kinds {
			for _, what := range kinds {
				for _, v := range values {
					o := impl.Op{Kind: kind, Key: key, What: what, Val: v}
					checkOp(t, o, wantOpOk(o))
				}
			}
		}
	}
}

// todoOf returns a workload: the operations of the three writers and a number of flushes.
func todoOf(flushes int, writers ...[]impl.Op) []impl.Queue {
	l := make([]impl.Queue, 4)
	for i, ops := range writers {
		l[i].Ops = ops
	}
	for range flushes {
		l[3].Ops = append(l[3].Ops, flushOp())
	}
	return l
}

// fullTodo returns a workload with the most operations that are valid.
func fullTodo() []impl.Queue {
	var ops [3][]impl.Op
	for i := range ops {
		for k := range 10 {
			o := recordOp("hits", 6553*k+i)
			if k%3 == i {
				o = registerOp([]string{"a", "cpu", "a_9Z", "hits"}[k%4], 1+k%3)
			}
			ops[i] = append(ops[i], o)
		}
	}
	return todoOf(10, ops[0], ops[1], ops[2])
}

func validTodos() [][]impl.Queue {
	return [][]impl.Queue{
		todoOf(0),
		todoOf(1),
		todoOf(0, []impl.Op{recordOp("a", 5)}),
		todoOf(2, []impl.Op{registerOp("a", 1), recordOp("a", 5)}, nil, []impl.Op{recordOp("a", 65535), recordOp("a", 0), registerOp("b", 3)}),
		{{Ops: []impl.Op{}}, {}, {Ops: []impl.Op{registerOp("cpu", 2)}}, {Ops: []impl.Op{}}},
		fullTodo(),
	}
}

// invalidTodos are workloads with one fault each.
func invalidTodos() [][]impl.Queue {
	full := fullTodo()
	out := [][]impl.Queue{nil, {}, {{}}, full[:3], full[1:], append(slices.Clone(full), impl.Queue{}), append([]impl.Queue{{}}, full...)}
	for i := range full {
		l := slices.Clone(full)
		l[i].Ops = append(slices.Clone(full[i].Ops), full[i].Ops[9])
		out = append(out, l)
	}
	with := func(i int, o impl.Op) []impl.Queue {
		l := todoOf(2, []impl.Op{registerOp("a", 1), recordOp("a", 5)}, nil, []impl.Op{recordOp("b", 5)})
		l[i].Ops = append(l[i].Ops, o)
		return l
	}
	for i := range 4 {
		for _, o := range []impl.Op{{}, {Kind: 4}, registerOp("a", 4), recordOp("a", 65536), {Kind: 3, Val: 1}, recordOp("a-", 1)} {
			out = append(out, with(i, o))
		}
	}
	out = append(out, with(0, flushOp()), with(1, flushOp()), with(2, flushOp()), with(3, recordOp("a", 1)), with(3, registerOp("a", 1)))
	return append(out, []impl.Queue{{}, {}, full[3], {}}, []impl.Queue{full[3], full[0], full[1], full[2]})
}

func checkTodo(t *testing.T, l []impl.Queue, want bool) {
	t.Helper()
	arg := roomyCopy(l)
	k := keep(arg)
	if impl.TodoOk(arg) != want {
		t.Errorf("TodoOk(%+v) = %v", l, !want)
	}
	k.check(t, "TodoOk")
}

func TestTodoOk(t *testing.T) {
	for _, l := range validTodos() {
		checkTodo(t, l, true)
	}
	for _, l := range invalidTodos() {
		checkTodo(t, l, false)
	}
}

// Each operation, valid or not, at each place of a long queue of each thread.
func TestTodoOkOfEachPlace(t *testing.T) {
	ops := []impl.Op{{}, {Kind: 4}, registerOp("b", 2), recordOp("b", 7), flushOp(), registerOp("b", 0), recordOp("", 7), {Kind: 3, Key: "b"}}
	for thread := range 4 {
		for place := range 10 {
			for _, o := range ops {
				l := fullTodo()
				l[thread].Ops[place] = o
				checkTodo(t, l, wantOpOk(o) && (o.Kind == 3) == (thread == 3))
			}
		}
	}
}

func TestTodoOkOfEachLength(t *testing.T) {
	for thread := range 4 {
		for n := range 25 {
			l := todoOf(1, []impl.Op{recordOp("a", 1)})
			o := fullTodo()[thread].Ops[0]
			l[thread].Ops = slices.Repeat([]impl.Op{o}, n)
			checkTodo(t, l, n <= 10)
		}
	}
	for n := range 10 {
		checkTodo(t, make([]impl.Queue, n), n == 4)
	}
}

// statesOf gives the states of each kind of operation.
func statesOf(kind int) []int {
	return [][]int{{}, {0, 1, 11}, {0, 2, 3, 4, 5, 6, 7, 8, 9, 10, 11}, {11, 12, 13, 14, 15}}[kind]
}

func opOf(kind int) impl.Op {
	return []impl.Op{{}, registerOp("cpu", 3), recordOp("a", 65535), flushOp()}[kind]
}

// jobAt returns a job with this operation that is valid if the state is one of the operation's.
func jobAt(kind, pc int) impl.Job {
	j := impl.Job{Busy: true, Op: opOf(kind), Serial: 7, Pc: pc, K: 2, Slot: 1, What: 2, E: 5, Stamp: 4, Old: 262145, Flips: 1, Steps: 9, Code: 3}
	switch pc {
	case 14:
		j.Keys = []int{390, 0}
	case 15:
		j.Keys, j.Raw = []int{390, 0, 1, 2}, []int{7, 8}
	}
	return j
}

func wantJobOk(j impl.Job) bool {
	if !wantOpOk(j.Op) || !slices.Contains(statesOf(j.Op.Kind), j.Pc) {
		return false
	}
	if !within(j.Slot, 0, 3) || !within(j.What, 0, 3) || !within(j.E, 0, 1<<48-1) {
		return false
	}
	greatest := []int{3, 3, 32, 32, 32, 32, 32, 32, 2, 32, 32, 32, 32, 32, 3, 31}[j.Pc]
	if !within(j.K, 0, greatest) {
		return false
	}
	keys, raw := len(j.Keys), len(j.Raw)
	switch j.Pc {
	case 12, 13:
		return keys+raw == 0
	case 14:
		return keys == j.K && raw == 0
	case 15:
		return keys == 4 && raw == j.K
	}
	return keys < 5 && raw < 33
}

func checkJob(t *testing.T, j impl.Job) {
	t.Helper()
	requireJob(t, j, wantJobOk(j))
}

func requireJob(t *testing.T, j impl.Job, want bool) {
	t.Helper()
	arg := roomyCopy(j)
	k := keep(arg)
	if got := impl.JobOk(arg); got != want {
		t.Errorf("JobOk(%+v) = %v, want %v", j, got, want)
	}
	k.check(t, "JobOk")
}

func TestJobOkOfEachState(t *testing.T) {
	for kind := 1; kind <= 3; kind++ {
		for _, pc := range statesOf(kind) {
			requireJob(t, jobAt(kind, pc), true)
		}
	}
	requireJob(t, impl.Job{}, false)
	requireJob(t, impl.Job{Busy: true}, false)
	requireJob(t, impl.Job{Busy: true, Op: flushOp()}, false)
	requireJob(t, impl.Job{Busy: true, Op: flushOp(), Pc: 12}, true)
	requireJob(t, impl.Job{Busy: true, Op: recordOp("a", 0)}, true)
	requireJob(t, impl.Job{Busy: true, Op: registerOp("a", 1)}, true)
}

// A job in a state of another operation.
func TestJobOkOfOtherStates(t *testing.T) {
	for kind := 1; kind <= 3; kind++ {
		for _, pc := range append(farNumbers(), 0, 1, 2, 3, 4, 5, 6, 7, 8, 9, 10, 11, 12, 13, 14, 15, 16, 17, 32) {
			own := slices.Contains(statesOf(kind), pc)
			requireJob(t, jobAt(kind, pc), own)
			bare := jobAt(kind, pc)
			bare.K, bare.Keys, bare.Raw = 0, nil, nil
			requireJob(t, bare, own && pc != 15)
		}
	}
	for _, j := range []impl.Job{jobAt(1, 2), jobAt(1, 10), jobAt(1, 12), jobAt(2, 1), jobAt(2, 12), jobAt(2, 15), jobAt(3, 0), jobAt(3, 1), jobAt(3, 2), jobAt(3, 10)} {
		requireJob(t, j, false)
	}
}

func TestJobOkOfInvalidOps(t *testing.T) {
	for _, o := range []impl.Op{{}, {Kind: 4}, {Kind: -1}, registerOp("", 1), registerOp("a", 4), {Kind: 1, Key: "a", What: 1, Val: 1}, recordOp("a", 65536), recordOp("hits5", 1), {Kind: 2, Key: "a", What: 1}, {Kind: 3, Key: "a"}, {Kind: 3, Val: 1}} {
		for pc := range 16 {
			j := jobAt(1, pc)
			j.Op = o
			requireJob(t, j, false)
		}
	}
}

// eachJob calls visit with an ordinary job of each operation at each of its states.
func eachJob(visit func(j impl.Job)) {
	for kind := 1; kind <= 3; kind++ {
		for _, pc := range statesOf(kind) {
			visit(jobAt(kind, pc))
		}
	}
}

func TestJobOkNumbers(t *testing.T) {
	for _, n := range append(farNumbers(), 0, 1, 2, 3, 4, 5, 1<<48-1, 1<<48, 1<<48+1) {
		eachJob(func(j impl.Job) {
			slot, what, e := j, j, j
			slot.Slot, what.What, e.E = n, n, n
			requireJob(t, slot, within(n, 0, 3))
			requireJob(t, what, within(n, 0, 3))
			requireJob(t, e, within(n, 0, 1<<48-1))
			// The document has no condition for the other numbers.
			j.Serial, j.Stamp, j.Old, j.Flips, j.Steps, j.Code = n, -n, n, -n, n, -n
			requireJob(t, j, true)
			j.Busy = false
			requireJob(t, j, true)
		})
	}
}

func TestJobOkOfEachK(t *testing.T) {
	for _, k := range append(farNumbers(), 0, 1, 2, 3, 4, 5, 6, 30, 31, 32, 33) {
		for kind := 1; kind <= 2; kind++ {
			for _, pc := range statesOf(kind) {
				j := jobAt(kind, pc)
				j.K = k
				greatest := 32
				if pc < 2 {
					greatest = 3
				} else if pc == 8 {
					greatest = 2
				}
				requireJob(t, j, within(k, 0, greatest))
			}
		}
		for pc := 11; pc <= 13; pc++ {
			j := jobAt(3, pc)
			j.K = k
			requireJob(t, j, within(k, 0, 32))
		}
		n := min(max(k, 0), 40)
		keys, drain := jobAt(3, 14), jobAt(3, 15)
		keys.K, keys.Keys = k, make([]int, n)
		drain.K, drain.Raw = k, make([]int, n)
		requireJob(t, keys, within(k, 0, 3))
		requireJob(t, drain, within(k, 0, 31))
	}
}

func TestJobOkOfKeysAndRaw(t *testing.T) {
	eachJob(func(j impl.Job) {
		for _, k := range []int{-1, 0, 1, 2, 3, 4, 5, 31, 32, 33} {
			for keys := range 7 {
				for _, raw := range []int{0, 1, 2, 3, 4, 5, 30, 31, 32, 33, 34} {
					j.K, j.Keys, j.Raw = k, make([]int, keys), make([]int, raw)
					checkJob(t, j)
				}
			}
		}
	})
	swap, wait, keys, drain := jobAt(3, 12), jobAt(3, 13), jobAt(3, 14), jobAt(3, 15)
	for _, list := range [][]int{{0}, {390}, {0, 0, 0, 0}} {
		for _, j := range []impl.Job{swap, wait} {
			withKeys, withRaw := j, j
			withKeys.Keys, withRaw.Raw = list, list
			requireJob(t, withKeys, false)
			requireJob(t, withRaw, false)
		}
		keys.Raw = list
		requireJob(t, keys, false)
	}
	drain.Keys = drain.Keys[:3]
	requireJob(t, drain, false)
}

// The document has no condition for the elements of Keys and Raw.
func TestJobOkOfAnyKeysAndRaw(t *testing.T) {
	for _, n := range append(farNumbers(), 0, 1, 390, 1<<48-1, 1<<48) {
		eachJob(func(j impl.Job) {
			for i := range j.Keys {
				j.Keys[i] = n
			}
			for i := range j.Raw {
				j.Raw[i] = n
			}
			requireJob(t, j, true)
		})
	}
}

func emptyWorld(l []impl.Queue) impl.World {
	return impl.World{Cells: make([]int, 71), Jobs: make([]impl.Job, 4), Todo: l}
}

// busyWorld returns a valid world in which everything is used, and all fields of different structs are different.
func busyWorld() impl.World {
	w := emptyWorld(validTodos()[3])
	w.Cells = exampleCells()
	w.Jobs = []impl.Job{jobAt(1, 1), jobAt(2, 7), {}, jobAt(3, 15)}
	w.Jobs[1].Keys, w.Jobs[1].Raw = []int{4}, []int{1, 0, 2}
	w.Serial, w.Now = 12, 345
	w.Log = []impl.Ev{
		{Kind: 1, Who: 0, Serial: 1, At: 1, Op: recordOp("a", 5), Win: -1},
		{Kind: 2, Who: 2, Serial: 2, At: 3, Op: flushOp(), Code: 2, Win: 4, Steps: 5, Flips: 6},
		{Kind: 3, Who: 3, Serial: 3, At: 9, Op: flushOp(), Win: -1, Steps: 77, Rows: []impl.Row{countRow("a", 3), gaugeRow("cpu", 9), {Key: "t", Kind: 3, N: 3, Min: 1, Max: 7, Total: 10, Dropped: 2}}},
	}
	return w
}

func checkWorld(t *testing.T, w impl.World, want bool) {
	t.Helper()
	arg := roomyCopy(w)
	k := keep(arg)
	if impl.WorldOk(arg) != want {
		t.Errorf("WorldOk(%+v) = %v", w, !want)
	}
	k.check(t, "WorldOk")
}

func TestWorldNew(t *testing.T) {
	for _, l := range validTodos() {
		w := checkNew(t, l, emptyWorld(l))
		checkWorld(t, w, true)
		waiting := 0
		for _, q := range l {
			waiting += len(q.Ops)
		}
		if impl.Idle(w) != (waiting == 0) {
			t.Errorf("Idle(WorldNew(%+v)) = %v", l, waiting != 0)
		}
	}
	for _, l := range invalidTodos() {
		w := checkNew(t, l, impl.World{})
		checkWorld(t, w, false)
		if !impl.Idle(w) {
			t.Errorf("the world of the invalid workload %+v is not idle", l)
		}
	}
}

// checkNew returns the new world, which must be the wanted one.
func checkNew(t *testing.T, l []impl.Queue, want impl.World) impl.World {
	t.Helper()
	arg := roomyCopy(l)
	k := keep(arg)
	w := impl.WorldNew(arg)
	if !equalWorlds(w, want) {
		t.Errorf("WorldNew(%+v) = %+v, want %+v", l, w, want)
	}
	k.check(t, "WorldNew", w)
	return w
}

// equalWorlds compares without SameWorld; the copies have no nil slices.
func equalWorlds(a, b impl.World) bool {
	return reflect.DeepEqual(roomyCopy(a), roomyCopy(b))
}

// Queues that share their memory must not do so in the new world.
func TestWorldNewOfSharedQueues(t *testing.T) {
	ops := make([]impl.Op, 8, 10)
	for i := range ops {
		ops[i] = recordOp("a", i)
	}
	flushes := []impl.Op{flushOp(), flushOp()}
	l := []impl.Queue{{Ops: ops}, {Ops: ops}, {Ops: ops[2:5]}, {Ops: flushes}}
	k := keep(l)
	w := impl.WorldNew(l)
	if !equalWorlds(w, emptyWorld(l)) {
		t.Errorf("WorldNew(%+v) = %+v", l, w)
	}
	k.check(t, "WorldNew", w)
	again := impl.WorldNew(l)
	keep(w).check(t, "WorldNew again", again)
}

func TestWorldOk(t *testing.T) {
	for _, l := range validTodos() {
		checkWorld(t, emptyWorld(l), true)
		w := busyWorld()
		w.Todo = l
		checkWorld(t, w, true)
	}
	for _, l := range invalidTodos() {
		checkWorld(t, emptyWorld(l), false)
		w := busyWorld()
		w.Todo = l
		checkWorld(t, w, false)
	}
	checkWorld(t, impl.World{}, false)
}

func TestWorldOkOfCells(t *testing.T) {
	for _, a := range validLists() {
		w := busyWorld()
		w.Cells = a
		checkWorld(t, w, true)
	}
	for _, a := range invalidLists() {
		w := busyWorld()
		w.Cells = a
		checkWorld(t, w, false)
	}
}

func TestWorldOkNumbers(t *testing.T) {
	for _, n := range append(farNumbers(), 0, 1, 999999, 1000000, 1000001, 999999999, 1000000000, 1000000001) {
		for _, w := range []impl.World{emptyWorld(todoOf(1)), busyWorld()} {
			serial, now := w, w
			serial.Serial, now.Now = n, n
			checkWorld(t, serial, within(n, 0, 1000000))
			checkWorld(t, now, within(n, 0, 1000000000))
		}
	}
	w := busyWorld()
	w.Serial, w.Now = 1000000, 1000000000
	checkWorld(t, w, true)
}

// Each job at each place: flushes belong to the last thread only, and everything else to the others.
func TestWorldOkOfEachJob(t *testing.T) {
	eachJob(func(j impl.Job) {
		for thread := range 4 {
			w := emptyWorld(todoOf(0))
			w.Jobs[thread] = j
			own := (j.Op.Kind == 3) == (thread == 3)
			checkWorld(t, w, own)
			busy := busyWorld()
			busy.Jobs[thread] = j
			checkWorld(t, busy, own)
			idle := emptyWorld(todoOf(0))
			idle.Jobs[thread] = j
			idle.Jobs[thread].Busy = false
			checkWorld(t, idle, false)
		}
	})
}

// A job that is not busy must be the zero value; a job that is busy must be valid.
func TestWorldOkOfChangedJobs(t *testing.T) {
	for thread := range 4 {
		w := emptyWorld(todoOf(1))
		changes := 0
		eachChange(reflect.ValueOf(&w.Jobs[thread]).Elem(), "job", func(path string) {
			changes++
			if impl.WorldOk(w) {
				t.Errorf("valid with the changed %s: %+v", path, w.Jobs[thread])
			}
		})
		if changes < 50 || !impl.WorldOk(w) {
			t.Errorf("%d changes of a job", changes)
		}
		busy := busyWorld()
		busy.Jobs[2] = jobAt(2, 8)
		eachChange(reflect.ValueOf(&busy.Jobs[thread]).Elem(), "job", func(path string) {
			if j := busy.Jobs[thread]; impl.WorldOk(busy) != (j.Busy && wantJobOk(j) && (j.Op.Kind == 3) == (thread == 3)) {
				t.Errorf("WorldOk = %v with the changed %s: %+v", impl.WorldOk(busy), path, j)
			}
		})
	}
	for _, j := range []impl.Job{{Busy: true}, {Busy: true, Op: impl.Op{Kind: 4}}, {Op: flushOp()}, {Op: flushOp(), Pc: 12}, {Op: recordOp("a", 1)}, {Pc: 1}, {Keys: []int{0}}, {Raw: []int{0}}} {
		for thread := range 4 {
			w := emptyWorld(todoOf(1))
			w.Jobs[thread] = j
			checkWorld(t, w, false)
		}
	}
}

func TestWorldOkOfOtherNumbersOfJobs(t *testing.T) {
	for n := range 9 {
		w := emptyWorld(todoOf(1))
		w.Jobs = make([]impl.Job, n)
		checkWorld(t, w, n == 4)
	}
	w := busyWorld()
	jobs := w.Jobs
	for _, l := range [][]impl.Job{nil, jobs[:3], jobs[1:], append(slices.Clone(jobs), impl.Job{}), append([]impl.Job{{}}, jobs...), append(slices.Clone(jobs), jobs[3])} {
		w.Jobs = l
		checkWorld(t, w, false)
	}
}

// The document has no condition for the log.
func TestWorldOkOfAnyLog(t *testing.T) {
	w := busyWorld()
	for _, l := range [][]impl.Ev{nil, {}, {{}}, {{Kind: -1, Who: 9, Serial: -5, At: -1, Win: -7, Op: impl.Op{Kind: 77}, Rows: []impl.Row{{}, {}}}}, make([]impl.Ev, 100)} {
		w.Log = l
		checkWorld(t, w, true)
	}
}

func checkIdle(t *testing.T, w impl.World, want bool) {
	t.Helper()
	arg := roomyCopy(w)
	k := keep(arg)
	if impl.Idle(arg) != want {
		t.Errorf("Idle(%+v) = %v", w, !want)
	}
	k.check(t, "Idle")
}

func TestIdle(t *testing.T) {
	checkIdle(t, impl.World{}, true)
	checkIdle(t, emptyWorld(todoOf(0)), true)
	checkIdle(t, busyWorld(), false)
	for thread := range 4 {
		for _, o := range []impl.Op{flushOp(), recordOp("a", 1), registerOp("a", 1), {}} {
			waiting := emptyWorld(todoOf(0))
			waiting.Todo[thread].Ops = []impl.Op{o}
			checkIdle(t, waiting, false)
		}
		running := emptyWorld(todoOf(0))
		running.Jobs[thread] = jobAt([]int{1, 2, 2, 3}[thread], 11)
		checkIdle(t, running, false)
		running.Todo[thread].Ops = []impl.Op{flushOp()}
		checkIdle(t, running, false)
	}
}

func TestIdleOfAnyWorld(t *testing.T) {
	w := busyWorld()
	w.Todo, w.Jobs = nil, nil
	checkIdle(t, w, true)
	w.Serial, w.Now, w.Cells = -1, math.MaxInt, nil
	checkIdle(t, w, true)
	// A job that is not busy does not count, whatever it is.
	w.Jobs = []impl.Job{jobAt(2, 5), {Pc: 3, Steps: 4}, {Op: flushOp()}, {}, {}, jobAt(3, 15)}
	w.Jobs[0].Busy, w.Jobs[5].Busy = false, false
	checkIdle(t, w, true)
	for i := range w.Jobs {
		w.Jobs[i].Busy = true
		checkIdle(t, w, false)
		w.Jobs[i].Busy = false
	}
	w.Todo = make([]impl.Queue, 7)
	checkIdle(t, w, true)
	for i := range w.Todo {
		w.Todo[i].Ops = make([]impl.Op, 1+i*3)
		checkIdle(t, w, false)
		w.Todo[i].Ops = []impl.Op{}
	}
	checkIdle(t, w, true)
}

func TestPcWord(t *testing.T) {
	words := []string{"probe", "claim", "epoch", "enter", "recheck", "data", "look", "cas", "store", "exit", "leave", "tell", "swap", "wait", "keys", "drain"}
	states := []int{impl.PcProbe, impl.PcClaim, impl.PcEpoch, impl.PcEnter, impl.PcRecheck, impl.PcData, impl.PcLook, impl.PcCas, impl.PcStore, impl.PcExit, impl.PcLeave, impl.PcTell, impl.PcSwap, impl.PcWait, impl.PcKeys, impl.PcDrain}
	for i, word := range words {
		if states[i] != i || impl.PcWord(i) != word {
			t.Errorf("state %d, PcWord(%d) = %q, want %q", states[i], i, impl.PcWord(i), word)
		}
	}
	for _, pc := range append(farNumbers(), 16, 17, 31, 32, 255, 256) {
		if impl.PcWord(pc) != "" {
			t.Errorf("PcWord(%d) = %q", pc, impl.PcWord(pc))
		}
	}
}

func checkSameWorld(t *testing.T, a, b impl.World, want bool) {
	t.Helper()
	argA, argB := roomyCopy(a), roomyCopy(b)
	k := keep(argA, argB)
	if impl.SameWorld(argA, argB) != want || impl.SameWorld(argB, argA) != want {
		t.Errorf("SameWorld(%+v, %+v) = %v, reversed %v", a, b, impl.SameWorld(argA, argB), impl.SameWorld(argB, argA))
	}
	k.check(t, "SameWorld")
	if impl.SameWorld(a, b) != want || impl.SameWorld(a, argB) != want || impl.SameWorld(argA, b) != want {
		t.Errorf("SameWorld(%+v, %+v) depends on the capacities", a, b)
	}
}

func someWorlds() []impl.World {
	invalid := impl.World{Cells: []int{-1}, Jobs: []impl.Job{{Pc: 99, Raw: make([]int, 50)}}, Todo: make([]impl.Queue, 9), Log: make([]impl.Ev, 2), Serial: -1, Now: -1}
	return []impl.World{{}, emptyWorld(todoOf(0)), emptyWorld(fullTodo()), busyWorld(), invalid, {Serial: 1}, {Now: 1}, {Cells: []int{0}}, {Jobs: make([]impl.Job, 1)}, {Todo: make([]impl.Queue, 1)}, {Log: make([]impl.Ev, 1)}}
}

func TestSameWorld(t *testing.T) {
	for i, a := range someWorlds() {
		for k, b := range someWorlds() {
			checkSameWorld(t, a, b, i == k)
		}
	}
}

func TestSameWorldOfEachField(t *testing.T) {
	full := busyWorld()
	full.Jobs[2] = jobAt(2, 4)
	full.Jobs[2].Keys, full.Jobs[2].Raw = []int{1, 2, 3, 4}, make([]int, 32)
	for _, w := range append(someWorlds(), full) {
		changed := roomyCopy(w)
		eachChange(reflect.ValueOf(&changed).Elem(), "world", func(path string) {
			if impl.SameWorld(w, changed) || impl.SameWorld(changed, w) {
				t.Errorf("worlds that differ in %s are the same: %+v, %+v", path, w, changed)
			}
		})
		if !impl.SameWorld(w, changed) {
			t.Errorf("not the same without a change: %+v, %+v", w, changed)
		}
	}
}

func TestSameWorldOfOtherOrders(t *testing.T) {
	a := busyWorld()
	a.Jobs[1], a.Jobs[2] = jobAt(2, 5), jobAt(2, 6)
	for i := range 3 {
		jobs, log, cells := roomyCopy(a), roomyCopy(a), roomyCopy(a)
		jobs.Jobs[i], jobs.Jobs[i+1] = jobs.Jobs[i+1], jobs.Jobs[i]
		checkSameWorld(t, a, jobs, false)
		log.Log[i%2], log.Log[i%2+1] = log.Log[i%2+1], log.Log[i%2]
		checkSameWorld(t, a, log, false)
		cells.Cells[i], cells.Cells[i+1] = cells.Cells[i+1], cells.Cells[i]
		checkSameWorld(t, a, cells, false)
	}
	todo, rows := roomyCopy(a), roomyCopy(a)
	todo.Todo[0], todo.Todo[2] = todo.Todo[2], todo.Todo[0]
	checkSameWorld(t, a, todo, false)
	slices.Reverse(rows.Log[2].Rows)
	checkSameWorld(t, a, rows, false)
	// The same operations in other queues.
	todo = roomyCopy(a)
	todo.Todo[1], todo.Todo[2] = todo.Todo[2], todo.Todo[1]
	checkSameWorld(t, a, todo, false)
}

// emptied returns the world with its empty slices nil or not.
func emptied(v reflect.Value, asNil bool) {
	switch v.Kind() {
	case reflect.Slice:
		if v.Len() == 0 && asNil {
			v.Set(reflect.Zero(v.Type()))
		} else if v.Len() == 0 {
			v.Set(reflect.MakeSlice(v.Type(), 0, 0))
		}
		for i := range v.Len() {
			emptied(v.Index(i), asNil)
		}
	case reflect.Struct:
		for i := range v.NumField() {
			emptied(v.Field(i), asNil)
		}
	}
}

func TestNilAndEmptySlicesOfWorlds(t *testing.T) {
	for _, w := range someWorlds() {
		ok, idle := impl.WorldOk(w), impl.Idle(w)
		withNil, without := roomyCopy(w), roomyCopy(w)
		emptied(reflect.ValueOf(&withNil).Elem(), true)
		emptied(reflect.ValueOf(&without).Elem(), false)
		for _, a := range []impl.World{w, withNil, without} {
			checkSameWorld(t, w, a, true)
			checkSameWorld(t, withNil, a, true)
			checkSameWorld(t, without, a, true)
			checkWorld(t, a, ok)
			checkIdle(t, a, idle)
			if impl.WorldOk(a) != ok || impl.Idle(a) != idle || impl.TodoOk(a.Todo) != impl.TodoOk(w.Todo) {
				t.Errorf("the same world with other empty slices: %+v", a)
			}
			for i, j := range a.Jobs {
				if impl.JobOk(j) != impl.JobOk(w.Jobs[i]) {
					t.Errorf("the same job with other empty slices: %+v", j)
				}
			}
		}
	}
	for _, l := range [][]impl.Queue{{{}, {Ops: []impl.Op{}}, {Ops: nil}, {}}, {{Ops: []impl.Op{}}, {Ops: []impl.Op{}}, {Ops: []impl.Op{}}, {Ops: []impl.Op{}}}} {
		if w := impl.WorldNew(l); !impl.SameWorld(w, impl.WorldNew(todoOf(0))) || !impl.WorldOk(w) || !impl.Idle(w) {
			t.Errorf("WorldNew(%+v) = %+v", l, w)
		}
	}
}

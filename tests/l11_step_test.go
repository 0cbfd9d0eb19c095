package tests

import (
	"math"
	"math/rand/v2"
	"reflect"
	"slices"
	"strconv"
	"testing"

	"loop.example/g01608/impl"
)

// The cells by number: 0 is the epoch, 1 and 2 count the threads inside, 3 to 6 are the keys, 7 and 39 start the buffers. The homes of the keys are listed in l06_table_test.go.

func cloneOf(w impl.World) impl.World {
	w.Cells, w.Jobs, w.Todo, w.Log = slices.Clone(w.Cells), slices.Clone(w.Jobs), slices.Clone(w.Todo), slices.Clone(w.Log)
	for i := range w.Jobs {
		w.Jobs[i].Keys, w.Jobs[i].Raw = slices.Clone(w.Jobs[i].Keys), slices.Clone(w.Jobs[i].Raw)
	}
	for i := range w.Todo {
		w.Todo[i].Ops = slices.Clone(w.Todo[i].Ops)
	}
	for i := range w.Log {
		w.Log[i].Rows = slices.Clone(w.Log[i].Rows)
	}
	return w
}

func isZeroJob(j impl.Job) bool {
	return !j.Busy && j.Op == impl.Op{} && len(j.Keys)+len(j.Raw) == 0 &&
		[10]int{j.Serial, j.Pc, j.K, j.Slot, j.What, j.E, j.Stamp, j.Old, j.Flips, j.Steps} == [10]int{} && j.Code == 0
}

func wantWorldOk(w impl.World) bool {
	if !wantValidCells(w.Cells) || len(w.Todo) != 4 || len(w.Jobs) != 4 || !within(w.Serial, 0, 1000000) || !within(w.Now, 0, 1000000000) {
		return false
	}
	for thread, j := range w.Jobs {
		ops := w.Todo[thread].Ops
		if len(ops) > 10 || slices.ContainsFunc(ops, func(o impl.Op) bool { return !wantOpOk(o) || (o.Kind == 3) != (thread == 3) }) {
			return false
		}
		if j.Busy && !(wantJobOk(j) && (j.Op.Kind == 3) == (thread == 3)) || !j.Busy && !isZeroJob(j) {
			return false
		}
	}
	return true
}

// wantSteps reports whether the thread has a step to do.
func wantSteps(w impl.World, thread int) bool {
	if !within(thread, 0, 3) || !wantWorldOk(w) || w.Now == 1000000000 {
		return false
	}
	return w.Jobs[thread].Busy || len(w.Todo[thread].Ops) > 0 && w.Serial != 1000000
}

// wantRows takes the smallest slot of each key.
func wantRows(keys, raw []int) []impl.Row {
	a := make([]impl.Row, 0)
	for slot := 0; slot < len(keys) && 8*slot+8 <= len(raw); slot++ {
		r := wantRowFrom(keys[slot], raw[8*slot:8*slot+8])
		same := slices.ContainsFunc(a, func(other impl.Row) bool { return other.Key == r.Key })
		if !same && (r.Sum != 0 || r.N != 0 || r.Set) {
			a = append(a, r)
		}
	}
	slices.SortFunc(a, func(x, y impl.Row) int {
		if x.Key < y.Key {
			return -1
		}
		return 1
	})
	return a
}

// wantStep performs the step with the numbers of the cells, the states and the codes.
func wantStep(w impl.World, thread int) impl.World {
	w = cloneOf(w)
	if !wantSteps(w, thread) {
		return w
	}
	w.Now++
	j, c := &w.Jobs[thread], w.Cells
	event := func(e impl.Ev) {
		e.Who, e.Serial, e.At, e.Op = thread, j.Serial, w.Now, j.Op
		w.Log = append(w.Log, e)
	}
	if !j.Busy {
		w.Serial++
		*j = impl.Job{Busy: true, Op: w.Todo[thread].Ops[0], Serial: w.Serial}
		if thread == 3 {
			j.Pc = 12
		}
		w.Todo[thread].Ops = w.Todo[thread].Ops[1:]
		event(impl.Ev{Kind: 1, Win: -1})
		return w
	}
	j.Steps++
	take := func(code, win int) {
		j.Code = code
		event(impl.Ev{Kind: 2, Code: code, Win: win})
	}
	b := j.E & 1
	slot := slotAt(j.E, j.Slot)
	switch j.Pc {
	case 0:
		i := (wantHash(j.Op.Key) + j.K) % 4
		key, kind := wantUntagged(c[3+i])
		code := -1
		switch {
		case c[3+i] == 0 && j.Op.Kind == 1:
			j.Pc = 1
		case c[3+i] == 0:
			code = 2
		case key == j.Op.Key && j.Op.Kind == 2:
			j.Slot, j.What, j.Pc = i, kind, 2
		case key == j.Op.Key && kind == j.Op.What:
			code = 0
		case key == j.Op.Key:
			code = 4
		case j.K < 3:
			j.K++
		default:
			code = []int{0, 3, 2}[j.Op.Kind]
		}
		if code >= 0 {
			take(code, -1)
			j.Pc = 11
		}
	case 1:
		i := 3 + (wantHash(j.Op.Key)+j.K)%4
		if c[i] != 0 {
			j.Pc = 0
			break
		}
		c[i] = wantTagged(j.Op.Key, j.Op.What)
		take(0, -1)
		j.Pc = 11
	case 2:
		j.E, j.Pc = c[0], 3
	case 3:
		c[1+b], j.Pc = wrapped(c[1+b], 1), 4
	case 4:
		j.Pc = map[bool]int{true: 5, false: 10}[c[0] == j.E]
	case 5:
		wantData(w, thread, take)
	case 6:
		j.Old, j.Pc = c[slot+3], 7
		if within(j.Old, 65536, 4294967295) && j.Old>>16 > j.Stamp || j.Stamp < 0 {
			j.Pc = 9
		}
	case 7:
		if c[slot+3] != j.Old {
			j.Pc = 6
			break
		}
		c[slot+3], j.Pc = 0, 9
		if within(j.Stamp, 1, 65535) {
			c[slot+3] = packed(j.Stamp, j.Op.Val)
		}
	case 8:
		c[slot+5+j.K], j.Pc = j.Op.Val+1, 9
	case 9:
		c[1+b], j.Pc = wrapped(c[1+b], -1), 11
	case 10:
		c[1+b], j.Pc = wrapped(c[1+b], -1), 2
		j.Flips++
	case 11:
		event(impl.Ev{Kind: 3, Code: j.Code, Win: -1, Steps: j.Steps, Flips: j.Flips, Rows: wantRows(j.Keys, j.Raw)})
		*j = impl.Job{}
	case 12:
		j.E, c[0] = c[0], wrapped(c[0], 1)
		take(0, j.E)
		j.Pc = 13
	case 13:
		if c[1+b] == 0 {
			j.K, j.Pc = 0, 14
		}
	case 14:
		j.Keys = append(j.Keys, c[3+j.K])
		j.K = len(j.Keys) % 4
		if j.K == 0 {
			j.Pc = 15
		}
	case 15:
		i := []int{7, 39}[b] + j.K
		j.Raw, c[i] = append(j.Raw, c[i]), 0
		j.K = len(j.Raw)
		if j.K == 32 {
			j.Pc = 11
		}
	}
	return w
}

// wantData is the state in which a record takes effect.
func wantData(w impl.World, thread int, take func(code, win int)) {
	j, c := &w.Jobs[thread], w.Cells
	slot := slotAt(j.E, j.Slot)
	switch j.What {
	case 1:
		i := slot + []int{0, 1, 0}[thread]
		c[i] = wrapped(c[i], j.Op.Val)
		j.Pc = 9
	case 2:
		c[slot+2] = wrapped(c[slot+2], 1)
		j.Stamp, j.Pc = c[slot+2], 6
	default:
		old := c[slot+4]
		c[slot+4] = wrapped(old, 1)
		if old > 2 {
			j.Pc = 9
			take(5, j.E)
			return
		}
		j.K, j.Pc = old, 8
	}
	take(0, j.E)
}

// differences lists where two values differ.
func differences(a, b reflect.Value) []string {
	var out []string
	inside := func(name func() string, a, b reflect.Value) {
		for _, d := range differences(a, b) {
			out = append(out, name()+d)
		}
	}
	switch a.Kind() {
	case reflect.Slice:
		if a.Len() != b.Len() {
			return []string{" has the length " + strconv.Itoa(a.Len()) + ", not " + strconv.Itoa(b.Len())}
		}
		for i := range a.Len() {
			inside(func() string { return "[" + strconv.Itoa(i) + "]" }, a.Index(i), b.Index(i))
		}
	case reflect.Struct:
		for i := range a.NumField() {
			inside(func() string { return "." + a.Type().Field(i).Name }, a.Field(i), b.Field(i))
		}
	case reflect.Int:
		if a.Int() != b.Int() {
			return []string{" is " + strconv.FormatInt(a.Int(), 10) + ", not " + strconv.FormatInt(b.Int(), 10)}
		}
	case reflect.String:
		if a.String() != b.String() {
			return []string{" is " + a.String() + ", not " + b.String()}
		}
	case reflect.Bool:
		if a.Bool() != b.Bool() {
			return []string{" is " + strconv.FormatBool(a.Bool())}
		}
	}
	return out
}

func differ[T any](a, b T) bool {
	return len(differences(reflect.ValueOf(a), reflect.ValueOf(b))) > 0
}

func requireWorld(t *testing.T, name string, before impl.World, thread int, got, want impl.World) {
	t.Helper()
	if d := differences(reflect.ValueOf(got), reflect.ValueOf(want)); len(d) > 0 {
		t.Errorf("%s: Step(%+v, %d): %q", name, before, thread, d)
	}
}

// checkBounds is what promise 9 says of every step.
func checkBounds(t *testing.T, before, after impl.World, thread int) {
	t.Helper()
	fine := len(after.Cells) == len(before.Cells) && len(after.Jobs) == len(before.Jobs) && len(after.Todo) == len(before.Todo)
	cells := 0
	for i := 0; fine && i < len(before.Cells); i++ {
		if before.Cells[i] != after.Cells[i] {
			cells++
		}
	}
	for i := 0; fine && i < len(before.Jobs); i++ {
		fine = i == thread || !differ(before.Jobs[i], after.Jobs[i])
	}
	for i := 0; fine && i < len(before.Todo); i++ {
		a, b := before.Todo[i].Ops, after.Todo[i].Ops
		fine = slices.Equal(a, b) || i == thread && slices.Equal(a[1:], b)
	}
	n := len(before.Log)
	fine = fine && within(len(after.Log), n, n+1) && !differ(before.Log, after.Log[:n])
	if !fine || cells > 1 || impl.WorldOk(before) != impl.WorldOk(after) || !within(after.Now-before.Now, 0, 1) || !within(after.Serial-before.Serial, 0, 1) {
		t.Errorf("a step of thread %d from %+v to %+v: %d cells", thread, before, after, cells)
	}
}

// compareStep performs a step and compares all of it.
func compareStep(t *testing.T, w impl.World, thread int) impl.World {
	t.Helper()
	got := impl.Step(w, thread)
	requireWorld(t, "as computed", w, thread, got, wantStep(w, thread))
	checkBounds(t, w, got, thread)
	return got
}

// checkStep looks also at the argument and at memory that is shared.
func checkStep(t *testing.T, w impl.World, thread int) impl.World {
	t.Helper()
	arg := roomyCopy(w)
	k := keep(arg)
	got := impl.Step(arg, thread)
	k.check(t, "Step", got)
	requireWorld(t, "with unused capacity", w, thread, got, wantStep(w, thread))
	return compareStep(t, w, thread)
}

// outcome is what a step of a busy thread changes, besides Now and Steps, as a test itself says.
type outcome struct {
	cells [][2]int
	job   func(j *impl.Job)
	event impl.Ev
}

func requireStep(t *testing.T, w impl.World, thread int, o outcome) impl.World {
	t.Helper()
	want := cloneOf(w)
	want.Now++
	want.Jobs[thread].Steps++
	for _, c := range o.cells {
		want.Cells[c[0]] = c[1]
	}
	if e := o.event; e.Kind != 0 {
		e.Who, e.Serial, e.At, e.Op = thread, w.Jobs[thread].Serial, want.Now, w.Jobs[thread].Op
		want.Log = append(want.Log, e)
	}
	if o.job != nil {
		o.job(&want.Jobs[thread])
	}
	got := compareStep(t, w, thread)
	requireWorld(t, "as required", w, thread, got, want)
	return got
}

func requireUnchanged(t *testing.T, w impl.World, thread int) {
	t.Helper()
	requireWorld(t, "unchanged", w, thread, checkStep(t, w, thread), w)
}

func toPc(pc int) func(j *impl.Job) {
	return func(j *impl.Job) { j.Pc = pc }
}

// finished is the job after it has finished with the code.
func finished(code int) func(j *impl.Job) {
	return func(j *impl.Job) { j.Pc, j.Code = 11, code }
}

func point(code, win int) impl.Ev {
	return impl.Ev{Kind: 2, Code: code, Win: win}
}

// worldAt returns a valid world with this job, in which all cells are different, all threads are busy and all queues and the log are used; the cells that are given have these numbers.
func worldAt(thread int, j impl.Job, cells ...[2]int) impl.World {
	w := busyWorld()
	w.Todo[1].Ops = []impl.Op{recordOp("b", 3)}
	w.Jobs[2] = jobAt(2, 9)
	w.Jobs[thread] = j
	w.Cells = tableWith(wantTagged("e", 1), wantTagged("b", 2), wantTagged("ab", 3), wantTagged("aa", 1))
	for _, c := range cells {
		w.Cells[c[0]] = c[1]
	}
	return w
}

// someEpochs has both parities, the limits and the numbers next to them.
func someEpochs() []int {
	return []int{0, 1, 2, 5, 6, 1<<48 - 2, 1<<48 - 1}
}

// eachRecordAt calls visit with a record at this state, for each writer, each slot and many epochs.
func eachRecordAt(pc int, visit func(thread int, j impl.Job, slot int)) {
	for thread := range 3 {
		for slot := range 4 {
			for _, e := range someEpochs() {
				j := jobAt(2, pc)
				j.Slot, j.E = slot, e
				visit(thread, j, slotAt(e, slot))
			}
		}
	}
}

// The steps of worlds that have anything at all in any place are compared with the oracle.
func TestStepOfEachState(t *testing.T) {
	for kind := 1; kind <= 3; kind++ {
		for _, pc := range statesOf(kind) {
			for thread := range 4 {
				if (thread == 3) == (kind == 3) {
					w := checkStep(t, worldAt(thread, jobAt(kind, pc)), thread)
					for other := range 4 {
						w = checkStep(t, w, other)
					}
				}
			}
		}
	}
}

func TestStepCalls(t *testing.T) {
	lists := [][][]impl.Op{
		{{registerOp("a", 1)}, {recordOp("cpu", 65535)}, {flushOp()}},
		{{registerOp("a_9Z", 3), recordOp("a", 0), recordOp("a", 1)}, {recordOp("a", 0), registerOp("a", 2)}, {flushOp(), flushOp()}},
		{fullTodo()[0].Ops, fullTodo()[1].Ops, fullTodo()[3].Ops},
	}
	for _, list := range lists {
		for thread := range 4 {
			ops := list[[]int{0, 1, 0, 2}[thread]]
			for _, base := range []impl.World{emptyWorld(todoOf(0)), worldAt(1, jobAt(2, 5))} {
				for _, serial := range []int{0, 1, 77, 999998, 999999} {
					w := cloneOf(base)
					w.Jobs[thread], w.Todo[thread].Ops, w.Serial = impl.Job{}, ops, serial
					requireCall(t, w, thread)
				}
				w := cloneOf(base)
				w.Jobs[thread], w.Todo[thread].Ops, w.Now = impl.Job{}, ops, 999999999
				requireUnchanged(t, requireCall(t, w, thread), thread)
			}
		}
	}
}

// requireCall checks the step with which the first operation of a queue begins.
func requireCall(t *testing.T, w impl.World, thread int) impl.World {
	t.Helper()
	want := cloneOf(w)
	want.Now, want.Serial = w.Now+1, w.Serial+1
	o := w.Todo[thread].Ops[0]
	want.Todo[thread].Ops = want.Todo[thread].Ops[1:]
	want.Jobs[thread] = impl.Job{Busy: true, Op: o, Serial: w.Serial + 1, Pc: []int{0, 0, 0, 12}[thread]}
	want.Log = append(want.Log, impl.Ev{Kind: 1, Who: thread, Serial: w.Serial + 1, At: w.Now + 1, Op: o, Win: -1})
	got := checkStep(t, w, thread)
	requireWorld(t, "a call", w, thread, got, want)
	return got
}

// withoutJob returns worlds in which this thread is not busy and everything else is.
func withoutJob(thread int) impl.World {
	w := worldAt(2, jobAt(2, 8))
	w.Jobs[thread] = impl.Job{}
	for i := range w.Todo {
		w.Todo[i].Ops = fullTodo()[i].Ops
	}
	return w
}

func TestStepOfAnIdleThread(t *testing.T) {
	for thread := range 4 {
		w := withoutJob(thread)
		w.Todo[thread].Ops = nil
		requireUnchanged(t, w, thread)
		w.Todo[thread].Ops = []impl.Op{}
		requireUnchanged(t, w, thread)
		requireUnchanged(t, emptyWorld(todoOf(0)), thread)
		others := emptyWorld(fullTodo())
		others.Todo[thread].Ops = nil
		requireUnchanged(t, others, thread)
	}
}

func TestStepAtTheLastSerial(t *testing.T) {
	for thread := range 4 {
		w := withoutJob(thread)
		w.Serial = 1000000
		requireUnchanged(t, w, thread)
		w.Serial = 999999
		if got := requireCall(t, w, thread); got.Serial != 1000000 || got.Jobs[thread].Serial != 1000000 {
			t.Errorf("Serial %d, of the job %d", got.Serial, got.Jobs[thread].Serial)
		} else if got = checkStep(t, got, thread); got.Now != w.Now+2 {
			t.Errorf("Now %d after two steps from %d", got.Now, w.Now)
		}
		// A thread that is busy goes on, whether its queue is empty or not.
		for _, ops := range [][]impl.Op{nil, fullTodo()[thread].Ops} {
			w = worldAt(thread, jobAt([]int{1, 2, 2, 3}[thread], 11))
			w.Serial, w.Todo[thread].Ops = 1000000, ops
			got := requireStep(t, w, thread, outcome{job: zeroJob, event: impl.Ev{Kind: 3, Code: 3, Win: -1, Steps: 10, Flips: 1}})
			requireUnchanged(t, got, thread)
		}
	}
}

func zeroJob(j *impl.Job) {
	*j = impl.Job{}
}

func TestStepAtTheLastMoment(t *testing.T) {
	for thread := range 4 {
		for _, w := range []impl.World{withoutJob(thread), worldAt(thread, jobAt([]int{1, 2, 2, 3}[thread], 11)), emptyWorld(fullTodo())} {
			w.Now = 1000000000
			requireUnchanged(t, w, thread)
			w.Now--
			got := checkStep(t, w, thread)
			if got.Now != 1000000000 || got.Log[len(got.Log)-1].At != 1000000000 {
				t.Errorf("Now %d, %+v", got.Now, got.Log)
			}
			requireUnchanged(t, got, thread)
		}
	}
}

func TestStepOfNoThread(t *testing.T) {
	for _, thread := range append(farNumbers(), -4, -3, 4, 5, 6, 7, 8, 1<<32, 1<<32+1) {
		for _, w := range []impl.World{emptyWorld(fullTodo()), worldAt(0, jobAt(2, 5)), emptyWorld(todoOf(0)), {}} {
			requireUnchanged(t, w, thread)
		}
	}
}

// invalidWorlds has worlds that WorldOk refuses, for each of its reasons.
func invalidWorlds() []impl.World {
	out := []impl.World{{}, {Now: 5, Serial: 2, Log: busyWorld().Log}}
	add := func(change func(w *impl.World)) {
		for _, base := range []impl.World{emptyWorld(fullTodo()), worldAt(2, jobAt(2, 5))} {
			w := cloneOf(base)
			change(&w)
			out = append(out, w)
		}
	}
	for _, a := range invalidLists() {
		add(func(w *impl.World) { w.Cells = a })
	}
	for _, l := range invalidTodos() {
		add(func(w *impl.World) { w.Todo = l })
	}
	for _, n := range append(farNumbers(), 1000001, 1000000001) {
		if !within(n, 0, 1000000) {
			add(func(w *impl.World) { w.Serial = n })
		}
		if !within(n, 0, 1000000000) {
			add(func(w *impl.World) { w.Now = n })
		}
	}
	for n := range 7 {
		if n != 4 {
			add(func(w *impl.World) { w.Jobs = make([]impl.Job, n) })
		}
	}
	for kind := 1; kind <= 3; kind++ {
		for _, pc := range statesOf(kind) {
			// One beyond the greatest K, and one below the least.
			for _, k := range []int{[]int{4, 4, 33, 33, 33, 33, 33, 33, 3, 33, 33, 33, 33, 33, 4, 32}[pc], -1} {
				j := jobAt(kind, pc)
				j.K = k
				switch pc {
				case 14:
					j.Keys = make([]int, max(k, 0))
				case 15:
					j.Raw = make([]int, max(k, 0))
				}
				add(func(w *impl.World) { w.Jobs[[]int{0, 0, 1, 3}[kind]] = j })
			}
		}
	}
	for thread := range 4 {
		own := jobAt([]int{1, 2, 2, 3}[thread], []int{0, 5, 8, 14}[thread])
		for _, change := range []func(j *impl.Job){
			func(j *impl.Job) { j.Busy = false },
			func(j *impl.Job) { j.Op = []impl.Op{flushOp(), {}, {Kind: 4}, recordOp("a", 1)}[thread] },
			func(j *impl.Job) { j.Op.Val = 65536 },
			func(j *impl.Job) { j.Pc = 16 },
			func(j *impl.Job) { j.Pc = -1 },
			func(j *impl.Job) { j.Pc = []int{5, 1, 13, 8}[thread] },
			func(j *impl.Job) { j.Slot = 4 },
			func(j *impl.Job) { j.What = 4 },
			func(j *impl.Job) { j.E = 1 << 48 },
			func(j *impl.Job) { j.E = -1 },
			func(j *impl.Job) { j.K = []int{4, 33, 3, 4}[thread] },
			func(j *impl.Job) { j.K = -1 },
			func(j *impl.Job) { j.Keys = make([]int, 5) },
			func(j *impl.Job) { j.Raw = make([]int, 33) },
		} {
			add(func(w *impl.World) {
				w.Jobs[thread] = cloneOf(impl.World{Jobs: []impl.Job{own}}).Jobs[0]
				change(&w.Jobs[thread])
			})
		}
		add(func(w *impl.World) { w.Jobs[thread] = impl.Job{Busy: true} })
		add(func(w *impl.World) { w.Jobs[thread] = impl.Job{Steps: 1} })
		add(func(w *impl.World) { w.Jobs[thread] = impl.Job{Raw: []int{0}} })
	}
	return out
}

func TestStepOfInvalidWorlds(t *testing.T) {
	for _, w := range invalidWorlds() {
		if impl.WorldOk(w) || wantWorldOk(w) {
			t.Errorf("valid: %+v", w)
		}
		for thread := -1; thread <= 4; thread++ {
			requireUnchanged(t, w, thread)
		}
	}
}

// otherKeyCells have another key than cpu, or none, without being 0.
func otherKeyCells() []int {
	cpu := wantPacked("cpu")
	return []int{
		wantTagged("b", 3), wantTagged("cp", 3), wantTagged("pu", 3), wantTagged("cpuu", 3), wantTagged("Cpu", 3), wantTagged("abcd", 1),
		1, 2, 3, 4 * cpu, cpu, 1024*cpu + 3, 4*cpu + 3 + 1<<34, 4*cpu + 3 + 1<<40, 1<<48 - 1,
	}
}

// eachProbe calls visit with a job of the operation at this state for each writer and each K, and with the number of the cell that it accesses.
func eachProbe(o impl.Op, pc int, visit func(thread int, j impl.Job, i int)) {
	for thread := range 3 {
		for k := range 4 {
			j := jobAt(o.Kind, pc)
			j.Op, j.K = o, k
			visit(thread, j, 3+(map[string]int{"a": 0, "cpu": 1, "a_9Z": 2, "hits": 3}[o.Key]+k)%4)
		}
	}
}

func TestProbeOfAFreeSlot(t *testing.T) {
	for _, key := range []string{"a", "cpu", "a_9Z", "hits"} {
		eachProbe(registerOp(key, 2), 0, func(thread int, j impl.Job, i int) {
			requireStep(t, worldAt(thread, j, [2]int{i, 0}), thread, outcome{job: toPc(1)})
		})
		eachProbe(recordOp(key, 5), 0, func(thread int, j impl.Job, i int) {
			requireStep(t, worldAt(thread, j, [2]int{i, 0}), thread, outcome{job: finished(2), event: point(2, -1)})
		})
	}
}

func TestProbeOfTheKey(t *testing.T) {
	for _, key := range []string{"a", "cpu", "a_9Z", "hits"} {
		for kind := 1; kind <= 3; kind++ {
			cell := wantTagged(key, kind)
			for what := 1; what <= 3; what++ {
				code := 4
				if what == kind {
					code = 0
				}
				eachProbe(registerOp(key, what), 0, func(thread int, j impl.Job, i int) {
					requireStep(t, worldAt(thread, j, [2]int{i, cell}), thread, outcome{job: finished(code), event: point(code, -1)})
				})
			}
			eachProbe(recordOp(key, 5), 0, func(thread int, j impl.Job, i int) {
				found := func(j *impl.Job) { j.Slot, j.What, j.Pc = i-3, kind, 2 }
				requireStep(t, worldAt(thread, j, [2]int{i, cell}), thread, outcome{job: found})
			})
		}
	}
}

func TestProbeOfAnotherKey(t *testing.T) {
	for _, cell := range otherKeyCells() {
		for _, o := range []impl.Op{registerOp("cpu", 3), recordOp("cpu", 5)} {
			code := []int{0, 3, 2}[o.Kind]
			eachProbe(o, 0, func(thread int, j impl.Job, i int) {
				want := outcome{job: func(j *impl.Job) { j.K++ }}
				if j.K == 3 {
					want = outcome{job: finished(code), event: point(code, -1)}
				}
				requireStep(t, worldAt(thread, j, [2]int{i, cell}), thread, want)
			})
		}
	}
}

// The slots that are not probed have the key, are free, or have anything else.
func TestProbeOfOneSlotOnly(t *testing.T) {
	for _, elsewhere := range []int{0, wantTagged("cpu", 3), wantTagged("cpu", 1), wantTagged("b", 1), 2} {
		for _, cell := range []int{0, wantTagged("cpu", 3), wantTagged("cpu", 2), wantTagged("b", 3)} {
			for pc := range 2 {
				eachProbe(registerOp("cpu", 3), pc, func(thread int, j impl.Job, i int) {
					w := worldAt(thread, j, [2]int{3, elsewhere}, [2]int{4, elsewhere}, [2]int{5, elsewhere}, [2]int{6, elsewhere}, [2]int{i, cell})
					checkStep(t, w, thread)
					if pc == 0 {
						w.Jobs[thread].Op = recordOp("cpu", 9)
						checkStep(t, w, thread)
					}
				})
			}
		}
	}
}

func TestClaim(t *testing.T) {
	for _, key := range []string{"a", "cpu", "a_9Z", "hits"} {
		for kind := 1; kind <= 3; kind++ {
			eachProbe(registerOp(key, kind), 1, func(thread int, j impl.Job, i int) {
				o := outcome{cells: [][2]int{{i, wantTagged(key, kind)}}, job: finished(0), event: point(0, -1)}
				requireStep(t, worldAt(thread, j, [2]int{i, 0}), thread, o)
				for _, cell := range append(otherKeyCells(), wantTagged(key, 1), wantTagged(key, 2), wantTagged(key, 3)) {
					requireStep(t, worldAt(thread, j, [2]int{i, cell}), thread, outcome{job: toPc(0)})
				}
			})
		}
	}
}

// A key that is claimed at the end of its probe sequence is found there.
func TestClaimedKeyIsFound(t *testing.T) {
	for _, key := range []string{"a", "cpu", "a_9Z", "hits"} {
		for kind := 1; kind <= 3; kind++ {
			eachProbe(registerOp(key, kind), 1, func(thread int, j impl.Job, i int) {
				w := worldAt(thread, j)
				// The slots that were probed before have other keys, the others are free.
				for k := j.K; k < 4; k++ {
					w.Cells[3+(wantHash(key)+k)%4] = 0
				}
				got := compareStep(t, w, thread)
				if slot, found := impl.FindKey(got.Cells, key); slot != i-3 || found != kind {
					t.Errorf("FindKey of %q after the claim of cell %d: %d, %d", key, i, slot, found)
				}
			})
		}
	}
}

func TestReadingTheEpoch(t *testing.T) {
	eachRecordAt(2, func(thread int, j impl.Job, _ int) {
		for _, epoch := range someEpochs() {
			read := func(j *impl.Job) { j.E, j.Pc = epoch, 3 }
			requireStep(t, worldAt(thread, j, [2]int{0, epoch}), thread, outcome{job: read})
		}
	})
}

func TestRecheckingTheEpoch(t *testing.T) {
	eachRecordAt(4, func(thread int, j impl.Job, _ int) {
		requireStep(t, worldAt(thread, j, [2]int{0, j.E}), thread, outcome{job: toPc(5)})
		for _, epoch := range append(someEpochs(), j.E^1, j.E^2, j.E^1<<47) {
			if epoch != j.E {
				requireStep(t, worldAt(thread, j, [2]int{0, epoch}), thread, outcome{job: toPc(10)})
			}
		}
	})
}

// The counters of both buffers at their limits, for all states that change them.
func TestEnteringAndLeaving(t *testing.T) {
	for _, n := range []int{0, 1, 2, 3, 1<<48 - 2, 1<<48 - 1} {
		up, down := wrapped(n, 1), wrapped(n, -1)
		for _, other := range []int{0, 3, 1<<48 - 1} {
			eachRecordAt(3, func(thread int, j impl.Job, _ int) {
				requireStep(t, insideWorld(thread, j, n, other), thread, outcome{cells: [][2]int{{1 + j.E%2, up}}, job: toPc(4)})
			})
			eachRecordAt(9, func(thread int, j impl.Job, _ int) {
				requireStep(t, insideWorld(thread, j, n, other), thread, outcome{cells: [][2]int{{1 + j.E%2, down}}, job: toPc(11)})
			})
			eachRecordAt(10, func(thread int, j impl.Job, _ int) {
				left := func(j *impl.Job) { j.Pc, j.Flips = 2, 2 }
				requireStep(t, insideWorld(thread, j, n, other), thread, outcome{cells: [][2]int{{1 + j.E%2, down}}, job: left})
			})
		}
	}
	j := jobAt(2, 9)
	if got := impl.Step(worldAt(0, j, [2]int{2, 0}), 0).Cells[2]; got != impl.Word-1 {
		t.Errorf("the counter 0 less one: %d", got)
	}
	j.Pc = 3
	if got := impl.Step(worldAt(0, j, [2]int{2, impl.Word - 1}), 0).Cells[2]; got != 0 {
		t.Errorf("the counter Word-1 plus one: %d", got)
	}
}

// insideWorld has n threads in the job's buffer and other ones in the other buffer.
func insideWorld(thread int, j impl.Job, n, other int) impl.World {
	return worldAt(thread, j, [2]int{1 + j.E%2, n}, [2]int{2 - j.E%2, other})
}

func TestDataOfACounter(t *testing.T) {
	eachRecordAt(5, func(thread int, j impl.Job, slot int) {
		j.What = 1
		i := slot + thread%2
		for _, v := range []int{0, 1, 9, 65534, 65535} {
			j.Op.Val = v
			for _, n := range []int{0, 1, 1000, 1<<48 - 65536, 1<<48 - 65535, 1<<48 - 65534, 1<<48 - 2, 1<<48 - 1} {
				o := outcome{cells: [][2]int{{i, (n + v) % (1 << 48)}}, event: point(0, j.E), job: func(j *impl.Job) { j.Pc, j.Code = 9, 0 }}
				requireStep(t, worldAt(thread, j, [2]int{i, n}), thread, o)
			}
		}
	})
}

func TestDataOfAGauge(t *testing.T) {
	eachRecordAt(5, func(thread int, j impl.Job, slot int) {
		j.What = 2
		for _, n := range []int{0, 1, 3, 65534, 65535, 65536, 1<<48 - 2, 1<<48 - 1} {
			stamp := wrapped(n, 1)
			stamped := func(j *impl.Job) { j.Pc, j.Code, j.Stamp = 6, 0, stamp }
			o := outcome{cells: [][2]int{{slot + 2, stamp}}, event: point(0, j.E), job: stamped}
			requireStep(t, worldAt(thread, j, [2]int{slot + 2, n}), thread, o)
		}
	})
}

// A job whose What is no kind goes on as a timer.
func TestDataOfATimer(t *testing.T) {
	eachRecordAt(5, func(thread int, j impl.Job, slot int) {
		for _, what := range []int{3, 0} {
			j.What = what
			for n := range 3 {
				drawn := func(j *impl.Job) { j.Pc, j.Code, j.K = 8, 0, n }
				o := outcome{cells: [][2]int{{slot + 4, n + 1}}, event: point(0, j.E), job: drawn}
				requireStep(t, worldAt(thread, j, [2]int{slot + 4, n}), thread, o)
			}
			for _, n := range []int{3, 4, 5, 65535, 1<<48 - 2, 1<<48 - 1} {
				dropped := func(j *impl.Job) { j.Pc, j.Code = 9, 5 }
				o := outcome{cells: [][2]int{{slot + 4, wrapped(n, 1)}}, event: point(5, j.E), job: dropped}
				requireStep(t, worldAt(thread, j, [2]int{slot + 4, n}), thread, o)
			}
		}
	})
}

// noGauges are cells without a stamp.
func noGauges() []int {
	return []int{0, 1, 9, 65535, 1 << 32, 1<<32 + 5<<16, 1<<48 - 1}
}

func TestLook(t *testing.T) {
	eachRecordAt(6, func(thread int, j impl.Job, slot int) {
		look := func(gauge, stamp, pc int) {
			j.Stamp = stamp
			looked := func(j *impl.Job) { j.Old, j.Pc = gauge, pc }
			requireStep(t, worldAt(thread, j, [2]int{slot + 3, gauge}), thread, outcome{job: looked})
		}
		for _, stamp := range []int{1, 2, 3, 4, 5, 65535} {
			for _, v := range []int{0, 7, 65535} {
				for _, own := range []int{1, 3, 4, 5, 65534, 65535, 65536, 1<<48 - 1, 0, -1, math.MinInt, math.MaxInt} {
					pc := 7
					if stamp > own {
						pc = 9
					}
					look(packed(stamp, v), own, pc)
				}
			}
		}
		for _, gauge := range noGauges() {
			look(gauge, 0, 7)
			look(gauge, 1, 7)
			look(gauge, 65536, 7)
			look(gauge, -1, 9)
		}
	})
}

func TestCas(t *testing.T) {
	eachRecordAt(7, func(thread int, j impl.Job, slot int) {
		i := slot + 3
		for _, old := range append(noGauges(), packed(1, 0), packed(4, 1), packed(65535, 65535)) {
			j.Old = old
			for _, v := range []int{0, 65535} {
				j.Op.Val = v
				for _, stamp := range []int{1, 4, 65534, 65535} {
					j.Stamp = stamp
					requireStep(t, worldAt(thread, j, [2]int{i, old}), thread, outcome{cells: [][2]int{{i, stamp*65536 + v}}, job: toPc(9)})
				}
				for _, stamp := range []int{65536, 1<<48 - 1, 0, -1, math.MaxInt} {
					j.Stamp = stamp
					requireStep(t, worldAt(thread, j, [2]int{i, old}), thread, outcome{cells: [][2]int{{i, 0}}, job: toPc(9)})
				}
			}
			for _, gauge := range []int{old ^ 1, old ^ 65536, old ^ 1<<47} {
				requireStep(t, worldAt(thread, j, [2]int{i, gauge}), thread, outcome{job: toPc(6)})
			}
		}
		for _, old := range []int{-1, 1 << 48, math.MinInt, math.MaxInt} {
			j.Old = old
			requireStep(t, worldAt(thread, j), thread, outcome{job: toPc(6)})
		}
	})
}

func TestStore(t *testing.T) {
	eachRecordAt(8, func(thread int, j impl.Job, slot int) {
		for k := range 3 {
			for _, v := range []int{0, 1, 7, 65534, 65535} {
				j.K, j.Op.Val = k, v
				for _, before := range []int{0, v + 1, 1<<48 - 1} {
					o := outcome{cells: [][2]int{{slot + 5 + k, v + 1}}, job: toPc(9)}
					requireStep(t, worldAt(thread, j, [2]int{slot + 5 + k, before}), thread, o)
				}
			}
		}
	})
}

func TestSwap(t *testing.T) {
	for _, e := range someEpochs() {
		for _, epoch := range someEpochs() {
			j := jobAt(3, 12)
			j.E = e
			swapped := func(j *impl.Job) { j.E, j.Pc, j.Code = epoch, 13, 0 }
			o := outcome{cells: [][2]int{{0, wrapped(epoch, 1)}}, event: point(0, epoch), job: swapped}
			requireStep(t, worldAt(3, j, [2]int{0, epoch}), 3, o)
		}
	}
	if got := impl.Step(worldAt(3, jobAt(3, 12), [2]int{0, impl.Word - 1}), 3); got.Cells[0] != 0 || got.Jobs[3].E != impl.Word-1 {
		t.Errorf("after the last epoch: %d, %+v", got.Cells[0], got.Jobs[3])
	}
}

func TestWait(t *testing.T) {
	for _, e := range someEpochs() {
		for _, k := range []int{0, 1, 4, 32} {
			j := jobAt(3, 13)
			j.E, j.K = e, k
			for _, other := range []int{0, 1, 1<<48 - 1} {
				free := func(j *impl.Job) { j.K, j.Pc = 0, 14 }
				requireStep(t, insideWorld(3, j, 0, other), 3, outcome{job: free})
				for _, n := range []int{1, 2, 3, 1<<48 - 1} {
					w := insideWorld(3, j, n, other)
					for range 3 {
						w = requireStep(t, w, 3, outcome{})
					}
				}
			}
		}
	}
}

func TestKeys(t *testing.T) {
	for _, e := range []int{4, 5} {
		for k := range 4 {
			for _, cell := range append(otherKeyCells(), 0, wantTagged("cpu", 2)) {
				j := jobAt(3, 14)
				j.E, j.K, j.Keys = e, k, []int{5, 0, -1}[:k]
				collected := func(j *impl.Job) {
					j.Keys, j.K = append(j.Keys, cell), k+1
					if k == 3 {
						j.K, j.Pc = 0, 15
					}
				}
				requireStep(t, worldAt(3, j, [2]int{3 + k, cell}), 3, outcome{job: collected})
			}
		}
	}
}

func TestDrain(t *testing.T) {
	for _, e := range someEpochs() {
		for k := range 32 {
			for _, n := range []int{0, 1, packed(3, 9), 1<<48 - 1} {
				j := jobAt(3, 15)
				j.E, j.K, j.Raw = e, k, roomy(exampleCells()[:k])[:k:k]
				i := []int{7, 39}[e%2] + k
				drained := func(j *impl.Job) {
					j.Raw, j.K = append(j.Raw, n), k+1
					if k == 31 {
						j.Pc = 11
					}
				}
				requireStep(t, worldAt(3, j, [2]int{i, n}), 3, outcome{cells: [][2]int{{i, 0}}, job: drained})
			}
		}
	}
}

// told checks the last step of a job, with these rows.
func told(t *testing.T, thread int, j impl.Job, rows ...impl.Row) {
	t.Helper()
	e := impl.Ev{Kind: 3, Code: j.Code, Win: -1, Steps: j.Steps + 1, Flips: j.Flips, Rows: rows}
	requireStep(t, worldAt(thread, j), thread, outcome{job: zeroJob, event: e})
}

func TestTell(t *testing.T) {
	for kind := 1; kind <= 3; kind++ {
		for thread := range 4 {
			if (thread == 3) != (kind == 3) {
				continue
			}
			for _, n := range []int{0, 1, 2, 5, 6, 999, -1, math.MaxInt - 1, math.MinInt} {
				steps, flips, code, serial := jobAt(kind, 11), jobAt(kind, 11), jobAt(kind, 11), jobAt(kind, 11)
				steps.Steps, flips.Flips, code.Code, serial.Serial = n, n, n, n
				told(t, thread, steps)
				told(t, thread, flips)
				told(t, thread, code)
				told(t, thread, serial)
			}
		}
	}
}

// fourRaws are the cells of a counter with 12, a gauge at 9, a timer with 2 and 4, and a counter with 1.
func fourRaws() [][]int {
	return [][]int{rawSlot(5, 7, 0, 0, 0, 0, 0, 0), rawSlot(0, 0, 3, packed(3, 9), 0, 0, 0, 0), rawSlot(0, 0, 0, 0, 2, 3, 5, 0), rawSlot(0, 1, 0, 0, 0, 0, 0, 0)}
}

func TestTellOfEachKind(t *testing.T) {
	timer := timerOf([]int{2, 4})
	j := jobAt(3, 11)
	j.Keys = []int{wantTagged("hits", 1), wantTagged("cpu", 2), wantTagged("t", 3), wantTagged("b", 1)}
	j.Raw = slices.Concat(fourRaws()...)
	told(t, 3, j, countRow("b", 1), gaugeRow("cpu", 9), countRow("hits", 12), timer)
	j.Keys = []int{wantTagged("a", 1), wantTagged("b", 2), wantTagged("t", 3), wantTagged("z", 1)}
	told(t, 3, j, countRow("a", 12), gaugeRow("b", 9), timer, countRow("z", 1))
	j.Keys = []int{wantTagged("z", 1), wantTagged("x", 2), wantTagged("t", 3), wantTagged("Z", 1)}
	told(t, 3, j, countRow("Z", 1), timer, gaugeRow("x", 9), countRow("z", 12))
	// A sample beyond the ring counts as dropped.
	copy(j.Raw[16:], rawSlot(0, 0, 0, 0, 5, 3, 5, 1))
	told(t, 3, j, countRow("Z", 1), timerOf([]int{2, 4, 0, 1, 1}), gaugeRow("x", 9), countRow("z", 12))
	// Slots without a kind or without anything recorded have no row.
	j.Keys[0] = 0
	told(t, 3, j, countRow("Z", 1), timerOf([]int{2, 4, 0, 1, 1}), gaugeRow("x", 9))
	j.Keys[3], j.Raw[4+16] = 3, 0
	told(t, 3, j, gaugeRow("x", 9))
	j.Raw[3+8] = 65535
	told(t, 3, j)
	j.Keys[0], j.Raw[0], j.Raw[1] = wantTagged("z", 1), 1<<47, 1<<47
	told(t, 3, j)
}

// The rows in every order of the keys.
func TestTellInTheOrderOfKeys(t *testing.T) {
	orders([]string{"a", "aa", "b", "hits"}, func(keys []string) {
		j := jobAt(3, 11)
		rows := map[string]impl.Row{}
		for slot, raw := range fourRaws() {
			tag := wantTagged(keys[slot], []int{1, 2, 3, 1}[slot])
			j.Keys, j.Raw = append(j.Keys, tag), append(j.Raw, raw...)
			rows[keys[slot]] = wantRowFrom(tag, raw)
		}
		told(t, 3, j, rows["a"], rows["aa"], rows["b"], rows["hits"])
	})
}

// A slot needs its key and all of its numbers, whatever the operation is.
func TestTellOfPartsOfSlots(t *testing.T) {
	all := slices.Concat(fourRaws()...)
	tags := []int{wantTagged("hits", 1), wantTagged("cpu", 2), wantTagged("t", 3), wantTagged("b", 1)}
	for kind := 1; kind <= 3; kind++ {
		for keys := range 5 {
			for raw := range 33 {
				for _, k := range []int{0, 32} {
					j := jobAt(kind, 11)
					j.Keys, j.Raw, j.K = tags[:keys], all[:raw], k
					var rows []impl.Row
					for slot, r := range []impl.Row{countRow("hits", 12), gaugeRow("cpu", 9), timerOf([]int{2, 4}), countRow("b", 1)} {
						if slot < keys && slot < raw/8 {
							rows = append(rows, r)
						}
					}
					slices.SortFunc(rows, func(a, b impl.Row) int { return map[bool]int{true: -1, false: 1}[a.Key < b.Key] })
					w := worldAt([]int{0, 0, 2, 3}[kind], j)
					if got := checkStep(t, w, []int{0, 0, 2, 3}[kind]); !slices.Equal(got.Log[3].Rows, rows) {
						t.Errorf("%d keys and %d numbers: %+v, want %+v", keys, raw, got.Log[3].Rows, rows)
					}
				}
			}
		}
	}
}

// As in ReportIn, of slots with one key the smallest one that has a row gives it.
func TestTellOfSlotsWithTheSameKey(t *testing.T) {
	j := jobAt(3, 11)
	j.Raw = slices.Concat(fourRaws()...)
	j.Keys = []int{wantTagged("b", 1), wantTagged("a", 2), wantTagged("b", 3), wantTagged("b", 1)}
	told(t, 3, j, gaugeRow("a", 9), countRow("b", 12))
	j.Raw[0], j.Raw[1] = 0, 0
	timer := timerOf([]int{2, 4})
	timer.Key = "b"
	told(t, 3, j, gaugeRow("a", 9), timer)
	j.Keys[2] = wantTagged("b", 2)
	told(t, 3, j, gaugeRow("a", 9), countRow("b", 1))
}

// The document has no condition for the numbers in Keys and Raw.
func TestTellOfAnyNumbers(t *testing.T) {
	for _, n := range append(farNumbers(), 0, 1, 3, 390, 65536, 1<<48-1, 1<<48) {
		for kind := 1; kind <= 3; kind++ {
			for place := range 32 {
				j := jobAt(3, 11)
				j.Keys = []int{wantTagged("hits", kind), wantTagged("cpu", kind), wantTagged("t", kind), wantTagged("b", kind)}
				j.Raw = slices.Repeat(rawSlot(3, 0, 1, packed(1, 2), 4, 1, 2, 3), 4)
				j.Raw[place] = n
				compareStep(t, worldAt(3, j), 3)
				j.Keys[place%4] = n
				compareStep(t, worldAt(3, j), 3)
			}
		}
	}
}

// anyJob returns a valid job for the thread with numbers from everywhere.
func anyJob(r *rand.Rand, thread, epoch int) impl.Job {
	kind := 3
	if thread < 3 {
		kind = 1 + r.IntN(2)
	}
	states := statesOf(kind)
	j := jobAt(kind, states[r.IntN(len(states))])
	if kind < 3 {
		j.Op.Key = oneOf(r, "a", "e", "b", "c", "d", "cpu")
	}
	switch kind {
	case 1:
		j.Op.What = 1 + r.IntN(3)
	case 2:
		j.Op.Val = oneOf(r, 0, 1, 9, 65535)
	}
	j.K = r.IntN([]int{4, 4, 33, 33, 33, 33, 33, 33, 3, 33, 33, 33, 33, 33, 4, 32}[j.Pc])
	j.Slot, j.What, j.Code = r.IntN(4), r.IntN(4), r.IntN(6)
	j.E = oneOf(r, epoch, epoch, wrapped(epoch, 1), wrapped(epoch, -1), 0, 1, 1<<48-1)
	j.Stamp, j.Old = oneOf(r, 0, 1, 4, 5, 65535, 65536, 1<<48-1, -1), oneOf(r, 0, 1, packed(4, 1), packed(65535, 0), 1<<48-1, -1)
	j.Keys, j.Raw = nil, nil
	for len(j.Keys) < j.K && j.Pc == 14 || len(j.Keys) < 4 && j.Pc == 15 || j.Pc != 12 && j.Pc != 13 && j.Pc != 14 && len(j.Keys) < 4 && r.IntN(3) > 0 {
		j.Keys = append(j.Keys, anyKeyCell(r))
	}
	for len(j.Raw) < j.K && j.Pc == 15 || (j.Pc == 11 || j.Pc < 11) && len(j.Raw) < 32 && r.IntN(20) > 0 {
		j.Raw = append(j.Raw, anyCell(r))
	}
	return j
}

func oneOf[T any](r *rand.Rand, list ...T) T {
	return list[r.IntN(len(list))]
}

func anyKeyCell(r *rand.Rand) int {
	if r.IntN(4) == 0 {
		return oneOf(r, 0, 0, 0, 1, 1<<48-1)
	}
	return wantTagged(oneOf(r, "a", "e", "b", "c", "d", "cpu"), 1+r.IntN(3))
}

func anyCell(r *rand.Rand) int {
	return oneOf(r, 0, 0, 0, 1, 2, 3, 4, 9, 65535, 65536, packed(4, 1), packed(5, 9), packed(65535, 0), 1<<48-65535, 1<<48-2, 1<<48-1)
}

// anyWorld returns a valid world with numbers from everywhere.
func anyWorld(r *rand.Rand) impl.World {
	w := emptyWorld(todoOf(0))
	for i := range w.Cells {
		w.Cells[i] = anyCell(r)
		if i > 2 && i < 7 {
			w.Cells[i] = anyKeyCell(r)
		}
	}
	for thread := range 4 {
		if r.IntN(4) > 0 {
			w.Jobs[thread] = anyJob(r, thread, w.Cells[0])
		}
		for range oneOf(r, 0, 1, 2, 10) {
			w.Todo[thread].Ops = append(w.Todo[thread].Ops, oneOf(r, fullTodo()[thread].Ops...))
		}
	}
	if r.IntN(2) == 0 {
		w.Log = busyWorld().Log
	}
	w.Serial, w.Now = oneOf(r, 0, 1, 12, 999999, 1000000), oneOf(r, 0, 1, 345, 999999998, 999999999, 1000000000)
	return w
}

func TestStepsOfAnyWorlds(t *testing.T) {
	r := rand.New(rand.NewPCG(11, 1))
	for i := range 6000 {
		w := anyWorld(r)
		if !impl.WorldOk(w) {
			t.Fatalf("not valid: %+v", w)
		}
		for thread := range 4 {
			if i%10 == 0 {
				checkStep(t, w, thread)
			}
			compareStep(t, compareStep(t, w, thread), (thread+i)%4)
		}
		if t.Failed() {
			return
		}
	}
}

// Empty slices may be nil or not, in all places at once.
func TestStepWithNilAndEmptySlices(t *testing.T) {
	r := rand.New(rand.NewPCG(11, 5))
	worlds := append(someWorlds(), invalidWorlds()...)
	for kind := 1; kind <= 3; kind++ {
		for _, pc := range statesOf(kind) {
			j := jobAt(kind, pc)
			if pc == 14 || pc == 15 {
				j.K, j.Raw = 0, nil
			}
			if pc == 14 {
				j.Keys = nil
			}
			worlds = append(worlds, worldAt([]int{0, 1, 2, 3}[kind], j))
		}
	}
	for range 100 {
		worlds = append(worlds, anyWorld(r))
	}
	for _, w := range worlds {
		withNil, without := roomyCopy(w), roomyCopy(w)
		emptied(reflect.ValueOf(&withNil).Elem(), true)
		emptied(reflect.ValueOf(&without).Elem(), false)
		for thread := range 4 {
			a, b, c := impl.Step(w, thread), impl.Step(withNil, thread), impl.Step(without, thread)
			requireWorld(t, "with nil", w, thread, b, a)
			requireWorld(t, "with empty slices", w, thread, c, a)
		}
	}
}

// Slices of the argument that share memory must not do so in the result.
func TestStepOfSharedMemory(t *testing.T) {
	shared := make([]int, 40, 60)
	for i := range shared {
		shared[i] = 3*i + 1
	}
	w := worldAt(0, jobAt(2, 3))
	ops := slices.Repeat([]impl.Op{recordOp("a", 5)}, 12)
	rows := []impl.Row{countRow("a", 3), countRow("b", 4)}
	for i := range 3 {
		w.Jobs[i] = jobAt(2, 11)
		w.Jobs[i].Keys, w.Jobs[i].Raw = shared[:4], shared[2:34]
		w.Todo[i].Ops = ops[i : i+8]
		w.Log[i].Rows = rows
	}
	for _, now := range []int{5, 1000000000} {
		w.Now = now
		for thread := -1; thread < 4; thread++ {
			k := keep(w)
			got := impl.Step(w, thread)
			k.check(t, "Step", got)
			// A second result shares nothing with the first one.
			keep(got).check(t, "Step again", impl.Step(w, thread), impl.Step(got, thread))
		}
	}
}

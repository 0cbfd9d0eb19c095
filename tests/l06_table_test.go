package tests

import (
	"math"
	"slices"
	"strings"
	"testing"

	"loop.example/g01608/impl"
)

// The homes of the keys of these tests: a, e, i and q have slot 0; b, cpu and abcd slot 1; c, ab and a_9Z slot 2; d, hits and aa slot 3.

// tableWith returns valid cells with these key cells; all other cells are different and not 0.
func tableWith(tags ...int) []int {
	a := make([]int, 71)
	for i := range a {
		a[i] = 1000*i + 7
	}
	copy(a[3:7], []int{0, 0, 0, 0})
	copy(a[3:7], tags)
	return a
}

// wantEnd returns the slot at which the probe sequence of a key ends, and its cell; -1 and 0 if it has no end.
func wantEnd(a []int, key string) (int, int) {
	for n := range 4 {
		slot := (wantHash(key) + n) % 4
		if found, _ := wantUntagged(a[3+slot]); found == key || a[3+slot] == 0 {
			return slot, a[3+slot]
		}
	}
	return -1, 0
}

func wantValidCells(a []int) bool {
	valid := len(a) == 71
	for _, n := range a {
		valid = valid && n >= 0 && n>>48 == 0
	}
	return valid
}

func wantFound(a []int, key string) (int, int) {
	if !wantValidCells(a) || !keyPattern.MatchString(key) {
		return -1, 0
	}
	slot, tag := wantEnd(a, key)
	if tag == 0 {
		return -1, 0
	}
	return slot, tag & 3
}

// wantRegistered returns also whether the tag is stored.
func wantRegistered(a []int, key string, kind int) (int, int, bool) {
	if !wantValidCells(a) || wantTagged(key, kind) == 0 {
		return -1, 1, false
	}
	switch slot, tag := wantEnd(a, key); {
	case slot < 0:
		return -1, 3, false
	case tag == 0:
		return slot, 0, true
	case tag&3 == kind:
		return slot, 0, false
	default:
		return slot, 4, false
	}
}

func wantKeys(a []int) []string {
	var out []string
	for slot := 0; wantValidCells(a) && slot < 4; slot++ {
		if key, _ := wantUntagged(a[3+slot]); key != "" {
			out = append(out, key)
		}
	}
	return out
}

func wantTableOk(a []int) bool {
	if !wantValidCells(a) {
		return false
	}
	for slot, tag := range a[3:7] {
		key, _ := wantUntagged(tag)
		if found, _ := wantFound(a, key); tag != 0 && found != slot {
			return false
		}
	}
	return true
}

func checkFind(t *testing.T, a []int, key string) {
	t.Helper()
	arg := roomy(a)
	want, wantKind := wantFound(a, key)
	if slot, kind := impl.FindKey(arg, key); slot != want || kind != wantKind {
		t.Errorf("FindKey(%v, %q) = %d, %d, want %d, %d", a, key, slot, kind, want, wantKind)
	}
	checkApart(t, "FindKey", arg, a, nil)
}

// checkRegister returns the cells with the key.
func checkRegister(t *testing.T, a []int, key string, kind int) []int {
	t.Helper()
	arg := roomy(a)
	want, wantCode, made := wantRegistered(a, key, kind)
	wantCells := stored(a, 3+max(want, 0), wantTagged(key, kind), made)
	got, slot, code := impl.Register(arg, key, kind)
	if !slices.Equal(got, wantCells) || slot != want || code != wantCode {
		t.Errorf("Register(%v, %q, %d) = %v, %d, %d, want %v, %d, %d", a, key, kind, got, slot, code, wantCells, want, wantCode)
	}
	checkApart(t, "Register", arg, a, got)
	return got
}

func checkTable(t *testing.T, a []int) {
	t.Helper()
	arg := roomy(a)
	if got, want := impl.KeysIn(arg), wantKeys(a); !slices.Equal(got, want) {
		t.Errorf("KeysIn(%v) = %q, want %q", a, got, want)
	}
	if got, want := impl.TableOk(arg), wantTableOk(a); got != want {
		t.Errorf("TableOk(%v) = %v, want %v", a, got, want)
	}
	checkApart(t, "KeysIn or TableOk", arg, a, nil)
}

// checkTableWith compares all functions of the chapter with these cells and keys.
func checkTableWith(t *testing.T, a []int, keys []string, kinds []int) {
	t.Helper()
	checkTable(t, a)
	for _, key := range keys {
		checkFind(t, a, key)
		for _, kind := range kinds {
			checkRegister(t, a, key, kind)
		}
	}
}

// registered is a key with its slot and kind.
type registered struct {
	key  string
	kind int
	slot int
}

// registerAll registers the keys one after another and requires that each of them has the slot and keeps it.
func registerAll(t *testing.T, list []registered) []int {
	t.Helper()
	a := tableWith()
	for n, r := range list {
		before := slices.Clone(a)
		next, slot, code := impl.Register(a, r.key, r.kind)
		if slot != r.slot || code != impl.CdOk {
			t.Fatalf("Register of %q as number %d of %v: %d, %d", r.key, n, list, slot, code)
		}
		if !slices.Equal(next, stored(before, 3+r.slot, wantTagged(r.key, r.kind), true)) || !slices.Equal(a, before) {
			t.Fatalf("Register of %q as number %d of %v: %v", r.key, n, list, next)
		}
		a = next
		for k, other := range list {
			slot, kind := impl.FindKey(a, other.key)
			if k <= n && (slot != other.slot || kind != other.kind) || k > n && (slot != -1 || kind != 0) {
				t.Errorf("FindKey of %q after number %d of %v: %d, %d", other.key, n, list, slot, kind)
			}
		}
		if !impl.TableOk(a) {
			t.Errorf("the table after number %d of %v is not valid", n, list)
		}
	}
	return a
}

func TestRegisterOneAfterAnother(t *testing.T) {
	for _, c := range []struct {
		list []registered
		keys []string
	}{
		{[]registered{{"a", 1, 0}, {"b", 2, 1}, {"c", 3, 2}, {"d", 1, 3}}, []string{"a", "b", "c", "d"}},
		{[]registered{{"d", 1, 3}, {"c", 3, 2}, {"b", 2, 1}, {"a", 1, 0}}, []string{"a", "b", "c", "d"}},
		// Keys with one home, and keys that meet them.
		{[]registered{{"a", 1, 0}, {"e", 1, 1}, {"i", 1, 2}, {"q", 1, 3}}, []string{"a", "e", "i", "q"}},
		{[]registered{{"q", 3, 0}, {"i", 2, 1}, {"e", 1, 2}, {"a", 3, 3}}, []string{"q", "i", "e", "a"}},
		{[]registered{{"a", 1, 0}, {"e", 2, 1}, {"b", 3, 2}, {"c", 1, 3}}, []string{"a", "e", "b", "c"}},
		// From the last slot the sequence goes on with the first one.
		{[]registered{{"d", 3, 3}, {"hits", 2, 0}, {"aa", 1, 1}, {"a", 1, 2}}, []string{"hits", "aa", "a", "d"}},
		{[]registered{{"c", 1, 2}, {"ab", 2, 3}, {"a_9Z", 3, 0}, {"d", 2, 1}}, []string{"a_9Z", "d", "c", "ab"}},
		{[]registered{{"abcd", 2, 1}, {"c", 2, 2}, {"cpu", 2, 3}, {"b", 2, 0}}, []string{"b", "abcd", "c", "cpu"}},
		// Tables with free slots.
		{nil, nil},
		{[]registered{{"c", 3, 2}}, []string{"c"}},
		{[]registered{{"d", 1, 3}, {"b", 2, 1}}, []string{"b", "d"}},
		{[]registered{{"d", 3, 3}, {"a", 1, 0}, {"aa", 2, 1}}, []string{"a", "aa", "d"}},
	} {
		a := registerAll(t, c.list)
		if got := impl.KeysIn(a); !slices.Equal(got, c.keys) {
			t.Errorf("KeysIn after %v = %q, want %q", c.list, got, c.keys)
		}
	}
}

func TestRegisterAgain(t *testing.T) {
	a := registerAll(t, []registered{{"a", 1, 0}, {"e", 2, 1}, {"d", 3, 3}})
	for _, r := range []registered{{"a", 1, 0}, {"e", 2, 1}, {"d", 3, 3}} {
		for kind := 1; kind <= 3; kind++ {
			code := impl.CdClash
			if kind == r.kind {
				code = impl.CdOk
			}
			got, slot, gotCode := impl.Register(a, r.key, kind)
			if !slices.Equal(got, a) || slot != r.slot || gotCode != code {
				t.Errorf("Register of %q again with kind %d: %v, %d, %d, want code %d", r.key, kind, got, slot, gotCode, code)
			}
			if slot, kind := impl.FindKey(got, r.key); slot != r.slot || kind != r.kind {
				t.Errorf("FindKey of %q after it: %d, %d", r.key, slot, kind)
			}
		}
	}
}

// orders calls visit with each order of the keys.
func orders(keys []string, visit func(keys []string)) {
	var extend func(done, rest []string)
	extend = func(done, rest []string) {
		if len(rest) == 0 {
			visit(done)
		}
		for i := range rest {
			extend(append(slices.Clone(done), rest[i]), slices.Delete(slices.Clone(rest), i, i+1))
		}
	}
	extend(nil, keys)
}

// A valid table stays valid, and its keys stay where they are, in whatever order keys are registered.
func TestRegisterInEveryOrder(t *testing.T) {
	for _, keys := range [][]string{
		{"a", "b", "c", "d", "e"}, {"a", "e", "i", "q", "1"}, {"d", "hits", "aa", "a", "l"}, {"c", "ab", "a_9Z", "d", "b"},
		{"b", "cpu", "abcd", "zzzz", "0000"}, {"_", "0", "Z", "____", "k"},
	} {
		orders(keys, func(list []string) {
			a := tableWith()
			for n, key := range list {
				a = checkRegister(t, a, key, 1+n%3)
				checkTable(t, a)
				if !impl.TableOk(a) {
					t.Errorf("the table after number %d of %q is not valid", n, list)
				}
				for k, other := range list {
					checkFind(t, a, other)
					if _, kind := impl.FindKey(a, other); k <= n && k < impl.Slots && kind != 1+k%3 {
						t.Errorf("%q is not found with its kind after number %d of %q", other, n, list)
					}
				}
			}
		})
	}
}

// A table without a free slot.
func TestFullTable(t *testing.T) {
	list := []registered{{"d", 1, 3}, {"hits", 2, 0}, {"b", 3, 1}, {"cpu", 1, 2}}
	a := registerAll(t, list)
	for _, r := range list {
		for kind := 1; kind <= 3; kind++ {
			code := impl.CdClash
			if kind == r.kind {
				code = impl.CdOk
			}
			if got, slot, gotCode := impl.Register(a, r.key, kind); !slices.Equal(got, a) || slot != r.slot || gotCode != code {
				t.Errorf("Register of %q with kind %d in a full table: %v, %d, %d", r.key, kind, got, slot, gotCode)
			}
		}
		if slot, kind := impl.FindKey(a, r.key); slot != r.slot || kind != r.kind {
			t.Errorf("FindKey of %q in a full table: %d, %d", r.key, slot, kind)
		}
	}
	for _, key := range []string{"a", "c", "aa", "zzzz", "_", "hit", "cp", "D", "dd", "0000"} {
		for kind := 1; kind <= 3; kind++ {
			if got, slot, code := impl.Register(a, key, kind); !slices.Equal(got, a) || slot != -1 || code != impl.CdFull {
				t.Errorf("Register of %q with kind %d in a full table: %v, %d, %d, want -1, 3", key, kind, got, slot, code)
			}
		}
		if slot, kind := impl.FindKey(a, key); slot != -1 || kind != 0 {
			t.Errorf("FindKey of %q in a full table: %d, %d", key, slot, kind)
		}
	}
	// Invalid arguments are named first, not the full table.
	for _, key := range someNoKeys() {
		if got, slot, code := impl.Register(a, key, 1); !slices.Equal(got, a) || slot != -1 || code != impl.CdArgs {
			t.Errorf("Register of %q in a full table: %v, %d, %d, want -1, 1", key, got, slot, code)
		}
		checkFind(t, a, key)
	}
	for _, key := range []string{"a", "d"} {
		for _, kind := range []int{0, 4, -1, 5} {
			if got, slot, code := impl.Register(a, key, kind); !slices.Equal(got, a) || slot != -1 || code != impl.CdArgs {
				t.Errorf("Register of %q with kind %d in a full table: %v, %d, %d, want -1, 1", key, kind, got, slot, code)
			}
		}
	}
	checkTable(t, a)
}

// The limits: keys of each length with each kind, and one beyond.
func TestRegisterWithEveryKind(t *testing.T) {
	full := registerAll(t, []registered{{"a", 1, 0}, {"b", 2, 1}, {"c", 3, 2}, {"d", 1, 3}})
	for _, key := range slices.Concat(someKeys(), someNoKeys()) {
		for _, kind := range kindNumbers() {
			a := checkRegister(t, tableWith(), key, kind)
			checkRegister(t, full, key, kind)
			if wantTagged(key, kind) == 0 {
				continue
			}
			slot, found := impl.FindKey(a, key)
			if slot != wantHash(key)%4 || found != kind || !impl.TableOk(a) || !slices.Equal(impl.KeysIn(a), []string{key}) {
				t.Errorf("%q with kind %d is found in slot %d with kind %d: %v", key, kind, slot, found, a)
			}
			checkTableWith(t, a, []string{key, key + "x", "a", "zzzz"}, []int{0, 1, 2, 3, 4})
		}
	}
	for _, key := range []string{"", "abcde"} {
		if got, slot, code := impl.Register(tableWith(), key, 1); !slices.Equal(got, tableWith()) || slot != -1 || code != impl.CdArgs {
			t.Errorf("Register of %q: %v, %d, %d", key, got, slot, code)
		}
	}
}

// Every table of these cells, valid or not: tags of keys that collide, the same key with several kinds, and numbers that are no tags.
func TestEveryTableOfFewCells(t *testing.T) {
	cells := []int{0, wantTagged("a", 1), wantTagged("a", 3), wantTagged("e", 2), wantTagged("b", 1), wantTagged("d", 3), 4 * 97, 5, impl.Word - 1}
	keys := []string{"a", "e", "b", "d", "abcd", "", "a-", "abcde"}
	for n := range 9 * 9 * 9 * 9 {
		a := tableWith(cells[n%9], cells[n/9%9], cells[n/81%9], cells[n/729])
		checkTableWith(t, a, keys, []int{1, 3, 4})
	}
}

// A table keeps its validity, whatever is registered: promise 5 for all tables of a few keys.
func TestValidTableStaysValid(t *testing.T) {
	cells := []int{0, wantTagged("a", 1), wantTagged("e", 2), wantTagged("b", 3), wantTagged("c", 1), wantTagged("d", 2), wantTagged("hits", 3)}
	for n := range 7 * 7 * 7 * 7 {
		a := tableWith(cells[n%7], cells[n/7%7], cells[n/49%7], cells[n/343])
		if !impl.TableOk(a) {
			continue
		}
		for _, key := range []string{"a", "e", "b", "c", "d", "hits", "zz", "-"} {
			for kind := range 5 {
				next, slot, code := impl.Register(a, key, kind)
				if !impl.TableOk(next) {
					t.Errorf("Register(%v, %q, %d) makes the table invalid", a, key, kind)
				}
				found, foundKind := impl.FindKey(next, key)
				if code == impl.CdOk && (found != slot || foundKind != kind) {
					t.Errorf("%q is found in slot %d with kind %d after Register(%v, %q, %d)", key, found, foundKind, a, key, kind)
				}
				for _, other := range impl.KeysIn(a) {
					slot, kind := impl.FindKey(a, other)
					if after, afterKind := impl.FindKey(next, other); after != slot || afterKind != kind {
						t.Errorf("%q has moved from %d, %d to %d, %d", other, slot, kind, after, afterKind)
					}
				}
			}
		}
	}
}

func TestInvalidCellsAreNoTable(t *testing.T) {
	table := tableWith(wantTagged("a", 1), wantTagged("b", 2), 0, wantTagged("d", 3))
	lists := invalidLists()
	lists = append(lists, make([]int, 70), make([]int, 72), table[:70], table[:69], table[:7], table[:6], table[:3], table[:1], table[1:], append(slices.Clone(table), 0), append(slices.Clone(table), table...))
	for i := range table {
		for _, n := range []int{-1, impl.Word, impl.Word + 1, math.MinInt, math.MaxInt, 1<<48 + wantTagged("a", 1), -wantTagged("a", 1), math.MinInt + wantTagged("b", 2)} {
			// Without any key, nothing but the invalid cell makes the table invalid.
			lists = append(lists, stored(table, i, n, true), stored(tableWith(), i, n, true))
		}
	}
	for k, a := range lists {
		a = slices.Clone(a)
		for _, key := range []string{"a", "b", "c", "d", "", "abcde", "a-"} {
			if slot, kind := impl.FindKey(a, key); slot != -1 || kind != 0 {
				t.Errorf("FindKey of %q in invalid cells %d: %d, %d", key, k, slot, kind)
			}
			for kind := range 5 {
				if got, slot, code := impl.Register(a, key, kind); !slices.Equal(got, a) || slot != -1 || code != impl.CdArgs {
					t.Errorf("Register of %q with kind %d in invalid cells %d: %v, %d, %d", key, kind, k, got, slot, code)
				}
			}
		}
		if keys := impl.KeysIn(a); len(keys) != 0 || impl.TableOk(a) {
			t.Errorf("invalid cells %d have keys %q or are a valid table", k, keys)
		}
		checkTableWith(t, a, []string{"a", "-"}, []int{0, 1})
	}
	checkTableWith(t, nil, []string{"a", ""}, []int{0, 1})
}

// Key cells that hold no tag: a probe sequence goes on behind them, and the table is not valid.
func TestCellsThatAreNoTags(t *testing.T) {
	for _, n := range []int{
		1, 2, 3, 4, 97, 4 * 97, 4 * 24930, 5, 4*45 + 1, 4*(97*256+45) + 2, 4*97*256 + 1, 4*(97*65536+98) + 1,
		4*(1633837924*256+101) + 1, 1<<40 + wantTagged("a", 1), 1<<47 + wantTagged("a", 1), impl.Word - 1, impl.Word / 2,
	} {
		a := tableWith(n, wantTagged("b", 2), 0, 0)
		checkTableWith(t, a, []string{"a", "e", "b", "d"}, []int{1, 2, 3})
		if impl.TableOk(a) || !slices.Equal(impl.KeysIn(a), []string{"b"}) {
			t.Errorf("a table with the cell %d: %v, %q", n, impl.TableOk(a), impl.KeysIn(a))
		}
		if slot, kind := impl.FindKey(a, "a"); slot != -1 || kind != 0 {
			t.Errorf("a is found behind the cell %d: %d, %d", n, slot, kind)
		}
		if got, slot, code := impl.Register(a, "a", 3); slot != 2 || code != impl.CdOk || got[5] != wantTagged("a", 3) || got[3] != n {
			t.Errorf("Register of a behind the cell %d: %v, %d, %d", n, got, slot, code)
		}
		full := tableWith(n, n, n, n)
		checkTableWith(t, full, []string{"a", "b", "c", "d"}, []int{1, 2, 3})
		if _, slot, code := impl.Register(full, "a", 1); slot != -1 || code != impl.CdFull || impl.TableOk(full) || len(impl.KeysIn(full)) != 0 {
			t.Errorf("Register in a table of cells %d: %d, %d", n, slot, code)
		}
	}
}

func TestTableOkRejects(t *testing.T) {
	a, e, b, d := wantTagged("a", 1), wantTagged("e", 2), wantTagged("b", 3), wantTagged("d", 1)
	for _, tags := range [][]int{
		{0, a}, {0, 0, a}, {0, 0, 0, a}, {b}, {b, a}, {d}, {0, d}, // a free slot before the key's slot
		{a, 0, e}, {a, b, 0, e}, {e, 0, a, d}, // a free slot after a collision
		{a, a}, {a, e, a}, {a, b, e, a}, {a, a, a, a}, // twice
		{a, wantTagged("a", 2)}, {a, 0, wantTagged("a", 3)}, {a, e, wantTagged("e", 3)}, // twice with two kinds
		{a, 1}, {a, 4 * 98}, {0, 0, 0, 7}, {1, 1, 1, 1}, {a, b, impl.Word - 1}, // no tags
	} {
		table := tableWith(tags...)
		if impl.TableOk(table) || wantTableOk(table) {
			t.Errorf("TableOk with the key cells %v", tags)
		}
		checkTableWith(t, table, []string{"a", "e", "b", "d"}, []int{1, 2, 3})
	}
	for _, tags := range [][]int{
		{}, {a}, {e}, {0, b}, {0, 0, 0, d}, {a, e}, {e, a}, {a, b}, {a, b, e}, {a, e, b, d}, {e, b, a, d}, {wantTagged("hits", 1), 0, 0, d},
	} {
		table := tableWith(tags...)
		if !impl.TableOk(table) || !wantTableOk(table) {
			t.Errorf("TableOk with the key cells %v is false", tags)
		}
		checkTableWith(t, table, []string{"a", "e", "b", "d", "c"}, []int{1, 2, 3})
	}
}

// A key that its probe sequence does not reach is not found, but it is in the list of keys.
func TestKeyThatIsNotReached(t *testing.T) {
	a := tableWith(0, wantTagged("b", 1), wantTagged("a", 2), wantTagged("a", 3))
	if slot, kind := impl.FindKey(a, "a"); slot != -1 || kind != 0 {
		t.Errorf("FindKey: %d, %d", slot, kind)
	}
	if keys := impl.KeysIn(a); !slices.Equal(keys, []string{"b", "a", "a"}) {
		t.Errorf("KeysIn: %q", keys)
	}
	got, slot, code := impl.Register(a, "a", 1)
	if slot != 0 || code != impl.CdOk || !slices.Equal(got, stored(a, 3, wantTagged("a", 1), true)) {
		t.Errorf("Register: %v, %d, %d", got, slot, code)
	}
	if slot, kind := impl.FindKey(got, "a"); slot != 0 || kind != 1 || impl.TableOk(got) {
		t.Errorf("FindKey of a key in three slots: %d, %d", slot, kind)
	}
}

// Only the key cells matter: the other cells may have any valid values.
func TestTableBesideAnyCells(t *testing.T) {
	for _, n := range []int{0, 1, wantTagged("a", 1), wantTagged("c", 2), impl.Word - 1} {
		a := make([]int, impl.ArenaLen)
		for i := range a {
			a[i] = n
		}
		copy(a[3:7], []int{wantTagged("q", 1), wantTagged("a", 3), 0, wantTagged("d", 2)})
		if !impl.TableOk(a) || !slices.Equal(impl.KeysIn(a), []string{"q", "a", "d"}) {
			t.Errorf("a table beside cells %d: %v, %q", n, impl.TableOk(a), impl.KeysIn(a))
		}
		checkTableWith(t, a, []string{"q", "a", "c", "d", "e", strings.Repeat("z", 4)}, []int{1, 2, 3})
	}
}

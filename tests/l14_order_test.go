package tests

import (
	"maps"
	"math"
	"math/rand/v2"
	"slices"
	"testing"

	"loop.example/g01608/impl"
)

// The oracle takes the words of chapter 14 one by one and looks through the whole log for each of them.

func wantPlace(l []impl.Ev, kind, serial int) int {
	for i := range l {
		if l[i].Kind == kind && l[i].Serial == serial {
			return i
		}
	}
	return -1
}

func wantSwap(l []impl.Ev, win int) (int, bool) {
	for i := range l {
		if l[i].Kind == 2 && l[i].Op.Kind == 3 && l[i].Win == win {
			return l[i].At, true
		}
	}
	return -1, false
}

func wantEff(l []impl.Ev, serial int) int {
	place := wantPlace(l, 2, serial)
	if place < 0 {
		return -1
	}
	e := l[place]
	if swap, ended := wantSwap(l, e.Win); e.Op.Kind == 2 && e.Win >= 0 && ended && swap < e.At {
		return swap
	}
	return e.At
}

func wantAhead(l []impl.Ev, a, b int) bool {
	i, j := wantPlace(l, 2, a), wantPlace(l, 2, b)
	if i < 0 || j < 0 {
		return false
	}
	flushA, flushB := l[i].Op.Kind == 3, l[j].Op.Kind == 3
	switch x, y := wantEff(l, a), wantEff(l, b); {
	case x != y:
		return x < y
	case flushA != flushB:
		return flushB
	}
	return i < j
}

func wantOrder(l []impl.Ev) []int {
	out := []int{}
	for _, e := range l {
		if e.Kind != 2 || slices.Contains(out, e.Serial) {
			continue
		}
		i := slices.IndexFunc(out, func(serial int) bool { return wantAhead(l, e.Serial, serial) })
		if i < 0 {
			i = len(out)
		}
		out = slices.Insert(out, i, e.Serial)
	}
	return out
}

func wantInTime(l []impl.Ev, a, b int) bool {
	told, called := wantPlace(l, 3, a), wantPlace(l, 1, b)
	return told >= 0 && called >= 0 && told < called
}

func wantStrict(l []impl.Ev) bool {
	order := wantOrder(l)
	for i, later := range order {
		for _, earlier := range order[:i] {
			if wantInTime(l, later, earlier) {
				return false
			}
		}
	}
	return true
}

// compareOrder compares all functions of the chapter for the serials, kinds and windows of the log and for others.
func compareOrder(t *testing.T, l []impl.Ev, others ...int) {
	t.Helper()
	if got, want := impl.Order(l), wantOrder(l); !slices.Equal(got, want) {
		t.Errorf("Order of %+v: %v, want %v", l, got, want)
	}
	if got, want := impl.Strict(l), wantStrict(l); got != want {
		t.Errorf("Strict of %+v: %v, want %v", l, got, want)
	}
	serials, wins, kinds := map[int]bool{0: true}, map[int]bool{-1: true}, map[int]bool{1: true, 2: true, 3: true}
	for _, n := range others {
		serials[n], wins[n], kinds[n] = true, true, true
	}
	for _, e := range l {
		serials[e.Serial], wins[e.Win], kinds[e.Kind] = true, true, true
	}
	for win := range wins {
		if got, _ := wantSwap(l, win); impl.SwapAt(l, win) != got {
			t.Errorf("SwapAt of %d in %+v: %d, want %d", win, l, impl.SwapAt(l, win), got)
		}
	}
	for a := range serials {
		for kind := range kinds {
			if got, want := impl.PlaceOf(l, kind, a), wantPlace(l, kind, a); got != want {
				t.Errorf("PlaceOf of kind %d and serial %d in %+v: %d, want %d", kind, a, l, got, want)
			}
		}
		if got, want := impl.EffAt(l, a), wantEff(l, a); got != want {
			t.Errorf("EffAt of %d in %+v: %d, want %d", a, l, got, want)
		}
		for b := range serials {
			if got, want := impl.Ahead(l, a, b), wantAhead(l, a, b); got != want {
				t.Errorf("Ahead of %d and %d in %+v: %v, want %v", a, b, l, got, want)
			}
			if got, want := impl.InTime(l, a, b), wantInTime(l, a, b); got != want {
				t.Errorf("InTime of %d and %d in %+v: %v, want %v", a, b, l, got, want)
			}
		}
	}
}

// checkOrder looks also at the argument and at memory that is shared.
func checkOrder(t *testing.T, l []impl.Ev) {
	t.Helper()
	arg := roomyCopy(l)
	k := keep(arg)
	compareOrder(t, arg, append(farNumbers(), 1, 2, 3, 4, 5)...)
	order := impl.Order(arg)
	k.check(t, "Order", order)
	// A caller that writes into the result changes no later one.
	want := slices.Clone(order)
	clear(order[:cap(order)])
	if again := impl.Order(arg); !slices.Equal(again, want) {
		t.Errorf("Order again: %v, want %v", again, want)
	}
}

func requireOrder(t *testing.T, l []impl.Ev, strict bool, want ...int) {
	t.Helper()
	checkOrder(t, l)
	if got := impl.Order(l); !slices.Equal(got, want) || impl.Strict(l) != strict {
		t.Errorf("Order of %+v: %v, want %v; Strict: %v", l, got, want, impl.Strict(l))
	}
	// Exactly the ones in front are Ahead.
	for i, a := range want {
		for j, b := range want {
			if impl.Ahead(l, a, b) != (i < j) {
				t.Errorf("Ahead of %d and %d in %+v, with the order %v", a, b, l, want)
			}
		}
	}
}

func requireEff(t *testing.T, l []impl.Ev, serial, want int) {
	t.Helper()
	checkOrder(t, l)
	if got := impl.EffAt(l, serial); got != want {
		t.Errorf("EffAt of %d in %+v: %d, want %d", serial, l, got, want)
	}
}

func calledAt(serial, at int, o impl.Op) impl.Ev {
	return impl.Ev{Kind: 1, Serial: serial, At: at, Op: o, Win: -1}
}

func pointAt(serial, at int, o impl.Op, win int) impl.Ev {
	return impl.Ev{Kind: 2, Serial: serial, At: at, Op: o, Win: win}
}

func toldAt(serial, at int, o impl.Op) impl.Ev {
	return impl.Ev{Kind: 3, Serial: serial, At: at, Op: o, Win: -1}
}

// The functions at a log written out, of which the times and the places differ.
func TestOrderWrittenOut(t *testing.T) {
	reg, rec, flush := registerOp("a", 1), recordOp("a", 5), flushOp()
	l := []impl.Ev{
		calledAt(5, 10, reg), calledAt(7, 11, rec), pointAt(5, 12, reg, -1), toldAt(5, 13, reg),
		calledAt(2, 14, flush), pointAt(2, 15, flush, 4), calledAt(9, 16, rec), pointAt(9, 17, rec, 5),
		pointAt(7, 18, rec, 4), toldAt(9, 19, rec), calledAt(3, 20, rec), toldAt(7, 21, rec), pointAt(3, 22, rec, 5), toldAt(2, 23, flush),
	}
	requireOrder(t, l, true, 5, 7, 2, 9, 3)
	for _, x := range []struct{ kind, serial, place int }{
		{1, 5, 0}, {1, 7, 1}, {2, 5, 2}, {3, 5, 3}, {1, 2, 4}, {2, 2, 5}, {1, 9, 6}, {2, 9, 7}, {2, 7, 8}, {3, 9, 9}, {1, 3, 10}, {3, 7, 11}, {2, 3, 12}, {3, 2, 13},
		{3, 3, -1}, {0, 5, -1}, {4, 5, -1}, {-1, 5, -1}, {1, 0, -1}, {2, 1, -1}, {3, -5, -1}, {2, 10, -1},
	} {
		if got := impl.PlaceOf(l, x.kind, x.serial); got != x.place {
			t.Errorf("PlaceOf of kind %d and serial %d: %d, want %d", x.kind, x.serial, got, x.place)
		}
	}
	for serial, at := range map[int]int{5: 12, 7: 15, 2: 15, 9: 17, 3: 22, 0: -1, 1: -1, 4: -1, 6: -1, -1: -1, -7: -1, 10: -1, 12: -1, math.MaxInt: -1, math.MinInt: -1} {
		requireEff(t, l, serial, at)
	}
	if impl.SwapAt(l, 4) != 15 || impl.SwapAt(l, 5) != -1 || impl.SwapAt(l, -1) != -1 || impl.SwapAt(l, 0) != -1 {
		t.Errorf("SwapAt: %d, %d", impl.SwapAt(l, 4), impl.SwapAt(l, 5))
	}
	before := map[[2]int]bool{{5, 2}: true, {5, 9}: true, {5, 3}: true, {9, 3}: true}
	for a := range 11 {
		for b := range 11 {
			if impl.InTime(l, a, b) != before[[2]int{a, b}] {
				t.Errorf("InTime of %d and %d: %v", a, b, impl.InTime(l, a, b))
			}
		}
	}
}

func TestOrderOfNothing(t *testing.T) {
	rec := recordOp("a", 5)
	for _, l := range [][]impl.Ev{
		nil, {}, {{}}, {{}, {}}, {calledAt(1, 1, rec)}, {toldAt(1, 1, rec)}, {calledAt(1, 1, rec), toldAt(1, 2, rec)}, {toldAt(1, 1, rec), calledAt(2, 2, rec)},
		{{Kind: 0, Serial: 1, Op: rec}, {Kind: 4, Serial: 1, Op: flushOp()}, {Kind: -2, Serial: 1, Op: flushOp(), At: 7}, {Kind: 1<<32 + 2, Serial: 2, Op: rec}},
	} {
		requireOrder(t, l, true)
		for _, n := range append(farNumbers(), 0, 1, 2) {
			if impl.EffAt(l, n) != -1 || impl.SwapAt(l, n) != -1 || impl.PlaceOf(l, 2, n) != -1 || impl.Ahead(l, n, 1) || impl.Ahead(l, 1, n) || impl.Ahead(l, n, n) {
				t.Errorf("the serial or window %d in %+v", n, l)
			}
		}
	}
}

// The first event of a kind and serial is the one in front, whatever it contains besides.
func TestPlaceOfTheFirstEvent(t *testing.T) {
	for _, kind := range []int{-1, 0, 1, 2, 3, 4, 5, math.MaxInt, math.MinInt} {
		for _, serial := range append(farNumbers(), 0, 1, 1000000, 1000001) {
			e := impl.Ev{Kind: kind, Serial: serial, At: 9}
			twin := impl.Ev{Kind: kind, Who: 3, Serial: serial, At: 2, Op: flushOp(), Code: 4, Win: 7, Steps: 1, Flips: 2, Rows: []impl.Row{countRow("a", 1)}}
			swapped := impl.Ev{Kind: serial, Serial: kind}
			for before := range 4 {
				l := slices.Repeat([]impl.Ev{{Kind: kind, Serial: serial ^ 1}, {Kind: kind ^ 1, Serial: serial}, swapped}, before)
				if kind == serial {
					l = l[:0]
				}
				n := len(l)
				l = append(l, e, twin, e)
				checkOrder(t, l)
				if impl.PlaceOf(l, kind, serial) != n || impl.PlaceOf(l[n+1:], kind, serial) != 0 || impl.PlaceOf(l[:n], kind, serial) != -1 {
					t.Errorf("PlaceOf of kind %d and serial %d behind %d events: %d", kind, serial, n, impl.PlaceOf(l, kind, serial))
				}
			}
		}
	}
}

func TestSwapAt(t *testing.T) {
	for _, win := range append(farNumbers(), 0, 1, 2, 5, impl.Word-1, impl.Word) {
		for _, at := range []int{0, 1, 6, 1000000000, -1, -7, math.MaxInt, math.MinInt} {
			swap := pointAt(4, at, flushOp(), win)
			// None of these is an EvPoint event of an OpFlush with this window.
			noSwaps := []impl.Ev{calledAt(4, 2, flushOp()), toldAt(4, 2, flushOp()), pointAt(4, 2, recordOp("a", 1), win), pointAt(4, 2, registerOp("a", 1), win), pointAt(4, 2, impl.Op{}, win), pointAt(4, 2, impl.Op{Kind: 4}, win), pointAt(4, 2, flushOp(), win^1), pointAt(win, 2, flushOp(), win^2)}
			for i := range noSwaps {
				if i < 2 {
					noSwaps[i].Win = win
				}
			}
			for n := range len(noSwaps) + 1 {
				l := append(slices.Clone(noSwaps[:n]), swap, pointAt(5, 3, flushOp(), win), pointAt(6, 8, flushOp(), win))
				l = append(l, noSwaps[n:]...)
				checkOrder(t, l)
				if impl.SwapAt(l, win) != at || impl.SwapAt(noSwaps, win) != -1 || impl.SwapAt(l[n+1:], win) != 3 {
					t.Errorf("SwapAt of %d in %+v: %d, want %d", win, l, impl.SwapAt(l, win), at)
				}
			}
			// Only the kind of the operation decides.
			if got := impl.SwapAt([]impl.Ev{pointAt(4, at, impl.Op{Kind: 3, Key: "a", What: 1, Val: 2}, win)}, win); got != at {
				t.Errorf("SwapAt of a flush with other fields: %d, want %d", got, at)
			}
		}
	}
}

// A record whose point comes after the end of its window takes effect at that end; one before it, or at the same time, at its point.
func TestPointAfterTheEndOfItsWindow(t *testing.T) {
	for _, win := range []int{0, 1, 2, 17, impl.Word - 1, impl.Word, math.MaxInt} {
		for _, end := range []int{1, 6, 1000, 1000000000 - 1} {
			swap := pointAt(3, end, flushOp(), win)
			for _, code := range []int{0, 5, 2, 77} {
				late, same, early := pointAt(8, end+1, recordOp("a", 5), win), pointAt(8, end, recordOp("a", 5), win), pointAt(8, end-1, recordOp("a", 5), win)
				late.Code, same.Code, early.Code = code, code, code
				last := late
				last.At = math.MaxInt
				for _, x := range []struct {
					point impl.Ev
					want  int
				}{{late, end}, {last, end}, {same, end}, {early, end - 1}} {
					// It stands before the flush that ends its window, wherever its event stands.
					for _, l := range [][]impl.Ev{{swap, x.point}, {x.point, swap}, {calledAt(8, 1, x.point.Op), swap, x.point, toldAt(8, end+9, x.point.Op)}} {
						requireEff(t, l, 8, x.want)
						requireEff(t, l, 3, end)
						requireOrder(t, l, true, 8, 3)
					}
					// Without the flush, and with those of other windows, it takes effect at its point.
					others := []impl.Ev{pointAt(3, end, flushOp(), win^1), x.point, pointAt(4, end, flushOp(), win-1), calledAt(5, end, flushOp()), toldAt(3, end, flushOp())}
					others[3].Win, others[4].Win = win, win
					requireEff(t, []impl.Ev{x.point}, 8, x.point.At)
					requireEff(t, others, 8, x.point.At)
				}
			}
		}
	}
}

// Only a record with a window is moved to the end of that window.
func TestPointsThatAreNotMoved(t *testing.T) {
	for _, o := range []impl.Op{registerOp("a", 1), flushOp(), {}, {Kind: 4}, {Kind: -2}, {Kind: 1<<32 + 2}, {Kind: 1, Key: "a", Val: 5}} {
		for _, win := range []int{-1, 0, 1, 5} {
			l := []impl.Ev{pointAt(3, 6, flushOp(), win), pointAt(8, 9, o, win)}
			requireEff(t, l, 8, 9)
			requireOrder(t, l, true, 3, 8)
		}
	}
	for _, win := range []int{-1, -2, -3, -1 << 48, math.MinInt} {
		l := []impl.Ev{pointAt(3, 6, flushOp(), win), pointAt(8, 9, recordOp("a", 5), win)}
		requireEff(t, l, 8, 9)
		requireOrder(t, l, true, 3, 8)
	}
	// A record with fields that no record has is one.
	for _, o := range []impl.Op{{Kind: 2}, {Kind: 2, Key: "a-", What: 3, Val: -1}} {
		l := []impl.Ev{pointAt(3, 6, flushOp(), 0), pointAt(8, 9, o, 0)}
		requireEff(t, l, 8, 6)
		requireOrder(t, l, true, 8, 3)
	}
}

// Of several points of a serial, and of several ends of a window, the first one in the log counts, not the earliest one.
func TestFirstPointsAndFirstEnds(t *testing.T) {
	rec := recordOp("a", 5)
	l := []impl.Ev{pointAt(8, 20, rec, 1), pointAt(3, 15, flushOp(), 1), pointAt(4, 9, flushOp(), 1), pointAt(8, 2, rec, 1), pointAt(3, 1, registerOp("a", 1), -1), pointAt(8, 1, rec, 7)}
	requireEff(t, l, 8, 15)
	requireOrder(t, l, true, 4, 8, 3)
	// The point of the serial's first end is not that serial's first point.
	l = []impl.Ev{pointAt(3, 30, registerOp("a", 1), -1), pointAt(3, 12, flushOp(), 1), pointAt(8, 20, rec, 1), pointAt(4, 2, flushOp(), 1)}
	requireEff(t, l, 8, 12)
	requireEff(t, l, 3, 30)
	requireOrder(t, l, true, 4, 8, 3)
	// A first point that is no record's, or has another window, is not moved, though a later one would be.
	l = []impl.Ev{pointAt(3, 5, flushOp(), 1), pointAt(8, 20, registerOp("a", 1), 1), pointAt(8, 21, rec, 1), pointAt(9, 22, rec, -1), pointAt(9, 23, rec, 1), pointAt(7, 24, rec, 2), pointAt(7, 25, rec, 1)}
	requireOrder(t, l, true, 3, 8, 9, 7)
	requireEff(t, l, 8, 20)
	requireEff(t, l, 9, 22)
	requireEff(t, l, 7, 24)
	// The end may be later than the point: then nothing is moved.
	l = []impl.Ev{pointAt(3, 50, flushOp(), 1), pointAt(4, 5, flushOp(), 1), pointAt(8, 20, rec, 1)}
	requireEff(t, l, 8, 20)
	requireOrder(t, l, true, 4, 8, 3)
}

// Points of one time: records and registrations as they stand in the log, then flushes as they stand in the log.
func TestPointsOfOneTime(t *testing.T) {
	rec, reg := recordOp("a", 5), registerOp("b", 2)
	kinds := map[string]impl.Ev{
		"a": pointAt(7, 6, rec, 0), "b": pointAt(4, 6, reg, -1), "c": pointAt(5, 6, rec, -1),
		"f": pointAt(6, 6, flushOp(), 9), "g": pointAt(2, 6, flushOp(), 8), "x": pointAt(9, 6, impl.Op{Kind: 4}, 3),
	}
	orders([]string{"a", "b", "c", "f", "g", "x"}, func(list []string) {
		var l []impl.Ev
		var records, flushes []int
		for _, name := range list {
			e := kinds[name]
			l = append(l, e)
			if e.Op.Kind == 3 {
				flushes = append(flushes, e.Serial)
			} else {
				records = append(records, e.Serial)
			}
		}
		compareOrder(t, l)
		if want := append(records, flushes...); !slices.Equal(impl.Order(l), want) {
			t.Errorf("Order of %+v: %v, want %v", l, impl.Order(l), want)
		}
	})
	// Late records of one window stand in the order of their points, between the ones before the end and the flush.
	l := []impl.Ev{pointAt(1, 5, rec, 0), pointAt(2, 6, flushOp(), 0), pointAt(3, 7, rec, 1), pointAt(9, 8, rec, 0), pointAt(4, 9, rec, 1), pointAt(6, 10, rec, 0), pointAt(5, 11, rec, 0), pointAt(7, 12, flushOp(), 1), pointAt(8, 13, rec, 1)}
	requireOrder(t, l, true, 1, 9, 6, 5, 2, 3, 4, 8, 7)
}

// The order of many points in every order of their times.
func TestOrderOfEveryOrderOfTimes(t *testing.T) {
	orders([]string{"1", "2", "3", "4", "5", "6"}, func(list []string) {
		l := make([]impl.Ev, 6)
		want := make([]int, 6)
		for i, name := range list {
			at, _ := impl.ReadDec(name)
			l[i] = pointAt(10+i, at, recordOp("a", 5), 0)
			want[at-1] = 10 + i
		}
		if got := impl.Order(l); !slices.Equal(got, want) {
			t.Errorf("Order of the times %q: %v, want %v", list, got, want)
		}
	})
}

// Serials and times at the ends of all numbers.
func TestOrderOfFarNumbers(t *testing.T) {
	for _, serial := range append(farNumbers(), 0, 1) {
		for i, at := range farNumbers() {
			for j, other := range farNumbers() {
				first, second := pointAt(serial, at, recordOp("a", 5), -1), pointAt(serial^1, other, recordOp("a", 5), -1)
				want := []int{serial, serial ^ 1}
				if i > j {
					want = []int{serial ^ 1, serial}
				}
				l := []impl.Ev{first, second}
				if got := impl.Order(l); !slices.Equal(got, want) || impl.Ahead(l, serial, serial^1) != (i <= j) || impl.Ahead(l, serial^1, serial) != (i > j) {
					t.Errorf("Order of the times %d and %d: %v, want %v", at, other, got, want)
				}
				// As the ends of windows, they come before or after a point in the same way.
				l = []impl.Ev{pointAt(serial, at, flushOp(), 0), pointAt(serial^1, other, recordOp("a", 5), 0)}
				if got := impl.EffAt(l, serial^1); got != min(at, other) {
					t.Errorf("EffAt of a point at %d in a window that ends at %d: %d", other, at, got)
				}
				compareOrder(t, l, farNumbers()...)
			}
		}
	}
}

// InTime looks at places, not at times, and at the first events only.
func TestInTime(t *testing.T) {
	o := recordOp("a", 5)
	requireIn := func(l []impl.Ev, a, b int, want bool) {
		t.Helper()
		checkOrder(t, l)
		if impl.InTime(l, a, b) != want {
			t.Errorf("InTime of %d and %d in %+v: %v", a, b, l, !want)
		}
	}
	requireIn([]impl.Ev{toldAt(1, 9, o), calledAt(2, 4, o)}, 1, 2, true)
	requireIn([]impl.Ev{calledAt(2, 9, o), toldAt(1, 4, o)}, 1, 2, false)
	requireIn([]impl.Ev{toldAt(1, 9, o), calledAt(2, 4, o)}, 2, 1, false)
	requireIn([]impl.Ev{toldAt(1, 9, o), calledAt(1, 9, o)}, 1, 1, true)
	requireIn([]impl.Ev{calledAt(1, 9, o), toldAt(1, 9, o)}, 1, 1, false)
	requireIn([]impl.Ev{toldAt(1, 4, o)}, 1, 2, false)
	requireIn([]impl.Ev{calledAt(2, 4, o)}, 1, 2, false)
	requireIn([]impl.Ev{calledAt(1, 1, o), calledAt(2, 4, o)}, 1, 2, false)
	requireIn([]impl.Ev{toldAt(1, 1, o), toldAt(2, 4, o)}, 1, 2, false)
	requireIn([]impl.Ev{pointAt(1, 1, o, 0), calledAt(2, 4, o)}, 1, 2, false)
	requireIn([]impl.Ev{toldAt(1, 1, o), pointAt(2, 4, o, 0)}, 1, 2, false)
	requireIn([]impl.Ev{calledAt(2, 1, o), toldAt(1, 2, o), calledAt(2, 3, o)}, 1, 2, false)
	requireIn([]impl.Ev{toldAt(1, 1, o), calledAt(2, 2, o), toldAt(1, 3, o)}, 1, 2, true)
	requireIn([]impl.Ev{{}, {}, toldAt(-7, 1, o), {}, calledAt(0, 2, o)}, -7, 0, true)
	requireIn(nil, 0, 0, false)
	requireIn(nil, 1, 2, false)
}

// Strict at logs in which one operation precedes another one that stands before it, and at ones that just fail to.
func TestStrict(t *testing.T) {
	o := recordOp("a", 5)
	p := func(serial, at int) impl.Ev { return pointAt(serial, at, o, -1) }
	call := func(serial int) impl.Ev { return calledAt(serial, 0, o) }
	told := func(serial int) impl.Ev { return toldAt(serial, 0, o) }
	requireOrder(t, []impl.Ev{call(1), p(1, 5), told(1), call(2), p(2, 6), told(2)}, true, 1, 2)
	requireOrder(t, []impl.Ev{call(1), p(1, 7), told(1), call(2), p(2, 6), told(2)}, false, 2, 1)
	requireOrder(t, []impl.Ev{call(1), p(1, 6), told(1), call(2), p(2, 6), told(2)}, true, 1, 2)
	// They overlap: any order will do.
	requireOrder(t, []impl.Ev{call(1), p(1, 7), call(2), told(1), p(2, 6), told(2)}, true, 2, 1)
	requireOrder(t, []impl.Ev{call(1), call(2), p(1, 5), p(2, 6), told(1), told(2)}, true, 1, 2)
	// The report or the call is missing, or the point is.
	requireOrder(t, []impl.Ev{call(1), p(1, 7), call(2), p(2, 6), told(2)}, true, 2, 1)
	requireOrder(t, []impl.Ev{p(1, 7), told(1), p(2, 6), told(2)}, true, 2, 1)
	requireOrder(t, []impl.Ev{told(1), p(2, 6), call(2)}, true, 2)
	requireOrder(t, []impl.Ev{told(1), p(1, 6), call(2)}, true, 1)
	// Nothing but these two events counts.
	requireOrder(t, []impl.Ev{told(1), call(2), p(2, 6), p(1, 7)}, false, 2, 1)
	requireOrder(t, []impl.Ev{p(1, 7), p(2, 6), told(1), call(2)}, false, 2, 1)
	// An operation that is told before its call is not another one.
	requireOrder(t, []impl.Ev{told(1), call(1), p(1, 5)}, true, 1)
	requireOrder(t, []impl.Ev{told(1), call(1), p(1, 5), told(2), call(2), p(2, 6)}, true, 1, 2)
	requireOrder(t, []impl.Ev{told(1), call(1), p(1, 6), told(2), call(2), p(2, 5)}, false, 2, 1)
	// Only the first calls and reports count.
	requireOrder(t, []impl.Ev{call(2), told(1), call(2), p(1, 7), p(2, 6)}, true, 2, 1)
	requireOrder(t, []impl.Ev{told(1), call(2), told(1), p(1, 7), p(2, 6)}, false, 2, 1)
	// The two stand apart, and others that are in order stand around and between them.
	requireOrder(t, []impl.Ev{call(4), told(3), call(1), call(2), p(4, 4), p(1, 1), p(2, 2), p(3, 3)}, false, 1, 2, 3, 4)
	requireOrder(t, []impl.Ev{call(2), told(3), call(1), p(4, 4), p(1, 1), p(2, 2), p(3, 3), call(4)}, false, 1, 2, 3, 4)
	requireOrder(t, []impl.Ev{call(2), told(4), call(1), p(4, 4), p(1, 1), p(2, 2), p(3, 3), call(3)}, false, 1, 2, 3, 4)
	requireOrder(t, []impl.Ev{call(1), call(2), call(3), told(4), told(3), told(2), told(1), p(1, 1), p(2, 2), p(3, 3), p(4, 4), call(4)}, true, 1, 2, 3, 4)
	// A flush that was told before a record of its window was called: the record does not stand behind it.
	requireOrder(t, []impl.Ev{call(1), pointAt(1, 5, flushOp(), 0), told(1), call(2), pointAt(2, 9, o, 0)}, false, 2, 1)
	requireOrder(t, []impl.Ev{call(1), pointAt(1, 5, flushOp(), 0), told(1), call(2), pointAt(2, 9, o, 1)}, true, 1, 2)
}

// Every log of up to five calls, points and reports of two operations.
func TestEveryFewCallsPointsAndReports(t *testing.T) {
	o := recordOp("a", 5)
	events := []impl.Ev{calledAt(1, 9, o), calledAt(2, 8, o), toldAt(1, 7, o), toldAt(2, 6, o), pointAt(1, 3, o, -1), pointAt(1, 4, o, -1), pointAt(2, 3, o, -1)}
	stringsOver("\x00\x01\x02\x03\x04\x05\x06", 5, func(s string) {
		compareOrder(t, logOf(events, s))
	})
}

// Every log of up to three points of three operations in two windows, or in none.
func TestEveryFewPoints(t *testing.T) {
	var events []impl.Ev
	letters := ""
	for serial := 1; serial <= 3; serial++ {
		for _, at := range []int{2, 3} {
			for _, e := range []impl.Ev{pointAt(serial, at, recordOp("a", 5), 0), pointAt(serial, at, recordOp("a", 5), 1), pointAt(serial, at, recordOp("a", 5), -1), pointAt(serial, at, flushOp(), 0), pointAt(serial, at, flushOp(), -1), pointAt(serial, at, registerOp("a", 1), 0)} {
				letters += string(rune(len(events)))
				events = append(events, e)
			}
		}
	}
	stringsOver(letters, 3, func(s string) {
		compareOrder(t, logOf(events, s))
	})
}

func logOf(events []impl.Ev, s string) []impl.Ev {
	var l []impl.Ev
	for i := range len(s) {
		l = append(l, events[s[i]])
	}
	return l
}

func anyLog(r *rand.Rand, n, serials, moments int) []impl.Ev {
	l := make([]impl.Ev, n)
	for i := range l {
		o := oneOf(r, recordOp("a", 5), recordOp("b", 1), flushOp(), registerOp("a", 1))
		l[i] = impl.Ev{Kind: oneOf(r, 1, 2, 2, 2, 3), Who: r.IntN(4), Serial: r.IntN(serials), At: r.IntN(moments), Op: o, Code: r.IntN(6), Win: r.IntN(4) - 1}
		if r.IntN(12) == 0 {
			l[i].At = oneOf(r, farNumbers()...)
		}
		if r.IntN(12) == 0 {
			l[i].Win = oneOf(r, farNumbers()...)
		}
		if r.IntN(20) == 0 {
			l[i].Op.Kind, l[i].Kind = r.IntN(6), r.IntN(6)
		}
	}
	return l
}

func TestOrderOfAnyLogs(t *testing.T) {
	r := rand.New(rand.NewPCG(14, 1))
	strict := map[bool]int{}
	for range 3000 {
		l := anyLog(r, r.IntN(20), 1+r.IntN(9), 1+r.IntN(30))
		compareOrder(t, l, -1, 10)
		strict[impl.Strict(l)]++
	}
	for range 100 {
		checkOrder(t, anyLog(r, r.IntN(30), 9, 4))
	}
	// Logs of many operations, most of which take effect at the same times as others.
	for range 12 {
		l := anyLog(r, 120, 200, 1+r.IntN(9))
		if got, want := impl.Order(l), wantOrder(l); !slices.Equal(got, want) || len(got) < 40 || impl.Strict(l) != wantStrict(l) {
			t.Errorf("Order of %+v: %v, want %v", l, got, want)
		}
	}
	if strict[true] < 300 || strict[false] < 300 {
		t.Errorf("strict or not: %v", strict)
	}
	for _, l := range [][]impl.Ev{someEvents(), busyWorld().Log, append(someEvents(), someEvents()...)} {
		checkOrder(t, l)
	}
}

// A long log of late records. It is strict as long as the flush is not told before the last record is called.
func TestOrderOfALongLog(t *testing.T) {
	const n = 30000
	l := []impl.Ev{pointAt(0, 5, flushOp(), 3)}
	want := []int{}
	for i := n; i > 0; i-- {
		l = append(l, calledAt(i, 6, recordOp("a", 1)), pointAt(i, 6+i, recordOp("a", 1), 3))
		want = append(want, i)
	}
	want = append(want, 0)
	if got := impl.Order(l); !slices.Equal(got, want) || !impl.Strict(l) || impl.EffAt(l, n/2) != 5 || !impl.Ahead(l, 1, 0) {
		t.Errorf("Order of a long log: %d serials", len(got))
	}
	l = slices.Insert(l, len(l)-2, toldAt(0, 9, flushOp()))
	if got := impl.Order(l); !slices.Equal(got, want) || impl.Strict(l) || !impl.InTime(l, 0, 1) || impl.InTime(l, 0, 2) {
		t.Errorf("Order of a long log with a report: %d serials", len(got))
	}
}

// Promise 15: what holds of the log of every schedule that begins at this epoch. It counts the records that take effect before their points.
func checkEffects(t *testing.T, log []impl.Ev, first int) int {
	t.Helper()
	order := impl.Order(log)
	late := 0
	count := map[int]int{}
	for _, serial := range order {
		count[serial]++
	}
	for _, call := range log {
		if call.Kind != 1 {
			continue
		}
		points, eff := pointOf(log, call.Serial), impl.EffAt(log, call.Serial)
		if len(points) != count[call.Serial] || len(points) > 1 || len(points) == 0 && eff != -1 {
			t.Errorf("%d points of %+v, which is %d times in the order and takes effect at %d", len(points), call, count[call.Serial], eff)
		}
		delete(count, call.Serial)
		if len(points) == 0 {
			continue
		}
		told := wantPlace(log, 3, call.Serial)
		if eff <= call.At || eff > points[0].At || told >= 0 && eff >= log[told].At {
			t.Errorf("%+v takes effect at %d: %+v", call, eff, log)
		}
		if eff != points[0].At {
			late++
		}
	}
	if len(count) > 0 {
		t.Errorf("%v in the order without a call: %+v", slices.Collect(maps.Keys(count)), log)
	}
	requireWindows(t, log, order, first)
	if !impl.Strict(log) || !wantStrict(log) {
		t.Errorf("not strict: %v, %+v", order, log)
	}
	return late
}

// requireWindows requires that each record stands in the order behind the end of the window before its own and before the end of its own.
func requireWindows(t *testing.T, log []impl.Ev, order []int, first int) {
	t.Helper()
	win := first
	for _, serial := range order {
		e := pointOf(log, serial)[0]
		if e.Op.Kind == 3 || e.Op.Kind == 2 && e.Win >= 0 {
			if e.Win != win {
				t.Errorf("%+v stands in the window %d of the order %v: %+v", e, win, order, log)
			}
		}
		if e.Op.Kind == 3 {
			win = wrapped(win, 1)
		}
	}
}

func TestEffectsOfManySchedules(t *testing.T) {
	r := rand.New(rand.NewPCG(14, 2))
	late := 0
	for i := range 250 {
		l := busyTodo(r)
		if i%3 == 0 {
			l = anyTodo(r)
		}
		w := impl.Play(impl.Script{Todo: l, Picks: anyPicks(r, oneOf(r, 60, 300, 500))})
		late += checkEffects(t, w.Log, 0)
		end := impl.Finish(w)
		late += checkEffects(t, end.Log, 0)
		if order := impl.Order(end.Log); len(order) != end.Serial || !slices.Equal(slices.Sorted(slices.Values(order)), upTo(end.Serial)) {
			t.Errorf("%d operations, and the order %v", end.Serial, order)
		}
		if i < 40 {
			compareOrder(t, end.Log)
			for n := range end.Log {
				checkEffects(t, end.Log[:n], 0)
			}
		}
		if t.Failed() {
			return
		}
	}
	if late < 100 {
		t.Errorf("only %d late records", late)
	}
}

func upTo(n int) []int {
	var out []int
	for i := range n {
		out = append(out, i+1)
	}
	return out
}

// Worlds that begin shortly before the epoch wraps around.
func TestEffectsWhereTheEpochWrapsAround(t *testing.T) {
	r := rand.New(rand.NewPCG(14, 3))
	late := 0
	for range 60 {
		first := 1<<48 - 1 - r.IntN(4)
		w := impl.WorldNew(busyTodo(r))
		w.Cells[0] = first
		for _, thread := range anyPicks(r, oneOf(r, 100, 300, 500)) {
			w = impl.Step(w, thread)
		}
		late += checkEffects(t, w.Log, first) + checkEffects(t, impl.Finish(w).Log, first)
		if t.Failed() {
			return
		}
	}
	if late < 20 {
		t.Errorf("only %d late records", late)
	}
}

// A flush at each moment of a record of each kind, and a record of the next window before the first one has its point.
func TestEffectsOfAFlushAtEachMoment(t *testing.T) {
	for kind := 1; kind <= 3; kind++ {
		l := todoOf(1, []impl.Op{registerOp("a", kind), recordOp("a", 5)}, []impl.Op{recordOp("a", 6)})
		// Thread 1 calls, probes, and reads the epoch with its third step; after the fifth one it is inside, and the sixth one is its point.
		for before := range 9 {
			picks := slices.Concat(times(4, 0), times(before, 1), times(2, 3), times(8-min(before, 8), 0), times(40, 1), times(40, 0), times(60, 3))
			w := checkPlay(t, l, picks)
			late := checkEffects(t, w.Log, 0)
			checkOrder(t, w.Log)
			serial := 1
			for _, e := range w.Log {
				if e.Kind == 1 && e.Who == 1 {
					serial = e.Serial
				}
			}
			point, eff := pointOf(w.Log, serial)[0], impl.EffAt(w.Log, serial)
			swap := impl.SwapAt(w.Log, 0)
			switch {
			case before < 5:
				if late != 0 || point.Win != 1 || eff != point.At || eff <= swap {
					t.Errorf("the flush after %d steps: the record of %d at %d, %+v", before, swap, eff, point)
				}
			case before == 5:
				if late != 1 || point.Win != 0 || point.At <= swap || eff != swap || swap != 11 {
					t.Errorf("the flush after %d steps: the record of %d at %d, %+v", before, swap, eff, point)
				}
			default:
				if late != 0 || point.Win != 0 || eff != point.At || eff != 10 || eff >= swap {
					t.Errorf("the flush after %d steps: the record of %d at %d, %+v", before, swap, eff, point)
				}
			}
		}
	}
}

// Three writers are inside when the window ends; one of them has its point before that, and the dropped sample is the last of the others.
func TestEffectsOfLateRecordsWrittenOut(t *testing.T) {
	l := todoOf(1, []impl.Op{registerOp("t", 3), recordOp("t", 1), recordOp("t", 2), recordOp("t", 3), recordOp("t", 9)}, []impl.Op{recordOp("t", 4)}, []impl.Op{recordOp("t", 5)})
	// The registration; the record of 1; the record of 2 up to the recheck, like that of 4; the record of 5 with its point; then the end of the window, and the late points.
	picks := slices.Concat(times(4, 0), times(9, 0), times(5, 0), times(5, 1), times(6, 2), times(2, 3), times(4, 1), times(20, 0), times(4, 2), times(60, 3))
	w := checkPlay(t, l, picks)
	checkEffects(t, w.Log, 0)
	requireOrder(t, w.Log, true, 1, 2, 5, 4, 3, 6, 7, 8)
	for serial, at := range map[int]int{1: 3, 2: 10, 3: 31, 4: 31, 5: 29, 6: 31} {
		requireEff(t, w.Log, serial, at)
	}
	if p := pointOf(w.Log, 3)[0]; p.Code != 5 || p.Win != 0 || p.At != 36 {
		t.Errorf("the last late record: %+v", p)
	}
	if rows := impl.Reports(w); len(rows) != 1 || len(rows[0]) != 1 || rows[0][0] != timerRowOf("t", 3, 1, 5, 10, 1) {
		t.Errorf("the report: %+v", rows)
	}
}

// An operation without a point is in no order; after its point it is, though it is not told yet.
func TestEffectsOfOperationsThatAreNotTold(t *testing.T) {
	l := todoOf(1, []impl.Op{registerOp("a", 1), recordOp("a", 5)}, []impl.Op{recordOp("none", 1)})
	for _, x := range []struct {
		picks []int
		want  []int
	}{
		{times(1, 0), nil}, {times(2, 0), nil}, {times(3, 0), []int{1}}, {times(4, 0), []int{1}}, {times(5, 0), []int{1}}, {times(9, 0), []int{1}}, {times(10, 0), []int{1, 2}},
		{times(1, 3), nil}, {times(2, 3), []int{1}}, {times(30, 3), []int{1}}, {times(2, 1), []int{1}}, {times(1, 1), nil},
		{[]int{1, 3, 3, 1}, []int{2, 1}}, {[]int{0, 0, 3, 1, 1, 3, 0}, []int{3, 2, 1}},
	} {
		w := checkPlay(t, l, x.picks)
		checkEffects(t, w.Log, 0)
		requireOrder(t, w.Log, true, x.want...)
	}
}

package tests

import (
	"math"
	"strconv"
	"testing"

	"loop.example/g01608/impl"
)

// namedCell is a cell as the document describes it: its index, the function that returns it and its name.
type namedCell struct {
	index int
	by    string
	got   int
	name  string
}

// The cells of a slot, in order, written out so that a wrong order in the program shows.
func slotCells(b, slot int) []namedCell {
	at := " " + strconv.Itoa(b) + " " + strconv.Itoa(slot)
	first := 7 + 32*b + 8*slot
	return []namedCell{
		{first, "StripeCell", impl.StripeCell(b, slot, 0), "stripe" + at + " 0"},
		{first + 1, "StripeCell", impl.StripeCell(b, slot, 1), "stripe" + at + " 1"},
		{first + 2, "StampCell", impl.StampCell(b, slot), "stamp" + at},
		{first + 3, "GaugeCell", impl.GaugeCell(b, slot), "gauge" + at},
		{first + 4, "TicketCell", impl.TicketCell(b, slot), "ticket" + at},
		{first + 5, "RingCell", impl.RingCell(b, slot, 0), "ring" + at + " 0"},
		{first + 6, "RingCell", impl.RingCell(b, slot, 1), "ring" + at + " 1"},
		{first + 7, "RingCell", impl.RingCell(b, slot, 2), "ring" + at + " 2"},
	}
}

func allCells() []namedCell {
	out := []namedCell{
		{0, "EpochAt", impl.EpochAt, "epoch"},
		{1, "InCell", impl.InCell(0), "in 0"},
		{2, "InCell", impl.InCell(1), "in 1"},
		{3, "KeyCell", impl.KeyCell(0), "key 0"},
		{4, "KeyCell", impl.KeyCell(1), "key 1"},
		{5, "KeyCell", impl.KeyCell(2), "key 2"},
		{6, "KeyCell", impl.KeyCell(3), "key 3"},
	}
	for b := range 2 {
		for slot := range 4 {
			out = append(out, slotCells(b, slot)...)
		}
	}
	return out
}

// badNumbers returns invalid numbers for an argument that must be less than limit. Multiplied by 8 or 32, the powers of two wrap around to a small number.
func badNumbers(limit int) []int {
	out := []int{-1, -2, -8, -32, -impl.ArenaLen, limit, limit + 1, impl.ArenaLen, impl.ArenaLen + 1, 1000000, impl.Word, math.MaxInt - 1, math.MaxInt, math.MinInt, math.MinInt + 1}
	for shift := 31; shift < 63; shift++ {
		for near := -1; near <= 1; near++ {
			out = append(out, 1<<shift+near, -(1<<shift)+near)
		}
	}
	return out
}

func TestLayoutConstants(t *testing.T) {
	if impl.Slots != 4 || impl.Stripes != 2 || impl.RingCap != 3 || impl.PerSlot != 8 || impl.PerBuf != 32 || impl.BufBase != 7 || impl.EpochAt != 0 {
		t.Error("constants", impl.Slots, impl.Stripes, impl.RingCap, impl.PerSlot, impl.PerBuf, impl.BufBase, impl.EpochAt)
	}
}

func TestEveryCellByItsFunction(t *testing.T) {
	cells := allCells()
	if len(cells) != impl.ArenaLen {
		t.Fatalf("%d cells, want %d", len(cells), impl.ArenaLen)
	}
	byIndex := map[int]string{}
	for _, c := range cells {
		if c.got != c.index {
			t.Errorf("%s for %q: %d, want %d", c.by, c.name, c.got, c.index)
		}
		if other, twice := byIndex[c.got]; twice {
			t.Errorf("%q and %q are both cell %d", other, c.name, c.got)
		}
		byIndex[c.got] = c.name
	}
	for i := range impl.ArenaLen {
		if _, there := byIndex[i]; !there {
			t.Errorf("no function returns cell %d", i)
		}
	}
}

func TestEveryCellHasItsName(t *testing.T) {
	byName := map[string]int{}
	for _, c := range allCells() {
		if got := impl.CellName(c.index); got != c.name {
			t.Errorf("CellName(%d) = %q, want %q", c.index, got, c.name)
		}
		if got := impl.CellName(c.got); got != c.name {
			t.Errorf("CellName of the result of %s = %q, want %q", c.by, got, c.name)
		}
	}
	for i := range impl.ArenaLen {
		name := impl.CellName(i)
		if name == "" {
			t.Errorf("cell %d has no name", i)
		}
		if other, twice := byName[name]; twice {
			t.Errorf("cells %d and %d are both %q", other, i, name)
		}
		byName[name] = i
	}
}

func TestCellNameOfNoCell(t *testing.T) {
	for i := -200; i < 300; i++ {
		if there := i >= 0 && i < impl.ArenaLen; (impl.CellName(i) != "") != there {
			t.Errorf("CellName(%d) = %q", i, impl.CellName(i))
		}
	}
	for _, i := range badNumbers(impl.ArenaLen) {
		if name := impl.CellName(i); name != "" {
			t.Errorf("CellName(%d) = %q, want none", i, name)
		}
	}
}

func TestLastCell(t *testing.T) {
	last := impl.RingCell(1, impl.Slots-1, impl.RingCap-1)
	if last != 70 {
		t.Error("the last sample of the last slot is cell", last)
	}
	if name := impl.CellName(impl.ArenaLen - 1); name != "ring 1 3 2" {
		t.Errorf("the last cell is %q", name)
	}
	if name := impl.CellName(impl.ArenaLen); name != "" {
		t.Errorf("the cell after the last one is %q", name)
	}
	// The cells next to the borders of the parts of the layout.
	for i, want := range map[int]string{0: "epoch", 1: "in 0", 2: "in 1", 3: "key 0", 6: "key 3", 7: "stripe 0 0 0", 14: "ring 0 0 2", 15: "stripe 0 1 0", 38: "ring 0 3 2", 39: "stripe 1 0 0", 40: "stripe 1 0 1", 63: "stripe 1 3 0", 67: "ticket 1 3"} {
		if name := impl.CellName(i); name != want {
			t.Errorf("CellName(%d) = %q, want %q", i, name, want)
		}
	}
}

func TestSlotBase(t *testing.T) {
	want := [2][4]int{{7, 15, 23, 31}, {39, 47, 55, 63}}
	for b := range 2 {
		for slot := range 4 {
			if got := impl.SlotBase(b, slot); got != want[b][slot] || got != impl.StripeCell(b, slot, 0) {
				t.Errorf("SlotBase(%d, %d) = %d, want %d", b, slot, got, want[b][slot])
			}
		}
	}
}

func TestInCellAndKeyCellOfNone(t *testing.T) {
	for _, b := range badNumbers(2) {
		if got := impl.InCell(b); got != -1 {
			t.Errorf("InCell(%d) = %d, want -1", b, got)
		}
	}
	for _, slot := range badNumbers(impl.Slots) {
		if got := impl.KeyCell(slot); got != -1 {
			t.Errorf("KeyCell(%d) = %d, want -1", slot, got)
		}
	}
}

// checkNoSlot requires -1 of each function that has a buffer and a slot among its arguments, whatever the others are.
func checkNoSlot(t *testing.T, b, slot int) {
	t.Helper()
	for name, got := range map[string]int{"SlotBase": impl.SlotBase(b, slot), "StampCell": impl.StampCell(b, slot), "GaugeCell": impl.GaugeCell(b, slot), "TicketCell": impl.TicketCell(b, slot)} {
		if got != -1 {
			t.Errorf("%s(%d, %d) = %d, want -1", name, b, slot, got)
		}
	}
	for k := -1; k <= impl.RingCap; k++ {
		if got := impl.StripeCell(b, slot, k); got != -1 {
			t.Errorf("StripeCell(%d, %d, %d) = %d, want -1", b, slot, k, got)
		}
		if got := impl.RingCell(b, slot, k); got != -1 {
			t.Errorf("RingCell(%d, %d, %d) = %d, want -1", b, slot, k, got)
		}
	}
}

func TestNoBuffer(t *testing.T) {
	for _, b := range badNumbers(2) {
		for slot := range impl.Slots {
			checkNoSlot(t, b, slot)
		}
	}
}

func TestNoSlot(t *testing.T) {
	for _, slot := range badNumbers(impl.Slots) {
		for b := range 2 {
			checkNoSlot(t, b, slot)
		}
	}
}

func TestNeitherBufferNorSlot(t *testing.T) {
	for _, b := range badNumbers(2) {
		for _, slot := range badNumbers(impl.Slots) {
			checkNoSlot(t, b, slot)
		}
	}
}

func TestNoStripeOrSample(t *testing.T) {
	for b := range 2 {
		for slot := range impl.Slots {
			for _, s := range badNumbers(impl.Stripes) {
				if got := impl.StripeCell(b, slot, s); got != -1 {
					t.Errorf("StripeCell(%d, %d, %d) = %d, want -1", b, slot, s, got)
				}
			}
			for _, k := range badNumbers(impl.RingCap) {
				if got := impl.RingCell(b, slot, k); got != -1 {
					t.Errorf("RingCell(%d, %d, %d) = %d, want -1", b, slot, k, got)
				}
			}
		}
	}
}

func TestNothingValid(t *testing.T) {
	for _, n := range badNumbers(impl.Slots) {
		if got := impl.StripeCell(n, n, n); got != -1 {
			t.Errorf("StripeCell of %d three times: %d, want -1", n, got)
		}
		if got := impl.RingCell(n, n, n); got != -1 {
			t.Errorf("RingCell of %d three times: %d, want -1", n, got)
		}
	}
}

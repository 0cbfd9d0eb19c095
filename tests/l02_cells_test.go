package tests

import (
	"math"
	"math/big"
	"slices"
	"testing"

	"loop.example/g01608/impl"
)

// mark fills the unused capacity of an argument; no valid or invalid cell of these tests has this value.
const mark = -777

// roomy returns a copy of the list with unused capacity behind it, filled with mark.
func roomy(a []int) []int {
	out := make([]int, len(a), len(a)+5)
	copy(out, a)
	rest := out[len(a):cap(out)]
	for i := range rest {
		rest[i] = mark
	}
	return out
}

// checkApart reports an error if the call changed its argument, of which before is a copy, or shares memory with it.
func checkApart(t *testing.T, name string, arg, before, result []int) {
	t.Helper()
	intact := func() bool {
		for _, n := range arg[len(arg):cap(arg)] {
			if n != mark {
				return false
			}
		}
		return slices.Equal(arg, before)
	}
	if !intact() {
		t.Errorf("%s changed its argument", name)
	}
	saved := slices.Clone(result)
	for i := range result[:cap(result)] {
		result[:cap(result)][i] = mark - 1
	}
	if !intact() {
		t.Errorf("the result of %s shares memory with the argument", name)
	}
	copy(result, saved)
}

// exampleCells returns valid cells, all of them different, with the least and the greatest value at both ends.
func exampleCells() []int {
	a := make([]int, impl.ArenaLen)
	for i := range a {
		a[i] = 1000*i + 7
	}
	a[0], a[1] = 0, impl.Word-1
	a[impl.ArenaLen-2], a[impl.ArenaLen-1] = 0, impl.Word-1
	return a
}

func cellsWith(i, n int) []int {
	a := exampleCells()
	a[i] = n
	return a
}

func validLists() [][]int {
	full := make([]int, impl.ArenaLen)
	for i := range full {
		full[i] = impl.Word - 1
	}
	return [][]int{exampleCells(), make([]int, impl.ArenaLen), full}
}

func invalidLists() [][]int {
	a := exampleCells()
	out := [][]int{nil, {}, {0}, a[:impl.ArenaLen-1], a[1:], append(slices.Clone(a), 0), append(slices.Clone(a), a...)}
	for _, i := range []int{0, 1, 5, 35, impl.ArenaLen - 2, impl.ArenaLen - 1} {
		for _, n := range []int{-1, impl.Word, impl.Word + 1, -impl.Word, math.MinInt, math.MaxInt} {
			out = append(out, cellsWith(i, n))
		}
	}
	return out
}

func cellIndices() []int {
	return []int{math.MinInt, -impl.ArenaLen, -2, -1, 0, 1, 5, 35, impl.ArenaLen - 2, impl.ArenaLen - 1, impl.ArenaLen, impl.ArenaLen + 1, math.MaxInt}
}

func cellValues() []int {
	return []int{math.MinInt, -2 * impl.Word, -impl.Word - 1, -impl.Word, -impl.Word + 1, -5007, -1, 0, 1, 5007, impl.Word - 2, impl.Word - 1, impl.Word, impl.Word + 1, 2 * impl.Word, math.MaxInt}
}

// eachAccess calls visit with many lists and indices, and says whether there is such a cell.
func eachAccess(visit func(a []int, i int, there bool)) {
	for _, i := range cellIndices() {
		for _, a := range validLists() {
			visit(roomy(a), i, 0 <= i && i < impl.ArenaLen)
		}
		for _, a := range invalidLists() {
			visit(roomy(a), i, false)
		}
		visit(nil, i, false)
	}
}

// stored returns what is expected of a change of one cell, or a copy if it is not made.
func stored(a []int, i, n int, made bool) []int {
	out := slices.Clone(a)
	if made {
		out[i] = n
	}
	return out
}

func TestCellConstants(t *testing.T) {
	if impl.Word != 1<<48 || impl.ArenaLen != 71 {
		t.Error("constants", impl.Word, impl.ArenaLen)
	}
}

func TestCellsOk(t *testing.T) {
	for k, a := range validLists() {
		if !impl.CellsOk(a) {
			t.Error("valid cells are rejected:", k)
		}
	}
	for k, a := range invalidLists() {
		if impl.CellsOk(a) {
			t.Error("invalid cells are accepted:", k, a)
		}
	}
	for i := range impl.ArenaLen {
		for _, n := range cellValues() {
			if got, want := impl.CellsOk(cellsWith(i, n)), n >= 0 && n <= impl.Word-1; got != want {
				t.Errorf("CellsOk with cell %d = %d: %v, want %v", i, n, got, want)
			}
		}
	}
	for n := range 2 * impl.ArenaLen {
		if got := impl.CellsOk(make([]int, n)); got != (n == 71) {
			t.Errorf("CellsOk of %d cells: %v", n, got)
		}
	}
}

func TestLoadCell(t *testing.T) {
	eachAccess(func(a []int, i int, there bool) {
		before := slices.Clone(a)
		want := 0
		if there {
			want = a[i]
		}
		if n, ok := impl.LoadCell(a, i); n != want || ok != there {
			t.Errorf("LoadCell(%v, %d) = %d, %v, want %d, %v", before, i, n, ok, want, there)
		}
		checkApart(t, "LoadCell", a, before, nil)
	})
}

func TestLoadCellOfEachCell(t *testing.T) {
	a := exampleCells()
	for i := -3; i < impl.ArenaLen+3; i++ {
		n, ok := impl.LoadCell(a, i)
		if i < 0 || i >= impl.ArenaLen {
			if n != 0 || ok {
				t.Errorf("LoadCell of no cell %d: %d, %v", i, n, ok)
			}
		} else if n != a[i] || !ok {
			t.Errorf("LoadCell of cell %d: %d, %v, want %d, true", i, n, ok, a[i])
		}
	}
}

func TestStoreCell(t *testing.T) {
	eachAccess(func(a []int, i int, there bool) {
		before := slices.Clone(a)
		for _, n := range cellValues() {
			made := there && n >= 0 && n <= impl.Word-1
			got, ok := impl.StoreCell(a, i, n)
			if ok != made || !slices.Equal(got, stored(before, i, n, made)) {
				t.Errorf("StoreCell(%v, %d, %d) = %v, %v", before, i, n, got, ok)
			}
			if back, is := impl.LoadCell(got, i); made && (back != n || !is) {
				t.Errorf("LoadCell after StoreCell of %d in cell %d: %d, %v", n, i, back, is)
			}
			checkApart(t, "StoreCell", a, before, got)
		}
	})
}

func TestStoreCellOfEachCell(t *testing.T) {
	a := exampleCells()
	for i := range impl.ArenaLen {
		got, ok := impl.StoreCell(a, i, 123456)
		if !ok || !slices.Equal(got, stored(a, i, 123456, true)) {
			t.Errorf("StoreCell in cell %d: %v, %v", i, got, ok)
		}
	}
}

func TestCasCell(t *testing.T) {
	eachAccess(func(a []int, i int, there bool) {
		before := slices.Clone(a)
		olds := cellValues()
		if i >= 0 && i < len(a) {
			// An expected value that is not a word, and a neighbour of the right one.
			olds = append(olds, a[i], a[i]+1, a[i]-1)
		}
		for _, old := range olds {
			for _, to := range cellValues() {
				made := there && before[i] == old && to >= 0 && to <= impl.Word-1
				got, ok := impl.CasCell(a, i, old, to)
				if ok != made || !slices.Equal(got, stored(before, i, to, made)) {
					t.Errorf("CasCell(%v, %d, %d, %d) = %v, %v", before, i, old, to, got, ok)
				}
				checkApart(t, "CasCell", a, before, got)
			}
		}
	})
}

func TestCasCellToTheSameValue(t *testing.T) {
	a := exampleCells()
	if got, ok := impl.CasCell(a, 5, a[5], a[5]); !ok || !slices.Equal(got, a) {
		t.Error("a cell that already has the new value", got, ok)
	}
	if got, ok := impl.CasCell(a, 5, 9, a[5]); ok || !slices.Equal(got, a) {
		t.Error("a cell that has the new value but not the expected one", got, ok)
	}
}

// wrapped is the sum modulo Word, computed with the library.
func wrapped(a, n int) int {
	sum := new(big.Int).Add(big.NewInt(int64(a)), big.NewInt(int64(n)))
	return int(sum.Mod(sum, big.NewInt(impl.Word)).Int64())
}

func TestAddCell(t *testing.T) {
	eachAccess(func(a []int, i int, there bool) {
		before := slices.Clone(a)
		for _, n := range cellValues() {
			made := there && n >= -impl.Word+1 && n <= impl.Word-1
			want, wantOld := slices.Clone(before), -1
			if made {
				want[i], wantOld = wrapped(before[i], n), before[i]
			}
			got, old := impl.AddCell(a, i, n)
			if old != wantOld || !slices.Equal(got, want) {
				t.Errorf("AddCell(%v, %d, %d) = %v, %d, want %v, %d", before, i, n, got, old, want, wantOld)
			}
			if made && !impl.CellsOk(got) {
				t.Errorf("AddCell(%v, %d, %d) returns invalid cells", before, i, n)
			}
			checkApart(t, "AddCell", a, before, got)
		}
	})
}

func TestAddCellWrapsAround(t *testing.T) {
	const top = impl.Word - 1
	for _, c := range []struct{ from, n, want int }{
		{9, -10, top},
		{9, -9, 0},
		{9, 10, 19},
		{0, 0, 0},
		{top, 0, top},
		{top, 1, 0},
		{top, 2, 1},
		{top - 1, 1, top},
		{0, -1, top},
		{1, -1, 0},
		{0, top, top},
		{1, top, 0},
		{top, top, top - 1},
		{0, -top, 1},
		{1, -top, 2},
		{top, -top, 0},
		{top - 1, -top, top},
		{impl.Word / 2, impl.Word / 2, 0},
		{impl.Word / 2, -impl.Word/2 - 1, top},
	} {
		for _, i := range []int{0, 5, impl.ArenaLen - 1} {
			a := cellsWith(i, c.from)
			got, old := impl.AddCell(a, i, c.n)
			if old != c.from || !slices.Equal(got, stored(a, i, c.want, true)) {
				t.Errorf("%d + %d in cell %d: previous %d, now %v, want %d", c.from, c.n, i, old, got[i], c.want)
			}
		}
	}
	a := cellsWith(5, 9)
	for _, n := range []int{impl.Word, -impl.Word, 2 * impl.Word, math.MaxInt, math.MinInt} {
		if got, old := impl.AddCell(a, 5, n); old != -1 || !slices.Equal(got, a) {
			t.Errorf("AddCell of %d: %d, %v", n, old, got)
		}
	}
}

func TestSwapCell(t *testing.T) {
	eachAccess(func(a []int, i int, there bool) {
		before := slices.Clone(a)
		for _, n := range cellValues() {
			made := there && n >= 0 && n <= impl.Word-1
			wantOld := -1
			if made {
				wantOld = before[i]
			}
			got, old := impl.SwapCell(a, i, n)
			if old != wantOld || !slices.Equal(got, stored(before, i, n, made)) {
				t.Errorf("SwapCell(%v, %d, %d) = %v, %d, want previous %d", before, i, n, got, old, wantOld)
			}
			checkApart(t, "SwapCell", a, before, got)
		}
	})
}

func TestSameCells(t *testing.T) {
	lists := append(append(validLists(), invalidLists()...), []int{1}, []int{1, 2}, []int{2, 1}, []int{1, 2, 0}, []int{math.MinInt}, []int{math.MaxInt})
	for _, a := range lists {
		for _, b := range lists {
			x, y := roomy(a), roomy(b)
			want := len(a) == len(b)
			for i := 0; want && i < len(a); i++ {
				want = a[i] == b[i]
			}
			if got := impl.SameCells(x, y); got != want {
				t.Errorf("SameCells(%v, %v) = %v", a, b, got)
			}
			checkApart(t, "SameCells", x, a, nil)
			checkApart(t, "SameCells", y, b, nil)
		}
	}
	if !impl.SameCells(nil, nil) || !impl.SameCells(nil, []int{}) || !impl.SameCells([]int{}, nil) {
		t.Error("a nil list and an empty one")
	}
	a := exampleCells()
	for i := range a {
		if b := cellsWith(i, a[i]^1); impl.SameCells(a, b) || impl.SameCells(b, a) {
			t.Error("lists that differ in cell", i)
		}
	}
}

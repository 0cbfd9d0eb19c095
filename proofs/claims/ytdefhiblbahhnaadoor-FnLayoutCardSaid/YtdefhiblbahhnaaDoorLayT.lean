/-
  The calls that the law on the layout makes, each with its answer as a natural number; the rows of names that it collects.
-/
import Derived.Test.YtdefhiblbahhnaaDoorLayL
import Derived.Test.YtdefhiblbahhnaaDoorLayW
import Derived.Test.YtdefhiblbahhnaaDoorDecS
import Derived.Test.YtdefhiblbahhnaaDoorTxt
import Derived.Deep.RegionHeld3
namespace Go.Proofs.YtdefhiblbahhnaaDoor
open Go.RowKit M
set_option linter.unusedVariables false
theorem same_i {P : Program} {f : FuncId} {vs : Array Value} {w : World} {x y : Int} (h : Calls P f vs w (Same w (.int .i64 x))) (e : x = y) : Calls P f vs w (Same w (.int .i64 y)) := by subst e; exact h
theorem gives_s {P : Program} {f : FuncId} {vs : Array Value} {w : World} {x y : ByteArray} (h : Calls P f vs w (Gives (.string x) w)) (e : x = y) : Calls P f vs w (Gives (.string y) w) := by subst e; exact h
theorem cIn (W : World) (i : Nat) (h : i < 2) : Calls Tryd.prog 7 #[.int .i64 i] W (Same W (.int .i64 ((1 + i : Nat) : Int))) :=
  same_i (iIn_any _ W) (by rw [inV_yes (by omega)]; omega)
theorem cKey (W : World) (s : Nat) (hs : s < 4) : Calls Tryd.prog 8 #[.int .i64 s] W (Same W (.int .i64 ((3 + s : Nat) : Int))) :=
  same_i (iKey_any _ W) (by rw [keyV_yes (by omega)]; omega)
theorem cBase (W : World) (b s : Nat) (hb : b < 2) (hs : s < 4) : Calls Tryd.prog 17 #[.int .i64 b, .int .i64 s] W (Same W (.int .i64 ((7 + 32 * b + 8 * s : Nat) : Int))) :=
  same_i (iBase_any _ _ W) (by rw [cellV_yes (by omega) (by omega)]; omega)
theorem cStripe (W : World) (b s k : Nat) (hb : b < 2) (hs : s < 4) (hk : k < 2) (y : Nat) (hy : y = 7 + 32 * b + 8 * s + k) : Calls Tryd.prog 9 #[.int .i64 b, .int .i64 s, .int .i64 k] W (Same W (.int .i64 (y : Int))) :=
  same_i (iStripe_any _ _ _ W) (by rw [partV_yes (by omega), cellV_yes (by omega) (by omega)]; omega)
theorem cStamp (W : World) (b s : Nat) (hb : b < 2) (hs : s < 4) : Calls Tryd.prog 10 #[.int .i64 b, .int .i64 s] W (Same W (.int .i64 ((9 + 32 * b + 8 * s : Nat) : Int))) :=
  same_i (iStamp_any _ _ W) (by rw [cellV_yes (by omega) (by omega)]; omega)
theorem cGauge (W : World) (b s : Nat) (hb : b < 2) (hs : s < 4) : Calls Tryd.prog 11 #[.int .i64 b, .int .i64 s] W (Same W (.int .i64 ((10 + 32 * b + 8 * s : Nat) : Int))) :=
  same_i (iGauge_any _ _ W) (by rw [cellV_yes (by omega) (by omega)]; omega)
theorem cTicket (W : World) (b s : Nat) (hb : b < 2) (hs : s < 4) : Calls Tryd.prog 12 #[.int .i64 b, .int .i64 s] W (Same W (.int .i64 ((11 + 32 * b + 8 * s : Nat) : Int))) :=
  same_i (iTicket_any _ _ W) (by rw [cellV_yes (by omega) (by omega)]; omega)
theorem cRing (W : World) (b s k : Nat) (hb : b < 2) (hs : s < 4) (hk : k < 3) : Calls Tryd.prog 13 #[.int .i64 b, .int .i64 s, .int .i64 k] W (Same W (.int .i64 ((12 + 32 * b + 8 * s + k : Nat) : Int))) :=
  same_i (iRing_any _ _ _ W) (by rw [partV_yes (by omega), cellV_yes (by omega) (by omega)]; omega)
/-- The names of the first j cells of a list. -/
def namesT (L : List Nat) (j : Nat) : List ByteArray := (L.take j).map fun n : Nat => nameV n
theorem namesT_len (L : List Nat) (j : Nat) (h : j ≤ L.length) : (namesT L j).length = j := by unfold namesT; rw [List.length_map, List.length_take]; omega
theorem namesT_at (L : List Nat) (j i : Nat) (h : j ≤ L.length) (hi : i < j) : (namesT L j).getD i ⟨#[]⟩ = nameV (L.getD i 0 : Nat) := by
  unfold namesT
  rw [List.getD_eq_getElem?_getD, List.getElem?_map, List.getElem?_take_of_lt hi, List.getD_eq_getElem?_getD, List.getElem?_eq_getElem (by omega)]; rfl
theorem namesT_next (L : List Nat) (j : Nat) (h : j < L.length) : namesT L j ++ [nameV (L.getD j 0 : Nat)] = namesT L (j + 1) := by
  unfold namesT
  rw [List.take_succ_eq_append_getElem h, List.map_append, List.getD_eq_getElem?_getD, List.getElem?_eq_getElem h]; rfl
/-- No two names of the list's first n are one. -/
def Differ (L : List Nat) (n : Nat) : Prop := n ≤ L.length ∧ ∀ j, j < n → L.getD j 0 < 71 ∧ ∀ i, i < j → nameV (L.getD i 0 : Nat) ≠ nameV (L.getD j 0 : Nat)
theorem Differ.text {L : List Nat} {n j : Nat} (h : Differ L n) (hj : j < n) : ∀ i, i < (namesT L j).length → (namesT L j).getD i ⟨#[]⟩ ≠ nameV (L.getD j 0 : Nat) := fun i hi => by
  have hl := h.1
  rw [namesT_len L j (by omega)] at hi
  rw [namesT_at L j i (by omega) hi]
  exact (h.2 j hj).2 i hi
theorem differ_lay {b s k : Nat} (hb : b < 2) (hs : s < 4) (hk : k < 3) : Differ (layL b s k) 10 :=
  ⟨Nat.le_refl _, fun j hj => ⟨lay_bd hb hs hk hj, fun i hi => lay_ne hb hs hk hi hj⟩⟩
theorem range_getD {j : Nat} (h : j < 71) : (List.range 71).getD j 0 = j := by
  rw [List.getD_eq_getElem?_getD, List.getElem?_eq_getElem (by simpa using h), List.getElem_range]; rfl
theorem differ_all : Differ (List.range 71) 71 :=
  ⟨by simp, fun j hj => ⟨by rw [range_getD hj]; exact hj, fun i hi => by rw [range_getD hj, range_getD (by omega)]; exact names_ne hi hj⟩⟩
/-- Cell j of a row of cells' numbers. -/
theorem ints_nat {w : World} {g n c : Nat} {L : List Nat} (h : Ints w (.slice (some ⟨g, 0, none⟩) n c) (L.map fun x : Nat => (x : Int))) {j : Nat} (hj : j < n) : w.cell? ⟨g, j, none⟩ = some (.int .i64 ((L.getD j 0 : Nat) : Int)) := by
  obtain ⟨b, off, cap, e, _, _, _, h4⟩ := h
  injection e with e1 e2 _
  injection e1 with e1
  injection e1 with e1 e3 _
  subst e1; subst e3
  have := h4 j (by omega)
  rw [Nat.zero_add] at this
  rw [this, List.getD_eq_getElem?_getD, List.getElem?_map, List.getD_eq_getElem?_getD]
  rw [List.length_map] at e2
  rw [List.getElem?_eq_getElem (by omega)]; rfl
theorem ints_lt {w : World} {g n c : Nat} {zs : List Int} (h : Ints w (.slice (some ⟨g, 0, none⟩) n c) zs) : g < w.heap.size := by
  obtain ⟨b, off, cap, e, _, _, h3, _⟩ := h
  injection e with e1 e2 _
  injection e1 with e1
  injection e1 with e1 e3 _
  subst e1; exact h3
/-- What holds of each world in the law's last statement. -/
def LayHeld (wl : World) (g : Nat) (w : World) : Prop := Tab w ∧ Below wl.heap.size wl w ∧ g < w.heap.size
theorem layS_next {wl w1 w2 : World} {g i j k : Nat} {x y z : Value} (hb : Below w1.heap.size w1 w2) (h : w1.cell? ⟨g, i, none⟩ = some x ∧ w1.cell? ⟨g, j, none⟩ = some y ∧ w1.cell? ⟨g, k, none⟩ = some z ∧ LayHeld wl g w1) :
    w2.cell? ⟨g, i, none⟩ = some x ∧ w2.cell? ⟨g, j, none⟩ = some y ∧ w2.cell? ⟨g, k, none⟩ = some z ∧ LayHeld wl g w2 := by
  obtain ⟨h1, h2, h3, h4, h5, h6⟩ := h
  exact ⟨(hb.cell (p := ⟨g, i, none⟩) h6).trans h1, (hb.cell (p := ⟨g, j, none⟩) h6).trans h2, (hb.cell (p := ⟨g, k, none⟩) h6).trans h3, h4.below hb, h5.trans (hb.mono h5.size), Nat.lt_of_lt_of_le h6 hb.size⟩
theorem layS_tab {wl w : World} {g : Nat} {p q r : Prop} (h : p ∧ q ∧ r ∧ LayHeld wl g w) : Tab w := h.2.2.2.1
theorem layS_bel {wl w : World} {g : Nat} {p q r : Prop} (h : p ∧ q ∧ r ∧ LayHeld wl g w) : Below wl.heap.size wl w := h.2.2.2.2.1
end Go.Proofs.YtdefhiblbahhnaaDoor

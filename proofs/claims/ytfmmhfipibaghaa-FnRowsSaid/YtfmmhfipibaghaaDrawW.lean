/-
  Drawing a text of a list, told in less: some text of the list; nothing but the cursor's block is turned. A draw behind a new cursor, told of the world ahead of it.
-/
import Derived.Test.YtfmmhfipibaghaaSome
import Derived.Test.YtfmmhfipibaghaaTxt
namespace Go.Proofs.Ytfmmhfipibaghaa
open Go.RowKit M
set_option linter.unusedVariables false
def SomeT (w : World) (g : Nat) (K : Code) (P : ByteArray → Prop) (e : Ending) (w' : World) : Prop := ∃ x s, P x ∧ e = .returned (.string x) ∧ Cur w' g K s ∧ w.grownBy w' (some g)
theorem rowT_cells (w : World) (ls : List ByteArray) (cs : Array Value) (h : cs = (ls.map Value.string).toArray) : ∀ j, j < ls.length → (w.alloc (.cells cs 9)).cell? ⟨w.heap.size, j, none⟩ = some (.string (ls.getD j ⟨#[]⟩)) := by
  subst h
  intro j hj
  have e := heap_alloc_new w (.cells (ls.map Value.string).toArray 9)
  rw [cell_of_row _ _ j _ _ _ e, List.getElem?_toArray, List.getElem?_map, List.getElem?_eq_getElem hj, List.getD_eq_getElem?_getD, List.getElem?_eq_getElem hj]
  rfl
theorem pickT_at (w : World) (g : Nat) (K : Code) (s : St) (c : Cur w g K s) (b : Nat) (hb : b ≠ g) (ls : List ByteArray) (n : Nat) (hn : ls.length = n) (hn0 : 0 < n) (hn1 : n ≤ 1000000)
    (hc : ∀ j, j < n → w.cell? ⟨b, j, none⟩ = some (.string (ls.getD j ⟨#[]⟩))) :
    Calls Try.prog 54 #[.pointer (some ⟨g, 0, none⟩), .slice (some ⟨b, 0, none⟩) n n] w (SomeT w g K fun x => x ∈ ls) := by
  have HB := Lib.hid (below_any w g K n s c (by omega))
  obtain ⟨v0, v1⟩ := belowV_bd K n s (by omega)
  generalize belowV K n s = v at *
  obtain ⟨m, rfl⟩ := Int.eq_ofNat_of_zero_le v0
  have hm : m < n := by omega
  have HC := Lib.hid (hc m hm)
  have HM := Lib.hid (show ls.getD m ⟨#[]⟩ ∈ ls by rw [List.getD_eq_getElem?_getD, List.getElem?_eq_getElem (by omega)]; exact List.getElem_mem _)
  have hne : some (Addr.mk b m none).block ≠ some g := by intro h; exact hb (by injection h)
  generalize ls.getD m ⟨#[]⟩ = x at *
  clear c hc
  go_enter Try.func54, Try.ntmps54
  go_wp2_with fail
  refine HB.out.mono ?_
  rintro e w1 ⟨rfl, hc1, hg1⟩
  have hcell := hg1.cell HC.out hne
  have C1 := Lib.hid hc1
  have G1 := Lib.hid hg1
  clear hc1 hg1
  go_wp2_with fail
  go_ret
  exact ⟨x, _, HM.out, rfl, C1.out, G1.out⟩
theorem pickT_some (w : World) (g : Nat) (K : Code) (s : St) (c : Cur w g K s) (ls : List ByteArray) (n : Nat) (hn : ls.length = n) (hn0 : 0 < n) (hn1 : n ≤ 1000000) (cs : Array Value) (hcs : cs = (ls.map Value.string).toArray) :
    Calls Try.prog 54 #[.pointer (some ⟨g, 0, none⟩), .slice (some ⟨w.heap.size, 0, none⟩) n n] (w.alloc (.cells cs 9)) (SomeT w g K fun x => x ∈ ls) := by
  refine (pickT_at (w.alloc (.cells cs 9)) g K s (c.alloc _) w.heap.size (by have := c.lt; omega) ls n hn hn0 hn1 (by rw [← hn]; exact rowT_cells w ls cs hcs)).mono ?_
  rintro e w' ⟨x, s', h1, h2, h3, h4⟩
  exact ⟨x, s', h1, h2, h3, grown_trans (World.grownBy_alloc _ _ _) h4⟩
theorem behind {w w1 w2 : World} {g : Nat} (hg : w.heap.size ≤ g) (h1 : Below w.heap.size w w1) (h2 : w1.grownBy w2 (some g)) : Below w.heap.size w w2 :=
  h1.grown h2 h1.size (by intro k hk; injection hk with hk; omega)
end Go.Proofs.Ytfmmhfipibaghaa

/-
  Drawing a yes or no, and a number of a list: by the cursor's state and the code alone.
-/
import Derived.Test.YtfmmhfipibaghaaDraw
namespace Go.Proofs.Ytfmmhfipibaghaa
open Go.RowKit M
set_option linter.unusedVariables false
theorem Cur.kept {w w' : World} {g : Nat} {K : Code} {s : St} (c : Cur w g K s) (hg : w.grownBy w' none) : Cur w' g K s := by
  obtain ⟨h1, h2, h3⟩ := c
  have hlt : g < w.heap.size := by
    rcases Nat.lt_or_ge g w.heap.size with h | h
    · exact h
    · rw [Array.getElem?_eq_none h] at h1; cases h1
  refine ⟨(hg.block g hlt (by intro h; cases h)).trans h1, ⟨h2.1, fun h => ?_⟩, h3⟩
  obtain ⟨b, off, e, hb, hc⟩ := h2.2 h
  exact ⟨b, off, e, hb, fun j hj => ⟨hg.cell (hc j hj).1 (by intro h; cases h), (hc j hj).2⟩⟩
theorem Cur.alloc {w : World} {g : Nat} {K : Code} {s : St} (c : Cur w g K s) (o : Obj) : Cur (w.alloc o) g K s := c.kept (World.grownBy_alloc w o none)
theorem Cur.lt {w : World} {g : Nat} {K : Code} {s : St} (c : Cur w g K s) : g < w.heap.size := by
  rcases Nat.lt_or_ge g w.heap.size with h | h
  · exact h
  · have h1 := c.1; rw [Array.getElem?_eq_none h] at h1; cases h1
theorem once_any (w : World) (g : Nat) (K : Code) (n : Int) (s : St) (c : Cur w g K s) (h1 : n ≤ 4611686018427387904) :
    Calls Try.prog 33 #[.pointer (some ⟨g, 0, none⟩), .int .i64 n] w (Drawn w g K (.bool (belowV K n s == 0)) (belowS K n s)) := by
  have HB := Lib.hid (below_any w g K n s c h1)
  clear c h1
  go_enter Try.func33, Try.ntmps33
  go_wp2_with fail
  refine HB.out.mono ?_
  rintro e w1 ⟨rfl, hc1, hg1⟩
  have C1 := Lib.hid hc1
  have G1 := Lib.hid hg1
  clear hc1 hg1
  go_wp2_with fail
  go_ret
  exact ⟨rfl, C1.out, G1.out⟩
theorem pick_any (w : World) (g : Nat) (K : Code) (s : St) (c : Cur w g K s) (b : Nat) (hb : b ≠ g) (ls : List Int) (n : Nat) (hn : ls.length = n) (hn0 : 0 < n) (hn1 : n ≤ 1000000)
    (hc : ∀ j, j < n → w.cell? ⟨b, j, none⟩ = some (.int .i64 (ls.getD j 0))) :
    Calls Try.prog 36 #[.pointer (some ⟨g, 0, none⟩), .slice (some ⟨b, 0, none⟩) n n] w (Drawn w g K (.int .i64 (ls.getD (belowV K n s).toNat 0)) (belowS K n s)) := by
  have HB := Lib.hid (below_any w g K n s c (by omega))
  obtain ⟨v0, v1⟩ := belowV_bd K n s (by omega)
  generalize hv : belowV K n s = v at *
  have HV := Lib.hid hv
  clear hv
  obtain ⟨m, rfl⟩ := Int.eq_ofNat_of_zero_le v0
  have hm : m < n := by omega
  have HC := Lib.hid (hc m hm)
  have hne : some (Addr.mk b m none).block ≠ some g := by intro h; exact hb (by injection h)
  clear c hc
  go_enter Try.func36, Try.ntmps36
  go_wp2_with fail
  refine HB.out.mono ?_
  rintro e w1 ⟨rfl, hc1, hg1⟩
  have hcell := hg1.cell HC.out hne
  have C1 := Lib.hid hc1
  have G1 := Lib.hid hg1
  clear hc1 hg1
  go_wp2_with fail
  go_ret
  exact ⟨ret_int (by simp [List.getElem?_eq_getElem (show m < ls.length by omega)]), C1.out, G1.out⟩
end Go.Proofs.Ytfmmhfipibaghaa

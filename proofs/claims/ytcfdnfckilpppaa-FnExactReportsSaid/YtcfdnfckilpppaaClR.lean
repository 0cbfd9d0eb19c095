/-
  slices.Clone of a slice of report rows that reads as so many cells, nil too.
-/
import Derived.Test.YtcfdnfckilpppaaQuR
import Derived.Test.YtcfdnfckilpppaaZd
import Derived.Test.YtcfdnfckilpppaaZc
namespace Go.Proofs.Ytcfdnfckilpppaa
open Go.RowKit M
set_option linter.unusedVariables false
set_option linter.unusedSimpArgs false
theorem own_below {w w' : World} {B : Nat} {t : TypeId} {F n : Nat} {v : Value} {cs : List Value} (h : w.ownsRow B t F v n cs) (hb : Below w.heap.size w w') : w'.ownsRow B t F v n cs :=
  World.ownsRow.kept h (row := none) ⟨hb.os, hb.tape, hb.output, hb.size, fun i hi _ => hb.block i hi⟩ (by cases v.ownBlock <;> simp)
/-- A call answers a new row of so many cells. -/
def MadeRow (t : TypeId) (F : Nat) (w : World) (m : Nat) (cs : List Value) (e : Ending) (w' : World) : Prop := ∃ v, e = .returned v ∧ w'.ownsRow w.heap.size t F v m cs ∧ Below w.heap.size w w'
theorem Rd.shape {w : World} {S : Nat → Prop} {u : Value} {n : Nat} {cs : List Value} (h : Rd w S u n cs) : ∃ A cap, u = .slice A n cap := by
  rcases h with ⟨e, h0, _⟩ | ⟨b, off, cap, e, _⟩
  · subst h0; exact ⟨none, 0, e⟩
  · exact ⟨_, cap, e⟩
set_option maxRecDepth 100000 in
set_option maxHeartbeats 4000000 in
theorem iClRow_rd (w : World) (S : Nat → Prop) (v : Value) (m : Nat) (cs : List Value) (h : Rd w S v m cs) (hl : m ≤ 1048576) (hc : cs.length = m * 10) (h1 : ∀ u ∈ cs, u.oneCell' = true) : Calls Try.prog 31 #[v] w (MadeRow 62 10 w m cs) := by
  obtain ⟨i0, hi, hz0, hz1, hz2⟩ := info_parts info_row
  have h' := h
  rcases h with ⟨rfl, rfl, rfl⟩ | ⟨b, off, cap, rfl, hcn, hcm, hS, hb, hcc⟩
  · have hnil : ∀ (w : World), (binOp .eql 54 (.slice none 0 0) (.slice none 0 0)).run Try.prog w = .ok (.bool true) w := fun w => Lib.run_eql_slice_nil w _ _ none 0 0 0 0 Try.underlying54
    clear h' hl hi hz0 hz1 hz2 hc h1
    go_enter Try.func31, Try.ntmps31
    go_wp2_with fail
    go_ret
    exact ⟨_, rfl, ⟨rfl, .inl ⟨rfl, rfl⟩⟩, Below.refl _ _⟩
  · have HO := Lib.hid (h'.below (below_oneL w (.cells #[] 62)))
    have hnil : ∀ (w : World), (binOp .eql 54 (.slice (some ⟨b, off, none⟩) m cap) (.slice none 0 0)).run Try.prog w = .ok (.bool false) w := fun w => Lib.run_eql_slice_nil w _ _ (some ⟨b, off, none⟩) m cap 0 0 Try.underlying54
    have HC := Lib.hid hc
    clear h' hS hb hcc hc
    go_enter Try.func31, Try.ntmps31
    go_wp2_with (at_builtin; refine wpList_append_rd rfl _ _ 54 rfl w.heap.size 62 i0 zeroR.v 10 88 Try.underlying54 hi hz0 hz1 hz2 rfl (by decide) _ rfl (World.ownsRow_made w #[] 0 (Nat.le_refl _) (Nat.zero_le _) rfl) S m _ cs rfl HO.out ?qc1 ?qc2 ?qc3 ?qc4 ?qc5 ?_)
    case qc1 => exact HC.out
    case qc2 => exact h1
    case qc3 => unfold maxLen; omega
    case qc4 => omega
    case qc5 => simp
    intro v' w1 hown hgrow
    have HV := Lib.hid hown
    have HG := Lib.hid hgrow
    clear hown hgrow hnil hi hz0 hz1 hz2
    go_wp2
    go_ret
    have hb : Below w.heap.size w w1 := ((Below.refl _ w).alloc (Nat.le_refl _) _).grown HG.out (by simp) (by intro k hk; simp [Value.ownBlock] at hk; omega)
    exact ⟨v', rfl, HV.out, hb⟩
end Go.Proofs.Ytcfdnfckilpppaa

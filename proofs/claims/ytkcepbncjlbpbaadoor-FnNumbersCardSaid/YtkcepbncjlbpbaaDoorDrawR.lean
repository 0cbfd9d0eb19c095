/-
  Drawing a number, a text, and a varint with a tail, spoilt now and then: each follows from the code alone, and nothing that was there is turned.
-/
import Derived.Test.YtkcepbncjlbpbaaDoorDrawC
import Derived.Test.YtkcepbncjlbpbaaDoorDrawP
import Derived.Test.YtkcepbncjlbpbaaDoorVar
namespace Go.Proofs.YtkcepbncjlbpbaaDoor
open Go.RowKit M
set_option linter.unusedVariables false
/-- A draw behind a new cursor, told of the world ahead of the cursor. -/
theorem new_then {w w1 w2 : World} {g : Nat} (hg : w.heap.size ≤ g) (h1 : Below w.heap.size w w1) (h2 : w1.grownBy w2 (some g)) : Below w.heap.size w w2 :=
  h1.grown h2 h1.size (by intro k hk; injection hk with hk; omega)
def drawVarV (K : Code) : Int := numV K (newS K)
def drawHexV (K : Code) : ByteArray := textV K 40 (newS K)
def varB (n : Int) : ByteArray := if 0 ≤ n ∧ n ≤ 562949953421311 then vbs n.toNat else ⟨#[]⟩
theorem vbs_size (n : Nat) : 1 ≤ (vbs n).size ∧ (vbs n).size ≤ 7 := by
  have := vb_le 6 n
  simp only [vbs, ByteArray.size, List.size_toArray]; omega
theorem varB_size (n : Int) : (varB n).size ≤ 7 := by
  unfold varB
  split
  · exact (vbs_size _).2
  · simp [ByteArray.size]
theorem sVar_any (n : Int) (w : World) : Calls Tryd.prog 26 #[.int .i64 n] w fun e w' => e = .returned (.string (varB n)) ∧ Below w.heap.size w w' := by
  by_cases h : 0 ≤ n ∧ n ≤ 562949953421311
  · obtain ⟨m, rfl⟩ := Int.eq_ofNat_of_zero_le h.1
    have e : varB (m : Int) = vbs m := by unfold varB; rw [if_pos h, Int.toNat_natCast]
    rw [e]
    exact sVar_good m w (by omega)
  · have e : varB n = ⟨#[]⟩ := if_neg h
    rw [e]
    exact (sVar_bad n w (by omega)).mono fun e w' ⟨a, b⟩ => ⟨a, by rw [b]; exact Below.refl _ _⟩
theorem Cur.below {w w' : World} {g : Nat} {K : Code} {s : St} (c : Cur w g K s) (hb : Below w.heap.size w w') : Cur w' g K s :=
  c.kept ⟨hb.os, hb.tape, hb.output, hb.size, fun i hi _ => hb.block i hi⟩
theorem grown_below {a w w' : World} {g : Nat} (h : a.grownBy w (some g)) (hb : Below w.heap.size w w') : a.grownBy w' (some g) :=
  ⟨hb.os.trans h.os, hb.tape.trans h.tape, hb.output.trans h.output, Nat.le_trans h.size hb.size, fun i hi hn => (hb.block i (Nat.lt_of_lt_of_le hi h.size)).trans (h.block i hi hn)⟩
theorem drawVar_any (w : World) (K : Code) (hk : CodeIn w K) (hl : K.len ≤ 1048576) :
    Calls Tryd.prog 7 #[.slice K.A K.len K.cap] w fun e w' => e = .returned (.int .i64 (drawVarV K)) ∧ Below w.heap.size w w' := by
  have HN := Lib.hid (new_any w K hk hl)
  clear hk hl
  go_enter Tryd.func7, Tryd.ntmps7
  go_wp2_with fail
  refine HN.out.mono ?_
  rintro e w1 ⟨g, rfl, hg, hc, hb⟩
  have H1 := Lib.hid (num_any w1 g K _ hc)
  have HB := Lib.hid (fun w2 h2 => new_then (w2 := w2) hg hb h2)
  clear hc hb hg
  go_wp2_with fail
  refine H1.out.mono ?_
  rintro e w2 ⟨rfl, hc2, hg2⟩
  have HB2 := Lib.hid (HB.out w2 hg2)
  clear hc2 hg2
  go_wp2_with fail
  go_ret
  exact ⟨rfl, HB2.out⟩
theorem drawHex_any (w : World) (K : Code) (hk : CodeIn w K) (hl : K.len ≤ 1048576) :
    Calls Tryd.prog 8 #[.slice K.A K.len K.cap] w fun e w' => e = .returned (.string (drawHexV K)) ∧ Below w.heap.size w w' := by
  have HN := Lib.hid (new_any w K hk hl)
  clear hk hl
  go_enter Tryd.func8, Tryd.ntmps8
  go_wp2_with fail
  refine HN.out.mono ?_
  rintro e w1 ⟨g, rfl, hg, hc, hb⟩
  have H1 := Lib.hid (text_any w1 g K 40 _ hc (by decide) (by decide))
  have HB := Lib.hid (fun w2 h2 => new_then (w2 := w2) hg hb h2)
  clear hc hb hg
  go_wp2_with fail
  refine H1.out.mono ?_
  rintro e w2 ⟨rfl, hc2, hg2⟩
  have HB2 := Lib.hid (HB.out w2 hg2)
  clear hc2 hg2
  go_wp2_with fail
  go_ret
  exact ⟨rfl, HB2.out⟩
def rvT (K : Code) : ByteArray := varB (numV K (newS K)) ++ textV K 4 (numS K (newS K))
def rvS (K : Code) : St := textS K 4 (numS K (newS K))
def drawReadVarV (K : Code) : ByteArray := if belowV K 4 (rvS K) = 0 then spoilV K (rvT K) (belowS K 4 (rvS K)) else rvT K
theorem rvT_size (K : Code) : (rvT K).size ≤ 11 := by
  have h1 := varB_size (numV K (newS K))
  have h2 := textN_le K 4 (numS K (newS K)) (by decide)
  have h3 := textV_size K 4 (numS K (newS K))
  unfold rvT
  rw [ByteArray.size_append]; omega
set_option maxRecDepth 100000 in
theorem drawReadVar_any (w : World) (K : Code) (hk : CodeIn w K) (hl : K.len ≤ 1048576) :
    Calls Tryd.prog 17 #[.slice K.A K.len K.cap] w fun e w' => e = .returned (.string (drawReadVarV K)) ∧ Below w.heap.size w w' := by
  have HN := Lib.hid (new_any w K hk hl)
  have z1 := varB_size (numV K (newS K))
  have z2 : (textV K 4 (numS K (newS K))).size ≤ 4 := by
    have h2 := textN_le K 4 (numS K (newS K)) (by decide)
    rw [textV_size]; omega
  clear hk hl
  go_enter Tryd.func17, Tryd.ntmps17
  go_wp2_with fail
  refine HN.out.mono ?_
  rintro e w1 ⟨g, rfl, hg, hc, hb⟩
  have H1 := Lib.hid (num_any w1 g K _ hc)
  have HB := Lib.hid (fun w2 h2 => new_then (w2 := w2) hg hb h2)
  clear hc hb hg
  go_wp2_with fail
  refine H1.out.mono ?_
  rintro e w2 ⟨rfl, hc2, hg2⟩
  have C2 := Lib.hid hc2
  have G2 := Lib.hid hg2
  clear hc2 hg2
  go_wp2_with fail
  refine (sVar_any _ _).mono ?_
  rintro e w3 ⟨rfl, hb3⟩
  have H3 := Lib.hid (text_any w3 g K 4 _ (C2.out.below hb3) (by decide) (by decide))
  have G3 := Lib.hid (grown_below G2.out hb3)
  clear hb3
  go_wp2_with fail
  refine H3.out.mono ?_
  rintro e w4 ⟨rfl, hc4, hg4⟩
  have H4 : Hid (Calls Tryd.prog 27 #[.pointer (some ⟨g, 0, none⟩), .int .i64 4] w4 (Drawn w4 g K (.bool (belowV K 4 (rvS K) == 0)) (belowS K 4 (rvS K)))) := once_any w4 g K 4 _ hc4 (by decide)
  have G4 := Lib.hid (grown_trans G3.out hg4)
  clear hc4 hg4
  have hT : varB (numV K (newS K)) ++ textV K 4 (numS K (newS K)) = rvT K := rfl
  go_wp2_with fail
  refine H4.out.mono ?_
  rintro e w5 ⟨rfl, hc5, hg5⟩
  have H5 := Lib.hid (spoil_any w5 g K (rvT K) _ hc5 (by have := rvT_size K; omega))
  have G5 := Lib.hid (grown_trans G4.out hg5)
  clear hc5 hg5 hT
  by_cases h0 : belowV K 4 (rvS K) = 0
  · have HV := Lib.hid (show drawReadVarV K = spoilV K (rvT K) (belowS K 4 (rvS K)) from if_pos h0)
    have ht : (belowV K 4 (rvS K) == 0) = true := by simpa using h0
    clear h0
    go_wp2_with fail
    refine H5.out.mono ?_
    rintro e w6 ⟨rfl, hc6, hg6⟩
    have HB6 := Lib.hid (HB.out w6 (grown_trans G5.out hg6))
    clear hc6 hg6
    go_wp2_with fail
    go_ret
    exact ⟨ret_str HV.out.symm, HB6.out⟩
  · have HV := Lib.hid (show drawReadVarV K = rvT K from if_neg h0)
    have ht : (belowV K 4 (rvS K) == 0) = false := by simpa using h0
    have HB5 := Lib.hid (HB.out w5 G5.out)
    clear h0
    go_wp2_with fail
    go_ret
    exact ⟨ret_str HV.out.symm, HB5.out⟩
end Go.Proofs.YtkcepbncjlbpbaaDoor

/-
  Drawing from a code: each function answers by its cursor's state and the code alone, and turns nothing but its cursor's block.
-/
import Derived.Test.YtfmmhfipibaghaaCur
import Derived.Test.YtfmmhfipibaghaaCode
namespace Go.Proofs.Ytfmmhfipibaghaa
open Go.RowKit M
set_option linter.unusedVariables false
/-- A cursor's state: the place and the mixed number. -/
abbrev St := Nat × Int
def Cur (w : World) (g : Nat) (K : Code) (s : St) : Prop := CurAt w g K.A K.len K.cap K.zs s.1 s.2
/-- What a draw leaves: the answer, the cursor in its next state, and all else that was there. -/
def Drawn (w : World) (g : Nat) (K : Code) (v : Value) (s : St) (e : Ending) (w' : World) : Prop := e = .returned v ∧ Cur w' g K s ∧ w.grownBy w' (some g)
def byteS (K : Code) (s : St) : St := (drawI K.len s.1, nextH s.2)
def byteV (K : Code) (s : St) : Int := drawB K.len K.zs s.1 s.2
theorem byteV_bd (K : Code) (s : St) : 0 ≤ byteV K s ∧ byteV K s ≤ 255 := drawB_bd _ _ _ _
theorem byte_any (w : World) (g : Nat) (K : Code) (s : St) (c : Cur w g K s) :
    Calls Try.prog 50 #[.pointer (some ⟨g, 0, none⟩)] w (Drawn w g K (.int .i64 (byteV K s)) (byteS K s)) := l1Byte_any w g K.len K.cap s.1 K.A K.zs s.2 c
def belowV (K : Code) (n : Int) (s : St) : Int :=
  if n ≤ 0 then 0 else if n ≤ 256 then byteV K s % n
  else (byteV K s * 16777216 + byteV K (byteS K s) * 65536 + byteV K (byteS K (byteS K s)) * 256 + byteV K (byteS K (byteS K (byteS K s)))) % n
def belowS (K : Code) (n : Int) (s : St) : St := if n ≤ 0 then s else if n ≤ 256 then byteS K s else byteS K (byteS K (byteS K (byteS K s)))
theorem belowV_bd (K : Code) (n : Int) (s : St) (h : 0 < n) : 0 ≤ belowV K n s ∧ belowV K n s < n := by
  unfold belowV
  rw [if_neg (by omega)]
  split
  · exact ⟨Int.emod_nonneg _ (by omega), Int.emod_lt_of_pos _ h⟩
  · exact ⟨Int.emod_nonneg _ (by omega), Int.emod_lt_of_pos _ h⟩
theorem Drawn.mono {w w1 w2 : World} {g : Nat} {K : Code} {s : St} (h1 : w.grownBy w1 (some g)) (h2 : w1.grownBy w2 (some g)) : w.grownBy w2 (some g) := grown_trans h1 h2
set_option maxRecDepth 100000 in
theorem below_any (w : World) (g : Nat) (K : Code) (n : Int) (s : St) (c : Cur w g K s) (h1 : n ≤ 4611686018427387904) :
    Calls Try.prog 34 #[.pointer (some ⟨g, 0, none⟩), .int .i64 n] w (Drawn w g K (.int .i64 (belowV K n s)) (belowS K n s)) := by
  by_cases n0 : n ≤ 0
  · have HV := Lib.hid (show belowV K n s = 0 from if_pos n0)
    have HS := Lib.hid (show belowS K n s = s from if_pos n0)
    have C := Lib.hid c
    clear c
    go_enter Try.func34, Try.ntmps34
    go_wp2
    go_ret
    exact ⟨ret_int HV.out.symm, by rw [HS.out]; exact C.out, World.grownBy.refl _ _⟩
  · by_cases n1 : n ≤ 256
    · have HV := Lib.hid (show belowV K n s = byteV K s % n by unfold belowV; rw [if_neg n0, if_pos n1])
      have HS := Lib.hid (show belowS K n s = byteS K s by unfold belowS; rw [if_neg n0, if_pos n1])
      obtain ⟨b0, b1⟩ := byteV_bd K s
      have HB := Lib.hid (byte_any w g K s c)
      clear c
      go_enter Try.func34, Try.ntmps34
      go_wp2_with (go_at_call 50; refine HB.out.mono ?_; rintro e w1 ⟨rfl, hc1, hg1⟩; have C1 := Lib.hid hc1; have G1 := Lib.hid hg1; clear hc1 hg1)
      go_ret
      exact ⟨ret_int HV.out.symm, by rw [HS.out]; exact C1.out, G1.out⟩
    · have HV := Lib.hid (show belowV K n s = (byteV K s * 16777216 + byteV K (byteS K s) * 65536 + byteV K (byteS K (byteS K s)) * 256 + byteV K (byteS K (byteS K (byteS K s)))) % n by unfold belowV; rw [if_neg n0, if_neg n1])
      have HS := Lib.hid (show belowS K n s = byteS K (byteS K (byteS K (byteS K s))) by unfold belowS; rw [if_neg n0, if_neg n1])
      obtain ⟨b0, b1⟩ := byteV_bd K s
      obtain ⟨b2, b3⟩ := byteV_bd K (byteS K s)
      obtain ⟨b4, b5⟩ := byteV_bd K (byteS K (byteS K s))
      obtain ⟨b6, b7⟩ := byteV_bd K (byteS K (byteS K (byteS K s)))
      have HB := Lib.hid (byte_any w g K s c)
      clear c
      go_enter Try.func34, Try.ntmps34
      go_wp2_with fail
      refine HB.out.mono ?_
      rintro e w1 ⟨rfl, hc1, hg1⟩
      have HB1 := Lib.hid (byte_any w1 g K _ hc1)
      have G1 := Lib.hid hg1
      clear hc1 hg1
      go_wp2_with fail
      refine HB1.out.mono ?_
      rintro e w2 ⟨rfl, hc2, hg2⟩
      have HB2 := Lib.hid (byte_any w2 g K _ hc2)
      have G2 := Lib.hid hg2
      clear hc2 hg2
      go_wp2_with fail
      refine HB2.out.mono ?_
      rintro e w3 ⟨rfl, hc3, hg3⟩
      have HB3 := Lib.hid (byte_any w3 g K _ hc3)
      have G3 := Lib.hid hg3
      clear hc3 hg3
      go_wp2_with fail
      refine HB3.out.mono ?_
      rintro e w4 ⟨rfl, hc4, hg4⟩
      have C4 := Lib.hid hc4
      have G4 := Lib.hid hg4
      clear hc4 hg4
      go_wp2_with fail
      go_ret
      exact ⟨ret_int HV.out.symm, by rw [HS.out]; exact C4.out, grown_trans (grown_trans (grown_trans G1.out G2.out) G3.out) G4.out⟩
end Go.Proofs.Ytfmmhfipibaghaa

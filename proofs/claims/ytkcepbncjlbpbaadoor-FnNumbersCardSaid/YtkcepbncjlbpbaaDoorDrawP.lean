/-
  Spoiling a string: by the cursor's state, the code and the string alone.
-/
import Derived.Test.YtkcepbncjlbpbaaDoorDrawT
import Derived.Test.YtkcepbncjlbpbaaDoorMathB
import Derived.Deep.RegionWith
import Derived.Deep.DrawnRows
namespace Go.Proofs.YtkcepbncjlbpbaaDoor
open Go.RowKit M
set_option linter.unusedVariables false
attribute [local go_sem ↓] Go.wp_at_zero Go.wp_at_succ
/-- The place at which a string is spoilt, and the state behind drawing it and the kind. -/
def spK (K : Code) (t : ByteArray) (s : St) : Nat := (belowV K t.size s).toNat
def spS (K : Code) (t : ByteArray) (s : St) : St := belowS K 4 (belowS K t.size s)
def sp4 (K : Code) (t : ByteArray) (s : St) : Int := belowV K 4 (belowS K t.size s)
def byte1 (n : Int) : ByteArray := ⟨#[UInt8.ofNat n.toNat]⟩
def xorB (K : Code) (t : ByteArray) (s : St) : Int := bits .xor .i64 ((t.data.toList.getD (spK K t s) 0).toNat : Int) (1 + belowV K 255 (spS K t s)) % 256
def spoilV (K : Code) (t : ByteArray) (s : St) : ByteArray :=
  if t.size = 0 then textV K 3 s
  else if sp4 K t s = 0 then t.extract 0 (spK K t s) ++ t.extract (spK K t s + 1) t.size
  else if sp4 K t s = 1 then t.extract 0 (spK K t s) ++ byte1 (byteV K (spS K t s)) ++ t.extract (spK K t s) t.size
  else if sp4 K t s = 2 then t.extract 0 (spK K t s)
  else t.extract 0 (spK K t s) ++ byte1 (xorB K t s) ++ t.extract (spK K t s + 1) t.size
def spoilS (K : Code) (t : ByteArray) (s : St) : St :=
  if t.size = 0 then textS K 3 s
  else if sp4 K t s = 0 then spS K t s
  else if sp4 K t s = 1 then byteS K (spS K t s)
  else if sp4 K t s = 2 then spS K t s
  else belowS K 255 (spS K t s)
theorem spK_lt (K : Code) (t : ByteArray) (s : St) (h : 0 < t.size) : spK K t s < t.size ∧ belowV K t.size s = (spK K t s : Int) := by
  have := belowV_bd K t.size s (by omega)
  unfold spK; omega
theorem grown_drew {a b : World} {row : Option Nat} (h : a.grownBy b row) : a.grownBy b.drew row := ⟨h.os, h.tape, h.output, h.size, h.block⟩
set_option maxRecDepth 100000 in
set_option maxHeartbeats 400000 in
theorem spoil_any (w : World) (g : Nat) (K : Code) (t : ByteArray) (s : St) (c : Cur w g K s) (h1 : t.size ≤ 1000000) :
    Calls Tryd.prog 28 #[.pointer (some ⟨g, 0, none⟩), .string t] w (Drawn w g K (.string (spoilV K t s)) (spoilS K t s)) := by
  by_cases hz : t.size = 0
  · have HV := Lib.hid (show spoilV K t s = textV K 3 s from if_pos hz)
    have HS := Lib.hid (show spoilS K t s = textS K 3 s from if_pos hz)
    have ht : ((t.size : Int) == 0) = true := by rw [beq_iff_eq]; omega
    have HT := Lib.hid (text_any w g K 3 s c (by decide) (by decide))
    clear hz c
    go_enter Tryd.func28, Tryd.ntmps28
    go_wp2_with fail
    refine HT.out.mono ?_
    rintro e w1 ⟨rfl, hc1, hg1⟩
    have C1 := Lib.hid hc1
    have G1 := Lib.hid hg1
    clear hc1 hg1
    go_wp2_with fail
    go_ret
    exact ⟨ret_str HV.out.symm, by rw [HS.out]; exact C1.out, G1.out⟩
  · have hp : 0 < t.size := by omega
    have ht : ((t.size : Int) == 0) = false := by rw [beq_eq_false_iff_ne]; omega
    obtain ⟨k1, k2⟩ := spK_lt K t s hp
    have HB := Lib.hid (below_any w g K t.size s c (by omega))
    rw [k2] at HB
    clear c
    have hwr : IntKind.i64.wrap ((spK K t s : Int) + 1) = (spK K t s : Int) + 1 := IntWalk.i64_in _ (by omega)
    have q0 : (0 : Int) ≤ (spK K t s : Int) + 1 := by omega
    have q1 : (spK K t s : Int) + 1 ≤ (t.size : Int) := by omega
    have q2 : (spK K t s : Int) < (t.size : Int) := by omega
    have q3 : (spK K t s : Int) ≤ (t.size : Int) := by omega
    have HW := Lib.hid hwr
    by_cases e0 : sp4 K t s = 0
    · have HV := Lib.hid (show spoilV K t s = t.extract 0 (spK K t s) ++ t.extract (spK K t s + 1) t.size by unfold spoilV; rw [if_neg hz, if_pos e0])
      have HS := Lib.hid (show spoilS K t s = spS K t s by unfold spoilS; rw [if_neg hz, if_pos e0])
      have t0 : (sp4 K t s == 0) = true := by simpa using e0
      generalize hkk : spK K t s = k at *
      have HKK := Lib.hid hkk
      clear hz k2 hwr hkk e0
      go_enter Tryd.func28, Tryd.ntmps28
      go_wp2_with fail
      refine HB.out.mono ?_
      rintro e w1 ⟨rfl, hc1, hg1⟩
      have HB2 : Hid (Calls Tryd.prog 29 #[.pointer (some ⟨g, 0, none⟩), .int .i64 4] w1 (Drawn w1 g K (.int .i64 (sp4 K t s)) (spS K t s))) := below_any w1 g K 4 _ hc1 (by decide)
      have G1 := Lib.hid hg1
      clear hc1 hg1
      go_wp2_with fail
      refine HB2.out.mono ?_
      rintro e w2 ⟨rfl, hc2, hg2⟩
      have C2 := Lib.hid hc2
      have G2 := Lib.hid hg2
      clear hc2 hg2
      go_wp2_with fail
      have hwr := HW.out
      go_quiet (fail)
      clear hwr
      go_wp2_with fail
      go_ret
      exact ⟨ret_str HV.out.symm, by rw [HS.out]; exact C2.out, grown_drewN (grown_trans G1.out G2.out) _⟩
    · have t0 : (sp4 K t s == 0) = false := by simpa using e0
      by_cases e1 : sp4 K t s = 1
      · have HV := Lib.hid (show spoilV K t s = t.extract 0 (spK K t s) ++ byte1 (byteV K (spS K t s)) ++ t.extract (spK K t s) t.size by unfold spoilV; rw [if_neg hz, if_neg e0, if_pos e1])
        have HS := Lib.hid (show spoilS K t s = byteS K (spS K t s) by unfold spoilS; rw [if_neg hz, if_neg e0, if_pos e1])
        have t1 : (sp4 K t s == 1) = true := by simpa using e1
        obtain ⟨b0, b1⟩ := byteV_bd K (spS K t s)
        have hcv := conv_one
        generalize hkk : spK K t s = k at *
        have HKK := Lib.hid hkk
        clear hz k2 hwr hkk e0 e1
        go_enter Tryd.func28, Tryd.ntmps28
        go_wp2_with fail
        refine HB.out.mono ?_
        rintro e w1 ⟨rfl, hc1, hg1⟩
        have HB2 : Hid (Calls Tryd.prog 29 #[.pointer (some ⟨g, 0, none⟩), .int .i64 4] w1 (Drawn w1 g K (.int .i64 (sp4 K t s)) (spS K t s))) := below_any w1 g K 4 _ hc1 (by decide)
        have G1 := Lib.hid hg1
        clear hc1 hg1
        go_wp2_with fail
        refine HB2.out.mono ?_
        rintro e w2 ⟨rfl, hc2, hg2⟩
        have C2 := Lib.hid hc2
        have G2 := Lib.hid hg2
        clear hc2 hg2
        go_wp2_with fail
        have HBD := Lib.hid (byte_any w2.drew g K (spS K t s) C2.out)
        go_region_with (go_at_call 31; refine HBD.out.mono ?_; rintro e w3 ⟨rfl, hc3, hg3⟩)
        all_goals
          have C3 := Lib.hid hc3
          have G3 := Lib.hid hg3
          clear hc3 hg3
          go_wp2_with fail
          go_ret
          exact ⟨ret_str (by rw [HV.out]; rfl), by rw [HS.out]; exact C3.out.alloc _, grown_trans (grown_trans (grown_drew (grown_trans G1.out G2.out)) G3.out) (World.grownBy_alloc _ _ _)⟩
      · have t1 : (sp4 K t s == 1) = false := by simpa using e1
        by_cases e2 : sp4 K t s = 2
        · have HV := Lib.hid (show spoilV K t s = t.extract 0 (spK K t s) by unfold spoilV; rw [if_neg hz, if_neg e0, if_neg e1, if_pos e2])
          have HS := Lib.hid (show spoilS K t s = spS K t s by unfold spoilS; rw [if_neg hz, if_neg e0, if_neg e1, if_pos e2])
          have t2 : (sp4 K t s == 2) = true := by simpa using e2
          generalize hkk : spK K t s = k at *
          have HKK := Lib.hid hkk
          clear hz k2 hwr hkk e0 e1 e2
          go_enter Tryd.func28, Tryd.ntmps28
          go_wp2_with fail
          refine HB.out.mono ?_
          rintro e w1 ⟨rfl, hc1, hg1⟩
          have HB2 : Hid (Calls Tryd.prog 29 #[.pointer (some ⟨g, 0, none⟩), .int .i64 4] w1 (Drawn w1 g K (.int .i64 (sp4 K t s)) (spS K t s))) := below_any w1 g K 4 _ hc1 (by decide)
          have G1 := Lib.hid hg1
          clear hc1 hg1
          go_wp2_with fail
          refine HB2.out.mono ?_
          rintro e w2 ⟨rfl, hc2, hg2⟩
          have C2 := Lib.hid hc2
          have G2 := Lib.hid hg2
          clear hc2 hg2
          go_wp2_with fail
          go_ret
          exact ⟨ret_str HV.out.symm, by rw [HS.out]; exact C2.out, grown_trans G1.out G2.out⟩
        · have HV := Lib.hid (show spoilV K t s = t.extract 0 (spK K t s) ++ byte1 (xorB K t s) ++ t.extract (spK K t s + 1) t.size by unfold spoilV; rw [if_neg hz, if_neg e0, if_neg e1, if_neg e2])
          have HS := Lib.hid (show spoilS K t s = belowS K 255 (spS K t s) by unfold spoilS; rw [if_neg hz, if_neg e0, if_neg e1, if_neg e2])
          have t2 : (sp4 K t s == 2) = false := by simpa using e2
          obtain ⟨b0, b1⟩ := belowV_bd K 255 (spS K t s) (by decide)
          have hcv := conv_one
          have HX := Lib.hid (show xorB K t s = bits .xor .i64 ((t.data.toList.getD (spK K t s) 0).toNat : Int) (1 + belowV K 255 (spS K t s)) % 256 from rfl)
          generalize hkk : spK K t s = k at *
          have HKK := Lib.hid hkk
          clear hz k2 hwr hkk e0 e1 e2
          go_enter Tryd.func28, Tryd.ntmps28
          go_wp2_with fail
          refine HB.out.mono ?_
          rintro e w1 ⟨rfl, hc1, hg1⟩
          have HB2 : Hid (Calls Tryd.prog 29 #[.pointer (some ⟨g, 0, none⟩), .int .i64 4] w1 (Drawn w1 g K (.int .i64 (sp4 K t s)) (spS K t s))) := below_any w1 g K 4 _ hc1 (by decide)
          have G1 := Lib.hid hg1
          clear hc1 hg1
          go_wp2_with fail
          refine HB2.out.mono ?_
          rintro e w2 ⟨rfl, hc2, hg2⟩
          have C2 := Lib.hid hc2
          have G2 := Lib.hid hg2
          clear hc2 hg2
          go_wp2_with fail
          have HBD := Lib.hid (below_any w2.drew g K 255 (spS K t s) C2.out (by decide))
          have HX2 : xorB K t s = bits .xor .i64 (wrap64 (t[k].toNat : Int)) (1 + belowV K 255 (spS K t s)) % 256 := by
            have := t[k].toNat_lt
            rw [HX.out, List.getD_eq_getElem?_getD, get_data t k k1, wrap64_small _ (by omega) (by omega)]; rfl
          have HX3 := Lib.hid HX2
          clear HX2
          have hwr := HW.out
          go_region_with (go_at_call 29; refine HBD.out.mono ?_; rintro e w3 ⟨rfl, hc3, hg3⟩)
          all_goals
            have C3 := Lib.hid hc3
            have G3 := Lib.hid hg3
            clear hc3 hg3 hwr
            go_wp2_with fail
            go_ret
            exact ⟨ret_str (by rw [HV.out, HX3.out]; rfl), by rw [HS.out]; exact C3.out.alloc _, grown_trans (grown_trans (grown_drew (grown_trans G1.out G2.out)) G3.out) (World.grownBy_alloc _ _ _)⟩
end Go.Proofs.YtkcepbncjlbpbaaDoor

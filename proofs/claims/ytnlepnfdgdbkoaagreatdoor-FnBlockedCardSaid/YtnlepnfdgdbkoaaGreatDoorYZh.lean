/-
  Texts of this seat, laid together.
-/
import Derived.Test.YtnlepnfdgdbkoaaGreatDoorYStepQ
import Derived.Test.YtnlepnfdgdbkoaaGreatDoorYZd
import Derived.Test.YtnlepnfdgdbkoaaGreatDoorYZc
import Derived.Test.YtnlepnfdgdbkoaaGreatDoorYMbj
namespace Go.Proofs.YtnlepnfdgdbkoaaGreatDoor
open Go.RowKit M
set_option linter.unusedVariables false
set_option linter.unusedSimpArgs false
set_option maxRecDepth 100000 in
set_option maxHeartbeats 4000000 in
theorem iClInt_rd (w : World) (S : Nat → Prop) (v : Value) (m : Nat) (cs : List Value) (h : Rd w S v m cs) (hl : m ≤ 1048576) (hc : cs.length = m * 1) (h1 : ∀ u ∈ cs, u.oneCell' = true) : Calls Tryz.prog 39 #[v] w (MadeRow 3 1 w m cs) := by
  obtain ⟨i0, hi, hz0, hz1, hz2⟩ := info_parts info_int
  have h' := h
  rcases h with ⟨rfl, rfl, rfl⟩ | ⟨b, off, cap, rfl, hcn, hcm, hS, hb, hcc⟩
  · have hnil : ∀ (w : World), (binOp .eql 25 (.slice none 0 0) (.slice none 0 0)).run Tryz.prog w = .ok (.bool true) w := fun w => Lib.run_eql_slice_nil w _ _ none 0 0 0 0 Tryz.underlying25
    clear h' hl hi hz0 hz1 hz2 hc h1
    go_enter Tryz.func39, Tryz.ntmps39
    go_wp2_with fail
    go_ret
    exact ⟨_, rfl, ⟨rfl, .inl ⟨rfl, rfl⟩⟩, Below.refl _ _⟩
  · have HO := Lib.hid (h'.below (below_oneL w (.cells #[] 3)))
    have hnil : ∀ (w : World), (binOp .eql 25 (.slice (some ⟨b, off, none⟩) m cap) (.slice none 0 0)).run Tryz.prog w = .ok (.bool false) w := fun w => Lib.run_eql_slice_nil w _ _ (some ⟨b, off, none⟩) m cap 0 0 Tryz.underlying25
    have HC := Lib.hid hc
    clear h' hS hb hcc hc
    go_enter Tryz.func39, Tryz.ntmps39
    go_wp2_with (at_builtin; refine wpList_append_rd rfl _ _ 25 rfl w.heap.size 3 i0 (.int .i64 0) 1 8 Tryz.underlying25 hi hz0 hz1 hz2 rfl (by decide) _ rfl (World.ownsRow_made w #[] 0 (Nat.le_refl _) (Nat.zero_le _) rfl) S m _ cs rfl HO.out ?qc1 ?qc2 ?qc3 ?qc4 ?qc5 ?_)
    case qc1 => exact HC.out
    case qc2 => exact h1
    case qc3 => unfold maxLen; omega
    case qc4 => omega
    case qc5 => simp
    intro v' w1 hown hgrow
    have HV := Lib.hid hown
    have HG := Lib.hid hgrow
    clear hown hgrow hnil hi hz0 hz1 hz2
    go_wp2
    go_ret
    have hb : Below w.heap.size w w1 := ((Below.refl _ w).alloc (Nat.le_refl _) _).grown HG.out (by simp) (by intro k hk; simp [Value.ownBlock] at hk; omega)
    exact ⟨v', rfl, HV.out, hb⟩
set_option maxRecDepth 100000 in
set_option maxHeartbeats 4000000 in
theorem iClOp_rd (w : World) (S : Nat → Prop) (v : Value) (m : Nat) (cs : List Value) (h : Rd w S v m cs) (hl : m ≤ 1048576) (hc : cs.length = m * 4) (h1 : ∀ u ∈ cs, u.oneCell' = true) : Calls Tryz.prog 38 #[v] w (MadeRow 36 4 w m cs) := by
  obtain ⟨i0, hi, hz0, hz1, hz2⟩ := info_parts info_Op
  have h' := h
  rcases h with ⟨rfl, rfl, rfl⟩ | ⟨b, off, cap, rfl, hcn, hcm, hS, hb, hcc⟩
  · have hnil : ∀ (w : World), (binOp .eql 44 (.slice none 0 0) (.slice none 0 0)).run Tryz.prog w = .ok (.bool true) w := fun w => Lib.run_eql_slice_nil w _ _ none 0 0 0 0 Tryz.underlying44
    clear h' hl hi hz0 hz1 hz2 hc h1
    go_enter Tryz.func38, Tryz.ntmps38
    go_wp2_with fail
    go_ret
    exact ⟨_, rfl, ⟨rfl, .inl ⟨rfl, rfl⟩⟩, Below.refl _ _⟩
  · have HO := Lib.hid (h'.below (below_oneL w (.cells #[] 36)))
    have hnil : ∀ (w : World), (binOp .eql 44 (.slice (some ⟨b, off, none⟩) m cap) (.slice none 0 0)).run Tryz.prog w = .ok (.bool false) w := fun w => Lib.run_eql_slice_nil w _ _ (some ⟨b, off, none⟩) m cap 0 0 Tryz.underlying44
    have HC := Lib.hid hc
    clear h' hS hb hcc hc
    go_enter Tryz.func38, Tryz.ntmps38
    go_wp2_with (at_builtin; refine wpList_append_rd rfl _ _ 44 rfl w.heap.size 36 i0 zeroO.v 4 40 Tryz.underlying44 hi hz0 hz1 hz2 rfl (by decide) _ rfl (World.ownsRow_made w #[] 0 (Nat.le_refl _) (Nat.zero_le _) rfl) S m _ cs rfl HO.out ?qc1 ?qc2 ?qc3 ?qc4 ?qc5 ?_)
    case qc1 => exact HC.out
    case qc2 => exact h1
    case qc3 => unfold maxLen; omega
    case qc4 => omega
    case qc5 => simp
    intro v' w1 hown hgrow
    have HV := Lib.hid hown
    have HG := Lib.hid hgrow
    clear hown hgrow hnil hi hz0 hz1 hz2
    go_wp2
    go_ret
    have hb : Below w.heap.size w w1 := ((Below.refl _ w).alloc (Nat.le_refl _) _).grown HG.out (by simp) (by intro k hk; simp [Value.ownBlock] at hk; omega)
    exact ⟨v', rfl, HV.out, hb⟩
set_option maxRecDepth 100000 in
set_option maxHeartbeats 4000000 in
theorem iClJob_rd (w : World) (S : Nat → Prop) (v : Value) (m : Nat) (cs : List Value) (h : Rd w S v m cs) (hl : m ≤ 1048576) (hc : cs.length = m * 18) (h1 : ∀ u ∈ cs, u.oneCell' = true) : Calls Tryz.prog 40 #[v] w (MadeRow 50 18 w m cs) := by
  obtain ⟨i0, hi, hz0, hz1, hz2⟩ := info_parts info_Job
  have h' := h
  rcases h with ⟨rfl, rfl, rfl⟩ | ⟨b, off, cap, rfl, hcn, hcm, hS, hb, hcc⟩
  · have hnil : ∀ (w : World), (binOp .eql 30 (.slice none 0 0) (.slice none 0 0)).run Tryz.prog w = .ok (.bool true) w := fun w => Lib.run_eql_slice_nil w _ _ none 0 0 0 0 Tryz.underlying30
    clear h' hl hi hz0 hz1 hz2 hc h1
    go_enter Tryz.func40, Tryz.ntmps40
    go_wp2_with fail
    go_ret
    exact ⟨_, rfl, ⟨rfl, .inl ⟨rfl, rfl⟩⟩, Below.refl _ _⟩
  · have HO := Lib.hid (h'.below (below_oneL w (.cells #[] 50)))
    have hnil : ∀ (w : World), (binOp .eql 30 (.slice (some ⟨b, off, none⟩) m cap) (.slice none 0 0)).run Tryz.prog w = .ok (.bool false) w := fun w => Lib.run_eql_slice_nil w _ _ (some ⟨b, off, none⟩) m cap 0 0 Tryz.underlying30
    have HC := Lib.hid hc
    clear h' hS hb hcc hc
    go_enter Tryz.func40, Tryz.ntmps40
    go_wp2_with (at_builtin; refine wpList_append_rd rfl _ _ 30 rfl w.heap.size 50 i0 (.agg #[.bool false, .int .i64 0, .string ⟨#[]⟩, .int .i64 0, .int .i64 0, .int .i64 0, .int .i64 0, .int .i64 0, .int .i64 0, .int .i64 0, .int .i64 0, .int .i64 0, .int .i64 0, .int .i64 0, .int .i64 0, .int .i64 0, .slice none 0 0, .slice none 0 0]) 18 184 Tryz.underlying30 hi hz0 hz1 hz2 rfl (by decide) _ rfl (World.ownsRow_made w #[] 0 (Nat.le_refl _) (Nat.zero_le _) rfl) S m _ cs rfl HO.out ?qc1 ?qc2 ?qc3 ?qc4 ?qc5 ?_)
    case qc1 => exact HC.out
    case qc2 => exact h1
    case qc3 => unfold maxLen; omega
    case qc4 => omega
    case qc5 => simp
    intro v' w1 hown hgrow
    have HV := Lib.hid hown
    have HG := Lib.hid hgrow
    clear hown hgrow hnil hi hz0 hz1 hz2
    go_wp2
    go_ret
    have hb : Below w.heap.size w w1 := ((Below.refl _ w).alloc (Nat.le_refl _) _).grown HG.out (by simp) (by intro k hk; simp [Value.ownBlock] at hk; omega)
    exact ⟨v', rfl, HV.out, hb⟩
set_option maxRecDepth 100000 in
set_option maxHeartbeats 4000000 in
theorem iClEv_rd (w : World) (S : Nat → Prop) (v : Value) (m : Nat) (cs : List Value) (h : Rd w S v m cs) (hl : m ≤ 1048576) (hc : cs.length = m * 13) (h1 : ∀ u ∈ cs, u.oneCell' = true) : Calls Tryz.prog 41 #[v] w (MadeRow 39 13 w m cs) := by
  obtain ⟨i0, hi, hz0, hz1, hz2⟩ := info_parts info_Ev
  have h' := h
  rcases h with ⟨rfl, rfl, rfl⟩ | ⟨b, off, cap, rfl, hcn, hcm, hS, hb, hcc⟩
  · have hnil : ∀ (w : World), (binOp .eql 31 (.slice none 0 0) (.slice none 0 0)).run Tryz.prog w = .ok (.bool true) w := fun w => Lib.run_eql_slice_nil w _ _ none 0 0 0 0 Tryz.underlying31
    clear h' hl hi hz0 hz1 hz2 hc h1
    go_enter Tryz.func41, Tryz.ntmps41
    go_wp2_with fail
    go_ret
    exact ⟨_, rfl, ⟨rfl, .inl ⟨rfl, rfl⟩⟩, Below.refl _ _⟩
  · have HO := Lib.hid (h'.below (below_oneL w (.cells #[] 39)))
    have hnil : ∀ (w : World), (binOp .eql 31 (.slice (some ⟨b, off, none⟩) m cap) (.slice none 0 0)).run Tryz.prog w = .ok (.bool false) w := fun w => Lib.run_eql_slice_nil w _ _ (some ⟨b, off, none⟩) m cap 0 0 Tryz.underlying31
    have HC := Lib.hid hc
    clear h' hS hb hcc hc
    go_enter Tryz.func41, Tryz.ntmps41
    go_wp2_with (at_builtin; refine wpList_append_rd rfl _ _ 31 rfl w.heap.size 39 i0 _ 13 128 Tryz.underlying31 hi hz0 hz1 hz2 rfl (by decide) _ rfl (World.ownsRow_made w #[] 0 (Nat.le_refl _) (Nat.zero_le _) rfl) S m _ cs rfl HO.out ?qc1 ?qc2 ?qc3 ?qc4 ?qc5 ?_)
    case qc1 => exact HC.out
    case qc2 => exact h1
    case qc3 => unfold maxLen; omega
    case qc4 => omega
    case qc5 => simp
    intro v' w1 hown hgrow
    have HV := Lib.hid hown
    have HG := Lib.hid hgrow
    clear hown hgrow hnil hi hz0 hz1 hz2
    go_wp2
    go_ret
    have hb : Below w.heap.size w w1 := ((Below.refl _ w).alloc (Nat.le_refl _) _).grown HG.out (by simp) (by intro k hk; simp [Value.ownBlock] at hk; omega)
    exact ⟨v', rfl, HV.out, hb⟩
set_option maxRecDepth 100000 in
set_option maxHeartbeats 4000000 in
theorem iCloneTodo_rd (w : World) (S0 T0 : Nat → Prop) (v : Value) (ls : List (List O)) (h : TodoS w S0 T0 v ls) (hl : ls.length ≤ 1048576) (hil : ∀ j, j < ls.length → (ls.getD j []).length ≤ 1048576) :
    Calls Tryz.prog 25 #[v] w (MadeQS w ls) := by
  obtain ⟨i0, hi0, hz0, hz1, hz2⟩ := info_parts info_Queue
  obtain ⟨A, cap, rfl⟩ := h.slice
  have HTK := Lib.hid (List.take_length (l := ls))
  have HIL := Lib.hid hil
  have HSN := Lib.hid (fun j (hj : j < ls.length) => show ls.take (j + 1) = ls.take j ++ [ls.getD j []] by
    rw [List.take_add_one, List.getD_eq_getElem?_getD, List.getElem?_eq_getElem hj]; rfl)
  have HTL := Lib.hid (fun j (hj : j ≤ ls.length) => show (ls.take j).length = j by rw [List.length_take]; omega)
  have HAT := Lib.hid (fun W (hb : Below w.heap.size w W) j (hj : j < ls.length) => TodoS.at (h.below hb) j hj)
  clear h hil
  generalize hn : ls.length = n at *
  have HN := Lib.hid hn
  clear hn
  go_enter Tryz.func25, Tryz.ntmps25
  go_wp2_with (refine wpList_make_full _ rfl _ _ 24 rfl w.heap.size 46 i0 (.agg #[.slice none 0 0]) 1 Tryz.underlying24 hi0 hz0 hz1 .i64 .i64 _ _ n rfl rfl rfl rfl ?c1 ?c2 ?c3 ?_; rotate_left 3; intro w1 hown hg; have HO := Lib.hid hown; have HG := Lib.hid hg; clear hown hg)
  case c1 => rw [hz2]; omega
  case c2 => unfold maxLen; omega
  case c3 => exact Nat.le_refl _
  clear hi0 hz0 hz1 hz2
  go_loopw [11] (fun i wr => ∃ (j : Nat) (vs : List Value), j ≤ n ∧ i = .int .i64 j ∧ vs.length = j ∧ Heap wr w.heap.size (⟨.slice (some ⟨w.heap.size, 0, none⟩) n n, 46, 1, n, vs ++ List.replicate (n - j) (.slice none 0 0)⟩ :: inner 36 4 opCells vs (ls.take j)) ∧ Below w.heap.size w wr) (fun i _ => n - (intOf i).toNat)
  case atStart =>
    refine ⟨0, [], Nat.zero_le _, rfl, rfl, ?_, below_madeF HG.out⟩
    have := HO.out
    rw [show (madeCells (Value.agg #[.slice none 0 0]).cells (n * 1)).toList = List.replicate n (.slice none 0 0) from by rw [Nat.mul_one]; exact toList_madeCells_one _ _] at this
    exact Heap.one this
  case round =>
    obtain ⟨j, vs, hj, rfl, hvs, hh, hbl⟩ := hrel
    by_cases hlt : j < n
    · obtain ⟨b, cp, u0, hA, hb, hu0, ho0⟩ := HAT.out wr hbl j hlt
      injection hA with hA1 hA2 hA3
      subst hA1
      subst hA3
      clear hA2
      have hil0 := HIL.out j hlt
      obtain ⟨A0, cap0, rfl⟩ := ho0.shape
      have HQ := Lib.hid (fun (u : Value) => (iClOp_rd (wr.alloc (.cells #[u] 46)) T0 _ (ls.getD j []).length _ (ho0.below (below_oneL wr _)) hil0 (cellsF_length opCells_size _) (opCells_one _)).mono (fun e w2 ⟨v2, e1, h1, h2⟩ => (⟨v2, e1, h1, h2⟩ : MadeF 36 4 opCells (wr.alloc (.cells #[u] 46)) (ls.getD j []) e w2)))
      have HH := Lib.hid (fun o => hh.alloc o)
      have HB := Lib.hid (fun o => hbl.alloc hbl.size o)
      have HZ := Lib.hid hbl.size
      have c0 := hu0
      clear hh hbl hu0 ho0 HAT
      generalize hm0 : (ls.getD j []).length = m0 at *
      have hjn : (j : Int) < (n : Int) := by omega
      go_wp2_with fail
      refine (HQ.out _).mono ?_
      rintro e w2 ⟨u, rfl, ho, hb2⟩
      obtain ⟨A2, cap2, rfl⟩ := ho.shape
      generalize hq : ls.getD j [] = q at *
      generalize hm2 : q.length = m2 at *
      have HQE := Lib.hid hq
      have HM2 := Lib.hid hm2
      clear hq hm2 hm0
      have HH2 := Lib.hid ((HH.out _).below hb2)
      have HB2 := Lib.hid ((HB.out _).trans (hb2.mono (HB.out _).size))
      have HO2 := Lib.hid ho
      have HS2 := Lib.hid (show wr.heap.size + 1 ≤ w2.heap.size from by have := hb2.size; simpa [go_sem] using this)
      have hr := HH2.out.own _ (List.mem_cons_self)
      obtain ⟨zz, cz⟩ := ownsRow_some hr j (show j < n * 1 by omega)
      have fz := World.ownsRow.frozenAt hr j
      have HLT := Lib.hid (fun r (hr : r ∈ _) b (hb : _ = some b) => (HH.out (.cells #[.slice A0 m0 cap0] 46)).lt hr b hb)
      clear ho hb2 hr
      go_wp2_with fail
      go_roundw
      case rel =>
        have hset := Heap.set (A := []) HH2.out j (.slice A2 m2 cap2)
        have hu : OwnF 36 4 opCells (w2.setCell ⟨w.heap.size, j, none⟩ (.slice A2 m2 cap2)) (wr.alloc (.cells #[.slice A0 m0 cap0] 46)).heap.size (.slice A2 m2 cap2) q := HO2.out.kept hset.2 (.inr (fun e => by have := HO2.out.base_le _ e; have := HZ.out; simp [go_sem] at *; omega))
        have hjo := Heap.join hset.1 (Heap.one (r := ⟨.slice A2 m2 cap2, 36, 4, q.length, cellsF opCells q⟩) hu) (by have := HZ.out; simp [go_sem]; omega) (fun r hr b hb => by
          simp only [List.nil_append] at hr
          rcases List.mem_cons.1 hr with rfl | h2
          · have e : w.heap.size = b := Option.some.inj hb
            have := HZ.out; simp [go_sem]; omega
          · exact HLT.out r (List.mem_cons_of_mem _ h2) b hb)
        refine ⟨j + 1, vs ++ [.slice A2 m2 cap2], by omega, by go_num, by simp [hvs], ?_, HB2.out.setCell (Nat.le_refl _) _⟩
        have e1 := set_fill vs (.slice none 0 0) (.slice A2 m2 cap2) (n - j) (by omega)
        rw [hvs] at e1
        rw [show n - (j + 1) = n - j - 1 by omega, HSN.out j hlt, HQE.out]
        unfold inner
        rw [zipWith_snoc _ _ _ _ _ (by rw [hvs, HTL.out j (by omega)]), ← e1]
        exact hjo
      case measure => simp [intOf]; omega
    · have hjn : j = n := by omega
      subst hjn
      have HH2 := Lib.hid hh
      have HB2 := Lib.hid hbl
      clear hh hbl
      go_wp2_with fail
      go_ret
      refine ⟨_, rfl, ⟨vs, by rw [hvs, HN.out], ?_⟩, HB2.out⟩
      have := HH2.out
      rw [HTK.out, Nat.sub_self, List.replicate_zero, List.append_nil] at this
      rw [HN.out]
      exact this
end Go.Proofs.YtnlepnfdgdbkoaaGreatDoor
namespace Go.Proofs.YtnlepnfdgdbkoaaGreatDoor
open Go.RowKit M
set_option linter.unusedVariables false
set_option linter.unusedSimpArgs false
theorem paint5 (P1 P2 P3 P4 P5 : Nat → Prop) (h12 : ∀ k, P1 k → ¬ P2 k) (h13 : ∀ k, P1 k → ¬ P3 k) (h14 : ∀ k, P1 k → ¬ P4 k) (h15 : ∀ k, P1 k → ¬ P5 k) (h23 : ∀ k, P2 k → ¬ P3 k) (h24 : ∀ k, P2 k → ¬ P4 k) (h25 : ∀ k, P2 k → ¬ P5 k) (h34 : ∀ k, P3 k → ¬ P4 k) (h35 : ∀ k, P3 k → ¬ P5 k) (h45 : ∀ k, P4 k → ¬ P5 k) :
    ∃ κ : Nat → Nat, (∀ k, P1 k → κ k = 1) ∧ (∀ k, P2 k → κ k = 2) ∧ (∀ k, P3 k → κ k = 3) ∧ (∀ k, P4 k → κ k = 4) ∧ (∀ k, P5 k → κ k = 5) ∧ ∀ k, κ k ≠ 0 → P1 k ∨ P2 k ∨ P3 k ∨ P4 k ∨ P5 k := by
  classical
  refine ⟨fun k => if P1 k then 1 else if P2 k then 2 else if P3 k then 3 else if P4 k then 4 else if P5 k then 5 else 0, fun k h => if_pos h, fun k h => ?_, fun k h => ?_, fun k h => ?_, fun k h => ?_, fun k h => ?_⟩
  · show (if P1 k then 1 else if P2 k then 2 else _) = 2
    rw [if_neg (fun x => h12 k x h), if_pos h]
  · show (if P1 k then 1 else if P2 k then 2 else if P3 k then 3 else _) = 3
    rw [if_neg (fun x => h13 k x h), if_neg (fun x => h23 k x h), if_pos h]
  · show (if P1 k then 1 else if P2 k then 2 else if P3 k then 3 else if P4 k then 4 else _) = 4
    rw [if_neg (fun x => h14 k x h), if_neg (fun x => h24 k x h), if_neg (fun x => h34 k x h), if_pos h]
  · show (if P1 k then 1 else if P2 k then 2 else if P3 k then 3 else if P4 k then 4 else if P5 k then 5 else 0) = 5
    rw [if_neg (fun x => h15 k x h), if_neg (fun x => h25 k x h), if_neg (fun x => h35 k x h), if_neg (fun x => h45 k x h), if_pos h]
  · by_cases h1 : P1 k
    · exact .inl h1
    by_cases h2 : P2 k
    · exact .inr (.inl h2)
    by_cases h3 : P3 k
    · exact .inr (.inr (.inl h3))
    by_cases h4 : P4 k
    · exact .inr (.inr (.inr (.inl h4)))
    by_cases h5 : P5 k
    · exact .inr (.inr (.inr (.inr h5)))
    · exact absurd (show (if P1 k then 1 else if P2 k then 2 else if P3 k then 3 else if P4 k then 4 else if P5 k then 5 else 0) = 0 by rw [if_neg h1, if_neg h2, if_neg h3, if_neg h4, if_neg h5]) h
theorem inner_ap {α : Type} {t : TypeId} {F : Nat} {c : α → Array Value} {vs : List Value} {ls : List (List α)} {r : Rw} (h : (r :: inner t F c vs ls).Pairwise fun a b => Ap a.v b.v ∧ Ap b.v a.v) (hl : vs.length = ls.length) {i j : Nat} {u v : Value} (hij : i < j) (hi : vs[i]? = some u) (hj : vs[j]? = some v) : Ap u v := by
  have h2 := (List.pairwise_cons.1 h).2
  obtain ⟨hi1, e1⟩ := List.getElem?_eq_some_iff.1 hi
  obtain ⟨hj1, e2⟩ := List.getElem?_eq_some_iff.1 hj
  have hlen : (inner t F c vs ls).length = vs.length := by unfold inner; rw [List.length_zipWith]; omega
  have h3 := (List.pairwise_iff_getElem.1 h2 i j (by omega) (by omega) hij).1
  unfold inner at h3
  simp only [List.getElem_zipWith] at h3
  rw [e1, e2] at h3
  exact h3
theorem slB_own {w : World} {base : Nat} {t : TypeId} {F n : Nat} {v : Value} {cs : List Value} (h : w.ownsRow base t F v n cs) {b : Nat} (hb : slB v = some b) : v.ownBlock = some b := by
  rcases h.2 with ⟨e, _⟩ | ⟨g, cap, cur, e, _⟩
  · subst e; cases hb
  · subst e
    obtain rfl : g = b := Option.some.inj hb
    rfl
theorem frz_own {w : World} {base : Nat} {t : TypeId} {F n : Nat} {v : Value} {cs : List Value} (h : w.ownsRow base t F v n cs) {b : Nat} (hb : slB v = some b) (k : Nat) : w.frozen? ⟨b, k, none⟩ = false := by
  have h' := h
  rcases h.2 with ⟨e, _⟩ | ⟨g, cap, cur, e, _⟩
  · subst e; cases hb
  · subst e
    obtain rfl : g = b := Option.some.inj hb
    exact World.ownsRow.frozenAt h' k
theorem WorP.wt {w : World} {B E : Nat} {s : S} {vc vj vt vl : Value} (h : WorP w B E s vc vj vt vl) : ∃ κ, WT w κ s vc vj vt vl ∧ ∀ k, κ k ≠ 0 → B ≤ k := by
  obtain ⟨Bc, Ec, Bj, Ej, Bt, Et, Bl, El, hp, ha⟩ := h
  obtain ⟨us, hul, hh⟩ := ha.t
  have hv3 : ∀ k, vt.ownBlock = some k → Bt ≤ k ∧ k < Et ∧ k < w.heap.size := fun k hk => ⟨hh.1.base_le List.mem_cons_self k hk, hh.2 _ List.mem_cons_self k hk, hh.1.lt List.mem_cons_self k hk⟩
  have o1 := hp.cj; have o2 := hp.ct; have o3 := hp.cl; have o4 := hp.jt; have o5 := hp.jl; have o6 := hp.tl
  unfold Off at o1 o2 o3 o4 o5 o6
  obtain ⟨κ, k1, k2, k3, k4, k5, k0⟩ := paint5 (fun k => (Bc ≤ k ∧ k < Ec) ∧ k < w.heap.size) (fun k => (Bj ≤ k ∧ k < Ej) ∧ k < w.heap.size) (fun k => vt.ownBlock = some k) (fun k => ((Bt ≤ k ∧ k < Et) ∧ vt.ownBlock ≠ some k) ∧ k < w.heap.size) (fun k => (Bl ≤ k ∧ k < El) ∧ k < w.heap.size)
    (fun k a b => by have := a.1; have := b.1; omega) (fun k a b => by have := a.1; have := hv3 k b; omega) (fun k a b => by have := a.1; have := b.1.1; omega) (fun k a b => by have := a.1; have := b.1; omega)
    (fun k a b => by have := a.1; have := hv3 k b; omega) (fun k a b => by have := a.1; have := b.1.1; omega) (fun k a b => by have := a.1; have := b.1; omega)
    (fun k a b => b.1.2 a) (fun k a b => by have := hv3 k a; have := b.1; omega) (fun k a b => by have := a.1.1; have := b.1; omega)
  refine ⟨κ, ⟨⟨?_, ?_, ⟨us, ⟨?_, ?_⟩, ?_, ?_⟩, ?_⟩, fun k hk => ?_⟩, fun k hk => ?_⟩
  · exact (HeapS.of ha.c).lt.mono (fun k hk => k1 k hk)
  · exact (OwnS.of ha.j).inlt.mono (fun k hk => k2 k hk)
  · exact (hh.1.sub (List.Sublist.cons_cons _ (List.nil_sublist _))).base (Nat.zero_le _)
  · intro r hr k hk
    rw [List.mem_singleton.1 hr] at hk
    exact k3 k hk
  · intro j hj
    have hj' : j < us.length := by omega
    refine ⟨us.getD j undef, by rw [List.getD_eq_getElem?_getD, List.getElem?_eq_getElem hj']; rfl, ?_⟩
    have hm := inner_at (t := 36) (F := 4) (c := opCells) hul j hj undef
    have ho := hh.1.own _ (List.mem_cons_of_mem _ hm)
    have hap := ((List.pairwise_cons.1 hh.1.ap).1 _ hm).2
    refine Rd.of ho (fun k hk => k4 k ⟨⟨⟨hh.1.base_le (List.mem_cons_of_mem _ hm) k hk, hh.2 _ (List.mem_cons_of_mem _ hm) k hk⟩, fun e => ?_⟩, hh.1.lt (List.mem_cons_of_mem _ hm) k hk⟩)
    rcases hap with h1 | h1
    · have h2 : (us.getD j undef).ownBlock = none := h1
      rw [h2] at hk; cases hk
    · have h2 : (us.getD j undef).ownBlock ≠ vt.ownBlock := h1
      exact h2 (hk.trans e.symm)
  · have hin : ∀ i u, us[i]? = some u → i < s.todo.length ∧ w.ownsRow Bt 36 4 u (s.todo.getD i []).length (cellsF opCells (s.todo.getD i [])) := by
      intro i u hi
      have hi' : i < us.length := (List.getElem?_eq_some_iff.1 hi).1
      have hm := inner_at (t := 36) (F := 4) (c := opCells) hul i (by omega) undef
      have ho := hh.1.own _ (List.mem_cons_of_mem _ hm)
      have e : us.getD i undef = u := by rw [List.getD_eq_getElem?_getD, hi]; rfl
      exact ⟨by omega, by have := ho; unfold Rw.own at this; simp only [e] at this; exact this⟩
    refine ⟨fun i j u v b hij hi hj hb hb2 => ?_, fun i u b hi hb => ?_⟩
    · have hap := inner_ap hh.1.ap hul hij hi hj
      obtain ⟨_, ho⟩ := hin i u hi
      obtain ⟨_, hp⟩ := hin j v hj
      have eu := slB_own ho hb
      have ev := slB_own hp hb2
      rcases hap with h | h
      · rw [eu] at h; cases h
      · rw [eu, ev] at h; exact h rfl
    · obtain ⟨_, ho⟩ := hin i u hi
      have eu := slB_own ho hb
      exact ⟨(World.ownsRow.lt ho b eu).2, fun k => frz_own ho hb k⟩
  · exact (OwnS.of ha.l).inlt.mono (fun k hk => k5 k hk)
  · rcases k0 k hk with h | h | h | h | h
    · exact h.2
    · exact h.2
    · exact (hv3 k h).2.2
    · exact h.2
    · exact h.2
  · obtain ⟨l1, l2, l3, l4⟩ := hp.lo
    rcases k0 k hk with h | h | h | h | h
    · have := h.1; omega
    · have := h.1; omega
    · have := hv3 k h; omega
    · have := h.1.1; omega
    · have := h.1; omega
theorem Rd.recs {w : World} {S : Nat → Prop} {u : Value} {l : List O} (h : Rd w S u l.length (cellsF opCells l)) : RecsArg 4 opCells zeroO w u l := by
  rcases h with ⟨e, h0, _⟩ | ⟨b, off, cap, e, h1, h2, h3, h4, h5⟩
  · subst e
    exact ⟨none, 0, by rw [h0], by omega, Nat.zero_le _, fun h => by omega⟩
  · subst e
    refine ⟨_, cap, rfl, h1, h2, fun _ => ⟨b, off, rfl, h4, fun j hj k hk => ?_⟩⟩
    have hl : (cellsF opCells l).length = l.length * 4 := cellsF_length opCells_size l
    rw [Nat.add_assoc, h5 (j * 4 + k) (by rw [hl]; omega)]
    exact cellsF_at opCells_size zeroO l j k hj hk
theorem TodoS.arg {w : World} {S T : Nat → Prop} {v : Value} {ls : List (List O)} (h : TodoS w S T v ls) : ArgQ w v ls := by
  obtain ⟨us, h1, h2, hq⟩ := h
  have ho : w.ownsRow 0 46 1 v ls.length us := h1.1.own _ List.mem_cons_self
  have ho' := ho
  rcases ho.2 with ⟨e, h0⟩ | ⟨g, cap, cur, e, _, hg, hn, hm, _, _⟩
  · subst e
    exact ⟨none, 0, by rw [h0], by omega, Nat.zero_le _, fun h => by omega⟩
  · subst e
    refine ⟨_, cap, rfl, hn, hm, fun _ => ⟨g, 0, rfl, (World.ownsRow.lt ho' g rfl).2, fun j hj => ?_⟩⟩
    obtain ⟨u, h3, h4⟩ := h2 j hj
    exact ⟨u, by rw [Nat.zero_add, World.ownsRow.cellAt ho' j (by omega)]; exact h3, h4.recs⟩
theorem WT.win {w : World} {κ : Nat → Nat} {s : S} {vc vj vt vl : Value} (h : WT w κ s vc vj vt vl) : WorIn w s vc vj vt vl :=
  ⟨own_ints (h.t.c.1.own _ List.mem_cons_self), OwnY.arg (show OwnY 50 18 jobDat w 0 w.heap.size vj s.jobs from h.t.j.x) jobDat_len jobDat_wf zeroJ, h.t.t.arg, OwnY.arg (show OwnY 39 13 evDat w 0 w.heap.size vl s.log from h.t.l.x) evDat_len evDat_wf zeroE⟩
end Go.Proofs.YtnlepnfdgdbkoaaGreatDoor
namespace Go.Proofs.YtnlepnfdgdbkoaaGreatDoor
open Go.RowKit M
set_option linter.unusedVariables false
set_option linter.unusedSimpArgs false
def canV (s : S) (t : Int) : Bool := worldOkV s && (decide (0 ≤ t ∧ t ≤ 3) && !restsV s t.toNat)
theorem canV_no {s : S} {t : Int} (h : worldOkV s = false ∨ ¬ (0 ≤ t ∧ t ≤ 3) ∨ s.now = 1000000000) : canV s t = false := by
  unfold canV
  rcases h with h | h | h
  · rw [h]; rfl
  · rw [decide_eq_false h]; simp
  · have : restsV s t.toNat = true := by unfold restsV; rw [decide_eq_true h]; simp
    rw [this]; simp
theorem canV_yes {s : S} {t : Nat} (h1 : worldOkV s = true) (h2 : t ≤ 3) (h3 : ¬ s.now = 1000000000) : canV s (t : Int) = ((s.jobs.getD t zeroJ).busy || (decide (0 < (s.todo.getD t []).length) && decide (s.serial < 1000000))) := by
  have hg := good_iff.1 h1
  unfold canV restsV
  rw [h1, decide_eq_true (show 0 ≤ (t : Int) ∧ (t : Int) ≤ 3 by omega), decide_eq_false h3, Int.toNat_natCast]
  have hs := hg.ser
  have e1 : decide ((s.todo.getD t []).length = 0) = !decide (0 < (s.todo.getD t []).length) := by
    by_cases h : (s.todo.getD t []).length = 0
    · rw [decide_eq_true h, decide_eq_false (by omega)]; rfl
    · rw [decide_eq_false h, decide_eq_true (by omega)]; rfl
  have e2 : decide (s.serial = 1000000) = !decide (s.serial < 1000000) := by
    by_cases h : s.serial = 1000000
    · rw [decide_eq_true h, decide_eq_false (by omega)]; rfl
    · rw [decide_eq_false h, decide_eq_true (by omega)]; rfl
  rw [e1, e2]
  cases (s.jobs.getD t zeroJ).busy <;> cases decide (0 < (s.todo.getD t []).length) <;> cases decide (s.serial < 1000000) <;> rfl
set_option maxRecDepth 100000 in
set_option maxHeartbeats 4000000 in
theorem iCanStep_any (w : World) (s : S) (vc vj vt vl : Value) (t : Int) (h : WorIn w s vc vj vt vl) (hok : worldOkV s = true) : Calls Tryz.prog 46 #[.agg (worVals s vc vj vt vl), .int .i64 t] w (Gives (.bool (canV s t)) w) := by
  have HIN := Lib.hid h
  obtain ⟨r, hr⟩ : ∃ r, canV s t = r := ⟨_, rfl⟩
  have HR := Lib.hid hr
  rw [hr]
  clear h hr
  have HX := fun W => Lib.hid (isIdx_any t 4 3 W rfl)
  go_enter Tryz.func46, Tryz.ntmps46
  go_upto_region 1 with fail
  refine wp_gen (fun W => Blk W w.heap.size 33 (worVals s vc vj vt vl) ∧ Below w.heap.size w W) ⟨Blk.new w _ _ _ rfl, below_oneL w _⟩ ?_
  rintro W1 ⟨g1, hb⟩
  have HB1 := Lib.hid hb
  clear hb
  have p5 : W1.cell? ⟨w.heap.size, 5, none⟩ = some (.int .i64 s.now) := g1.get 5
  have p1 : W1.cell? ⟨w.heap.size, 1, none⟩ = some vj := g1.get 1
  have p2 : W1.cell? ⟨w.heap.size, 2, none⟩ = some vt := g1.get 2
  have p4 : W1.cell? ⟨w.heap.size, 4, none⟩ = some (.int .i64 s.serial) := g1.get 4
  clear g1
  by_cases ht : 0 ≤ t ∧ t ≤ 3
  · have d1 : decide (0 ≤ t ∧ t ≤ 3) = true := decide_eq_true ht
    rw [d1] at HX
    by_cases hn : s.now = 1000000000
    · have HE := Lib.hid (canV_no (s := s) (t := t) (.inr (.inr hn)))
      have d2 : (s.now == 1000000000) = true := by rw [beq_iff_eq]; exact hn
      clear HIN p1 p2 p4 hn ht d1
      go_wp2_with (first | (go_at_call 44; refine (HX _).out.mono ?_; rintro e w' ⟨rfl, rfl⟩))
      go_ret
      exact ⟨by rw [← HR.out, HE.out]; rfl, HB1.out⟩
    · have d2 : (s.now == 1000000000) = false := by rw [beq_eq_false_iff_ne]; exact hn
      obtain ⟨m, rfl⟩ : ∃ m : Nat, t = (m : Int) := ⟨t.toNat, by omega⟩
      have hg := good_iff.1 hok
      have HE := Lib.hid (canV_yes (t := m) hok (by omega) hn)
      obtain ⟨_, ⟨Aj, cj, rfl, j1, j2, j3⟩, ⟨At, ct, rfl, t1, t2, t3⟩, _⟩ := (HIN.out.below HB1.out)
      have hjl := hg.jl
      have htl := (todo_iff.1 hg.todo).1
      obtain ⟨jb, jo, rfl, hjb, hjc⟩ := j3 (by omega)
      obtain ⟨tb, to_, rfl, htb, htc⟩ := t3 (by omega)
      obtain ⟨vk, vr, hrg, _⟩ := job_at (hjc m (by omega))
      have c0 : W1.cell? ⟨jb, jo + m * 18, none⟩ = some (.bool (s.jobs.getD m zeroJ).busy) := hrg 0 _ rfl
      obtain ⟨u, hu, Au, cu, rfl, _⟩ := htc m (by omega)
      have i1 : (m : Int) < (s.jobs.length : Int) := by omega
      have i2 : (m : Int) < (s.todo.length : Int) := by omega
      clear HIN hn ht d1 hjc hrg htc j1 j2 j3 t1 t2 t3 hg
      generalize (s.jobs.getD m zeroJ).busy = bz at *
      generalize (s.todo.getD m []).length = ql at *
      cases bz with
      | true =>
        have HE2 := Lib.hid (HE.out.trans (Bool.true_or _))
        go_wp2_with (first | (go_at_call 44; refine (HX _).out.mono ?_; rintro e w' ⟨rfl, rfl⟩))
        go_ret
        exact ⟨by rw [← HR.out, HE2.out]; rfl, HB1.out⟩
      | false =>
        by_cases hq : 0 < ql
        · by_cases hs : s.serial < 1000000
          · have d3 : decide ((0 : Int) < (ql : Int)) = true := decide_eq_true (by omega)
            have d4 : decide (s.serial < 1000000) = true := decide_eq_true hs
            have HE2 := Lib.hid (HE.out.trans (by rw [decide_eq_true hq, d4]; rfl : _ = true))
            have hqi : (0 : Int) < (ql : Int) := by omega
            clear hs
            go_wp2_with (first | (go_at_call 44; refine (HX _).out.mono ?_; rintro e w' ⟨rfl, rfl⟩))
            go_ret
            exact ⟨by rw [← HR.out, HE2.out]; rfl, HB1.out⟩
          · have d3 : decide ((0 : Int) < (ql : Int)) = true := decide_eq_true (by omega)
            have d4 : decide (s.serial < 1000000) = false := decide_eq_false hs
            have HE2 := Lib.hid (HE.out.trans (by rw [decide_eq_true hq, d4]; rfl : _ = false))
            have hqi : (0 : Int) < (ql : Int) := by omega
            clear hs
            go_wp2_with (first | (go_at_call 44; refine (HX _).out.mono ?_; rintro e w' ⟨rfl, rfl⟩))
            go_ret
            exact ⟨by rw [← HR.out, HE2.out]; rfl, HB1.out⟩
        · have HE2 := Lib.hid (HE.out.trans (by rw [decide_eq_false hq]; rfl : _ = false))
          obtain rfl : ql = 0 := by omega
          clear hq
          go_wp2_with (first | (go_at_call 44; refine (HX _).out.mono ?_; rintro e w' ⟨rfl, rfl⟩))
          go_ret
          exact ⟨by rw [← HR.out, HE2.out]; rfl, HB1.out⟩
  · have d1 : decide (0 ≤ t ∧ t ≤ 3) = false := decide_eq_false ht
    rw [d1] at HX
    have HE := Lib.hid (canV_no (s := s) (t := t) (.inr (.inl ht)))
    clear HIN p1 p2 p4 ht d1
    go_wp2_with (first | (go_at_call 44; refine (HX _).out.mono ?_; rintro e w' ⟨rfl, rfl⟩))
    go_ret
    exact ⟨by rw [← HR.out, HE.out]; rfl, HB1.out⟩
end Go.Proofs.YtnlepnfdgdbkoaaGreatDoor
namespace Go.Proofs.YtnlepnfdgdbkoaaGreatDoor
open Go.RowKit M
set_option linter.unusedVariables false
set_option linter.unusedSimpArgs false
theorem vals_one {vs : List Value} {ds : List Dat} (h : valsD vs ds) (hv : ∀ u, Dat.val u ∈ ds → u.oneCell' = true) (hr : ∀ r ∈ innerD vs ds, ∃ A c, r.v = .slice A r.n c) : ∀ v ∈ vs, v.oneCell' = true := by
  induction vs generalizing ds with
  | nil => intro v hv; cases hv
  | cons x vs ih =>
    cases ds with
    | nil => exact h.elim
    | cons d ds =>
      intro v hm
      cases d with
      | val u =>
        rcases List.mem_cons.1 hm with rfl | hm
        · rw [h.1]; exact hv u List.mem_cons_self
        · exact ih h.2 (fun u hu => hv u (List.mem_cons_of_mem _ hu)) (fun r hr' => hr r hr') v hm
      | row t F n cs =>
        rcases List.mem_cons.1 hm with rfl | hm
        · obtain ⟨A, c, e⟩ := hr ⟨v, t, F, n, cs⟩ List.mem_cons_self
          have e : v = .slice A n c := e
          rw [e]; rfl
        · exact ih h (fun u hu => hv u (List.mem_cons_of_mem _ hu)) (fun r hr' => hr r (List.mem_cons_of_mem _ hr')) v hm
theorem innerD_vals (vs xs : List Value) : innerD vs (xs.map Dat.val) = [] := by
  induction vs generalizing xs with
  | nil => cases xs <;> rfl
  | cons v vs ih => cases xs with
    | nil => rfl
    | cons x xs => exact ih xs
theorem valsD_self (vs : List Value) : valsD vs (vs.map Dat.val) := by
  induction vs with
  | nil => trivial
  | cons v vs ih => exact ⟨rfl, ih⟩
section
variable {t : TypeId} {F : Nat}
theorem OwnX.raw {n : Nat} {w : World} {B : Nat} {v : Value} {vs : List Value} (h : w.ownsRow B t F v n vs) : OwnX t F n w B w.heap.size v (vs.map Dat.val) :=
  ⟨vs, valsD_self vs, by rw [innerD_vals]; exact HeapE.made (Heap.one (r := ⟨v, t, F, n, vs⟩) h)⟩
theorem OwnX.plant {n : Nat} {w : World} {B E B' E' g cap : Nat} {ds : List Dat} (h : OwnX t F n w B E (.slice (some ⟨g, 0, none⟩) n cap) ds) {i : Nat} {x : Value} (hd : ds[i]? = some (.val x))
    {t2 : TypeId} {F2 n2 : Nat} {cs2 : List Value} {u : Value} (hn : HeapE w B' E' [⟨u, t2, F2, n2, cs2⟩]) (hE : E ≤ B') (hB : B ≤ B') (hE' : E ≤ E') :
    OwnX t F n (w.setCell ⟨g, i, none⟩ u) B E' (.slice (some ⟨g, 0, none⟩) n cap) (ds.set i (.row t2 F2 n2 cs2)) ∧ w.grownBy (w.setCell ⟨g, i, none⟩ u) (some g) := by
  obtain ⟨vs, h1, h2⟩ := h
  have hu1 := valsD_val h1 hd
  obtain ⟨e, hl⟩ := split_at hd
  obtain ⟨e', hl'⟩ := split_at hu1
  have hlen : (vs.take i).length = (ds.take i).length := by rw [hl, hl']
  have hin : innerD vs ds = innerD (vs.take i) (ds.take i) ++ innerD (vs.drop (i + 1)) (ds.drop (i + 1)) := by
    conv => lhs; rw [e, e', innerD_append _ _ _ _ hlen]
    rfl
  have hin' : innerD (vs.set i u) (ds.set i (.row t2 F2 n2 cs2)) = innerD (vs.take i) (ds.take i) ++ ⟨u, t2, F2, n2, cs2⟩ :: innerD (vs.drop (i + 1)) (ds.drop (i + 1)) := by
    conv => lhs; rw [e, e', set_mid _ _ _ _ _ hl, set_mid _ _ _ _ _ hl', innerD_append _ _ _ _ hlen]
    rfl
  have hs := Heap.set (A := []) h2.1 i u
  have hsub : Heap (w.setCell ⟨g, i, none⟩ u) B (⟨.slice (some ⟨g, 0, none⟩) n cap, t, F, n, vs.set i u⟩ :: (innerD (vs.take i) (ds.take i) ++ innerD (vs.drop (i + 1)) (ds.drop (i + 1)))) := by
    rw [← hin]; exact hs.1
  have hg : g < E := h2.2 _ List.mem_cons_self g rfl
  have hnew : Heap (w.setCell ⟨g, i, none⟩ u) B' [⟨u, t2, F2, n2, cs2⟩] := hn.1.grown hs.2 (fun r hr => by
    cases e : r.v.ownBlock with
    | none => exact .inl rfl
    | some k => exact .inr (by rw [← e]; intro hk; rw [e] at hk; injection hk with hk; have := hn.1.base_le hr k e; omega))
  have hlt : ∀ r ∈ (⟨.slice (some ⟨g, 0, none⟩) n cap, t, F, n, vs.set i u⟩ : Rw) :: (innerD (vs.take i) (ds.take i) ++ innerD (vs.drop (i + 1)) (ds.drop (i + 1))), ∀ b, r.v.ownBlock = some b → b < E := by
    intro r hr b hb
    rcases List.mem_cons.1 hr with rfl | h3
    · exact h2.2 _ List.mem_cons_self b hb
    · exact h2.2 r (List.mem_cons_of_mem _ (by rw [hin]; exact h3)) b hb
  have hj := hsub.join hnew hB (fun r hr b hb => Nat.lt_of_lt_of_le (hlt r hr b hb) hE)
  refine ⟨⟨vs.set i u, ?_, ?_⟩, hs.2⟩
  · conv at h1 => rw [e, e']
    rw [valsD_append hlen] at h1
    rw [e, e', set_mid _ _ _ _ _ hl, set_mid _ _ _ _ _ hl', valsD_append hlen]
    exact ⟨h1.1, h1.2.2⟩
  · rw [hin']
    refine ⟨hj.perm ?_, fun r hr k hk => ?_⟩
    · rw [List.cons_append, List.append_assoc]
      refine List.Perm.cons _ ?_
      exact List.Perm.append_left _ List.perm_append_comm
    · rcases List.mem_cons.1 hr with rfl | h3
      · have := hlt _ List.mem_cons_self k hk; omega
      · rcases List.mem_append.1 h3 with h4 | h4
        · have := hlt r (List.mem_cons_of_mem _ (List.mem_append_left _ h4)) k hk; omega
        · rcases List.mem_cons.1 h4 with rfl | h5
          · exact hn.2 _ (List.mem_singleton.2 rfl) k hk
          · have := hlt r (List.mem_cons_of_mem _ (List.mem_append_right _ h5)) k hk; omega
end
theorem raw_drop {vs cs : List Value} {i : Nat} (hl : ∀ k, k < cs.length → vs[i + k]? = cs[k]?) : vs.drop i = cs ++ vs.drop (i + cs.length) := by
  apply List.ext_getElem?
  intro k
  rw [List.getElem?_drop]
  by_cases hk : k < cs.length
  · rw [hl k hk, List.getElem?_append_left hk]
  · rw [List.getElem?_append_right (by omega), List.getElem?_drop]
    congr 1
    omega
theorem job_vals_one {l : List J} : ∀ u, Dat.val u ∈ datL jobDat l → u.oneCell' = true := by
  intro u hu
  simp only [datL, List.mem_flatMap] at hu
  obtain ⟨r, _, hr⟩ := hu
  simp only [jobDat, List.mem_cons, List.not_mem_nil, or_false, Dat.val.injEq, reduceCtorEq] at hr
  rcases hr with rfl | rfl | rfl | rfl | rfl | rfl | rfl | rfl | rfl | rfl | rfl | rfl | rfl | rfl | rfl | rfl <;> rfl
theorem ev_vals_one {l : List E} : ∀ u, Dat.val u ∈ datL evDat l → u.oneCell' = true := by
  intro u hu
  simp only [datL, List.mem_flatMap] at hu
  obtain ⟨r, _, hr⟩ := hu
  simp only [evDat, List.mem_cons, List.not_mem_nil, or_false, Dat.val.injEq, reduceCtorEq] at hr
  rcases hr with rfl | rfl | rfl | rfl | rfl | rfl | rfl | rfl | rfl | rfl | rfl | rfl <;> rfl
theorem OwnS.vals {t : TypeId} {F n : Nat} {w : World} {S : Nat → Prop} {v : Value} {ds : List Dat} (h : OwnS t F n w S v ds) (h1 : ∀ u, Dat.val u ∈ ds → u.oneCell' = true) : ∃ vs, valsD vs ds ∧ w.ownsRow 0 t F v n vs ∧ (∀ u ∈ vs, u.oneCell' = true) := by
  obtain ⟨vs, h2, h3⟩ := h
  exact ⟨vs, h2, h3.1.own _ List.mem_cons_self, vals_one h2 h1 (fun r hr => Rw.slice (h3.1.own r (List.mem_cons_of_mem _ hr)))⟩
end Go.Proofs.YtnlepnfdgdbkoaaGreatDoor

/-
  Chapter 10, the program's copy of queues: a new row of rows of its own. It turns nothing that was there.
-/
import Derived.Test.YtfemdhknnfmpcaaQuC
import Derived.Test.YtfemdhknnfmpcaaSysL
import Derived.OwnWalk
import Derived.Laws.AppendOwn
import Derived.Lib.SliceRun
import Derived.Lib.Walk
namespace Go.Proofs.Ytfemdhknnfmpcaa
open Go.RowKit M
set_option linter.unusedVariables false
set_option linter.unusedSimpArgs false
/-- A queue of a row that a call made. -/
theorem ownQ_at {w : World} {B : Nat} {v : Value} {ls : List (List O)} (h : OwnQ w B v ls) (j : Nat) (hj : j < ls.length) : ∃ b cap u, v = .slice (some ⟨b, 0, none⟩) ls.length cap ∧ b < w.heap.size ∧ w.cell? ⟨b, j, none⟩ = some u ∧ OwnF 26 4 opCells w B u (ls.getD j []) := by
  obtain ⟨vs, hv, hh⟩ := h
  have ho := hh.own _ List.mem_cons_self
  have ho' : w.ownsRow B 73 1 v ls.length vs := ho
  rcases ho'.2 with ⟨_, h0⟩ | ⟨g, cap, cur, rfl, hb, hg, hn, hm, hc, ht⟩
  · omega
  · refine ⟨g, cap, vs.getD j undef, rfl, (World.ownsRow.lt ho' g rfl).2, ?_, hh.own _ (List.mem_cons_of_mem _ (inner_at hv j hj undef))⟩
    rw [World.ownsRow.cellAt ho' j (by omega), List.getD_eq_getElem?_getD, List.getElem?_eq_getElem (by rw [hv]; exact hj)]
    rfl
theorem ownQ_shape {w : World} {B : Nat} {v : Value} {ls : List (List O)} (h : OwnQ w B v ls) : ∃ A cap, v = .slice A ls.length cap ∧ cap ≤ maxLen ∧ ls.length ≤ cap := by
  obtain ⟨vs, hv, hh⟩ := h
  have ho' : w.ownsRow B 73 1 v ls.length vs := hh.own _ List.mem_cons_self
  rcases ho'.2 with ⟨rfl, h0⟩ | ⟨g, cap, cur, rfl, hb, hg, hn, hm, hc, ht⟩
  · exact ⟨none, 0, by rw [h0], Nat.zero_le _, by omega⟩
  · exact ⟨_, cap, rfl, hm, hn⟩
theorem opCells_one (l : List O) : ∀ u ∈ cellsF opCells l, u.oneCell' = true := by
  intro u hu
  unfold cellsF at hu
  simp only [List.mem_flatMap] at hu
  obtain ⟨r, _, h⟩ := hu
  simp only [opCells, List.mem_cons, List.not_mem_nil, or_false] at h
  rcases h with rfl | rfl | rfl | rfl <;> rfl
theorem ownF_nil {w : World} {B : Nat} : OwnF 26 4 opCells w B (.slice none 0 0) [] := ⟨rfl, .inl ⟨rfl, rfl⟩⟩
set_option maxRecDepth 100000 in
set_option maxHeartbeats 4000000 in
theorem iCloneO_any (w : World) (B : Nat) (v : Value) (l : List O) (h : OwnF 26 4 opCells w B v l) (hl : l.length ≤ 1000) : Calls Try.prog 98 #[v] w (MadeF 26 4 opCells w l) := by
  obtain ⟨i0, hi, hz0, hz1, hz2⟩ := info_parts info_Op
  have h' := h
  rcases h.2 with ⟨rfl, h0⟩ | ⟨g, cap, cur, rfl, hb, hg, hn, hm, hc, ht⟩
  · obtain rfl : l = [] := List.length_eq_zero_iff.1 h0
    have hnil : ∀ (w : World), (binOp .eql 71 (.slice none 0 0) (.slice none 0 0)).run Try.prog w = .ok (.bool true) w := fun w => Lib.run_eql_slice_nil w _ _ none 0 0 0 0 Try.underlying71
    clear h h' hl hi hz0 hz1 hz2 h0
    go_enter Try.func98, Try.ntmps98
    go_wp2_with fail
    go_ret
    exact ⟨_, rfl, ownF_nil, Below.refl _ _⟩
  · have HO := Lib.hid h'
    have hnil : ∀ (w : World), (binOp .eql 71 (.slice (some ⟨g, 0, none⟩) l.length cap) (.slice none 0 0)).run Try.prog w = .ok (.bool false) w := fun w => Lib.run_eql_slice_nil w _ _ (some ⟨g, 0, none⟩) l.length cap 0 0 Try.underlying71
    clear h h' hb hg hc ht
    go_enter Try.func98, Try.ntmps98
    go_wp2_with (at_builtin; refine wpList_append_own _ rfl _ _ 71 rfl w.heap.size 26 i0 zeroO.v 4 40 Try.underlying71 hi hz0 hz1 hz2 rfl (by decide) _ _ _ rfl (World.ownsRow_made w #[] 0 (Nat.le_refl _) (Nat.zero_le _) rfl) ⟨g, 0, none⟩ l.length cap (cellsF opCells l) rfl ?qc1 ?qc2 ?qc3 ?qc4 ?qc5 ?qc6 ?_)
    case qc1 => exact HO.out.1
    case qc2 =>
      intro j u hj
      have hjn : j < l.length * 4 := by
        have := (List.getElem?_eq_some_iff.1 hj).1
        rwa [HO.out.1] at this
      have hcell : w.cell? ⟨g, j, none⟩ = some u := (World.ownsRow.cellAt HO.out j hjn).trans hj
      rw [Addr.add_lit, Nat.zero_add]
      exact Lib.cell?_alloc_some _ hcell
    case qc3 => exact opCells_one l
    case qc4 => unfold maxLen; omega
    case qc5 => omega
    case qc6 => simp
    intro v' w1 hown hgrow hnil2
    have HV := Lib.hid hown
    have HG := Lib.hid hgrow
    clear hown hgrow hnil2 hnil hi hz0 hz1 hz2
    go_wp2
    go_ret
    have hv : w1.ownsRow w.heap.size 26 4 v' l.length (cellsF opCells l) := by simpa using HV.out
    have hb : Below w.heap.size w w1 := ((Below.refl _ w).alloc (Nat.le_refl _) _).grown HG.out (by simp) (by intro k hk; simp [Value.ownBlock] at hk; omega)
    exact ⟨v', rfl, hv, hb⟩
set_option maxRecDepth 100000 in
set_option maxHeartbeats 4000000 in
theorem iCloneTodo_any (w : World) (B : Nat) (v : Value) (ls : List (List O)) (h : OwnQ w B v ls) (hl : ls.length ≤ 1000) (hil : ∀ j, j < ls.length → (ls.getD j []).length ≤ 1000) :
    Calls Try.prog 61 #[v] w (MadeQS w ls) := by
  obtain ⟨i0, hi0, hz0, hz1, hz2⟩ := info_parts info_Queue
  obtain ⟨A, cap, rfl, hcm, hcn⟩ := ownQ_shape h
  unfold maxLen at hcm
  have HSRC := Lib.hid (fun W (hb : Below w.heap.size w W) => OwnD.below h hb)
  have HTK := Lib.hid (List.take_length (l := ls))
  have HIL := Lib.hid hil
  have HSN := Lib.hid (fun j (hj : j < ls.length) => show ls.take (j + 1) = ls.take j ++ [ls.getD j []] by
    rw [List.take_add_one, List.getD_eq_getElem?_getD, List.getElem?_eq_getElem hj]; rfl)
  have HTL := Lib.hid (fun j (hj : j ≤ ls.length) => show (ls.take j).length = j by rw [List.length_take]; omega)
  have HAT := Lib.hid (fun W (hb : Below w.heap.size w W) j (hj : j < ls.length) => ownQ_at (OwnD.below h hb) j hj)
  clear h hil
  generalize hn : ls.length = n at *
  have HN := Lib.hid hn
  clear hn
  go_enter Try.func61, Try.ntmps61
  go_wp2_with (refine wpList_make_full _ rfl _ _ 32 rfl w.heap.size 73 i0 (.agg #[.slice none 0 0]) 1 Try.underlying32 hi0 hz0 hz1 .i64 .i64 _ _ n rfl rfl rfl rfl ?c1 ?c2 ?c3 ?_; rotate_left 3; intro w1 hown hg; have HO := Lib.hid hown; have HG := Lib.hid hg; clear hown hg)
  case c1 => rw [hz2]; omega
  case c2 => unfold maxLen; omega
  case c3 => exact Nat.le_refl _
  clear hi0 hz0 hz1 hz2
  go_loopw [11] (fun i wr => ∃ (j : Nat) (vs : List Value), j ≤ n ∧ i = .int .i64 j ∧ vs.length = j ∧ Heap wr w.heap.size (⟨.slice (some ⟨w.heap.size, 0, none⟩) n n, 73, 1, n, vs ++ List.replicate (n - j) (.slice none 0 0)⟩ :: inner 26 4 opCells vs (ls.take j)) ∧ Below w.heap.size w wr) (fun i _ => n - (intOf i).toNat)
  case atStart =>
    refine ⟨0, [], Nat.zero_le _, rfl, rfl, ?_, below_madeF HG.out⟩
    have := HO.out
    rw [show (madeCells (Value.agg #[.slice none 0 0]).cells (n * 1)).toList = List.replicate n (.slice none 0 0) from by rw [Nat.mul_one]; exact toList_madeCells_one _ _] at this
    exact Heap.one this
  case round =>
    obtain ⟨j, vs, hj, rfl, hvs, hh, hbl⟩ := hrel
    by_cases hlt : j < n
    · obtain ⟨b, cp, u0, hA, hb, hu0, ho0⟩ := HAT.out wr hbl j hlt
      injection hA with hA1 hA2 hA3
      subst hA1
      subst hA3
      clear hA2
      have hil0 := HIL.out j hlt
      obtain ⟨A0, cap0, rfl⟩ := ho0.shape
      have HQ := Lib.hid (fun (u : Value) => iCloneO_any (wr.alloc (.cells #[u] 73)) B _ (ls.getD j []) (ho0.alloc _) hil0)
      have HH := Lib.hid (fun o => hh.alloc o)
      have HB := Lib.hid (fun o => hbl.alloc hbl.size o)
      have HZ := Lib.hid hbl.size
      have c0 := hu0
      clear hh hbl hu0 ho0 HAT HSRC
      generalize hm0 : (ls.getD j []).length = m0 at *
      have hjn : (j : Int) < (n : Int) := by omega
      go_wp2_with fail
      refine (HQ.out _).mono ?_
      rintro e w2 ⟨u, rfl, ho, hb2⟩
      obtain ⟨A2, cap2, rfl⟩ := ho.shape
      generalize hq : ls.getD j [] = q at *
      generalize hm2 : q.length = m2 at *
      have HQE := Lib.hid hq
      have HM2 := Lib.hid hm2
      clear hq hm2 hm0
      have HH2 := Lib.hid ((HH.out _).below hb2)
      have HB2 := Lib.hid ((HB.out _).trans (hb2.mono (HB.out _).size))
      have HO2 := Lib.hid ho
      have HS2 := Lib.hid (show wr.heap.size + 1 ≤ w2.heap.size from by have := hb2.size; simpa [go_sem] using this)
      have hr := HH2.out.own _ (List.mem_cons_self)
      obtain ⟨zz, cz⟩ := ownsRow_some hr j (show j < n * 1 by omega)
      have fz := World.ownsRow.frozenAt hr j
      have HLT := Lib.hid (fun r (hr : r ∈ _) b (hb : _ = some b) => (HH.out (.cells #[.slice A0 m0 cap0] 73)).lt hr b hb)
      clear ho hb2 hr
      go_wp2_with fail
      go_roundw
      case rel =>
        have hset := Heap.set (A := []) HH2.out j (.slice A2 m2 cap2)
        have hu : OwnF 26 4 opCells (w2.setCell ⟨w.heap.size, j, none⟩ (.slice A2 m2 cap2)) (wr.alloc (.cells #[.slice A0 m0 cap0] 73)).heap.size (.slice A2 m2 cap2) q := HO2.out.kept hset.2 (.inr (fun e => by have := HO2.out.base_le _ e; have := HZ.out; simp [go_sem] at *; omega))
        have hjo := Heap.join hset.1 (Heap.one (r := ⟨.slice A2 m2 cap2, 26, 4, q.length, cellsF opCells q⟩) hu) (by have := HZ.out; simp [go_sem]; omega) (fun r hr b hb => by
          simp only [List.nil_append] at hr
          rcases List.mem_cons.1 hr with rfl | h2
          · have e : w.heap.size = b := Option.some.inj hb
            have := HZ.out; simp [go_sem]; omega
          · exact HLT.out r (List.mem_cons_of_mem _ h2) b hb)
        refine ⟨j + 1, vs ++ [.slice A2 m2 cap2], by omega, by go_num, by simp [hvs], ?_, HB2.out.setCell (Nat.le_refl _) _⟩
        have e1 := set_fill vs (.slice none 0 0) (.slice A2 m2 cap2) (n - j) (by omega)
        rw [hvs] at e1
        rw [show n - (j + 1) = n - j - 1 by omega, HSN.out j hlt, HQE.out]
        unfold inner
        rw [zipWith_snoc _ _ _ _ _ (by rw [hvs, HTL.out j (by omega)]), ← e1]
        exact hjo
      case measure => simp [intOf]; omega
    · have hjn : j = n := by omega
      subst hjn
      have HH2 := Lib.hid hh
      have HB2 := Lib.hid hbl
      clear hh hbl
      go_wp2_with fail
      go_ret
      refine ⟨_, rfl, ⟨vs, by rw [hvs, HN.out], ?_⟩, HB2.out⟩
      have := HH2.out
      rw [HTK.out, Nat.sub_self, List.replicate_zero, List.append_nil] at this
      rw [HN.out]
      exact this
end Go.Proofs.Ytfemdhknnfmpcaa

/-
  Texts of this seat, laid together.
-/
import Derived.Test.YtnlepnfdgdbkoaaGreatDoorYMbd
import Derived.Test.YtnlepnfdgdbkoaaGreatDoorYDrF
import Derived.Test.YtnlepnfdgdbkoaaGreatDoorYMf
import Derived.Test.YtnlepnfdgdbkoaaGreatDoorYZa
import Derived.Test.YtnlepnfdgdbkoaaGreatDoorYDrU
import Derived.Test.YtnlepnfdgdbkoaaGreatDoorYDrN
import Derived.Test.YtnlepnfdgdbkoaaGreatDoorYZb
import Derived.Lib.SliceRun
import Derived.Maps.AppendAt
import Derived.Laws.AppendOwnNone
import Derived.OwnWalk
import Derived.OpenShut
import Derived.ProofKit
import Derived.BigQuiet
import Derived.Lib.Walk
import Derived.Laws.AppendOwn
import Derived.Deep.QuietTactic
import Derived.BigGuardPart
namespace Go.Proofs.YtnlepnfdgdbkoaaGreatDoor
open Go.RowKit M
set_option linter.unusedVariables false
set_option linter.unusedSimpArgs false
def MadeEvS (w : World) (l : List E) (e : Ending) (w' : World) : Prop := ∃ v, e = .returned v ∧ OwnY 39 13 evDat w' w.heap.size w'.heap.size v l ∧ Below w.heap.size w w'
end Go.Proofs.YtnlepnfdgdbkoaaGreatDoor
namespace Go.Proofs.YtnlepnfdgdbkoaaGreatDoor
open Go.RowKit M
set_option linter.unusedVariables false
set_option linter.unusedSimpArgs false
def intRw (v : Value) (zs : List Int) : Rw := ⟨v, 3, 1, zs.length, zs.map (Value.int .i64)⟩
def worVals (s : S) (vc vj vt vl : Value) : Array Value := #[vc, vj, vt, vl, .int .i64 s.serial, .int .i64 s.now]
structure WorIn (w : World) (s : S) (vc vj vt vl : Value) : Prop where
  c : IntsArg w vc s.cells
  j : ArgT 18 jobDat zeroJ w vj s.jobs
  t : ArgQ w vt s.todo
  l : ArgT 13 evDat zeroE w vl s.log
theorem WorIn.below {w w' : World} {s : S} {vc vj vt vl : Value} (h : WorIn w s vc vj vt vl) (hb : Below w.heap.size w w') : WorIn w' s vc vj vt vl := ⟨h.c.below hb, h.j.below hb, h.t.below hb, h.l.below hb⟩
structure SmallS (s : S) : Prop where
  c : s.cells.length ≤ 1048576
  j : s.jobs.length ≤ 1048576
  jk : ∀ j, j < s.jobs.length → (s.jobs.getD j zeroJ).keys.length ≤ 1048576 ∧ (s.jobs.getD j zeroJ).raw.length ≤ 1048576
  t : s.todo.length ≤ 1048576
  tk : ∀ j, j < s.todo.length → (s.todo.getD j []).length ≤ 1048576
  l : s.log.length ≤ 1048576
  lk : ∀ j, j < s.log.length → (s.log.getD j zeroE).rows.length ≤ 1048576
end Go.Proofs.YtnlepnfdgdbkoaaGreatDoor
namespace Go.Proofs.YtnlepnfdgdbkoaaGreatDoor
open Go.RowKit M
set_option linter.unusedVariables false
theorem below_oneL (w : World) (o : Obj) : Below w.heap.size w (w.alloc o) := (Below.refl _ _).alloc (Nat.le_refl _) o
theorem opCells_size (r : O) : (opCells r).size = 4 := rfl
theorem heapE_ints {w : World} {B E : Nat} {v : Value} {zs : List Int} (h : HeapE w B E [intRw v zs]) : IntsArg w v zs := by
  have ho : w.ownsRow B 3 1 v zs.length (zs.map (Value.int .i64)) := h.1.own (intRw v zs) (List.mem_singleton.2 rfl)
  have h' := ho
  rcases ho.2 with ⟨rfl, h0⟩ | ⟨g, cap, cur, rfl, hb, hg, hn, hm, hc, ht⟩
  · have e : zs = [] := List.length_eq_zero_iff.1 h0
    subst e; exact IntsArg.nil w
  · refine ⟨_, cap, rfl, hn, hm, fun _ => ⟨g, 0, rfl, (World.ownsRow.lt h' g rfl).2, fun j hj => ?_⟩⟩
    rw [Nat.zero_add, World.ownsRow.cellAt h' j (by omega), List.getElem?_map, List.getElem?_eq_getElem hj, List.getD_eq_getElem?_getD, List.getElem?_eq_getElem hj]
    rfl
end Go.Proofs.YtnlepnfdgdbkoaaGreatDoor
namespace Go.Proofs.YtnlepnfdgdbkoaaGreatDoor
open Go.RowKit M
set_option linter.unusedVariables false
set_option linter.unusedSimpArgs false
theorem ownQ_at {w : World} {B : Nat} {v : Value} {ls : List (List O)} (h : OwnQ w B v ls) (j : Nat) (hj : j < ls.length) : ∃ b cap u, v = .slice (some ⟨b, 0, none⟩) ls.length cap ∧ b < w.heap.size ∧ w.cell? ⟨b, j, none⟩ = some u ∧ OwnF 36 4 opCells w B u (ls.getD j []) := by
  obtain ⟨vs, hv, hh⟩ := h
  have ho := hh.own _ List.mem_cons_self
  have ho' : w.ownsRow B 46 1 v ls.length vs := ho
  rcases ho'.2 with ⟨_, h0⟩ | ⟨g, cap, cur, rfl, hb, hg, hn, hm, hc, ht⟩
  · omega
  · refine ⟨g, cap, vs.getD j undef, rfl, (World.ownsRow.lt ho' g rfl).2, ?_, hh.own _ (List.mem_cons_of_mem _ (inner_at hv j hj undef))⟩
    rw [World.ownsRow.cellAt ho' j (by omega), List.getD_eq_getElem?_getD, List.getElem?_eq_getElem (by rw [hv]; exact hj)]
    rfl
theorem ownQ_shape {w : World} {B : Nat} {v : Value} {ls : List (List O)} (h : OwnQ w B v ls) : ∃ A cap, v = .slice A ls.length cap ∧ cap ≤ maxLen ∧ ls.length ≤ cap := by
  obtain ⟨vs, hv, hh⟩ := h
  have ho' : w.ownsRow B 46 1 v ls.length vs := hh.own _ List.mem_cons_self
  rcases ho'.2 with ⟨rfl, h0⟩ | ⟨g, cap, cur, rfl, hb, hg, hn, hm, hc, ht⟩
  · exact ⟨none, 0, by rw [h0], Nat.zero_le _, by omega⟩
  · exact ⟨_, cap, rfl, hm, hn⟩
theorem opCells_one (l : List O) : ∀ u ∈ cellsF opCells l, u.oneCell' = true := by
  intro u hu
  unfold cellsF at hu
  simp only [List.mem_flatMap] at hu
  obtain ⟨r, _, h⟩ := hu
  simp only [opCells, List.mem_cons, List.not_mem_nil, or_false] at h
  rcases h with rfl | rfl | rfl | rfl <;> rfl
theorem ownF_nil {w : World} {B : Nat} : OwnF 36 4 opCells w B (.slice none 0 0) [] := ⟨rfl, .inl ⟨rfl, rfl⟩⟩
set_option maxRecDepth 100000 in
set_option maxHeartbeats 4000000 in
theorem iCloneO_any (w : World) (B : Nat) (v : Value) (l : List O) (h : OwnF 36 4 opCells w B v l) (hl : l.length ≤ 1000) : Calls Tryz.prog 38 #[v] w (MadeF 36 4 opCells w l) := by
  obtain ⟨i0, hi, hz0, hz1, hz2⟩ := info_parts info_Op
  have h' := h
  rcases h.2 with ⟨rfl, h0⟩ | ⟨g, cap, cur, rfl, hb, hg, hn, hm, hc, ht⟩
  · obtain rfl : l = [] := List.length_eq_zero_iff.1 h0
    have hnil : ∀ (w : World), (binOp .eql 44 (.slice none 0 0) (.slice none 0 0)).run Tryz.prog w = .ok (.bool true) w := fun w => Lib.run_eql_slice_nil w _ _ none 0 0 0 0 Tryz.underlying44
    clear h h' hl hi hz0 hz1 hz2 h0
    go_enter Tryz.func38, Tryz.ntmps38
    go_wp2_with fail
    go_ret
    exact ⟨_, rfl, ownF_nil, Below.refl _ _⟩
  · have HO := Lib.hid h'
    have hnil : ∀ (w : World), (binOp .eql 44 (.slice (some ⟨g, 0, none⟩) l.length cap) (.slice none 0 0)).run Tryz.prog w = .ok (.bool false) w := fun w => Lib.run_eql_slice_nil w _ _ (some ⟨g, 0, none⟩) l.length cap 0 0 Tryz.underlying44
    clear h h' hb hg hc ht
    go_enter Tryz.func38, Tryz.ntmps38
    go_wp2_with (at_builtin; refine wpList_append_own _ rfl _ _ 44 rfl w.heap.size 36 i0 zeroO.v 4 40 Tryz.underlying44 hi hz0 hz1 hz2 rfl (by decide) _ _ _ rfl (World.ownsRow_made w #[] 0 (Nat.le_refl _) (Nat.zero_le _) rfl) ⟨g, 0, none⟩ l.length cap (cellsF opCells l) rfl ?qc1 ?qc2 ?qc3 ?qc4 ?qc5 ?qc6 ?_)
    case qc1 => exact HO.out.1
    case qc2 =>
      intro j u hj
      have hjn : j < l.length * 4 := by
        have := (List.getElem?_eq_some_iff.1 hj).1
        rwa [HO.out.1] at this
      have hcell : w.cell? ⟨g, j, none⟩ = some u := (World.ownsRow.cellAt HO.out j hjn).trans hj
      rw [Addr.add_lit, Nat.zero_add]
      exact Lib.cell?_alloc_some _ hcell
    case qc3 => exact opCells_one l
    case qc4 => unfold maxLen; omega
    case qc5 => omega
    case qc6 => simp
    intro v' w1 hown hgrow hnil2
    have HV := Lib.hid hown
    have HG := Lib.hid hgrow
    clear hown hgrow hnil2 hnil hi hz0 hz1 hz2
    go_wp2
    go_ret
    have hv : w1.ownsRow w.heap.size 36 4 v' l.length (cellsF opCells l) := by simpa using HV.out
    have hb : Below w.heap.size w w1 := ((Below.refl _ w).alloc (Nat.le_refl _) _).grown HG.out (by simp) (by intro k hk; simp [Value.ownBlock] at hk; omega)
    exact ⟨v', rfl, hv, hb⟩
set_option maxRecDepth 100000 in
set_option maxHeartbeats 4000000 in
theorem iCloneTodo_any (w : World) (B : Nat) (v : Value) (ls : List (List O)) (h : OwnQ w B v ls) (hl : ls.length ≤ 1000) (hil : ∀ j, j < ls.length → (ls.getD j []).length ≤ 1000) :
    Calls Tryz.prog 25 #[v] w (MadeQS w ls) := by
  obtain ⟨i0, hi0, hz0, hz1, hz2⟩ := info_parts info_Queue
  obtain ⟨A, cap, rfl, hcm, hcn⟩ := ownQ_shape h
  unfold maxLen at hcm
  have HSRC := Lib.hid (fun W (hb : Below w.heap.size w W) => OwnD.below h hb)
  have HTK := Lib.hid (List.take_length (l := ls))
  have HIL := Lib.hid hil
  have HSN := Lib.hid (fun j (hj : j < ls.length) => show ls.take (j + 1) = ls.take j ++ [ls.getD j []] by
    rw [List.take_add_one, List.getD_eq_getElem?_getD, List.getElem?_eq_getElem hj]; rfl)
  have HTL := Lib.hid (fun j (hj : j ≤ ls.length) => show (ls.take j).length = j by rw [List.length_take]; omega)
  have HAT := Lib.hid (fun W (hb : Below w.heap.size w W) j (hj : j < ls.length) => ownQ_at (OwnD.below h hb) j hj)
  clear h hil
  generalize hn : ls.length = n at *
  have HN := Lib.hid hn
  clear hn
  go_enter Tryz.func25, Tryz.ntmps25
  go_wp2_with (refine wpList_make_full _ rfl _ _ 24 rfl w.heap.size 46 i0 (.agg #[.slice none 0 0]) 1 Tryz.underlying24 hi0 hz0 hz1 .i64 .i64 _ _ n rfl rfl rfl rfl ?c1 ?c2 ?c3 ?_; rotate_left 3; intro w1 hown hg; have HO := Lib.hid hown; have HG := Lib.hid hg; clear hown hg)
  case c1 => rw [hz2]; omega
  case c2 => unfold maxLen; omega
  case c3 => exact Nat.le_refl _
  clear hi0 hz0 hz1 hz2
  go_loopw [11] (fun i wr => ∃ (j : Nat) (vs : List Value), j ≤ n ∧ i = .int .i64 j ∧ vs.length = j ∧ Heap wr w.heap.size (⟨.slice (some ⟨w.heap.size, 0, none⟩) n n, 46, 1, n, vs ++ List.replicate (n - j) (.slice none 0 0)⟩ :: inner 36 4 opCells vs (ls.take j)) ∧ Below w.heap.size w wr) (fun i _ => n - (intOf i).toNat)
  case atStart =>
    refine ⟨0, [], Nat.zero_le _, rfl, rfl, ?_, below_madeF HG.out⟩
    have := HO.out
    rw [show (madeCells (Value.agg #[.slice none 0 0]).cells (n * 1)).toList = List.replicate n (.slice none 0 0) from by rw [Nat.mul_one]; exact toList_madeCells_one _ _] at this
    exact Heap.one this
  case round =>
    obtain ⟨j, vs, hj, rfl, hvs, hh, hbl⟩ := hrel
    by_cases hlt : j < n
    · obtain ⟨b, cp, u0, hA, hb, hu0, ho0⟩ := HAT.out wr hbl j hlt
      injection hA with hA1 hA2 hA3
      subst hA1
      subst hA3
      clear hA2
      have hil0 := HIL.out j hlt
      obtain ⟨A0, cap0, rfl⟩ := ho0.shape
      have HQ := Lib.hid (fun (u : Value) => iCloneO_any (wr.alloc (.cells #[u] 46)) B _ (ls.getD j []) (ho0.alloc _) hil0)
      have HH := Lib.hid (fun o => hh.alloc o)
      have HB := Lib.hid (fun o => hbl.alloc hbl.size o)
      have HZ := Lib.hid hbl.size
      have c0 := hu0
      clear hh hbl hu0 ho0 HAT HSRC
      generalize hm0 : (ls.getD j []).length = m0 at *
      have hjn : (j : Int) < (n : Int) := by omega
      go_wp2_with fail
      refine (HQ.out _).mono ?_
      rintro e w2 ⟨u, rfl, ho, hb2⟩
      obtain ⟨A2, cap2, rfl⟩ := ho.shape
      generalize hq : ls.getD j [] = q at *
      generalize hm2 : q.length = m2 at *
      have HQE := Lib.hid hq
      have HM2 := Lib.hid hm2
      clear hq hm2 hm0
      have HH2 := Lib.hid ((HH.out _).below hb2)
      have HB2 := Lib.hid ((HB.out _).trans (hb2.mono (HB.out _).size))
      have HO2 := Lib.hid ho
      have HS2 := Lib.hid (show wr.heap.size + 1 ≤ w2.heap.size from by have := hb2.size; simpa [go_sem] using this)
      have hr := HH2.out.own _ (List.mem_cons_self)
      obtain ⟨zz, cz⟩ := ownsRow_some hr j (show j < n * 1 by omega)
      have fz := World.ownsRow.frozenAt hr j
      have HLT := Lib.hid (fun r (hr : r ∈ _) b (hb : _ = some b) => (HH.out (.cells #[.slice A0 m0 cap0] 46)).lt hr b hb)
      clear ho hb2 hr
      go_wp2_with fail
      go_roundw
      case rel =>
        have hset := Heap.set (A := []) HH2.out j (.slice A2 m2 cap2)
        have hu : OwnF 36 4 opCells (w2.setCell ⟨w.heap.size, j, none⟩ (.slice A2 m2 cap2)) (wr.alloc (.cells #[.slice A0 m0 cap0] 46)).heap.size (.slice A2 m2 cap2) q := HO2.out.kept hset.2 (.inr (fun e => by have := HO2.out.base_le _ e; have := HZ.out; simp [go_sem] at *; omega))
        have hjo := Heap.join hset.1 (Heap.one (r := ⟨.slice A2 m2 cap2, 36, 4, q.length, cellsF opCells q⟩) hu) (by have := HZ.out; simp [go_sem]; omega) (fun r hr b hb => by
          simp only [List.nil_append] at hr
          rcases List.mem_cons.1 hr with rfl | h2
          · have e : w.heap.size = b := Option.some.inj hb
            have := HZ.out; simp [go_sem]; omega
          · exact HLT.out r (List.mem_cons_of_mem _ h2) b hb)
        refine ⟨j + 1, vs ++ [.slice A2 m2 cap2], by omega, by go_num, by simp [hvs], ?_, HB2.out.setCell (Nat.le_refl _) _⟩
        have e1 := set_fill vs (.slice none 0 0) (.slice A2 m2 cap2) (n - j) (by omega)
        rw [hvs] at e1
        rw [show n - (j + 1) = n - j - 1 by omega, HSN.out j hlt, HQE.out]
        unfold inner
        rw [zipWith_snoc _ _ _ _ _ (by rw [hvs, HTL.out j (by omega)]), ← e1]
        exact hjo
      case measure => simp [intOf]; omega
    · have hjn : j = n := by omega
      subst hjn
      have HH2 := Lib.hid hh
      have HB2 := Lib.hid hbl
      clear hh hbl
      go_wp2_with fail
      go_ret
      refine ⟨_, rfl, ⟨vs, by rw [hvs, HN.out], ?_⟩, HB2.out⟩
      have := HH2.out
      rw [HTK.out, Nat.sub_self, List.replicate_zero, List.append_nil] at this
      rw [HN.out]
      exact this
end Go.Proofs.YtnlepnfdgdbkoaaGreatDoor
namespace Go.Proofs.YtnlepnfdgdbkoaaGreatDoor
open Go.RowKit M
set_option linter.unusedVariables false
set_option linter.unusedSimpArgs false
def Gath (w0 : World) (ls : List (List O)) (j : Nat) (v : Value) (w : World) : Prop := ∃ vs : List Value, vs.length = j ∧ Heap w w0.heap.size (⟨v, 46, 1, j, vs⟩ :: inner 36 4 opCells vs (ls.take j)) ∧ Below w0.heap.size w0 w
theorem Gath.len {w0 w : World} {ls : List (List O)} {j : Nat} {v : Value} (h : Gath w0 ls j v w) : h.choose.length = j := h.choose_spec.1
theorem Gath.b {w0 w : World} {ls : List (List O)} {j : Nat} {v : Value} (h : Gath w0 ls j v w) : Below w0.heap.size w0 w := h.choose_spec.2.2
theorem Gath.row {w0 w : World} {ls : List (List O)} {j : Nat} {v : Value} (h : Gath w0 ls j v w) {w' : World} (hb : Below w.heap.size w w') : w'.ownsRow w0.heap.size 46 1 v j h.choose := (h.choose_spec.2.1.below hb).own _ List.mem_cons_self
theorem Gath.next {w0 w w' w2 : World} {ls : List (List O)} {j : Nat} {v v' u : Value} {q : List O} (h : Gath w0 ls j v w) (hb : Below w.heap.size w w') (hj : j < ls.length) (hq : ls.getD j [] = q)
    (hu : OwnF 36 4 opCells w' w.heap.size u q) (hr : (⟨v', 46, 1, j + 1, ((h.choose) ++ [u])⟩ : Rw).own w2 w0.heap.size) (hg : w'.grownBy w2 v.ownBlock) (hv : v'.ownBlock = v.ownBlock ∨ ∀ k, v'.ownBlock = some k → w'.heap.size ≤ k) : Gath w0 ls (j + 1) v' w2 := by
  have hs := h.choose_spec
  generalize h.choose = vs at *
  obtain ⟨h1, h2, h3⟩ := hs
  have hh := Heap.join (h2.below hb) (Heap.one (r := ⟨u, 36, 4, q.length, cellsF opCells q⟩) hu) h3.size (fun r hr b hb => h2.lt hr b hb)
  refine ⟨vs ++ [u], by simp [h1], ?_, ?_⟩
  · have ht := Heap.turn (A := []) hh hg hr hv
    rw [show ls.take (j + 1) = ls.take j ++ [q] by rw [List.take_add_one, ← hq, List.getD_eq_getElem?_getD, List.getElem?_eq_getElem hj]; rfl]
    unfold inner at ht ⊢
    rw [zipWith_snoc _ _ _ _ _ (by rw [h1, List.length_take]; omega)]
    exact ht
  · refine (h3.trans (hb.mono h3.size)).grown hg (Nat.le_trans h3.size hb.size) (fun k hk => ?_)
    exact h2.base_le (List.mem_cons_self) k hk
end Go.Proofs.YtnlepnfdgdbkoaaGreatDoor
namespace Go.Proofs.YtnlepnfdgdbkoaaGreatDoor
open Go.RowKit M
set_option linter.unusedVariables false
set_option linter.unusedSimpArgs false
end Go.Proofs.YtnlepnfdgdbkoaaGreatDoor
namespace Go.Proofs.YtnlepnfdgdbkoaaGreatDoor
open Go.RowKit M
set_option linter.unusedVariables false
set_option linter.unusedSimpArgs false
end Go.Proofs.YtnlepnfdgdbkoaaGreatDoor
namespace Go.Proofs.YtnlepnfdgdbkoaaGreatDoor
open Go.RowKit M
set_option linter.unusedVariables false
set_option linter.unusedSimpArgs false
def NewR (w : World) (rs : List R) (e : Ending) (w' : World) : Prop := ∃ g cap, e = .returned (.slice (some ⟨g, 0, none⟩) rs.length cap) ∧ OwnR w' w.heap.size (.slice (some ⟨g, 0, none⟩) rs.length cap) rs ∧ Below w.heap.size w w'
set_option maxRecDepth 100000 in
set_option maxHeartbeats 4000000 in
theorem iCloneR_any (w : World) (base g n cap : Nat) (rs : List R) (h : OwnR w base (.slice (some ⟨g, 0, none⟩) n cap) rs) (hn : rs.length = n) (h19 : n ≤ 1000) :
    Calls Tryz.prog 42 #[.slice (some ⟨g, 0, none⟩) n cap] w (NewR w rs) := by
  obtain ⟨i0, hi, hz0, hz1, hz2⟩ := info_parts info_row
  obtain ⟨hc1, hc2⟩ := h.capLe hn
  have hlt := h.inB.2
  have HO := Lib.hid h
  have HN := Lib.hid hn
  clear h hn
  have hnil : ∀ (w : World), (binOp .eql 37 (.slice (some ⟨g, 0, none⟩) n cap) (.slice none 0 0)).run Tryz.prog w = .ok (.bool false) w := fun w => Lib.run_eql_slice_nil w _ _ (some ⟨g, 0, none⟩) n cap 0 0 Tryz.underlying37
  go_enter Tryz.func42, Tryz.ntmps42
  go_wp2_with (at_builtin; refine wpList_append_own _ rfl _ _ 37 rfl w.heap.size 55 i0 zeroR.v 10 88 Tryz.underlying37 hi hz0 hz1 hz2 rfl (by decide) _ _ _ rfl (World.ownsRow_made w #[] 0 (Nat.le_refl _) (Nat.zero_le _) rfl) ⟨g, 0, none⟩ n cap (cellsR rs) rfl ?qc1 ?qc2 ?qc3 ?qc4 ?qc5 ?qc6 ?_)
  case qc1 => rw [cellsR_length, HN.out]
  case qc2 =>
    intro j u hj
    have hjn : j < rs.length * 10 := by
      have := (List.getElem?_eq_some_iff.1 hj).1
      rwa [cellsR_length] at this
    have e : j = j / 10 * 10 + j % 10 := by omega
    have hrow := HO.out.at HN.out (j / 10) (by rw [HN.out] at hjn; omega) (j % 10) (by omega)
    rw [← cellsR_at rs (j / 10) (j % 10) (by omega) (by omega), ← e] at hrow
    rw [Addr.add_lit, Nat.zero_add]
    exact Lib.cell?_alloc_some _ (hrow.trans hj)
  case qc3 => exact cellsR_one rs
  case qc4 => unfold maxLen; omega
  case qc5 => omega
  case qc6 => simp
  intro v' w1 hown hgrow hnil2
  have HV := Lib.hid hown
  have HG := Lib.hid hgrow
  have HNI := Lib.hid hnil2
  clear hown hgrow hnil2 hnil hi hz0 hz1 hz2
  go_wp2
  go_ret
  have hv : w1.ownsRow w.heap.size 55 10 v' n (cellsR rs) := by simpa using HV.out
  have hb : Below w.heap.size w w1 := ((Below.refl _ w).alloc (Nat.le_refl _) _).grown HG.out (by simp) (by intro k hk; simp [Value.ownBlock] at hk; omega)
  rcases hv.2 with ⟨e, _⟩ | ⟨g', cap', cur, e, _⟩
  · exact absurd e HNI.out
  · subst e
    refine ⟨g', cap', by rw [HN.out]; rfl, ?_, hb⟩
    unfold OwnR
    rw [HN.out]
    exact hv
theorem FitR.filter {rs : List R} (h : FitR rs) : ∀ r ∈ rs, r.Fit := fun r hr => by
  obtain ⟨j, hj, e⟩ := List.getElem_of_mem hr
  have := h j hj
  rw [List.getD_eq_getElem?_getD, List.getElem?_eq_getElem hj, Option.getD_some, e] at this
  exact this
set_option maxRecDepth 100000 in
set_option maxHeartbeats 4000000 in
theorem iReportOf_any (w : World) (base g n cap : Nat) (rs : List R) (h : OwnR w base (.slice (some ⟨g, 0, none⟩) n cap) rs) (hn : rs.length = n) (h19 : n ≤ 19) (hf : FitR rs) :
    Calls Tryz.prog 125 #[.slice (some ⟨g, 0, none⟩) n cap] w (MadeR w (oneV (sortV (rs.filter fun r => !quietV r)))) := by
  have HC := Lib.hid (iCloneR_any w base g n cap rs h hn (by omega))
  have HN := Lib.hid hn
  have HF := Lib.hid hf
  clear h hn hf
  go_enter Tryz.func125, Tryz.ntmps125
  go_wp2_with fail
  refine HC.out.mono ?_
  rintro e w1 ⟨g1, cap1, rfl, ho1, hb1⟩
  rw [HN.out] at ho1
  have HD := Lib.hid (iDel_any w1 w.heap.size g1 n cap1 rs ho1 HN.out HF.out)
  have HB1 := Lib.hid hb1
  have hge := ho1.inB.1
  clear ho1 hb1 HC
  rw [HN.out]
  go_wp2_with fail
  refine HD.out.mono ?_
  rintro e w2 ⟨n2, hn2, rfl, ho2, hg2⟩
  have hl2 : n2 ≤ 19 := by
    have := List.length_filter_le (fun r => !quietV r) rs
    rw [HN.out] at this; omega
  have HS := Lib.hid (iSort_any w2 w.heap.size g1 n2 cap1 _ ho2 hn2.symm hl2)
  have HB2 := Lib.hid (HB1.out.grown hg2 HB1.out.size (by intro _ h; cases h; exact hge))
  have HN2 := Lib.hid hn2
  clear ho2 hg2 HD HB1 hn2
  go_wp2_with fail
  refine HS.out.mono ?_
  rintro e w3 ⟨rfl, ho3, hg3⟩
  have HK := Lib.hid (iCompact_any w3 w.heap.size g1 n2 cap1 _ ho3 (by rw [sortV_length]; exact HN2.out.symm))
  have HB3 := Lib.hid (HB2.out.grown hg3 HB2.out.size (by intro _ h; cases h; exact hge))
  clear ho3 hg3 HS HB2
  go_wp2_with fail
  refine HK.out.mono ?_
  rintro e w4 ⟨n4, hn4, rfl, ho4, hg4⟩
  have HO4 := Lib.hid ho4
  have HB4 := Lib.hid (HB3.out.grown hg4 HB3.out.size (by intro _ h; cases h; exact hge))
  clear ho4 hg4 HK HB3 hn4
  go_wp2_with fail
  go_ret
  exact ⟨_, rfl, HO4.out, HB4.out⟩
end Go.Proofs.YtnlepnfdgdbkoaaGreatDoor
namespace Go.Proofs.YtnlepnfdgdbkoaaGreatDoor
open Go.RowKit M
set_option linter.unusedVariables false
set_option linter.unusedSimpArgs false
theorem inW_small {x : Int} (h0 : -1000000000000000 ≤ x) (h1 : x ≤ 1000000000000000) : inW x := by unfold inW; omega
theorem drop_fit {r : R} (h : r.Fit) (t : Int) : (dropRow r t).Fit := by
  unfold dropRow
  split
  · obtain ⟨g0, g1, g2, g3, g4, g5, g6, g7, g8⟩ := h
    rename_i hc
    exact ⟨g0, g1, g2, g3, g4, g5, g6, g7, by show inW (if t - 3 < 65535 then t - 3 else 65535); split <;> exact inW_small (by omega) (by omega)⟩
  · exact h
theorem rowFrom_fit (tag : Int) (raw : List Int) : (rowFromV tag raw).Fit := by
  have hz : zeroR.Fit := by constructor <;> (try unfold inW) <;> (try simp only [zeroR]) <;> first | (unfold maxLen; decide) | omega
  cases hu : untagV tag with
  | none => rw [rowFrom_none hu]; exact hz
  | some x =>
    by_cases hl : raw.length = 8
    · obtain ⟨key, kd⟩ := x
      obtain ⟨_, hko, hk1, hk3⟩ := tag_untag hu
      have hk : key.size ≤ maxLen := by have := keyOkV_iff.1 hko; unfold maxLen; omega
      rw [rowFrom_some hu hl]
      have hk : kd = 1 ∨ kd = 2 ∨ kd = 3 := by omega
      rcases hk with rfl | rfl | rfl
      · have := sumT_bd raw 2
        show (countRow key raw).Fit
        constructor <;> (try unfold inW) <;> (try simp only [countRow, zeroR]) <;> first | assumption | omega
      · show (gaugeRow key raw).Fit
        have hv : 0 ≤ ungV (raw.getD 3 0) ∧ ungV (raw.getD 3 0) ≤ 65535 := by unfold ungV; split <;> omega
        constructor <;> (try unfold inW) <;> (try simp only [gaugeRow, zeroR]) <;> first | assumption | omega
      · show (timerRow key raw).Fit
        refine drop_fit (ring_fit ?_ _ _) _
        constructor <;> (try unfold inW) <;> (try simp only [zeroR]) <;> first | assumption | omega
    · rw [rowFrom_len hu hl]; exact hz
theorem ring_kind (r : R) (raw : List Int) (k : Nat) : (ringV r raw k).kind = r.kind := by
  have hs : ∀ (r : R) (v : Int), (sampledV r v).kind = r.kind := fun r v => by unfold sampledV; repeat' split
                                                                               all_goals rfl
  induction k with
  | zero => rfl
  | succ k ih => unfold ringV; split; rw [hs, ih]; exact ih
theorem rowFrom_kind (tag : Int) (raw : List Int) (h : quietV (rowFromV tag raw) = false) : (rowFromV tag raw).kind ≠ 0 := by
  cases hu : untagV tag with
  | none => rw [rowFrom_none hu] at h; cases h
  | some x =>
    by_cases hl : raw.length = 8
    · obtain ⟨key, kd⟩ := x
      obtain ⟨_, hko, hk1, hk3⟩ := tag_untag hu
      rw [rowFrom_some hu hl]
      have hk : kd = 1 ∨ kd = 2 ∨ kd = 3 := by omega
      rcases hk with rfl | rfl | rfl
      · show (1 : Int) ≠ 0; decide
      · show (2 : Int) ≠ 0; decide
      · show (timerRow key raw).kind ≠ 0
        unfold timerRow dropRow
        split
        · show (ringV _ _ _).kind ≠ 0
          rw [ring_kind]; show (3 : Int) ≠ 0; decide
        · rw [ring_kind]; show (3 : Int) ≠ 0; decide
    · rw [rowFrom_len hu hl] at h; cases h
theorem OwnR.lower {w : World} {base base' : Nat} {v : Value} {rs : List R} (h : OwnR w base v rs) (hb : base' ≤ base) : OwnR w base' v rs := by
  refine ⟨h.1, ?_⟩
  rcases h.2 with k | ⟨g, cap, cur, k1, k2, k3⟩
  · exact .inl k
  · exact .inr ⟨g, cap, cur, k1, Nat.le_trans hb k2, k3⟩
end Go.Proofs.YtnlepnfdgdbkoaaGreatDoor
namespace Go.Proofs.YtnlepnfdgdbkoaaGreatDoor
open Go.RowKit M
set_option linter.unusedVariables false
theorem getD_set_ne {l : List Int} {i j : Nat} (x : Int) (h : i ≠ j) : (l.set i x).getD j 0 = l.getD j 0 := by simp [List.getD_eq_getElem?_getD, List.getElem?_set_ne h]
end Go.Proofs.YtnlepnfdgdbkoaaGreatDoor
namespace Go.Proofs.YtnlepnfdgdbkoaaGreatDoor
open Go.RowKit M
set_option linter.unusedVariables false
set_option linter.unusedSimpArgs false
end Go.Proofs.YtnlepnfdgdbkoaaGreatDoor

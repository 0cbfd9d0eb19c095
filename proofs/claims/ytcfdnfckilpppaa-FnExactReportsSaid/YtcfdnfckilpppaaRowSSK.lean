/-
  The exact laws' marks on rows of rows, and the look whether they are held.
-/
import Derived.Test.YtcfdnfckilpppaaZb
import Derived.Test.YtcfdnfckilpppaaRowK
namespace Go.Proofs.Ytcfdnfckilpppaa
open Go.RowKit M
set_option linter.unusedVariables false
set_option linter.unusedSimpArgs false
/-- Rows marked from k on; where the marks end. -/
def marksRS : Int → List (List R) → List (List R)
  | _, [] => []
  | k, q :: qs => marksRow k q.length :: marksRS (k + 10 * (q.length : Int)) qs
def endRS : Int → List (List R) → Int
  | k, [] => k
  | k, q :: qs => endRS (k + 10 * (q.length : Int)) qs
theorem marksRS_length (k : Int) (ls : List (List R)) : (marksRS k ls).length = ls.length := by
  induction ls generalizing k with
  | nil => rfl
  | cons q qs ih => simp only [marksRS, List.length_cons, ih]
theorem marksRS_snoc (k : Int) (ls : List (List R)) (q : List R) : marksRS k (ls ++ [q]) = marksRS k ls ++ [marksRow (endRS k ls) q.length] := by
  induction ls generalizing k with
  | nil => rfl
  | cons p ls ih => simp only [List.cons_append, marksRS, endRS, ih]
theorem endRS_snoc (k : Int) (ls : List (List R)) (q : List R) : endRS k (ls ++ [q]) = endRS k ls + 10 * (q.length : Int) := by
  induction ls generalizing k with
  | nil => rfl
  | cons p ls ih => simp only [List.cons_append, endRS, ih]
/-- How many rows there are. -/
def totR (ls : List (List R)) : Nat := (ls.map List.length).sum
theorem endRS_tot (k : Int) (ls : List (List R)) : endRS k ls = k + 10 * (totR ls : Int) := by
  induction ls generalizing k with
  | nil => simp [endRS, totR]
  | cons q qs ih => simp only [endRS, ih, totR, List.map_cons, List.sum_cons]; omega
theorem totR_take (ls : List (List R)) (j : Nat) (hj : j < ls.length) : totR (ls.take j) + (ls.getD j []).length ≤ totR ls := by
  have e : ls = ls.take j ++ (ls.getD j [] :: ls.drop (j + 1)) := by
    rw [List.getD_eq_getElem?_getD, List.getElem?_eq_getElem hj, Option.getD_some, ← List.drop_eq_getElem_cons hj, List.take_append_drop]
  have : totR ls = totR (ls.take j) + ((ls.getD j []).length + totR (ls.drop (j + 1))) := by
    conv => lhs; rw [e]
    simp [totR]
  omega
def MarkedRS (w : World) (B E : Nat) (v : Value) (k : Int) (ls : List (List R)) (e : Ending) (w' : World) : Prop :=
  e = .returned (.int .i64 (endRS k ls)) ∧ OwnDE 54 62 10 rowCells w' B E v (marksRS k ls) ∧ Chg (Within B E) w w'
set_option maxRecDepth 100000 in
set_option maxHeartbeats 4000000 in
theorem markRowSS_any (w : World) (B E : Nat) (v : Value) (ls : List (List R)) (k : Int) (h : OwnDE 54 62 10 rowCells w B E v ls) (hl : ls.length ≤ 1048576) (ht : totR ls ≤ 1048576) (hk0 : 1 ≤ k) (hk1 : k ≤ 900000000000) :
    Calls Try.prog 22 #[v, .int .i64 k] w (MarkedRS w B E v k ls) := by
  obtain ⟨vs, hvs, hh⟩ := h
  obtain ⟨A, cap, rfl⟩ : ∃ A cap, v = .slice A ls.length cap := by
    rcases (hh.1.own _ (List.mem_cons_self)).2 with ⟨e, h0⟩ | ⟨g, cap, cur, e, _⟩
    · have h00 : ls.length = 0 := h0
      exact ⟨none, 0, by rw [h00]; exact e⟩
    · exact ⟨_, cap, e⟩
  have HH := Lib.hid hh
  have HVS := Lib.hid hvs
  have HTT := Lib.hid (fun j (hj : j < ls.length) => totR_take ls j hj)
  have HEJ := Lib.hid (fun j => endRS_tot k (ls.take j))
  have HTA := Lib.hid (List.take_length (l := ls))
  have HSN := Lib.hid (fun j (hj : j < ls.length) => show ls.take (j + 1) = ls.take j ++ [ls.getD j []] by
    rw [List.take_add_one, List.getD_eq_getElem?_getD, List.getElem?_eq_getElem hj]; rfl)
  have HDR := Lib.hid (fun j (hj : j < ls.length) => show ls.drop j = ls.getD j [] :: ls.drop (j + 1) by
    rw [List.drop_eq_getElem_cons hj, List.getD_eq_getElem?_getD, List.getElem?_eq_getElem hj]; rfl)
  have HMT := Lib.hid (fun j (hj : j ≤ ls.length) => show (marksRS k (ls.take j)).length = j by rw [marksRS_length, List.length_take]; omega)
  have HDL := Lib.hid (fun j => List.length_drop (i := j) (l := ls))
  generalize hn : ls.length = n at *
  have HNN := Lib.hid hn
  clear hn hh hvs
  go_enter Try.func22, Try.ntmps22
  go_wp2_with fail
  go_loopw [1, 5] (fun c i wr => ∃ j : Nat, j ≤ n ∧ i = .int .i64 j ∧ c = .int .i64 (endRS k (ls.take j)) ∧ HeapE wr B E (⟨.slice A n cap, 54, 1, n, vs⟩ :: inner 62 10 rowCells vs (marksRS k (ls.take j) ++ ls.drop j)) ∧ Chg (Within B E) w wr) (fun _ i _ => n - (intOf i).toNat)
  case atStart => exact ⟨0, Nat.zero_le _, rfl, rfl, HH.out, Chg.refl _ _⟩
  case round =>
    obtain ⟨j, hj, rfl, rfl, hh, hc⟩ := hrel
    by_cases hlt : j < n
    · have hdr := HDR.out j hlt
      have htt := HTT.out j hlt
      have hej := HEJ.out j
      rw [hdr] at hh
      generalize hq : ls.getD j [] = q at *
      have HQ := Lib.hid hq
      clear hq hdr
      have hvj : j < vs.length := by have := HVS.out; omega
      have ev : vs = vs.take j ++ (vs.getD j undef :: vs.drop (j + 1)) := by
        rw [List.getD_eq_getElem?_getD, List.getElem?_eq_getElem hvj, Option.getD_some, ← List.drop_eq_getElem_cons hvj, List.take_append_drop]
      have hin : inner 62 10 rowCells vs (marksRS k (ls.take j) ++ q :: ls.drop (j + 1)) = inner 62 10 rowCells (vs.take j) (marksRS k (ls.take j)) ++ ⟨vs.getD j undef, 62, 10, q.length, cellsF rowCells q⟩ :: inner 62 10 rowCells (vs.drop (j + 1)) (ls.drop (j + 1)) := by
        conv => lhs; rw [ev]
        exact inner_cons _ _ _ _ _ _ (by rw [HMT.out j hj, List.length_take]; omega)
      rw [hin] at hh
      have ho := hh.1.own _ (List.mem_cons_self)
      obtain ⟨g, rfl⟩ : ∃ g, A = some ⟨g, 0, none⟩ := by
        rcases ho.2 with ⟨e, h0⟩ | ⟨g, cap', cur, e, _⟩
        · have h00 : n = 0 := h0
          omega
        · injection e with e1; exact ⟨g, e1⟩
      have cu := World.ownsRow.cellAt (w := wr) (size := 1) (xs := vs) ho j (show j < n * 1 by omega)
      rw [show vs[j]? = some (vs.getD j undef) by rw [List.getD_eq_getElem?_getD, List.getElem?_eq_getElem hvj]; rfl] at cu
      have hu : OwnRowF wr B (vs.getD j undef) q := hh.1.own _ (List.mem_cons_of_mem _ (List.mem_append_right _ (List.mem_cons_self)))
      have HM := Lib.hid (markRowS_any wr B (vs.getD j undef) q (endRS k (ls.take j)) hu (by omega) (by omega) (by omega))
      obtain ⟨A2, cap2, hA2⟩ := OwnF.shape hu
      have HH1 := Lib.hid hh
      have HC1 := Lib.hid hc
      have HEV := Lib.hid ev
      clear hh hc ho hu hin ev
      generalize vs.getD j undef = u at *
      subst hA2
      generalize hm2 : q.length = m2 at *
      have HM2 := Lib.hid hm2
      clear hm2
      have HEQ := Lib.hid (endRS_snoc k (ls.take j) q)
      have HMS := Lib.hid (marksRS_snoc k (ls.take j) q)
      have kb0 : 1 ≤ endRS k (ls.take j) := by rw [hej]; omega
      have kb1 : endRS k (ls.take j) ≤ 1000000000000 := by rw [hej]; omega
      clear hej
      generalize endRS k (ls.take j) = kk at *
      have hjn : (j : Int) < (n : Int) := by omega
      go_wp2_with fail
      refine HM.out.mono ?_
      rintro e w2 ⟨rfl, ho2, hg2⟩
      have HO2 := Lib.hid ho2
      have HG2 := Lib.hid hg2
      clear ho2 hg2
      go_wp2_with fail
      go_roundw
      case rel =>
        have hmem : (⟨.slice A2 m2 cap2, 62, 10, m2, cellsF rowCells q⟩ : Rw) ∈ ((⟨.slice (some ⟨g, 0, none⟩) n cap, 54, 1, n, vs⟩ : Rw) :: (inner 62 10 rowCells (vs.take j) (marksRS k (ls.take j)) ++ ⟨.slice A2 m2 cap2, 62, 10, m2, cellsF rowCells q⟩ :: inner 62 10 rowCells (vs.drop (j + 1)) (ls.drop (j + 1)))) :=
          List.mem_cons_of_mem _ (List.mem_append_right _ (List.mem_cons_self))
        have ht := Heap.turn (A := (⟨.slice (some ⟨g, 0, none⟩) n cap, 54, 1, n, vs⟩ : Rw) :: inner 62 10 rowCells (vs.take j) (marksRS k (ls.take j))) (r' := ⟨.slice A2 m2 cap2, 62, 10, (marksRow kk m2).length, cellsF rowCells (marksRow kk m2)⟩) HH1.out.1 HG2.out HO2.out (.inl rfl)
        have hE : ∀ r ∈ ((⟨.slice (some ⟨g, 0, none⟩) n cap, 54, 1, n, vs⟩ : Rw) :: (inner 62 10 rowCells (vs.take j) (marksRS k (ls.take j)) ++ ⟨.slice A2 m2 cap2, 62, 10, (marksRow kk m2).length, cellsF rowCells (marksRow kk m2)⟩ :: inner 62 10 rowCells (vs.drop (j + 1)) (ls.drop (j + 1)))), ∀ k, r.v.ownBlock = some k → k < E := by
          intro r hr b hb
          rcases List.mem_cons.1 hr with rfl | h1
          · exact HH1.out.2 _ (List.mem_cons_self) b hb
          · rcases List.mem_append.1 h1 with h2 | h2
            · exact HH1.out.2 r (List.mem_cons_of_mem _ (List.mem_append_left _ h2)) b hb
            · rcases List.mem_cons.1 h2 with rfl | h3
              · exact HH1.out.2 _ hmem b hb
              · exact HH1.out.2 r (List.mem_cons_of_mem _ (List.mem_append_right _ (List.mem_cons_of_mem _ h3))) b hb
        have hin2 : inner 62 10 rowCells vs (marksRS k (ls.take (j + 1)) ++ ls.drop (j + 1)) = inner 62 10 rowCells (vs.take j) (marksRS k (ls.take j)) ++ ⟨.slice A2 m2 cap2, 62, 10, (marksRow kk m2).length, cellsF rowCells (marksRow kk m2)⟩ :: inner 62 10 rowCells (vs.drop (j + 1)) (ls.drop (j + 1)) := by
          rw [HSN.out j hlt, HQ.out, HMS.out, HM2.out, List.append_assoc]
          conv => lhs; rw [HEV.out]
          exact inner_cons _ _ _ _ _ _ (by rw [HMT.out j hj, List.length_take]; omega)
        refine ⟨j + 1, by omega, by go_num, ?_, ?_, ?_⟩
        · rw [HSN.out j hlt, HQ.out, HEQ.out, HM2.out]
        · rw [hin2]; exact ⟨ht, hE⟩
        · exact HC1.out.trans (Chg.of_grown HG2.out (fun i e => ⟨HH1.out.1.base_le hmem i e, HH1.out.2 _ hmem i e⟩))
      case measure => simp [intOf]; omega
    · have hjn : j = n := by omega
      subst hjn
      have HH1 := Lib.hid hh
      have HC1 := Lib.hid hc
      clear hh hc
      rw [HTA.out] at HH1 ⊢
      generalize hee : endRS k ls = ee at *
      have HEE := Lib.hid hee
      clear hee
      go_wp2_with fail
      go_ret
      refine ⟨by rw [HEE.out]; rfl, ⟨vs, by rw [marksRS_length, HNN.out]; exact HVS.out, ?_⟩, HC1.out⟩
      have := HH1.out
      rw [show ls.drop j = [] from by rw [← HNN.out]; simp, List.append_nil] at this
      rw [marksRS_length, HNN.out]
      exact this
theorem marksRS_getD (k : Int) (ls : List (List R)) (j : Nat) (hj : j < ls.length) : (marksRS k ls).getD j [] = marksRow (endRS k (ls.take j)) (ls.getD j []).length := by
  induction ls generalizing k j with
  | nil => simp at hj
  | cons q qs ih =>
    cases j with
    | zero => rfl
    | succ j =>
      have := ih (k + 10 * (q.length : Int)) j (by simpa using hj)
      simpa [marksRS, endRS] using this
set_option maxRecDepth 100000 in
set_option maxHeartbeats 4000000 in
theorem heldRowSS_any (w : World) (B E : Nat) (v : Value) (ls : List (List R)) (k : Int) (h : OwnDE 54 62 10 rowCells w B E v (marksRS k ls)) (hl : ls.length ≤ 1048576) (ht : totR ls ≤ 1048576) (hk0 : 1 ≤ k) (hk1 : k ≤ 900000000000) :
    Calls Try.prog 23 #[v, .int .i64 k] w (Gives (.int .i64 (endRS k ls)) w) := by
  obtain ⟨vs, hvs, hh⟩ := h
  obtain ⟨A, cap, rfl⟩ : ∃ A cap, v = .slice A ls.length cap := by
    rcases (hh.1.own _ (List.mem_cons_self)).2 with ⟨e, h0⟩ | ⟨g, cap, cur, e, _⟩
    · have h00 : ls.length = 0 := by rw [← marksRS_length k ls]; exact h0
      exact ⟨none, 0, by rw [h00]; exact e⟩
    · exact ⟨_, cap, by rw [← marksRS_length k ls]; exact e⟩
  have HH := Lib.hid hh.1
  have HVS := Lib.hid (hvs.trans (marksRS_length k ls))
  have HVQ := Lib.hid hvs
  have HML := Lib.hid (marksRS_length k ls)
  have HTT := Lib.hid (fun j (hj : j < ls.length) => totR_take ls j hj)
  have HEJ := Lib.hid (fun j => endRS_tot k (ls.take j))
  have HTA := Lib.hid (List.take_length (l := ls))
  have HSN := Lib.hid (fun j (hj : j < ls.length) => show ls.take (j + 1) = ls.take j ++ [ls.getD j []] by
    rw [List.take_add_one, List.getD_eq_getElem?_getD, List.getElem?_eq_getElem hj]; rfl)
  have HMG := Lib.hid (fun j (hj : j < ls.length) => marksRS_getD k ls j hj)
  generalize hn : ls.length = n at *
  clear hn hh hvs
  go_enter Try.func23, Try.ntmps23
  go_wp2_with fail
  go_loopw [1, 5] (fun c i wr => ∃ j : Nat, j ≤ n ∧ i = .int .i64 j ∧ c = .int .i64 (endRS k (ls.take j)) ∧ Below w.heap.size w wr) (fun _ i _ => n - (intOf i).toNat)
  case atStart => exact ⟨0, Nat.zero_le _, rfl, rfl, Below.refl _ _⟩
  case round =>
    obtain ⟨j, hj, rfl, rfl, hb⟩ := hrel
    by_cases hlt : j < n
    · have htt := HTT.out j hlt
      have hej := HEJ.out j
      have ho := HH.out.below hb
      have hro := ho.own _ (List.mem_cons_self)
      have hr1 := ho.own _ (List.mem_cons_of_mem _ (inner_at HVQ.out j (by rw [HML.out]; exact hlt) undef))
      rw [HMG.out j hlt] at hr1
      obtain ⟨g, rfl⟩ : ∃ g, A = some ⟨g, 0, none⟩ := by
        rcases hro.2 with ⟨e, h0⟩ | ⟨g, cap', cur, e, _⟩
        · have h00 : (marksRS k ls).length = 0 := h0
          rw [HML.out] at h00; omega
        · injection e with e1; exact ⟨g, e1⟩
      have hro2 := hro
      unfold Rw.own at hro2
      simp only [HML.out] at hro2
      have cu := World.ownsRow.cellAt (w := wr) (size := 1) (xs := vs) hro2 j (show j < n * 1 by omega)
      rw [show vs[j]? = some (vs.getD j undef) by rw [List.getD_eq_getElem?_getD, List.getElem?_eq_getElem (by rw [HVS.out]; exact hlt)]; rfl] at cu
      generalize hq : ls.getD j [] = q at *
      have HQ := Lib.hid hq
      clear hq
      have hu : OwnRowF wr B (vs.getD j undef) (marksRow (endRS k (ls.take j)) q.length) := hr1
      have kb0 : 1 ≤ endRS k (ls.take j) := by rw [hej]; omega
      have kb1 : endRS k (ls.take j) ≤ 1000000000000 := by rw [hej]; omega
      have HM := Lib.hid (heldRowS_any wr B (vs.getD j undef) (endRS k (ls.take j)) q.length hu (by omega) (by omega) (by omega))
      obtain ⟨A2, cap2, hA2⟩ := OwnF.shape hu
      rw [marksRow_length] at hA2
      have HEQ := Lib.hid (endRS_snoc k (ls.take j) q)
      have HB := Lib.hid hb
      clear ho hro hro2 hr1 hu hej hb
      generalize vs.getD j undef = u at *
      subst hA2
      generalize q.length = m2 at *
      generalize endRS k (ls.take j) = kk at *
      have hjn : (j : Int) < (n : Int) := by omega
      have d1 : decide (kk + 10 * (m2 : Int) < 0) = false := by rw [decide_eq_false]; omega
      go_wp2_with fail
      refine HM.out.mono ?_
      rintro e w2 ⟨rfl, hb2⟩
      have HB2 := Lib.hid (HB.out.trans (hb2.mono HB.out.size))
      clear hb2
      go_wp2_with fail
      go_roundw
      case rel => exact ⟨j + 1, by omega, by go_num, by rw [HSN.out j hlt, HQ.out, HEQ.out], HB2.out⟩
      case measure => simp [intOf]; omega
    · have hjn : j = n := by omega
      subst hjn
      rw [HTA.out]
      have HB := Lib.hid hb
      clear hb
      generalize endRS k ls = ee at *
      go_wp2_with fail
      go_ret
      exact ⟨rfl, HB.out⟩
end Go.Proofs.Ytcfdnfckilpppaa

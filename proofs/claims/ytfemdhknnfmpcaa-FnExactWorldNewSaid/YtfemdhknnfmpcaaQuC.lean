/-
  The exact laws' helpers on queues and on rows of queues: the copy, comparing two.
-/
import Derived.Test.YtfemdhknnfmpcaaOpC
import Derived.Test.YtfemdhknnfmpcaaZa
namespace Go.Proofs.Ytfemdhknnfmpcaa
open Go.RowKit M
set_option linter.unusedVariables false
set_option linter.unusedSimpArgs false
theorem info_Queue : (Try.prog.info? 73).map (fun i => (i.zero, i.size, i.bytes)) = some (some (.agg #[.slice none 0 0]), 1, 24) := by kernel_rfl
/-- A call hands back a queue whose operations lie in a new row. -/
def MadeQ (w : World) (l : List O) (e : Ending) (w' : World) : Prop := ∃ u, e = .returned (.agg #[u]) ∧ OwnF 26 4 opCells w' w.heap.size u l ∧ Below w.heap.size w w'
set_option maxRecDepth 100000 in
set_option maxHeartbeats 1000000 in
theorem toQueue_any (w : World) (v : Value) (l : List O) (h : RecsArg 4 opCells zeroO w v l) (hl : l.length ≤ 1048576) : Calls Try.prog 48 #[.agg #[v]] w (MadeQ w l) := by
  have HO := fun W h => Lib.hid (toOpS_any W v l h hl)
  have HV := Lib.hid h
  obtain ⟨A, cap, rfl, _, _, _⟩ := h
  generalize hn0 : l.length = n0 at *
  go_enter Try.func48, Try.ntmps48
  go_upto_region 2 with fail
  refine wp_gen (fun W => Blk W w.heap.size 70 #[.slice A n0 cap] ∧ Blk W (w.heap.size + 1) 73 #[.slice none 0 0] ∧ Blk W (w.heap.size + 2) 73 #[.slice none 0 0] ∧ Below w.heap.size w W)
    ⟨((Blk.new w _ _ _ rfl).alloc _).alloc _, (Blk.new _ _ _ _ (by simp [go_sem])).alloc _, Blk.new _ _ _ _ (by simp [go_sem]), (((Below.refl _ _).alloc (Nat.le_refl _) _).alloc (by simp [go_sem]) _).alloc (by simp [go_sem]; omega) _⟩ ?_
  rintro W ⟨h0, h1, h2, hb⟩
  have c0 := h0.get 0
  simp at c0
  have HC := Lib.hid (HO W (HV.out.below hb)).out
  have H1 := Lib.hid h1
  have H2 := Lib.hid h2
  have HB := Lib.hid hb
  clear h0 h1 h2 hb
  go_wp2_with fail
  refine HC.out.mono ?_
  rintro e w2 ⟨u, rfl, ho, hb2⟩
  obtain ⟨A2, cap2, rfl⟩ := ho.shape
  rw [hn0] at ho ⊢
  have G1 := H1.out.below hb2
  have G2 := H2.out.below hb2
  have c1 := G1.get 0
  have c2 := G2.get 0
  have f1 := G1.frz 0
  have f2 := G2.frz 0
  simp at c1 c2
  have HO2 := Lib.hid ho
  have HB2 := Lib.hid hb2
  clear ho hb2 c0
  go_wp2_with fail
  have HW := HB.out.size
  refine bodyPost_ret (v := .agg #[.slice A2 n0 cap2]) (by simp [results, Try.results48, go_sem, c1, c2]) rfl ⟨.slice A2 n0 cap2, rfl, ?_, ?_⟩
  · refine OwnF.base (b := W.heap.size) ?_ HW
    have k1 : ∀ k, (Value.slice A2 n0 cap2).ownBlock = some k → W.heap.size ≤ k := HO2.out.base_le
    have l1 := H1.out.lt
    have l2 := H2.out.lt
    refine OwnF.kept (row := some (w.heap.size + 1)) (OwnF.kept (row := some (w.heap.size + 2)) HO2.out (row_store G2 0 _) ?_) (row_store (G1.far _ _ _ (by omega)) 0 _) ?_
    · exact .inr (fun e => by have := k1 _ e; omega)
    · exact .inr (fun e => by have := k1 _ e; omega)
  · exact ((HB.out.trans (HB2.out.mono HW)).setCell (show w.heap.size ≤ w.heap.size + 2 by omega) _).setCell (show w.heap.size ≤ w.heap.size + 1 by omega) _
/-- Rows of queues, all of the call's own; read. -/
def OwnQ (w : World) (base : Nat) (v : Value) (ls : List (List O)) : Prop := OwnD 73 26 4 opCells w base v ls
def ArgQ (w : World) (v : Value) (ls : List (List O)) : Prop := ArgD 4 opCells zeroO w v ls
def MadeQS (w : World) (ls : List (List O)) (e : Ending) (w' : World) : Prop := ∃ v, e = .returned v ∧ OwnQ w' w.heap.size v ls ∧ Below w.heap.size w w'
theorem zipWith_snoc {α β γ : Type} (h : α → β → γ) (xs : List α) (ys : List β) (x : α) (y : β) (hl : xs.length = ys.length) : List.zipWith h (xs ++ [x]) (ys ++ [y]) = List.zipWith h xs ys ++ [h x y] := by
  induction xs generalizing ys with
  | nil => cases ys with
    | nil => rfl
    | cons b ys => simp at hl
  | cons a xs ih => cases ys with
    | nil => simp at hl
    | cons b ys => simp only [List.cons_append, List.zipWith_cons_cons]; rw [ih ys (by simpa using hl)]
theorem set_fill {α : Type} (vs : List α) (z u : α) (m : Nat) (h : 0 < m) : (vs ++ List.replicate m z).set vs.length u = (vs ++ [u]) ++ List.replicate (m - 1) z := by
  rw [List.set_append_right _ _ (Nat.le_refl _), Nat.sub_self]
  cases m with
  | zero => omega
  | succ m => simp [List.replicate_succ]
set_option maxRecDepth 100000 in
set_option maxHeartbeats 2000000 in
theorem toQueueS_any (w : World) (v : Value) (ls : List (List O)) (h : ArgQ w v ls) (hl : ls.length ≤ 1048576) (hi : ∀ j, j < ls.length → (ls.getD j []).length ≤ 1048576) :
    Calls Try.prog 17 #[v] w (MadeQS w ls) := by
  obtain ⟨i0, hi0, hz0, hz1, hz2⟩ := info_parts info_Queue
  obtain ⟨A, cap, rfl, h1, h2, h3⟩ := h
  have HTK := Lib.hid (List.take_length (l := ls))
  have HIL := Lib.hid hi
  have HSN := Lib.hid (fun j (hj : j < ls.length) => show ls.take (j + 1) = ls.take j ++ [ls.getD j []] by
    rw [List.take_add_one, List.getD_eq_getElem?_getD, List.getElem?_eq_getElem hj]; rfl)
  have HTL := Lib.hid (fun j (hj : j ≤ ls.length) => show (ls.take j).length = j by rw [List.length_take]; omega)
  generalize hn : ls.length = n at *
  have HN := Lib.hid hn
  have HC := Lib.hid h3
  clear hn h3 hi
  unfold maxLen at h2
  go_enter Try.func17, Try.ntmps17
  go_wp2_with (refine wpList_make_full _ rfl _ _ 32 rfl w.heap.size 73 i0 (.agg #[.slice none 0 0]) 1 Try.underlying32 hi0 hz0 hz1 .i64 .i64 _ _ n rfl rfl rfl rfl ?c1 ?c2 ?c3 ?_; rotate_left 3; intro w1 hown hg; have HO := Lib.hid hown; have HG := Lib.hid hg; clear hown hg)
  case c1 => rw [hz2]; omega
  case c2 => unfold maxLen; omega
  case c3 => exact Nat.le_refl _
  clear hi0 hz0 hz1 hz2
  go_loopw [4] (fun i wr => ∃ (j : Nat) (vs : List Value), j ≤ n ∧ i = .int .i64 j ∧ vs.length = j ∧ Heap wr w.heap.size (⟨.slice (some ⟨w.heap.size, 0, none⟩) n n, 73, 1, n, vs ++ List.replicate (n - j) (.slice none 0 0)⟩ :: inner 26 4 opCells vs (ls.take j)) ∧ Below w.heap.size w wr) (fun i _ => n - (intOf i).toNat)
  case atStart =>
    refine ⟨0, [], Nat.zero_le _, rfl, rfl, ?_, below_madeF HG.out⟩
    have := HO.out
    rw [show (madeCells (Value.agg #[.slice none 0 0]).cells (n * 1)).toList = List.replicate n (.slice none 0 0) from by rw [Nat.mul_one]; exact toList_madeCells_one _ _] at this
    exact Heap.one this
  case round =>
    obtain ⟨j, vs, hj, rfl, hvs, hh, hbl⟩ := hrel
    by_cases hlt : j < n
    · obtain ⟨b, off, hA, hb, hC⟩ := HC.out (by omega)
      obtain ⟨u0, hu0, ha0⟩ := hC j hlt
      have c0 := (hbl.cell (p := ⟨b, off + j, none⟩) hb).trans hu0
      have HQ := Lib.hid (toQueue_any wr u0 (ls.getD j []) (ha0.below hbl) (HIL.out j hlt))
      obtain ⟨A0, cap0, rfl, _, _, _⟩ := ha0
      subst hA
      have HH := Lib.hid hh
      have HB := Lib.hid hbl
      clear hh hbl hC hu0
      generalize (ls.getD j []).length = m0 at *
      have hjn : (j : Int) < (n : Int) := by omega
      go_wp2_with fail
      refine HQ.out.mono ?_
      rintro e w2 ⟨u, rfl, ho, hb2⟩
      obtain ⟨A2, cap2, rfl⟩ := ho.shape
      generalize hq : ls.getD j [] = q at *
      generalize hm2 : q.length = m2 at *
      have HQE := Lib.hid hq
      have HM2 := Lib.hid hm2
      clear hq hm2
      have HH2 := Lib.hid (HH.out.below hb2)
      have HB2 := Lib.hid (HB.out.trans (hb2.mono HB.out.size))
      have HO2 := Lib.hid ho
      have hr := HH2.out.own _ (List.mem_cons_self)
      obtain ⟨zz, cz⟩ := ownsRow_some hr j (show j < n * 1 by omega)
      have fz := World.ownsRow.frozenAt hr j
      clear ho hb2 hr
      go_wp2_with fail
      go_roundw
      case rel =>
        have hset := Heap.set (A := []) HH2.out j (.slice A2 m2 cap2)
        have hw := HH.out.lt (List.mem_cons_self) w.heap.size rfl
        have hu : OwnF 26 4 opCells (w2.setCell ⟨w.heap.size, j, none⟩ (.slice A2 m2 cap2)) wr.heap.size (.slice A2 m2 cap2) q := HO2.out.kept hset.2 (.inr (fun e => by have := HO2.out.base_le _ e; omega))
        have hjo := Heap.join hset.1 (Heap.one (r := ⟨.slice A2 m2 cap2, 26, 4, q.length, cellsF opCells q⟩) hu) HB.out.size (fun r hr b hb => by
          simp only [List.nil_append] at hr
          rcases List.mem_cons.1 hr with rfl | h2
          · have e : w.heap.size = b := Option.some.inj hb
            omega
          · exact HH.out.lt (List.mem_cons_of_mem _ h2) b hb)
        refine ⟨j + 1, vs ++ [.slice A2 m2 cap2], by omega, by go_num, by simp [hvs], ?_, HB2.out.setCell (Nat.le_refl _) _⟩
        have e1 := set_fill vs (.slice none 0 0) (.slice A2 m2 cap2) (n - j) (by omega)
        rw [hvs] at e1
        rw [show n - (j + 1) = n - j - 1 by omega, HSN.out j hlt, HQE.out]
        unfold inner
        rw [zipWith_snoc _ _ _ _ _ (by rw [hvs, HTL.out j (by omega)]), ← e1]
        exact hjo
      case measure => simp [intOf]; omega
    · have hjn : j = n := by omega
      subst hjn
      have HH2 := Lib.hid hh
      have HB2 := Lib.hid hbl
      clear hh hbl
      go_wp2_with fail
      go_ret
      refine ⟨_, rfl, ⟨vs, by rw [hvs, HN.out], ?_⟩, HB2.out⟩
      have := HH2.out
      rw [HTK.out, Nat.sub_self, List.replicate_zero, List.append_nil] at this
      rw [HN.out]
      exact this
set_option maxRecDepth 100000 in
theorem eqQueue_same (w : World) (v u : Value) (l : List O) (h : RecsArg 4 opCells zeroO w v l) (k : RecsArg 4 opCells zeroO w u l) : Calls Try.prog 50 #[.agg #[v], .agg #[u]] w (Gives (.bool true) w) := by
  have HE := fun W h k => Lib.hid (eqOpS_same W v u l h k)
  have HV := Lib.hid h
  have HU := Lib.hid k
  obtain ⟨A, cap, rfl, _, _, _⟩ := h
  obtain ⟨A', cap', rfl, _, _, _⟩ := k
  generalize l.length = n at *
  go_enter Try.func50, Try.ntmps50
  go_wp2_with fail
  have HB := Lib.hid (((Below.refl w.heap.size w).alloc (Nat.le_refl _) (.cells #[.slice A n cap] 73)).alloc (by simp [go_sem]) (.cells #[.slice A' n cap'] 73))
  refine (HE _ (HV.out.below HB.out) (HU.out.below HB.out)).out.mono ?_
  rintro e w2 ⟨rfl, hb2⟩
  have HB2 := Lib.hid (HB.out.trans (hb2.mono HB.out.size))
  clear hb2
  go_wp2_with fail
  go_ret
  exact ⟨rfl, HB2.out⟩
set_option maxRecDepth 100000 in
set_option maxHeartbeats 1000000 in
theorem eqQueueS_same (w : World) (v u : Value) (ls : List (List O)) (h : ArgQ w v ls) (k : ArgQ w u ls) : Calls Try.prog 19 #[v, u] w (Gives (.bool true) w) := by
  obtain ⟨A, cap, rfl, h1, h2, h3⟩ := h
  obtain ⟨A', cap', rfl, k1, k2, k3⟩ := k
  generalize hn : ls.length = n at *
  clear hn
  unfold maxLen at h2 k2
  have H4 := Lib.hid h3
  have K4 := Lib.hid k3
  clear h3 k3
  go_enter Try.func19, Try.ntmps19
  go_wp2_with fail
  go_loopw [5] (fun i wr => ∃ j : Nat, j ≤ n ∧ i = .int .i64 j ∧ Below w.heap.size w wr) (fun i _ => n - (intOf i).toNat)
  case atStart => exact ⟨0, Nat.zero_le _, rfl, Below.refl _ _⟩
  case round =>
    obtain ⟨j, hj, rfl, hbl⟩ := hrel
    by_cases hlt : j < n
    · obtain ⟨b, off, rfl, hb, hc⟩ := H4.out (by omega)
      obtain ⟨b', off', rfl, hb', hc'⟩ := K4.out (by omega)
      obtain ⟨p, hp, ha⟩ := hc j hlt
      obtain ⟨p', hp', ha'⟩ := hc' j hlt
      have HR := fun W h k => Lib.hid (eqQueue_same W p p' (ls.getD j []) h k)
      have HA := Lib.hid ha
      have HA' := Lib.hid ha'
      have HP := Lib.hid hp
      have HP' := Lib.hid hp'
      have HS := Lib.hid (show Below w.heap.size w wr.drew from hbl.trans (below_drew _ _))
      obtain ⟨B1, c1, rfl, _, _, _⟩ := ha
      obtain ⟨B2, c2, rfl, _, _, _⟩ := ha'
      clear hc hc' hbl hp hp'
      generalize ls.getD j [] = q at *
      generalize q.length = m0 at *
      have hjn : (j : Int) < (n : Int) := by omega
      go_wp2_with fail
      have HCL := (⟨HS.out⟩ : HoldsC (fun W => Below w.heap.size w W) _)
      have hall : ∀ p : Prop, (∀ W, HoldsC (fun W => Below w.heap.size w W) W → p) ↔ p := fun p => ⟨fun h => h _ HCL, fun h _ _ => h⟩
      refine wp_region_wq (C := HoldsC (fun W => Below w.heap.size w W)) (by kernel_rfl) (by kernel_rfl) HCL ?_
      repeat (refine WQ.step (fun K hK => ?_); go_simp; first | (refine hK _ ?_; clear hK K) | (apply Exists.intro; refine ⟨fun W hW => ?_, hK _ ?_⟩; (focus (first | (go_at_call 50; (with_reducible refine Calls.mono (Hid.out (HR _ (HA.out.below hW.out) (HA'.out.below hW.out))) ?_); rintro e w' ⟨rfl, hb'⟩; exact ⟨rfl, ⟨hW.out.trans (hb'.mono hW.out.size)⟩⟩) | exact rfl | (obtain hB := hW.out; have y0 := (hB.cell (p := ⟨b, off + j, none⟩) hb).trans HP.out; have y1 := (hB.cell (p := ⟨b', off' + j, none⟩) hb').trans HP'.out; go_simp; rfl))); clear hK K))
      refine WQ.nil ?_
      intro W hW
      obtain hB := hW.out; have y0 := (hB.cell (p := ⟨b, off + j, none⟩) hb).trans HP.out; have y1 := (hB.cell (p := ⟨b', off' + j, none⟩) hb').trans HP'.out
      clear hall HCL
      have HB := Lib.hid hW.out
      clear hW
      go_wp2_with fail
      go_roundw
      case rel => exact ⟨j + 1, by omega, by go_num, HB.out⟩
      case measure => simp [intOf]; omega
    · have HB := Lib.hid hbl
      clear hbl
      go_wp2_with fail
      go_ret
      exact ⟨rfl, HB.out⟩
/-- The budget behind queues. -/
def szQ1 (q : List O) (l : Int) : Int := if szVF (fun r : O => r.key.size) q l < 0 then -1 else szVF (fun r : O => r.key.size) q l
def szQL : List (List O) → Int → Int
  | [], l => l
  | q :: qs, l => if szVF (fun r : O => r.key.size) q l < 0 then -1 else szQL qs (szVF (fun r : O => r.key.size) q l)
def szQV (ls : List (List O)) (l : Int) : Int := if l - (ls.length : Int) < 0 then -1 else szQL ls (l - (ls.length : Int))
theorem szQL_drop (ls : List (List O)) (j : Nat) (hj : j < ls.length) (c : Int) : szQL (ls.drop j) c = if szVF (fun r : O => r.key.size) (ls.getD j []) c < 0 then -1 else szQL (ls.drop (j + 1)) (szVF (fun r : O => r.key.size) (ls.getD j []) c) := by
  rw [List.drop_eq_getElem_cons hj, List.getD_eq_getElem?_getD, List.getElem?_eq_getElem hj]
  rfl
theorem szVF_tot {q : List O} {l : Int} (h : 0 ≤ szVF (fun r : O => r.key.size) q l) : (q.length : Int) + szVF (fun r : O => r.key.size) q l ≤ l := by
  unfold szVF at *
  split at h
  · omega
  · rename_i h2
    rw [if_neg h2]
    rcases szLF_le (fun r : O => r.key.size) q (l - (q.length : Int)) with h3 | h3 <;> omega
theorem szQL_tot (ls : List (List O)) (l : Int) (h : 0 ≤ szQL ls l) (hl : 0 ≤ l) : ((ls.map List.length).sum : Int) + szQL ls l ≤ l := by
  induction ls generalizing l with
  | nil => simp [szQL]
  | cons q qs ih =>
    have e : szQL (q :: qs) l = if szVF (fun r : O => r.key.size) q l < 0 then -1 else szQL qs (szVF (fun r : O => r.key.size) q l) := rfl
    rw [e] at h ⊢
    by_cases h2 : szVF (fun r : O => r.key.size) q l < 0
    · rw [if_pos h2] at h; omega
    · rw [if_neg h2] at h ⊢
      have h3 := szVF_tot (q := q) (l := l) (by omega)
      have h4 := ih _ h (by omega)
      simp only [List.map_cons, List.sum_cons]
      omega
/-- A budget that holds out bounds the queues and what they hold. -/
theorem szQV_tot {ls : List (List O)} {l : Int} (h : 0 ≤ szQV ls l) : (ls.length : Int) + ((ls.map List.length).sum : Int) + szQV ls l ≤ l := by
  unfold szQV at *
  split at h
  · omega
  · rename_i h2
    rw [if_neg h2]
    have := szQL_tot ls (l - (ls.length : Int)) h (by omega)
    omega
def FitQ (ls : List (List O)) : Prop := ∀ j, j < ls.length → ∀ i, i < (ls.getD j []).length → ((ls.getD j []).getD i zeroO).Fit
set_option maxRecDepth 100000 in
theorem szQueue_any (w : World) (v : Value) (q : List O) (left : Int) (h : RecsArg 4 opCells zeroO w v q) (hk : ∀ j, j < q.length → (q.getD j zeroO).key.size ≤ maxLen) (h0 : 0 ≤ left) (h1 : left ≤ 1048576) :
    Calls Try.prog 47 #[.agg #[v], .int .i64 left] w (Gives (.int .i64 (szQ1 q left)) w) := by
  have HO := fun W h => Lib.hid (szOpS_any W v q left h hk h0 h1)
  have HV := Lib.hid h
  obtain ⟨A, cap, rfl, _, _, _⟩ := h
  generalize q.length = n0 at *
  have HB := Lib.hid ((Below.refl w.heap.size w).alloc (Nat.le_refl _) (.cells #[.slice A n0 cap] 70))
  by_cases hn : szVF (fun r : O => r.key.size) q left < 0
  · have E := Lib.hid (show szQ1 q left = -1 from if_pos hn)
    have d1 : decide (szVF (fun r : O => r.key.size) q left < 0) = true := decide_eq_true hn
    generalize szVF (fun r : O => r.key.size) q left = x at *
    go_enter Try.func47, Try.ntmps47
    go_wp2_with fail
    refine (HO _ (HV.out.below HB.out)).out.mono ?_
    rintro e w2 ⟨rfl, hb2⟩
    go_wp2_with fail
    go_ret
    exact ⟨ret_i E.out.symm, HB.out.trans (hb2.mono HB.out.size)⟩
  · have E := Lib.hid (show szQ1 q left = szVF (fun r : O => r.key.size) q left from if_neg hn)
    have d1 : decide (szVF (fun r : O => r.key.size) q left < 0) = false := decide_eq_false hn
    generalize szVF (fun r : O => r.key.size) q left = x at *
    go_enter Try.func47, Try.ntmps47
    go_wp2_with fail
    refine (HO _ (HV.out.below HB.out)).out.mono ?_
    rintro e w2 ⟨rfl, hb2⟩
    go_wp2_with fail
    go_ret
    exact ⟨ret_i E.out.symm, HB.out.trans (hb2.mono HB.out.size)⟩
set_option maxRecDepth 100000 in
set_option maxHeartbeats 1000000 in
theorem szQueueS_any (w : World) (v : Value) (ls : List (List O)) (left : Int) (h : ArgQ w v ls) (hk : FitQ ls) (h0 : 0 ≤ left) (h1 : left ≤ 1048576) :
    Calls Try.prog 15 #[v, .int .i64 left] w (Gives (.int .i64 (szQV ls left)) w) := by
  obtain ⟨A, cap, rfl, h2, h3, h4⟩ := h
  have HC := Lib.hid h4
  have HK := Lib.hid hk
  have HL := Lib.hid (fun j (hj : j < ls.length) => szQL_drop ls j hj)
  have HE := Lib.hid (show ls.drop ls.length = [] by simp)
  unfold maxLen at h3
  unfold FitQ at HK
  clear h4 hk
  by_cases hb : left - (ls.length : Int) < 0
  · have HV := Lib.hid (show szQV ls left = -1 from if_pos hb)
    have d1 : decide (left - (ls.length : Int) < 0) = true := decide_eq_true hb
    generalize ls.length = n at *
    go_enter Try.func15, Try.ntmps15
    go_wp2_with fail
    go_ret
    exact ⟨ret_i HV.out.symm, Below.refl _ _⟩
  · have HV := Lib.hid (show szQV ls left = szQL (ls.drop 0) (left - (ls.length : Int)) by unfold szQV; rw [if_neg hb, List.drop_zero])
    have d1 : decide (left - (ls.length : Int) < 0) = false := decide_eq_false hb
    have hn : ls.length ≤ 1048576 := by omega
    generalize hln : ls.length = n at *
    clear hln
    go_enter Try.func15, Try.ntmps15
    go_wp2_with fail
    go_loopw [1, 5] (fun c i wr => ∃ (j : Nat) (x : Int), j ≤ n ∧ i = .int .i64 j ∧ c = .int .i64 x ∧ 0 ≤ x ∧ x ≤ 1048576 ∧ szQL (ls.drop 0) (left - (n : Int)) = szQL (ls.drop j) x ∧ Below w.heap.size w wr) (fun _ i _ => n - (intOf i).toNat)
    case atStart => exact ⟨0, _, Nat.zero_le _, rfl, rfl, by omega, by omega, rfl, Below.refl _ _⟩
    case round =>
      obtain ⟨j, x, hj, rfl, rfl, hx0, hx1, he, hbl⟩ := hrel
      have HB := Lib.hid hbl
      have HX := Lib.hid he
      clear hbl he
      by_cases hlt : j < n
      · obtain ⟨b, off, hA, h3', hC⟩ := HC.out (by omega)
        obtain ⟨p, hp, ha⟩ := hC j hlt
        have c0 := (HB.out.cell (p := ⟨b, off + j, none⟩) h3').trans hp
        have HS := Lib.hid (HL.out j hlt x)
        have HR := Lib.hid (szQueue_any wr p (ls.getD j []) x (ha.below HB.out) (fun i hi => (HK.out j hlt i hi).key) hx0 hx1)
        have HT := Lib.hid (fun h => szVF_tot (q := ls.getD j []) (l := x) h)
        have HQ1 := Lib.hid (show szQ1 (ls.getD j []) x = if szVF (fun r : O => r.key.size) (ls.getD j []) x < 0 then -1 else szVF (fun r : O => r.key.size) (ls.getD j []) x from rfl)
        obtain ⟨A0, cap0, rfl, _, _, _⟩ := ha
        subst hA
        clear hC hp
        generalize ls.getD j [] = q at *
        generalize q.length = m0 at *
        have hjn : (j : Int) < (n : Int) := by omega
        by_cases hneg : szVF (fun r : O => r.key.size) q x < 0
        · rw [if_pos hneg] at HQ1 HS
          rw [HQ1.out] at HR
          go_wp2_with fail
          refine HR.out.mono ?_
          rintro e w2 ⟨rfl, hb2⟩
          go_wp2_with fail
          go_ret
          exact ⟨ret_i (by rw [HV.out, HX.out, HS.out]), HB.out.trans (hb2.mono HB.out.size)⟩
        · rw [if_neg hneg] at HQ1 HS
          rw [HQ1.out] at HR
          have ht := HT.out (by omega)
          have d2 : decide (szVF (fun r : O => r.key.size) q x < 0) = false := decide_eq_false hneg
          generalize szVF (fun r : O => r.key.size) q x = y at *
          go_wp2_with fail
          refine HR.out.mono ?_
          rintro e w2 ⟨rfl, hb2⟩
          go_wp2_with fail
          go_roundw
          case rel => exact ⟨j + 1, _, by omega, by go_num, rfl, by omega, by omega, by rw [HX.out, HS.out], HB.out.trans (hb2.mono HB.out.size)⟩
          case measure => simp [intOf]; omega
      · have hjn : j = n := by omega
        subst hjn
        go_wp2_with fail
        go_ret
        exact ⟨ret_i (by rw [HV.out, HX.out, HE.out]; rfl), HB.out⟩
end Go.Proofs.Ytfemdhknnfmpcaa

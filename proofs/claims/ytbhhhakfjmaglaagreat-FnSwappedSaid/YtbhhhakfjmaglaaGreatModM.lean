/-
  Chapter 13, the program: a value recorded in a model behind a pointer (recordIn).
-/
import Derived.Test.YtbhhhakfjmaglaaGreatModN
import Derived.Test.YtbhhhakfjmaglaaGreatModH
import Derived.Test.YtbhhhakfjmaglaaGreatModG
import Derived.Test.YtbhhhakfjmaglaaGreatModI
import Derived.Deep.RegionHeld3
import Derived.Deep.CutRange
namespace Go.Proofs.YtbhhhakfjmaglaaGreat
open Go.RowKit M
set_option linter.unusedVariables false
set_option linter.unusedSimpArgs false
theorem modelOk_parts {m : Mo} (h : modelOkV m = true) : m.keys.length ≤ 4 ∧ keysOkV m.keys = true ∧ reportOkV m.rows = true := by
  unfold modelOkV at h
  simp only [Bool.and_eq_true, decide_eq_true_eq] at h
  exact ⟨h.1, h.2.1, h.2.2.1⟩
theorem zeroR_fit : zeroR.Fit := by constructor <;> (try unfold inW) <;> (try simp only [zeroR]) <;> first | (unfold maxLen; decide) | omega
theorem getD_memR {l : List R} {j : Nat} (hj : j < l.length) : l.getD j zeroR ∈ l := by
  rw [List.getD_eq_getElem?_getD, List.getElem?_eq_getElem hj]; exact List.getElem_mem hj
theorem fitR_mem {l : List R} (h : ∀ x ∈ l, x.Fit) : FitR l := fun j hj => h _ (getD_memR hj)
theorem mKind_in {m : Mo} (h : m.Fit) (s : ByteArray) : inW (mKindV s m.keys) := by
  rcases mKind_or s m.keys with ⟨e, _⟩ | ⟨x, hx, _, e⟩
  · rw [e]; unfold inW; omega
  · rw [e]
    obtain ⟨j, hj, rfl⟩ := List.getElem_of_mem hx
    have := (h.keys j hj).kind
    rwa [List.getD_eq_getElem?_getD, List.getElem?_eq_getElem hj] at this
theorem mRow_or (m : Mo) (s : ByteArray) : mRowV m s = newRow m s ∨ mRowV m s ∈ m.rows ∧ (mRowV m s).key = s := by
  rcases mFind_or s (newRow m s) m.rows with ⟨h, _⟩ | h
  · exact .inl h
  · exact .inr h
theorem mRow_fit {m : Mo} (h : m.Fit) {s : ByteArray} (hs : s.size ≤ maxLen) : (mRowV m s).Fit := by
  rcases mRow_or m s with e | ⟨e, _⟩
  · rw [e]
    unfold newRow
    split
    · exact zeroR_fit
    · obtain ⟨g0, g1, g2, g3, g4, g5, g6, g7, g8⟩ := zeroR_fit
      exact ⟨hs, mKind_in h s, g2, g3, g4, g5, g6, g7, g8⟩
  · exact FitR.filter h.rows _ e
theorem mRow_keyK {m : Mo} {s : ByteArray} (hk : (mRowV m s).kind ≠ 0) : (mRowV m s).key = s := by
  rcases mRow_or m s with e | ⟨_, e⟩
  · rw [e] at hk ⊢
    unfold newRow at hk ⊢
    split
    · rename_i h; rw [if_pos h] at hk; exact absurd rfl hk
    · rfl
  · exact e
theorem mRow_code {m : Mo} (h : modelOkV m = true) (s : ByteArray) : (if (mRowV m s).kind ≠ 1 ∧ (mRowV m s).kind ≠ 2 ∧ (mRowV m s).n = 3 then (5 : Int) else 0) = if (mRowV m s).n = 3 then 5 else 0 := by
  by_cases h3 : (mRowV m s).n = 3
  · rw [if_pos h3]
    refine if_pos ⟨?_, ?_, h3⟩
    all_goals
      intro k
      rcases mRow_or m s with e | ⟨e, _⟩
      · rw [e] at h3
        unfold newRow at h3
        split at h3 <;> simp [zeroR] at h3
      · have := row_n (report_mem (modelOk_parts h).2.2 _ e).1 (by first | exact .inl k | exact .inr k)
        omega
  · rw [if_neg h3, if_neg fun q => h3 q.2.2]
theorem noKey_fit {l : List R} {x : R} (s : ByteArray) (h : FitR l) (hx : x.Fit) : FitR (noKey s l ++ [x]) := fitR_mem fun y hy => by
  rcases List.mem_append.1 hy with hy | hy
  · exact FitR.filter h _ (List.mem_filter.1 hy).1
  · rw [List.mem_singleton] at hy; rw [hy]; exact hx
/-- A call hands back the own row v, now rs; what is not in v's block is as it was. -/
def DelP (w : World) (B : Nat) (v : Value) (rs : List R) (e : Ending) (w' : World) : Prop := ∃ u, e = .returned u ∧ OwnR w' B u rs ∧ w.grownBy w' v.ownBlock ∧ u.ownBlock = v.ownBlock
theorem iDelK_own (w : World) (B p : Nat) (v : Value) (rs : List R) (s : ByteArray) (h : OwnR w B v rs) (hp : Blk w p 9 #[.string s]) : Calls Tryz.prog 74 #[v, .func (.func 75) #[] #[.pointer (some ⟨p, 0, none⟩)]] w (DelP w B v (noKey s rs)) := by
  have hn := own_ne h hp (by decide)
  have h' := h
  rcases h.2 with ⟨rfl, h0⟩ | ⟨g, cap, cur, rfl, _⟩
  · obtain rfl : rs = [] := List.length_eq_zero_iff.1 h0
    refine (iDelK_nil w p s hp).mono ?_
    rintro e w' ⟨rfl, hb⟩
    exact ⟨_, rfl, ⟨rfl, .inl ⟨rfl, rfl⟩⟩, grown_below hb, rfl⟩
  · refine (iDelK_any w B g rs.length cap rs p s h' rfl hp (fun e => by rcases hn with q | q; cases q; exact q (by rw [e]; rfl))).mono ?_
    rintro e w' ⟨n, hn, rfl, ho, hg⟩
    subst hn
    exact ⟨_, rfl, ho, hg, rfl⟩
set_option maxRecDepth 100000 in
set_option maxHeartbeats 3000000 in
theorem iRecIn_any (w : World) (B gp : Nat) (m : Mo) (o : O) (vk vr : Value) (h : MoOwn w B m vk vr) (hp : Blk w gp 27 #[vk, vr]) (hB : B ≤ w.heap.size) (hok : modelOkV m = true) (hf : m.Fit) (hs : o.key.size ≤ maxLen) (hv0 : -9223372036854775808 ≤ o.val) (hv1 : o.val ≤ 9223372036854775807) : Calls Tryz.prog 38 #[.pointer (some ⟨gp, 0, none⟩), .string o.key, .int .i64 o.val] w (InM w B gp (recV m o) vk vr) := by
  have CR := fun W (hb : Below w.heap.size w W) => Lib.hid (iModelRow_any W m vk vr o.key (h.below hb).win)
  have CW := fun W => Lib.hid (iWith_any W (mRowV m o.key) o.val (mRow_fit hf hs) hv0 hv1)
  have HV := Lib.hid (show recV m o = if (mRowV m o.key).kind = 0 then (m, 2) else (⟨m.keys, rowPutV m.rows (withV (mRowV m o.key) o.val)⟩, if (mRowV m o.key).n = 3 then 5 else 0) from by unfold recV; rw [mRow_code hok])
  have HKY := Lib.hid (fun q => mRow_keyK (m := m) (s := o.key) q)
  have HPR := Lib.hid (fun (q : (mRowV m o.key).kind ≠ 0) => (show oneV (sortV ((noKey o.key m.rows ++ [withV (mRowV m o.key) o.val]).filter fun r => !quietV r)) = rowPutV m.rows (withV (mRowV m o.key) o.val) from by
    have e := with_key (mRowV m o.key) o.val
    have := rowPut_prog (x := withV (mRowV m o.key) o.val) (modelOk_parts hok).2.2 (by rw [e.2]; exact q)
    rwa [e.1, mRow_keyK q] at this))
  have HLN := Lib.hid (show (noKey o.key m.rows).length ≤ 4 from Nat.le_trans (List.length_filter_le _ _) (report_at (modelOk_parts hok).2.2).1)
  have HFR := Lib.hid (noKey_fit (x := withV (mRowV m o.key) o.val) o.key hf.rows (with_fit (mRow_fit hf hs) ⟨hv0, hv1⟩))
  have CD := fun W (hb : Below w.heap.size w W) p hp => Lib.hid (iDelK_own W B p vr m.rows o.key (h.below hb).rows hp)
  have hu := Tryz.underlying27
  have huR := Tryz.underlying42
  have hmf : ∀ (fn : Fn) (first cap : Array Value) (w : World), (Instr.makeFunc fn first cap).run Tryz.prog w = .ok (.func fn first cap) w := fun _ _ _ _ => rfl
  generalize recV m o = rg at *
  generalize hx : withV (mRowV m o.key) o.val = x at *
  generalize mRowV m o.key = r at *
  generalize noKey o.key m.rows = nk at *
  clear hx
  obtain ⟨okind, okey, owhat, oval⟩ := o
  have HO0 := Lib.hid h
  have HP0 := Lib.hid hp
  have NG := Lib.hid (own_ne h.keys hp (by decide))
  have NR := Lib.hid (own_ne h.rows hp (by decide))
  have NR7 := Lib.hid h.rows.lt
  have HAPK := Lib.hid h.ap
  have hgp := hp.lt
  obtain ⟨Ak, nk', ck, rfl⟩ := own_slice h.keys
  obtain ⟨Ar, nr, cr, rfl⟩ := own_slice h.rows
  clear h hp hok hf hs hv0 hv1
  unfold R.v at CR CW
  simp only at *
  go_enter Tryz.func38, Tryz.ntmps38
  go_upto_region 1 with fail
  refine wp_gen (fun W => Blk W w.heap.size 9 #[.string okey] ∧ Below w.heap.size w W) ⟨Blk.new w _ _ _ rfl, below_oneM _ _⟩ ?_
  rintro W ⟨gs, hb⟩
  go_cut [7] from 9 to 13 (fun x wx => ∃ g7, x = .pointer (some ⟨g7, 0, none⟩) ∧ Blk wx g7 42 (rowCells r) ∧ W.heap.size ≤ g7 ∧ Below W.heap.size W wx)
  case first =>
    have hbd : Below W.heap.size W W.drew := below_drew _ _
    have G0 := Lib.hid (show Blk W.drew gp 27 #[.slice Ak nk' ck, .slice Ar nr cr] from (HP0.out.below hb).below hbd)
    have GS := Lib.hid (show Blk W.drew w.heap.size 9 #[.string okey] from gs.below hbd)
    have HWS := Lib.hid gs.lt
    have HB0 := Lib.hid (hb.trans (hbd.mono hb.size))
    have HBW := Lib.hid hbd
    clear hb gs hbd
    refine wp_region_held_drew (S := fun X : World => Blk X gp 27 #[.slice Ak nk' ck, .slice Ar nr cr] ∧ Blk X w.heap.size 9 #[.string okey]) (by kernel_rfl) ⟨G0.out, GS.out⟩ (fun hHeld => ?_)
    clear hHeld
    generalize W.drew = X0 at *
    refine' wpAnyH_take (i := 0) (v := .pointer (some ⟨gp, 0, none⟩)) rfl (by kernel_rfl) (by kernel_rfl) (by kernel_rfl) (fun _ _ _ h => h) (Or.inl ⟨by rfl, fun W h => by go_simp⟩) ⟨G0.out, GS.out⟩ ?_
    try simp only [Act.put, List.getElem_toArray, List.getElem_cons_succ, List.getElem_cons_zero, List.setIfInBounds_toArray, List.set_cons_zero, List.set_cons_succ]
    refine' wpAnyH_take (i := 1) (v := .pointer (some ⟨gp, 0, none⟩)) rfl (by kernel_rfl) (by kernel_rfl) (by kernel_rfl) (fun _ _ _ h => h) (Or.inl ⟨by rfl, fun W h => by go_simp⟩) ⟨G0.out, GS.out⟩ ?_
    try simp only [Act.put, List.getElem_toArray, List.getElem_cons_succ, List.getElem_cons_zero, List.setIfInBounds_toArray, List.set_cons_zero, List.set_cons_succ]
    refine' wpAnyH_take (i := 2) (v := .agg #[.slice Ak nk' ck, .slice Ar nr cr]) rfl (by kernel_rfl) (by kernel_rfl) (by kernel_rfl) (fun _ _ _ h => h) (yieldsIf_load_mid (by rfl) 27 _ rfl gp 0 rfl (#[.slice Ak nk' ck, .slice Ar nr cr] : Array Value).toList _ (fun w' h => Blk.rangeM h.1) hu rfl (by kernel_rfl)) ⟨G0.out, GS.out⟩ ?_
    try simp only [Act.put, List.getElem_toArray, List.getElem_cons_succ, List.getElem_cons_zero, List.setIfInBounds_toArray, List.set_cons_zero, List.set_cons_succ]
    refine' wpAnyH_take (i := 3) (v := .string okey) rfl (by kernel_rfl) (by kernel_rfl) (by kernel_rfl) (fun _ _ _ h => h) (Or.inl ⟨by rfl, fun W h => by have q := h.2.get 0; simp at q; go_simp⟩) ⟨G0.out, GS.out⟩ ?_
    try simp only [Act.put, List.getElem_toArray, List.getElem_cons_succ, List.getElem_cons_zero, List.setIfInBounds_toArray, List.set_cons_zero, List.set_cons_succ]
    refine wpAnyH_ready (rs := [4, 5]) (by kernel_rfl) (by simp) ?_
    refine AllReadyH.cons rfl (fun K hK => ?_) (AllReadyH.cons rfl (fun K hK => ?_) AllReadyH.nil)
    · skip
      go_simp
      refine (CR _ HB0.out).out.mono ?_
      rintro e X1 ⟨rfl, hb⟩
      replace G0 := Lib.hid (G0.out.below hb); replace GS := Lib.hid (GS.out.below hb); replace HB0 := Lib.hid (HB0.out.trans (hb.mono HB0.out.size)); replace HBW := Lib.hid (HBW.out.trans (hb.mono HBW.out.size))
      refine hK.out _ _ ⟨G0.out, GS.out⟩ (fun hHeld => ?_)
      clear hK K hHeld hb
      try simp only [Act.put, List.getElem_toArray, List.getElem_cons_succ, List.getElem_cons_zero, List.setIfInBounds_toArray, List.set_cons_zero, List.set_cons_succ]
      refine wpAnyH_ready (rs := [5]) (by kernel_rfl) (by simp) ?_
      refine AllReadyH.cons rfl (fun K hK => ?_) AllReadyH.nil
      go_simp
      have hb := below_oneM X1 (.cells (rowCells zeroR) 42)
      have hn := Blk.new X1 X1.heap.size 42 (rowCells zeroR) rfl
      obtain ⟨g7, hg⟩ : ∃ g, g = X1.heap.size := ⟨_, rfl⟩
      rw [← hg] at hn
      have HZ := Lib.hid (show W.heap.size ≤ g7 from by rw [hg]; exact HBW.out.size)
      have G7 := Lib.hid hn
      clear hn
      replace G0 := Lib.hid (G0.out.below hb); replace GS := Lib.hid (GS.out.below hb); replace HB0 := Lib.hid (HB0.out.trans (hb.mono HB0.out.size)); replace HBW := Lib.hid (HBW.out.trans (hb.mono HBW.out.size))
      refine hK.out _ _ ⟨G0.out, GS.out⟩ (fun hHeld => ?_)
      clear hK K hHeld hb
      try simp only [Act.put, List.getElem_toArray, List.getElem_cons_succ, List.getElem_cons_zero, List.setIfInBounds_toArray, List.set_cons_zero, List.set_cons_succ]
      rw [← hg]
      clear hg
      refine wpAnyH_ready (rs := [6]) (by kernel_rfl) (by simp) ?_
      refine AllReadyH.cons rfl (fun K hK => ?_) AllReadyH.nil
      rw [if_pos (by rfl)]
      refine wp_store_row 42 _ _ rfl g7 (rowCells r) rfl rfl 42 _ G7.out (by kernel_rfl) rfl (by simp [rowCells, Value.oneCell']) ?_
      have h7 : Blk ((X1.alloc (.cells (rowCells zeroR) 42)).setRow g7 (rowCells r)) g7 42 (rowCells r) := setRow_heap _ _ _ _ _ _ G7.out
      have hge := HZ.out
      have hws := HWS.out
      have G9 := Lib.hid (show Blk ((X1.alloc (.cells (rowCells zeroR) 42)).setRow g7 (rowCells r)) gp 27 #[.slice Ak nk' ck, .slice Ar nr cr] from (setRow_other (X1.alloc (.cells (rowCells zeroR) 42)) g7 gp _ (by omega)).trans G0.out)
      have GT := Lib.hid (show Blk ((X1.alloc (.cells (rowCells zeroR) 42)).setRow g7 (rowCells r)) w.heap.size 9 #[.string okey] from (setRow_other (X1.alloc (.cells (rowCells zeroR) 42)) g7 w.heap.size _ (by omega)).trans GS.out)
      have HB9 := Lib.hid (below_setRow' HBW.out hge (rowCells r))
      have H7 := Lib.hid h7
      refine hK.out _ _ ⟨G9.out, GT.out⟩ (fun hHeld => ?_)
      clear hK K hHeld h7 G0 GS HBW HB0 G7
      try simp only [Act.put, List.getElem_toArray, List.getElem_cons_succ, List.getElem_cons_zero, List.setIfInBounds_toArray, List.set_cons_zero, List.set_cons_succ]
      refine wpAnyH_done (by kernel_rfl) ?_ _
      go_wp2_with fail
      go_meet
      exact ⟨g7, rfl, H7.out, HZ.out, HB9.out⟩
    · skip
      go_simp
      have hb := below_oneM X0 (.cells (rowCells zeroR) 42)
      have hn := Blk.new X0 X0.heap.size 42 (rowCells zeroR) rfl
      obtain ⟨g7, hg⟩ : ∃ g, g = X0.heap.size := ⟨_, rfl⟩
      rw [← hg] at hn
      have HZ := Lib.hid (show W.heap.size ≤ g7 from by rw [hg]; exact HBW.out.size)
      have G7 := Lib.hid hn
      clear hn
      replace G0 := Lib.hid (G0.out.below hb); replace GS := Lib.hid (GS.out.below hb); replace HB0 := Lib.hid (HB0.out.trans (hb.mono HB0.out.size)); replace HBW := Lib.hid (HBW.out.trans (hb.mono HBW.out.size))
      refine hK.out _ _ ⟨G0.out, GS.out⟩ (fun hHeld => ?_)
      clear hK K hHeld hb
      try simp only [Act.put, List.getElem_toArray, List.getElem_cons_succ, List.getElem_cons_zero, List.setIfInBounds_toArray, List.set_cons_zero, List.set_cons_succ]
      rw [← hg]
      clear hg
      refine wpAnyH_ready (rs := [4]) (by kernel_rfl) (by simp) ?_
      refine AllReadyH.cons rfl (fun K hK => ?_) AllReadyH.nil
      go_simp
      refine (CR _ HB0.out).out.mono ?_
      rintro e X2 ⟨rfl, hb⟩
      replace G0 := Lib.hid (G0.out.below hb); replace GS := Lib.hid (GS.out.below hb); replace HB0 := Lib.hid (HB0.out.trans (hb.mono HB0.out.size)); replace HBW := Lib.hid (HBW.out.trans (hb.mono HBW.out.size)); replace G7 := Lib.hid (G7.out.below hb)
      refine hK.out _ _ ⟨G0.out, GS.out⟩ (fun hHeld => ?_)
      clear hK K hHeld hb
      try simp only [Act.put, List.getElem_toArray, List.getElem_cons_succ, List.getElem_cons_zero, List.setIfInBounds_toArray, List.set_cons_zero, List.set_cons_succ]
      refine wpAnyH_ready (rs := [6]) (by kernel_rfl) (by simp) ?_
      refine AllReadyH.cons rfl (fun K hK => ?_) AllReadyH.nil
      rw [if_pos (by rfl)]
      refine wp_store_row 42 _ _ rfl g7 (rowCells r) rfl rfl 42 _ G7.out (by kernel_rfl) rfl (by simp [rowCells, Value.oneCell']) ?_
      have h7 : Blk (X2.setRow g7 (rowCells r)) g7 42 (rowCells r) := setRow_heap _ _ _ _ _ _ G7.out
      have hge := HZ.out
      have hws := HWS.out
      have G9 := Lib.hid (show Blk (X2.setRow g7 (rowCells r)) gp 27 #[.slice Ak nk' ck, .slice Ar nr cr] from (setRow_other X2 g7 gp _ (by omega)).trans G0.out)
      have GT := Lib.hid (show Blk (X2.setRow g7 (rowCells r)) w.heap.size 9 #[.string okey] from (setRow_other X2 g7 w.heap.size _ (by omega)).trans GS.out)
      have HB9 := Lib.hid (below_setRow' HBW.out hge (rowCells r))
      have H7 := Lib.hid h7
      refine hK.out _ _ ⟨G9.out, GT.out⟩ (fun hHeld => ?_)
      clear hK K hHeld h7 G0 GS HBW HB0 G7
      try simp only [Act.put, List.getElem_toArray, List.getElem_cons_succ, List.getElem_cons_zero, List.setIfInBounds_toArray, List.set_cons_zero, List.set_cons_succ]
      refine wpAnyH_done (by kernel_rfl) ?_ _
      go_wp2_with fail
      go_meet
      exact ⟨g7, rfl, H7.out, HZ.out, HB9.out⟩
  case rest =>
    obtain ⟨g7, rfl, h7, hg7, hb7⟩ := hcut
    have HB := Lib.hid (hb.trans (hb7.mono hb.size))
    have G7 := Lib.hid h7
    have GS := Lib.hid (gs.below hb7)
    have HP := Lib.hid (HP0.out.below HB.out)
    have HC := Lib.hid (Chg.of_below (S := TouchM w.heap.size gp (.slice Ak nk' ck) (.slice Ar nr cr)) HB.out)
    have hws := gs.lt
    have q1 := h7.get 1
    simp [rowCells] at q1
    clear CR HP0 hb gs hb7 h7
    by_cases c0 : r.kind = 0
    · have d0 : (r.kind == 0) = true := by rw [beq_iff_eq]; exact c0
      have HR := Lib.hid (HV.out.trans (if_pos c0))
      clear c0 HV HKY HPR CD CW
      go_wp2_with fail
      go_ret
      exact ⟨_, _, ret_num (show (2 : Int) = rg.2 from by rw [HR.out]), by rw [HR.out]; exact HO0.out.below HB.out, HP.out, HC.out⟩
    have d0 : (r.kind == 0) = false := by rw [beq_eq_false_iff_ne]; exact c0
    have HR := Lib.hid (HV.out.trans (if_neg c0))
    have HPP := Lib.hid (HPR.out c0)
    clear c0 HV HKY HPR
    have p1 := HP.out.get 1
    simp at p1
    go_wp2_with fail
    refine (CD _ HB.out _ GS.out).out.mono ?_
    rintro e W2 ⟨u, rfl, hu2, hg2, hub⟩
    obtain ⟨Au, nu, cu, rfl⟩ := own_slice hu2
    have HU := Lib.hid hu2
    have HK := Lib.hid (OwnF.kept (HO0.out.below HB.out).keys hg2 HO0.out.ap)
    have HP2 := Lib.hid (HP.out.grown hg2 (by rcases NR.out with e | e; rw [e]; simp; exact e))
    have G72 := Lib.hid (G7.out.grown hg2 (fun e => by have := NR7.out _ e; omega))
    have HC2 := Lib.hid (HC.out.trans (Chg.of_grown hg2 fun i hi => .inr (.inl (.inr hi))))
    have HUB := Lib.hid hub
    have HSZ := Lib.hid (Nat.le_trans HB.out.size hg2.size)
    clear hu2 hg2 hub HP HC CD G7 GS p1 q1 HO0
    go_wp2_with ((with_reducible show wpList _ _ _ _ _ _); refine wpList_load_row rfl 42 _ rfl g7 rfl 42 (rowCells r) (0, 0) _ G72.out huR rfl (by kernel_rfl) ?_)
    refine (CW _).out.mono ?_
    rintro e W3 ⟨rfl, hb3⟩
    have HU3 := Lib.hid (HU.out.below hb3)
    have HK3 := Lib.hid (HK.out.below hb3)
    have HP3 := Lib.hid (HP2.out.below hb3)
    have G73 := Lib.hid (G72.out.below hb3)
    have HC3 := Lib.hid (HC2.out.trans (Chg.of_below hb3))
    have HSZ3 := Lib.hid (Nat.le_trans HSZ.out hb3.size)
    clear hb3 CW HU HK HP2 G72 HC2 HSZ
    go_wp2_with (at_builtin; refine wpR_append _ rfl _ _ rfl B (.slice Au nu cu) nk HU3.out rfl x _ rfl rfl ?d1 ?d2 ?_; rotate_left 2; intro v4 W4 hown hgr; have HV4 := Lib.hid hown; have HG4 := Lib.hid hgr; clear hown hgr; obtain ⟨gv, cv, rfl⟩ : ∃ g c, v4 = .slice (some ⟨g, 0, none⟩) (nk.length + 1) c := (by obtain ⟨g, c, e⟩ := own_some HV4.out (by simp); exact ⟨g, c, by rw [e, List.length_append]; rfl⟩))
    case d1 => have := HLN.out; omega
    case d2 => exact Nat.le_trans hB HSZ3.out
    refine (iReportOf_any W4 B gv (nk.length + 1) cv (nk ++ [x]) HV4.out (by simp) (by have := HLN.out; omega) HFR.out).mono ?_
    rintro e W5 ⟨v5, rfl, ho5, hb5⟩
    rw [HPP.out] at ho5
    obtain ⟨A5, n5, c5, rfl⟩ := own_slice ho5
    have HNU := Lib.hid (show (Value.slice Au nu cu).ownBlock = none ∨ (Value.slice Au nu cu).ownBlock ≠ some gp from by rw [HUB.out]; exact NR.out)
    have HP4 := Lib.hid ((HP3.out.alloc (.cells (rowCells x) 42)).grown HG4.out (by rcases HNU.out with e | e; rw [e]; simp; exact e))
    have G74 := Lib.hid ((G73.out.alloc (.cells (rowCells x) 42)).grown HG4.out (fun e => by rw [HUB.out] at e; have := NR7.out _ e; omega))
    have HK4 := Lib.hid (OwnF.kept (HK3.out.alloc (.cells (rowCells x) 42)) HG4.out (by rw [HUB.out]; exact HAPK.out))
    have HC4 := Lib.hid ((HC3.out.trans (Chg.of_below (below_oneM W3 (.cells (rowCells x) 42)))).trans (Chg.of_grown HG4.out fun i hi => .inr (.inl (.inr (by rw [← hi, HUB.out])))))
    have HSZ4 := Lib.hid (show w.heap.size ≤ W4.heap.size from Nat.le_trans HSZ3.out (Nat.le_trans (below_oneM W3 (.cells (rowCells x) 42)).size HG4.out.size))
    have HP5 := Lib.hid (HP4.out.below hb5)
    have G75 := Lib.hid (G74.out.below hb5)
    have HK5 := Lib.hid (OwnF.below HK4.out hb5)
    have HK4L := Lib.hid (OwnF.lt HK4.out)
    have HC5 := Lib.hid (HC4.out.trans (Chg.of_below hb5))
    have HO5 := Lib.hid ho5
    have p1 := HP5.out.get 1
    have p1f := HP5.out.frz 1
    simp at p1
    clear ho5 hb5 HU3 HK3 HP3 G73 HC3 HV4 HG4 HFR HPP HP4 G74 HC4 HNU
    go_upto_region 6 with fail
    have N5 := Lib.hid (own_ne HO5.out HP5.out (by decide))
    have hgn : gp ≠ g7 := by omega
    refine wp_gen (fun X => Blk X gp 27 #[.slice Ak nk' ck, .slice A5 n5 c5] ∧ Blk X g7 42 (rowCells r) ∧ OwnF 40 2 krCells X B (.slice Ak nk' ck) m.keys ∧ OwnR X W4.heap.size (.slice A5 n5 c5) (rowPutV m.rows x) ∧ Chg (TouchM w.heap.size gp (.slice Ak nk' ck) (.slice Ar nr cr)) w X) ⟨HP5.out.store 1 _, G75.out.far _ _ _ (Ne.symm hgn), OwnF.kept HK5.out (row_store HP5.out 1 _) NG.out, HO5.out.kept (row_store HP5.out 1 _) N5.out, HC5.out.trans (Chg.of_grown (row_store HP5.out 1 _) fun i hi => .inl (Option.some.inj hi).symm)⟩ ?_
    rintro X ⟨k1, k7, kk, kr', kc⟩
    have q5 := k7.get 5
    simp [rowCells] at q5
    have HP6 := Lib.hid k1
    have HK6 := Lib.hid kk
    have HR6 := Lib.hid kr'
    have HC6 := Lib.hid kc
    clear k1 k7 kk kr' kc HP5 G75 HK5 HK4 HC5 HO5 N5 p1 p1f
    have HAP6 := Lib.hid (show Ap (.slice Ak nk' ck) (.slice A5 n5 c5) from ap_of (e := W4.heap.size) (fun k hk => HK4L.out k hk) (fun k hk => HR6.out.base_le k hk))
    have HM6 := Lib.hid (show MoOwn X B ⟨m.keys, rowPutV m.rows x⟩ (.slice Ak nk' ck) (.slice A5 n5 c5) from ⟨HK6.out, OwnR.low HR6.out (Nat.le_trans hB HSZ4.out), HAP6.out⟩)
    by_cases c3 : r.n = 3
    · have d3 : (r.n == 3) = true := by rw [beq_iff_eq]; exact c3
      rw [if_pos c3] at HR
      clear c3
      go_wp2_with fail
      go_ret
      exact ⟨_, _, ret_num (show (5 : Int) = rg.2 from by rw [HR.out]), by rw [HR.out]; exact HM6.out, HP6.out, HC6.out⟩
    · have d3 : (r.n == 3) = false := by rw [beq_eq_false_iff_ne]; exact c3
      rw [if_neg c3] at HR
      clear c3
      go_wp2_with fail
      go_ret
      exact ⟨_, _, ret_num (show (0 : Int) = rg.2 from by rw [HR.out]), by rw [HR.out]; exact HM6.out, HP6.out, HC6.out⟩
end Go.Proofs.YtbhhhakfjmaglaaGreat

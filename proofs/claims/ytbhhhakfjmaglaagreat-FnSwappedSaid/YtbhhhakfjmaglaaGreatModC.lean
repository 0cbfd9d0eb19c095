/-
  Chapter 13, the model's l13Copy: both rows in new blocks, whatever order they are made in.
-/
import Derived.Test.YtbhhhakfjmaglaaGreatZc
import Derived.Deep.RegionHeld3
import Derived.Maps.AppendAt
import Derived.Laws.OwnMore
import Derived.Great.BuildSlice
namespace Go.Proofs.YtbhhhakfjmaglaaGreat
open Go.RowKit M
set_option linter.unusedVariables false
set_option linter.unusedSimpArgs false
/-- 'append(s, x...)' where s is own and empty and x is own, nil too: one operation. -/
theorem wp_append_ownx {P : Program} {w : World} {o : Oper} {a : Act} {K : Act → World → Prop} {Q : Exit → Act → World → Prop} (s x : Operand) (t : TypeId)
    (ho : o.op = .call { callee := .builtin .append, args := #[s, x], argTypes := #[t, t] })
    (base : Nat) (e : TypeId) (i : TypeInfo) (z : Value) (size bytes : Nat) (ht : P.underlying t = some (.slice e)) (hi : P.info? e = some i) (hz : i.zero = some z)
    (hsize : i.size = size) (hby : i.bytes = bytes) (hzs : z.cells.size = size) (hsz : 0 < size)
    (v : Value) (hs : a.eval s = v) (hown : w.ownsRow base e size v 0 []) (B m : Nat) (vx : Value) (cs : List Value) (hx : a.eval x = vx) (hvx : w.ownsRow B e size vx m cs)
    (h1 : ∀ u ∈ cs, u.oneCell' = true) (h63 : m ≤ maxLen) (hbytes : m * bytes ≤ 140737488355328) (hbase : base ≤ w.heap.size)
    (h : ∀ v' w', w'.ownsRow base e size v' m cs → w.grownBy w' v.ownBlock → (v'.ownBlock = v.ownBlock ∨ v'.ownBlock = some w.heap.size) → K (a.put o.dst v') w') : o.wp P a w K Q := by
  have hvx' := hvx
  rcases hvx.2 with ⟨e1, h0⟩ | ⟨g, cap, cur, e1, _, hg, hn, hm, _, _⟩
  · subst e1; subst h0
    have hcs : cs = [] := List.length_eq_zero_iff.1 (by have := hvx.1; rw [Nat.zero_mul] at this; exact this)
    subst hcs
    have hrun := run_append_owned_none (P := P) (w := w) base t o.type e i size ht hi v 0 [] hown
    unfold Oper.wp execOp
    simp only [ho, resolve, invoke, builtin, Sem.run_bind, Sem.run_pure, Result.andThen_ok, List.map_toArray, List.map_cons, List.map_nil, hs, hx, hrun]
    exact h v w hown (World.grownBy.refl _ _) (.inl rfl)
  · subst e1
    obtain ⟨v', w', hr, h2, h3, _, h5⟩ := run_append_own_at (P := P) w base t o.type e i z size bytes ht hi hz hsize hby hzs hsz v 0 [] hown ⟨g, 0, none⟩ m cap cs hvx.1 (fun j u hj => by
      have hlt := (List.getElem?_eq_some_iff.1 hj).1
      rw [Addr.add_lit, Nat.zero_add, World.ownsRow.cellAt hvx' j (by rw [← hvx.1]; exact hlt)]
      exact hj) h1 (by rw [Nat.zero_add]; exact h63) (by rw [Nat.zero_add]; exact hbytes) hbase
    unfold Oper.wp execOp
    simp only [ho, resolve, invoke, builtin, Sem.run_bind, Sem.run_pure, Result.andThen_ok, List.map_toArray, List.map_cons, List.map_nil, hs, hx, hr]
    exact h v' w' (by simpa using h2) h3 h5
theorem kr_one (l : List KR) : ∀ u ∈ cellsF krCells l, u.oneCell' = true := by
  intro u hu
  unfold cellsF at hu
  rw [List.mem_flatMap] at hu
  obtain ⟨r, _, hr⟩ := hu
  have : u = .string r.key ∨ u = .int .i64 r.kind := by simpa [krCells] using hr
  rcases this with rfl | rfl <;> rfl
theorem own_one {w : World} {base : Nat} {t : TypeId} {F n : Nat} {v : Value} {cs : List Value} (h : w.ownsRow base t F v n cs) : v.oneCell' = true := by
  rcases h.2 with ⟨rfl, _⟩ | ⟨g, cap, cur, rfl, _⟩ <;> rfl
theorem own_slice {w : World} {base : Nat} {t : TypeId} {F n : Nat} {v : Value} {cs : List Value} (h : w.ownsRow base t F v n cs) : ∃ A m c, v = .slice A m c := by
  rcases h.2 with ⟨rfl, _⟩ | ⟨g, cap, cur, rfl, _⟩ <;> exact ⟨_, _, _, rfl⟩
theorem ow_new {v v' : Value} {n : Nat} (h : v'.ownBlock = v.ownBlock ∨ v'.ownBlock = some n) : v'.ownBlock = v.ownBlock ∨ ∀ k, v'.ownBlock = some k → n ≤ k := by
  rcases h with h | h
  · exact .inl h
  · exact .inr fun k hk => by rw [h] at hk; injection hk with hk; omega
theorem grown_alloc (w : World) (o : Obj) (r : Option Nat) : w.grownBy (w.alloc o) r := ⟨rfl, rfl, rfl, by simp, fun i hi _ => by have := ((Below.refl w.heap.size w).alloc (Nat.le_refl _) o).block i hi; exact this⟩
set_option maxRecDepth 100000 in
set_option maxHeartbeats 4000000 in
theorem sMoCopy_any (w : World) (B : Nat) (m : Mo) (vk vr : Value) (h : MoOwn w B m vk vr) (hk : m.keys.length ≤ 1048576) (hr : m.rows.length ≤ 1048576) : Calls Tryz.prog 39 #[.agg #[vk, vr]] w (MadeMo w m) := by
  obtain ⟨ik, hk1, hk2, hk3, hk4⟩ := info_parts info_KRow
  obtain ⟨ir, hr1, hr2, hr3, hr4⟩ := info_parts info_row
  have HIN := Lib.hid (fun W (hb : Below w.heap.size w W) => h.below hb)
  have HLK := Lib.hid hk
  have HLR := Lib.hid hr
  have hu := Tryz.underlying27
  obtain ⟨Ak, nk, ck, rfl⟩ : ∃ A n c, vk = .slice A n c := by obtain ⟨A, c, e⟩ := h.keys.shape; exact ⟨A, _, c, e⟩
  obtain ⟨Ar, nr, cr, rfl⟩ : ∃ A n c, vr = .slice A n c := by obtain ⟨A, c, e, _⟩ := h.rows.arg; exact ⟨A, _, c, e⟩
  clear h hk hr
  go_enter Tryz.func39, Tryz.ntmps39
  go_upto_region 1 with fail
  refine wp_gen (fun W => Blk W w.heap.size 27 #[.slice Ak nk ck, .slice Ar nr cr] ∧ Blk W (w.heap.size + 1) 27 #[.slice none 0 0, .slice none 0 0] ∧ Below w.heap.size w W) ⟨(Blk.new w _ _ _ rfl).alloc _, Blk.new _ _ _ _ (by simp [go_sem]), ((Below.refl _ _).alloc (Nat.le_refl _) _).alloc (by simp [go_sem]) _⟩ ?_
  rintro W ⟨h0, h1, hb⟩
  have G0 := Lib.hid (h0.below (below_drew _ _))
  have G1 := Lib.hid (h1.below (below_drew _ _))
  have HB := Lib.hid (hb.trans (below_drew _ _))
  clear h0 h1 hb
  have HZ := Lib.hid (show w.heap.size + 2 ≤ W.drew.heap.size from G1.out.lt)
  have HA := Lib.hid (show Heap W.drew (w.heap.size + 2) [(⟨.slice none 0 0, 40, 2, 0, []⟩ : Rw), (⟨.slice none 0 0, 42, 10, 0, []⟩ : Rw)] from ⟨fun r hr => by rcases List.mem_cons.1 hr with rfl | hr; exact ⟨rfl, .inl ⟨rfl, rfl⟩⟩; rw [List.mem_singleton.1 hr]; exact ⟨rfl, .inl ⟨rfl, rfl⟩⟩, List.Pairwise.cons (fun b hb => ⟨.inl rfl, by rw [List.mem_singleton.1 hb]; exact .inl rfl⟩) (List.pairwise_singleton _ _)⟩)
  refine wp_region_held_drew (S := fun X : World => X.cell? ⟨w.heap.size, 0, none⟩ = some (.slice Ak nk ck) ∧ X.cell? ⟨w.heap.size, 1, none⟩ = some (.slice Ar nr cr)) (by kernel_rfl) ⟨G0.out.get 0, G0.out.get 1⟩ (fun hHeld => ?_)
  clear hHeld
  generalize W.drew = X0 at *
  refine' wpAnyH_take (i := 1) (v := .pointer (some ⟨w.heap.size, 0, none⟩)) rfl (by kernel_rfl) (by kernel_rfl) (by kernel_rfl) (fun _ _ _ h => h) (Or.inl ⟨by rfl, fun W h => by go_simp⟩) ⟨G0.out.get 0, G0.out.get 1⟩ ?_
  try simp only [Act.put, List.getElem_toArray, List.getElem_cons_succ, List.getElem_cons_zero, List.setIfInBounds_toArray, List.set_cons_zero, List.set_cons_succ]
  refine' wpAnyH_take (i := 2) (v := .slice Ak nk ck) rfl (by kernel_rfl) (by kernel_rfl) (by kernel_rfl) (fun _ _ _ h => h) (Or.inl ⟨by rfl, fun W h => by obtain ⟨h1, h2⟩ := h; go_simp⟩) ⟨G0.out.get 0, G0.out.get 1⟩ ?_
  try simp only [Act.put, List.getElem_toArray, List.getElem_cons_succ, List.getElem_cons_zero, List.setIfInBounds_toArray, List.set_cons_zero, List.set_cons_succ]
  refine' wpAnyH_take (i := 5) (v := .pointer (some ⟨w.heap.size, 1, none⟩)) rfl (by kernel_rfl) (by kernel_rfl) (by kernel_rfl) (fun _ _ _ h => h) (Or.inl ⟨by rfl, fun W h => by go_simp⟩) ⟨G0.out.get 0, G0.out.get 1⟩ ?_
  try simp only [Act.put, List.getElem_toArray, List.getElem_cons_succ, List.getElem_cons_zero, List.setIfInBounds_toArray, List.set_cons_zero, List.set_cons_succ]
  refine' wpAnyH_take (i := 6) (v := .slice Ar nr cr) rfl (by kernel_rfl) (by kernel_rfl) (by kernel_rfl) (fun _ _ _ h => h) (Or.inl ⟨by rfl, fun W h => by obtain ⟨h1, h2⟩ := h; go_simp⟩) ⟨G0.out.get 0, G0.out.get 1⟩ ?_
  try simp only [Act.put, List.getElem_toArray, List.getElem_cons_succ, List.getElem_cons_zero, List.setIfInBounds_toArray, List.set_cons_zero, List.set_cons_succ]
  refine wpAnyH_ready (rs := [0, 4]) (by kernel_rfl) (by simp) ?_
  refine AllReadyH.cons rfl (fun K hK => ?_) (AllReadyH.cons rfl (fun K hK => ?_) AllReadyH.nil)
  · skip
    go_simp
    have ht := Heap.turn (A := []) (r' := ⟨.slice (some ⟨X0.heap.size, 0, none⟩) 0 0, 40, 2, 0, []⟩) HA.out (grown_alloc X0 (.cells #[] 40) _) (World.ownsRow_made X0 #[] 0 HZ.out (Nat.zero_le _) rfl) (.inr fun k hk => Nat.le_of_eq (Option.some.inj hk))
    have hb : Below X0.heap.size X0 (X0.alloc (.cells #[] 40)) := (Below.refl _ _).alloc (Nat.le_refl _) _
    replace HA := Lib.hid ht
    replace G0 := Lib.hid (G0.out.below hb); replace G1 := Lib.hid (G1.out.below hb); replace HB := Lib.hid (HB.out.trans (hb.mono HB.out.size)); replace HZ := Lib.hid (Nat.le_trans HZ.out hb.size)
    refine hK.out _ _ ⟨G0.out.get 0, G0.out.get 1⟩ (fun hHeld => ?_)
    clear hK K hHeld ht hb
    try simp only [Act.put, List.getElem_toArray, List.getElem_cons_succ, List.getElem_cons_zero, List.setIfInBounds_toArray, List.set_cons_zero, List.set_cons_succ]
    obtain ⟨g1, hg⟩ : ∃ g, X0.heap.size = g := ⟨_, rfl⟩
    generalize X0.alloc (.cells #[] 40) = X1 at *
    rw [hg] at HA ⊢
    clear hg
    refine wpAnyH_ready (rs := [3, 4]) (by kernel_rfl) (by simp) ?_
    refine AllReadyH.cons rfl (fun K hK => ?_) (AllReadyH.cons rfl (fun K hK => ?_) AllReadyH.nil)
    · skip
      refine wp_append_ownx _ _ 24 rfl (w.heap.size + 2) 40 ik zeroKR.v 2 24 Tryz.underlying24 hk1 hk2 hk3 hk4 rfl (by decide) (.slice (some ⟨g1, 0, none⟩) 0 0) rfl (HA.out.own _ List.mem_cons_self) B m.keys.length (.slice Ak nk ck) (cellsF krCells m.keys) rfl ((HIN.out X1 HB.out).keys) ?_ ?_ ?_ HZ.out ?_
      · exact kr_one _
      · have := HLK.out; unfold maxLen; omega
      · have := HLK.out; omega
      intro v2 X2 hown hgr hbk
      obtain ⟨A2, n2, c2, rfl⟩ := own_slice hown
      have ht := Heap.turn (A := []) (r' := ⟨.slice A2 n2 c2, 40, 2, m.keys.length, cellsF krCells m.keys⟩) HA.out hgr hown (ow_new hbk)
      have hb : Below (w.heap.size + 2) X1 X2 := (Below.refl _ _).grown hgr HZ.out (fun k hk => by have h9 := HA.out.base_le (r := (⟨.slice (some ⟨g1, 0, none⟩) 0 0, 40, 2, 0, []⟩ : Rw)) List.mem_cons_self k hk; exact h9)
      replace HA := Lib.hid ht
      replace G0 := Lib.hid (show Blk X2 w.heap.size 27 #[.slice Ak nk ck, .slice Ar nr cr] from (hb.block w.heap.size (by omega)).trans G0.out); replace G1 := Lib.hid (show Blk X2 (w.heap.size + 1) 27 #[.slice none 0 0, .slice none 0 0] from (hb.block (w.heap.size + 1) (by omega)).trans G1.out); replace HB := Lib.hid (HB.out.trans (hb.mono (by omega))); replace HZ := Lib.hid (Nat.le_trans HZ.out hb.size)
      refine hK.out _ _ ⟨G0.out.get 0, G0.out.get 1⟩ (fun hHeld => ?_)
      clear hK K hHeld ht hb hown hgr hbk
      try simp only [Act.put, List.getElem_toArray, List.getElem_cons_succ, List.getElem_cons_zero, List.setIfInBounds_toArray, List.set_cons_zero, List.set_cons_succ]
      refine wpAnyH_ready (rs := [4]) (by kernel_rfl) (by simp) ?_
      refine AllReadyH.cons rfl (fun K hK => ?_) AllReadyH.nil
      go_simp
      have ht := Heap.turn (A := [(⟨.slice A2 n2 c2, 40, 2, m.keys.length, cellsF krCells m.keys⟩ : Rw)]) (r' := ⟨.slice (some ⟨X2.heap.size, 0, none⟩) 0 0, 42, 10, 0, []⟩) HA.out (grown_alloc X2 (.cells #[] 42) _) (World.ownsRow_made X2 #[] 0 HZ.out (Nat.zero_le _) rfl) (.inr fun k hk => Nat.le_of_eq (Option.some.inj hk))
      have hb : Below X2.heap.size X2 (X2.alloc (.cells #[] 42)) := (Below.refl _ _).alloc (Nat.le_refl _) _
      replace HA := Lib.hid ht
      replace G0 := Lib.hid (G0.out.below hb); replace G1 := Lib.hid (G1.out.below hb); replace HB := Lib.hid (HB.out.trans (hb.mono HB.out.size)); replace HZ := Lib.hid (Nat.le_trans HZ.out hb.size)
      refine hK.out _ _ ⟨G0.out.get 0, G0.out.get 1⟩ (fun hHeld => ?_)
      clear hK K hHeld ht hb
      try simp only [Act.put, List.getElem_toArray, List.getElem_cons_succ, List.getElem_cons_zero, List.setIfInBounds_toArray, List.set_cons_zero, List.set_cons_succ]
      obtain ⟨g3, hg⟩ : ∃ g, X2.heap.size = g := ⟨_, rfl⟩
      generalize X2.alloc (.cells #[] 42) = X3 at *
      rw [hg] at HA ⊢
      clear hg
      refine wpAnyH_ready (rs := [7]) (by kernel_rfl) (by simp) ?_
      refine AllReadyH.cons rfl (fun K hK => ?_) AllReadyH.nil
      refine wp_append_ownx _ _ 25 rfl (w.heap.size + 2) 42 ir zeroR.v 10 88 Tryz.underlying25 hr1 hr2 hr3 hr4 rfl (by decide) (.slice (some ⟨g3, 0, none⟩) 0 0) rfl (HA.out.own _ (List.mem_cons_of_mem _ List.mem_cons_self)) B m.rows.length (.slice Ar nr cr) (cellsR m.rows) rfl ((HIN.out X3 HB.out).rows) ?_ ?_ ?_ HZ.out ?_
      · exact cellsR_one _
      · have := HLR.out; unfold maxLen; omega
      · have := HLR.out; omega
      intro v4 X4 hown hgr hbk
      obtain ⟨A4, n4, c4, rfl⟩ := own_slice hown
      have ht := Heap.turn (A := [(⟨.slice A2 n2 c2, 40, 2, m.keys.length, cellsF krCells m.keys⟩ : Rw)]) (r' := ⟨.slice A4 n4 c4, 42, 10, m.rows.length, cellsR m.rows⟩) HA.out hgr hown (ow_new hbk)
      have hb : Below (w.heap.size + 2) X3 X4 := (Below.refl _ _).grown hgr HZ.out (fun k hk => by have h9 := HA.out.base_le (r := (⟨.slice (some ⟨g3, 0, none⟩) 0 0, 42, 10, 0, []⟩ : Rw)) (List.mem_cons_of_mem _ List.mem_cons_self) k hk; exact h9)
      replace HA := Lib.hid ht
      replace G0 := Lib.hid (show Blk X4 w.heap.size 27 #[.slice Ak nk ck, .slice Ar nr cr] from (hb.block w.heap.size (by omega)).trans G0.out); replace G1 := Lib.hid (show Blk X4 (w.heap.size + 1) 27 #[.slice none 0 0, .slice none 0 0] from (hb.block (w.heap.size + 1) (by omega)).trans G1.out); replace HB := Lib.hid (HB.out.trans (hb.mono (by omega))); replace HZ := Lib.hid (Nat.le_trans HZ.out hb.size)
      refine hK.out _ _ ⟨G0.out.get 0, G0.out.get 1⟩ (fun hHeld => ?_)
      clear hK K hHeld ht hb hown hgr hbk
      try simp only [Act.put, List.getElem_toArray, List.getElem_cons_succ, List.getElem_cons_zero, List.setIfInBounds_toArray, List.set_cons_zero, List.set_cons_succ]
      refine' wpAnyH_take (i := 8) (v := .agg #[.slice A2 n2 c2, .slice A4 n4 c4]) rfl (by kernel_rfl) (by kernel_rfl) (by kernel_rfl) (fun _ _ _ h => h) (Or.inl ⟨by rfl, fun W h => by go_simp⟩) ⟨G0.out.get 0, G0.out.get 1⟩ ?_
      try simp only [Act.put, List.getElem_toArray, List.getElem_cons_succ, List.getElem_cons_zero, List.setIfInBounds_toArray, List.set_cons_zero, List.set_cons_succ]
      refine wpAnyH_ready (rs := [9]) (by kernel_rfl) (by simp) ?_
      refine AllReadyH.cons rfl (fun K hK => ?_) AllReadyH.nil
      rw [if_pos (by rfl)]
      have o1 := own_one (HA.out.own _ List.mem_cons_self)
      have o2 := own_one (HA.out.own _ (List.mem_cons_of_mem _ List.mem_cons_self))
      simp only at o1 o2
      refine wp_store_row 27 _ _ rfl (w.heap.size + 1) #[.slice A2 n2 c2, .slice A4 n4 c4] rfl rfl 27 _ G1.out (by kernel_rfl) rfl (by simp [o1, o2]) ?_
      have HG := Lib.hid (setRow_grown X4 (w.heap.size + 1) #[.slice A2 n2 c2, .slice A4 n4 c4])
      have q0 := G0.out.grown HG.out (fun e => by injection e with e; omega)
      refine hK.out _ _ ⟨q0.get 0, q0.get 1⟩ (fun hHeld => ?_)
      clear hK K hHeld
      try simp only [Act.put, List.getElem_toArray, List.getElem_cons_succ, List.getElem_cons_zero, List.setIfInBounds_toArray, List.set_cons_zero, List.set_cons_succ]
      refine wpAnyH_done (by kernel_rfl) ?_ _
      have g1 : Blk _ (w.heap.size + 1) 27 #[.slice A2 n2 c2, .slice A4 n4 c4] := setRow_heap X4 _ _ _ _ _ G1.out
      have hb := below_setRow' HB.out (show w.heap.size ≤ w.heap.size + 1 by omega) #[.slice A2 n2 c2, .slice A4 n4 c4]
      have hh := HA.out.grown HG.out (fun r hr => .inr (fun e => by have := HA.out.base_le hr _ e; omega))
      have G9 := Lib.hid g1; have B9 := Lib.hid hb; have H9 := Lib.hid hh
      clear g1 hb hh q0 HG G0 G1 HA HB
      generalize X4.setRow (w.heap.size + 1) #[.slice A2 n2 c2, .slice A4 n4 c4] = X9 at *
      go_wp2_with fail
      have g1 := G9.out; have hb := B9.out; have hh := H9.out
      refine bodyPost_ret (v := .agg #[.slice A2 n2 c2, .slice A4 n4 c4]) (results_cell_row rfl _ _ _ _ _ (0, 0) _ rfl g1 hu rfl (by kernel_rfl)) rfl ⟨_, _, rfl, ⟨?_, ?_, ?_⟩, hb⟩
      · exact OwnF.base (show OwnF 40 2 krCells _ (w.heap.size + 2) _ _ from hh.own _ List.mem_cons_self) (by omega)
      · exact OwnR.low (show OwnR _ (w.heap.size + 2) _ _ from hh.own _ (List.mem_cons_of_mem _ List.mem_cons_self)) (by omega)
      · exact ((List.pairwise_cons.1 hh.ap).1 _ List.mem_cons_self).1
    · skip
      go_simp
      have ht := Heap.turn (A := [(⟨.slice (some ⟨g1, 0, none⟩) 0 0, 40, 2, 0, []⟩ : Rw)]) (r' := ⟨.slice (some ⟨X1.heap.size, 0, none⟩) 0 0, 42, 10, 0, []⟩) HA.out (grown_alloc X1 (.cells #[] 42) _) (World.ownsRow_made X1 #[] 0 HZ.out (Nat.zero_le _) rfl) (.inr fun k hk => Nat.le_of_eq (Option.some.inj hk))
      have hb : Below X1.heap.size X1 (X1.alloc (.cells #[] 42)) := (Below.refl _ _).alloc (Nat.le_refl _) _
      replace HA := Lib.hid ht
      replace G0 := Lib.hid (G0.out.below hb); replace G1 := Lib.hid (G1.out.below hb); replace HB := Lib.hid (HB.out.trans (hb.mono HB.out.size)); replace HZ := Lib.hid (Nat.le_trans HZ.out hb.size)
      refine hK.out _ _ ⟨G0.out.get 0, G0.out.get 1⟩ (fun hHeld => ?_)
      clear hK K hHeld ht hb
      try simp only [Act.put, List.getElem_toArray, List.getElem_cons_succ, List.getElem_cons_zero, List.setIfInBounds_toArray, List.set_cons_zero, List.set_cons_succ]
      obtain ⟨g5, hg⟩ : ∃ g, X1.heap.size = g := ⟨_, rfl⟩
      generalize X1.alloc (.cells #[] 42) = X5 at *
      rw [hg] at HA ⊢
      clear hg
      refine wpAnyH_ready (rs := [3]) (by kernel_rfl) (by simp) ?_
      refine AllReadyH.cons rfl (fun K hK => ?_) AllReadyH.nil
      refine wp_append_ownx _ _ 24 rfl (w.heap.size + 2) 40 ik zeroKR.v 2 24 Tryz.underlying24 hk1 hk2 hk3 hk4 rfl (by decide) (.slice (some ⟨g1, 0, none⟩) 0 0) rfl (HA.out.own _ List.mem_cons_self) B m.keys.length (.slice Ak nk ck) (cellsF krCells m.keys) rfl ((HIN.out X5 HB.out).keys) ?_ ?_ ?_ HZ.out ?_
      · exact kr_one _
      · have := HLK.out; unfold maxLen; omega
      · have := HLK.out; omega
      intro v6 X6 hown hgr hbk
      obtain ⟨A6, n6, c6, rfl⟩ := own_slice hown
      have ht := Heap.turn (A := []) (r' := ⟨.slice A6 n6 c6, 40, 2, m.keys.length, cellsF krCells m.keys⟩) HA.out hgr hown (ow_new hbk)
      have hb : Below (w.heap.size + 2) X5 X6 := (Below.refl _ _).grown hgr HZ.out (fun k hk => by have h9 := HA.out.base_le (r := (⟨.slice (some ⟨g1, 0, none⟩) 0 0, 40, 2, 0, []⟩ : Rw)) List.mem_cons_self k hk; exact h9)
      replace HA := Lib.hid ht
      replace G0 := Lib.hid (show Blk X6 w.heap.size 27 #[.slice Ak nk ck, .slice Ar nr cr] from (hb.block w.heap.size (by omega)).trans G0.out); replace G1 := Lib.hid (show Blk X6 (w.heap.size + 1) 27 #[.slice none 0 0, .slice none 0 0] from (hb.block (w.heap.size + 1) (by omega)).trans G1.out); replace HB := Lib.hid (HB.out.trans (hb.mono (by omega))); replace HZ := Lib.hid (Nat.le_trans HZ.out hb.size)
      refine hK.out _ _ ⟨G0.out.get 0, G0.out.get 1⟩ (fun hHeld => ?_)
      clear hK K hHeld ht hb hown hgr hbk
      try simp only [Act.put, List.getElem_toArray, List.getElem_cons_succ, List.getElem_cons_zero, List.setIfInBounds_toArray, List.set_cons_zero, List.set_cons_succ]
      refine wpAnyH_ready (rs := [7]) (by kernel_rfl) (by simp) ?_
      refine AllReadyH.cons rfl (fun K hK => ?_) AllReadyH.nil
      refine wp_append_ownx _ _ 25 rfl (w.heap.size + 2) 42 ir zeroR.v 10 88 Tryz.underlying25 hr1 hr2 hr3 hr4 rfl (by decide) (.slice (some ⟨g5, 0, none⟩) 0 0) rfl (HA.out.own _ (List.mem_cons_of_mem _ List.mem_cons_self)) B m.rows.length (.slice Ar nr cr) (cellsR m.rows) rfl ((HIN.out X6 HB.out).rows) ?_ ?_ ?_ HZ.out ?_
      · exact cellsR_one _
      · have := HLR.out; unfold maxLen; omega
      · have := HLR.out; omega
      intro v7 X7 hown hgr hbk
      obtain ⟨A7, n7, c7, rfl⟩ := own_slice hown
      have ht := Heap.turn (A := [(⟨.slice A6 n6 c6, 40, 2, m.keys.length, cellsF krCells m.keys⟩ : Rw)]) (r' := ⟨.slice A7 n7 c7, 42, 10, m.rows.length, cellsR m.rows⟩) HA.out hgr hown (ow_new hbk)
      have hb : Below (w.heap.size + 2) X6 X7 := (Below.refl _ _).grown hgr HZ.out (fun k hk => by have h9 := HA.out.base_le (r := (⟨.slice (some ⟨g5, 0, none⟩) 0 0, 42, 10, 0, []⟩ : Rw)) (List.mem_cons_of_mem _ List.mem_cons_self) k hk; exact h9)
      replace HA := Lib.hid ht
      replace G0 := Lib.hid (show Blk X7 w.heap.size 27 #[.slice Ak nk ck, .slice Ar nr cr] from (hb.block w.heap.size (by omega)).trans G0.out); replace G1 := Lib.hid (show Blk X7 (w.heap.size + 1) 27 #[.slice none 0 0, .slice none 0 0] from (hb.block (w.heap.size + 1) (by omega)).trans G1.out); replace HB := Lib.hid (HB.out.trans (hb.mono (by omega))); replace HZ := Lib.hid (Nat.le_trans HZ.out hb.size)
      refine hK.out _ _ ⟨G0.out.get 0, G0.out.get 1⟩ (fun hHeld => ?_)
      clear hK K hHeld ht hb hown hgr hbk
      try simp only [Act.put, List.getElem_toArray, List.getElem_cons_succ, List.getElem_cons_zero, List.setIfInBounds_toArray, List.set_cons_zero, List.set_cons_succ]
      refine' wpAnyH_take (i := 8) (v := .agg #[.slice A6 n6 c6, .slice A7 n7 c7]) rfl (by kernel_rfl) (by kernel_rfl) (by kernel_rfl) (fun _ _ _ h => h) (Or.inl ⟨by rfl, fun W h => by go_simp⟩) ⟨G0.out.get 0, G0.out.get 1⟩ ?_
      try simp only [Act.put, List.getElem_toArray, List.getElem_cons_succ, List.getElem_cons_zero, List.setIfInBounds_toArray, List.set_cons_zero, List.set_cons_succ]
      refine wpAnyH_ready (rs := [9]) (by kernel_rfl) (by simp) ?_
      refine AllReadyH.cons rfl (fun K hK => ?_) AllReadyH.nil
      rw [if_pos (by rfl)]
      have o1 := own_one (HA.out.own _ List.mem_cons_self)
      have o2 := own_one (HA.out.own _ (List.mem_cons_of_mem _ List.mem_cons_self))
      simp only at o1 o2
      refine wp_store_row 27 _ _ rfl (w.heap.size + 1) #[.slice A6 n6 c6, .slice A7 n7 c7] rfl rfl 27 _ G1.out (by kernel_rfl) rfl (by simp [o1, o2]) ?_
      have HG := Lib.hid (setRow_grown X7 (w.heap.size + 1) #[.slice A6 n6 c6, .slice A7 n7 c7])
      have q0 := G0.out.grown HG.out (fun e => by injection e with e; omega)
      refine hK.out _ _ ⟨q0.get 0, q0.get 1⟩ (fun hHeld => ?_)
      clear hK K hHeld
      try simp only [Act.put, List.getElem_toArray, List.getElem_cons_succ, List.getElem_cons_zero, List.setIfInBounds_toArray, List.set_cons_zero, List.set_cons_succ]
      refine wpAnyH_done (by kernel_rfl) ?_ _
      have g1 : Blk _ (w.heap.size + 1) 27 #[.slice A6 n6 c6, .slice A7 n7 c7] := setRow_heap X7 _ _ _ _ _ G1.out
      have hb := below_setRow' HB.out (show w.heap.size ≤ w.heap.size + 1 by omega) #[.slice A6 n6 c6, .slice A7 n7 c7]
      have hh := HA.out.grown HG.out (fun r hr => .inr (fun e => by have := HA.out.base_le hr _ e; omega))
      have G9 := Lib.hid g1; have B9 := Lib.hid hb; have H9 := Lib.hid hh
      clear g1 hb hh q0 HG G0 G1 HA HB
      generalize X7.setRow (w.heap.size + 1) #[.slice A6 n6 c6, .slice A7 n7 c7] = X9 at *
      go_wp2_with fail
      have g1 := G9.out; have hb := B9.out; have hh := H9.out
      refine bodyPost_ret (v := .agg #[.slice A6 n6 c6, .slice A7 n7 c7]) (results_cell_row rfl _ _ _ _ _ (0, 0) _ rfl g1 hu rfl (by kernel_rfl)) rfl ⟨_, _, rfl, ⟨?_, ?_, ?_⟩, hb⟩
      · exact OwnF.base (show OwnF 40 2 krCells _ (w.heap.size + 2) _ _ from hh.own _ List.mem_cons_self) (by omega)
      · exact OwnR.low (show OwnR _ (w.heap.size + 2) _ _ from hh.own _ (List.mem_cons_of_mem _ List.mem_cons_self)) (by omega)
      · exact ((List.pairwise_cons.1 hh.ap).1 _ List.mem_cons_self).1
  · skip
    go_simp
    have ht := Heap.turn (A := [(⟨.slice none 0 0, 40, 2, 0, []⟩ : Rw)]) (r' := ⟨.slice (some ⟨X0.heap.size, 0, none⟩) 0 0, 42, 10, 0, []⟩) HA.out (grown_alloc X0 (.cells #[] 42) _) (World.ownsRow_made X0 #[] 0 HZ.out (Nat.zero_le _) rfl) (.inr fun k hk => Nat.le_of_eq (Option.some.inj hk))
    have hb : Below X0.heap.size X0 (X0.alloc (.cells #[] 42)) := (Below.refl _ _).alloc (Nat.le_refl _) _
    replace HA := Lib.hid ht
    replace G0 := Lib.hid (G0.out.below hb); replace G1 := Lib.hid (G1.out.below hb); replace HB := Lib.hid (HB.out.trans (hb.mono HB.out.size)); replace HZ := Lib.hid (Nat.le_trans HZ.out hb.size)
    refine hK.out _ _ ⟨G0.out.get 0, G0.out.get 1⟩ (fun hHeld => ?_)
    clear hK K hHeld ht hb
    try simp only [Act.put, List.getElem_toArray, List.getElem_cons_succ, List.getElem_cons_zero, List.setIfInBounds_toArray, List.set_cons_zero, List.set_cons_succ]
    obtain ⟨g8, hg⟩ : ∃ g, X0.heap.size = g := ⟨_, rfl⟩
    generalize X0.alloc (.cells #[] 42) = X8 at *
    rw [hg] at HA ⊢
    clear hg
    refine wpAnyH_ready (rs := [0]) (by kernel_rfl) (by simp) ?_
    refine AllReadyH.cons rfl (fun K hK => ?_) AllReadyH.nil
    go_simp
    have ht := Heap.turn (A := []) (r' := ⟨.slice (some ⟨X8.heap.size, 0, none⟩) 0 0, 40, 2, 0, []⟩) HA.out (grown_alloc X8 (.cells #[] 40) _) (World.ownsRow_made X8 #[] 0 HZ.out (Nat.zero_le _) rfl) (.inr fun k hk => Nat.le_of_eq (Option.some.inj hk))
    have hb : Below X8.heap.size X8 (X8.alloc (.cells #[] 40)) := (Below.refl _ _).alloc (Nat.le_refl _) _
    replace HA := Lib.hid ht
    replace G0 := Lib.hid (G0.out.below hb); replace G1 := Lib.hid (G1.out.below hb); replace HB := Lib.hid (HB.out.trans (hb.mono HB.out.size)); replace HZ := Lib.hid (Nat.le_trans HZ.out hb.size)
    refine hK.out _ _ ⟨G0.out.get 0, G0.out.get 1⟩ (fun hHeld => ?_)
    clear hK K hHeld ht hb
    try simp only [Act.put, List.getElem_toArray, List.getElem_cons_succ, List.getElem_cons_zero, List.setIfInBounds_toArray, List.set_cons_zero, List.set_cons_succ]
    obtain ⟨g9, hg⟩ : ∃ g, X8.heap.size = g := ⟨_, rfl⟩
    generalize X8.alloc (.cells #[] 40) = X9 at *
    rw [hg] at HA ⊢
    clear hg
    refine wpAnyH_ready (rs := [3]) (by kernel_rfl) (by simp) ?_
    refine AllReadyH.cons rfl (fun K hK => ?_) AllReadyH.nil
    refine wp_append_ownx _ _ 24 rfl (w.heap.size + 2) 40 ik zeroKR.v 2 24 Tryz.underlying24 hk1 hk2 hk3 hk4 rfl (by decide) (.slice (some ⟨g9, 0, none⟩) 0 0) rfl (HA.out.own _ List.mem_cons_self) B m.keys.length (.slice Ak nk ck) (cellsF krCells m.keys) rfl ((HIN.out X9 HB.out).keys) ?_ ?_ ?_ HZ.out ?_
    · exact kr_one _
    · have := HLK.out; unfold maxLen; omega
    · have := HLK.out; omega
    intro v10 X10 hown hgr hbk
    obtain ⟨A10, n10, c10, rfl⟩ := own_slice hown
    have ht := Heap.turn (A := []) (r' := ⟨.slice A10 n10 c10, 40, 2, m.keys.length, cellsF krCells m.keys⟩) HA.out hgr hown (ow_new hbk)
    have hb : Below (w.heap.size + 2) X9 X10 := (Below.refl _ _).grown hgr HZ.out (fun k hk => by have h9 := HA.out.base_le (r := (⟨.slice (some ⟨g9, 0, none⟩) 0 0, 40, 2, 0, []⟩ : Rw)) List.mem_cons_self k hk; exact h9)
    replace HA := Lib.hid ht
    replace G0 := Lib.hid (show Blk X10 w.heap.size 27 #[.slice Ak nk ck, .slice Ar nr cr] from (hb.block w.heap.size (by omega)).trans G0.out); replace G1 := Lib.hid (show Blk X10 (w.heap.size + 1) 27 #[.slice none 0 0, .slice none 0 0] from (hb.block (w.heap.size + 1) (by omega)).trans G1.out); replace HB := Lib.hid (HB.out.trans (hb.mono (by omega))); replace HZ := Lib.hid (Nat.le_trans HZ.out hb.size)
    refine hK.out _ _ ⟨G0.out.get 0, G0.out.get 1⟩ (fun hHeld => ?_)
    clear hK K hHeld ht hb hown hgr hbk
    try simp only [Act.put, List.getElem_toArray, List.getElem_cons_succ, List.getElem_cons_zero, List.setIfInBounds_toArray, List.set_cons_zero, List.set_cons_succ]
    refine wpAnyH_ready (rs := [7]) (by kernel_rfl) (by simp) ?_
    refine AllReadyH.cons rfl (fun K hK => ?_) AllReadyH.nil
    refine wp_append_ownx _ _ 25 rfl (w.heap.size + 2) 42 ir zeroR.v 10 88 Tryz.underlying25 hr1 hr2 hr3 hr4 rfl (by decide) (.slice (some ⟨g8, 0, none⟩) 0 0) rfl (HA.out.own _ (List.mem_cons_of_mem _ List.mem_cons_self)) B m.rows.length (.slice Ar nr cr) (cellsR m.rows) rfl ((HIN.out X10 HB.out).rows) ?_ ?_ ?_ HZ.out ?_
    · exact cellsR_one _
    · have := HLR.out; unfold maxLen; omega
    · have := HLR.out; omega
    intro v11 X11 hown hgr hbk
    obtain ⟨A11, n11, c11, rfl⟩ := own_slice hown
    have ht := Heap.turn (A := [(⟨.slice A10 n10 c10, 40, 2, m.keys.length, cellsF krCells m.keys⟩ : Rw)]) (r' := ⟨.slice A11 n11 c11, 42, 10, m.rows.length, cellsR m.rows⟩) HA.out hgr hown (ow_new hbk)
    have hb : Below (w.heap.size + 2) X10 X11 := (Below.refl _ _).grown hgr HZ.out (fun k hk => by have h9 := HA.out.base_le (r := (⟨.slice (some ⟨g8, 0, none⟩) 0 0, 42, 10, 0, []⟩ : Rw)) (List.mem_cons_of_mem _ List.mem_cons_self) k hk; exact h9)
    replace HA := Lib.hid ht
    replace G0 := Lib.hid (show Blk X11 w.heap.size 27 #[.slice Ak nk ck, .slice Ar nr cr] from (hb.block w.heap.size (by omega)).trans G0.out); replace G1 := Lib.hid (show Blk X11 (w.heap.size + 1) 27 #[.slice none 0 0, .slice none 0 0] from (hb.block (w.heap.size + 1) (by omega)).trans G1.out); replace HB := Lib.hid (HB.out.trans (hb.mono (by omega))); replace HZ := Lib.hid (Nat.le_trans HZ.out hb.size)
    refine hK.out _ _ ⟨G0.out.get 0, G0.out.get 1⟩ (fun hHeld => ?_)
    clear hK K hHeld ht hb hown hgr hbk
    try simp only [Act.put, List.getElem_toArray, List.getElem_cons_succ, List.getElem_cons_zero, List.setIfInBounds_toArray, List.set_cons_zero, List.set_cons_succ]
    refine' wpAnyH_take (i := 8) (v := .agg #[.slice A10 n10 c10, .slice A11 n11 c11]) rfl (by kernel_rfl) (by kernel_rfl) (by kernel_rfl) (fun _ _ _ h => h) (Or.inl ⟨by rfl, fun W h => by go_simp⟩) ⟨G0.out.get 0, G0.out.get 1⟩ ?_
    try simp only [Act.put, List.getElem_toArray, List.getElem_cons_succ, List.getElem_cons_zero, List.setIfInBounds_toArray, List.set_cons_zero, List.set_cons_succ]
    refine wpAnyH_ready (rs := [9]) (by kernel_rfl) (by simp) ?_
    refine AllReadyH.cons rfl (fun K hK => ?_) AllReadyH.nil
    rw [if_pos (by rfl)]
    have o1 := own_one (HA.out.own _ List.mem_cons_self)
    have o2 := own_one (HA.out.own _ (List.mem_cons_of_mem _ List.mem_cons_self))
    simp only at o1 o2
    refine wp_store_row 27 _ _ rfl (w.heap.size + 1) #[.slice A10 n10 c10, .slice A11 n11 c11] rfl rfl 27 _ G1.out (by kernel_rfl) rfl (by simp [o1, o2]) ?_
    have HG := Lib.hid (setRow_grown X11 (w.heap.size + 1) #[.slice A10 n10 c10, .slice A11 n11 c11])
    have q0 := G0.out.grown HG.out (fun e => by injection e with e; omega)
    refine hK.out _ _ ⟨q0.get 0, q0.get 1⟩ (fun hHeld => ?_)
    clear hK K hHeld
    try simp only [Act.put, List.getElem_toArray, List.getElem_cons_succ, List.getElem_cons_zero, List.setIfInBounds_toArray, List.set_cons_zero, List.set_cons_succ]
    refine wpAnyH_done (by kernel_rfl) ?_ _
    have g1 : Blk _ (w.heap.size + 1) 27 #[.slice A10 n10 c10, .slice A11 n11 c11] := setRow_heap X11 _ _ _ _ _ G1.out
    have hb := below_setRow' HB.out (show w.heap.size ≤ w.heap.size + 1 by omega) #[.slice A10 n10 c10, .slice A11 n11 c11]
    have hh := HA.out.grown HG.out (fun r hr => .inr (fun e => by have := HA.out.base_le hr _ e; omega))
    have G9 := Lib.hid g1; have B9 := Lib.hid hb; have H9 := Lib.hid hh
    clear g1 hb hh q0 HG G0 G1 HA HB
    generalize X11.setRow (w.heap.size + 1) #[.slice A10 n10 c10, .slice A11 n11 c11] = X9 at *
    go_wp2_with fail
    have g1 := G9.out; have hb := B9.out; have hh := H9.out
    refine bodyPost_ret (v := .agg #[.slice A10 n10 c10, .slice A11 n11 c11]) (results_cell_row rfl _ _ _ _ _ (0, 0) _ rfl g1 hu rfl (by kernel_rfl)) rfl ⟨_, _, rfl, ⟨?_, ?_, ?_⟩, hb⟩
    · exact OwnF.base (show OwnF 40 2 krCells _ (w.heap.size + 2) _ _ from hh.own _ List.mem_cons_self) (by omega)
    · exact OwnR.low (show OwnR _ (w.heap.size + 2) _ _ from hh.own _ (List.mem_cons_of_mem _ List.mem_cons_self)) (by omega)
    · exact ((List.pairwise_cons.1 hh.ap).1 _ List.mem_cons_self).1
end Go.Proofs.YtbhhhakfjmaglaaGreat

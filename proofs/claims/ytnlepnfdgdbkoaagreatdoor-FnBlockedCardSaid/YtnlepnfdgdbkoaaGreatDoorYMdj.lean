/-
  Texts of this seat, laid together.
-/
import Derived.Test.YtnlepnfdgdbkoaaGreatDoorYZd
import Derived.Test.YtnlepnfdgdbkoaaGreatDoorYMbh
import Derived.Test.YtnlepnfdgdbkoaaGreatDoorYZc
import Derived.Test.YtnlepnfdgdbkoaaGreatDoorYZb
import Derived.Test.YtnlepnfdgdbkoaaGreatDoorYMf
import Derived.Test.YtnlepnfdgdbkoaaGreatDoorYZa
section
namespace Go.Proofs.YtnlepnfdgdbkoaaGreatDoor
open Go.RowKit M
set_option linter.unusedVariables false
set_option linter.unusedSimpArgs false
def picked (F : Nat) (cs : List Value) (js : List Nat) : List Value := js.flatMap (fun k => (cs.drop (k * F)).take F)
theorem picked_one {F n : Nat} {cs : List Value} (hl : cs.length = n * F) {k : Nat} (hk : k < n) : ((cs.drop (k * F)).take F).length = F := by
  have h1 : k * F + F ≤ n * F := by rw [← Nat.succ_mul]; exact Nat.mul_le_mul_right F hk
  rw [List.length_take, List.length_drop, hl]
  omega
theorem picked_at {F n : Nat} {cs : List Value} (hl : cs.length = n * F) (js : List Nat) (h : ∀ k ∈ js, k < n) (i r : Nat) (hi : i < js.length) (hr : r < F) : (picked F cs js)[i * F + r]? = cs[js.getD i 0 * F + r]? := by
  induction js generalizing i with
  | nil => simp at hi
  | cons k js ih =>
    have h1 := picked_one hl (h k List.mem_cons_self)
    show ((cs.drop (k * F)).take F ++ picked F cs js)[i * F + r]? = _
    cases i with
    | zero =>
      rw [List.getElem?_append_left (by omega), List.getElem?_take, if_pos (by omega), List.getElem?_drop]
      simp
    | succ i =>
      rw [List.getElem?_append_right (by rw [h1, Nat.succ_mul]; omega), h1, show (i + 1) * F + r - F = i * F + r by rw [Nat.succ_mul]; omega]
      have := ih (fun x hx => h x (List.mem_cons_of_mem _ hx)) i (by simpa using hi)
      rw [this]
      simp
def PickE (w : World) (B E : Nat) (v : Value) (l : List M.E) : Prop := ∃ (log : List M.E) (js : List Nat) (vl : Value) (cs : List Value), l = js.map (fun k => log.getD k zeroE) ∧ (∀ k ∈ js, k < log.length) ∧ valsD cs (datL evDat log) ∧
  HeapE w B E (⟨v, 39, 13, js.length, picked 13 cs js⟩ :: ⟨vl, 39, 13, log.length, cs⟩ :: innerD cs (datL evDat log))
theorem PickE.below {w w' : World} {B E : Nat} {v : Value} {l : List M.E} (h : PickE w B E v l) (hb : Below w.heap.size w w') : PickE w' B E v l := by
  obtain ⟨log, js, vl, cs, h1, h2, h3, h4⟩ := h
  exact ⟨log, js, vl, cs, h1, h2, h3, h4.below hb⟩
theorem PickE.far {w w' : World} {B E B' E' : Nat} {v : Value} {l : List M.E} (h : PickE w B E v l) (hc : Chg (Within B' E') w w') (hd : E ≤ B' ∨ E' ≤ B) : PickE w' B E v l := by
  obtain ⟨log, js, vl, cs, h1, h2, h3, h4⟩ := h
  exact ⟨log, js, vl, cs, h1, h2, h3, h4.far hc hd⟩
theorem PickE.arg {w : World} {B E : Nat} {v : Value} {l : List M.E} (h : PickE w B E v l) : ArgT 13 evDat zeroE w v l := by
  obtain ⟨log, js, vl, cs, rfl, h2, h3, h4⟩ := h
  have ho : w.ownsRow B 39 13 v js.length (picked 13 cs js) := h4.1.own _ List.mem_cons_self
  have hlo : w.ownsRow B 39 13 vl log.length cs := h4.1.own _ (List.mem_cons_of_mem _ List.mem_cons_self)
  have hl : cs.length = log.length * 13 := hlo.1
  have hown : OwnY 39 13 evDat w B E vl log := ⟨cs, h3, ⟨⟨fun r hr => h4.1.own r (List.mem_cons_of_mem _ hr), (List.pairwise_cons.1 h4.1.ap).2⟩, fun r hr => h4.2 r (List.mem_cons_of_mem _ hr)⟩⟩
  have ha := OwnY.arg hown evDat_len evDat_wf zeroE
  rcases ho.2 with ⟨e, h0⟩ | ⟨g, cap, cur, e, hb, hg, hn, hm, hc, ht⟩
  · subst e
    obtain rfl : js = [] := List.length_eq_zero_iff.1 h0
    exact ⟨none, 0, rfl, Nat.le_refl _, Nat.zero_le _, fun h => absurd h (Nat.lt_irrefl _)⟩
  · refine ⟨some ⟨g, 0, none⟩, cap, by rw [e, List.length_map], by rw [List.length_map]; exact hn, hm, fun hp => ⟨g, 0, rfl, (World.ownsRow.lt ho g (by rw [e]; rfl)).2, fun i hi => ?_⟩⟩
    rw [List.length_map] at hi
    have hj : js.getD i 0 < log.length := h2 _ (by rw [List.getD_eq_getElem?_getD, List.getElem?_eq_getElem hi]; exact List.getElem_mem hi)
    have hge : (js.map (fun k => log.getD k zeroE)).getD i zeroE = log.getD (js.getD i 0) zeroE := by
      rw [List.getD_eq_getElem?_getD, List.getElem?_map, List.getElem?_eq_getElem hi, List.getD_eq_getElem?_getD (l := js), List.getElem?_eq_getElem hi]; rfl
    rw [hge, Nat.zero_add]
    obtain ⟨A, cap', ev, _, _, h5⟩ := ha
    obtain ⟨b, off, ea, hb2, h6⟩ := h5 (by omega)
    have hel := h6 _ hj
    intro k d hd
    obtain ⟨u, hu, hr⟩ := hel k d hd
    have hk : k < 13 := by
      have := (List.getElem?_eq_some_iff.1 hd).1
      rwa [evDat_len] at this
    refine ⟨u, ?_, hr⟩
    subst e
    have hin : i * 13 + k < js.length * 13 := by omega
    rw [World.ownsRow.cellAt ho (i * 13 + k) hin, picked_at hl js h2 i k hi hk]
    rcases hlo.2 with ⟨e2, h0⟩ | ⟨g2, cap2, cur2, e2, _⟩
    · omega
    · subst e2
      rw [ea] at ev
      injection ev with e1 e3 e4
      injection e1 with e1
      injection e1 with e5 e6
      subst e5
      subst e6
      rw [← World.ownsRow.cellAt hlo (js.getD i 0 * 13 + k) (by omega), ← hu, Nat.zero_add]
theorem filter_take_snoc {α : Type} (p : α → Bool) (z : α) (l : List α) (j : Nat) (hj : j < l.length) : (l.take (j + 1)).filter p = (l.take j).filter p ++ (if p (l.getD j z) then [l.getD j z] else []) := by
  rw [List.take_add_one, List.getElem?_eq_getElem hj, List.getD_eq_getElem?_getD, List.getElem?_eq_getElem hj, List.filter_append]
  congr 1
  simp [List.filter_cons]
end Go.Proofs.YtnlepnfdgdbkoaaGreatDoor
end
section
namespace Go.Proofs.YtnlepnfdgdbkoaaGreatDoor
open Go.RowKit M
set_option linter.unusedVariables false
structure LawX (gx : Nat) (z : S) (xc xj xt xl : Value) (w : World) : Prop where
  y : Blk w gx 33 (worVals z xc xj xt xl)
  x : WorIn w z xc xj xt xl
theorem LawX.next {w w' : World} {gx : Nat} {z : S} {xc xj xt xl : Value} (h : LawX gx z xc xj xt xl w) (hb : Below w.heap.size w w') : LawX gx z xc xj xt xl w' := ⟨h.y.below hb, h.x.below hb⟩
end Go.Proofs.YtnlepnfdgdbkoaaGreatDoor
end
section
namespace Go.Proofs.YtnlepnfdgdbkoaaGreatDoor
open Go.RowKit M
set_option linter.unusedVariables false
set_option linter.unusedSimpArgs false
theorem take_range {cs us : List Value} {i n : Nat} (hu : us.length = n) (h : ∀ k, k < n → cs[i + k]? = us[k]?) : (cs.drop i).take n = us := by
  apply List.ext_getElem?
  intro k
  rw [List.getElem?_take]
  by_cases hk : k < n
  · rw [if_pos hk, List.getElem?_drop, h k hk]
  · rw [if_neg hk, List.getElem?_eq_none (by omega)]
end Go.Proofs.YtnlepnfdgdbkoaaGreatDoor
end
section
namespace Go.Proofs.YtnlepnfdgdbkoaaGreatDoor
open Go.RowKit M
set_option linter.unusedVariables false
set_option linter.unusedSimpArgs false
set_option maxRecDepth 100000 in
set_option maxHeartbeats 800000 in
theorem iTellsY_any (w : World) (Bl El : Nat) (s : S) (vc vj vt vl : Value) (hy : OwnY 39 13 evDat w Bl El vl s.log) (hs : SmallS s) : Calls Tryz.prog 29 #[.agg (worVals s vc vj vt vl)] w (MadeEvS w (tellsV s)) := by
  obtain ⟨i0, hi0, hz0, hz1, hz2⟩ := info_parts info_Ev
  have HAT := Lib.hid (fun W (hb : Below w.heap.size w W) j (hj : j < s.log.length) => ownEv_at (OwnY.below hy hb) j hj)
  have HLK := Lib.hid hs.lk
  have HLL := hs.l
  have HFS := Lib.hid (fun j (hj : j < s.log.length) => filter_take_snoc (fun e : M.E => decide (e.kind = 3)) zeroE s.log j hj)
  have HTK := Lib.hid (List.take_length (l := s.log))
  obtain ⟨Al, cl, rfl⟩ := OwnY.shape hy
  clear hy hs
  have HTV := Lib.hid (show tellsV s = s.log.filter (fun e => decide (e.kind = 3)) from rfl)
  have hule := Tryz.underlying39
  go_enter Tryz.func29, Tryz.ntmps29
  go_upto_region 1 with fail
  refine wp_gen (fun W => Blk W w.heap.size 33 (worVals s vc vj vt (.slice Al s.log.length cl)) ∧ Below w.heap.size w W) ⟨Blk.new w _ _ _ rfl, below_oneL w _⟩ ?_
  rintro W ⟨h0, hb0⟩
  have p3 : W.cell? ⟨w.heap.size, 3, none⟩ = some (.slice Al s.log.length cl) := h0.get 3
  have HB0 := Lib.hid hb0
  clear h0 hb0
  go_wp2_with fail
  go_loopw [3, 9] (fun o i wr => ∃ (j : Nat) (g : List M.E), j ≤ s.log.length ∧ i = .int .i64 j ∧ g = ((s.log.take j).filter (fun e => decide (e.kind = 3))) ∧ g.length ≤ j ∧ OwnX 39 13 g.length wr w.heap.size wr.heap.size o (datL evDat g) ∧ Below w.heap.size w wr) (fun _ i _ => s.log.length - (intOf i).toNat)
  case atStart => exact ⟨0, [], Nat.zero_le _, rfl, rfl, Nat.le_refl _, ⟨[], trivial, ⟨Heap.one ⟨rfl, .inl ⟨rfl, rfl⟩⟩, (fun r hr k hk => by rw [List.mem_singleton.1 hr] at hk; simp [Value.ownBlock] at hk)⟩⟩, HB0.out⟩
  case round =>
    obtain ⟨j, g, hj, rfl, hg, hgl, hox, hbl⟩ := hrel
    clear HB0 p3
    by_cases hlt : j < s.log.length
    · obtain ⟨b, cp, vrows, hA, hbb, hrng, hev⟩ := HAT.out wr hbl j hlt
      injection hA with hA1 hA2 hA3
      subst hA1
      clear hA2 hA3
      obtain ⟨A1, c1, rfl⟩ := Rw.slice (show (⟨vrows, 55, 10, (s.log.getD j zeroE).rows.length, cellsR (s.log.getD j zeroE).rows⟩ : Rw).own wr Bl from hev)
      have HFJ := Lib.hid (HFS.out j hlt)
      have HLJ := HLK.out j hlt
      have HG := Lib.hid hg
      have HX := Lib.hid hox
      have HB := Lib.hid hbl
      have HR := Lib.hid hrng
      have HEV := Lib.hid hev
      clear hg hox hbl hrng hev HFS HTK HAT
      have hjn2 : (j : Int) < (s.log.length : Int) := by omega
      generalize s.log.getD j zeroE = r at *
      have hoc := ev_one r A1 r.rows.length c1
      go_upto_region 5 with ((with_reducible show wpList _ _ _ _ _ _); first | refine wpList_load_mid rfl 39 _ rfl b (j * 13) rfl (evVals r (.slice A1 r.rows.length c1)).toList _ HR.out hule rfl (by kernel_rfl) ?_ | refine wpList_store_row rfl 39 _ _ rfl wr.heap.size (evVals r (.slice A1 r.rows.length c1)) rfl rfl 39 _ (Blk.new wr wr.heap.size 39 #[.int .i64 0, .int .i64 0, .int .i64 0, .int .i64 0, .int .i64 0, .string ⟨#[]⟩, .int .i64 0, .int .i64 0, .int .i64 0, .int .i64 0, .int .i64 0, .int .i64 0, .slice none 0 0] rfl) (by kernel_rfl) rfl hoc ?_)
      refine wp_gen (fun W => Blk W wr.heap.size 39 (evVals r (.slice A1 r.rows.length c1)) ∧ Below wr.heap.size wr W) ⟨setRow_heap _ _ _ _ _ _ (Blk.new wr wr.heap.size 39 #[.int .i64 0, .int .i64 0, .int .i64 0, .int .i64 0, .int .i64 0, .string ⟨#[]⟩, .int .i64 0, .int .i64 0, .int .i64 0, .int .i64 0, .int .i64 0, .int .i64 0, .slice none 0 0] rfl), below_setRow' (below_oneL wr _) (Nat.le_refl _) _⟩ ?_
      rintro W2 ⟨hx, hbx⟩
      have c0 : W2.cell? ⟨wr.heap.size, 0, none⟩ = some (.int .i64 r.kind) := hx.get 0
      have hwl := hx.lt
      have GX := Lib.hid hx
      have BX := Lib.hid hbx
      clear hx hbx HR hoc
      by_cases hk : r.kind = 3
      · have HF2 := Lib.hid (HFJ.out.trans (by rw [if_pos (decide_eq_true hk)]))
        have d1 : (r.kind == 3) = true := by rw [beq_iff_eq]; exact hk
        clear HFJ hk
        have c12 : W2.cell? ⟨wr.heap.size, 12, none⟩ = some (.slice A1 r.rows.length c1) := GX.out.get 12
        have HCL := Lib.hid (iClRow_rd W2 (fun _ => True) (.slice A1 r.rows.length c1) r.rows.length (cellsR r.rows) (Rd.of (own_below HEV.out BX.out) (fun _ _ => trivial)) HLJ (cellsR_length r.rows) (cellsR_one r.rows))
        go_wp2_with fail
        refine HCL.out.mono ?_
        rintro e W3 ⟨u, rfl, ho, hb3⟩
        obtain ⟨A2, c2, rfl⟩ := Rw.slice (show (⟨u, 55, 10, r.rows.length, cellsR r.rows⟩ : Rw).own W3 W2.heap.size from ho)
        have G3 := Lib.hid (GX.out.below hb3)
        have B3 := Lib.hid (BX.out.trans (hb3.mono BX.out.size))
        have HO := Lib.hid ho
        have hz3 := hb3.size
        clear ho hb3 c12 c0 GX HCL
        have f12 := G3.out.frz 12
        have c12 : W3.cell? ⟨wr.heap.size, 12, none⟩ = some (.slice A1 r.rows.length c1) := G3.out.get 12
        go_upto_region 7 with fail
        refine wp_gen (fun Y => Blk Y wr.heap.size 39 (evVals r (.slice A2 r.rows.length c2)) ∧ Below wr.heap.size wr Y ∧ Heap Y W2.heap.size [⟨.slice A2 r.rows.length c2, 55, 10, r.rows.length, cellsR r.rows⟩]) ⟨G3.out.store 12 _, B3.out.setCell (Nat.le_refl _) _, heap_set1 (Heap.one (r := ⟨.slice A2 r.rows.length c2, 55, 10, r.rows.length, cellsR r.rows⟩) HO.out) hwl G3.out 12 _⟩ ?_
        rintro Y ⟨hy, hby, hrow⟩
        obtain ⟨vs, hv1, hv2, _⟩ := HX.out.sees
        have hbY : Below wr.heap.size wr (Y.alloc (.cells (evVals r (.slice A2 r.rows.length c2)) 39)) := hby.alloc hby.size _
        have HROW := Lib.hid (show World.ownsRow (Y.alloc (.cells (evVals r (.slice A2 r.rows.length c2)) 39)) w.heap.size 39 13 _ g.length vs from (hv2.1.below hbY).own _ List.mem_cons_self)
        have HP := Lib.hid (fun (v' : Value) (w2 : World) hr hg hv => pushX (v' := v') (w2 := w2) hv1 hv2 hbY (evVals_ok r (.slice A2 r.rows.length c2)) (HeapE.made (hrow.below (below_oneL Y _))) (Nat.le_of_lt hwl) (Nat.le_trans HB.out.size (Nat.le_of_lt hwl)) hr hg hv)
        have HBY := Lib.hid (HB.out.trans (hbY.mono HB.out.size))
        have GY := Lib.hid hy
        have hone := ev_one r A2 r.rows.length c2
        have hs13 : (evVals r (.slice A2 r.rows.length c2)).size = 13 := rfl
        clear hy hby hrow hbY G3 B3 f12 c12 HO BX
        go_wp2_with ((with_reducible show wpList _ _ _ _ _ _); first | refine wpList_load_row rfl 39 _ rfl wr.heap.size rfl 39 (evVals r (.slice A2 r.rows.length c2)) (0, 0) _ GY.out hule rfl (by kernel_rfl) ?_ | (at_builtin; rw [fold_rec _ _ _ (by rfl) (by rfl)]; refine wpList_append_own_at _ rfl _ _ 31 rfl w.heap.size 39 i0 (.agg #[.int .i64 0, .int .i64 0, .int .i64 0, .int .i64 0, .int .i64 0, .string ⟨#[]⟩, .int .i64 0, .int .i64 0, .int .i64 0, .int .i64 0, .int .i64 0, .int .i64 0, .slice none 0 0]) 13 128 Tryz.underlying31 hi0 hz0 hz1 hz2 rfl (by decide) _ g.length _ rfl HROW.out ⟨Y.heap.size, 0, none⟩ 1 1 (evVals r (.slice A2 r.rows.length c2)).toList rfl ?qd1 ?qd2 ?qd3 ?qd4 ?qd5 ?qd6 ?_))
        case qd3 => intro u hu; exact Array.all_eq_true_iff_forall_mem.1 hone u (by simpa using hu)
        case qd4 => unfold maxLen; omega
        case qd5 => omega
        case qd6 => have := HBY.out.size; simpa [go_sem] using this
        intro v' w2 hown hgrow hnil hblk
        have HP2 := Lib.hid (HP.out v' w2 hown hgrow (by rcases hblk with h | h; exact .inl h; exact .inr (fun k hk => by have e := Option.some.inj (h.symm.trans hk); have e2 : (Y.alloc (.cells (evVals r (.slice A2 r.rows.length c2)) 39)).heap.size = Y.heap.size + 1 := (by simp [go_sem]); omega)))
        have HB2 := Lib.hid (HBY.out.grown hgrow HBY.out.size (fun k hk => (World.ownsRow.lt HROW.out k hk).1))
        clear hown hgrow hnil hblk HP HROW HBY GY HX HB hone
        go_wp2_with fail
        go_roundw
        case rel => exact ⟨j + 1, g ++ [r], by omega, by go_num, by rw [HG.out, HF2.out], (by simp; omega), by rw [datL_append, List.length_append, show datL evDat [r] = evDat r by simp [datL]]; exact HP2.out, HB2.out⟩
        case measure => simp [intOf]; omega
      · have HF2 := Lib.hid (HFJ.out.trans (by rw [if_neg (by simpa using hk), List.append_nil]))
        have d1 : (r.kind == 3) = false := by rw [beq_eq_false_iff_ne]; exact hk
        clear HFJ hk GX HEV
        obtain ⟨vs, hv1, hv2⟩ := HX.out
        have HX2 := Lib.hid (show OwnX 39 13 g.length W2 w.heap.size W2.heap.size _ (datL evDat g) from ⟨vs, hv1, HeapE.made (hv2.1.below BX.out)⟩)
        have HB2 := Lib.hid (HB.out.trans (BX.out.mono HB.out.size))
        clear HX HB BX hv1 hv2
        generalize r.kind = q at *
        go_wp2_with fail
        go_roundw
        case rel => exact ⟨j + 1, g, by omega, by go_num, by rw [HG.out, HF2.out], by omega, HX2.out, HB2.out⟩
        case measure => simp [intOf]; omega
    · have hjn3 : j = s.log.length := by omega
      have hltz : ¬ (j : Int) < (s.log.length : Int) := by omega
      have HG := Lib.hid hg
      have HX := Lib.hid hox
      have HB := Lib.hid hbl
      clear hg hox hbl HFS HAT
      go_wp2_with fail
      go_ret
      refine ⟨_, rfl, ?_, HB.out⟩
      rw [HTV.out, ← HTK.out, ← hjn3, ← HG.out]
      exact HX.out
end Go.Proofs.YtnlepnfdgdbkoaaGreatDoor
end
section
namespace Go.Proofs.YtnlepnfdgdbkoaaGreatDoor
open Go.RowKit M
set_option linter.unusedVariables false
set_option linter.unusedSimpArgs false
def ArgRS (w : World) (v : Value) (ls : List (List R)) : Prop :=
  ∃ A cap, v = .slice A ls.length cap ∧ ls.length ≤ cap ∧ cap ≤ maxLen ∧ (0 < ls.length → ∃ b off, A = some ⟨b, off, none⟩ ∧ b < w.heap.size ∧ ∀ j, j < ls.length → ∃ u, w.cell? ⟨b, off + j, none⟩ = some u ∧ RowsArg w u (ls.getD j []))
theorem ArgRS.below {w w' : World} {v : Value} {ls : List (List R)} (h : ArgRS w v ls) (hb : Below w.heap.size w w') : ArgRS w' v ls := by
  obtain ⟨A, cap, e, h1, h2, h3⟩ := h
  refine ⟨A, cap, e, h1, h2, fun hp => ?_⟩
  obtain ⟨b, off, ea, h4, h5⟩ := h3 hp
  exact ⟨b, off, ea, Nat.lt_of_lt_of_le h4 hb.size, fun j hj => by
    obtain ⟨u, hu, hr⟩ := h5 j hj
    exact ⟨u, (hb.cell (p := ⟨b, off + j, none⟩) h4).trans hu, hr.below hb⟩⟩
def OwnRS (w : World) (B E : Nat) (v : Value) (ls : List (List R)) : Prop := OwnDE 37 55 10 rowCells w B E v ls
theorem OwnRS.below {w w' : World} {B E : Nat} {v : Value} {ls : List (List R)} (h : OwnRS w B E v ls) (hb : Below w.heap.size w w') : OwnRS w' B E v ls := OwnDE.below h hb
theorem OwnRS.far {w w' : World} {B E B' E' : Nat} {v : Value} {ls : List (List R)} (h : OwnRS w B E v ls) (hc : Chg (Within B' E') w w') (hd : E ≤ B' ∨ E' ≤ B) : OwnRS w' B E v ls := OwnDE.far h hc hd
theorem OwnRS.arg {w : World} {B E : Nat} {v : Value} {ls : List (List R)} (h : OwnRS w B E v ls) : ArgRS w v ls := by
  obtain ⟨vs, hl, hh⟩ := h
  have ho := hh.1.own ⟨v, 37, 1, ls.length, vs⟩ (by simp)
  have ho' := ho
  rcases ho.2 with ⟨e, h0⟩ | ⟨g, cap, cur, e, hb, hg, hn, hm, hc, ht⟩
  · have e : v = .slice none 0 0 := e
    have h00 : ls.length = 0 := h0
    subst e
    exact ⟨none, 0, by rw [h00], by omega, Nat.zero_le _, fun h => by omega⟩
  · have e : v = .slice (some ⟨g, 0, none⟩) ls.length cap := e
    subst e
    refine ⟨_, cap, rfl, hn, hm, fun _ => ⟨g, 0, rfl, (World.ownsRow.lt ho' g rfl).2, fun j hj => ⟨vs.getD j undef, ?_, ?_⟩⟩⟩
    · have := World.ownsRow.cellAt (w := w) (size := 1) (xs := vs) ho' j (show j < ls.length * 1 by omega)
      rw [Nat.zero_add, this, List.getD_eq_getElem?_getD, List.getElem?_eq_getElem (by omega)]
      rfl
    · exact OwnR.arg (base := B) (show OwnR w B (vs.getD j undef) (ls.getD j []) from hh.1.own _ (List.mem_cons_of_mem _ (inner_at hl j hj undef)))
end Go.Proofs.YtnlepnfdgdbkoaaGreatDoor
end
section
namespace Go.Proofs.YtnlepnfdgdbkoaaGreatDoor
open Go.RowKit M
set_option linter.unusedVariables false
def rowCell (ps : List Value) (k : Nat) : Value := ps.getD (k * 13 + 12) undef
def PickR (w : World) (B E : Nat) (v : Value) (ls : List (List R)) : Prop := ∃ (log : List M.E) (js : List Nat) (vl : Value) (cs : List Value) (tv : Value) (ks : List Nat), (∀ k ∈ js, k < log.length) ∧ valsD cs (datL evDat log) ∧ (∀ k ∈ ks, k < js.length) ∧
  ls = ks.map (fun k => (log.getD (js.getD k 0) zeroE).rows) ∧
  HeapE w B E (⟨v, 37, 1, ks.length, ks.map (rowCell (picked 13 cs js))⟩ :: ⟨tv, 39, 13, js.length, picked 13 cs js⟩ :: ⟨vl, 39, 13, log.length, cs⟩ :: innerD cs (datL evDat log))
theorem PickR.below {w w' : World} {B E : Nat} {v : Value} {l : List (List R)} (h : PickR w B E v l) (hb : Below w.heap.size w w') : PickR w' B E v l := by
  obtain ⟨log, js, vl, cs, tv, ks, h1, h2, h3, h4, h5⟩ := h
  exact ⟨log, js, vl, cs, tv, ks, h1, h2, h3, h4, h5.below hb⟩
theorem PickR.far {w w' : World} {B E B' E' : Nat} {v : Value} {l : List (List R)} (h : PickR w B E v l) (hc : Chg (Within B' E') w w') (hd : E ≤ B' ∨ E' ≤ B) : PickR w' B E v l := by
  obtain ⟨log, js, vl, cs, tv, ks, h1, h2, h3, h4, h5⟩ := h
  exact ⟨log, js, vl, cs, tv, ks, h1, h2, h3, h4, h5.far hc hd⟩
theorem HeapE.tail {w : World} {B E : Nat} {r : Rw} {L : List Rw} (h : HeapE w B E (r :: L)) : HeapE w B E L :=
  ⟨⟨fun x hx => h.1.own x (List.mem_cons_of_mem _ hx), (List.pairwise_cons.1 h.1.ap).2⟩, fun x hx => h.2 x (List.mem_cons_of_mem _ hx)⟩
theorem PickR.arg {w : World} {B E : Nat} {v : Value} {ls : List (List R)} (h : PickR w B E v ls) : ArgRS w v ls := by
  obtain ⟨log, js, vl, cs, tv, ks, h1, h2, h3, rfl, h5⟩ := h
  have hpe : PickE w B E tv (js.map (fun k => log.getD k zeroE)) := ⟨log, js, vl, cs, rfl, h1, h2, h5.tail⟩
  have ha := hpe.arg
  have ho : w.ownsRow B 37 1 v ks.length (ks.map (rowCell (picked 13 cs js))) := h5.1.own _ List.mem_cons_self
  have hto : w.ownsRow B 39 13 tv js.length (picked 13 cs js) := h5.1.own _ (List.mem_cons_of_mem _ List.mem_cons_self)
  rcases ho.2 with ⟨e, h0⟩ | ⟨g, cap, cur, e, hb, hg, hn, hm, hc, ht⟩
  · subst e
    obtain rfl : ks = [] := List.length_eq_zero_iff.1 h0
    exact ⟨none, 0, rfl, Nat.le_refl _, Nat.zero_le _, fun h => absurd h (Nat.lt_irrefl _)⟩
  · refine ⟨some ⟨g, 0, none⟩, cap, by rw [e, List.length_map], by rw [List.length_map]; exact hn, hm, fun hp => ⟨g, 0, rfl, (World.ownsRow.lt ho g (by rw [e]; rfl)).2, fun i hi => ?_⟩⟩
    rw [List.length_map] at hi
    subst e
    have hk : ks.getD i 0 < js.length := h3 _ (by rw [List.getD_eq_getElem?_getD, List.getElem?_eq_getElem hi]; exact List.getElem_mem hi)
    obtain ⟨A, cap', ev, _, _, h6⟩ := ha
    rw [List.length_map] at ev h6
    obtain ⟨b, off, ea, hb2, h7⟩ := h6 (by omega)
    have hge : (js.map (fun k => log.getD k zeroE)).getD (ks.getD i 0) zeroE = log.getD (js.getD (ks.getD i 0) 0) zeroE := by
      rw [List.getD_eq_getElem?_getD, List.getElem?_map, List.getElem?_eq_getElem hk, List.getD_eq_getElem?_getD (l := js), List.getElem?_eq_getElem hk]; rfl
    have hel := h7 _ hk
    rw [hge] at hel
    obtain ⟨u, hu, hr⟩ := hel 12 _ rfl
    refine ⟨u, ?_, ?_⟩
    · have hcell := World.ownsRow.cellAt ho i (by omega : i < ks.length * 1)
      rw [Nat.zero_add, hcell, List.getElem?_map, List.getElem?_eq_getElem hi]
      rw [show ks[i] = ks.getD i 0 by rw [List.getD_eq_getElem?_getD, List.getElem?_eq_getElem hi]; rfl]
      rcases hto.2 with ⟨e2, h0⟩ | ⟨g2, cap2, cur2, e2, _⟩
      · omega
      · subst e2
        rw [ea] at ev
        injection ev with e1 e3 e4
        injection e1 with e1
        injection e1 with e5 e6
        subst e5
        subst e6
        have ht2 := World.ownsRow.cellAt hto (ks.getD i 0 * 13 + 12) (by omega)
        rw [Nat.zero_add, ht2] at hu
        show some ((picked 13 cs js).getD (ks.getD i 0 * 13 + 12) undef) = some u
        rw [List.getD_eq_getElem?_getD (l := picked 13 cs js), hu]
        rfl
    · have hg2 : (ks.map (fun k => (log.getD (js.getD k 0) zeroE).rows)).getD i [] = (log.getD (js.getD (ks.getD i 0) 0) zeroE).rows := by
        rw [List.getD_eq_getElem?_getD, List.getElem?_map, List.getElem?_eq_getElem hi, List.getD_eq_getElem?_getD (l := ks), List.getElem?_eq_getElem hi]; rfl
      rw [hg2]
      exact reads_rows hr
end Go.Proofs.YtnlepnfdgdbkoaaGreatDoor
end
section
namespace Go.Proofs.YtnlepnfdgdbkoaaGreatDoor
open Go.RowKit M
set_option linter.unusedVariables false
set_option linter.unusedSimpArgs false
theorem info_rowS : (Tryz.prog.info? 37).map (fun i => (i.zero, i.size, i.bytes)) = some (some (.slice none 0 0), 1, 24) := by kernel_rfl
theorem tells_hl1 {s : S} (hs : SmallS s) : (tellsV s).length ≤ 1048576 := Nat.le_trans (List.length_filter_le _ _) hs.l
end Go.Proofs.YtnlepnfdgdbkoaaGreatDoor
end
section
namespace Go.Proofs.YtnlepnfdgdbkoaaGreatDoor
open Go.RowKit M
set_option linter.unusedVariables false
set_option linter.unusedSimpArgs false
def MadeRS (w : World) (l : List (List R)) (e : Ending) (w' : World) : Prop := ∃ v, e = .returned v ∧ OwnRS w' w.heap.size w'.heap.size v l ∧ Below w.heap.size w w'
set_option maxRecDepth 100000 in
set_option maxHeartbeats 800000 in
theorem iReportsY_any (w : World) (Bl El : Nat) (s : S) (vc vj vt vl : Value) (h : OwnY 39 13 evDat w Bl El vl s.log) (hs : SmallS s) : Calls Tryz.prog 16 #[.agg (worVals s vc vj vt vl)] w (MadeRS w (reportsV s)) := by
  obtain ⟨i1, hi1, hy0, hy1, hy2⟩ := info_parts info_rowS
  have hulw := Tryz.underlying33
  have hule := Tryz.underlying39
  have HLG := Lib.hid (fun W (hb : Below w.heap.size w W) => iTellsY_any W Bl El s vc vj vt vl (OwnY.below h hb) hs)
  have HTLL := (tells_hl1 hs)
  clear h hs
  have HFS := Lib.hid (fun j (hj : j < (tellsV s).length) => filter_take_snoc (fun e : M.E => decide (e.op.kind = 3)) zeroE (tellsV s) j hj)
  have HTK := Lib.hid (List.take_length (l := tellsV s))
  have HTV := Lib.hid (show reportsV s = ((tellsV s).filter fun e => decide (e.op.kind = 3)).map M.E.rows from rfl)
  generalize tellsV s = tl at *
  go_enter Tryz.func16, Tryz.ntmps16
  go_upto_region 1 with fail
  refine wp_gen (fun W => Blk W w.heap.size 33 (worVals s vc vj vt vl) ∧ Below w.heap.size w W) ⟨Blk.new w _ _ _ rfl, below_oneL w _⟩ ?_
  rintro W ⟨h0, hb0⟩
  have H0 := Lib.hid h0
  have HB0 := Lib.hid hb0
  have HC := Lib.hid (HLG.out _ HB0.out)
  clear h0 hb0 HLG
  go_wp2_with ((with_reducible show wpList _ _ _ _ _ _); refine wpList_load_row rfl 33 _ rfl w.heap.size rfl 33 (worVals s vc vj vt vl) (0, 0) _ H0.out hulw rfl (by kernel_rfl) ?_)
  refine HC.out.mono ?_
  rintro e W1 ⟨v, rfl, hoy, hb1⟩
  obtain ⟨cs, hcs, hhe⟩ := hoy
  have hvo : W1.ownsRow W.heap.size 39 13 v tl.length cs := hhe.1.own _ List.mem_cons_self
  have hcl : cs.length = tl.length * 13 := hvo.1
  obtain ⟨Av, cv, rfl⟩ := Rw.slice (show (⟨v, 39, 13, tl.length, cs⟩ : Rw).own W1 W.heap.size from hvo)
  have HAT := Lib.hid (fun X (hb : Below W1.heap.size W1 X) j (hj : j < tl.length) => ownEv_at (OwnY.below (show OwnY 39 13 evDat W1 W.heap.size W1.heap.size (.slice Av tl.length cv) tl from ⟨cs, hcs, hhe⟩) hb) j hj)
  have HVO := Lib.hid (fun X (hb : Below W1.heap.size W1 X) => own_below hvo hb)
  have HB1 := Lib.hid (HB0.out.trans (hb1.mono HB0.out.size))
  have HHE := Lib.hid hhe
  have HCL := Lib.hid hcl
  have hle1 := hb1.size
  have hle0 := HB0.out.size
  clear hcs hhe hb1 hvo HB0 HC H0 hcl
  go_wp2_with fail
  go_loopw [3, 9] (fun o i wr => ∃ (j : Nat) (us : List Value) (ls : List (List R)), j ≤ tl.length ∧ i = .int .i64 j ∧ ls = ((tl.take j).filter (fun e => decide (e.op.kind = 3))).map M.E.rows ∧ us.length = ls.length ∧ ls.length ≤ j ∧ wr.ownsRow W1.heap.size 37 1 o ls.length us ∧ (inner 55 10 rowCells us ls).Sublist (innerD (cs.take (j * 13)) (datL evDat (tl.take j))) ∧ Below W1.heap.size W1 wr) (fun _ i _ => tl.length - (intOf i).toNat)
  case atStart => exact ⟨0, [], [], Nat.zero_le _, rfl, rfl, rfl, Nat.le_refl _, ⟨rfl, .inl ⟨rfl, rfl⟩⟩, (by simp [inner, innerD, datL]), Below.refl _ _⟩
  case round =>
    obtain ⟨j, us, ls, hj, rfl, hls, hul, hll, hown, hsub, hbl⟩ := hrel
    by_cases hlt : j < tl.length
    · obtain ⟨b, cp, vrows, hA, hbb, hrng, hev⟩ := HAT.out wr hbl j hlt
      have hvo := HVO.out wr hbl
      rw [hA] at hvo
      have hpk : (cs.drop (j * 13)).take 13 = (evVals (tl.getD j zeroE) vrows).toList := take_range rfl (fun k hk => by
        rw [← World.ownsRow.cellAt hvo (j * 13 + k) (by omega)]
        have e1 := List.getElem?_eq_getElem (show k < (evVals (tl.getD j zeroE) vrows).toList.length from hk)
        rw [e1]
        exact hrng k _ e1)
      injection hA with hA1 hA2 hA3
      subst hA1
      subst hA3
      clear hA2 hvo
      obtain ⟨A1, c1, rfl⟩ := Rw.slice (show (⟨vrows, 55, 10, (tl.getD j zeroE).rows.length, cellsR (tl.getD j zeroE).rows⟩ : Rw).own wr W.heap.size from hev)
      have HSD := Lib.hid (show innerD (cs.take ((j + 1) * 13)) (datL evDat (tl.take (j + 1))) = innerD (cs.take (j * 13)) (datL evDat (tl.take j)) ++ [⟨.slice A1 (tl.getD j zeroE).rows.length c1, 55, 10, (tl.getD j zeroE).rows.length, cellsR (tl.getD j zeroE).rows⟩] by
        rw [show (j + 1) * 13 = j * 13 + 13 by omega, List.take_add, hpk, show tl.take (j + 1) = tl.take j ++ [tl.getD j zeroE] by rw [List.take_add_one, List.getD_eq_getElem?_getD, List.getElem?_eq_getElem hlt]; rfl, datL_append, innerD_append _ _ _ _ (by rw [List.length_take, datL_length evDat_len, List.length_take, HCL.out]; omega)]
        congr 1)
      have HFJ := Lib.hid (HFS.out j hlt)
      have HLS := Lib.hid hls
      have HOW := Lib.hid hown
      have HSUB := Lib.hid hsub
      have HB := Lib.hid hbl
      have HR := Lib.hid hrng
      clear hls hown hsub hbl hrng hev hpk HFS HTK HAT HVO HHE HB1
      have hjn2 : (j : Int) < (tl.length : Int) := by omega
      generalize tl.getD j zeroE = r at *
      have hoc := ev_one r A1 r.rows.length c1
      go_upto_region 5 with ((with_reducible show wpList _ _ _ _ _ _); first | refine wpList_load_mid rfl 39 _ rfl b (j * 13) rfl (evVals r (.slice A1 r.rows.length c1)).toList _ HR.out hule rfl (by kernel_rfl) ?_ | refine wpList_store_row rfl 39 _ _ rfl wr.heap.size (evVals r (.slice A1 r.rows.length c1)) rfl rfl 39 _ (Blk.new wr wr.heap.size 39 #[.int .i64 0, .int .i64 0, .int .i64 0, .int .i64 0, .int .i64 0, .string ⟨#[]⟩, .int .i64 0, .int .i64 0, .int .i64 0, .int .i64 0, .int .i64 0, .int .i64 0, .slice none 0 0] rfl) (by kernel_rfl) rfl hoc ?_)
      refine wp_gen (fun W => Blk W wr.heap.size 39 (evVals r (.slice A1 r.rows.length c1)) ∧ Below wr.heap.size wr W) ⟨setRow_heap _ _ _ _ _ _ (Blk.new wr wr.heap.size 39 #[.int .i64 0, .int .i64 0, .int .i64 0, .int .i64 0, .int .i64 0, .string ⟨#[]⟩, .int .i64 0, .int .i64 0, .int .i64 0, .int .i64 0, .int .i64 0, .int .i64 0, .slice none 0 0] rfl), below_setRow' (below_oneL wr _) (Nat.le_refl _) _⟩ ?_
      rintro X ⟨hx, hbx⟩
      have c4 : X.cell? ⟨wr.heap.size, 4, none⟩ = some (.int .i64 r.op.kind) := hx.get 4
      have c12 : X.cell? ⟨wr.heap.size, 12, none⟩ = some (.slice A1 r.rows.length c1) := hx.get 12
      have HOX := Lib.hid (own_below HOW.out hbx)
      have HBX := Lib.hid (HB.out.trans (hbx.mono HB.out.size))
      clear hx hbx HR hoc HOW HB
      by_cases hk : r.op.kind = 3
      · have HF2 := Lib.hid (HFJ.out.trans (by rw [if_pos (decide_eq_true hk)]))
        have d1 : (r.op.kind == 3) = true := by rw [beq_iff_eq]; exact hk
        clear HFJ hk
        have HROW := Lib.hid (show World.ownsRow (X.alloc (.cells #[.slice A1 r.rows.length c1] 37)) W1.heap.size 37 1 _ ls.length us from own_below HOX.out (below_oneL X _))
        go_wp2_with (at_builtin; refine wpList_append_own_at _ rfl _ _ 51 rfl W1.heap.size 37 i1 (.slice none 0 0) 1 24 Tryz.underlying51 hi1 hy0 hy1 hy2 rfl (by decide) _ ls.length _ rfl HROW.out ⟨X.heap.size, 0, none⟩ 1 1 [.slice A1 r.rows.length c1] rfl ?qd1 ?qd2 ?qd3 ?qd4 ?qd5 ?qd6 ?_)
        case qd1 => rfl
        case qd2 => exact cell_one_new _ _ _
        case qd3 => first | rfl | (intro u hu; rw [List.mem_singleton.1 hu]; rfl)
        case qd4 => unfold maxLen; omega
        case qd5 => omega
        case qd6 => have := HBX.out.size; simp [go_sem]; omega
        intro v' w2 hown hgrow hnil hblk
        have HO2 := Lib.hid hown
        have HB2 := Lib.hid ((HBX.out.alloc HBX.out.size (.cells #[.slice A1 r.rows.length c1] 37)).grown hgrow (by have := HBX.out.size; simp [go_sem]; omega) (fun k hk => (World.ownsRow.lt HROW.out k hk).1))
        have HIN := Lib.hid (show inner 55 10 rowCells (us ++ [.slice A1 r.rows.length c1]) (ls ++ [r.rows]) = inner 55 10 rowCells us ls ++ [⟨.slice A1 r.rows.length c1, 55, 10, r.rows.length, cellsR r.rows⟩] from zipWith_snoc _ _ _ _ _ hul)
        clear hown hgrow hnil hblk HROW HOX HBX c12 c4
        go_wp2_with fail
        go_roundw
        case rel => exact ⟨j + 1, us ++ [.slice A1 r.rows.length c1], ls ++ [r.rows], by omega, by go_num, by rw [HLS.out, HF2.out, List.map_append]; rfl, (by simp; omega), (by simp; omega), by rw [List.length_append]; exact HO2.out, by rw [HIN.out, HSD.out]; exact HSUB.out.append (List.Sublist.refl _), HB2.out⟩
        case measure => simp [intOf]; omega
      · have HF2 := Lib.hid (HFJ.out.trans (by rw [if_neg (by simpa using hk), List.append_nil]))
        have d1 : (r.op.kind == 3) = false := by rw [beq_eq_false_iff_ne]; exact hk
        clear HFJ hk c12
        generalize r.op.kind = q at *
        go_wp2_with fail
        go_roundw
        case rel => exact ⟨j + 1, us, ls, by omega, by go_num, by rw [HLS.out, HF2.out], hul, by omega, HOX.out, by rw [HSD.out]; exact HSUB.out.trans (List.sublist_append_left _ _), HBX.out⟩
        case measure => simp [intOf]; omega
    · have hjn3 : j = tl.length := by omega
      have hltz : ¬ (j : Int) < (tl.length : Int) := by omega
      have HLS := Lib.hid hls
      have HOW := Lib.hid hown
      have HSUB := Lib.hid hsub
      have HB := Lib.hid hbl
      clear hls hown hsub hbl HFS HAT HVO
      go_wp2_with fail
      go_ret
      have hsub := HSUB.out
      rw [hjn3, HTK.out, List.take_of_length_le (by rw [HCL.out]; omega)] at hsub
      have hin := (HHE.out.tail.1.sub hsub).below HB.out
      have hls := HLS.out
      rw [hjn3, HTK.out, ← HTV.out] at hls
      subst hls
      have hjo := Heap.join hin (Heap.one (r := ⟨_, 37, 1, (reportsV s).length, us⟩) HOW.out) hle1 (fun r hr b hb => Nat.lt_of_lt_of_le (HHE.out.2 r (List.mem_cons_of_mem _ (hsub.subset hr)) b hb) (Nat.le_refl _))
      refine ⟨_, rfl, ⟨us, hul, HeapE.made ?_⟩, HB1.out.trans (HB.out.mono HB1.out.size)⟩
      have hp := List.pairwise_append.1 hjo.ap
      refine ⟨fun r hr => Rw.own_base (hjo.own r ?_) hle0, List.pairwise_cons.2 ⟨fun r hr => (hp.2.2 r hr _ (List.mem_singleton.2 rfl)).symm, hp.1⟩⟩
      rcases List.mem_cons.1 hr with rfl | h
      · exact List.mem_append_right _ (List.mem_singleton.2 rfl)
      · exact List.mem_append_left _ h
end Go.Proofs.YtnlepnfdgdbkoaaGreatDoor
end

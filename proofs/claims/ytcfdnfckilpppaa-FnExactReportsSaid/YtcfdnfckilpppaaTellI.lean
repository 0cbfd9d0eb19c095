/-
  Chapter 12, the program's Tells.
-/
import Derived.Test.YtcfdnfckilpppaaTellM
import Derived.Test.YtcfdnfckilpppaaClR
namespace Go.Proofs.Ytcfdnfckilpppaa
open Go.RowKit M
set_option linter.unusedVariables false
set_option linter.unusedSimpArgs false
set_option maxRecDepth 100000 in
set_option maxHeartbeats 800000 in
theorem iTells_any (w : World) (B E : Nat) (s : S) (vc vj vt vl : Value) (h : WorP w B E s vc vj vt vl) (hs : SmallS s) : Calls Try.prog 9 #[.agg (worVals s vc vj vt vl)] w (MadeEvS w (tellsV s)) := by
  obtain ⟨i0, hi0, hz0, hz1, hz2⟩ := info_parts info_Ev
  obtain ⟨_, _, _, _, _, _, Bl, El, _, ha⟩ := h
  have HAT := Lib.hid (fun W (hb : Below w.heap.size w W) j (hj : j < s.log.length) => ownEv_at (OwnY.below ha.l hb) j hj)
  have HLK := Lib.hid hs.lk
  have HLL := hs.l
  have HFS := Lib.hid (fun j (hj : j < s.log.length) => filter_take_snoc (fun e : M.E => decide (e.kind = 3)) zeroE s.log j hj)
  have HTK := Lib.hid (List.take_length (l := s.log))
  obtain ⟨Al, cl, rfl⟩ := OwnY.shape ha.l
  clear ha hs
  have HTV := Lib.hid (show tellsV s = s.log.filter (fun e => decide (e.kind = 3)) from rfl)
  have hule := Try.underlying56
  go_enter Try.func9, Try.ntmps9
  go_upto_region 1 with fail
  refine wp_gen (fun W => Blk W w.heap.size 34 (worVals s vc vj vt (.slice Al s.log.length cl)) ∧ Below w.heap.size w W) ⟨Blk.new w _ _ _ rfl, below_oneL w _⟩ ?_
  rintro W ⟨h0, hb0⟩
  have p3 : W.cell? ⟨w.heap.size, 3, none⟩ = some (.slice Al s.log.length cl) := h0.get 3
  have HB0 := Lib.hid hb0
  clear h0 hb0
  go_wp2_with fail
  go_loopw [3, 9] (fun o i wr => ∃ (j : Nat) (g : List M.E), j ≤ s.log.length ∧ i = .int .i64 j ∧ g = ((s.log.take j).filter (fun e => decide (e.kind = 3))) ∧ g.length ≤ j ∧ OwnX 56 13 g.length wr w.heap.size wr.heap.size o (datL evDat g) ∧ Below w.heap.size w wr) (fun _ i _ => s.log.length - (intOf i).toNat)
  case atStart => exact ⟨0, [], Nat.zero_le _, rfl, rfl, Nat.le_refl _, ⟨[], trivial, ⟨Heap.one ⟨rfl, .inl ⟨rfl, rfl⟩⟩, (fun r hr k hk => by rw [List.mem_singleton.1 hr] at hk; simp [Value.ownBlock] at hk)⟩⟩, HB0.out⟩
  case round =>
    obtain ⟨j, g, hj, rfl, hg, hgl, hox, hbl⟩ := hrel
    clear HB0 p3
    by_cases hlt : j < s.log.length
    · obtain ⟨b, cp, vrows, hA, hbb, hrng, hev⟩ := HAT.out wr hbl j hlt
      injection hA with hA1 hA2 hA3
      subst hA1
      clear hA2 hA3
      obtain ⟨A1, c1, rfl⟩ := Rw.slice (show (⟨vrows, 62, 10, (s.log.getD j zeroE).rows.length, cellsR (s.log.getD j zeroE).rows⟩ : Rw).own wr Bl from hev)
      have HFJ := Lib.hid (HFS.out j hlt)
      have HLJ := HLK.out j hlt
      have HG := Lib.hid hg
      have HX := Lib.hid hox
      have HB := Lib.hid hbl
      have HR := Lib.hid hrng
      have HEV := Lib.hid hev
      clear hg hox hbl hrng hev HFS HTK HAT
      have hjn2 : (j : Int) < (s.log.length : Int) := by omega
      generalize s.log.getD j zeroE = r at *
      have hoc := ev_one r A1 r.rows.length c1
      go_upto_region 5 with ((with_reducible show wpList _ _ _ _ _ _); first | refine wpList_load_mid rfl 56 _ rfl b (j * 13) rfl (evVals r (.slice A1 r.rows.length c1)).toList _ HR.out hule rfl (by kernel_rfl) ?_ | refine wpList_store_row rfl 56 _ _ rfl wr.heap.size (evVals r (.slice A1 r.rows.length c1)) rfl rfl 56 _ (Blk.new wr wr.heap.size 56 #[.int .i64 0, .int .i64 0, .int .i64 0, .int .i64 0, .int .i64 0, .string ⟨#[]⟩, .int .i64 0, .int .i64 0, .int .i64 0, .int .i64 0, .int .i64 0, .int .i64 0, .slice none 0 0] rfl) (by kernel_rfl) rfl hoc ?_)
      refine wp_gen (fun W => Blk W wr.heap.size 56 (evVals r (.slice A1 r.rows.length c1)) ∧ Below wr.heap.size wr W) ⟨setRow_heap _ _ _ _ _ _ (Blk.new wr wr.heap.size 56 #[.int .i64 0, .int .i64 0, .int .i64 0, .int .i64 0, .int .i64 0, .string ⟨#[]⟩, .int .i64 0, .int .i64 0, .int .i64 0, .int .i64 0, .int .i64 0, .int .i64 0, .slice none 0 0] rfl), below_setRow' (below_oneL wr _) (Nat.le_refl _) _⟩ ?_
      rintro W2 ⟨hx, hbx⟩
      have c0 : W2.cell? ⟨wr.heap.size, 0, none⟩ = some (.int .i64 r.kind) := hx.get 0
      have hwl := hx.lt
      have GX := Lib.hid hx
      have BX := Lib.hid hbx
      clear hx hbx HR hoc
      by_cases hk : r.kind = 3
      · have HF2 := Lib.hid (HFJ.out.trans (by rw [if_pos (decide_eq_true hk)]))
        have d1 : (r.kind == 3) = true := by rw [beq_iff_eq]; exact hk
        clear HFJ hk
        have c12 : W2.cell? ⟨wr.heap.size, 12, none⟩ = some (.slice A1 r.rows.length c1) := GX.out.get 12
        have HCL := Lib.hid (iClRow_rd W2 (fun _ => True) (.slice A1 r.rows.length c1) r.rows.length (cellsR r.rows) (Rd.of (own_below HEV.out BX.out) (fun _ _ => trivial)) HLJ (cellsR_length r.rows) (cellsR_one r.rows))
        go_wp2_with fail
        refine HCL.out.mono ?_
        rintro e W3 ⟨u, rfl, ho, hb3⟩
        obtain ⟨A2, c2, rfl⟩ := Rw.slice (show (⟨u, 62, 10, r.rows.length, cellsR r.rows⟩ : Rw).own W3 W2.heap.size from ho)
        have G3 := Lib.hid (GX.out.below hb3)
        have B3 := Lib.hid (BX.out.trans (hb3.mono BX.out.size))
        have HO := Lib.hid ho
        have hz3 := hb3.size
        clear ho hb3 c12 c0 GX HCL
        have f12 := G3.out.frz 12
        have c12 : W3.cell? ⟨wr.heap.size, 12, none⟩ = some (.slice A1 r.rows.length c1) := G3.out.get 12
        go_upto_region 7 with fail
        refine wp_gen (fun Y => Blk Y wr.heap.size 56 (evVals r (.slice A2 r.rows.length c2)) ∧ Below wr.heap.size wr Y ∧ Heap Y W2.heap.size [⟨.slice A2 r.rows.length c2, 62, 10, r.rows.length, cellsR r.rows⟩]) ⟨G3.out.store 12 _, B3.out.setCell (Nat.le_refl _) _, heap_set1 (Heap.one (r := ⟨.slice A2 r.rows.length c2, 62, 10, r.rows.length, cellsR r.rows⟩) HO.out) hwl G3.out 12 _⟩ ?_
        rintro Y ⟨hy, hby, hrow⟩
        obtain ⟨vs, hv1, hv2, _⟩ := HX.out.sees
        have hbY : Below wr.heap.size wr (Y.alloc (.cells (evVals r (.slice A2 r.rows.length c2)) 56)) := hby.alloc hby.size _
        have HROW := Lib.hid (show World.ownsRow (Y.alloc (.cells (evVals r (.slice A2 r.rows.length c2)) 56)) w.heap.size 56 13 _ g.length vs from (hv2.1.below hbY).own _ List.mem_cons_self)
        have HP := Lib.hid (fun (v' : Value) (w2 : World) hr hg hv => pushX (v' := v') (w2 := w2) hv1 hv2 hbY (evVals_ok r (.slice A2 r.rows.length c2)) (HeapE.made (hrow.below (below_oneL Y _))) (Nat.le_of_lt hwl) (Nat.le_trans HB.out.size (Nat.le_of_lt hwl)) hr hg hv)
        have HBY := Lib.hid (HB.out.trans (hbY.mono HB.out.size))
        have GY := Lib.hid hy
        have hone := ev_one r A2 r.rows.length c2
        have hs13 : (evVals r (.slice A2 r.rows.length c2)).size = 13 := rfl
        clear hy hby hrow hbY G3 B3 f12 c12 HO BX
        go_wp2_with ((with_reducible show wpList _ _ _ _ _ _); first | refine wpList_load_row rfl 56 _ rfl wr.heap.size rfl 56 (evVals r (.slice A2 r.rows.length c2)) (0, 0) _ GY.out hule rfl (by kernel_rfl) ?_ | (at_builtin; rw [fold_rec _ _ _ (by rfl) (by rfl)]; refine wpList_append_own_at _ rfl _ _ 29 rfl w.heap.size 56 i0 (.agg #[.int .i64 0, .int .i64 0, .int .i64 0, .int .i64 0, .int .i64 0, .string ⟨#[]⟩, .int .i64 0, .int .i64 0, .int .i64 0, .int .i64 0, .int .i64 0, .int .i64 0, .slice none 0 0]) 13 128 Try.underlying29 hi0 hz0 hz1 hz2 rfl (by decide) _ g.length _ rfl HROW.out ⟨Y.heap.size, 0, none⟩ 1 1 (evVals r (.slice A2 r.rows.length c2)).toList rfl ?qd1 ?qd2 ?qd3 ?qd4 ?qd5 ?qd6 ?_))
        case qd3 => intro u hu; exact Array.all_eq_true_iff_forall_mem.1 hone u (by simpa using hu)
        case qd4 => unfold maxLen; omega
        case qd5 => omega
        case qd6 => have := HBY.out.size; simpa [go_sem] using this
        intro v' w2 hown hgrow hnil hblk
        have HP2 := Lib.hid (HP.out v' w2 hown hgrow (by rcases hblk with h | h; exact .inl h; exact .inr (fun k hk => by have e := Option.some.inj (h.symm.trans hk); have e2 : (Y.alloc (.cells (evVals r (.slice A2 r.rows.length c2)) 56)).heap.size = Y.heap.size + 1 := (by simp [go_sem]); omega)))
        have HB2 := Lib.hid (HBY.out.grown hgrow HBY.out.size (fun k hk => (World.ownsRow.lt HROW.out k hk).1))
        clear hown hgrow hnil hblk HP HROW HBY GY HX HB hone
        go_wp2_with fail
        go_roundw
        case rel => exact ⟨j + 1, g ++ [r], by omega, by go_num, by rw [HG.out, HF2.out], (by simp; omega), by rw [datL_append, List.length_append, show datL evDat [r] = evDat r by simp [datL]]; exact HP2.out, HB2.out⟩
        case measure => simp [intOf]; omega
      · have HF2 := Lib.hid (HFJ.out.trans (by rw [if_neg (by simpa using hk), List.append_nil]))
        have d1 : (r.kind == 3) = false := by rw [beq_eq_false_iff_ne]; exact hk
        clear HFJ hk GX HEV
        obtain ⟨vs, hv1, hv2⟩ := HX.out
        have HX2 := Lib.hid (show OwnX 56 13 g.length W2 w.heap.size W2.heap.size _ (datL evDat g) from ⟨vs, hv1, HeapE.made (hv2.1.below BX.out)⟩)
        have HB2 := Lib.hid (HB.out.trans (BX.out.mono HB.out.size))
        clear HX HB BX hv1 hv2
        generalize r.kind = q at *
        go_wp2_with fail
        go_roundw
        case rel => exact ⟨j + 1, g, by omega, by go_num, by rw [HG.out, HF2.out], by omega, HX2.out, HB2.out⟩
        case measure => simp [intOf]; omega
    · have hjn3 : j = s.log.length := by omega
      have hltz : ¬ (j : Int) < (s.log.length : Int) := by omega
      have HG := Lib.hid hg
      have HX := Lib.hid hox
      have HB := Lib.hid hbl
      clear hg hox hbl HFS HAT
      go_wp2_with fail
      go_ret
      refine ⟨_, rfl, ?_, HB.out⟩
      rw [HTV.out, ← HTK.out, ← hjn3, ← HG.out]
      exact HX.out
end Go.Proofs.Ytcfdnfckilpppaa

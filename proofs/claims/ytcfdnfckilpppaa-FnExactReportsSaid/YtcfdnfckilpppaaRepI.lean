/-
  Chapter 12, the program's Reports.
-/
import Derived.Test.YtcfdnfckilpppaaTellI
import Derived.Test.YtcfdnfckilpppaaRepM
namespace Go.Proofs.Ytcfdnfckilpppaa
open Go.RowKit M
set_option linter.unusedVariables false
set_option linter.unusedSimpArgs false
/-- A call answers new rows of rows. -/
def MadeRS (w : World) (l : List (List R)) (e : Ending) (w' : World) : Prop := ∃ v, e = .returned v ∧ OwnRS w' w.heap.size w'.heap.size v l ∧ Below w.heap.size w w'
set_option maxRecDepth 100000 in
set_option maxHeartbeats 800000 in
theorem iReports_any (w : World) (B E : Nat) (s : S) (vc vj vt vl : Value) (h : WorP w B E s vc vj vt vl) (hs : SmallS s) : Calls Try.prog 20 #[.agg (worVals s vc vj vt vl)] w (MadeRS w (reportsV s)) := by
  obtain ⟨i1, hi1, hy0, hy1, hy2⟩ := info_parts info_rowS
  have hulw := Try.underlying34
  have hule := Try.underlying56
  have HLG := Lib.hid (fun W (hb : Below w.heap.size w W) => iTells_any W B E s vc vj vt vl (h.below hb) hs)
  have HTLL := (tells_hl1 hs)
  clear h hs
  have HFS := Lib.hid (fun j (hj : j < (tellsV s).length) => filter_take_snoc (fun e : M.E => decide (e.op.kind = 3)) zeroE (tellsV s) j hj)
  have HTK := Lib.hid (List.take_length (l := tellsV s))
  have HTV := Lib.hid (show reportsV s = ((tellsV s).filter fun e => decide (e.op.kind = 3)).map M.E.rows from rfl)
  generalize tellsV s = tl at *
  go_enter Try.func20, Try.ntmps20
  go_upto_region 1 with fail
  refine wp_gen (fun W => Blk W w.heap.size 34 (worVals s vc vj vt vl) ∧ Below w.heap.size w W) ⟨Blk.new w _ _ _ rfl, below_oneL w _⟩ ?_
  rintro W ⟨h0, hb0⟩
  have H0 := Lib.hid h0
  have HB0 := Lib.hid hb0
  have HC := Lib.hid (HLG.out _ HB0.out)
  clear h0 hb0 HLG
  go_wp2_with ((with_reducible show wpList _ _ _ _ _ _); refine wpList_load_row rfl 34 _ rfl w.heap.size rfl 34 (worVals s vc vj vt vl) (0, 0) _ H0.out hulw rfl (by kernel_rfl) ?_)
  refine HC.out.mono ?_
  rintro e W1 ⟨v, rfl, hoy, hb1⟩
  obtain ⟨cs, hcs, hhe⟩ := hoy
  have hvo : W1.ownsRow W.heap.size 56 13 v tl.length cs := hhe.1.own _ List.mem_cons_self
  have hcl : cs.length = tl.length * 13 := hvo.1
  obtain ⟨Av, cv, rfl⟩ := Rw.slice (show (⟨v, 56, 13, tl.length, cs⟩ : Rw).own W1 W.heap.size from hvo)
  have HAT := Lib.hid (fun X (hb : Below W1.heap.size W1 X) j (hj : j < tl.length) => ownEv_at (OwnY.below (show OwnY 56 13 evDat W1 W.heap.size W1.heap.size (.slice Av tl.length cv) tl from ⟨cs, hcs, hhe⟩) hb) j hj)
  have HVO := Lib.hid (fun X (hb : Below W1.heap.size W1 X) => own_below hvo hb)
  have HB1 := Lib.hid (HB0.out.trans (hb1.mono HB0.out.size))
  have HHE := Lib.hid hhe
  have HCL := Lib.hid hcl
  have hle1 := hb1.size
  have hle0 := HB0.out.size
  clear hcs hhe hb1 hvo HB0 HC H0 hcl
  go_wp2_with fail
  go_loopw [3, 9] (fun o i wr => ∃ (j : Nat) (us : List Value) (ls : List (List R)), j ≤ tl.length ∧ i = .int .i64 j ∧ ls = ((tl.take j).filter (fun e => decide (e.op.kind = 3))).map M.E.rows ∧ us.length = ls.length ∧ ls.length ≤ j ∧ wr.ownsRow W1.heap.size 54 1 o ls.length us ∧ (inner 62 10 rowCells us ls).Sublist (innerD (cs.take (j * 13)) (datL evDat (tl.take j))) ∧ Below W1.heap.size W1 wr) (fun _ i _ => tl.length - (intOf i).toNat)
  case atStart => exact ⟨0, [], [], Nat.zero_le _, rfl, rfl, rfl, Nat.le_refl _, ⟨rfl, .inl ⟨rfl, rfl⟩⟩, (by simp [inner, innerD, datL]), Below.refl _ _⟩
  case round =>
    obtain ⟨j, us, ls, hj, rfl, hls, hul, hll, hown, hsub, hbl⟩ := hrel
    by_cases hlt : j < tl.length
    · obtain ⟨b, cp, vrows, hA, hbb, hrng, hev⟩ := HAT.out wr hbl j hlt
      have hvo := HVO.out wr hbl
      rw [hA] at hvo
      have hpk : (cs.drop (j * 13)).take 13 = (evVals (tl.getD j zeroE) vrows).toList := take_range rfl (fun k hk => by
        rw [← World.ownsRow.cellAt hvo (j * 13 + k) (by omega)]
        have e1 := List.getElem?_eq_getElem (show k < (evVals (tl.getD j zeroE) vrows).toList.length from hk)
        rw [e1]
        exact hrng k _ e1)
      injection hA with hA1 hA2 hA3
      subst hA1
      subst hA3
      clear hA2 hvo
      obtain ⟨A1, c1, rfl⟩ := Rw.slice (show (⟨vrows, 62, 10, (tl.getD j zeroE).rows.length, cellsR (tl.getD j zeroE).rows⟩ : Rw).own wr W.heap.size from hev)
      have HSD := Lib.hid (show innerD (cs.take ((j + 1) * 13)) (datL evDat (tl.take (j + 1))) = innerD (cs.take (j * 13)) (datL evDat (tl.take j)) ++ [⟨.slice A1 (tl.getD j zeroE).rows.length c1, 62, 10, (tl.getD j zeroE).rows.length, cellsR (tl.getD j zeroE).rows⟩] by
        rw [show (j + 1) * 13 = j * 13 + 13 by omega, List.take_add, hpk, show tl.take (j + 1) = tl.take j ++ [tl.getD j zeroE] by rw [List.take_add_one, List.getD_eq_getElem?_getD, List.getElem?_eq_getElem hlt]; rfl, datL_append, innerD_append _ _ _ _ (by rw [List.length_take, datL_length evDat_len, List.length_take, HCL.out]; omega)]
        congr 1)
      have HFJ := Lib.hid (HFS.out j hlt)
      have HLS := Lib.hid hls
      have HOW := Lib.hid hown
      have HSUB := Lib.hid hsub
      have HB := Lib.hid hbl
      have HR := Lib.hid hrng
      clear hls hown hsub hbl hrng hev hpk HFS HTK HAT HVO HHE HB1
      have hjn2 : (j : Int) < (tl.length : Int) := by omega
      generalize tl.getD j zeroE = r at *
      have hoc := ev_one r A1 r.rows.length c1
      go_upto_region 5 with ((with_reducible show wpList _ _ _ _ _ _); first | refine wpList_load_mid rfl 56 _ rfl b (j * 13) rfl (evVals r (.slice A1 r.rows.length c1)).toList _ HR.out hule rfl (by kernel_rfl) ?_ | refine wpList_store_row rfl 56 _ _ rfl wr.heap.size (evVals r (.slice A1 r.rows.length c1)) rfl rfl 56 _ (Blk.new wr wr.heap.size 56 #[.int .i64 0, .int .i64 0, .int .i64 0, .int .i64 0, .int .i64 0, .string ⟨#[]⟩, .int .i64 0, .int .i64 0, .int .i64 0, .int .i64 0, .int .i64 0, .int .i64 0, .slice none 0 0] rfl) (by kernel_rfl) rfl hoc ?_)
      refine wp_gen (fun W => Blk W wr.heap.size 56 (evVals r (.slice A1 r.rows.length c1)) ∧ Below wr.heap.size wr W) ⟨setRow_heap _ _ _ _ _ _ (Blk.new wr wr.heap.size 56 #[.int .i64 0, .int .i64 0, .int .i64 0, .int .i64 0, .int .i64 0, .string ⟨#[]⟩, .int .i64 0, .int .i64 0, .int .i64 0, .int .i64 0, .int .i64 0, .int .i64 0, .slice none 0 0] rfl), below_setRow' (below_oneL wr _) (Nat.le_refl _) _⟩ ?_
      rintro X ⟨hx, hbx⟩
      have c4 : X.cell? ⟨wr.heap.size, 4, none⟩ = some (.int .i64 r.op.kind) := hx.get 4
      have c12 : X.cell? ⟨wr.heap.size, 12, none⟩ = some (.slice A1 r.rows.length c1) := hx.get 12
      have HOX := Lib.hid (own_below HOW.out hbx)
      have HBX := Lib.hid (HB.out.trans (hbx.mono HB.out.size))
      clear hx hbx HR hoc HOW HB
      by_cases hk : r.op.kind = 3
      · have HF2 := Lib.hid (HFJ.out.trans (by rw [if_pos (decide_eq_true hk)]))
        have d1 : (r.op.kind == 3) = true := by rw [beq_iff_eq]; exact hk
        clear HFJ hk
        have HROW := Lib.hid (show World.ownsRow (X.alloc (.cells #[.slice A1 r.rows.length c1] 54)) W1.heap.size 54 1 _ ls.length us from own_below HOX.out (below_oneL X _))
        go_wp2_with (at_builtin; refine wpList_append_own_at _ rfl _ _ 44 rfl W1.heap.size 54 i1 (.slice none 0 0) 1 24 Try.underlying44 hi1 hy0 hy1 hy2 rfl (by decide) _ ls.length _ rfl HROW.out ⟨X.heap.size, 0, none⟩ 1 1 [.slice A1 r.rows.length c1] rfl ?qd1 ?qd2 ?qd3 ?qd4 ?qd5 ?qd6 ?_)
        case qd1 => rfl
        case qd2 => exact cell_one_new _ _ _
        case qd3 => first | rfl | (intro u hu; rw [List.mem_singleton.1 hu]; rfl)
        case qd4 => unfold maxLen; omega
        case qd5 => omega
        case qd6 => have := HBX.out.size; simp [go_sem]; omega
        intro v' w2 hown hgrow hnil hblk
        have HO2 := Lib.hid hown
        have HB2 := Lib.hid ((HBX.out.alloc HBX.out.size (.cells #[.slice A1 r.rows.length c1] 54)).grown hgrow (by have := HBX.out.size; simp [go_sem]; omega) (fun k hk => (World.ownsRow.lt HROW.out k hk).1))
        have HIN := Lib.hid (show inner 62 10 rowCells (us ++ [.slice A1 r.rows.length c1]) (ls ++ [r.rows]) = inner 62 10 rowCells us ls ++ [⟨.slice A1 r.rows.length c1, 62, 10, r.rows.length, cellsR r.rows⟩] from zipWith_snoc _ _ _ _ _ hul)
        clear hown hgrow hnil hblk HROW HOX HBX c12 c4
        go_wp2_with fail
        go_roundw
        case rel => exact ⟨j + 1, us ++ [.slice A1 r.rows.length c1], ls ++ [r.rows], by omega, by go_num, by rw [HLS.out, HF2.out, List.map_append]; rfl, (by simp; omega), (by simp; omega), by rw [List.length_append]; exact HO2.out, by rw [HIN.out, HSD.out]; exact HSUB.out.append (List.Sublist.refl _), HB2.out⟩
        case measure => simp [intOf]; omega
      · have HF2 := Lib.hid (HFJ.out.trans (by rw [if_neg (by simpa using hk), List.append_nil]))
        have d1 : (r.op.kind == 3) = false := by rw [beq_eq_false_iff_ne]; exact hk
        clear HFJ hk c12
        generalize r.op.kind = q at *
        go_wp2_with fail
        go_roundw
        case rel => exact ⟨j + 1, us, ls, by omega, by go_num, by rw [HLS.out, HF2.out], hul, by omega, HOX.out, by rw [HSD.out]; exact HSUB.out.trans (List.sublist_append_left _ _), HBX.out⟩
        case measure => simp [intOf]; omega
    · have hjn3 : j = tl.length := by omega
      have hltz : ¬ (j : Int) < (tl.length : Int) := by omega
      have HLS := Lib.hid hls
      have HOW := Lib.hid hown
      have HSUB := Lib.hid hsub
      have HB := Lib.hid hbl
      clear hls hown hsub hbl HFS HAT HVO
      go_wp2_with fail
      go_ret
      have hsub := HSUB.out
      rw [hjn3, HTK.out, List.take_of_length_le (by rw [HCL.out]; omega)] at hsub
      have hin := (HHE.out.tail.1.sub hsub).below HB.out
      have hls := HLS.out
      rw [hjn3, HTK.out, ← HTV.out] at hls
      subst hls
      have hjo := Heap.join hin (Heap.one (r := ⟨_, 54, 1, (reportsV s).length, us⟩) HOW.out) hle1 (fun r hr b hb => Nat.lt_of_lt_of_le (HHE.out.2 r (List.mem_cons_of_mem _ (hsub.subset hr)) b hb) (Nat.le_refl _))
      refine ⟨_, rfl, ⟨us, hul, HeapE.made ?_⟩, HB1.out.trans (HB.out.mono HB1.out.size)⟩
      have hp := List.pairwise_append.1 hjo.ap
      refine ⟨fun r hr => Rw.own_base (hjo.own r ?_) hle0, List.pairwise_cons.2 ⟨fun r hr => (hp.2.2 r hr _ (List.mem_singleton.2 rfl)).symm, hp.1⟩⟩
      rcases List.mem_cons.1 hr with rfl | h
      · exact List.mem_append_right _ (List.mem_singleton.2 rfl)
      · exact List.mem_append_left _ h
end Go.Proofs.Ytcfdnfckilpppaa

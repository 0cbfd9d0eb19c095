/-
  Chapter 12, the model's Reports.
-/
import Derived.Test.YtcfdnfckilpppaaTellM
import Derived.Test.YtcfdnfckilpppaaRepV
import Derived.Test.YtcfdnfckilpppaaAmongM
namespace Go.Proofs.Ytcfdnfckilpppaa
open Go.RowKit M
set_option linter.unusedVariables false
set_option linter.unusedSimpArgs false
theorem info_rowS : (Try.prog.info? 54).map (fun i => (i.zero, i.size, i.bytes)) = some (some (.slice none 0 0), 1, 24) := by kernel_rfl
/-- A call answers rows of rows picked out of a log of its own. -/
def MadePickR (w : World) (l : List (List R)) (e : Ending) (w' : World) : Prop := ∃ v, e = .returned v ∧ PickR w' w.heap.size w'.heap.size v l ∧ Below w.heap.size w w'
theorem tells_hl1 {s : S} (hs : SmallS s) : (tellsV s).length ≤ 1048576 := Nat.le_trans (List.length_filter_le _ _) hs.l
theorem own_getD {w : World} {B b off n cap m j : Nat} {t : TypeId} {ps : List Value} {u : Value} (ho : w.ownsRow B t 13 (.slice (some ⟨b, off, none⟩) n cap) m ps) (hj : j < m * 13) (hc : w.cell? ⟨b, off + j, none⟩ = some u) : ps.getD j undef = u := by
  rcases ho.2 with ⟨e, h0⟩ | ⟨g, cap', cur, e, _⟩
  · cases e
  · injection e with e1 e2 e3
    injection e1 with e1
    injection e1 with e4 e5
    subst e4
    subst e5
    subst e2
    subst e3
    have h1 := World.ownsRow.cellAt ho j hj
    rw [Nat.zero_add] at hc
    rw [h1] at hc
    rw [List.getD_eq_getElem?_getD, hc]
    rfl
set_option maxRecDepth 100000 in
set_option maxHeartbeats 800000 in
theorem sReports_any (w : World) (B E : Nat) (s : S) (vc vj vt vl : Value) (h : WorP w B E s vc vj vt vl) (hs : SmallS s) : Calls Try.prog 19 #[.agg (worVals s vc vj vt vl)] w (MadePickR w (reportsV s)) := by
  obtain ⟨i1, hi1, hy0, hy1, hy2⟩ := info_parts info_rowS
  have hulw := Try.underlying34
  have HLG := Lib.hid (fun W (hb : Below w.heap.size w W) => sTells_any W B E s vc vj vt vl (h.below hb) hs)
  have HTLL := (tells_hl1 hs)
  clear h hs
  have HFS := Lib.hid (fun j (hj : j < (tellsV s).length) => filter_take_snoc (fun e : M.E => decide (e.op.kind = 3)) zeroE (tellsV s) j hj)
  have HTK := Lib.hid (List.take_length (l := tellsV s))
  have HTV := Lib.hid (show reportsV s = ((tellsV s).filter fun e => decide (e.op.kind = 3)).map M.E.rows from rfl)
  generalize tellsV s = tl at *
  go_enter Try.func19, Try.ntmps19
  go_upto_region 1 with fail
  refine wp_gen (fun W => Blk W w.heap.size 34 (worVals s vc vj vt vl) ∧ Below w.heap.size w W) ⟨Blk.new w _ _ _ rfl, below_oneL w _⟩ ?_
  rintro W ⟨h0, hb0⟩
  have H0 := Lib.hid (h0.alloc (.cells #[] 54))
  have HB0 := Lib.hid (hb0.alloc hb0.size (.cells #[] 54))
  have HC := Lib.hid (HLG.out _ HB0.out)
  have hsw := hb0.size
  clear h0 hb0 HLG
  have HOUT := Lib.hid (show (W.alloc (.cells #[] 54)).ownsRow w.heap.size 54 1 (.slice (some ⟨W.heap.size, 0, none⟩) 0 0) 0 [] from World.ownsRow_made W #[] 0 hsw (Nat.zero_le _) rfl)
  go_wp2_with ((with_reducible show wpList _ _ _ _ _ _); refine wpList_load_row rfl 34 _ rfl w.heap.size rfl 34 (worVals s vc vj vt vl) (0, 0) _ H0.out hulw rfl (by kernel_rfl) ?_)
  refine HC.out.mono ?_
  rintro e W1 ⟨v, rfl, ⟨log, js, vlg, cs, htl, hjs, hcs, hhe⟩, hb1⟩
  have htn : tl.length = js.length := by rw [htl, List.length_map]
  have hvo : W1.ownsRow (W.alloc (.cells #[] 54)).heap.size 56 13 v js.length (picked 13 cs js) := hhe.1.own _ List.mem_cons_self
  obtain ⟨Av, cv, rfl⟩ := Rw.slice (show (⟨v, 56, 13, js.length, picked 13 cs js⟩ : Rw).own W1 (W.alloc (.cells #[] 54)).heap.size from hvo)
  have hsa : (W.alloc (.cells #[] 54)).heap.size = W.heap.size + 1 := by simp [go_sem]
  have HH := Lib.hid (show Heap W1 w.heap.size (⟨.slice (some ⟨W.heap.size, 0, none⟩) 0 0, 54, 1, ([] : List Nat).length, ([] : List Nat).map (rowCell (picked 13 cs js))⟩ :: ⟨(.slice Av js.length cv), 56, 13, js.length, picked 13 cs js⟩ :: ⟨vlg, 56, 13, log.length, cs⟩ :: innerD cs (datL evDat log)) from Heap.join (Heap.one (r := ⟨.slice (some ⟨W.heap.size, 0, none⟩) 0 0, 54, 1, 0, []⟩) (own_below HOUT.out hb1)) hhe.1 (by omega) (fun r hr b hb => by rw [List.mem_singleton.1 hr] at hb; simp [Value.ownBlock] at hb; omega))
  have HB1 := Lib.hid (HB0.out.trans (hb1.mono HB0.out.size))
  have HCS := Lib.hid hcs
  have HJS := Lib.hid hjs
  have HTLE := Lib.hid htl
  clear hcs hhe hb1 hvo HB0 HOUT HC H0 hsa hjs htl
  go_wp2_with fail
  go_loopw [3, 5] (fun o i wr => ∃ (j : Nat) (ks : List Nat), j ≤ js.length ∧ i = .int .i64 j ∧ ks.map (fun k => (log.getD (js.getD k 0) zeroE).rows) = ((tl.take j).filter (fun e => decide (e.op.kind = 3))).map M.E.rows ∧ (∀ k ∈ ks, k < js.length) ∧ ks.length ≤ j ∧ Heap wr w.heap.size (⟨o, 54, 1, ks.length, ks.map (rowCell (picked 13 cs js))⟩ :: ⟨(.slice Av js.length cv), 56, 13, js.length, picked 13 cs js⟩ :: ⟨vlg, 56, 13, log.length, cs⟩ :: innerD cs (datL evDat log)) ∧ Below w.heap.size w wr) (fun _ i _ => js.length - (intOf i).toNat)
  case atStart => exact ⟨0, [], Nat.zero_le _, rfl, rfl, (fun k hk => by cases hk), Nat.le_refl _, HH.out, HB1.out⟩
  case round =>
    obtain ⟨j, ks, hj, rfl, hks, hkl, hkn, hh, hbl⟩ := hrel
    clear HH HB1
    by_cases hlt : j < js.length
    · have hpe : PickE wr w.heap.size wr.heap.size (.slice Av js.length cv) tl := ⟨log, js, vlg, cs, HTLE.out, HJS.out, HCS.out, HeapE.made ⟨fun r hr => hh.own r (List.mem_cons_of_mem _ hr), (List.pairwise_cons.1 hh.ap).2⟩⟩
      have hvo : wr.ownsRow w.heap.size 56 13 (.slice Av js.length cv) js.length (picked 13 cs js) := hh.own _ (List.mem_cons_of_mem _ List.mem_cons_self)
      obtain ⟨b, off, cp, vrows, hA, hc1, hc2, hbb, hrng, hev⟩ := argEv_at hpe.arg j (by omega)
      rw [htn] at hA hc1
      have hA0 := hA
      injection hA with hA1 hA2 hA3
      subst hA1
      subst hA3
      clear hA2 hA0 hpe
      obtain ⟨A1, c1, rfl⟩ : ∃ A1 c1, vrows = .slice A1 (tl.getD j zeroE).rows.length c1 := by obtain ⟨A1, c1, e, _⟩ := hev; exact ⟨A1, c1, e⟩
      have c12 : wr.cell? ⟨b, off + (j * 13 + 12), none⟩ = some (.slice A1 (tl.getD j zeroE).rows.length c1) := by rw [← Nat.add_assoc]; exact hrng 12 _ rfl
      have HPK := Lib.hid (own_getD hvo (by omega) c12)
      rw [← Nat.add_assoc] at c12
      have c4 : wr.cell? ⟨b, off + j * 13 + 4, none⟩ = some (.int .i64 (tl.getD j zeroE).op.kind) := hrng 4 _ rfl
      have hge : tl.getD j zeroE = log.getD (js.getD j 0) zeroE := by rw [HTLE.out, List.getD_eq_getElem?_getD, List.getElem?_map, List.getElem?_eq_getElem hlt, List.getD_eq_getElem?_getD (l := js), List.getElem?_eq_getElem hlt]; rfl
      have HFJ := Lib.hid (HFS.out j (by omega))
      have HGE := Lib.hid (show (ks ++ [j]).map (fun k => (log.getD (js.getD k 0) zeroE).rows) = ks.map (fun k => (log.getD (js.getD k 0) zeroE).rows) ++ [(tl.getD j zeroE).rows] by rw [hge]; simp)
      have HUS := Lib.hid (show (ks ++ [j]).map (rowCell (picked 13 cs js)) = ks.map (rowCell (picked 13 cs js)) ++ [.slice A1 (tl.getD j zeroE).rows.length c1] by rw [List.map_append, ← HPK.out]; rfl)
      have HKS := Lib.hid hks
      have HKL := Lib.hid hkl
      have HH := Lib.hid hh
      have HB := Lib.hid hbl
      clear hks hkl hh hbl hrng hev hvo HPK HFS HTK hge
      have hjn2 : (j : Int) < (js.length : Int) := by omega
      by_cases hk : (tl.getD j zeroE).op.kind = 3
      · have HF2 := Lib.hid (HFJ.out.trans (by rw [if_pos (decide_eq_true hk)]))
        have d1 : ((tl.getD j zeroE).op.kind == 3) = true := by rw [beq_iff_eq]; exact hk
        clear HFJ hk
        generalize tl.getD j zeroE = r at *
        have HROW := Lib.hid (show World.ownsRow (wr.alloc (.cells #[.slice A1 r.rows.length c1] 54)) w.heap.size 54 1 _ ks.length (ks.map (rowCell (picked 13 cs js))) from own_below (HH.out.own _ List.mem_cons_self) (below_oneL wr _))
        go_wp2_with (at_builtin; refine wpList_append_own_at _ rfl _ _ 44 rfl w.heap.size 54 i1 (.slice none 0 0) 1 24 Try.underlying44 hi1 hy0 hy1 hy2 rfl (by decide) _ ks.length _ rfl HROW.out ⟨wr.heap.size, 0, none⟩ 1 1 [.slice A1 r.rows.length c1] rfl ?qd1 ?qd2 ?qd3 ?qd4 ?qd5 ?qd6 ?_)
        case qd3 => first | rfl | (intro u hu; rw [List.mem_singleton.1 hu]; rfl)
        case qd4 => unfold maxLen; omega
        case qd5 => omega
        case qd6 => have := HB.out.size; simp [go_sem]; omega
        intro v' w2 hown hgrow hnil hblk
        have HP2 := Lib.hid (Heap.turn (A := []) (r' := ⟨v', 54, 1, ks.length + 1, ks.map (rowCell (picked 13 cs js)) ++ [Value.slice A1 r.rows.length c1]⟩) (HH.out.below (below_oneL wr (.cells #[.slice A1 r.rows.length c1] 54))) hgrow hown (by rcases hblk with h | h; exact .inl h; exact .inr (fun k hk => by have e := Option.some.inj (h.symm.trans hk); have e2 : (wr.alloc (.cells #[.slice A1 r.rows.length c1] 54)).heap.size = wr.heap.size + 1 := (by simp [go_sem]); omega)))
        have HB2 := Lib.hid ((HB.out.alloc HB.out.size (.cells #[.slice A1 r.rows.length c1] 54)).grown hgrow (by have := HB.out.size; simp [go_sem]; omega) (fun k hk => (World.ownsRow.lt HROW.out k hk).1))
        clear hown hgrow hnil hblk HROW HH HB c12 c4
        go_wp2_with fail
        go_roundw
        case rel => exact ⟨j + 1, ks ++ [j], by omega, by go_num, by rw [HGE.out, HKS.out, HF2.out, List.map_append]; rfl, (fun k hk => by rcases List.mem_append.1 hk with h | h; exact HKL.out k h; rw [List.mem_singleton.1 h]; exact hlt), (by simp; omega), by rw [HUS.out, List.length_append]; exact HP2.out, HB2.out⟩
        case measure => simp [intOf]; omega
      · have HF2 := Lib.hid (HFJ.out.trans (by rw [if_neg (by simpa using hk), List.append_nil]))
        have d1 : ((tl.getD j zeroE).op.kind == 3) = false := by rw [beq_eq_false_iff_ne]; exact hk
        clear HFJ hk HUS HGE c12
        generalize (tl.getD j zeroE).op.kind = q at *
        go_wp2_with fail
        go_roundw
        case rel => exact ⟨j + 1, ks, by omega, by go_num, by rw [HKS.out, HF2.out], HKL.out, by omega, HH.out, HB.out⟩
        case measure => simp [intOf]; omega
    · have hjn3 : j = tl.length := by omega
      have hltz : ¬ (j : Int) < (js.length : Int) := by omega
      have HKS := Lib.hid hks
      have HKL := Lib.hid hkl
      have HH := Lib.hid hh
      have HB := Lib.hid hbl
      clear hks hkl hh hbl HFS
      go_wp2_with fail
      go_ret
      refine ⟨_, rfl, ⟨log, js, vlg, cs, _, ks, HJS.out, HCS.out, HKL.out, ?_, HeapE.made HH.out⟩, HB.out⟩
      rw [HTV.out, HKS.out, hjn3, HTK.out]
end Go.Proofs.Ytcfdnfckilpppaa

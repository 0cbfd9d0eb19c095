/-
  Chapter 12, the model's Tells.
-/
import Derived.Test.YtcfdnfckilpppaaTellV
import Derived.Test.YtcfdnfckilpppaaTame
import Derived.Test.YtcfdnfckilpppaaClR
namespace Go.Proofs.Ytcfdnfckilpppaa
open Go.RowKit M
set_option linter.unusedVariables false
set_option linter.unusedSimpArgs false
/-- A call answers events picked out of a log of its own. -/
def MadePick (w : World) (l : List M.E) (e : Ending) (w' : World) : Prop := ∃ v, e = .returned v ∧ PickE w' w.heap.size w'.heap.size v l ∧ Below w.heap.size w w'
theorem take_range {cs us : List Value} {i n : Nat} (hu : us.length = n) (h : ∀ k, k < n → cs[i + k]? = us[k]?) : (cs.drop i).take n = us := by
  apply List.ext_getElem?
  intro k
  rw [List.getElem?_take]
  by_cases hk : k < n
  · rw [if_pos hk, List.getElem?_drop, h k hk]
  · rw [if_neg hk, List.getElem?_eq_none (by omega)]
set_option maxRecDepth 100000 in
set_option maxHeartbeats 800000 in
theorem sTells_any (w : World) (B E : Nat) (s : S) (vc vj vt vl : Value) (h : WorP w B E s vc vj vt vl) (hs : SmallS s) : Calls Try.prog 7 #[.agg (worVals s vc vj vt vl)] w (MadePick w (tellsV s)) := by
  obtain ⟨i0, hi0, hz0, hz1, hz2⟩ := info_parts info_Ev
  obtain ⟨_, _, _, _, _, _, Bl, El, _, ha⟩ := h
  have HLG := Lib.hid (fun W (hb : Below w.heap.size w W) => sLog_any W Bl El vl s.log (OwnY.below ha.l hb) hs.l hs.lk)
  have HLL := hs.l
  have HFS := Lib.hid (fun j (hj : j < s.log.length) => filter_take_snoc (fun e : M.E => decide (e.kind = 3)) zeroE s.log j hj)
  have HTK := Lib.hid (List.take_length (l := s.log))
  clear ha hs
  have HTV := Lib.hid (show tellsV s = s.log.filter (fun e => decide (e.kind = 3)) from rfl)
  go_enter Try.func7, Try.ntmps7
  go_upto_region 1 with fail
  refine wp_gen (fun W => Blk W w.heap.size 34 (worVals s vc vj vt vl) ∧ Below w.heap.size w W) ⟨Blk.new w _ _ _ rfl, below_oneL w _⟩ ?_
  rintro W ⟨h0, hb0⟩
  have p3 : (W.alloc (.cells #[] 56)).cell? ⟨w.heap.size, 3, none⟩ = some vl := Lib.cell?_alloc_some _ (h0.get 3)
  have HB0 := Lib.hid (hb0.alloc hb0.size (.cells #[] 56))
  have HC := Lib.hid (HLG.out _ HB0.out)
  have hsw := hb0.size
  clear h0 hb0 HLG
  have HOUT := Lib.hid (show (W.alloc (.cells #[] 56)).ownsRow w.heap.size 56 13 (.slice (some ⟨W.heap.size, 0, none⟩) 0 0) 0 [] from World.ownsRow_made W #[] 0 hsw (Nat.zero_le _) rfl)
  go_wp2_with fail
  refine HC.out.mono ?_
  rintro e W1 ⟨v, rfl, ⟨cs, hcs, hhe⟩, hb1⟩
  have hvo : W1.ownsRow (W.alloc (.cells #[] 56)).heap.size 56 13 v s.log.length cs := hhe.1.own _ List.mem_cons_self
  have hcl : cs.length = s.log.length * 13 := hvo.1
  obtain ⟨Av, cv, rfl⟩ := Rw.slice (show (⟨v, 56, 13, s.log.length, cs⟩ : Rw).own W1 (W.alloc (.cells #[] 56)).heap.size from hvo)
  have hsa : (W.alloc (.cells #[] 56)).heap.size = W.heap.size + 1 := by simp [go_sem]
  have HH := Lib.hid (show Heap W1 w.heap.size (⟨.slice (some ⟨W.heap.size, 0, none⟩) 0 0, 56, 13, ([] : List Nat).length, picked 13 cs ([] : List Nat)⟩ :: ⟨(.slice Av s.log.length cv), 56, 13, s.log.length, cs⟩ :: innerD cs (datL evDat s.log)) from Heap.join (Heap.one (r := ⟨.slice (some ⟨W.heap.size, 0, none⟩) 0 0, 56, 13, 0, []⟩) (own_below HOUT.out hb1)) hhe.1 (by omega) (fun r hr b hb => by rw [List.mem_singleton.1 hr] at hb; simp [Value.ownBlock] at hb; omega))
  have HB1 := Lib.hid (HB0.out.trans (hb1.mono HB0.out.size))
  have HCS := Lib.hid hcs
  clear hcs hhe hb1 hvo HB0 HOUT HC p3 hsa
  have HCL := Lib.hid hcl
  clear hcl
  go_wp2_with fail
  go_loopw [3, 5] (fun o i wr => ∃ (j : Nat) (js : List Nat), j ≤ s.log.length ∧ i = .int .i64 j ∧ js.map (fun k => s.log.getD k zeroE) = (s.log.take j).filter (fun e => decide (e.kind = 3)) ∧ (∀ k ∈ js, k < s.log.length) ∧ js.length ≤ j ∧ Heap wr w.heap.size (⟨o, 56, 13, js.length, picked 13 cs js⟩ :: ⟨(.slice Av s.log.length cv), 56, 13, s.log.length, cs⟩ :: innerD cs (datL evDat s.log)) ∧ Below w.heap.size w wr) (fun _ i _ => s.log.length - (intOf i).toNat)
  case atStart => exact ⟨0, [], Nat.zero_le _, rfl, rfl, (fun k hk => by cases hk), Nat.le_refl _, HH.out, HB1.out⟩
  case round =>
    obtain ⟨j, js, hj, rfl, hjs, hjl, hjn, hh, hbl⟩ := hrel
    clear HH HB1
    by_cases hlt : j < s.log.length
    · have hoy : OwnY 56 13 evDat wr w.heap.size wr.heap.size (.slice Av s.log.length cv) s.log := ⟨cs, HCS.out, HeapE.made ⟨fun r hr => hh.own r (List.mem_cons_of_mem _ hr), (List.pairwise_cons.1 hh.ap).2⟩⟩
      obtain ⟨b, cp, vrows, hA, hbb, hrng, hown⟩ := ownEv_at hoy j hlt
      have hvo : wr.ownsRow w.heap.size 56 13 (.slice Av s.log.length cv) s.log.length cs := hh.own _ (List.mem_cons_of_mem _ List.mem_cons_self)
      rw [hA] at hvo
      have hpk : (cs.drop (j * 13)).take 13 = (evVals (s.log.getD j zeroE) vrows).toList := take_range rfl (fun k hk => by
        rw [← World.ownsRow.cellAt hvo (j * 13 + k) (by omega)]
        have e1 := List.getElem?_eq_getElem (show k < (evVals (s.log.getD j zeroE) vrows).toList.length from hk)
        rw [e1]
        exact hrng k _ e1)
      injection hA with hA1 hA2 hA3
      subst hA1
      subst hA3
      clear hA2 hoy hvo
      obtain ⟨A1, c1, rfl⟩ := Rw.slice (show (⟨vrows, 62, 10, (s.log.getD j zeroE).rows.length, cellsR (s.log.getD j zeroE).rows⟩ : Rw).own wr w.heap.size from hown)
      have HFJ := Lib.hid (HFS.out j hlt)
      have HPK := Lib.hid ((picked_snoc 13 cs js j).trans (by rw [hpk]))
      have HGE := Lib.hid (show (js ++ [j]).map (fun k => s.log.getD k zeroE) = js.map (fun k => s.log.getD k zeroE) ++ [s.log.getD j zeroE] by simp)
      have HJS := Lib.hid hjs
      have HJL := Lib.hid hjl
      have HH := Lib.hid hh
      have HB := Lib.hid hbl
      have HR := Lib.hid hrng
      clear hjs hjl hh hbl hown hpk HFS HTK
      have c0 : wr.cell? ⟨b, j * 13, none⟩ = some (.int .i64 (s.log.getD j zeroE).kind) := HR.out 0 _ rfl
      have hjn2 : (j : Int) < (s.log.length : Int) := by omega
      by_cases hk : (s.log.getD j zeroE).kind = 3
      · have HF2 := Lib.hid (HFJ.out.trans (by rw [if_pos (decide_eq_true hk)]))
        have d1 : ((s.log.getD j zeroE).kind == 3) = true := by rw [beq_iff_eq]; exact hk
        clear HFJ hk
        generalize s.log.getD j zeroE = r at *
        have hone := ev_one r A1 r.rows.length c1
        have hs13 : (evVals r (.slice A1 r.rows.length c1)).size = 13 := rfl
        have hule := Try.underlying56
        have HROW := Lib.hid (show World.ownsRow (wr.alloc (.cells (evVals r (.slice A1 r.rows.length c1)) 56)) w.heap.size 56 13 _ js.length (picked 13 cs js) from own_below (HH.out.own _ List.mem_cons_self) (below_oneL wr _))
        go_wp2_with ((with_reducible show wpList _ _ _ _ _ _); first | refine wpList_load_mid rfl 56 _ rfl b (j * 13) rfl (evVals r (.slice A1 r.rows.length c1)).toList _ HR.out hule rfl (by kernel_rfl) ?_ | (at_builtin; rw [fold_rec _ _ _ (by rfl) (by rfl)]; refine wpList_append_own_at _ rfl _ _ 29 rfl w.heap.size 56 i0 (.agg #[.int .i64 0, .int .i64 0, .int .i64 0, .int .i64 0, .int .i64 0, .string ⟨#[]⟩, .int .i64 0, .int .i64 0, .int .i64 0, .int .i64 0, .int .i64 0, .int .i64 0, .slice none 0 0]) 13 128 Try.underlying29 hi0 hz0 hz1 hz2 rfl (by decide) _ js.length _ rfl HROW.out ⟨wr.heap.size, 0, none⟩ 1 1 (evVals r (.slice A1 r.rows.length c1)).toList rfl ?qd1 ?qd2 ?qd3 ?qd4 ?qd5 ?qd6 ?_))
        case qd3 => intro u hu; exact Array.all_eq_true_iff_forall_mem.1 hone u (by simpa using hu)
        case qd4 => unfold maxLen; omega
        case qd5 => omega
        case qd6 => have := HB.out.size; simp [go_sem]; omega
        intro v' w2 hown hgrow hnil hblk
        have HP2 := Lib.hid (Heap.turn (A := []) (r' := ⟨v', 56, 13, js.length + 1, picked 13 cs js ++ (evVals r (.slice A1 r.rows.length c1)).toList⟩) (HH.out.below (below_oneL wr (.cells (evVals r (.slice A1 r.rows.length c1)) 56))) hgrow hown (by rcases hblk with h | h; exact .inl h; exact .inr (fun k hk => by have e := Option.some.inj (h.symm.trans hk); have e2 : (wr.alloc (.cells (evVals r (.slice A1 r.rows.length c1)) 56)).heap.size = wr.heap.size + 1 := (by simp [go_sem]); omega)))
        have HB2 := Lib.hid ((HB.out.alloc HB.out.size (.cells (evVals r (.slice A1 r.rows.length c1)) 56)).grown hgrow (by have := HB.out.size; simp [go_sem]; omega) (fun k hk => (World.ownsRow.lt HROW.out k hk).1))
        clear hown hgrow hnil hblk HROW HH HB HR hone c0
        go_wp2_with fail
        go_roundw
        case rel => exact ⟨j + 1, js ++ [j], by omega, by go_num, by rw [HGE.out, HJS.out, HF2.out], (fun k hk => by rcases List.mem_append.1 hk with h | h; exact HJL.out k h; rw [List.mem_singleton.1 h]; exact hlt), (by simp; omega), by rw [HPK.out, List.length_append]; exact HP2.out, HB2.out⟩
        case measure => simp [intOf]; omega
      · have HF2 := Lib.hid (HFJ.out.trans (by rw [if_neg (by simpa using hk), List.append_nil]))
        have d1 : ((s.log.getD j zeroE).kind == 3) = false := by rw [beq_eq_false_iff_ne]; exact hk
        clear HFJ hk HPK HGE HR
        generalize (s.log.getD j zeroE).kind = q at *
        go_wp2_with fail
        go_roundw
        case rel => exact ⟨j + 1, js, by omega, by go_num, by rw [HJS.out, HF2.out], HJL.out, by omega, HH.out, HB.out⟩
        case measure => simp [intOf]; omega
    · have hjn3 : j = s.log.length := by omega
      have hltz : ¬ (j : Int) < (s.log.length : Int) := by omega
      have HJS := Lib.hid hjs
      have HJL := Lib.hid hjl
      have HH := Lib.hid hh
      have HB := Lib.hid hbl
      clear hjs hjl hh hbl HFS
      go_wp2_with fail
      go_ret
      refine ⟨_, rfl, ⟨s.log, js, (.slice Av s.log.length cv), cs, ?_, HJL.out, HCS.out, HeapE.made HH.out⟩, HB.out⟩
      rw [HTV.out, HJS.out, hjn3, HTK.out]
end Go.Proofs.Ytcfdnfckilpppaa

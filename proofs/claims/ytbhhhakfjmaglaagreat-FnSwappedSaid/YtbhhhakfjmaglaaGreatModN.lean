/-
  Chapter 13, the program: a key registered in a model behind a pointer (registerIn).
-/
import Derived.Test.YtbhhhakfjmaglaaGreatModF
import Derived.Test.YtbhhhakfjmaglaaGreatZc
import Derived.Test.YtbhhhakfjmaglaaGreatModX
import Derived.Test.YtbhhhakfjmaglaaGreatModK
namespace Go.Proofs.YtbhhhakfjmaglaaGreat
open Go.RowKit M
set_option linter.unusedVariables false
set_option linter.unusedSimpArgs false
/-- What a call may touch that changes the model in block gp: that block, the model's rows, new blocks. -/
def TouchM (n gp : Nat) (vk vr : Value) (i : Nat) : Prop := i = gp ∨ MoBl vk vr i ∨ n ≤ i
theorem Blk.chg {S : Nat → Prop} {w w' : World} {g : Nat} {t : TypeId} {cs : Array Value} (h : Blk w g t cs) (hc : Chg S w w') (hn : ¬ S g) : Blk w' g t cs := (hc.block g h.lt hn).trans h
/-- A call hands back a number and leaves the model m in block gp, its rows the call's or the caller's own. -/
def InM (w : World) (B gp : Nat) (p : Mo × Int) (vk vr : Value) (e : Ending) (w' : World) : Prop := ∃ uk ur, e = .returned (.int .i64 p.2) ∧ MoOwn w' B p.1 uk ur ∧ Blk w' gp 27 #[uk, ur] ∧ Chg (TouchM w.heap.size gp vk vr) w w'
theorem ret_num {x y : Int} (h : x = y) : Ending.returned (.int .i64 x) = .returned (.int .i64 y) := by rw [h]
theorem own_some {w : World} {B F n : Nat} {t : TypeId} {v : Value} {cs : List Value} (h : w.ownsRow B t F v n cs) (hn : 0 < n) : ∃ g cap, v = .slice (some ⟨g, 0, none⟩) n cap := by
  rcases h.2 with ⟨_, h0⟩ | ⟨g, cap, cur, e, _⟩
  · omega
  · exact ⟨g, cap, e⟩
set_option maxRecDepth 100000 in
set_option maxHeartbeats 2000000 in
theorem iRegIn_any (w : World) (B gp : Nat) (m : Mo) (o : O) (vk vr : Value) (h : MoOwn w B m vk vr) (hp : Blk w gp 27 #[vk, vr]) (hB : B ≤ w.heap.size) (hok : keysOkV m.keys = true) (hl4 : m.keys.length ≤ 4) : Calls Tryz.prog 37 #[.pointer (some ⟨gp, 0, none⟩), .string o.key, .int .i64 o.what] w (InM w B gp (regV m o) vk vr) := by
  have CK := fun W (hb : Below w.heap.size w W) => Lib.hid (iModelKind_any W m vk vr o.key (h.below hb).win)
  have HV := Lib.hid (show regV m o = if mKindV o.key m.keys = o.what then (m, 0) else if mKindV o.key m.keys ≠ 0 then (m, 4) else if m.keys.length = 4 then (m, 3) else (⟨insK ⟨o.key, o.what⟩ m.keys, m.rows⟩, 0) from rfl)
  have hu := Tryz.underlying27
  generalize regV m o = rg at *
  generalize mKindV o.key m.keys = mk at *
  obtain ⟨okind, okey, owhat, oval⟩ := o
  have KP := Lib.hid (keyPut_prog hok (⟨okey, owhat⟩ : KR))
  have HO0 := Lib.hid h
  have HP0 := Lib.hid hp
  have NG := Lib.hid (own_ne h.keys hp (by decide))
  have NR := Lib.hid (own_ne h.rows hp (by decide))
  have hgp := hp.lt
  obtain ⟨Ak, ck, rfl⟩ := OwnF.shape h.keys
  obtain ⟨Ar, nr, cr, rfl⟩ := own_slice h.rows
  clear h hp hok
  simp only at *
  go_enter Tryz.func37, Tryz.ntmps37
  go_wp2_with ((with_reducible show wpList _ _ _ _ _ _); refine wpList_load_row rfl 27 _ rfl (gp) rfl 27 #[.slice Ak m.keys.length ck, .slice Ar nr cr] (0, 0) _ HP0.out hu rfl (by kernel_rfl) ?_)
  refine (CK _ (Below.refl _ _)).out.mono ?_
  rintro e w1 ⟨rfl, hb⟩
  have HO := Lib.hid (HO0.out.below hb)
  have HP := Lib.hid (HP0.out.below hb)
  have HC := Lib.hid (Chg.of_below (S := TouchM w.heap.size gp (.slice Ak m.keys.length ck) (.slice Ar nr cr)) hb)
  have HSZ := Lib.hid hb.size
  clear hb CK HO0 HP0
  by_cases c1 : mk = owhat
  · have d1 : (mk == owhat) = true := by rw [beq_iff_eq]; exact c1
    have HR := Lib.hid (HV.out.trans (if_pos c1))
    clear c1 HV KP
    go_wp2_with fail
    go_ret
    exact ⟨_, _, ret_num (show (0 : Int) = rg.2 from by rw [HR.out]), by rw [HR.out]; exact HO.out, HP.out, HC.out⟩
  have d1 : (mk == owhat) = false := by rw [beq_eq_false_iff_ne]; exact c1
  replace HV := Lib.hid (HV.out.trans (if_neg c1))
  clear c1
  by_cases c2 : mk ≠ 0
  · have d2 : (mk != 0) = true := by rw [bne_iff_ne]; exact c2
    have HR := Lib.hid (HV.out.trans (if_pos c2))
    clear c2 HV KP
    go_wp2_with fail
    go_ret
    exact ⟨_, _, ret_num (show (4 : Int) = rg.2 from by rw [HR.out]), by rw [HR.out]; exact HO.out, HP.out, HC.out⟩
  have d2 : (mk != 0) = false := by
    have e : mk = 0 := Classical.byContradiction c2
    rw [e]; rfl
  replace HV := Lib.hid (HV.out.trans (if_neg c2))
  clear c2
  have p0 := HP.out.get 0
  simp at p0
  by_cases c3 : m.keys.length = 4
  · have d3 : ((m.keys.length : Int) == 4) = true := by rw [beq_iff_eq]; omega
    have HR := Lib.hid (HV.out.trans (if_pos c3))
    clear c3 HV KP
    go_wp2_with fail
    go_ret
    exact ⟨_, _, ret_num (show (3 : Int) = rg.2 from by rw [HR.out]), by rw [HR.out]; exact HO.out, HP.out, HC.out⟩
  have d3 : ((m.keys.length : Int) == 4) = false := by rw [beq_eq_false_iff_ne]; omega
  have HR := Lib.hid (HV.out.trans (if_neg c3))
  have HL := Lib.hid (show m.keys.length ≤ 3 by omega)
  clear c3 HV hl4
  go_upto_region 9 with (at_builtin; refine wpK_append _ rfl _ _ rfl B (.slice Ak m.keys.length ck) m.keys HO.out.keys rfl (⟨okey, owhat⟩ : KR) _ rfl rfl ?e1 ?e2 ?_; rotate_left 2; intro uk w2 hown hgr hbk; have HOK := Lib.hid hown; have HG := Lib.hid hgr; have HBK := Lib.hid hbk; clear hown hgr hbk; obtain ⟨gu, cu, rfl⟩ : ∃ g c, uk = .slice (some ⟨g, 0, none⟩) (m.keys.length + 1) c := (by obtain ⟨g, c, e⟩ := own_some HOK.out (by simp); exact ⟨g, c, by rw [e, List.length_append]; rfl⟩); have HP2 := Lib.hid ((HP.out.alloc (.cells #[.string okey, .int .i64 owhat] 40)).grown HG.out (by rcases NG.out with e | e; rw [e]; simp; exact e)); have q0 := HP2.out.get 0; have q0f := HP2.out.frz 0; simp at q0)
  case e1 => have := HL.out; omega
  case e2 => exact Nat.le_trans hB HSZ.out
  have HAP := Lib.hid (show Ap (.slice Ar nr cr) (.slice (some ⟨gu, 0, none⟩) (m.keys.length + 1) cu) from by
    rcases HBK.out with e | e
    · rcases Ap.symm HO.out.ap with k | k
      · exact .inl k
      · exact .inr (fun q => k (q.trans e))
    · exact .inr (fun q => by rw [e] at q; have := HO.out.rows.lt _ q; omega))
  have HRW := Lib.hid (show OwnR w2 B (.slice Ar nr cr) m.rows from (HO.out.rows.alloc (.cells #[.string okey, .int .i64 owhat] 40)).kept HG.out (Ap.symm HO.out.ap))
  have HC2 := Lib.hid ((HC.out.trans (Chg.of_below (below_oneM w1 (.cells #[.string okey, .int .i64 owhat] 40)))).trans (Chg.of_grown HG.out fun i hi => .inr (.inl (.inl hi))))
  have HN := Lib.hid (show gu ≠ gp from by
    rcases own_ne HOK.out HP2.out (by decide) with e | e
    · cases e
    · exact fun q => e (by rw [q]; rfl))
  have HT := Lib.hid (show TouchM w.heap.size gp (.slice Ak m.keys.length ck) (.slice Ar nr cr) gu from by
    rcases HBK.out with e | e
    · exact .inr (.inl (.inl e.symm))
    · have e : gu = w1.heap.size + 1 := Option.some.inj e
      exact .inr (.inr (by have := HSZ.out; omega)))
  refine wp_gen (fun X => Blk X gp 27 #[.slice (some ⟨gu, 0, none⟩) (m.keys.length + 1) cu, .slice Ar nr cr] ∧ OwnK X B (.slice (some ⟨gu, 0, none⟩) (m.keys.length + 1) cu) (m.keys ++ [⟨okey, owhat⟩]) ∧ OwnR X B (.slice Ar nr cr) m.rows ∧ Chg (TouchM w.heap.size gp (.slice Ak m.keys.length ck) (.slice Ar nr cr)) w X) ⟨HP2.out.store 0 (.slice (some ⟨gu, 0, none⟩) (m.keys.length + 1) cu), OwnF.kept HOK.out (row_store HP2.out 0 _) (.inr (fun e => HN.out (Option.some.inj e))), HRW.out.kept (row_store HP2.out 0 _) NR.out, HC2.out.trans (Chg.of_grown (row_store HP2.out 0 _) fun i hi => .inl (Option.some.inj hi).symm)⟩ ?_
  rintro X ⟨g0, hk, hr, hc⟩
  have p0 := g0.get 0
  simp at p0
  have HP := Lib.hid g0
  have HRW := Lib.hid hr
  have HC := Lib.hid hc
  have HLN := Lib.hid (show m.keys.length + 1 ≤ 12 from by have := HL.out; omega)
  have HS := Lib.hid (iSortK_any X B gu (m.keys.length + 1) cu (m.keys ++ [⟨okey, owhat⟩]) hk (by simp) HLN.out)
  clear g0 hk hr hc HC2 HG HOK HBK HP2 q0 q0f HO NG HL
  go_wp2_with fail
  refine HS.out.mono ?_
  rintro e X2 ⟨rfl, ⟨l, hl, ho⟩, hg⟩
  have HE := Lib.hid (map_kr_inj (hl.trans KP.out))
  have HO := Lib.hid ho
  have HR2 := Lib.hid (HRW.out.kept hg HAP.out)
  have HP2 := Lib.hid (HP.out.grown hg (fun e => HN.out (Option.some.inj e)))
  have HC2 := Lib.hid (HC.out.trans (Chg.of_grown hg fun i hi => by have e := Option.some.inj hi; rw [← e]; exact HT.out))
  clear hl ho hg HS KP p0
  go_wp2_with fail
  go_ret
  exact ⟨_, _, ret_num (show (0 : Int) = rg.2 from by rw [HR.out]), by rw [HR.out]; exact ⟨by rw [← HE.out]; exact HO.out, HR2.out, Ap.symm HAP.out⟩, HP2.out, HC2.out⟩
end Go.Proofs.YtbhhhakfjmaglaaGreat

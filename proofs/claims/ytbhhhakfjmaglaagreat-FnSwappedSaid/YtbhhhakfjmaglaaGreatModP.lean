/-
  Chapter 13: the program's modelKeysOk and ModelOk.
-/
import Derived.Test.YtbhhhakfjmaglaaGreatModO
import Derived.Test.YtbhhhakfjmaglaaGreatZc
import Derived.Test.YtbhhhakfjmaglaaGreatRpI
import Derived.Test.YtbhhhakfjmaglaaGreatZb
namespace Go.Proofs.YtbhhhakfjmaglaaGreat
open Go.RowKit M
set_option linter.unusedVariables false
set_option linter.unusedSimpArgs false
theorem le_flip2 (x y : ByteArray) : strLe x y = !(Go.Op.bytesLess y.toList x.toList) := by
  rw [strLe_lt]; rfl
set_option maxRecDepth 100000 in
set_option maxHeartbeats 8000000 in
theorem iKeysOk_any (w : World) (v : Value) (l : List KR) (h : RecsArg 2 krCells zeroKR w v l) (hf : ∀ j, j < l.length → (l.getD j zeroKR).Fit) : Calls Tryz.prog 48 #[v] w (Gives (.bool (decide (l.length ≤ 4) && keysOkV l)) w) := by
  obtain ⟨A, cap, rfl, h1, h2, h3⟩ := h
  unfold maxLen at h2
  by_cases h4 : l.length ≤ 4
  case neg =>
    have HV := Lib.hid (show (decide (l.length ≤ 4) && keysOkV l) = false by rw [decide_eq_false h4]; rfl)
    generalize (decide (l.length ≤ 4) && keysOkV l) = res at *
    generalize l.length = n at *
    have i4 : (4 : Int) < (n : Int) := by omega
    clear h3 hf h4
    go_enter Tryz.func48, Tryz.ntmps48
    go_wp2_with fail
    go_ret
    exact ⟨ret_bool HV.out.symm, Below.refl _ _⟩
  have HV := Lib.hid (show (decide (l.length ≤ 4) && keysOkV l) = keysOkV l by rw [decide_eq_true h4]; rfl)
  have HFK := Lib.hid hf
  have HALLK := Lib.hid (fun (q : KGood l l.length) => HV.out.trans (keysOk_all q))
  have HBADK := Lib.hid (fun j (hj : j < l.length) (hb : kBad l j = true) => HV.out.trans (keysOk_bad hj hb))
  clear HV
  generalize (decide (l.length ≤ 4) && keysOkV l) = res at *
  generalize hn : l.length = n at *
  have i4 : ¬ (4 : Int) < (n : Int) := by omega
  have H4 := Lib.hid h3
  clear h3 hf hn h4
  go_enter Tryz.func48, Tryz.ntmps48
  go_wp2_with fail
  go_loopw [10] (fun i wr => ∃ j : Nat, j ≤ n ∧ i = .int .i64 j ∧ KGood l j ∧ Below w.heap.size w wr) (fun i _ => n - (intOf i).toNat)
  case atStart => exact ⟨0, Nat.zero_le _, rfl, KGood.zero _, Below.refl _ _⟩
  case round =>
    obtain ⟨j, hj, rfl, hg, hbl⟩ := hrel
    have HG := Lib.hid hg
    clear hg
    by_cases hlt : j < n
    · obtain ⟨b, off, rfl, hb, hc⟩ := H4.out (by omega)
      have HT := fun W => Lib.hid (iTagged_any W (l.getD j zeroKR).key (l.getD j zeroKR).kind (HFK.out j hlt).key (HFK.out j hlt).kind.1 (HFK.out j hlt).kind.2)
      have HBD := Lib.hid (HBADK.out j hlt)
      have HNX := Lib.hid (fun q => HG.out.next (j := j) q)
      have HY := Lib.hid (fun i (hi : i < n) => hc i hi)
      obtain ⟨x0, x1⟩ := atKRow ((hc j hlt).below hb hbl)
      have HB := Lib.hid hbl
      have hjn : (j : Int) < (n : Int) := by omega
      clear hc hbl
      by_cases ht : tagV (l.getD j zeroKR).key (l.getD j zeroKR).kind = 0
      · have HB1 := Lib.hid (HBD.out (kBad_tag ht))
        rw [ht] at HT
        clear ht HBD
        clear HY HNX
        generalize l.getD j zeroKR = r at *
        obtain ⟨key, kind⟩ := r
        simp only at *
        go_upto_region 6 with fail
        refine wp_gen (fun W => Blk W wr.heap.size 40 #[.string key, .int .i64 kind] ∧ Below w.heap.size w W ∧ wr.heap.size < W.heap.size) ⟨Blk.new wr _ _ _ rfl, HB.out.alloc HB.out.size _, by simp [go_sem]⟩ ?_
        obtain ⟨g4, hg4⟩ : ∃ g4, wr.heap.size = g4 := ⟨_, rfl⟩
        rw [hg4]
        clear x0 x1 HB hg4 wr
        rintro wr ⟨hg, hbl, hz⟩
        have HS := Lib.hid (show Blk wr.drew g4 40 #[.string key, .int .i64 kind] ∧ Below w.heap.size w wr.drew from ⟨hg.below (below_drew _ _), hbl.trans (below_drew _ _)⟩)
        clear hg hbl hz
        have HCL := (⟨HS.out⟩ : HoldsC (fun W => Blk W g4 40 #[.string key, .int .i64 kind] ∧ Below w.heap.size w W) _)
        have hall : ∀ p : Prop, (∀ W, HoldsC (fun W => Blk W g4 40 #[.string key, .int .i64 kind] ∧ Below w.heap.size w W) W → p) ↔ p := fun p => ⟨fun h => h _ HCL, fun h _ _ => h⟩
        refine wp_region_wq (C := HoldsC (fun W => Blk W g4 40 #[.string key, .int .i64 kind] ∧ Below w.heap.size w W)) (by kernel_rfl) (by kernel_rfl) HCL ?_
        repeat (refine WQ.step (fun K hK => ?_); go_simp; first | (refine hK _ ?_; clear hK K) | (apply Exists.intro; refine ⟨fun W hW => ?_, hK _ ?_⟩; (focus (first | (go_at_call 86; (with_reducible refine Calls.mono (Hid.out (HT _)) ?_); rintro e w' ⟨rfl, hb'⟩; exact ⟨rfl, ⟨hW.out.1.below hb', hW.out.2.trans (hb'.mono hW.out.2.size)⟩⟩) | exact rfl | (obtain ⟨hG, hB⟩ := hW.out; have p0 := hG.get 0; have p1 := hG.get 1; simp at p0 p1; go_simp; rfl))); clear hK K))
        refine WQ.nil ?_
        intro W hW
        obtain ⟨hG, hB⟩ := hW.out; have p0 := hG.get 0; have p1 := hG.get 1; simp at p0 p1
        clear hall HCL
        have HB := Lib.hid hB
        clear hW hB hG HS p0 p1
        go_wp2_with fail
        go_ret
        exact ⟨ret_bool HB1.out.symm, HB.out⟩
      · have hteq : (tagV (l.getD j zeroKR).key (l.getD j zeroKR).kind == 0) = false := by rw [beq_eq_false_iff_ne]; exact ht
        by_cases hj0 : j = 0
        · have HB1 := Lib.hid (kBad_first hj0 ht)
          have i5 : decide (0 < j) = false := by rw [decide_eq_false_iff_not]; omega
          generalize tagV (l.getD j zeroKR).key (l.getD j zeroKR).kind = tg at *
          clear ht HBD hj0
          clear HY
          generalize l.getD j zeroKR = r at *
          obtain ⟨key, kind⟩ := r
          simp only at *
          go_upto_region 6 with fail
          refine wp_gen (fun W => Blk W wr.heap.size 40 #[.string key, .int .i64 kind] ∧ Below w.heap.size w W ∧ wr.heap.size < W.heap.size) ⟨Blk.new wr _ _ _ rfl, HB.out.alloc HB.out.size _, by simp [go_sem]⟩ ?_
          obtain ⟨g4, hg4⟩ : ∃ g4, wr.heap.size = g4 := ⟨_, rfl⟩
          rw [hg4]
          clear x0 x1 HB hg4 wr
          rintro wr ⟨hg, hbl, hz⟩
          have HS := Lib.hid (show Blk wr.drew g4 40 #[.string key, .int .i64 kind] ∧ Below w.heap.size w wr.drew from ⟨hg.below (below_drew _ _), hbl.trans (below_drew _ _)⟩)
          clear hg hbl hz
          have HCL := (⟨HS.out⟩ : HoldsC (fun W => Blk W g4 40 #[.string key, .int .i64 kind] ∧ Below w.heap.size w W) _)
          have hall : ∀ p : Prop, (∀ W, HoldsC (fun W => Blk W g4 40 #[.string key, .int .i64 kind] ∧ Below w.heap.size w W) W → p) ↔ p := fun p => ⟨fun h => h _ HCL, fun h _ _ => h⟩
          refine wp_region_wq (C := HoldsC (fun W => Blk W g4 40 #[.string key, .int .i64 kind] ∧ Below w.heap.size w W)) (by kernel_rfl) (by kernel_rfl) HCL ?_
          repeat (refine WQ.step (fun K hK => ?_); go_simp; first | (refine hK _ ?_; clear hK K) | (apply Exists.intro; refine ⟨fun W hW => ?_, hK _ ?_⟩; (focus (first | (go_at_call 86; (with_reducible refine Calls.mono (Hid.out (HT _)) ?_); rintro e w' ⟨rfl, hb'⟩; exact ⟨rfl, ⟨hW.out.1.below hb', hW.out.2.trans (hb'.mono hW.out.2.size)⟩⟩) | exact rfl | (obtain ⟨hG, hB⟩ := hW.out; have p0 := hG.get 0; have p1 := hG.get 1; simp at p0 p1; go_simp; rfl))); clear hK K))
          refine WQ.nil ?_
          intro W hW
          obtain ⟨hG, hB⟩ := hW.out; have p0 := hG.get 0; have p1 := hG.get 1; simp at p0 p1
          clear hall HCL
          have HB := Lib.hid hB
          clear hW hB hG HS p0 p1
          go_wp2_with fail
          go_roundw
          case rel => exact ⟨j + 1, by omega, by go_num, HNX.out HB1.out, HB.out⟩
          case measure => simp [intOf]; omega
        · obtain ⟨m', rfl⟩ : ∃ m', j = m' + 1 := ⟨j - 1, by omega⟩
          clear hj0
          have hbn := kBad_next ht
          generalize tagV (l.getD (m' + 1) zeroKR).key (l.getD (m' + 1) zeroKR).kind = tg at *
          cases hle : strLe (l.getD (m' + 1) zeroKR).key (l.getD m' zeroKR).key with
          | true =>
            have HB1 := Lib.hid (HBD.out (hbn.trans hle))
            clear hbn ht HBD
            have HZ := Lib.hid (HY.out m' (by omega))
            have i1 : (m' : Int) + 1 < (n : Int) := by omega
            have i2 : (m' : Int) < (n : Int) := by omega
            have i3 : ((m' : Int) + 1).toNat = m' + 1 := by omega
            have i5 : (0 : Int) ≤ (m' : Int) + 1 := by omega
            have i6 : (m' : Int) ≤ 9223372036854775807 := by omega
            have i7 : IntKind.i64.wrap (m' : Int) = (m' : Int) := by rw [IntKind.wrap_i64]; omega
            have i9 : decide ((0 : Int) < (m' : Int) + 1) = true := by rw [decide_eq_true_eq]; omega
            clear HY HNX
            generalize l.getD (m' + 1) zeroKR = r at *
            generalize l.getD m' zeroKR = rp at *
            obtain ⟨pk, pkind⟩ := rp
            obtain ⟨key, kind⟩ := r
            simp only at *
            rw [le_flip2] at hle
            go_upto_region 6 with fail
            refine wp_gen (fun W => Blk W wr.heap.size 40 #[.string key, .int .i64 kind] ∧ Below w.heap.size w W ∧ wr.heap.size < W.heap.size) ⟨Blk.new wr _ _ _ rfl, HB.out.alloc HB.out.size _, by simp [go_sem]⟩ ?_
            obtain ⟨g4, hg4⟩ : ∃ g4, wr.heap.size = g4 := ⟨_, rfl⟩
            rw [hg4]
            clear x0 x1 HB hg4 wr
            rintro wr ⟨hg, hbl, hz⟩
            have HS := Lib.hid (show Blk wr.drew g4 40 #[.string key, .int .i64 kind] ∧ Below w.heap.size w wr.drew from ⟨hg.below (below_drew _ _), hbl.trans (below_drew _ _)⟩)
            clear hg hbl hz
            have HCL := (⟨HS.out⟩ : HoldsC (fun W => Blk W g4 40 #[.string key, .int .i64 kind] ∧ Below w.heap.size w W) _)
            have hall : ∀ p : Prop, (∀ W, HoldsC (fun W => Blk W g4 40 #[.string key, .int .i64 kind] ∧ Below w.heap.size w W) W → p) ↔ p := fun p => ⟨fun h => h _ HCL, fun h _ _ => h⟩
            refine wp_region_wq (C := HoldsC (fun W => Blk W g4 40 #[.string key, .int .i64 kind] ∧ Below w.heap.size w W)) (by kernel_rfl) (by kernel_rfl) HCL ?_
            repeat (refine WQ.step (fun K hK => ?_); go_simp; first | (refine hK _ ?_; clear hK K) | (apply Exists.intro; refine ⟨fun W hW => ?_, hK _ ?_⟩; (focus (first | (go_at_call 86; (with_reducible refine Calls.mono (Hid.out (HT _)) ?_); rintro e w' ⟨rfl, hb'⟩; exact ⟨rfl, ⟨hW.out.1.below hb', hW.out.2.trans (hb'.mono hW.out.2.size)⟩⟩) | exact rfl | (obtain ⟨hG, hB⟩ := hW.out; have p0 := hG.get 0; have p1 := hG.get 1; simp at p0 p1; obtain ⟨y0, y1⟩ := atKRow (HZ.out.below hb hB); simp only at *; go_simp; rfl))); clear hK K))
            refine WQ.nil ?_
            intro W hW
            obtain ⟨hG, hB⟩ := hW.out; have p0 := hG.get 0; have p1 := hG.get 1; simp at p0 p1; obtain ⟨y0, y1⟩ := atKRow (HZ.out.below hb hB); simp only at *
            clear hall HCL
            have HB := Lib.hid hB
            clear hW hB hG HS p0 p1 y0 y1
            go_wp2_with fail
            go_ret
            exact ⟨ret_bool HB1.out.symm, HB.out⟩
          | false =>
            have HB1 := Lib.hid (hbn.trans hle)
            clear hbn ht HBD
            have HZ := Lib.hid (HY.out m' (by omega))
            have i1 : (m' : Int) + 1 < (n : Int) := by omega
            have i2 : (m' : Int) < (n : Int) := by omega
            have i3 : ((m' : Int) + 1).toNat = m' + 1 := by omega
            have i5 : (0 : Int) ≤ (m' : Int) + 1 := by omega
            have i6 : (m' : Int) ≤ 9223372036854775807 := by omega
            have i7 : IntKind.i64.wrap (m' : Int) = (m' : Int) := by rw [IntKind.wrap_i64]; omega
            have i9 : decide ((0 : Int) < (m' : Int) + 1) = true := by rw [decide_eq_true_eq]; omega
            clear HY
            generalize l.getD (m' + 1) zeroKR = r at *
            generalize l.getD m' zeroKR = rp at *
            obtain ⟨pk, pkind⟩ := rp
            obtain ⟨key, kind⟩ := r
            simp only at *
            rw [le_flip2] at hle
            go_upto_region 6 with fail
            refine wp_gen (fun W => Blk W wr.heap.size 40 #[.string key, .int .i64 kind] ∧ Below w.heap.size w W ∧ wr.heap.size < W.heap.size) ⟨Blk.new wr _ _ _ rfl, HB.out.alloc HB.out.size _, by simp [go_sem]⟩ ?_
            obtain ⟨g4, hg4⟩ : ∃ g4, wr.heap.size = g4 := ⟨_, rfl⟩
            rw [hg4]
            clear x0 x1 HB hg4 wr
            rintro wr ⟨hg, hbl, hz⟩
            have HS := Lib.hid (show Blk wr.drew g4 40 #[.string key, .int .i64 kind] ∧ Below w.heap.size w wr.drew from ⟨hg.below (below_drew _ _), hbl.trans (below_drew _ _)⟩)
            clear hg hbl hz
            have HCL := (⟨HS.out⟩ : HoldsC (fun W => Blk W g4 40 #[.string key, .int .i64 kind] ∧ Below w.heap.size w W) _)
            have hall : ∀ p : Prop, (∀ W, HoldsC (fun W => Blk W g4 40 #[.string key, .int .i64 kind] ∧ Below w.heap.size w W) W → p) ↔ p := fun p => ⟨fun h => h _ HCL, fun h _ _ => h⟩
            refine wp_region_wq (C := HoldsC (fun W => Blk W g4 40 #[.string key, .int .i64 kind] ∧ Below w.heap.size w W)) (by kernel_rfl) (by kernel_rfl) HCL ?_
            repeat (refine WQ.step (fun K hK => ?_); go_simp; first | (refine hK _ ?_; clear hK K) | (apply Exists.intro; refine ⟨fun W hW => ?_, hK _ ?_⟩; (focus (first | (go_at_call 86; (with_reducible refine Calls.mono (Hid.out (HT _)) ?_); rintro e w' ⟨rfl, hb'⟩; exact ⟨rfl, ⟨hW.out.1.below hb', hW.out.2.trans (hb'.mono hW.out.2.size)⟩⟩) | exact rfl | (obtain ⟨hG, hB⟩ := hW.out; have p0 := hG.get 0; have p1 := hG.get 1; simp at p0 p1; obtain ⟨y0, y1⟩ := atKRow (HZ.out.below hb hB); simp only at *; go_simp; rfl))); clear hK K))
            refine WQ.nil ?_
            intro W hW
            obtain ⟨hG, hB⟩ := hW.out; have p0 := hG.get 0; have p1 := hG.get 1; simp at p0 p1; obtain ⟨y0, y1⟩ := atKRow (HZ.out.below hb hB); simp only at *
            clear hall HCL
            have HB := Lib.hid hB
            clear hW hB hG HS p0 p1 y0 y1
            go_wp2_with fail
            go_roundw
            case rel => exact ⟨m' + 2, by omega, by go_num, HNX.out HB1.out, HB.out⟩
            case measure => simp [intOf]; omega
    · have hjn : j = n := by omega
      subst hjn
      have HB := Lib.hid hbl
      have HR := Lib.hid (HALLK.out HG.out)
      clear hbl
      go_wp2_with fail
      go_ret
      exact ⟨ret_bool HR.out.symm, HB.out⟩
theorem modelOk_k4 {m : Mo} (h : (decide (m.keys.length ≤ 4) && keysOkV m.keys) = false) : modelOkV m = false := by
  unfold modelOkV
  rw [← Bool.and_assoc, h]; rfl
theorem modelOk_rep {m : Mo} (h : reportOkV m.rows = false) : modelOkV m = false := by unfold modelOkV; rw [h]; simp
theorem modelOk_yes {m : Mo} (h : (decide (m.keys.length ≤ 4) && keysOkV m.keys) = true) (k : reportOkV m.rows = true) (r : kindsIn m = true) : modelOkV m = true := by
  unfold modelOkV
  rw [← Bool.and_assoc, h, k, r]; rfl
set_option maxRecDepth 100000 in
set_option maxHeartbeats 8000000 in
theorem iModelOk_any (w : World) (m : Mo) (vk vr : Value) (h : MoIn w m vk vr) (hf : m.Fit) : Calls Tryz.prog 14 #[.agg #[vk, vr]] w (Gives (.bool (modelOkV m)) w) := by
  have CK := fun W (h : MoIn W m vk vr) => Lib.hid (iKeysOk_any W vk m.keys h.keys hf.keys)
  have CR := fun W (h : MoIn W m vk vr) => Lib.hid (iReportOk_any W vr m.rows h.rows hf.rows)
  have CM := fun W s (h : MoIn W m vk vr) => Lib.hid (iModelKind_any W m vk vr s h)
  have HIN := Lib.hid h
  have K1 := Lib.hid (fun q => modelOk_k4 (m := m) q)
  have K2 := Lib.hid (fun q => modelOk_rep (m := m) q)
  have HALLR := Lib.hid (fun h1 h2 (q : RGood m m.rows.length) => modelOk_yes h1 h2 (kindsIn_all q))
  have HBADR := Lib.hid (fun j (hj : j < m.rows.length) hb => modelOk_rbad (kindsIn_bad (m := m) hj hb))
  obtain ⟨A', n', cap', rfl⟩ : ∃ A n c, vr = .slice A n c := by obtain ⟨A, c, e, _⟩ := h.rows; exact ⟨A, _, c, e⟩
  have hn' : m.rows.length = n' := by obtain ⟨A, c, e, _⟩ := h.rows; injection e with _ e2; exact e2.symm
  obtain ⟨A9, c9, e9, _, k2, k3⟩ := h.rows
  injection e9 with e1 e2 e3
  subst e1; subst e3
  clear e2
  unfold maxLen at k2
  generalize m.rows.length = nn at *
  subst hn'
  have K4 := Lib.hid k3
  clear k3 h hf
  generalize modelOkV m = res at *
  generalize (decide (m.keys.length ≤ 4) && keysOkV m.keys) = kv at *
  generalize reportOkV m.rows = rv at *
  go_enter Tryz.func14, Tryz.ntmps14
  go_upto_region 1 with fail
  refine wp_gen (fun W => Blk W w.heap.size 27 #[vk, .slice A' nn cap'] ∧ Below w.heap.size w W) ⟨Blk.new w _ _ _ rfl, (Below.refl _ _).alloc (Nat.le_refl _) _⟩ ?_
  rintro W ⟨g0, hb⟩
  have G0 := Lib.hid g0; have HB := Lib.hid hb
  have p0 := g0.get 0
  simp at p0
  clear g0 hb
  go_wp2_with fail
  refine (CK _ (HIN.out.below HB.out)).out.mono ?_
  rintro e w1 ⟨rfl, hb⟩
  replace HB := Lib.hid (HB.out.trans (hb.mono HB.out.size))
  have g0 := G0.out.below hb
  replace G0 := Lib.hid g0
  clear p0
  have p1 := g0.get 1
  simp at p1
  clear hb g0 CK
  cases kv with
  | false =>
    have HR := Lib.hid (K1.out (by trivial))
    clear K1 K2 HALLR HBADR
    go_wp2_with fail
    go_ret
    exact ⟨ret_bool HR.out.symm, HB.out⟩
  | true =>
    go_wp2_with fail
    refine (CR _ (HIN.out.below HB.out)).out.mono ?_
    rintro e w2 ⟨rfl, hb⟩
    replace HB := Lib.hid (HB.out.trans (hb.mono HB.out.size))
    have g0 := G0.out.below hb
    replace G0 := Lib.hid g0
    clear p1
    have p1 := g0.get 1
    simp at p1
    clear hb g0 CR
    cases rv with
    | false =>
      have HR := Lib.hid (K2.out (by trivial))
      clear K1 K2 HALLR HBADR
      go_wp2_with fail
      go_ret
      exact ⟨ret_bool HR.out.symm, HB.out⟩
    | true =>
      have HYES := Lib.hid (HALLR.out (by trivial) (by trivial))
      clear K1 K2 HALLR
      go_wp2_with fail
      go_loopw [18] (fun i wr => ∃ j : Nat, j ≤ nn ∧ i = .int .i64 j ∧ RGood m j ∧ Blk wr w.heap.size 27 #[vk, .slice A' nn cap'] ∧ Below w.heap.size w wr) (fun i _ => nn - (intOf i).toNat)
      case atStart => exact ⟨0, Nat.zero_le _, rfl, RGood.zero _, G0.out, HB.out⟩
      case round =>
        obtain ⟨j, hj, rfl, hg, g0, hbl⟩ := hrel
        clear p1 G0 HB
        have HG := Lib.hid hg
        have G0 := Lib.hid g0
        clear hg g0
        by_cases hlt : j < nn
        · obtain ⟨b, off, rfl, hb, hc⟩ := K4.out (by omega)
          have HBD := Lib.hid (HBADR.out j hlt)
          have HNX := Lib.hid (fun k => HG.out.next (j := j) k)
          have hx := ((hc j hlt).below hb hbl).get
          have CM2 := fun W (h : MoIn W m vk (.slice (some ⟨b, off, none⟩) nn cap')) => CM W (m.rows.getD j zeroR).key h
          have HB := Lib.hid hbl
          have hjn : (j : Int) < (nn : Int) := by omega
          clear hc hbl CM
          by_cases hk : mKindV (m.rows.getD j zeroR).key m.keys = (m.rows.getD j zeroR).kind
          · have HB1 := Lib.hid (HNX.out hk)
            rw [hk] at CM2
            clear hk HBD HNX
            generalize m.rows.getD j zeroR = r at *
            obtain ⟨key, kind, sum, st, last, n9, mn, mx, total, dropped⟩ := r
            obtain ⟨x0, x1, x2, x3, x4, x5, x6, x7, x8, x9⟩ := hx
            simp only at *
            go_upto_region 6 with fail
            refine wp_gen (fun W => RowAt W wr.heap.size ⟨key, kind, sum, st, last, n9, mn, mx, total, dropped⟩ ∧ Blk W w.heap.size 27 #[vk, .slice (some ⟨b, off, none⟩) nn cap'] ∧ Below w.heap.size w W) ⟨rowAt_new wr _ ⟨key, kind, sum, st, last, n9, mn, mx, total, dropped⟩ rfl, G0.out.alloc _, HB.out.alloc HB.out.size _⟩ ?_
            obtain ⟨g4, hg4⟩ : ∃ g4, wr.heap.size = g4 := ⟨_, rfl⟩
            rw [hg4]
            clear x0 x1 x2 x3 x4 x5 x6 x7 x8 x9 HB G0 hg4 wr
            rintro wr ⟨hr, hg, hbl⟩
            have HS := Lib.hid (show Blk wr.drew w.heap.size 27 #[vk, .slice (some ⟨b, off, none⟩) nn cap'] ∧ RowAt wr.drew g4 ⟨key, kind, sum, st, last, n9, mn, mx, total, dropped⟩ ∧ Below w.heap.size w wr.drew from ⟨hg.below (below_drew _ _), hr.below (below_drew _ _), hbl.trans (below_drew _ _)⟩)
            clear hg hbl hr
            have HCL := (⟨HS.out⟩ : HoldsC (fun W => Blk W w.heap.size 27 #[vk, .slice (some ⟨b, off, none⟩) nn cap'] ∧ RowAt W g4 ⟨key, kind, sum, st, last, n9, mn, mx, total, dropped⟩ ∧ Below w.heap.size w W) _)
            have hall : ∀ p : Prop, (∀ W, HoldsC (fun W => Blk W w.heap.size 27 #[vk, .slice (some ⟨b, off, none⟩) nn cap'] ∧ RowAt W g4 ⟨key, kind, sum, st, last, n9, mn, mx, total, dropped⟩ ∧ Below w.heap.size w W) W → p) ↔ p := fun p => ⟨fun h => h _ HCL, fun h _ _ => h⟩
            refine wp_region_wq (C := HoldsC (fun W => Blk W w.heap.size 27 #[vk, .slice (some ⟨b, off, none⟩) nn cap'] ∧ RowAt W g4 ⟨key, kind, sum, st, last, n9, mn, mx, total, dropped⟩ ∧ Below w.heap.size w W)) (by kernel_rfl) (by kernel_rfl) HCL ?_
            repeat (refine WQ.step (fun K hK => ?_); go_simp; first | (refine hK _ ?_; clear hK K) | (apply Exists.intro; refine ⟨fun W hW => ?_, hK _ ?_⟩; (focus (first | (go_at_call 15; (with_reducible refine Calls.mono (Hid.out (CM2 _ (HIN.out.below hW.out.2.2))) ?_); rintro e w' ⟨rfl, hb'⟩; exact ⟨rfl, ⟨hW.out.1.below hb', hW.out.2.1.below hb', hW.out.2.2.trans (hb'.mono hW.out.2.2.size)⟩⟩) | exact rfl | (obtain ⟨hG, hR, hB⟩ := hW.out; have p0 := hG.get 0; have p1 := hG.get 1; simp at p0 p1; obtain ⟨y0, y1, y2, y3, y4, y5, y6, y7, y8, y9, yf⟩ := hR.get; try simp only at *; go_simp; rfl))); clear hK K))
            refine WQ.nil ?_
            intro W hW
            obtain ⟨hG, hR, hB⟩ := hW.out; have p0 := hG.get 0; have p1 := hG.get 1; simp at p0 p1; obtain ⟨y0, y1, y2, y3, y4, y5, y6, y7, y8, y9, yf⟩ := hR.get; try simp only at *
            clear hall HCL
            have HB := Lib.hid hB
            have G0 := Lib.hid hG
            clear hW hB hG HS p0 p1 hR yf y0 y1 y2 y3 y4 y5 y6 y7 y8 y9
            go_wp2_with fail
            go_roundw
            case rel => exact ⟨j + 1, by omega, by go_num, HB1.out, G0.out, HB.out⟩
            case measure => simp [intOf]; omega
          · have HB1 := Lib.hid (HBD.out hk)
            generalize mKindV (m.rows.getD j zeroR).key m.keys = mk at *
            have hne : (mk == (m.rows.getD j zeroR).kind) = false := by rw [beq_eq_false_iff_ne]; exact hk
            clear HBD HNX hk
            generalize m.rows.getD j zeroR = r at *
            obtain ⟨key, kind, sum, st, last, n9, mn, mx, total, dropped⟩ := r
            obtain ⟨x0, x1, x2, x3, x4, x5, x6, x7, x8, x9⟩ := hx
            simp only at *
            go_upto_region 6 with fail
            refine wp_gen (fun W => RowAt W wr.heap.size ⟨key, kind, sum, st, last, n9, mn, mx, total, dropped⟩ ∧ Blk W w.heap.size 27 #[vk, .slice (some ⟨b, off, none⟩) nn cap'] ∧ Below w.heap.size w W) ⟨rowAt_new wr _ ⟨key, kind, sum, st, last, n9, mn, mx, total, dropped⟩ rfl, G0.out.alloc _, HB.out.alloc HB.out.size _⟩ ?_
            obtain ⟨g4, hg4⟩ : ∃ g4, wr.heap.size = g4 := ⟨_, rfl⟩
            rw [hg4]
            clear x0 x1 x2 x3 x4 x5 x6 x7 x8 x9 HB G0 hg4 wr
            rintro wr ⟨hr, hg, hbl⟩
            have HS := Lib.hid (show Blk wr.drew w.heap.size 27 #[vk, .slice (some ⟨b, off, none⟩) nn cap'] ∧ RowAt wr.drew g4 ⟨key, kind, sum, st, last, n9, mn, mx, total, dropped⟩ ∧ Below w.heap.size w wr.drew from ⟨hg.below (below_drew _ _), hr.below (below_drew _ _), hbl.trans (below_drew _ _)⟩)
            clear hg hbl hr
            have HCL := (⟨HS.out⟩ : HoldsC (fun W => Blk W w.heap.size 27 #[vk, .slice (some ⟨b, off, none⟩) nn cap'] ∧ RowAt W g4 ⟨key, kind, sum, st, last, n9, mn, mx, total, dropped⟩ ∧ Below w.heap.size w W) _)
            have hall : ∀ p : Prop, (∀ W, HoldsC (fun W => Blk W w.heap.size 27 #[vk, .slice (some ⟨b, off, none⟩) nn cap'] ∧ RowAt W g4 ⟨key, kind, sum, st, last, n9, mn, mx, total, dropped⟩ ∧ Below w.heap.size w W) W → p) ↔ p := fun p => ⟨fun h => h _ HCL, fun h _ _ => h⟩
            refine wp_region_wq (C := HoldsC (fun W => Blk W w.heap.size 27 #[vk, .slice (some ⟨b, off, none⟩) nn cap'] ∧ RowAt W g4 ⟨key, kind, sum, st, last, n9, mn, mx, total, dropped⟩ ∧ Below w.heap.size w W)) (by kernel_rfl) (by kernel_rfl) HCL ?_
            repeat (refine WQ.step (fun K hK => ?_); go_simp; first | (refine hK _ ?_; clear hK K) | (apply Exists.intro; refine ⟨fun W hW => ?_, hK _ ?_⟩; (focus (first | (go_at_call 15; (with_reducible refine Calls.mono (Hid.out (CM2 _ (HIN.out.below hW.out.2.2))) ?_); rintro e w' ⟨rfl, hb'⟩; exact ⟨rfl, ⟨hW.out.1.below hb', hW.out.2.1.below hb', hW.out.2.2.trans (hb'.mono hW.out.2.2.size)⟩⟩) | exact rfl | (obtain ⟨hG, hR, hB⟩ := hW.out; have p0 := hG.get 0; have p1 := hG.get 1; simp at p0 p1; obtain ⟨y0, y1, y2, y3, y4, y5, y6, y7, y8, y9, yf⟩ := hR.get; try simp only at *; go_simp; rfl))); clear hK K))
            refine WQ.nil ?_
            intro W hW
            obtain ⟨hG, hR, hB⟩ := hW.out; have p0 := hG.get 0; have p1 := hG.get 1; simp at p0 p1; obtain ⟨y0, y1, y2, y3, y4, y5, y6, y7, y8, y9, yf⟩ := hR.get; try simp only at *
            clear hall HCL
            have HB := Lib.hid hB
            have G0 := Lib.hid hG
            clear hW hB hG HS p0 p1 hR yf y0 y1 y2 y3 y4 y5 y6 y7 y8 y9
            go_wp2_with fail
            go_ret
            exact ⟨ret_bool HB1.out.symm, HB.out⟩
        · have hjn : j = nn := by omega
          subst hjn
          have HB := Lib.hid hbl
          have HR := Lib.hid (HYES.out HG.out)
          clear hbl HG
          go_wp2_with fail
          go_ret
          exact ⟨ret_bool HR.out.symm, HB.out⟩
end Go.Proofs.YtbhhhakfjmaglaaGreat

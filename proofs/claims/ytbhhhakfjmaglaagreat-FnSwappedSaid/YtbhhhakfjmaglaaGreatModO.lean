/-
  Chapter 13: when a model is valid, the model's ModelOk.
-/
import Derived.Test.YtbhhhakfjmaglaaGreatZc
import Derived.Test.YtbhhhakfjmaglaaGreatZb
import Derived.Test.YtbhhhakfjmaglaaGreatZa
namespace Go.Proofs.YtbhhhakfjmaglaaGreat
open Go.RowKit M
set_option linter.unusedVariables false
set_option linter.unusedSimpArgs false
def KGood (l : List KR) (j : Nat) : Prop := ∀ m, m < j → kBad l m = false
theorem KGood.zero (l : List KR) : KGood l 0 := fun m h => absurd h (Nat.not_lt_zero _)
theorem KGood.next {l : List KR} {j : Nat} (h : KGood l j) (k : kBad l j = false) : KGood l (j + 1) := fun m hm => by
  by_cases e : m = j
  · subst e; exact k
  · exact h m (by omega)
theorem keysOk_bad {l : List KR} {j : Nat} (hj : j < l.length) (h : kBad l j = true) : keysOkV l = false := by
  unfold keysOkV
  rw [← Bool.not_eq_true, List.all_eq_true]
  intro k
  have := k j (List.mem_range.2 hj)
  rw [h] at this; cases this
theorem keysOk_all {l : List KR} (h : KGood l l.length) : keysOkV l = true := by
  unfold keysOkV
  rw [List.all_eq_true]
  intro i hi
  rw [h i (List.mem_range.1 hi)]; rfl
theorem kBad_tag {l : List KR} {j : Nat} (h : tagV (l.getD j zeroKR).key (l.getD j zeroKR).kind = 0) : kBad l j = true := by unfold kBad; rw [decide_eq_true h]; rfl
theorem kBad_first {l : List KR} {j : Nat} (hj : j = 0) (h : tagV (l.getD j zeroKR).key (l.getD j zeroKR).kind ≠ 0) : kBad l j = false := by unfold kBad; rw [decide_eq_false h]; subst hj; rfl
theorem kBad_next {l : List KR} {m : Nat} (h : tagV (l.getD (m + 1) zeroKR).key (l.getD (m + 1) zeroKR).kind ≠ 0) : kBad l (m + 1) = strLe (l.getD (m + 1) zeroKR).key (l.getD m zeroKR).key := by
  unfold kBad; rw [decide_eq_false h]; simp
def RGood (m : Mo) (j : Nat) : Prop := ∀ i, i < j → mKindV (m.rows.getD i zeroR).key m.keys = (m.rows.getD i zeroR).kind
theorem RGood.zero (m : Mo) : RGood m 0 := fun i h => absurd h (Nat.not_lt_zero _)
theorem RGood.next {m : Mo} {j : Nat} (h : RGood m j) (k : mKindV (m.rows.getD j zeroR).key m.keys = (m.rows.getD j zeroR).kind) : RGood m (j + 1) := fun i hi => by
  by_cases e : i = j
  · subst e; exact k
  · exact h i (by omega)
theorem kindsIn_bad {m : Mo} {j : Nat} (hj : j < m.rows.length) (h : mKindV (m.rows.getD j zeroR).key m.keys ≠ (m.rows.getD j zeroR).kind) : kindsIn m = false := by
  unfold kindsIn
  rw [← Bool.not_eq_true, List.all_eq_true]
  intro k
  have := k _ (List.getElem_mem hj)
  rw [List.getD_eq_getElem?_getD, List.getElem?_eq_getElem hj] at h
  exact h (of_decide_eq_true this)
theorem kindsIn_all {m : Mo} (h : RGood m m.rows.length) : kindsIn m = true := by
  unfold kindsIn
  rw [List.all_eq_true]
  intro x hx
  obtain ⟨i, hi, rfl⟩ := List.getElem_of_mem hx
  have := h i hi
  rw [List.getD_eq_getElem?_getD, List.getElem?_eq_getElem hi] at this
  exact decide_eq_true this
theorem modelOk_kbad {m : Mo} (h : keysOkV m.keys = false) : modelOkV m = false := by unfold modelOkV; rw [h]; simp
theorem modelOk_rbad {m : Mo} (h : kindsIn m = false) : modelOkV m = false := by unfold modelOkV; rw [h]; simp
theorem modelOk_rest {m : Mo} (h : keysOkV m.keys = true) (k : kindsIn m = true) : modelOkV m = (decide (m.keys.length ≤ 4) && reportOkV m.rows) := by unfold modelOkV; rw [h, k]; simp
set_option maxRecDepth 100000 in
set_option maxHeartbeats 8000000 in
theorem sModelOk_any (w : World) (m : Mo) (vk vr : Value) (h : MoIn w m vk vr) (hf : m.Fit) : Calls Tryz.prog 12 #[.agg #[vk, vr]] w (Gives (.bool (modelOkV m)) w) := by
  have CR := fun W (h : RowsArg W vr m.rows) => Lib.hid (sReportOk_any W vr m.rows h hf.rows.key)
  have CK := fun W s (h : MoIn W m vk vr) => Lib.hid (sModelKind_any W m vk vr s h)
  have HIN := Lib.hid h
  obtain ⟨A, cap, rfl, h1, h2, h3⟩ := h.keys
  obtain ⟨A', cap', rfl, k1, k2, k3⟩ := h.rows
  clear h
  unfold maxLen at h2 k2
  have HFK := Lib.hid hf.keys
  have HALLK := Lib.hid (fun (q : KGood m.keys m.keys.length) => keysOk_all q)
  have HALLR := Lib.hid (fun (q : RGood m m.rows.length) (q0 : KGood m.keys m.keys.length) => modelOk_rest (keysOk_all q0) (kindsIn_all q))
  have HBADK := Lib.hid (fun j (hj : j < m.keys.length) (hb : kBad m.keys j = true) => modelOk_kbad (keysOk_bad hj hb))
  have HBADR := Lib.hid (fun j (hj : j < m.rows.length) hb => modelOk_rbad (kindsIn_bad (m := m) hj hb))
  generalize hn : m.keys.length = n at *
  generalize hn' : m.rows.length = n' at *
  have H4 := Lib.hid h3
  have K4 := Lib.hid k3
  have HN := Lib.hid hn
  clear h3 k3 hf hn hn'
  generalize modelOkV m = res at *
  go_enter Tryz.func12, Tryz.ntmps12
  go_upto_region 1 with fail
  refine wp_gen (fun W => Blk W w.heap.size 27 #[.slice A n cap, .slice A' n' cap'] ∧ Below w.heap.size w W) ⟨Blk.new w _ _ _ rfl, (Below.refl _ _).alloc (Nat.le_refl _) _⟩ ?_
  rintro W ⟨g0, hb⟩
  have G0 := Lib.hid g0; have HB := Lib.hid hb
  have p0 := g0.get 0; have p1 := g0.get 1
  simp at p0 p1
  clear g0 hb
  go_wp2_with fail
  go_loopw [3] (fun i wr => ∃ j : Nat, j ≤ n ∧ i = .int .i64 j ∧ KGood m.keys j ∧ Blk wr w.heap.size 27 #[.slice A n cap, .slice A' n' cap'] ∧ Below w.heap.size w wr) (fun i _ => n - (intOf i).toNat)
  case atStart => exact ⟨0, Nat.zero_le _, rfl, KGood.zero _, G0.out, HB.out⟩
  case round =>
    obtain ⟨j, hj, rfl, hg, g0, hbl⟩ := hrel
    clear p0 p1 G0 HB
    have HG := Lib.hid hg
    have G0 := Lib.hid g0
    have p0 := g0.get 0; have p1 := g0.get 1
    simp at p0 p1
    clear hg g0
    by_cases hlt : j < n
    · obtain ⟨b, off, rfl, hb, hc⟩ := H4.out (by omega)
      have HT := fun W => Lib.hid (sTagged_any W (m.keys.getD j zeroKR).key (m.keys.getD j zeroKR).kind (HFK.out j hlt).key)
      have HBD := Lib.hid (HBADK.out j hlt)
      have HNX := Lib.hid (fun q => HG.out.next (j := j) q)
      have HX := Lib.hid (hc j hlt)
      have HY := Lib.hid (fun i (hi : i < n) => hc i hi)
      have HB := Lib.hid hbl
      have hjn : (j : Int) < (n : Int) := by omega
      clear hc hbl
      by_cases ht : tagV (m.keys.getD j zeroKR).key (m.keys.getD j zeroKR).kind = 0
      · have HB1 := Lib.hid (HBD.out (kBad_tag ht))
        rw [ht] at HT
        clear ht HBD
        have HS := Lib.hid (show Blk wr.drew w.heap.size 27 #[.slice (some ⟨b, off, none⟩) n cap, .slice A' n' cap'] ∧ Below w.heap.size w wr.drew from ⟨G0.out.below (below_drew _ _), HB.out.trans (below_drew _ _)⟩)
        clear G0 HB HY HNX
        generalize m.keys.getD j zeroKR = r at *
        obtain ⟨key, kind⟩ := r
        simp only at *
        go_wp2_with fail
        clear p0 p1
        have HCL := (⟨HS.out⟩ : HoldsC (fun W => Blk W w.heap.size 27 #[.slice (some ⟨b, off, none⟩) n cap, .slice A' n' cap'] ∧ Below w.heap.size w W) _)
        have hall : ∀ p : Prop, (∀ W, HoldsC (fun W => Blk W w.heap.size 27 #[.slice (some ⟨b, off, none⟩) n cap, .slice A' n' cap'] ∧ Below w.heap.size w W) W → p) ↔ p := fun p => ⟨fun h => h _ HCL, fun h _ _ => h⟩
        refine wp_region_wq (C := HoldsC (fun W => Blk W w.heap.size 27 #[.slice (some ⟨b, off, none⟩) n cap, .slice A' n' cap'] ∧ Below w.heap.size w W)) (by kernel_rfl) (by kernel_rfl) HCL ?_
        repeat (refine WQ.step (fun K hK => ?_); go_simp; first | (refine hK _ ?_; clear hK K) | (apply Exists.intro; refine ⟨fun W hW => ?_, hK _ ?_⟩; (focus (first | (go_at_call 42; (with_reducible refine Calls.mono (Hid.out (HT _)) ?_); rintro e w' ⟨rfl, hb'⟩; exact ⟨rfl, ⟨hW.out.1.below hb', hW.out.2.trans (hb'.mono hW.out.2.size)⟩⟩) | exact rfl | (obtain ⟨hG, hB⟩ := hW.out; have p0 := hG.get 0; have p1 := hG.get 1; simp at p0 p1; obtain ⟨x0, x1⟩ := atKRow (HX.out.below hb hB); simp only at *; go_simp; rfl))); clear hK K))
        refine WQ.nil ?_
        intro W hW
        obtain ⟨hG, hB⟩ := hW.out; have p0 := hG.get 0; have p1 := hG.get 1; simp at p0 p1; obtain ⟨x0, x1⟩ := atKRow (HX.out.below hb hB); simp only at *
        clear hall HCL
        have HB := Lib.hid hB
        have G0 := Lib.hid hG
        clear hW hB hG HS p0 p1 x0 x1
        go_wp2_with fail
        go_ret
        exact ⟨ret_bool HB1.out.symm, HB.out⟩
      · have hteq : (tagV (m.keys.getD j zeroKR).key (m.keys.getD j zeroKR).kind == 0) = false := by rw [beq_eq_false_iff_ne]; exact ht
        by_cases hj0 : j = 0
        · have HB1 := Lib.hid (kBad_first hj0 ht)
          have i4 : decide (0 < j) = false := by rw [decide_eq_false_iff_not]; omega
          generalize tagV (m.keys.getD j zeroKR).key (m.keys.getD j zeroKR).kind = tg at *
          clear ht HBD hj0
          have HS := Lib.hid (show Blk wr.drew w.heap.size 27 #[.slice (some ⟨b, off, none⟩) n cap, .slice A' n' cap'] ∧ Below w.heap.size w wr.drew from ⟨G0.out.below (below_drew _ _), HB.out.trans (below_drew _ _)⟩)
          clear G0 HB HY
          generalize m.keys.getD j zeroKR = r at *
          obtain ⟨key, kind⟩ := r
          simp only at *
          go_wp2_with fail
          clear p0 p1
          have HCL := (⟨HS.out⟩ : HoldsC (fun W => Blk W w.heap.size 27 #[.slice (some ⟨b, off, none⟩) n cap, .slice A' n' cap'] ∧ Below w.heap.size w W) _)
          have hall : ∀ p : Prop, (∀ W, HoldsC (fun W => Blk W w.heap.size 27 #[.slice (some ⟨b, off, none⟩) n cap, .slice A' n' cap'] ∧ Below w.heap.size w W) W → p) ↔ p := fun p => ⟨fun h => h _ HCL, fun h _ _ => h⟩
          refine wp_region_wq (C := HoldsC (fun W => Blk W w.heap.size 27 #[.slice (some ⟨b, off, none⟩) n cap, .slice A' n' cap'] ∧ Below w.heap.size w W)) (by kernel_rfl) (by kernel_rfl) HCL ?_
          repeat (refine WQ.step (fun K hK => ?_); go_simp; first | (refine hK _ ?_; clear hK K) | (apply Exists.intro; refine ⟨fun W hW => ?_, hK _ ?_⟩; (focus (first | (go_at_call 42; (with_reducible refine Calls.mono (Hid.out (HT _)) ?_); rintro e w' ⟨rfl, hb'⟩; exact ⟨rfl, ⟨hW.out.1.below hb', hW.out.2.trans (hb'.mono hW.out.2.size)⟩⟩) | exact rfl | (obtain ⟨hG, hB⟩ := hW.out; have p0 := hG.get 0; have p1 := hG.get 1; simp at p0 p1; obtain ⟨x0, x1⟩ := atKRow (HX.out.below hb hB); simp only at *; go_simp; rfl))); clear hK K))
          refine WQ.nil ?_
          intro W hW
          obtain ⟨hG, hB⟩ := hW.out; have p0 := hG.get 0; have p1 := hG.get 1; simp at p0 p1; obtain ⟨x0, x1⟩ := atKRow (HX.out.below hb hB); simp only at *
          clear hall HCL
          have HB := Lib.hid hB
          have G0 := Lib.hid hG
          clear hW hB hG HS p0 p1 x0 x1
          go_wp2_with fail
          go_roundw
          case rel => exact ⟨j + 1, by omega, by go_num, HNX.out HB1.out, G0.out, HB.out⟩
          case measure => simp [intOf]; omega
        · obtain ⟨m', rfl⟩ : ∃ m', j = m' + 1 := ⟨j - 1, by omega⟩
          clear hj0
          have hbn := kBad_next ht
          generalize tagV (m.keys.getD (m' + 1) zeroKR).key (m.keys.getD (m' + 1) zeroKR).kind = tg at *
          cases hle : strLe (m.keys.getD (m' + 1) zeroKR).key (m.keys.getD m' zeroKR).key with
          | true =>
            have HB1 := Lib.hid (HBD.out (hbn.trans hle))
            clear hbn ht HBD
            have HS := Lib.hid (show Blk wr.drew w.heap.size 27 #[.slice (some ⟨b, off, none⟩) n cap, .slice A' n' cap'] ∧ Below w.heap.size w wr.drew from ⟨G0.out.below (below_drew _ _), HB.out.trans (below_drew _ _)⟩)
            have HZ := Lib.hid (HY.out m' (by omega))
            have i1 : (m' : Int) + 1 < (n : Int) := by omega
            have i2 : (m' : Int) < (n : Int) := by omega
            have i3 : ((m' : Int) + 1).toNat = m' + 1 := by omega
            have i4 : decide ((0 : Int) < (m' : Int) + 1) = true := by rw [decide_eq_true_eq]; omega
            have i5 : (0 : Int) ≤ (m' : Int) + 1 := by omega
            have i6 : (m' : Int) ≤ 9223372036854775807 := by omega
            have i7 : IntKind.i64.wrap (m' : Int) = (m' : Int) := by rw [IntKind.wrap_i64]; omega
            clear G0 HB HY HNX
            generalize m.keys.getD (m' + 1) zeroKR = r at *
            generalize m.keys.getD m' zeroKR = rp at *
            obtain ⟨pk, pkind⟩ := rp
            obtain ⟨key, kind⟩ := r
            simp only at *
            unfold strLe at hle
            go_wp2_with fail
            clear p0 p1
            have HCL := (⟨HS.out⟩ : HoldsC (fun W => Blk W w.heap.size 27 #[.slice (some ⟨b, off, none⟩) n cap, .slice A' n' cap'] ∧ Below w.heap.size w W) _)
            have hall : ∀ p : Prop, (∀ W, HoldsC (fun W => Blk W w.heap.size 27 #[.slice (some ⟨b, off, none⟩) n cap, .slice A' n' cap'] ∧ Below w.heap.size w W) W → p) ↔ p := fun p => ⟨fun h => h _ HCL, fun h _ _ => h⟩
            refine wp_region_wq (C := HoldsC (fun W => Blk W w.heap.size 27 #[.slice (some ⟨b, off, none⟩) n cap, .slice A' n' cap'] ∧ Below w.heap.size w W)) (by kernel_rfl) (by kernel_rfl) HCL ?_
            repeat (refine WQ.step (fun K hK => ?_); go_simp; first | (refine hK _ ?_; clear hK K) | (apply Exists.intro; refine ⟨fun W hW => ?_, hK _ ?_⟩; (focus (first | (go_at_call 42; (with_reducible refine Calls.mono (Hid.out (HT _)) ?_); rintro e w' ⟨rfl, hb'⟩; exact ⟨rfl, ⟨hW.out.1.below hb', hW.out.2.trans (hb'.mono hW.out.2.size)⟩⟩) | exact rfl | (obtain ⟨hG, hB⟩ := hW.out; have p0 := hG.get 0; have p1 := hG.get 1; simp at p0 p1; obtain ⟨x0, x1⟩ := atKRow (HX.out.below hb hB); obtain ⟨y0, y1⟩ := atKRow (HZ.out.below hb hB); simp only at *; go_simp; rfl))); clear hK K))
            refine WQ.nil ?_
            intro W hW
            obtain ⟨hG, hB⟩ := hW.out; have p0 := hG.get 0; have p1 := hG.get 1; simp at p0 p1; obtain ⟨x0, x1⟩ := atKRow (HX.out.below hb hB); obtain ⟨y0, y1⟩ := atKRow (HZ.out.below hb hB); simp only at *
            clear hall HCL
            have HB := Lib.hid hB
            have G0 := Lib.hid hG
            clear hW hB hG HS p0 p1 x0 x1 y0 y1
            go_wp2_with fail
            go_ret
            exact ⟨ret_bool HB1.out.symm, HB.out⟩
          | false =>
            have HB1 := Lib.hid (hbn.trans hle)
            clear hbn ht HBD
            have HS := Lib.hid (show Blk wr.drew w.heap.size 27 #[.slice (some ⟨b, off, none⟩) n cap, .slice A' n' cap'] ∧ Below w.heap.size w wr.drew from ⟨G0.out.below (below_drew _ _), HB.out.trans (below_drew _ _)⟩)
            have HZ := Lib.hid (HY.out m' (by omega))
            have i1 : (m' : Int) + 1 < (n : Int) := by omega
            have i2 : (m' : Int) < (n : Int) := by omega
            have i3 : ((m' : Int) + 1).toNat = m' + 1 := by omega
            have i4 : decide ((0 : Int) < (m' : Int) + 1) = true := by rw [decide_eq_true_eq]; omega
            have i5 : (0 : Int) ≤ (m' : Int) + 1 := by omega
            have i6 : (m' : Int) ≤ 9223372036854775807 := by omega
            have i7 : IntKind.i64.wrap (m' : Int) = (m' : Int) := by rw [IntKind.wrap_i64]; omega
            clear G0 HB HY
            generalize m.keys.getD (m' + 1) zeroKR = r at *
            generalize m.keys.getD m' zeroKR = rp at *
            obtain ⟨pk, pkind⟩ := rp
            obtain ⟨key, kind⟩ := r
            simp only at *
            unfold strLe at hle
            go_wp2_with fail
            clear p0 p1
            have HCL := (⟨HS.out⟩ : HoldsC (fun W => Blk W w.heap.size 27 #[.slice (some ⟨b, off, none⟩) n cap, .slice A' n' cap'] ∧ Below w.heap.size w W) _)
            have hall : ∀ p : Prop, (∀ W, HoldsC (fun W => Blk W w.heap.size 27 #[.slice (some ⟨b, off, none⟩) n cap, .slice A' n' cap'] ∧ Below w.heap.size w W) W → p) ↔ p := fun p => ⟨fun h => h _ HCL, fun h _ _ => h⟩
            refine wp_region_wq (C := HoldsC (fun W => Blk W w.heap.size 27 #[.slice (some ⟨b, off, none⟩) n cap, .slice A' n' cap'] ∧ Below w.heap.size w W)) (by kernel_rfl) (by kernel_rfl) HCL ?_
            repeat (refine WQ.step (fun K hK => ?_); go_simp; first | (refine hK _ ?_; clear hK K) | (apply Exists.intro; refine ⟨fun W hW => ?_, hK _ ?_⟩; (focus (first | (go_at_call 42; (with_reducible refine Calls.mono (Hid.out (HT _)) ?_); rintro e w' ⟨rfl, hb'⟩; exact ⟨rfl, ⟨hW.out.1.below hb', hW.out.2.trans (hb'.mono hW.out.2.size)⟩⟩) | exact rfl | (obtain ⟨hG, hB⟩ := hW.out; have p0 := hG.get 0; have p1 := hG.get 1; simp at p0 p1; obtain ⟨x0, x1⟩ := atKRow (HX.out.below hb hB); obtain ⟨y0, y1⟩ := atKRow (HZ.out.below hb hB); simp only at *; go_simp; rfl))); clear hK K))
            refine WQ.nil ?_
            intro W hW
            obtain ⟨hG, hB⟩ := hW.out; have p0 := hG.get 0; have p1 := hG.get 1; simp at p0 p1; obtain ⟨x0, x1⟩ := atKRow (HX.out.below hb hB); obtain ⟨y0, y1⟩ := atKRow (HZ.out.below hb hB); simp only at *
            clear hall HCL
            have HB := Lib.hid hB
            have G0 := Lib.hid hG
            clear hW hB hG HS p0 p1 x0 x1 y0 y1
            go_wp2_with fail
            go_roundw
            case rel => exact ⟨m' + 2, by omega, by go_num, HNX.out HB1.out, G0.out, HB.out⟩
            case measure => simp [intOf]; omega
    · have hjn : j = n := by omega
      subst hjn
      have HB := Lib.hid hbl
      have HKG := Lib.hid (HG.out)
      clear hbl HG HBADK HALLK HFK
      go_wp2_with fail
      obtain ⟨wo, rfl⟩ : ∃ wo : World, wo = wr := ⟨_, rfl⟩
      go_loopw [4] (fun i wr2 => ∃ q : Nat, q ≤ n' ∧ i = .int .i64 q ∧ RGood m q ∧ Blk wr2 w.heap.size 27 #[.slice A j cap, .slice A' n' cap'] ∧ Below w.heap.size w wr2) (fun i _ => n' - (intOf i).toNat)
      case atStart => exact ⟨0, Nat.zero_le _, rfl, RGood.zero _, G0.out, HB.out⟩
      case round =>
        obtain ⟨q, hq, rfl, hg, g0, hbl⟩ := hrel
        clear p0 p1 G0 HB
        have HG := Lib.hid hg
        have G0 := Lib.hid g0
        have p0 := g0.get 0; have p1 := g0.get 1
        simp at p0 p1
        clear hg g0
        by_cases hlq : q < n'
        · obtain ⟨b', off', rfl, hb', hc'⟩ := K4.out (by omega)
          have HBD := Lib.hid (HBADR.out q hlq)
          have HNX := Lib.hid (fun k => HG.out.next (j := q) k)
          have HX := Lib.hid (hc' q hlq)
          have CK2 := fun W (h : MoIn W m (.slice A j cap) (.slice (some ⟨b', off', none⟩) n' cap')) => CK W (m.rows.getD q zeroR).key h
          have HS := Lib.hid (show Blk wr.drew w.heap.size 27 #[.slice A j cap, .slice (some ⟨b', off', none⟩) n' cap'] ∧ Below w.heap.size w wr.drew from ⟨G0.out.below (below_drew _ _), hbl.trans (below_drew _ _)⟩)
          have hqn : (q : Int) < (n' : Int) := by omega
          clear hc' hbl G0 CK
          by_cases hk : mKindV (m.rows.getD q zeroR).key m.keys = (m.rows.getD q zeroR).kind
          · have HB1 := Lib.hid (HNX.out hk)
            rw [hk] at CK2
            clear hk HBD HNX
            generalize m.rows.getD q zeroR = r at *
            obtain ⟨key, kind, sum, st, last, n9, mn, mx, total, dropped⟩ := r
            simp only at *
            go_wp2_with fail
            clear p0 p1
            have HCL := (⟨HS.out⟩ : HoldsC (fun W => Blk W w.heap.size 27 #[.slice A j cap, .slice (some ⟨b', off', none⟩) n' cap'] ∧ Below w.heap.size w W) _)
            have hall : ∀ p : Prop, (∀ W, HoldsC (fun W => Blk W w.heap.size 27 #[.slice A j cap, .slice (some ⟨b', off', none⟩) n' cap'] ∧ Below w.heap.size w W) W → p) ↔ p := fun p => ⟨fun h => h _ HCL, fun h _ _ => h⟩
            refine wp_region_wq (C := HoldsC (fun W => Blk W w.heap.size 27 #[.slice A j cap, .slice (some ⟨b', off', none⟩) n' cap'] ∧ Below w.heap.size w W)) (by kernel_rfl) (by kernel_rfl) HCL ?_
            repeat (refine WQ.step (fun K hK => ?_); go_simp; first | (refine hK _ ?_; clear hK K) | (apply Exists.intro; refine ⟨fun W hW => ?_, hK _ ?_⟩; (focus (first | (go_at_call 43; (with_reducible refine Calls.mono (Hid.out (CK2 _ (HIN.out.below hW.out.2))) ?_); rintro e w' ⟨rfl, hb'⟩; exact ⟨rfl, ⟨hW.out.1.below hb', hW.out.2.trans (hb'.mono hW.out.2.size)⟩⟩) | exact rfl | (obtain ⟨hG, hB⟩ := hW.out; have p0 := hG.get 0; have p1 := hG.get 1; simp at p0 p1; obtain ⟨x0, x1, x2, x3, x4, x5, x6, x7, x8, x9⟩ := (HX.out.below hb' hB).get; simp only at *; go_simp; rfl))); clear hK K))
            refine WQ.nil ?_
            intro W hW
            obtain ⟨hG, hB⟩ := hW.out; have p0 := hG.get 0; have p1 := hG.get 1; simp at p0 p1; obtain ⟨x0, x1, x2, x3, x4, x5, x6, x7, x8, x9⟩ := (HX.out.below hb' hB).get; simp only at *
            clear hall HCL
            have HB := Lib.hid hB
            have G0 := Lib.hid hG
            clear hW hB hG HS p0 p1 x0 x1 x2 x3 x4 x5 x6 x7 x8 x9
            go_wp2_with fail
            go_roundw
            case rel => exact ⟨q + 1, by omega, by go_num, HB1.out, G0.out, HB.out⟩
            case measure => simp [intOf]; omega
          · have HB1 := Lib.hid (HBD.out hk)
            generalize mKindV (m.rows.getD q zeroR).key m.keys = mk at *
            have hne : (mk == (m.rows.getD q zeroR).kind) = false := by rw [beq_eq_false_iff_ne]; exact hk
            clear HBD HNX hk
            generalize m.rows.getD q zeroR = r at *
            obtain ⟨key, kind, sum, st, last, n9, mn, mx, total, dropped⟩ := r
            simp only at *
            go_wp2_with fail
            clear p0 p1
            have HCL := (⟨HS.out⟩ : HoldsC (fun W => Blk W w.heap.size 27 #[.slice A j cap, .slice (some ⟨b', off', none⟩) n' cap'] ∧ Below w.heap.size w W) _)
            have hall : ∀ p : Prop, (∀ W, HoldsC (fun W => Blk W w.heap.size 27 #[.slice A j cap, .slice (some ⟨b', off', none⟩) n' cap'] ∧ Below w.heap.size w W) W → p) ↔ p := fun p => ⟨fun h => h _ HCL, fun h _ _ => h⟩
            refine wp_region_wq (C := HoldsC (fun W => Blk W w.heap.size 27 #[.slice A j cap, .slice (some ⟨b', off', none⟩) n' cap'] ∧ Below w.heap.size w W)) (by kernel_rfl) (by kernel_rfl) HCL ?_
            repeat (refine WQ.step (fun K hK => ?_); go_simp; first | (refine hK _ ?_; clear hK K) | (apply Exists.intro; refine ⟨fun W hW => ?_, hK _ ?_⟩; (focus (first | (go_at_call 43; (with_reducible refine Calls.mono (Hid.out (CK2 _ (HIN.out.below hW.out.2))) ?_); rintro e w' ⟨rfl, hb'⟩; exact ⟨rfl, ⟨hW.out.1.below hb', hW.out.2.trans (hb'.mono hW.out.2.size)⟩⟩) | exact rfl | (obtain ⟨hG, hB⟩ := hW.out; have p0 := hG.get 0; have p1 := hG.get 1; simp at p0 p1; obtain ⟨x0, x1, x2, x3, x4, x5, x6, x7, x8, x9⟩ := (HX.out.below hb' hB).get; simp only at *; go_simp; rfl))); clear hK K))
            refine WQ.nil ?_
            intro W hW
            obtain ⟨hG, hB⟩ := hW.out; have p0 := hG.get 0; have p1 := hG.get 1; simp at p0 p1; obtain ⟨x0, x1, x2, x3, x4, x5, x6, x7, x8, x9⟩ := (HX.out.below hb' hB).get; simp only at *
            clear hall HCL
            have HB := Lib.hid hB
            have G0 := Lib.hid hG
            clear hW hB hG HS p0 p1 x0 x1 x2 x3 x4 x5 x6 x7 x8 x9
            go_wp2_with fail
            go_ret
            exact ⟨ret_bool HB1.out.symm, HB.out⟩
        · have hqn : q = n' := by omega
          subst hqn
          have HB := Lib.hid hbl
          have HV := Lib.hid (HALLR.out HG.out HKG.out)
          clear hbl HG HKG
          by_cases h4 : j ≤ 4
          · have d4 : decide ((j : Int) ≤ 4) = true := by rw [decide_eq_true_eq]; omega
            rw [decide_eq_true h4, Bool.true_and] at HV
            clear h4
            generalize reportOkV m.rows = ro at *
            go_wp2_with fail
            refine (CR _ (HIN.out.below HB.out).rows).out.mono ?_
            rintro e w2 ⟨rfl, hb2⟩
            replace HB := Lib.hid (HB.out.trans (hb2.mono HB.out.size))
            clear hb2 p0 p1
            go_wp2_with fail
            go_ret
            exact ⟨ret_bool HV.out.symm, HB.out⟩
          · have d4 : decide ((j : Int) ≤ 4) = false := by rw [decide_eq_false_iff_not]; omega
            rw [decide_eq_false h4, Bool.false_and] at HV
            clear h4
            go_wp2_with fail
            go_ret
            exact ⟨ret_bool HV.out.symm, HB.out⟩
end Go.Proofs.YtbhhhakfjmaglaaGreat

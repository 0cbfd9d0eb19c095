/-
  Chapter 8, the model's RowIn, ClearBuf and BufClear: each answers what the plain words say. They turn nothing that was there.
-/
import Derived.Test.YtlnkjpacjbhncaaGreatDoorDrB
import Derived.Test.YtlnkjpacjbhncaaGreatDoorZb
import Derived.Test.YtlnkjpacjbhncaaGreatDoorZa
namespace Go.Proofs.YtlnkjpacjbhncaaGreatDoor
open Go.RowKit M
set_option linter.unusedVariables false
set_option linter.unusedSimpArgs false
theorem slotRaw_fit {zs : List Int} {b s : Int} (h : Fit zs) : Fit (slotRaw zs b s) := fun z hz => h z (List.mem_of_mem_drop (List.mem_of_mem_take hz))
/-- The walk of RowIn's last statement holds. -/
def InHeld (w0 : World) (o : Nat) (w : World) : Prop := Below w0.heap.size w0 w ∧ RowAt w o zeroR
theorem InHeld.bel {w0 w1 : World} {o : Nat} (h : InHeld w0 o w1) : Below w0.heap.size w0 w1 := h.1
theorem InHeld.next {w0 w1 w2 : World} {o : Nat} (h : InHeld w0 o w1) (hb : Below w1.heap.size w1 w2) : InHeld w0 o w2 := ⟨h.1.trans (hb.mono h.1.size), h.2.below hb⟩
set_option maxRecDepth 100000 in
set_option maxHeartbeats 4000000 in
theorem sRowIn_any (w : World) (v : Value) (zs : List Int) (b s : Int) (h : Ints w v zs) : Calls Tryz.prog 36 #[v, .int .i64 b, .int .i64 s] w (Gives (rowInV zs b s).v w) := by
  have HOK := fun W h => Lib.hid (sOk_any W v zs h)
  have HC := fun W => Lib.hid (sBase_any b s W)
  have HI := Lib.hid h
  obtain ⟨g, off, cap, rfl, hcl, hcm, hglt, h4⟩ := h
  by_cases hok : okC zs = true ∧ bufOk b = true ∧ slotOk s = true
  case neg =>
    have HE := Lib.hid (show (rowInV zs b s).v = zeroR.v by unfold rowInV; rw [if_neg hok])
    generalize (rowInV zs b s).v = out at *
    cases hc : okC zs with
    | false =>
      rw [hc] at HOK
      clear hc hok
      go_enter Tryz.func36, Tryz.ntmps36
      go_upto_region 1 with fail
      refine wp_gen (fun w' => RowAt w' w.heap.size zeroR ∧ Below w.heap.size w w') ⟨rowAt_new w _ zeroR rfl, (Below.refl _ _).alloc (Nat.le_refl _) _⟩ ?_
      rintro w2 ⟨hz, hb⟩
      have HO2 := Lib.hid (HI.out.below hb)
      obtain ⟨z0, z1, z2, z3, z4, z5, z6, z7, z8, z9, zf⟩ := hz.get
      simp only [zeroR] at z0 z1 z2 z3 z4 z5 z6 z7 z8 z9
      have HB := Lib.hid hb
      clear hz hb
      go_wp2_with ((go_at_call 30; (with_reducible refine Calls.mono (Hid.out (HOK _ HO2.out)) ?_); rintro e w' ⟨rfl, rfl⟩))
      exact bodyPost_ret (v := zeroR.v) (by simp [results, Tryz.results36, go_sem, zeroR, R.v, z0, z1, z2, z3, z4, z5, z6, z7, z8, z9]) rfl ⟨by rw [HE.out], (below_row HB.out (Nat.le_refl _) _ _ _ _ _ _ _ _ _ _)⟩
    | true =>
      have hbs : ¬ ((0 ≤ b ∧ b ≤ 1) ∧ (0 ≤ s ∧ s ≤ 3)) := fun x => hok ⟨hc, bufOk_iff.2 x.1, slotOk_iff.2 x.2⟩
      rw [show cellV b s 0 = -1 from if_neg hbs] at HC
      rw [hc] at HOK
      clear hc hok hbs
      go_enter Tryz.func36, Tryz.ntmps36
      go_upto_region 1 with fail
      refine wp_gen (fun w' => RowAt w' w.heap.size zeroR ∧ Below w.heap.size w w') ⟨rowAt_new w _ zeroR rfl, (Below.refl _ _).alloc (Nat.le_refl _) _⟩ ?_
      rintro w2 ⟨hz, hb⟩
      have HO2 := Lib.hid (HI.out.below hb)
      obtain ⟨z0, z1, z2, z3, z4, z5, z6, z7, z8, z9, zf⟩ := hz.get
      simp only [zeroR] at z0 z1 z2 z3 z4 z5 z6 z7 z8 z9
      have HB := Lib.hid hb
      clear hz hb
      go_wp2_with (first | (go_at_call 30; (with_reducible refine Calls.mono (Hid.out (HOK _ HO2.out)) ?_); rintro e w' ⟨rfl, rfl⟩) | (go_at_call 54; (with_reducible refine Calls.mono (Hid.out (HC _)) ?_); rintro e w' ⟨rfl, rfl⟩))
      exact bodyPost_ret (v := zeroR.v) (by simp [results, Tryz.results36, go_sem, zeroR, R.v, z0, z1, z2, z3, z4, z5, z6, z7, z8, z9]) rfl ⟨by rw [HE.out], (below_row HB.out (Nat.le_refl _) _ _ _ _ _ _ _ _ _ _)⟩
  case pos =>
    have hr : rowInV zs b s = rowFromV (cellK zs s) (slotRaw zs b s) := if_pos hok
    obtain ⟨hc, hb, hs⟩ := hok
    rw [bufOk_iff] at hb
    rw [slotOk_iff] at hs
    have hl := okC_len hc
    have HE := Lib.hid (show (rowInV zs b s).v = (rowFromV (cellK zs s) (slotRaw zs b s)).v by rw [hr])
    generalize (rowInV zs b s).v = out at *
    clear hr
    obtain ⟨m, hm'⟩ := Int.eq_ofNat_of_zero_le (show 0 ≤ 7 + b * 32 + s * 8 by omega)
    have HP := Lib.hid (show Ints w (.slice (some ⟨g, off + m, none⟩) 8 (cap - m)) (slotRaw zs b s) from by
      have := HI.out.part m 8 (by omega)
      rwa [show (zs.drop m).take 8 = slotRaw zs b s by unfold slotRaw; rw [hm']; rfl] at this)
    have HFR := fun W u h => Lib.hid (sRowFrom_any W (cellK zs s) u (slotRaw zs b s) h (slotRaw_fit (okC_fit hc)))
    have HKC := fun W => Lib.hid (sKey_any s W)
    rw [keyV_yes hs] at HKC
    have HRW := fun W => Lib.hid (sRaw_same W g off zs.length cap b s m hm' hl hcl hcm hb hs)
    have HKL := Lib.hid (cellK_at (s := s) h4 hl hs.1 hs.2)
    rw [cellV_yes hb hs, Int.add_zero] at HC
    rw [hl] at HI HRW hcl
    replace HOK := fun W h => Lib.hid (sOk_any W (.slice (some ⟨g, off, none⟩) 71 cap) zs h)
    rw [hc] at HOK
    clear h4 hc
    rw [hl]
    generalize cellK zs s = ck at *
    generalize rowFromV ck (slotRaw zs b s) = r at *
    obtain ⟨sn, rfl⟩ := Int.eq_ofNat_of_zero_le hs.1
    have hsn : sn ≤ 3 := by omega
    have i1 : 3 + (sn : Int) < 71 := by omega
    have i2 : (0 : Int) ≤ 3 + (sn : Int) := by omega
    have i3 : (3 + (sn : Int)).toNat = 3 + sn := by omega
    rw [i3] at HKL
    have i4 : decide (7 + b * 32 + (sn : Int) * 8 < 0) = false := by rw [decide_eq_false]; omega
    clear hs hb hm' hl
    unfold maxLen at hcm
    go_enter Tryz.func36, Tryz.ntmps36
    go_upto_region 1 with fail
    refine wp_gen (fun w' => RowAt w' w.heap.size zeroR ∧ Below w.heap.size w w') ⟨rowAt_new w _ zeroR rfl, (Below.refl _ _).alloc (Nat.le_refl _) _⟩ ?_
    rintro w2 ⟨hz, hb⟩
    have HO2 := Lib.hid (HI.out.below hb)
    have HS := Lib.hid (show InHeld w w.heap.size w2.drew from InHeld.next ⟨hb, hz⟩ (below_drew _ _))
    clear hz hb
    obtain ⟨key, kind, sum, st, last, n', mn, mx, total, dropped⟩ := r
    unfold R.v at HFR
    simp only at HFR
    go_wp2_with (first | (go_at_call 30; (with_reducible refine Calls.mono (Hid.out (HOK _ HO2.out)) ?_); rintro e w' ⟨rfl, rfl⟩) | (go_at_call 54; (with_reducible refine Calls.mono (Hid.out (HC _)) ?_); rintro e w' ⟨rfl, rfl⟩))
    have HCL := (⟨HS.out⟩ : HoldsC (InHeld w w.heap.size) _)
    have hall : ∀ p : Prop, (∀ W, HoldsC (InHeld w w.heap.size) W → p) ↔ p := fun p => ⟨fun h => h _ HCL, fun h _ _ => h⟩
    refine wp_region_tail_lit (C := HoldsC (InHeld w w.heap.size)) (by kernel_rfl) (by kernel_rfl) rfl HCL ?_
    repeat (refine WQ.step (fun K hK => ?_); go_simp; first | (refine hK _ ?_; clear hK K) | (apply Exists.intro; refine ⟨fun W hW => ?_, hK _ ?_⟩; (focus (first | (go_at_call 14; (with_reducible refine Calls.mono (Hid.out (HKC _)) ?_); rintro e w' ⟨rfl, rfl⟩; exact ⟨rfl, hW⟩) | (go_at_call 56; (with_reducible refine Calls.mono (Hid.out (HRW _)) ?_); rintro e w' ⟨rfl, rfl⟩; exact ⟨rfl, hW⟩) | (go_at_call 55; (with_reducible refine Calls.mono (Hid.out (HFR _ _ (HP.out.below hW.out.bel).arg)) ?_); rintro e w' ⟨rfl, hb'⟩; exact ⟨rfl, ⟨hW.out.next hb'⟩⟩) | exact rfl | (obtain ⟨hB, hZ⟩ := hW.out; have cK := (hB.cell (p := ⟨g, off + (3 + sn), none⟩) hglt).trans HKL.out; obtain ⟨z0, z1, z2, z3, z4, z5, z6, z7, z8, z9, zf⟩ := hZ.get; simp only [zeroR] at z0 z1 z2 z3 z4 z5 z6 z7 z8 z9; go_simp; rfl))); clear hK K))
    refine WQ.nil ?_
    intro W hW
    obtain ⟨hB, hZ⟩ := hW.out; have cK := (hB.cell (p := ⟨g, off + (3 + sn), none⟩) hglt).trans HKL.out; obtain ⟨z0, z1, z2, z3, z4, z5, z6, z7, z8, z9, zf⟩ := hZ.get; simp only [zeroR] at z0 z1 z2 z3 z4 z5 z6 z7 z8 z9
    refine ⟨rfl, ?_⟩
    clear hall HCL
    go_simp
    have HB := Lib.hid hB
    clear hB hZ hW HS
    go_wp2_with fail
    exact bodyPost_ret (v := .agg #[.string key, .int .i64 kind, .int .i64 sum, .bool st, .int .i64 last, .int .i64 n', .int .i64 mn, .int .i64 mx, .int .i64 total, .int .i64 dropped]) (by simp [results, Tryz.results36, go_sem, z0, z1, z2, z3, z4, z5, z6, z7, z8, z9]) rfl ⟨by rw [HE.out]; rfl, (below_row HB.out (Nat.le_refl _) _ _ _ _ _ _ _ _ _ _)⟩
end Go.Proofs.YtlnkjpacjbhncaaGreatDoor

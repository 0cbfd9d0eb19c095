/-
  Chapter 8, the program's RowIn: it answers the row of a slot of a buffer, and turns nothing that was there.
-/
import Derived.Test.YtlnkjpacjbhncaaGreatDoorDrF
import Derived.Test.YtlnkjpacjbhncaaGreatDoorDrC
import Derived.Test.YtlnkjpacjbhncaaGreatDoorZb
import Derived.Test.YtlnkjpacjbhncaaGreatDoorZa
namespace Go.Proofs.YtlnkjpacjbhncaaGreatDoor
open Go.RowKit M
set_option linter.unusedVariables false
set_option linter.unusedSimpArgs false
set_option maxRecDepth 100000 in
set_option maxHeartbeats 8000000 in
theorem iRowIn_any (w : World) (v : Value) (zs : List Int) (b s : Int) (h : Ints w v zs) (l0 : -9223372036854775808 ≤ b) (l1 : b ≤ 9223372036854775807) (l2 : -9223372036854775808 ≤ s) (l3 : s ≤ 9223372036854775807) : Calls Tryz.prog 42 #[v, .int .i64 b, .int .i64 s] w (Gives (rowInV zs b s).v w) := by
  have HOK := fun W h => Lib.hid (iOk_any W v zs h)
  have HC := fun W => Lib.hid (iBase_any b s W)
  have HI := Lib.hid h
  obtain ⟨g, off, cap, rfl, hcl, hcm, hglt, h4⟩ := h
  by_cases hok : okC zs = true ∧ bufOk b = true ∧ slotOk s = true
  case neg =>
    have HE := Lib.hid (show (rowInV zs b s).v = zeroR.v by unfold rowInV; rw [if_neg hok])
    generalize (rowInV zs b s).v = out at *
    have hbad : okC zs = false ∨ (okC zs = true ∧ cellV b s 0 = -1) := by
      cases hc : okC zs with
      | false => exact .inl rfl
      | true => exact .inr ⟨rfl, if_neg (fun x => hok ⟨hc, bufOk_iff.2 x.1, slotOk_iff.2 x.2⟩)⟩
    rcases hbad with hc | ⟨hc, hbs⟩
    · rw [hc] at HOK
      clear hc hok
      generalize cellV b s 0 = base at *
      go_enter Tryz.func42, Tryz.ntmps42
      go_upto_region 1 with fail
      refine wp_gen (fun w' => RowAt w' w.heap.size zeroR ∧ Below w.heap.size w w') ⟨rowAt_new w _ zeroR rfl, (Below.refl _ _).alloc (Nat.le_refl _) _⟩ ?_
      rintro w2 ⟨hz, hb⟩
      have HO2 := Lib.hid (HI.out.below hb)
      obtain ⟨z0, z1, z2, z3, z4, z5, z6, z7, z8, z9, zf⟩ := hz.get
      simp only [zeroR] at z0 z1 z2 z3 z4 z5 z6 z7 z8 z9
      have HB := Lib.hid hb
      clear hz hb
      go_wp2_with (first | (go_at_call 39; (with_reducible refine Calls.mono (Hid.out (HOK _ HO2.out)) ?_); rintro e w' ⟨rfl, rfl⟩) | (go_at_call 61; (with_reducible refine Calls.mono (Hid.out (HC _)) ?_); rintro e w' ⟨rfl, rfl⟩))
      exact bodyPost_ret (v := zeroR.v) (by simp [results, Tryz.results42, go_sem, zeroR, R.v, z0, z1, z2, z3, z4, z5, z6, z7, z8, z9]) rfl ⟨by rw [HE.out], (below_row HB.out (Nat.le_refl _) _ _ _ _ _ _ _ _ _ _)⟩
    · rw [hbs] at HC
      rw [hc] at HOK
      clear hc hok hbs
      go_enter Tryz.func42, Tryz.ntmps42
      go_upto_region 1 with fail
      refine wp_gen (fun w' => RowAt w' w.heap.size zeroR ∧ Below w.heap.size w w') ⟨rowAt_new w _ zeroR rfl, (Below.refl _ _).alloc (Nat.le_refl _) _⟩ ?_
      rintro w2 ⟨hz, hb⟩
      have HO2 := Lib.hid (HI.out.below hb)
      obtain ⟨z0, z1, z2, z3, z4, z5, z6, z7, z8, z9, zf⟩ := hz.get
      simp only [zeroR] at z0 z1 z2 z3 z4 z5 z6 z7 z8 z9
      have HB := Lib.hid hb
      clear hz hb
      go_wp2_with (first | (go_at_call 39; (with_reducible refine Calls.mono (Hid.out (HOK _ HO2.out)) ?_); rintro e w' ⟨rfl, rfl⟩) | (go_at_call 61; (with_reducible refine Calls.mono (Hid.out (HC _)) ?_); rintro e w' ⟨rfl, rfl⟩))
      exact bodyPost_ret (v := zeroR.v) (by simp [results, Tryz.results42, go_sem, zeroR, R.v, z0, z1, z2, z3, z4, z5, z6, z7, z8, z9]) rfl ⟨by rw [HE.out], (below_row HB.out (Nat.le_refl _) _ _ _ _ _ _ _ _ _ _)⟩
  case pos =>
    have hr : rowInV zs b s = rowFromV (cellK zs s) (slotRaw zs b s) := if_pos hok
    obtain ⟨hc, hb, hs⟩ := hok
    rw [bufOk_iff] at hb
    rw [slotOk_iff] at hs
    have hl := okC_len hc
    have HE := Lib.hid (show (rowInV zs b s).v = (rowFromV (cellK zs s) (slotRaw zs b s)).v by rw [hr])
    generalize (rowInV zs b s).v = out at *
    clear hr
    obtain ⟨m, hm'⟩ := Int.eq_ofNat_of_zero_le (show 0 ≤ 7 + b * 32 + s * 8 by omega)
    have hm63 : m + 8 ≤ 71 := by omega
    have HP := Lib.hid (show Ints w (.slice (some ⟨g, off + m, none⟩) 8 (cap - m)) (slotRaw zs b s) from by
      have := HI.out.part m 8 (by omega)
      rwa [show (zs.drop m).take 8 = slotRaw zs b s by unfold slotRaw; rw [hm']; rfl] at this)
    have hck : 0 ≤ cellK zs s ∧ cellK zs s ≤ 281474976710655 := okC_at hc _ (by omega)
    have HFR := fun W u h => Lib.hid (iRowFrom_any W (cellK zs s) u (slotRaw zs b s) h (slotRaw_fit (okC_fit hc)) (by omega) (by omega))
    have HKC := fun W => Lib.hid (iKey_any s W)
    rw [keyV_yes hs] at HKC
    have HKL := Lib.hid (cellK_at (s := s) h4 hl hs.1 hs.2)
    rw [cellV_yes hb hs, Int.add_zero, hm'] at HC
    rw [hl] at HI hcl HOK
    rw [hc] at HOK
    clear h4 hc
    rw [hl]
    generalize cellK zs s = ck at *
    generalize rowFromV ck (slotRaw zs b s) = r at *
    obtain ⟨sn, rfl⟩ := Int.eq_ofNat_of_zero_le hs.1
    have hsn : sn ≤ 3 := by omega
    have i1 : 3 + (sn : Int) < 71 := by omega
    have i2 : (0 : Int) ≤ 3 + (sn : Int) := by omega
    have i3 : (3 + (sn : Int)).toNat = 3 + sn := by omega
    rw [i3] at HKL
    have i4 : decide ((m : Int) < 0) = false := by rw [decide_eq_false]; omega
    clear hs hb hm' hl hck
    unfold maxLen at hcm
    have m1 : IntKind.i64.wrap ((m : Int) + 8) = (m : Int) + 8 := by rw [IntKind.wrap_i64]; omega
    have m2 : (0 : Int) ≤ (m : Int) + 8 := by omega
    have m3 : (m : Int) + 8 ≤ (cap : Int) := by omega
    have m4 : (m : Int) ≤ (m : Int) + 8 := by omega
    have m5 : ((m : Int) + 8).toNat = m + 8 := by omega
    have m6 : ¬ cap = m := by omega
    have m7 : m + 8 - m = 8 := by omega
    have m8 : m ≤ m + 8 := by omega
    go_enter Tryz.func42, Tryz.ntmps42
    go_upto_region 1 with fail
    refine wp_gen (fun w' => RowAt w' w.heap.size zeroR ∧ Below w.heap.size w w') ⟨rowAt_new w _ zeroR rfl, (Below.refl _ _).alloc (Nat.le_refl _) _⟩ ?_
    rintro w2 ⟨hz, hb⟩
    have HO2 := Lib.hid (HI.out.below hb)
    have HS := Lib.hid (show InHeld w w.heap.size w2.drew from InHeld.next ⟨hb, hz⟩ (below_drew _ _))
    clear hz hb
    obtain ⟨key, kind, sum, st, last, n', mn, mx, total, dropped⟩ := r
    unfold R.v at HFR
    simp only at HFR
    go_wp2_with (first | (go_at_call 39; (with_reducible refine Calls.mono (Hid.out (HOK _ HO2.out)) ?_); rintro e w' ⟨rfl, rfl⟩) | (go_at_call 61; (with_reducible refine Calls.mono (Hid.out (HC _)) ?_); rintro e w' ⟨rfl, rfl⟩))
    have HCL := (⟨HS.out⟩ : HoldsC (InHeld w w.heap.size) _)
    have hall : ∀ p : Prop, (∀ W, HoldsC (InHeld w w.heap.size) W → p) ↔ p := fun p => ⟨fun h => h _ HCL, fun h _ _ => h⟩
    refine wp_region_tail_lit (C := HoldsC (InHeld w w.heap.size)) (by kernel_rfl) (by kernel_rfl) rfl HCL ?_
    repeat (refine WQ.step (fun K hK => ?_); go_simp; first | (refine hK _ ?_; clear hK K) | (apply Exists.intro; refine ⟨fun W hW => ?_, hK _ ?_⟩; (focus (first | (go_at_call 40; (with_reducible refine Calls.mono (Hid.out (HKC _)) ?_); rintro e w' ⟨rfl, rfl⟩; exact ⟨rfl, hW⟩) | (go_at_call 62; (with_reducible refine Calls.mono (Hid.out (HFR _ _ (HP.out.below hW.out.bel).arg)) ?_); rintro e w' ⟨rfl, hb'⟩; exact ⟨rfl, ⟨hW.out.next hb'⟩⟩) | exact rfl | (obtain ⟨hB, hZ⟩ := hW.out; have cK := (hB.cell (p := ⟨g, off + (3 + sn), none⟩) hglt).trans HKL.out; obtain ⟨z0, z1, z2, z3, z4, z5, z6, z7, z8, z9, zf⟩ := hZ.get; simp only [zeroR] at z0 z1 z2 z3 z4 z5 z6 z7 z8 z9; go_simp; rfl))); clear hK K))
    refine WQ.nil ?_
    intro W hW
    obtain ⟨hB, hZ⟩ := hW.out; have cK := (hB.cell (p := ⟨g, off + (3 + sn), none⟩) hglt).trans HKL.out; obtain ⟨z0, z1, z2, z3, z4, z5, z6, z7, z8, z9, zf⟩ := hZ.get; simp only [zeroR] at z0 z1 z2 z3 z4 z5 z6 z7 z8 z9
    refine ⟨rfl, ?_⟩
    clear hall HCL
    go_simp
    have HB := Lib.hid hB
    clear hB hZ hW HS
    go_wp2_with fail
    exact bodyPost_ret (v := .agg #[.string key, .int .i64 kind, .int .i64 sum, .bool st, .int .i64 last, .int .i64 n', .int .i64 mn, .int .i64 mx, .int .i64 total, .int .i64 dropped]) (by simp [results, Tryz.results42, go_sem, z0, z1, z2, z3, z4, z5, z6, z7, z8, z9]) rfl ⟨by rw [HE.out]; rfl, (below_row HB.out (Nat.le_refl _) _ _ _ _ _ _ _ _ _ _)⟩
end Go.Proofs.YtlnkjpacjbhncaaGreatDoor

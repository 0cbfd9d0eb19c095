/-
  Chapter 10, the model's copy of queues: a new row of rows of its own. It turns nothing that was there.
-/
import Derived.Test.YtfemdhknnfmpcaaQuN
import Derived.Maps.AppendAt
import Derived.Laws.AppendOwnNone
namespace Go.Proofs.Ytfemdhknnfmpcaa
open Go.RowKit M
set_option linter.unusedVariables false
set_option linter.unusedSimpArgs false
/-- What the model's loop has gathered: a row of so many queues, each in a block of its own. -/
def Gath (w0 : World) (ls : List (List O)) (j : Nat) (v : Value) (w : World) : Prop := ∃ vs : List Value, vs.length = j ∧ Heap w w0.heap.size (⟨v, 73, 1, j, vs⟩ :: inner 26 4 opCells vs (ls.take j)) ∧ Below w0.heap.size w0 w
theorem Gath.len {w0 w : World} {ls : List (List O)} {j : Nat} {v : Value} (h : Gath w0 ls j v w) : h.choose.length = j := h.choose_spec.1
theorem Gath.b {w0 w : World} {ls : List (List O)} {j : Nat} {v : Value} (h : Gath w0 ls j v w) : Below w0.heap.size w0 w := h.choose_spec.2.2
theorem Gath.row {w0 w : World} {ls : List (List O)} {j : Nat} {v : Value} (h : Gath w0 ls j v w) {w' : World} (hb : Below w.heap.size w w') : w'.ownsRow w0.heap.size 73 1 v j h.choose := (h.choose_spec.2.1.below hb).own _ List.mem_cons_self
theorem Gath.next {w0 w w' w2 : World} {ls : List (List O)} {j : Nat} {v v' u : Value} {q : List O} (h : Gath w0 ls j v w) (hb : Below w.heap.size w w') (hj : j < ls.length) (hq : ls.getD j [] = q)
    (hu : OwnF 26 4 opCells w' w.heap.size u q) (hr : (⟨v', 73, 1, j + 1, ((h.choose) ++ [u])⟩ : Rw).own w2 w0.heap.size) (hg : w'.grownBy w2 v.ownBlock) (hv : v'.ownBlock = v.ownBlock ∨ ∀ k, v'.ownBlock = some k → w'.heap.size ≤ k) : Gath w0 ls (j + 1) v' w2 := by
  have hs := h.choose_spec
  generalize h.choose = vs at *
  obtain ⟨h1, h2, h3⟩ := hs
  have hh := Heap.join (h2.below hb) (Heap.one (r := ⟨u, 26, 4, q.length, cellsF opCells q⟩) hu) h3.size (fun r hr b hb => h2.lt hr b hb)
  refine ⟨vs ++ [u], by simp [h1], ?_, ?_⟩
  · have ht := Heap.turn (A := []) hh hg hr hv
    rw [show ls.take (j + 1) = ls.take j ++ [q] by rw [List.take_add_one, ← hq, List.getD_eq_getElem?_getD, List.getElem?_eq_getElem hj]; rfl]
    unfold inner at ht ⊢
    rw [zipWith_snoc _ _ _ _ _ (by rw [h1, List.length_take]; omega)]
    exact ht
  · refine (h3.trans (hb.mono h3.size)).grown hg (Nat.le_trans h3.size hb.size) (fun k hk => ?_)
    exact h2.base_le (List.mem_cons_self) k hk
set_option maxRecDepth 100000 in
set_option maxHeartbeats 4000000 in
theorem sQueues_any (w : World) (B : Nat) (v : Value) (ls : List (List O)) (h : OwnQ w B v ls) (hl : ls.length ≤ 1000) (hil : ∀ j, j < ls.length → (ls.getD j []).length ≤ 1000) :
    Calls Try.prog 60 #[v] w (MadeQS w ls) := by
  obtain ⟨i0, hi0, hz0, hz1, hz2⟩ := info_parts info_Op
  obtain ⟨i1, hi1, hy0, hy1, hy2⟩ := info_parts info_Queue
  obtain ⟨A, cap, rfl, hcm, hcn⟩ := ownQ_shape h
  unfold maxLen at hcm
  have HTK := Lib.hid (List.take_length (l := ls))
  have HIL := Lib.hid hil
  have HAT := Lib.hid (fun W (hb : Below w.heap.size w W) j (hj : j < ls.length) => ownQ_at (OwnD.below h hb) j hj)
  clear h hil
  generalize hn : ls.length = n at *
  have HN := Lib.hid hn
  clear hn
  go_enter Try.func60, Try.ntmps60
  go_wp2_with fail
  go_loopw [3, 4] (fun s i wr => ∃ j : Nat, j ≤ n ∧ i = .int .i64 j ∧ Gath w ls j s wr) (fun s i _ => n - (intOf i).toNat)
  case atStart =>
    exact ⟨0, Nat.zero_le _, rfl, [], rfl, Heap.one (World.ownsRow_made w #[] 0 (Nat.le_refl _) (Nat.zero_le _) rfl), below_oneL _ _⟩
  case round =>
    obtain ⟨j, hj, rfl, hga⟩ := hrel
    by_cases hlt : j < n
    · obtain ⟨b, cp, u0, hA, hb, hu0, ho0⟩ := HAT.out wr hga.b j hlt
      injection hA with hA1 hA2 hA3
      subst hA1
      subst hA3
      clear hA2
      have hil0 := HIL.out j hlt
      have HGA := Lib.hid hga
      have HSZ := Lib.hid hga.b.size
      have HO0 := Lib.hid ho0
      generalize hq : ls.getD j [] = q at *
      have HQ := Lib.hid hq
      have hjn : (j : Int) < (n : Int) := by omega
      clear hga hq HAT HIL
      have HBW := Lib.hid (below_oneL wr (.cells #[] 26))
      rcases ho0.2 with ⟨rfl, h0⟩ | ⟨g, cap0, cur, rfl, _, _, hn0, hm0, _, _⟩
      · obtain rfl : q = [] := List.length_eq_zero_iff.1 h0
        have hmade : (wr.alloc (.cells #[] 26)).ownsRow wr.heap.size 26 4 (.slice (some ⟨wr.heap.size, 0, none⟩) 0 0) 0 [] := World.ownsRow_made wr #[] 0 (Nat.le_refl _) (Nat.zero_le _) rfl
        have HMADE := Lib.hid hmade
        clear ho0 h0 hmade
        have HB1 := Lib.hid HBW.out
        have HROW := Lib.hid (HGA.out.row ((HB1.out).alloc HB1.out.size (.cells #[(.slice (some ⟨wr.heap.size, 0, none⟩) 0 0)] 73)))
        have HN1 := Lib.hid (fun (v' : Value) (w2 : World) hr hg hv => HGA.out.next (HB1.out.alloc HB1.out.size (.cells #[(.slice (some ⟨wr.heap.size, 0, none⟩) 0 0)] 73)) (by rw [HN.out]; exact hlt) HQ.out (World.ownsRow.alloc HMADE.out _) (v' := v') (w2 := w2) hr hg hv)
        have HSZ1 := Lib.hid (Nat.le_trans HSZ.out (Nat.le_trans HB1.out.size (show (wr.alloc (.cells #[] 26)).heap.size ≤ ((wr.alloc (.cells #[] 26)).alloc (.cells #[(.slice (some ⟨wr.heap.size, 0, none⟩) 0 0)] 73)).heap.size by simp [go_sem])))
        clear HO0 HBW
        go_wp2_with (at_builtin; first | refine wpList_append_own_none rfl _ _ 71 rfl wr.heap.size 26 i0 4 Try.underlying71 hi0 _ 0 [] rfl HMADE.out rfl ?_ | refine wpList_append_own_at _ rfl _ _ 32 rfl w.heap.size 73 i1 (.agg #[.slice none 0 0]) 1 24 Try.underlying32 hi1 hy0 hy1 hy2 rfl (by decide) _ j _ rfl HROW.out ⟨wr.heap.size + 1, 0, none⟩ 1 1 [(.slice (some ⟨wr.heap.size, 0, none⟩) 0 0)] rfl ?qd1 ?qd2 ?qd3 ?qd4 ?qd5 ?qd6 ?_)
        case qd1 => rfl
        case qd2 =>
          have hcn := cell_one_new (wr.alloc (.cells #[] 26)) (.slice (some ⟨wr.heap.size, 0, none⟩) 0 0) 73
          rw [show (wr.alloc (.cells #[] 26)).heap.size = wr.heap.size + 1 by simp [go_sem]] at hcn
          exact hcn
        case qd3 => intro u hu; rw [List.mem_singleton.1 hu]; rfl
        case qd4 => unfold maxLen; omega
        case qd5 => omega
        case qd6 => exact HSZ1.out
        intro v' w2 hown hgrow hnil3 hblk
        have HG3 := Lib.hid (HN1.out v' w2 hown hgrow (by rcases hblk with h | h; exact .inl h; exact .inr (fun k hk => by have e := Option.some.inj (h.symm.trans hk); simp [go_sem]; omega)))
        clear hown hgrow hnil3 hblk HN1 HROW hi0 hi1 hz0 hz1 hz2 hy0 hy1 hy2
        go_wp2_with fail
        go_roundw
        case rel => exact ⟨j + 1, by omega, by go_num, HG3.out⟩
        case measure => simp [intOf]; omega
      · go_wp2_with (at_builtin; refine wpList_append_own _ rfl _ _ 71 rfl wr.heap.size 26 i0 zeroO.v 4 40 Try.underlying71 hi0 hz0 hz1 hz2 rfl (by decide) _ _ _ rfl (World.ownsRow_made wr #[] 0 (Nat.le_refl _) (Nat.zero_le _) rfl) ⟨g, 0, none⟩ q.length cap0 (cellsF opCells q) rfl ?qc1 ?qc2 ?qc3 ?qc4 ?qc5 ?qc6 ?_)
        case qc1 => exact HO0.out.1
        case qc2 =>
          intro i u hi
          have hin : i < q.length * 4 := by
            have := (List.getElem?_eq_some_iff.1 hi).1
            rwa [HO0.out.1] at this
          have hcell : wr.cell? ⟨g, i, none⟩ = some u := (World.ownsRow.cellAt HO0.out i hin).trans hi
          rw [Addr.add_lit, Nat.zero_add]
          exact Lib.cell?_alloc_some _ hcell
        case qc3 => exact opCells_one q
        case qc4 => unfold maxLen; omega
        case qc5 => omega
        case qc6 => simp
        intro v1 W1 hown hgrow hnil2
        have hv1 : W1.ownsRow wr.heap.size 26 4 v1 q.length (cellsF opCells q) := by simpa using hown
        have hb1 : Below wr.heap.size wr W1 := (HBW.out).grown hgrow (by simp) (by intro k hk; simp [Value.ownBlock] at hk; omega)
        obtain ⟨A1, cap1, rfl⟩ := OwnF.shape (show OwnF 26 4 opCells W1 wr.heap.size v1 q from hv1)
        have HV1 := Lib.hid hv1
        have HBB := Lib.hid hb1
        clear hown hgrow hnil2 hv1 hb1 ho0
        have HB1 := Lib.hid HBB.out
        have HROW := Lib.hid (HGA.out.row ((HB1.out).alloc HB1.out.size (.cells #[(.slice A1 q.length cap1)] 73)))
        have HN1 := Lib.hid (fun (v' : Value) (w2 : World) hr hg hv => HGA.out.next (HB1.out.alloc HB1.out.size (.cells #[(.slice A1 q.length cap1)] 73)) (by rw [HN.out]; exact hlt) HQ.out (World.ownsRow.alloc HV1.out _) (v' := v') (w2 := w2) hr hg hv)
        have HSZ1 := Lib.hid (Nat.le_trans HSZ.out (Nat.le_trans HB1.out.size (show W1.heap.size ≤ (W1.alloc (.cells #[(.slice A1 q.length cap1)] 73)).heap.size by simp [go_sem])))
        clear HO0 HBW HV1 HBB
        go_wp2_with (at_builtin; refine wpList_append_own_at _ rfl _ _ 32 rfl w.heap.size 73 i1 (.agg #[.slice none 0 0]) 1 24 Try.underlying32 hi1 hy0 hy1 hy2 rfl (by decide) _ j _ rfl HROW.out ⟨W1.heap.size, 0, none⟩ 1 1 [(.slice A1 q.length cap1)] rfl ?qd1 ?qd2 ?qd3 ?qd4 ?qd5 ?qd6 ?_)
        case qd1 => rfl
        case qd2 => exact cell_one_new _ _ _
        case qd3 => intro u hu; rw [List.mem_singleton.1 hu]; rfl
        case qd4 => unfold maxLen; omega
        case qd5 => omega
        case qd6 => exact HSZ1.out
        intro v' w2 hown hgrow hnil3 hblk
        have HG3 := Lib.hid (HN1.out v' w2 hown hgrow (by rcases hblk with h | h; exact .inl h; exact .inr (fun k hk => by have e := Option.some.inj (h.symm.trans hk); simp [go_sem]; omega)))
        clear hown hgrow hnil3 hblk HN1 HROW hi0 hi1 hz0 hz1 hz2 hy0 hy1 hy2
        go_wp2_with fail
        go_roundw
        case rel => exact ⟨j + 1, by omega, by go_num, HG3.out⟩
        case measure => simp [intOf]; omega
    · have hjn : j = n := by omega
      subst hjn
      have hltz : ¬ (j : Int) < (j : Int) := by omega
      have HG2 := Lib.hid hga
      clear hga
      go_wp2_with fail
      go_ret
      obtain ⟨vs, h1, h2, h3⟩ := HG2.out
      rw [HTK.out] at h2
      refine ⟨_, rfl, ⟨vs, by rw [h1, HN.out], ?_⟩, h3⟩
      rw [HN.out]
      exact h2
end Go.Proofs.Ytfemdhknnfmpcaa

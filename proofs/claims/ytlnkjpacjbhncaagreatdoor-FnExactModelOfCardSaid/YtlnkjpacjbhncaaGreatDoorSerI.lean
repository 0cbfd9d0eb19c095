/-
  Chapter 15, the program: the library's slices.Values, AppendSeq, Collect and Sorted at names: a row of names sorted, in a row of the call's own.
-/
import Derived.Test.YtlnkjpacjbhncaaGreatDoorSerV
import Derived.Test.YtlnkjpacjbhncaaGreatDoorZb
import Derived.Test.YtlnkjpacjbhncaaGreatDoorZa
import Derived.RangeFuncBox
import Derived.RangeFuncLeaves
import Derived.Shelf.Abstract
import Derived.Shelf.AbstractIn
import Derived.WalkKit
import Derived.OwnWalkIn
import Derived.TacticsInMore
import Derived.LoopNIn
import Derived.LoopIn
import Derived.Maps.AppendAt
import Derived.Sort.OwnSorted
namespace Go.Proofs.YtlnkjpacjbhncaaGreatDoor
open Go.RowKit Go.Shelf Go.Sort M
set_option linter.unusedVariables false
set_option linter.unusedSimpArgs false
attribute [local go_sem] Oper.semAt_some
theorem take_next15 {ks : List ByteArray} {k : Nat} (h : k < ks.length) : ks.take (k + 1) = ks.take k ++ [ks.getD k ⟨#[]⟩] := by
  rw [List.take_succ_eq_append_getElem h, List.getD_eq_getElem?_getD, List.getElem?_eq_getElem h]; rfl
set_option maxRecDepth 100000 in
set_option maxHeartbeats 2000000 in
/-- slices.Values's closure, for every loop body that keeps what lay below n0. -/
theorem iEach_in (n : Nat) (hn : 1 ≤ n) (l Bs n0 b off cap : Nat) (ks : List ByteArray) (hreach : ks.length ≤ 1048576) (hb : b < n0) (J Jx : List ByteArray → World → Prop)
    (hY : ∀ pre x W, J pre W → pre.length < ks.length → YieldAt Fence.wide (n - 1) Tryz.prog l #[.string x] W fun e W' =>
      (e = .returned (.bool true) ∧ J (pre ++ [x]) W' ∧ Below n0 W W') ∨ (e = .returned (.bool false) ∧ Jx (pre ++ [x]) W'))
    (W : World) (hBs : W.cell? ⟨Bs, 0, none⟩ = some (.slice (some ⟨b, off, none⟩) ks.length cap)) (hc : ∀ j, j < ks.length → W.cell? ⟨b, off + j, none⟩ = some (.string (ks.getD j ⟨#[]⟩))) (h0 : J [] W) :
    CallsIn Fence.wide n Tryz.prog 46 #[.func (.yield l) #[] #[], .pointer (some ⟨Bs, 0, none⟩)] W fun e W' => (∃ v, e = .returned v) ∧
      ((∃ ys, ys = ks ∧ J ys W') ∨ (∃ pre, pre <+: ks ∧ Jx pre W')) := by
  obtain ⟨len, hlen⟩ : ∃ n : Nat, n = ks.length := ⟨_, rfl⟩
  rw [← hlen] at hBs hc hY hreach
  refine callsIn_of_wp Tryz.func46 rfl trivial ?_ rfl
  simp only [Tryz.ntmps46, List.size_toArray, List.length_cons, List.length_nil, Nat.reduceAdd, Nat.reduceSub, Array.replicate_succ, Array.replicate_zero, List.push_toArray, List.append_toArray, List.nil_append, List.cons_append]
  gi_wp2
  gi_loopw [7] (fun i wr => ∃ k : Nat, k ≤ len ∧ i = .int .i64 k ∧ J (ks.take k) wr ∧ Below n0 W wr)
    (fun i _ => len - (intOf i).toNat)
  case atStart => exact ⟨0, Nat.zero_le _, rfl, h0, Below.refl _ _⟩
  case round =>
    obtain ⟨k, hk, rfl, hJs, hnx⟩ := hrel
    have hcx : k < len → wr.cell? ⟨b, off + k, none⟩ = some (.string (ks.getD k ⟨#[]⟩)) := fun h => (hnx.cell (p := ⟨b, off + k, none⟩) hb).trans (hc k h)
    by_cases hlt : k < len
    · obtain ⟨fn, tmps, assign, body, hy, hR⟩ := hY _ (ks.getD k ⟨#[]⟩) wr hJs (by rw [List.length_take]; omega)
      have hcx' := hcx hlt
      have HT := Lib.hid (take_next15 (ks := ks) (k := k) (by omega))
      have HP := Lib.hid (show ks.take (k + 1) <+: ks from List.take_prefix _ _)
      generalize ks.getD k ⟨#[]⟩ = x at *
      gi_wp2
      refine hR.mono ?_
      rintro e W3 (⟨rfl, hJ3, hk3⟩ | ⟨rfl, hJx3⟩)
      · gi_wp2
        go_roundw
        case rel => exact ⟨k + 1, by omega, by simp, by rw [HT.out]; exact hJ3, hnx.trans hk3⟩
        case measure => simp [intOf]; omega
      · gi_wp2
        refine bodyPost_ret (results_none rfl _ _ _) rfl ?_
        exact ⟨⟨_, rfl⟩, .inr ⟨_, by rw [← HT.out]; exact HP.out, hJx3⟩⟩
    · obtain rfl : k = len := by omega
      have HT := Lib.hid (show ks.take k = ks by rw [hlen]; exact List.take_length)
      gi_wp2
      go_end0
      exact ⟨⟨_, rfl⟩, .inl ⟨_, rfl, by rw [HT.out] at hJs; exact hJs⟩⟩
set_option maxRecDepth 100000 in
set_option maxHeartbeats 1000000 in
theorem iEach_nil_in (n : Nat) (l Bs : Nat) (J : List ByteArray → World → Prop) (W : World) (hBs : W.cell? ⟨Bs, 0, none⟩ = some (.slice none 0 0)) (h0 : J [] W) :
    CallsIn Fence.wide n Tryz.prog 46 #[.func (.yield l) #[] #[], .pointer (some ⟨Bs, 0, none⟩)] W fun e W' => (∃ v, e = .returned v) ∧ J [] W' := by
  refine callsIn_of_wp Tryz.func46 rfl trivial ?_ rfl
  simp only [Tryz.ntmps46, List.size_toArray, List.length_cons, List.length_nil, Nat.reduceAdd, Nat.reduceSub, Array.replicate_succ, Array.replicate_zero, List.push_toArray, List.append_toArray, List.nil_append, List.cons_append]
  gi_wp2
  gi_loopw [7] (fun i wr => i = .int .i64 0 ∧ J [] wr) (fun _ _ => 0)
  case atStart => exact ⟨rfl, h0⟩
  case round =>
    obtain ⟨rfl, hJs⟩ := hrel
    gi_wp2
    go_end0
    exact ⟨⟨_, rfl⟩, hJs⟩
set_option maxHeartbeats 1000000 in
theorem iValues_in (n : Nat) (a : Option Addr) (len cap : Nat) (w : World) :
    CallsIn Fence.wide n Tryz.prog 21 #[.slice a len cap] w fun e w' => e = .returned (.func (.func 46) #[] #[.pointer (some ⟨w.heap.size, 0, none⟩)]) ∧ w' = w.alloc (.cells #[.slice a len cap] 41) := by
  refine callsIn_of_wp Tryz.func21 rfl trivial ?_ rfl
  simp only [Tryz.ntmps21, List.size_toArray, List.length_cons, List.length_nil, Nat.reduceAdd, Nat.reduceSub, Array.replicate_succ, Array.replicate_zero, List.push_toArray, List.append_toArray, List.nil_append, List.cons_append]
  gi_wp2
  go_ret
  exact ⟨rfl, rfl⟩
/-- The value holds the names, in a block below n0; or it is nil and there is none. -/
def TextsIn (n0 : Nat) (W : World) (sv : Value) (ks : List ByteArray) : Prop :=
  (sv = .slice none 0 0 ∧ ks = []) ∨ ∃ b off cap, sv = .slice (some ⟨b, off, none⟩) ks.length cap ∧ b < n0 ∧ ∀ j, j < ks.length → W.cell? ⟨b, off + j, none⟩ = some (.string (ks.getD j ⟨#[]⟩))
theorem TextsIn.below {n0 : Nat} {A B : World} (h : Below n0 A B) {sv : Value} {ks : List ByteArray} : TextsIn n0 A sv ks → TextsIn n0 B sv ks
  | .inl e => .inl e
  | .inr ⟨b, off, cap, e, hb, hc⟩ => .inr ⟨b, off, cap, e, hb, fun j hj => (h.cell (p := ⟨b, off + j, none⟩) hb).trans (hc j hj)⟩
theorem iValues_stops (n : Nat) (hn : 1 ≤ n) (Bs n0 : Nat) (sv : Value) (ks : List ByteArray) (hreach : ks.length ≤ 1048576) (w : World) (hBs : Bs < w.heap.size) (hn0 : n0 ≤ w.heap.size)
    (hc : w.cell? ⟨Bs, 0, none⟩ = some sv) (hI : TextsIn n0 w sv ks) :
    SeqStopsK Fence.wide n Tryz.prog 46 #[.pointer (some ⟨Bs, 0, none⟩)] (fun x : ByteArray => #[Value.string x]) (Below n0) (fun ys => ys = ks) (fun pre => pre <+: ks) ks.length w := fun l J Jx W hW _ _ hY h0 => by
  have hc' := (hW.cell (p := ⟨Bs, 0, none⟩) hBs).trans hc
  rcases hI.below (hW.mono hn0) with ⟨rfl, rfl⟩ | ⟨b, off, cap, rfl, hb, hcs⟩
  · exact (iEach_nil_in n l Bs J W hc' h0).mono fun e W' ⟨he, hj⟩ => ⟨he, .inl ⟨_, rfl, hj⟩⟩
  · exact iEach_in n hn l Bs n0 b off cap ks hreach hb J Jx hY W hc' hcs h0
set_option maxRecDepth 100000 in
set_option maxHeartbeats 2000000 in
/-- slices.AppendSeq(nil, slices.Values(ks)): the names once more, in a row of the call's own. -/
theorem iAppendSeq_in (n : Nat) (hn : 3 ≤ n) (Bs : Nat) (sv : Value) (ks : List ByteArray) (hreach : ks.length ≤ 1048576) (w : World) (hBs : Bs < w.heap.size) (hc : w.cell? ⟨Bs, 0, none⟩ = some sv) (hI : TextsIn w.heap.size w sv ks) :
    CallsIn Fence.wide n Tryz.prog 71 #[.slice none 0 0, .func (.func 46) #[] #[.pointer (some ⟨Bs, 0, none⟩)]] w (MadeT w ks) := by
  have h1 : 1 ≤ n := by omega
  obtain ⟨i0, hi, hz0, hz1, hz2⟩ := info_parts info_txt
  refine callsIn_of_wp_marks Tryz.func71 rfl trivial ?_ rfl
  simp only [Tryz.ntmps71, List.size_toArray, List.length_cons, List.length_nil, Nat.reduceAdd, Nat.reduceSub, Array.replicate_succ, Array.replicate_zero, List.push_toArray, List.append_toArray, List.nil_append, List.cons_append]
  gi_wp2
  have bO := Boxed.new w 41 (.slice none 0 0)
  have hB0 : Below w.heap.size w (w.alloc (.cells #[.slice none 0 0] 41)) := (Below.refl _ w).alloc (Nat.le_refl _) _
  refine wpIn_rangeFunc_ownG rfl h1 (gf := 46) (lb := #[.pointer (some ⟨Bs, 0, none⟩)]) rfl trivial (enters_of Tryz.func46 (by kernel_rfl) rfl)
    (iValues_stops (n - 1) (by omega) Bs w.heap.size sv ks hreach _ (by simp; omega) (by simp) ((hB0.cell (p := ⟨Bs, 0, none⟩) hBs).trans hc) (hI.below hB0)) belowK_t (belowK_b (by simp)) (Below.refl _ _) (fun _ => rfl)
    (fun pre W => (∃ v, Boxed W w.heap.size 41 v ∧ W.ownsRow w.heap.size 9 1 v pre.length (pre.map Value.string) ∧ True) ∧ Below w.heap.size w W)
    (fun _ _ _ => False)
    (OwnFrom.and (Own.from (holdsRow_own w.heap.size w.heap.size 41 9 1 (fun pre : List ByteArray => pre.length) (fun pre => pre.map Value.string) (fun _ _ => True)) _) (ownFrom_below (Nat.le_refl _) (by simp)))
    (fun _ _ _ _ _ hs _ _ => hs)
    ⟨⟨_, bO, World.ownsRow_nil _ _ _ _, trivial⟩, hB0⟩
    (fun x => { tmps := #[.slice none 0 0, .func (.func 46) #[] #[.pointer (some ⟨Bs, 0, none⟩)], .pointer (some ⟨w.heap.size, 0, none⟩), undef, .slice none 0 0, .string x, .func (.func 46) #[] #[.pointer (some ⟨Bs, 0, none⟩)], .string x, undef, undef, undef, undef, undef], defers := [] }) ?assign ?body ?done ?stop
  case assign =>
    intro l x W K hK
    gi_wp2
    exact hK
  case body =>
    rintro l pre x W ⟨⟨v, hv, hrow, _⟩, hB⟩ hlt
    have hc := hv.cell
    gi_wp2_with (gi_at_builtin; refine wpListIn_append_own _ rfl _ _ 41 rfl w.heap.size 9 i0 (.string ⟨#[]⟩) 1 16 Tryz.underlying41 hi hz0 hz1 hz2 rfl (by decide) _ _ _ rfl (hrow.alloc _) ⟨W.heap.size, 0, none⟩ 1 1 [.string x] rfl rfl (cell_one_new _ _ _) (by simp [Value.oneCell']) (by simp [maxLen]; omega) (by omega) (by have := hB.size; simp; omega) ?_; intro v' w1 hown' hgrow _; obtain ⟨g', cap', rfl⟩ := ownsRow_succ hown'; obtain ⟨hv1, hv2, hr2, hk2, hb2⟩ := hv.appended (by decide) hrow hB.size (Nat.le_refl _) hown' hgrow; have hc1 := hv1.cell; have hf1 := hv1.frozen)
    exact ⟨hk2.from _, hb2, ⟨_, hv2, by simpa using hr2, trivial⟩, hB.trans hb2⟩
  case done =>
    rintro D ys W hD rfl ⟨⟨v, hv, hrow, _⟩, hB⟩ hK
    have hc := hv.cell
    gi_wp2
    refine ⟨by simp, .inl ⟨_, _, rfl, run_takeDeferred hK, ?_⟩⟩
    exact ⟨_, results_tmp rfl _ _ _, v, rfl, ownsRow_putObj hrow _ hK rfl, hB.trans (belowK_b (w := w) (Nat.le_refl _) W D _ _ (by simp at hD; omega) hK rfl rfl)⟩
  case stop =>
    rintro D c pre W _ _ h _
    exact h.elim
set_option maxHeartbeats 1000000 in
theorem iCollect_in (n : Nat) (hn : 4 ≤ n) (Bs : Nat) (sv : Value) (ks : List ByteArray) (hreach : ks.length ≤ 1048576) (w : World) (hBs : Bs < w.heap.size) (hc : w.cell? ⟨Bs, 0, none⟩ = some sv) (hI : TextsIn w.heap.size w sv ks) :
    CallsIn Fence.wide n Tryz.prog 44 #[.func (.func 46) #[] #[.pointer (some ⟨Bs, 0, none⟩)]] w (MadeT w ks) := by
  have h1 : 1 ≤ n := by omega
  have HA := iAppendSeq_in (n - 1) (by omega) Bs sv ks hreach w hBs hc hI
  refine callsIn_of_wp Tryz.func44 rfl trivial ?_ rfl
  simp only [Tryz.ntmps44, List.size_toArray, List.length_cons, List.length_nil, Nat.reduceAdd, Nat.reduceSub, Array.replicate_succ, Array.replicate_zero, List.push_toArray, List.append_toArray, List.nil_append, List.cons_append]
  have hf : Fence.wide.fn 71 := trivial
  gi_wp2_with (gi_at_call 71; refine HA.mono ?_; rintro e w' ⟨v, rfl, ho, hb⟩)
  go_ret
  exact ⟨v, rfl, ho, hb⟩
theorem enc_back (ks : List ByteArray) : ks.map Value.string = (ks.map fun k => k.data.toList).map encStr := by
  rw [List.map_map]
  exact List.map_congr_left fun k _ => by cases k; rfl
theorem srt_back (ks : List ByteArray) : (srtV ks).map Value.string = ((ks.map fun k => k.data.toList).mergeSort fun x y => decide (x ≤ y)).map encStr := by
  unfold srtV
  rw [List.map_map]; rfl
theorem srt_length (ks : List ByteArray) : (srtV ks).length = (ks.map fun k => k.data.toList).length := by
  unfold srtV
  rw [List.length_map, List.length_mergeSort]
set_option maxRecDepth 100000 in
set_option maxHeartbeats 2000000 in
/-- slices.Sorted(slices.Values(ks)): the names sorted, in a row of the call's own. -/
theorem iSorted_any (Bs : Nat) (sv : Value) (ks : List ByteArray) (hreach : ks.length ≤ 1048576) (w : World) (hBs : Bs < w.heap.size) (hc : w.cell? ⟨Bs, 0, none⟩ = some sv) (hI : TextsIn w.heap.size w sv ks) :
    Calls Tryz.prog 20 #[.func (.func 46) #[] #[.pointer (some ⟨Bs, 0, none⟩)]] w (MadeT w (srtV ks)) := by
  refine (callsIn_wide (n := 6)).1 ?_
  have HC := iCollect_in 5 (by omega) Bs sv ks hreach w hBs hc hI
  have HS : ∀ blk cap (ss : List (List UInt8)) W, Holds encStr W blk 0 ss.toArray → blk < W.heap.size → ss.length < 4611686018427387904 → CallsIn Fence.wide 5 Tryz.prog 45 #[.slice (some ⟨blk, 0, none⟩) ss.length cap] W fun e w' => e = .returned (.tuple #[]) ∧ ∃ n os, w' = grow (putRow encStr (Sort.ahead W n) blk 0 (ss.mergeSort fun x y => decide (x ≤ y)).toArray) os :=
    fun blk cap ss W h1 h2 h3 => callsIn_wide.2 (Tryz.slices_Sort_string blk 0 cap ss W h1 h2 h3)
  have HN : ∀ cap W, CallsIn Fence.wide 5 Tryz.prog 45 #[.slice none 0 cap] W fun e w' => e = .returned (.tuple #[]) ∧ w' = W := fun cap W => callsIn_wide.2 (Tryz.slices_Sort_string_none none cap W)
  have hf1 : Fence.wide.fn 44 := trivial
  have hf2 : Fence.wide.fn 45 := trivial
  have h1 : 1 ≤ 6 := by omega
  refine callsIn_of_wp Tryz.func20 rfl trivial ?_ rfl
  simp only [Tryz.ntmps20, List.size_toArray, List.length_cons, List.length_nil, Nat.reduceAdd, Nat.reduceSub, Array.replicate_succ, Array.replicate_zero, List.push_toArray, List.append_toArray, List.nil_append, List.cons_append]
  gi_wp2_with (gi_at_call 44; refine HC.mono ?_; rintro e W ⟨v, rfl, hrow, hb⟩)
  have hrow' : W.ownsRow w.heap.size 9 1 v (ks.map fun k => k.data.toList).length ((ks.map fun k => k.data.toList).map encStr) := by
    rw [← enc_back, List.length_map]; exact hrow
  have HE1 := Lib.hid (srt_back ks)
  have HE2 := Lib.hid (srt_length ks)
  have HR := Lib.hid hreach
  have hl : (ks.map fun k => k.data.toList).length = ks.length := List.length_map ..
  clear hrow
  rcases hrow'.2 with ⟨rfl, hz⟩ | ⟨gb, cap, cur, rfl, hbase, hgb, r1, r2, r3, r4⟩
  · have hk : ks = [] := List.eq_nil_of_length_eq_zero (by omega)
    subst hk
    gi_wp2_with (gi_at_call 45; refine (HN 0 W).mono ?_; rintro e w' ⟨rfl, rfl⟩)
    go_ret
    exact ⟨.slice none 0 0, rfl, by rw [show srtV [] = [] by simp [srtV]]; exact World.ownsRow_nil _ _ _ _, hb⟩
  · have hH : Holds encStr W gb 0 (ks.map fun k => k.data.toList).toArray := holds_of_block hgb (by simpa using r4)
    have hgl : gb < W.heap.size := (Array.getElem?_eq_some_iff.1 hgb).1
    have cS := HS gb cap (ks.map fun k => k.data.toList) W hH hgl (by omega)
    have HX := Lib.hid hb
    generalize (ks.map fun k => k.data.toList) = ss at *
    gi_wp2_with (gi_at_call 45; refine cS.mono ?_; rintro e w' ⟨rfl, nn, os, rfl⟩)
    go_ret
    refine ⟨_, rfl, ?_, HX.out.grown (grownBy_sorted _) HX.out.size (fun j hj => by cases hj; exact hbase)⟩
    unfold OwnT
    rw [HE1.out, HE2.out]
    have hh := ownsRow_sorted (n := nn) (os := os) (ts := ss.mergeSort fun x y => decide (x ≤ y)) (List.length_mergeSort ..) hbase hgb r1 r2 r3
    rw [hl] at hh ⊢
    exact hh
end Go.Proofs.YtlnkjpacjbhncaaGreatDoor

/-
  Texts of this seat, laid together.
-/
import Derived.RangeFuncBox
import Derived.Test.YtnlepnfdgdbkoaaGreatDoorProg
import Derived.RangeFuncLeaves
import Derived.RangeFuncKeeps
import Derived.Shelf.Abstract
import Derived.RangeFuncFrom
import Derived.Test.YtnlepnfdgdbkoaaGreatDoorYStepI
import Derived.LoopIn
import Derived.WalkKit
import Derived.TacticsInMore
import Derived.RangeFuncCalls
import Derived.OwnWalkIn
import Derived.LoopNIn
import Derived.BigGuardPart
import Derived.Deep.MidRow
section
namespace Go.Proofs.YtnlepnfdgdbkoaaGreatDoor
open Go.RowKit
set_option linter.unusedVariables false
def keepPost (Kp : World → World → Prop) (D l : Nat) (I : World → Prop) (W : World) : Exit → Act → World → Prop
  | .normal, _, W' => W'.heap[l]? = W.heap[l]? ∧ W'.heap[D]? = W.heap[D]? ∧ Kp W W' ∧ I W'
  | .ret, _, _ => False
  | .exit _, _, _ => False
  | .goto _, _, _ => False
  | .panic _, _, _ => False
  | .outgrown, _, _ => False
theorem wpIn_range_keep {P : Program} {α : Type} {n : Nat} {g : Operand} {ps : Array Tmp} {assign body : Code} {Q : Exit → Act → World → Prop} {a : Act} {w : World}
    (h1 : 1 ≤ n) {gf : Nat} {lb : Array Value} (hg : a.eval g = .func (.func gf) #[] lb) (eg : ∀ args w, (callFunc gf args).run P w = .ok (.enter gf args) w)
    {encs : α → Array Value} (xs : List α) (Kp : World → World → Prop)
    (hseq : ∀ (J : List α → World → Prop) (W : World), Below w.heap.size w W →
      (∀ pre x W1, J pre W1 → pre.length < xs.length → YieldAt Fence.wide (n - 1 - 1) P (w.heap.size + 1) (encs x) W1 fun e W' => e = .returned (.bool true) ∧ J (pre ++ [x]) W' ∧ Kp W1 W') →
      J [] W → CallsIn Fence.wide (n - 1) P gf (#[.func (.yield (w.heap.size + 1)) #[] #[]] ++ lb) W fun e W' => (∃ v, e = .returned v) ∧ J xs W')
    (hKt : ∀ {A B C : World}, Kp A B → Kp B C → Kp A C) (hKb : ∀ (W : World) (o' : Obj), w.heap.size + 1 < W.heap.size → Kp W (W.putObj (w.heap.size + 1) o'))
    (hps : ∀ x, (encs x).size = ps.size)
    (I : List α → World → Prop)
    (h0 : ∀ o : Loop, I [] ((w.alloc (.deferred (some []))).alloc (.loop o)))
    (hI : ∀ pre W o', I pre W → w.heap.size + 1 < W.heap.size → I pre (W.putObj (w.heap.size + 1) o')) (a₁ : α → Act)
    (hassign : ∀ (x : α) (W : World) (K : Act → World → Prop), K (a₁ x) W →
      assign.wpIn (Fence.wide.inRound (w.heap.size + 1)) (n - 1 - 1) P (Exit.then K (fun _ _ _ => False)) { tmps := (ps.zip (encs x)).foldl (fun t (p, v) => t.setIfInBounds p v) a.tmps, defers := [] } W)
    (hbody : ∀ (pre : List α) (x : α) (W : World), I pre W → pre.length < xs.length → w.heap.size + 1 < W.heap.size →
      body.wpIn (Fence.wide.inRound (w.heap.size + 1)) (n - 1 - 1) P (keepPost Kp w.heap.size (w.heap.size + 1) (I (pre ++ [x])) W) (a₁ x) W)
    (hdone : ∀ (W : World), I xs W → W.heap[w.heap.size]? = some (.deferred (some [])) → Q .normal { a with defers := { target := .collected w.heap.size, args := #[] } :: a.defers } W) :
    (Code.rangeFunc g ps assign body).wpIn Fence.wide n P Q a w := by
  refine wpIn_rangeFunc ?_
  intro fn hfn
  obtain ⟨rec, hrec⟩ : ∃ rec : LoopState → Option Code → Loop, rec = fun st pe => { state := st, pending := pe, fn, tmps := a.tmps, params := ps, assign, body, defers := w.heap.size } := ⟨_, rfl⟩
  obtain ⟨W1, hW1⟩ : ∃ W1, (w.alloc (.deferred (some []))).alloc (.loop (rec .ready none)) = W1 := ⟨_, rfl⟩
  have hL1 : W1.heap[w.heap.size + 1]? = some (.loop (rec .ready none)) := by
    rw [← hW1]; have := World.alloc_heap_new (w.alloc (.deferred (some []))) (.loop (rec .ready none)); rwa [World.size_alloc] at this
  have hK1 : W1.heap[w.heap.size]? = some (.deferred (some [])) := by
    rw [← hW1]; exact (Below.heap_alloc _ _ _ (by simp)).trans (World.alloc_heap_new w _)
  have hI1 : I [] W1 := by rw [← hW1]; exact h0 _
  have hb1 : Below w.heap.size w W1 := by
    rw [← hW1]; exact ((Below.refl _ w).alloc (Nat.le_refl _) _).alloc (by simp) _
  refine ⟨w.heap.size + 1, [{ target := .collected w.heap.size, args := #[] }], W1, { target := .fn (.func gf) lb, args := #[.func (.yield (w.heap.size + 1)) #[] #[]] }, W1, gf,
    #[.func (.yield (w.heap.size + 1)) #[] #[]] ++ lb, W1, ?_, ?_, ?_, ?_, fun _ => h1, ?_⟩
  · rw [← hW1, hrec]; exact run_enterLoop_outer _ _ _ _ _
  · simp only [resolve, hg]
    simp [go_sem]
  · intro f' hf'; simp [Target.leads] at hf'; subst hf'; exact trivial
  · simp [invoke, go_sem, eg]
  · refine (hseq (fun pre W => I pre W ∧ W.heap[w.heap.size + 1]? = some (.loop (rec .ready none)) ∧ W.heap[w.heap.size]? = some (.deferred (some []))) W1 hb1 ?_ ⟨hI1, hL1, hK1⟩).mono ?_
    · rintro pre x W ⟨hi, hl, hk⟩ hlen
      have hlt : w.heap.size + 1 < W.heap.size := (Array.getElem?_eq_some_iff.1 hl).1
      have hy := run_yield (P := P) (args := encs x) hl (by rw [hrec]; exact hps x)
      rw [hrec] at hy
      refine ⟨fn, _, assign, body, hy, roundIn_of_wpIn hfn (hassign x W _ ⟨_, run_beginRound hl (by rw [hrec]), ?_⟩)⟩
      have hl2 : (W.putObj (w.heap.size + 1) (.loop { rec .ready none with state := .busy })).heap[w.heap.size + 1]? = some (.loop { rec .ready none with state := .busy }) := World.putObj_heap_same hlt
      have hk2 : (W.putObj (w.heap.size + 1) (.loop { rec .ready none with state := .busy })).heap[w.heap.size]? = some (.deferred (some [])) := (World.putObj_heap_other (by omega)).trans hk
      have hs2 : w.heap.size + 1 < (W.putObj (w.heap.size + 1) (.loop { rec .ready none with state := .busy })).heap.size := (Array.getElem?_eq_some_iff.1 hl2).1
      refine wpIn_mono (hbody pre x _ (hI _ _ _ hi hlt) hlen hs2) ?_
      rintro e a3 W3 hp
      cases e with
      | normal =>
        obtain ⟨hl3, hk3, hkp3, hi3⟩ := hp
        have hl4 : W3.heap[w.heap.size + 1]? = some (.loop { rec .ready none with state := .busy }) := hl3.trans hl2
        have hs3 : w.heap.size + 1 < W3.heap.size := (Array.getElem?_eq_some_iff.1 hl4).1
        have hr := run_endRound (P := P) none hl4
        rw [hrec] at hr hl4 ⊢
        refine ⟨_, _, hr, rfl, ⟨hI _ _ _ hi3 hs3, World.putObj_heap_same hs3, (World.putObj_heap_other (by omega)).trans (hk3.trans hk2)⟩, hKt (hKt (hKb _ _ hlt) hkp3) (hKb _ _ hs3)⟩
      | ret => exact hp.elim
      | exit id => exact hp.elim
      | goto t => exact hp.elim
      | panic ch => exact hp.elim
      | outgrown => exact hp.elim
    · rintro e W2 ⟨⟨v, rfl⟩, hi, hl, hk⟩
      have hs : w.heap.size + 1 < W2.heap.size := (Array.getElem?_eq_some_iff.1 hl).1
      exact ⟨none, _, by have := run_endLoop (P := P) hl (by rw [hrec]; simp); rw [hrec] at this; exact this, hdone _ (hI _ _ _ hi hs) ((World.putObj_heap_other (by omega)).trans hk)⟩
end Go.Proofs.YtnlepnfdgdbkoaaGreatDoor
end
section
namespace Go.Proofs.YtnlepnfdgdbkoaaGreatDoor
open Go.RowKit M
set_option linter.unusedVariables false
set_option linter.unusedSimpArgs false
attribute [local go_sem] Oper.semAt_some
def GivesSeq (gf : Nat) (lb : Array Value) (w0 : World) (zs : List Int) : Prop :=
  ∀ (n l : Nat) (J : List Int → World → Prop) (W : World), 3 ≤ n → Below w0.heap.size w0 W →
    (∀ pre x W1, J pre W1 → pre.length < zs.length → YieldAt Fence.wide (n - 1) Tryz.prog l #[.int .i64 x] W1 fun e W' => e = .returned (.bool true) ∧ J (pre ++ [x]) W' ∧ Below w0.heap.size W1 W') →
    J [] W → CallsIn Fence.wide n Tryz.prog gf (#[.func (.yield l) #[] #[]] ++ lb) W fun e W' => (∃ v, e = .returned v) ∧ J zs W'
theorem grown_putObj15 (W : World) (l : Nat) (o : Obj) : W.grownBy (W.putObj l o) (some l) := grownBy_putObj' W l o
theorem BW.put {w : World} {κ : Nat → Nat} {g : Nat} {s : S} {vc vj vt vl : Value} (h : BW w κ g s vc vj vt vl) (l : Nat) (o : Obj) (hl : κ l = 0) : BW (w.putObj l o) κ g s vc vj vt vl :=
  ⟨h.blk.grown (grown_putObj15 w l o) (fun e => by have e := Option.some.inj e; subst e; have := h.six; omega),
   h.wt.off (Chg.of_grown (S := fun k => k = l) (grown_putObj15 w l o) (fun i e => (Option.some.inj e).symm)) (fun k hk => .inl (by rw [hk]; exact hl)), h.six⟩
structure RunJ (w : World) (g D : Nat) (s : S) (W : World) : Prop where
  ex : ∃ κ vc vj vt vl, BW W κ g s vc vj vt vl ∧ (∀ k, κ k ≠ 0 → w.heap.size + 2 ≤ k) ∧ κ D = 0 ∧ κ (D + 1) = 0
  box : Blk W (w.heap.size + 1) 33 #[.slice none 0 0, .slice none 0 0, .slice none 0 0, .slice none 0 0, .int .i64 0, .int .i64 0]
  bel : Below w.heap.size w W
set_option maxRecDepth 100000 in
set_option maxHeartbeats 8000000 in
theorem iRun_any (w : World) (κ : Nat → Nat) (s : S) (vc vj vt vl : Value) (zs : List Int) (gf : Nat) (lb : Array Value) (h : WT w κ s vc vj vt vl) (hs : SmallS s) (hf : s.Fit) (hkf : KeepF s) (hlen : s.log.length + zs.length ≤ 1048576)
    (eg : ∀ args w, (callFunc gf args).run Tryz.prog w = .ok (.enter gf args) w) (hseq : GivesSeq gf lb w zs) :
    Calls Tryz.prog 21 #[.agg (worVals s vc vj vt vl), .func (.func gf) #[] lb] w (NewC w (runS s zs)) := by
  have hulw := Tryz.underlying33
  have HSRC := Lib.hid (fun W (hb : Below w.heap.size w W) => h.below hb)
  have HS := Lib.hid hs
  have HF := Lib.hid hf
  have HONE := Lib.hid h.one
  have HKF := Lib.hid hkf
  clear h hs hf hkf
  refine (callsIn_wide (n := 7)).1 (callsIn_of_wp_marks Tryz.func21 rfl trivial (wpIn_wide.2 ?_) rfl)
  simp only [Tryz.ntmps21, List.size_toArray, List.length_cons, List.length_nil, Nat.reduceAdd, Nat.reduceSub, Array.replicate_succ, Array.replicate_zero, List.push_toArray, List.append_toArray, List.nil_append, List.cons_append]
  go_upto_region 1 with fail
  refine wp_gen (fun W => Blk W w.heap.size 33 (worVals s vc vj vt vl) ∧ Blk W (w.heap.size + 1) 33 #[.slice none 0 0, .slice none 0 0, .slice none 0 0, .slice none 0 0, .int .i64 0, .int .i64 0] ∧ Below w.heap.size w W) ⟨(Blk.new w _ _ _ rfl).alloc _, Blk.new _ _ _ _ (by simp [go_sem]), ((Below.refl _ _).alloc (Nat.le_refl _) _).alloc (by simp [go_sem]) _⟩ ?_
  rintro W ⟨h0, h1, hb⟩
  have G0 := Lib.hid h0
  have G1 := Lib.hid h1
  have HB := Lib.hid hb
  have hgl : w.heap.size + 2 ≤ W.heap.size := h1.lt
  clear h0 h1 hb
  go_wp2_with ((with_reducible show wpList _ _ _ _ _ _); refine wpList_load_row rfl 33 _ rfl w.heap.size rfl 33 (worVals s vc vj vt vl) (0, 0) _ G0.out hulw rfl (by kernel_rfl) ?_)
  refine (iCloneW_any W κ s vc vj vt vl (HSRC.out W HB.out) HS.out).mono ?_
  rintro e V ⟨vc1, vj1, vt1, vl1, rfl, hp, hb1⟩
  obtain ⟨κ1, ht1, hk1⟩ := hp.wt
  have hone := ht1.one
  have HT := Lib.hid ht1
  have G0 := Lib.hid (G0.out.below hb1)
  have G1 := Lib.hid (G1.out.below hb1)
  have HB := Lib.hid (HB.out.trans (hb1.mono HB.out.size))
  have hsz := hb1.size
  clear hp hb1 ht1 HONE
  go_upto_region 2 with ((with_reducible show wpList _ _ _ _ _ _); refine wpList_store_row rfl 33 _ _ rfl V.heap.size (worVals s vc1 vj1 vt1 vl1) rfl rfl 33 _ (Blk.new V V.heap.size 33 #[.slice none 0 0, .slice none 0 0, .slice none 0 0, .slice none 0 0, .int .i64 0, .int .i64 0] rfl) (by kernel_rfl) rfl hone ?_)
  have hbw := below_oneL V (.cells #[.slice none 0 0, .slice none 0 0, .slice none 0 0, .slice none 0 0, .int .i64 0, .int .i64 0] 33)
  have hnew := HT.out.new0 (Nat.le_refl V.heap.size)
  have g1 := grown_setRow (V.alloc (.cells #[.slice none 0 0, .slice none 0 0, .slice none 0 0, .slice none 0 0, .int .i64 0, .int .i64 0] 33)) V.heap.size (worVals s vc1 vj1 vt1 vl1)
  refine wp_gen (fun X => (Blk X w.heap.size 33 (worVals s vc vj vt vl) ∧ Blk X (w.heap.size + 1) 33 #[.slice none 0 0, .slice none 0 0, .slice none 0 0, .slice none 0 0, .int .i64 0, .int .i64 0]) ∧ Blk X V.heap.size 33 (worVals s vc1 vj1 vt1 vl1) ∧ WT X κ1 s vc1 vj1 vt1 vl1 ∧ Below w.heap.size w X) ⟨⟨(G0.out.below hbw).grown g1 (fun e => by injection e with e; omega), (G1.out.below hbw).grown g1 (fun e => by injection e with e; omega)⟩, setRow_heap _ _ _ _ _ _ (Blk.new V V.heap.size 33 #[.slice none 0 0, .slice none 0 0, .slice none 0 0, .slice none 0 0, .int .i64 0, .int .i64 0] rfl), (HT.out.below hbw).setRow (.inl hnew) _, below_setRow' (HB.out.trans (hbw.mono HB.out.size)) (by omega) _⟩ ?_
  clear G0 G1 HB HT hbw g1 hone
  generalize V.heap.size = g at *
  rintro X ⟨⟨h0, h1⟩, h2, ht, hb⟩
  have G0 := Lib.hid h0
  have G1 := Lib.hid h1
  have G2 := Lib.hid h2
  have HT := Lib.hid ht
  have HB := Lib.hid hb
  clear h0 h1 h2 ht hb
  have HHS := Lib.hid (fun W (hb : Below w.heap.size w W) => iWorldOk_any W s vc vj vt vl (HSRC.out W hb).win HF.out)
  go_wp2_with ((with_reducible show wpList _ _ _ _ _ _); refine wpList_load_row rfl 33 _ rfl w.heap.size rfl 33 (worVals s vc vj vt vl) (0, 0) _ G0.out hulw rfl (by kernel_rfl) ?_)
  obtain ⟨r, hr⟩ : ∃ r, worldOkV s = r := ⟨_, rfl⟩
  have hcs := HHS.out X HB.out
  rw [hr] at hcs
  have HR := Lib.hid hr
  clear hr HHS
  refine hcs.mono ?_
  rintro e X' ⟨rfl, hb2⟩
  have G1 := Lib.hid (G1.out.below hb2)
  have G2 := Lib.hid (G2.out.below hb2)
  have HT := Lib.hid (HT.out.below hb2)
  have HB := Lib.hid (HB.out.trans (hb2.mono HB.out.size))
  have hsz2 := HB.out.size
  have hg2 := G2.out.lt
  clear hcs hb2 G0 HSRC
  have HZ := Lib.hid (show κ1 (w.heap.size + 1) = 0 from by by_cases e : κ1 (w.heap.size + 1) = 0; exact e; have := hk1 _ e; omega)
  cases r with
  | false =>
    have e9 := runS_no HR.out zs
    have HK := Lib.hid (show ∀ k, κ1 k ≠ 0 → w.heap.size ≤ k from fun k hk => by have := hk1 k hk; omega)
    have hone := HT.out.one
    go_wp2_with ((with_reducible show wpList _ _ _ _ _ _); first | refine wpList_load_row rfl 33 _ rfl g rfl 33 (worVals s vc1 vj1 vt1 vl1) (0, 0) _ G2.out hulw rfl (by kernel_rfl) ?_ | refine wpList_store_row rfl 33 _ _ rfl (w.heap.size + 1) (worVals s vc1 vj1 vt1 vl1) rfl rfl 33 _ G1.out (by kernel_rfl) rfl hone ?_)
    have hz : κ1 (w.heap.size + 1) = 0 := HZ.out
    have h1 := G1.out
    refine ⟨_, results_cell_row rfl _ _ _ _ _ (0, 0) _ rfl (setRow_heap _ _ _ _ _ _ h1) hulw rfl (by kernel_rfl), κ1, vc1, vj1, vt1, vl1, by rw [e9], ?_, HK.out, below_setRow' HB.out (Nat.le_succ w.heap.size) _⟩
    rw [e9]
    exact HT.out.setRow (.inl hz) _
  | true =>
    obtain ⟨κ2, ht2, hsix, hk2⟩ := HT.out.six hnew hg2
    have hok := HR.out
    have hkl : ∀ k, κ2 k ≠ 0 → w.heap.size + 2 ≤ k := fun k hk => by
      rcases hk2 k hk with e | e
      · omega
      · have := hk1 k e; omega
    have hbx := G1.out
    have hb0 := HB.out
    have hbg := G2.out
    go_wp2_with fail
    refine (wpIn_wide (n := 7)).1 ?_
    refine wpIn_range_keep (by omega) (gf := gf) (lb := lb) rfl eg zs (Below w.heap.size) (fun J W hW hY h0 => hseq 6 _ J W (by omega) (hb0.trans (hW.mono hb0.size)) hY h0) belowK_t (fun W o' hl => (Below.refl _ W).grown (grown_putObj15 W _ o') (by omega) (fun k e => by have := Option.some.inj e; omega)) (fun _ => rfl)
      (fun pre W => RunJ w g X'.heap.size (runS s pre) W) ?h0 ?hI (fun x => { tmps := #[.agg (worVals s vc vj vt vl), .func (.func gf) #[] lb, .pointer (some ⟨w.heap.size, 0, none⟩), undef, .pointer (some ⟨w.heap.size + 1, 0, none⟩), .pointer (some ⟨g, 0, none⟩), .int .i64 x, .agg (worVals s vc vj vt vl), .agg (worVals s vc1 vj1 vt1 vl1), .agg (worVals s vc vj vt vl), .bool true, .bool false, undef, .func (.func gf) #[] lb, .int .i64 x, undef, undef, undef], defers := [] }) ?assign ?body ?done
    case h0 =>
      intro o
      have hd : Below X'.heap.size X' ((X'.alloc (.deferred (some []))).alloc (.loop o)) := ((Below.refl _ _).alloc (Nat.le_refl _) _).alloc (by simp) _
      exact ⟨⟨κ2, vc1, vj1, vt1, vl1, ⟨hbg.below hd, ht2.below hd, hsix⟩, hkl, ht2.new0 (Nat.le_refl _), ht2.new0 (Nat.le_succ _)⟩, hbx.below hd, hb0.trans (hd.mono hb0.size)⟩
    case hI =>
      rintro pre W o' ⟨⟨κ, vc, vj, vt, vl, hbw, hk, hD, hl⟩, hb, hB⟩ hsz
      exact ⟨⟨κ, vc, vj, vt, vl, hbw.put _ o' hl, hk, hD, hl⟩, hb.grown (grown_putObj15 _ _ _) (fun e => by have := Option.some.inj e; omega), hB.grown (grown_putObj15 _ _ _) hB.size (fun k e => by have := Option.some.inj e; omega)⟩
    case assign =>
      intro x W K hK
      gi_wp2
      exact hK
    case body =>
      rintro pre x W ⟨⟨κ, vc, vj, vt, vl, hbw, hk, hD, hl⟩, hb, hB⟩ hlen2 hsz
      have hv : worldOkV (runS s pre) = true := by rw [runS_valid]; exact hok
      have hll := runS_len hok pre
      have HC := iStepIn_any W κ g (runS s pre) vc vj vt vl x hbw hv (by omega) (runS_keepF hok HKF.out pre)
      have HS2 := runS_snoc s pre x
      rw [← HS2] at HC
      gi_wp2
      refine ⟨trivial, ?_⟩
      refine (CallsIn.inRound (X'.heap.size + 1) (callsIn_wide.2 HC)).mono ?_
      rintro e W2 ⟨rfl, κ3, vc3, vj3, vt3, vl3, hbw3, hmv⟩
      gi_wp2
      have hsz2 := hmv.size
      refine ⟨hmv.chg.block _ hsz (fun q => q hl), hmv.chg.block _ (by omega) (fun q => q hD), hmv.to_below (Below.refl _ _) (by omega) (fun k hk9 => by have := hk k hk9; omega), ⟨⟨κ3, vc3, vj3, vt3, vl3, hbw3, fun k hk9 => ?_, (hmv.old _ (by omega)).trans hD, (hmv.old _ hsz).trans hl⟩, hb.mv hmv ?_, hmv.to_below hB hB.size (fun k hk9 => by have := hk k hk9; omega)⟩⟩
      · by_cases hlt : k < W.heap.size
        · exact hk k (by rw [← hmv.old k hlt]; exact hk9)
        · omega
      · by_cases e : κ (w.heap.size + 1) = 0
        · exact e
        · have := hk _ e; omega
    case done =>
      rintro W ⟨⟨κ, vc, vj, vt, vl, hbw, hk, hD, hl⟩, hb, hB⟩ hK
      have hone := hbw.wt.one
      have hG := hbw.blk
      go_wp2_with ((with_reducible show wpList _ _ _ _ _ _); first | refine wpList_load_row rfl 33 _ rfl g rfl 33 (worVals (runS s zs) vc vj vt vl) (0, 0) _ hG hulw rfl (by kernel_rfl) ?_ | refine wpList_store_row rfl 33 _ _ rfl (w.heap.size + 1) (worVals (runS s zs) vc vj vt vl) rfl rfl 33 _ hb (by kernel_rfl) rfl hone ?_)
      have hlx := hbx.lt
      have hzz : κ (w.heap.size + 1) = 0 := by
        by_cases e : κ (w.heap.size + 1) = 0
        · exact e
        · have := hk _ e; omega
      have hk2 : (W.setRow (w.heap.size + 1) (worVals (runS s zs) vc vj vt vl)).heap[X'.heap.size]? = some (.deferred (some [])) := (setRow_other _ (w.heap.size + 1) X'.heap.size _ (by omega)).trans hK
      have hr2 := Blk.grown (setRow_heap W (w.heap.size + 1) _ (worVals (runS s zs) vc vj vt vl) _ _ hb) (grown_putObj15 (W.setRow (w.heap.size + 1) (worVals (runS s zs) vc vj vt vl)) X'.heap.size (.deferred none)) (fun e => by have := Option.some.inj e; omega)
      have hbel := (below_setRow' hB (Nat.le_succ w.heap.size) (worVals (runS s zs) vc vj vt vl))
      have hwt := (hbw.wt.setRow (g := w.heap.size + 1) (.inl hzz) (worVals (runS s zs) vc vj vt vl)).off (Chg.of_grown (S := fun k => k = X'.heap.size) (grown_putObj15 (W.setRow (w.heap.size + 1) (worVals (runS s zs) vc vj vt vl)) X'.heap.size (.deferred none)) (fun i e => (Option.some.inj e).symm)) (fun k hk => .inl (by rw [hk]; exact hD))
      refine ⟨by simp, .inl ⟨_, _, rfl, run_takeDeferred hk2, ?_⟩⟩
      exact ⟨_, results_cell_row rfl _ _ _ _ _ (0, 0) _ rfl hr2 hulw rfl (by kernel_rfl), κ, vc, vj, vt, vl, rfl, hwt, fun k hk9 => by have := hk k hk9; omega, hbel.grown (grown_putObj15 _ _ _) hbel.size (fun k e => by have := Option.some.inj e; omega)⟩
end Go.Proofs.YtnlepnfdgdbkoaaGreatDoor
end
section
namespace Go.Proofs.YtnlepnfdgdbkoaaGreatDoor
open Go.RowKit Go.Deep Go.BigFrame M
set_option linter.unusedVariables false
set_option linter.unusedSimpArgs false
theorem Blk.rangeM15 {w : World} {g : Nat} {t : TypeId} {cs : Array Value} (h : Blk w g t cs) : w.rangeAt g 0 cs.toList := fun j v hv => by
  rw [Nat.zero_add]
  exact (h.get j).trans (by rw [← Array.getElem?_toList]; exact hv)
def turnL (n : Nat) : List Int := (List.range n).map fun i : Nat => (i : Int) % 4
theorem turnL_next (n : Nat) : turnL (n + 1) = turnL n ++ [(n : Int) % 4] := by unfold turnL; rw [List.range_succ, List.map_append]; rfl
theorem turnL_len (n : Nat) : (turnL n).length = n := by unfold turnL; rw [List.length_map, List.length_range]
set_option maxRecDepth 100000 in
set_option maxHeartbeats 2000000 in
theorem turn_gives (Bs n : Nat) (hn : n ≤ 4000) (w0 : World) (hBs : Bs < w0.heap.size) (hc : w0.cell? ⟨Bs, 0, none⟩ = some (.int .i64 n)) : GivesSeq 63 #[.pointer (some ⟨Bs, 0, none⟩)] w0 (turnL n) := by
  intro m l J W hm hW hY h0
  have hcW := (hW.cell (p := ⟨Bs, 0, none⟩) hBs).trans hc
  refine callsIn_of_wp Tryz.func63 rfl trivial ?_ rfl
  simp only [Tryz.ntmps63, List.size_toArray, List.length_cons, List.length_nil, Nat.reduceAdd, Nat.reduceSub, Array.replicate_succ, Array.replicate_zero, List.push_toArray, List.append_toArray, List.nil_append, List.cons_append]
  have h1 : 1 ≤ m := by omega
  gi_wp2
  gi_loopw [5] (fun i wr => ∃ k : Nat, k ≤ n ∧ i = .int .i64 k ∧ J (turnL k) wr) (fun i _ => n - (intOf i).toNat)
  case atStart => exact ⟨0, Nat.zero_le _, rfl, h0⟩
  case round =>
    obtain ⟨k, hk, rfl, hJs⟩ := hrel
    by_cases hlt : k < n
    · obtain ⟨fn, tmps, assign, body, hy, hR⟩ := hY (turnL k) ((k : Int) % 4) wr hJs (by rw [turnL_len, turnL_len]; exact hlt)
      gi_wp2
      refine hR.mono ?_
      rintro e W3 ⟨rfl, hJ3, hk3⟩
      gi_wp2
      go_roundw
      case rel => exact ⟨k + 1, by omega, by simp, by rw [turnL_next]; exact hJ3⟩
      case measure => simp [intOf]; omega
    · obtain rfl : k = n := by omega
      gi_wp2
      go_end0
      exact ⟨⟨_, rfl⟩, hJs⟩
theorem iInTurn_any (w : World) (n : Int) : Calls Tryz.prog 48 #[.int .i64 n] w fun e w' => e = .returned (.func (.func 63) #[] #[.pointer (some ⟨w.heap.size, 0, none⟩)]) ∧ w' = w.alloc (.cells #[.int .i64 n] 3) := by
  go_enter Tryz.func48, Tryz.ntmps48
  go_wp2
  go_ret
  exact ⟨rfl, rfl⟩
theorem NewC.in {w w0 : World} {s : S} {e : Ending} {w' : World} (h : NewC w0 s e w') (hb : Below w.heap.size w w0) : ∃ κ vc vj vt vl, e = .returned (.agg (worVals s vc vj vt vl)) ∧ WT w' κ s vc vj vt vl ∧ (∀ k, κ k ≠ 0 → w0.heap.size ≤ k) ∧ Below w0.heap.size w0 w' ∧ Below w.heap.size w w' := by
  obtain ⟨κ, vc, vj, vt, vl, he, h1, h2, h3⟩ := h
  exact ⟨κ, vc, vj, vt, vl, he, h1, h2, h3, hb.trans (h3.mono hb.size)⟩
set_option maxRecDepth 100000 in
set_option maxHeartbeats 8000000 in
theorem iRounds_any (w : World) (κ : Nat → Nat) (s : S) (vc vj vt vl : Value) (h : WT w κ s vc vj vt vl) (hs : SmallS s) (hf : s.Fit) (hkf : KeepF s) (zs : List Int) (hzs : zs = turnL 4000) (hlen : s.log.length + 4000 ≤ 1048576) :
    Calls Tryz.prog 30 #[.agg (worVals s vc vj vt vl), .int .i64 4000] w (NewC w (runS s zs)) := by
  have hulw := Tryz.underlying33
  have HSRC := Lib.hid (fun W (hb : Below w.heap.size w W) => h.below hb)
  have HS := Lib.hid hs
  have HF := Lib.hid hf
  have HKF := Lib.hid hkf
  have HONE := Lib.hid h.one
  clear h hs hf hkf
  go_enter Tryz.func30, Tryz.ntmps30
  go_upto_region 1 with fail
  refine wp_gen (fun W => Blk W w.heap.size 33 (worVals s vc vj vt vl) ∧ Blk W (w.heap.size + 1) 33 #[.slice none 0 0, .slice none 0 0, .slice none 0 0, .slice none 0 0, .int .i64 0, .int .i64 0] ∧ Below w.heap.size w W) ⟨(Blk.new w _ _ _ rfl).alloc _, Blk.new _ _ _ _ (by simp [go_sem]), ((Below.refl _ _).alloc (Nat.le_refl _) _).alloc (by simp [go_sem]) _⟩ ?_
  rintro W ⟨h0, h1, hb⟩
  have hbd : Below W.heap.size W W.drew := below_drew _ _
  have QA := Lib.hid (show Blk W.drew w.heap.size 33 (worVals s vc vj vt vl) from h0.below hbd)
  have QX := Lib.hid (show Blk W.drew (w.heap.size + 1) 33 #[.slice none 0 0, .slice none 0 0, .slice none 0 0, .slice none 0 0, .int .i64 0, .int .i64 0] from h1.below hbd)
  have HB := Lib.hid (hb.trans (hbd.mono hb.size))
  clear h0 h1 hb hbd
  refine wp_region_held_drew (S := fun X : World => Blk X w.heap.size 33 (worVals s vc vj vt vl)) (by kernel_rfl) QA.out (fun hHeld => ?_)
  clear hHeld
  generalize W.drew = X0 at *
  refine' wpAnyH_take (i := 0) (v := .agg (worVals s vc vj vt vl)) rfl (by kernel_rfl) (by kernel_rfl) (by kernel_rfl) (fun _ _ _ h => h) (yieldsIf_load_mid (by rfl) 33 _ rfl (w.heap.size) 0 rfl ((worVals s vc vj vt vl) : Array Value).toList _ (fun w' h => Blk.rangeM15 h) hulw rfl (by kernel_rfl)) QA.out ?_
  try simp only [Act.put, List.getElem_toArray, List.getElem_cons_succ, List.getElem_cons_zero, List.setIfInBounds_toArray, List.set_cons_zero, List.set_cons_succ]
  refine' wpAnyH_take (i := 1) (v := .int .i64 4000) rfl (by kernel_rfl) (by kernel_rfl) (by kernel_rfl) (fun _ _ _ h => h) (Or.inl ⟨by rfl, fun W h => by go_simp⟩) QA.out ?_
  try simp only [Act.put, List.getElem_toArray, List.getElem_cons_succ, List.getElem_cons_zero, List.setIfInBounds_toArray, List.set_cons_zero, List.set_cons_succ]
  refine' wpAnyH_take (i := 2) (v := .int .i64 4000) rfl (by kernel_rfl) (by kernel_rfl) (by kernel_rfl) (fun _ _ _ h => h) (Or.inl ⟨by rfl, fun W h => by go_simp⟩) QA.out ?_
  try simp only [Act.put, List.getElem_toArray, List.getElem_cons_succ, List.getElem_cons_zero, List.setIfInBounds_toArray, List.set_cons_zero, List.set_cons_succ]
  refine wpAnyH_ready (rs := [3]) (by kernel_rfl) (by simp) ?_
  refine AllReadyH.cons rfl (fun K hK => ?_) AllReadyH.nil
  go_simp
  refine (iInTurn_any _ _).mono ?_
  rintro e X1 ⟨rfl, hX⟩
  have hb : Below X0.heap.size X0 X1 := by rw [hX]; exact (Below.refl _ _).alloc (Nat.le_refl _) _
  have HG := Lib.hid (show GivesSeq 63 #[.pointer (some ⟨X0.heap.size, 0, none⟩)] X1 zs from by rw [hzs]; exact turn_gives _ 4000 (Nat.le_refl _) X1 (by rw [hX]; simp) (by rw [hX]; exact (Blk.new X0 X0.heap.size _ #[.int .i64 4000] rfl).get 0))
  replace QA := Lib.hid (QA.out.below hb); replace QX := Lib.hid (QX.out.below hb); replace HB := Lib.hid (HB.out.trans (hb.mono HB.out.size))
  refine hK.out _ _ QA.out (fun hHeld => ?_)
  clear hK K hHeld hb hX
  try simp only [Act.put, List.getElem_toArray, List.getElem_cons_succ, List.getElem_cons_zero, List.setIfInBounds_toArray, List.set_cons_zero, List.set_cons_succ]
  refine wpAnyH_ready (rs := [4]) (by kernel_rfl) (by simp) ?_
  refine AllReadyH.cons rfl (fun K hK => ?_) AllReadyH.nil
  go_simp
  have QL := Lib.hid QX.out.lt
  refine (iRun_any X1 κ s vc vj vt vl zs _ _ (HSRC.out _ HB.out) HS.out HF.out HKF.out (by rw [hzs, turnL_len]; exact hlen) (enters_of Tryz.func63 (by kernel_rfl) rfl) HG.out).mono ?_
  rintro e X2 ⟨κ2, vc2, vj2, vt2, vl2, rfl, hwt, hk, hb⟩
  have hsz := HB.out.size
  replace QA := Lib.hid (QA.out.below hb); replace QX := Lib.hid (QX.out.below hb); replace HB := Lib.hid (HB.out.trans (hb.mono HB.out.size))
  have HT := Lib.hid hwt
  have HK := Lib.hid (show ∀ k, κ2 k ≠ 0 → X1.heap.size ≤ k from hk)
  have HL := Lib.hid (show w.heap.size + 1 < X1.heap.size from QL.out)
  refine hK.out _ _ QA.out (fun hHeld => ?_)
  clear hK K hHeld hb hwt hk hsz HG
  try simp only [Act.put, List.getElem_toArray, List.getElem_cons_succ, List.getElem_cons_zero, List.setIfInBounds_toArray, List.set_cons_zero, List.set_cons_succ]
  refine wpAnyH_ready (rs := [5]) (by kernel_rfl) (by simp) ?_
  refine AllReadyH.cons rfl (fun K hK => ?_) AllReadyH.nil
  rw [if_pos (by rfl)]
  have hone := HT.out.one
  refine wp_store_row 33 _ _ rfl (w.heap.size + 1) (worVals (runS s zs) vc2 vj2 vt2 vl2) rfl rfl 33 _ QX.out (by kernel_rfl) rfl hone ?_
  have hz : κ2 (w.heap.size + 1) = 0 := by
    by_cases e : κ2 (w.heap.size + 1) = 0
    · exact e
    · have := HK.out _ e; have := HL.out; omega
  have hx := setRow_heap _ _ _ (worVals (runS s zs) vc2 vj2 vt2 vl2) _ _ QX.out
  have hw := HT.out.setRow (g := w.heap.size + 1) (.inl hz) (worVals (runS s zs) vc2 vj2 vt2 vl2)
  have hbb := below_setRow' HB.out (Nat.le_succ w.heap.size) (worVals (runS s zs) vc2 vj2 vt2 vl2)
  have hkk : ∀ k, κ2 k ≠ 0 → w.heap.size ≤ k := fun k hk => by have := HK.out k hk; have := HL.out; omega
  clear HB HT HK HL
  refine hK.out _ _ ((setRow_other _ (w.heap.size + 1) w.heap.size _ (by omega)).trans QA.out) (fun hHeld => ?_)
  clear hK K hHeld hone hz
  try simp only [Act.put, List.getElem_toArray, List.getElem_cons_succ, List.getElem_cons_zero, List.setIfInBounds_toArray, List.set_cons_zero, List.set_cons_succ]
  refine wpAnyH_done (by kernel_rfl) ?_ _
  go_wp2_with fail
  exact bodyPost_ret (v := .agg (worVals (runS s zs) vc2 vj2 vt2 vl2)) (results_cell_row rfl _ _ _ _ _ (0, 0) _ rfl hx hulw rfl (by kernel_rfl)) rfl ⟨κ2, _, _, _, _, rfl, hw, hkk, hbb⟩
end Go.Proofs.YtnlepnfdgdbkoaaGreatDoor
end

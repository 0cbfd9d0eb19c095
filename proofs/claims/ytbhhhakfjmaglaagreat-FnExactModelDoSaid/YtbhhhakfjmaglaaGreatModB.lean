/-
  Chapter 13's law on ModelDo: a model and its rows with the stretch of blocks they lie in; what marks on another stretch leave of them.
-/
import Derived.Test.YtbhhhakfjmaglaaGreatModK
import Derived.Test.YtbhhhakfjmaglaaGreatModX
import Derived.BigFrame
namespace Go.Proofs.YtbhhhakfjmaglaaGreat
open Go.RowKit M
set_option linter.unusedVariables false
set_option linter.unusedSimpArgs false
theorem mDo_small {m : Mo} (o : O) (hk : m.keys.length ≤ 1048576) (hr : m.rows.length ≤ 1048576) : (mDoV m o).1.keys.length ≤ 1048576 ∧ (mDoV m o).1.rows.length ≤ 1048576 ∧ (mDoV m o).2.2.length ≤ 1048576 := by
  have hl := mDoV_len m o
  by_cases h : modelOkV m = true
  · have h' := h
    unfold modelOkV at h'
    simp only [Bool.and_eq_true, decide_eq_true_eq] at h'
    have h4 := (report_at h'.2.2.1).1
    have h5 := h'.1
    omega
  · have e : mDoV m o = (m, 1, []) := by unfold mDoV; rw [if_neg fun q => h q.1]
    rw [e]
    exact ⟨hk, hr, Nat.zero_le _⟩
theorem wpList_load_rowM {P : Program} {ops : Array Oper} {rest : List Oper} {o : Oper} {a : Act} {w : World} {Q : Exit → Act → World → Prop} (ty : TypeId) (x : Operand) (ho : o.op = .load ty x)
    (g : Nat) (hx : a.eval x = .pointer (some ⟨g, 0, none⟩)) (t : TypeId) (cs : Array Value) (fr : Nat × Nat) (d : TypeDesc) (hg : w.heap[g]? = some (.cells cs t fr))
    (hu : P.underlying ty = some d) (hd : (match d with | .struct _ | .array _ _ => true | _ => false) = true) (hi : (P.info? ty).map (·.size) = some cs.size)
    (hw : Region.wanted o (yielded ops a.tmps) = true) (h : wpList P ops Q rest (a.put o.dst (.agg cs)) w) : wpList P ops Q (o :: rest) a w :=
  Go.BigFrame.wpList_want hw fun _ hK => wp_load_row ty x ho g hx t cs fr d hg hu hd hi (hK _ _ h)
/-- A model's rows and a row beside it, in blocks of [b, e). -/
structure TriE (w : World) (b e : Nat) (p : Mo × Int × List R) (vk vr vo : Value) : Prop where
  m : MoOwn w b p.1 vk vr
  r : OwnR w b vo p.2.2
  ap : Ap vk vo ∧ Ap vr vo
  lt : ∀ k, MoBl vk vr k ∨ vo.ownBlock = some k → k < e
structure MoE (w : World) (b e : Nat) (m : Mo) (vk vr : Value) : Prop where
  m : MoOwn w b m vk vr
  lt : ∀ k, MoBl vk vr k → k < e
theorem MoOwn.bl_lt {w : World} {b : Nat} {m : Mo} {vk vr : Value} (h : MoOwn w b m vk vr) (k : Nat) (hk : MoBl vk vr k) : k < w.heap.size := by
  rcases hk with e | e
  · exact h.keys.lt k e
  · exact h.rows.lt k e
theorem MoOwn.bl_ge {w : World} {b : Nat} {m : Mo} {vk vr : Value} (h : MoOwn w b m vk vr) (k : Nat) (hk : MoBl vk vr k) : b ≤ k := by
  rcases hk with e | e
  · exact h.keys.base_le k e
  · exact h.rows.base_le k e
theorem MoOwn.chg {S : Nat → Prop} {w w' : World} {b : Nat} {m : Mo} {vk vr : Value} (h : MoOwn w b m vk vr) (hc : Chg S w w') (hn : ∀ k, MoBl vk vr k → ¬ S k) : MoOwn w' b m vk vr :=
  ⟨ownsRow_chg h.keys hc fun k hk => hn k (.inl hk), ownsRow_chg h.rows hc fun k hk => hn k (.inr hk), h.ap⟩
theorem MoE.below {w w' : World} {b e : Nat} {m : Mo} {vk vr : Value} (h : MoE w b e m vk vr) (hb : Below w.heap.size w w') : MoE w' b e m vk vr := ⟨h.m.below hb, h.lt⟩
theorem MoE.of {w : World} {b : Nat} {m : Mo} {vk vr : Value} (h : MoOwn w b m vk vr) : MoE w b w.heap.size m vk vr := ⟨h, h.bl_lt⟩
theorem TriE.below {w w' : World} {b e : Nat} {p : Mo × Int × List R} {vk vr vo : Value} (h : TriE w b e p vk vr vo) (hb : Below w.heap.size w w') : TriE w' b e p vk vr vo := ⟨h.m.below hb, h.r.below hb, h.ap, h.lt⟩
theorem TriE.chg {S : Nat → Prop} {w w' : World} {b e : Nat} {p : Mo × Int × List R} {vk vr vo : Value} (h : TriE w b e p vk vr vo) (hc : Chg S w w') (hn : ∀ i, S i → i < b ∨ e ≤ i) : TriE w' b e p vk vr vo :=
  ⟨h.m.chg hc fun k hk s => by have := h.lt k (.inl hk); have := h.m.bl_ge k hk; rcases hn k s with q | q <;> omega,
   ownsRow_chg h.r hc fun k hk s => by have := h.lt k (.inr hk); have := h.r.base_le k hk; rcases hn k s with q | q <;> omega, h.ap, h.lt⟩
theorem TriE.farT {w w' : World} {b e g : Nat} {p : Mo × Int × List R} {vk vr vo : Value} {cs : Array Value} (h : TriE w b e p vk vr vo) (hb : Blk w g 27 cs) (hg : w.grownBy w' (some g)) : TriE w' b e p vk vr vo :=
  ⟨h.m.farT hb hg, h.r.kept hg (own_ne h.r hb (by decide)), h.ap, h.lt⟩
theorem TriE.wide {w : World} {b b' e e' : Nat} {p : Mo × Int × List R} {vk vr vo : Value} (h : TriE w b e p vk vr vo) (hb : b' ≤ b) (he : e ≤ e') : TriE w b' e' p vk vr vo :=
  ⟨h.m.base hb, OwnR.low h.r hb, h.ap, fun k hk => Nat.lt_of_lt_of_le (h.lt k hk) he⟩
theorem TriE.made {w w' : World} {p : Mo × Int × List R} {vk vr vo : Value} (hm : MoOwn w' w.heap.size p.1 vk vr) (hr : OwnR w' w.heap.size vo p.2.2) (ha : Ap vk vo ∧ Ap vr vo) : TriE w' w.heap.size w'.heap.size p vk vr vo :=
  ⟨hm, hr, ha, fun k hk => by
    rcases hk with e | e
    · exact hm.bl_lt k e
    · exact World.ownsRow.lt hr k e |>.2⟩
/-- A block of another type is not in a mark's way. -/
theorem Blk.chgM {w w' : World} {b g : Nat} {m : Mo} {vk vr : Value} {t : TypeId} {cs : Array Value} (hb : Blk w g t cs) (h : MoOwn w b m vk vr) (h1 : t ≠ 40) (h2 : t ≠ 42) (hc : Chg (MoBl vk vr) w w') : Blk w' g t cs :=
  (hc.block g hb.lt fun s => by
    rcases s with e | e
    · rcases own_ne h.keys hb (Ne.symm h1) with q | q
      · rw [q] at e; cases e
      · exact q e
    · rcases own_ne h.rows hb (Ne.symm h2) with q | q
      · rw [q] at e; cases e
      · exact q e).trans hb
theorem Blk.grownR {w w' : World} {b g : Nat} {rs : List R} {vo : Value} {t : TypeId} {cs : Array Value} (hb : Blk w g t cs) (h : OwnR w b vo rs) (h2 : t ≠ 42) (hg : w.grownBy w' vo.ownBlock) : Blk w' g t cs :=
  hb.grown hg (by
    rcases own_ne h hb (Ne.symm h2) with q | q
    · rw [q]; exact fun e => by cases e
    · exact q)
/-- A model marked, its stretch and the count known. -/
def MarkE (w : World) (b e : Nat) (vk vr : Value) (k k' : Int) (m : Mo) (en : Ending) (w' : World) : Prop := en = .returned (.int .i64 k') ∧ MoE w' b e (markMo k m) vk vr ∧ Chg (MoBl vk vr) w w'
theorem markE_any (w : World) (b e : Nat) (m : Mo) (vk vr : Value) (k k' : Int) (h : MoE w b e m vk vr) (hk : m.keys.length ≤ 1048576) (hr : m.rows.length ≤ 1048576) (hk0 : 1 ≤ k) (hk1 : k ≤ 900000000000) (he : k' = k + 2 * (m.keys.length : Int) + 10 * (m.rows.length : Int)) : Calls Tryz.prog 25 #[.agg #[vk, vr], .int .i64 k] w (MarkE w b e vk vr k k' m) := by
  refine (markModel_any w b m vk vr k h.m hk hr hk0 hk1).mono ?_
  rintro en w' ⟨rfl, hm, hc⟩
  exact ⟨by rw [he], ⟨hm, h.lt⟩, hc⟩
/-- The rows beside a model marked. -/
theorem TriE.marked {w w' : World} {b e : Nat} {p : Mo × Int × List R} {vk vr vo : Value} {m' : Mo} (h : TriE w b e p vk vr vo) (hm : MoOwn w' b m' vk vr) (hc : Chg (MoBl vk vr) w w') : TriE w' b e (m', p.2.1, p.2.2) vk vr vo :=
  ⟨hm, ownsRow_chg h.r hc fun k hk s => by
    rcases s with q | q
    · rcases h.ap.1 with z | z
      · rw [z] at q; cases q
      · exact z (q.trans hk.symm)
    · rcases h.ap.2 with z | z
      · rw [z] at q; cases q
      · exact z (q.trans hk.symm), h.ap, h.lt⟩
theorem TriE.markedR {w w' : World} {b e : Nat} {p : Mo × Int × List R} {vk vr vo : Value} {rs : List R} (h : TriE w b e p vk vr vo) (hr : OwnR w' b vo rs) (hg : w.grownBy w' vo.ownBlock) : TriE w' b e (p.1, p.2.1, rs) vk vr vo :=
  ⟨⟨h.m.keys.kept hg h.ap.1, h.m.rows.kept hg h.ap.2, h.m.ap⟩, hr, h.ap, h.lt⟩
/-- What is not within [b, e) is not touched by marks on it. -/
theorem TriE.in_m {w : World} {b e : Nat} {p : Mo × Int × List R} {vk vr vo : Value} (h : TriE w b e p vk vr vo) (i : Nat) (s : MoBl vk vr i) : b ≤ i ∧ i < e := ⟨h.m.bl_ge i s, h.lt i (.inl s)⟩
theorem TriE.in_r {w : World} {b e : Nat} {p : Mo × Int × List R} {vk vr vo : Value} (h : TriE w b e p vk vr vo) (i : Nat) (s : vo.ownBlock = some i) : b ≤ i ∧ i < e := ⟨h.r.base_le i s, h.lt i (.inr s)⟩
end Go.Proofs.YtbhhhakfjmaglaaGreat

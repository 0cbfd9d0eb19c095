/-
  What the exact law of ModelOf keeps: a model's stretch of blocks, marked; its boxes beside it.
-/
import Derived.Test.YtlnkjpacjbhncaaGreatDoorZc
import Derived.Test.YtlnkjpacjbhncaaGreatDoorSerS
import Derived.BigFrame
namespace Go.Proofs.YtlnkjpacjbhncaaGreatDoor
open Go.RowKit M
set_option linter.unusedVariables false
set_option linter.unusedSimpArgs false
theorem own_ne {w : World} {base F n : Nat} {t t' : TypeId} {v : Value} {xs : List Value} {g : Nat} {cs : Array Value} (h : w.ownsRow base t F v n xs) (hb : Blk w g t' cs) (ht : t ≠ t') : v.ownBlock = none ∨ v.ownBlock ≠ some g := by
  rcases h.2 with ⟨rfl, _⟩ | ⟨k, cap, cur, rfl, _, hk, _⟩
  · exact .inl rfl
  · refine .inr fun e => ?_
    have e : k = g := Option.some.inj e
    subst e
    have hb' : w.heap[k]? = some (.cells cs t' (0, 0)) := hb
    rw [hk] at hb'
    injection hb' with hb'
    injection hb' with _ e2
    exact ht e2
theorem wpList_load_rowM {P : Program} {ops : Array Oper} {rest : List Oper} {o : Oper} {a : Act} {w : World} {Q : Exit → Act → World → Prop} (ty : TypeId) (x : Operand) (ho : o.op = .load ty x)
    (g : Nat) (hx : a.eval x = .pointer (some ⟨g, 0, none⟩)) (t : TypeId) (cs : Array Value) (fr : Nat × Nat) (d : TypeDesc) (hg : w.heap[g]? = some (.cells cs t fr))
    (hu : P.underlying ty = some d) (hd : (match d with | .struct _ | .array _ _ => true | _ => false) = true) (hi : (P.info? ty).map (·.size) = some cs.size)
    (hw : Region.wanted o (yielded ops a.tmps) = true) (h : wpList P ops Q rest (a.put o.dst (.agg cs)) w) : wpList P ops Q (o :: rest) a w :=
  Go.BigFrame.wpList_want hw fun _ hK => wp_load_row ty x ho g hx t cs fr d hg hu hd hi (hK _ _ h)
structure MoE (w : World) (b e : Nat) (m : Mo) (vk vr : Value) : Prop where
  m : MoOwn w b m vk vr
  lt : ∀ k, MoBl vk vr k → k < e
theorem MoOwn.bl_lt {w : World} {b : Nat} {m : Mo} {vk vr : Value} (h : MoOwn w b m vk vr) (k : Nat) (hk : MoBl vk vr k) : k < w.heap.size := by
  rcases hk with e | e
  · exact h.keys.lt k e
  · exact h.rows.lt k e
theorem MoOwn.bl_ge {w : World} {b : Nat} {m : Mo} {vk vr : Value} (h : MoOwn w b m vk vr) (k : Nat) (hk : MoBl vk vr k) : b ≤ k := by
  rcases hk with e | e
  · exact h.keys.base_le k e
  · exact h.rows.base_le k e
theorem MoOwn.chg {S : Nat → Prop} {w w' : World} {b : Nat} {m : Mo} {vk vr : Value} (h : MoOwn w b m vk vr) (hc : Chg S w w') (hn : ∀ k, MoBl vk vr k → ¬ S k) : MoOwn w' b m vk vr :=
  ⟨ownsRow_chg h.keys hc fun k hk => hn k (.inl hk), ownsRow_chg h.rows hc fun k hk => hn k (.inr hk), h.ap⟩
theorem MoE.below {w w' : World} {b e : Nat} {m : Mo} {vk vr : Value} (h : MoE w b e m vk vr) (hb : Below w.heap.size w w') : MoE w' b e m vk vr := ⟨h.m.below hb, h.lt⟩
theorem MoE.of {w : World} {b : Nat} {m : Mo} {vk vr : Value} (h : MoOwn w b m vk vr) : MoE w b w.heap.size m vk vr := ⟨h, h.bl_lt⟩
theorem Blk.chgM {w w' : World} {b g : Nat} {m : Mo} {vk vr : Value} {t : TypeId} {cs : Array Value} (hb : Blk w g t cs) (h : MoOwn w b m vk vr) (h1 : t ≠ 39) (h2 : t ≠ 60) (hc : Chg (MoBl vk vr) w w') : Blk w' g t cs :=
  (hc.block g hb.lt fun s => by
    rcases s with e | e
    · rcases own_ne h.keys hb (Ne.symm h1) with q | q
      · rw [q] at e; cases e
      · exact q e
    · rcases own_ne h.rows hb (Ne.symm h2) with q | q
      · rw [q] at e; cases e
      · exact q e).trans hb
def MarkE (w : World) (b e : Nat) (vk vr : Value) (k k' : Int) (m : Mo) (en : Ending) (w' : World) : Prop := en = .returned (.int .i64 k') ∧ MoE w' b e (markMo k m) vk vr ∧ Chg (MoBl vk vr) w w'
theorem markE_any (w : World) (b e : Nat) (m : Mo) (vk vr : Value) (k k' : Int) (h : MoE w b e m vk vr) (hk : m.keys.length ≤ 1048576) (hr : m.rows.length ≤ 1048576) (hk0 : 1 ≤ k) (hk1 : k ≤ 900000000000) (he : k' = k + 2 * (m.keys.length : Int) + 10 * (m.rows.length : Int)) : Calls Tryz.prog 10 #[.agg #[vk, vr], .int .i64 k] w (MarkE w b e vk vr k k' m) := by
  refine (markModel_any w b m vk vr k h.m hk hr hk0 hk1).mono ?_
  rintro en w' ⟨rfl, hm, hc⟩
  exact ⟨by rw [he], ⟨hm, h.lt⟩, hc⟩
theorem MoE.chg {S : Nat → Prop} {w w' : World} {b e : Nat} {m : Mo} {vk vr : Value} (h : MoE w b e m vk vr) (hc : Chg S w w') (hn : ∀ i, S i → i < b ∨ e ≤ i) : MoE w' b e m vk vr :=
  ⟨h.m.chg hc fun k hk s => by have := h.lt k hk; have := h.m.bl_ge k hk; rcases hn k s with q | q <;> omega, h.lt⟩
theorem Blk.grownI15 {w w' : World} {b g : Nat} {zs : List Int} {vo : Value} {t : TypeId} {cs : Array Value} (hb : Blk w g t cs) (h : OwnI w b vo zs) (h2 : t ≠ 3) (hg : w.grownBy w' vo.ownBlock) : Blk w' g t cs :=
  hb.grown hg (by
    rcases own_ne h.1 hb (Ne.symm h2) with q | q
    · rw [q]; exact fun e => by cases e
    · exact q)
theorem moV_small (zs : List Int) : (moV zs).keys.length ≤ 4 ∧ (moV zs).rows.length ≤ 4 := by
  unfold moV
  split
  · exact ⟨by show (krT zs 4).length ≤ 4; rw [krT_len]; exact keysT_len zs 4, reportIn_len zs _⟩
  · exact ⟨Nat.zero_le _, Nat.zero_le _⟩
end Go.Proofs.YtlnkjpacjbhncaaGreatDoor

/-
  Chapter 13's draws, what their walks keep: the cursor, and that nothing that was there but the cursor's block is turned; an append of one record inside a drawn statement; an operation keeps what fits.
-/
import Derived.Test.YtbhhhakfjmaglaaGreatDrawR7
import Derived.Test.YtbhhhakfjmaglaaGreatModM
import Derived.Test.YtbhhhakfjmaglaaGreatModX
import Derived.Test.YtbhhhakfjmaglaaGreatModZ
namespace Go.Proofs.YtbhhhakfjmaglaaGreat
open Go.RowKit M
set_option linter.unusedVariables false
set_option linter.unusedSimpArgs false
structure DW (w : World) (g : Nat) (K : Code) (u : World) : Prop where
  cur : ∃ s, Cur u g K s
  grown : w.grownBy u (some g)
  code : CodeB K w.heap.size
  glt : g < w.heap.size
theorem DW.start {w : World} {g : Nat} {K : Code} {s : St} (c : Cur w g K s) (hK : CodeB K w.heap.size) : DW w g K w := ⟨⟨s, c⟩, World.grownBy.refl _ _, hK, c.lt⟩
theorem DW.call {w u u' : World} {g : Nat} {K : Code} {s : St} (h : DW w g K u) (c : Cur u' g K s) (hg : u.grownBy u' (some g)) : DW w g K u' := ⟨⟨s, c⟩, grown_trans h.grown hg, h.code, h.glt⟩
theorem DW.turn {w u u' : World} {g : Nat} {K : Code} {row : Option Nat} (h : DW w g K u) (hg : u.grownBy u' row) (hk : ∀ k, row = some k → w.heap.size ≤ k) : DW w g K u' := by
  obtain ⟨⟨s, h1, h2, h3⟩, hgr, hK, hlt⟩ := h
  have hle := hgr.size
  refine ⟨⟨s, (hg.block g (by omega) (fun e => by have := hk g e.symm; omega)).trans h1, ⟨h2.1, fun hp => ?_⟩, h3⟩, ⟨hg.os.trans hgr.os, hg.tape.trans hgr.tape, hg.output.trans hgr.output, Nat.le_trans hgr.size hg.size, fun i hi hne => (hg.block i (by omega) (fun e => by have := hk i e.symm; omega)).trans (hgr.block i hi hne)⟩, hK, hlt⟩
  obtain ⟨b, off, e, hb, hc⟩ := h2.2 hp
  have hlb := hK _ hp e
  exact ⟨b, off, e, hb, fun j hj => ⟨hg.cell (hc j hj).1 (fun q => by have := hk b q.symm; simp at hlb; omega), (hc j hj).2⟩⟩
theorem DW.below {w u u' : World} {g : Nat} {K : Code} (h : DW w g K u) (hb : Below u.heap.size u u') : DW w g K u' := h.turn (row := none) ⟨hb.os, hb.tape, hb.output, hb.size, fun i hi _ => hb.block i hi⟩ (by intro k e; cases e)
theorem MoOwn.turnG {w w' : World} {B g : Nat} {m : Mo} {vk vr : Value} (h : MoOwn w B m vk vr) (hg : w.grownBy w' (some g)) (hgB : g < B) : MoOwn w' B m vk vr := ⟨h.keys.keptG hg hgB, h.rows.keptG hg hgB, h.ap⟩
theorem Blk.turnG {w w' : World} {g k : Nat} {t : TypeId} {cs : Array Value} (h : Blk w k t cs) (hg : w.grownBy w' (some g)) (hne : g ≠ k) : Blk w' k t cs := h.grown hg (fun e => hne (Option.some.inj e))
/-- 'append(s, x)' of one record that a literal holds, s own: one operation. -/
theorem wp_append_lit {P : Program} {w : World} {o : Oper} {a : Act} {K : Act → World → Prop} {Q : Exit → Act → World → Prop} (s x : Operand) (t : TypeId)
    (ho : o.op = .call { callee := .builtin .append, args := #[s, x], argTypes := #[t, t] })
    (base : Nat) (e : TypeId) (i : TypeInfo) (z : Value) (size bytes : Nat) (ht : P.underlying t = some (.slice e)) (hi : P.info? e = some i) (hz : i.zero = some z)
    (hsize : i.size = size) (hby : i.bytes = bytes) (hzs : z.cells.size = size) (hsz : 0 < size)
    (v : Value) (n : Nat) (xs : List Value) (hs : a.eval s = v) (hown : w.ownsRow base e size v n xs) (gx : Nat) (cs : List Value) (hx : a.eval x = .slice (some ⟨gx, 0, none⟩) 1 1) (hcs : cs.length = 1 * size)
    (hcell : ∀ j u, cs[j]? = some u → w.cell? ⟨gx, j, none⟩ = some u)
    (h1 : ∀ u ∈ cs, u.oneCell' = true) (h63 : n + 1 ≤ maxLen) (hbytes : (n + 1) * bytes ≤ 140737488355328) (hbase : base ≤ w.heap.size)
    (h : ∀ v' w', w'.ownsRow base e size v' (n + 1) (xs ++ cs) → w.grownBy w' v.ownBlock → (v'.ownBlock = v.ownBlock ∨ v'.ownBlock = some w.heap.size) → K (a.put o.dst v') w') : o.wp P a w K Q := by
  obtain ⟨v', w', hr, h2, h3, _, h5⟩ := run_append_own_at (P := P) w base t o.type e i z size bytes ht hi hz hsize hby hzs hsz v n xs hown ⟨gx, 0, none⟩ 1 1 cs hcs (fun j u hj => by
    rw [Addr.add_lit, Nat.zero_add]; exact hcell j u hj) h1 h63 hbytes hbase
  unfold Oper.wp execOp
  simp only [ho, resolve, invoke, builtin, Sem.run_bind, Sem.run_pure, Result.andThen_ok, List.map_toArray, List.map_cons, List.map_nil, hs, hx, hr]
  exact h v' w' h2 h3 h5
theorem fitK_mem {l : List KR} (h : ∀ x ∈ l, x.Fit) : ∀ j, j < l.length → (l.getD j zeroKR).Fit := fun j hj => h _ (getD_memK hj)
theorem fitK_of {l : List KR} (h : ∀ j, j < l.length → (l.getD j zeroKR).Fit) : ∀ x ∈ l, x.Fit := fun x hx => by
  obtain ⟨j, hj, rfl⟩ := List.getElem_of_mem hx
  have := h j hj
  rwa [List.getD_eq_getElem?_getD, List.getElem?_eq_getElem hj] at this
theorem mem_rowPut {l : List R} {x y : R} (h : y ∈ rowPutV l x) : y ∈ l ∨ y = x := by
  unfold rowPutV putV at h
  have hn : ∀ z ∈ noKey x.key l, z ∈ l := fun z hz => (List.mem_filter.1 hz).1
  split at h
  · exact .inl (hn y h)
  · split at h
    · exact .inl (hn y h)
    · rcases mem_ins.1 h with e | e
      · exact .inr e
      · exact .inl (hn y e)
theorem mDo_fit {m : Mo} {o : O} (h : m.Fit) (ho : o.Fit) : (mDoV m o).1.Fit := by
  have hid : (mDoV m o).1 = m → (mDoV m o).1.Fit := fun e => by rw [e]; exact h
  unfold mDoV
  split
  · split
    · unfold regV
      split
      · exact h
      · split
        · exact h
        · split
          · exact h
          · exact ⟨fitK_mem fun x hx => by
              rcases mem_insK.1 hx with rfl | hx
              · exact ⟨ho.key, ho.what⟩
              · exact fitK_of h.keys x hx, h.rows⟩
    · split
      · unfold recV
        split
        · exact h
        · exact ⟨h.keys, fitR_mem fun y hy => by
            rcases mem_rowPut hy with q | rfl
            · exact FitR.filter h.rows y q
            · exact with_fit (mRow_fit h ho.key) ho.val⟩
      · exact ⟨h.keys, fun j hj => absurd hj (Nat.not_lt_zero _)⟩
  · exact h
theorem mDo_100 {m : Mo} (o : O) (n : Nat) (hn : 5 ≤ n) (hk : m.keys.length ≤ n) (hr : m.rows.length ≤ n) : (mDoV m o).1.keys.length ≤ n ∧ (mDoV m o).1.rows.length ≤ n ∧ (mDoV m o).2.2.length ≤ n := by
  have hl := mDoV_len m o
  by_cases h : modelOkV m = true
  · have h4 := (report_at (modelOk_iff.1 h).2.2.1).1
    have h5 := (modelOk_iff.1 h).1
    omega
  · have e : mDoV m o = (m, 1, []) := by unfold mDoV; rw [if_neg fun q => h q.1]
    rw [e]
    exact ⟨hk, hr, Nat.zero_le _⟩
/-- Some operation; nothing but the cursor's block is turned. -/
def SomeO (w : World) (g : Nat) (K : Code) (e : Ending) (w' : World) : Prop := ∃ (o : O) (s : St), o.Fit ∧ e = .returned o.v ∧ Cur w' g K s ∧ w.grownBy w' (some g)
/-- Some model of the call's own. -/
def SomeMo (w : World) (g : Nat) (K : Code) (n : Nat) (e : Ending) (w' : World) : Prop := ∃ (m : Mo) (vk vr : Value) (s : St), m.Fit ∧ (m.keys.length ≤ n ∧ m.rows.length ≤ n) ∧ e = .returned (.agg #[vk, vr]) ∧ MoOwn w' w.heap.size m vk vr ∧ Cur w' g K s ∧ w.grownBy w' (some g)
end Go.Proofs.YtbhhhakfjmaglaaGreat

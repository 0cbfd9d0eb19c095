/-
  Chapter 7's draws, told in less: some row whose numbers are small. The draw's own blocks (the row, the answer's place) are carried beside the cursor.
-/
import Derived.Test.YtbhhhakfjmaglaaGreatZm
import Derived.Test.YtbhhhakfjmaglaaGreatZb
import Derived.Test.YtbhhhakfjmaglaaGreatRowM
namespace Go.Proofs.YtbhhhakfjmaglaaGreat
open Go.RowKit M
set_option linter.unusedVariables false
theorem l5Val_some (w : World) (g : Nat) (K : Code) (s : St) (c : Cur w g K s) : Calls Tryz.prog 66 #[.pointer (some ⟨g, 0, none⟩)] w (SomeI w g K fun x => 0 ≤ x ∧ x ≤ 65535) := by
  have H1 := Lib.hid (below_some w g K 60000 s c (by decide) (by decide))
  clear c
  go_enter Tryz.func66, Tryz.ntmps66
  go_wp2_with fail
  refine H1.out.mono ?_
  rintro e w1 ⟨x, s1, hx, rfl, hc1, hg1⟩
  have X := Lib.hid hx
  have G1 := Lib.hid hg1
  have H2 := Lib.hid (below_some w1 g K 100 s1 hc1 (by decide) (by decide))
  clear hx hc1 hg1
  go_wp2_with fail
  refine H2.out.mono ?_
  rintro e w2 ⟨y, s2, hy, rfl, hc2, hg2⟩
  have Y := Lib.hid hy
  have G2 := Lib.hid (grown_trans G1.out hg2)
  have HP := Lib.hid (pick_some w2 g K s2 hc2 [0, 1, 5, 65535, x, y] 6 rfl (by decide) (by decide) _ rfl)
  clear hy hc2 hg2
  go_wp2_with fail
  refine HP.out.mono ?_
  rintro e w3 ⟨z, s3, hz, rfl, hc3, hg3⟩
  have Z : 0 ≤ z ∧ z ≤ 65535 := by have := X.out; have := Y.out; simp at hz; omega
  have C3 := Lib.hid hc3
  have G3 := Lib.hid (grown_trans G2.out hg3)
  clear hz hc3 hg3
  go_wp2_with fail
  go_ret
  exact ⟨z, s3, Z, rfl, C3.out, G3.out⟩
/-- The row's key is short and its numbers are far from an int's bounds. -/
structure Small (r : R) : Prop where
  key : r.key.size ≤ 5
  kind : -1000000000000000 ≤ r.kind ∧ r.kind ≤ 1000000000000000
  sum : -1000000000000000 ≤ r.sum ∧ r.sum ≤ 1000000000000000
  last : -1000000000000000 ≤ r.last ∧ r.last ≤ 1000000000000000
  n : -1000000000000000 ≤ r.n ∧ r.n ≤ 1000000000000000
  mn : -1000000000000000 ≤ r.mn ∧ r.mn ≤ 1000000000000000
  mx : -1000000000000000 ≤ r.mx ∧ r.mx ≤ 1000000000000000
  total : -1000000000000000 ≤ r.total ∧ r.total ≤ 1000000000000000
  dropped : -1000000000000000 ≤ r.dropped ∧ r.dropped ≤ 1000000000000000
theorem Small.fit {r : R} (h : Small r) : r.Fit := by
  obtain ⟨h0, h1, h2, h3, h4, h5, h6, h7, h8⟩ := h
  constructor <;> (try unfold inW) <;> (try unfold maxLen) <;> omega
/-- A step that leaves room: the bounds a row keeps while samples are added, and one more may be added to each field. -/
structure Tight (r : R) : Prop where
  key : r.key.size ≤ 4
  kind : 1 ≤ r.kind ∧ r.kind ≤ 3
  sum : 0 ≤ r.sum ∧ r.sum ≤ 281474976710655
  last : 0 ≤ r.last ∧ r.last ≤ 65535
  n : 0 ≤ r.n ∧ r.n ≤ 3
  mn : 0 ≤ r.mn ∧ r.mn ≤ 65535
  mx : 0 ≤ r.mx ∧ r.mx ≤ 65535
  total : 0 ≤ r.total ∧ r.total ≤ 262140
  dropped : 0 ≤ r.dropped ∧ r.dropped ≤ 65535
theorem Tight.small {r : R} (h : Tight r) : Small r := by
  obtain ⟨h0, h1, h2, h3, h4, h5, h6, h7, h8⟩ := h
  constructor <;> omega
theorem Tight.sampled {r : R} (h : Tight r) (v : Int) : Tight (sampledV r v) := by
  unfold sampledV
  split
  · rename_i hc
    obtain ⟨h0, h1, h2, h3, h4, h5, h6, h7, h8⟩ := h
    have tf := timer_facts hc.1 hc.2.1
    split
    · constructor <;> simp only <;> (first | assumption | (split <;> omega))
    · split
      · constructor <;> simp only <;> (first | assumption | omega)
      · constructor <;> simp only <;> (first | assumption | (split <;> omega) | omega)
  · exact h
theorem Cur.setAway {w : World} {g base ga : Nat} {K : Code} {s : St} (c : Cur w g K s) (hK : CodeB K base) (hg : g ≠ ga) (hga : base ≤ ga) (j : Nat) (x : Value) : Cur (w.setCell ⟨ga, j, none⟩ x) g K s := by
  obtain ⟨h1, h2, h3⟩ := c
  refine ⟨(Below.heap_setCell w ⟨ga, j, none⟩ x g hg).trans h1, ⟨h2.1, fun hp => ?_⟩, h3⟩
  obtain ⟨b, off, e, hb, hc⟩ := h2.2 hp
  have hlt := hK _ hp e
  exact ⟨b, off, e, hb, fun i hi => ⟨(World.cell?_of_block (w := w) (a := ⟨b, off + i, none⟩) (Below.heap_setCell w ⟨ga, j, none⟩ x b (show b ≠ ga by simp at hlt; omega))).trans (hc i hi).1, (hc i hi).2⟩⟩
/-- The world of a draw that holds a row: the cursor stands, the row lies in block gr, the answer's place (a row of zeros) in block o; all else is as it was in w. -/
def D7 (w : World) (g : Nat) (K : Code) (o gr : Nat) (r : R) (u : World) : Prop :=
  ((∃ s, Cur u g K s) ∧ w.grownBy u (some g)) ∧ (RowAt u o zeroR ∧ RowAt u gr r) ∧ (CodeB K w.heap.size ∧ g ≠ o ∧ g ≠ gr) ∧ w.heap.size ≤ o ∧ w.heap.size ≤ gr ∧ o ≠ gr
theorem RowAt.kept {w w' : World} {g k : Nat} {r : R} (h : RowAt w g r) (hg : w.grownBy w' (some k)) (hne : g ≠ k) : RowAt w' g r :=
  (hg.block g h.lt (fun e => hne (Option.some.inj e))).trans h
theorem D7.cur {w u : World} {g : Nat} {K : Code} {o gr : Nat} {r : R} (h : D7 w g K o gr r u) : ∃ s, Cur u g K s := h.1.1
theorem D7.call {w u u' : World} {g : Nat} {K : Code} {o gr : Nat} {r : R} (h : D7 w g K o gr r u) (s : St) (hc : Cur u' g K s) (hg : u.grownBy u' (some g)) : D7 w g K o gr r u' := by
  obtain ⟨⟨_, h1⟩, ⟨h2, h3⟩, ⟨h4, h5⟩, h6, h7, h8⟩ := h
  exact ⟨⟨⟨s, hc⟩, grown_trans h1 hg⟩, ⟨h2.kept hg (fun e => h5.1 e.symm), h3.kept hg (fun e => h5.2 e.symm)⟩, ⟨h4, h5⟩, h6, h7, h8⟩
theorem D7.below {w u u' : World} {g : Nat} {K : Code} {o gr : Nat} {r : R} (h : D7 w g K o gr r u) (hb : Below u.heap.size u u') : D7 w g K o gr r u' := by
  obtain ⟨s, hc⟩ := h.cur
  have hg : u.grownBy u' none := ⟨hb.os, hb.tape, hb.output, hb.size, fun i hi _ => hb.block i hi⟩
  exact h.call s (hc.kept hg) ⟨hg.os, hg.tape, hg.output, hg.size, fun i hi _ => hg.block i hi (by intro e; cases e)⟩
theorem D7.store {w u : World} {g : Nat} {K : Code} {o gr : Nat} {r : R} (h : D7 w g K o gr r u) (i : Nat) (v : Value) (r' : R) (e : (rowCells r).setIfInBounds i v = rowCells r') : D7 w g K o gr r' (u.setCell ⟨gr, i, none⟩ v) := by
  obtain ⟨⟨⟨s, hc⟩, h1⟩, ⟨h2, h3⟩, ⟨h4, h5⟩, h6, h7, h8⟩ := h
  exact ⟨⟨⟨s, hc.setAway h4 h5.2 h7 i v⟩, grown_setNew h1 h7 i v⟩, ⟨h2.far gr i v h8, h3.store i v r' e⟩, ⟨h4, h5⟩, h6, h7, h8⟩
theorem D7.get {w u : World} {g : Nat} {K : Code} {o gr : Nat} {r : R} (h : D7 w g K o gr r u) : RowAt u o zeroR ∧ RowAt u gr r := h.2.1
/-- Ten stores of a row into the row's own block. -/
theorem D7.fill {w u : World} {g : Nat} {K : Code} {o gr : Nat} {z : R} (h : D7 w g K o gr z u) (r : R) :
    D7 w g K o gr r ((((((((((u.setCell ⟨gr, 0, none⟩ (.string r.key)).setCell ⟨gr, 1, none⟩ (.int .i64 r.kind)).setCell ⟨gr, 2, none⟩ (.int .i64 r.sum)).setCell ⟨gr, 3, none⟩ (.bool r.set)).setCell ⟨gr, 4, none⟩ (.int .i64 r.last)).setCell ⟨gr, 5, none⟩ (.int .i64 r.n)).setCell ⟨gr, 6, none⟩ (.int .i64 r.mn)).setCell ⟨gr, 7, none⟩ (.int .i64 r.mx)).setCell ⟨gr, 8, none⟩ (.int .i64 r.total)).setCell ⟨gr, 9, none⟩ (.int .i64 r.dropped)) := by
  obtain ⟨key, kind, sum, st, last, n, mn, mx, total, dropped⟩ := r
  obtain ⟨zkey, zkind, zsum, zst, zlast, zn, zmn, zmx, ztotal, zdropped⟩ := z
  exact (((((((((h.store 0 _ ⟨key, zkind, zsum, zst, zlast, zn, zmn, zmx, ztotal, zdropped⟩ rfl).store 1 _ ⟨key, kind, zsum, zst, zlast, zn, zmn, zmx, ztotal, zdropped⟩ rfl).store 2 _ ⟨key, kind, sum, zst, zlast, zn, zmn, zmx, ztotal, zdropped⟩ rfl).store 3 _ ⟨key, kind, sum, st, zlast, zn, zmn, zmx, ztotal, zdropped⟩ rfl).store 4 _ ⟨key, kind, sum, st, last, zn, zmn, zmx, ztotal, zdropped⟩ rfl).store 5 _ ⟨key, kind, sum, st, last, n, zmn, zmx, ztotal, zdropped⟩ rfl).store 6 _ ⟨key, kind, sum, st, last, n, mn, zmx, ztotal, zdropped⟩ rfl).store 7 _ ⟨key, kind, sum, st, last, n, mn, mx, ztotal, zdropped⟩ rfl).store 8 _ ⟨key, kind, sum, st, last, n, mn, mx, total, zdropped⟩ rfl).store 9 _ ⟨key, kind, sum, st, last, n, mn, mx, total, dropped⟩ rfl
theorem wp_d7 {C : Go.Code} {Q : Exit → Act → World → Prop} {a : Act} {w u : World} {g : Nat} {K : Code} {o gr : Nat} {r : R} {i : Nat} {v : Value} (r' : R) (h : D7 w g K o gr r u)
    (e : (rowCells r).setIfInBounds i v = rowCells r') (k : ∀ u', D7 w g K o gr r' u' → Go.Code.wp Tryz.prog C Q a u') : Go.Code.wp Tryz.prog C Q a (u.setCell ⟨gr, i, none⟩ v) := k _ (h.store i v r' e)
/-- Some row; nothing but the cursor's block is turned. -/
def SomeR (w : World) (g : Nat) (K : Code) (P : R → Prop) (e : Ending) (w' : World) : Prop := ∃ r s, P r ∧ e = .returned r.v ∧ Cur w' g K s ∧ w.grownBy w' (some g)
/-- The answer is laid into its place. -/
theorem D7.answer {w u : World} {g : Nat} {K : Code} {o gr : Nat} {r : R} (h : D7 w g K o gr r u) (v0 v1 v2 v3 v4 v5 v6 v7 v8 v9 : Value) :
    ∃ s, Cur ((((((((((u.setCell ⟨o, 0, none⟩ v0).setCell ⟨o, 1, none⟩ v1).setCell ⟨o, 2, none⟩ v2).setCell ⟨o, 3, none⟩ v3).setCell ⟨o, 4, none⟩ v4).setCell ⟨o, 5, none⟩ v5).setCell ⟨o, 6, none⟩ v6).setCell ⟨o, 7, none⟩ v7).setCell ⟨o, 8, none⟩ v8).setCell ⟨o, 9, none⟩ v9) g K s ∧
      w.grownBy ((((((((((u.setCell ⟨o, 0, none⟩ v0).setCell ⟨o, 1, none⟩ v1).setCell ⟨o, 2, none⟩ v2).setCell ⟨o, 3, none⟩ v3).setCell ⟨o, 4, none⟩ v4).setCell ⟨o, 5, none⟩ v5).setCell ⟨o, 6, none⟩ v6).setCell ⟨o, 7, none⟩ v7).setCell ⟨o, 8, none⟩ v8).setCell ⟨o, 9, none⟩ v9) (some g) := by
  obtain ⟨⟨⟨s, hc⟩, h1⟩, _, ⟨h4, h5⟩, h6, h7, h8⟩ := h
  refine ⟨s, ?_, ?_⟩
  · exact (((((((((hc.setAway h4 h5.1 h6 0 v0).setAway h4 h5.1 h6 1 v1).setAway h4 h5.1 h6 2 v2).setAway h4 h5.1 h6 3 v3).setAway h4 h5.1 h6 4 v4).setAway h4 h5.1 h6 5 v5).setAway h4 h5.1 h6 6 v6).setAway h4 h5.1 h6 7 v7).setAway h4 h5.1 h6 8 v8).setAway h4 h5.1 h6 9 v9
  · exact grown_setNew (grown_setNew (grown_setNew (grown_setNew (grown_setNew (grown_setNew (grown_setNew (grown_setNew (grown_setNew (grown_setNew h1 h6 0 v0) h6 1 v1) h6 2 v2) h6 3 v3) h6 4 v4) h6 5 v5) h6 6 v6) h6 7 v7) h6 8 v8) h6 9 v9
end Go.Proofs.YtbhhhakfjmaglaaGreat

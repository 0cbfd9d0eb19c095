/-
  Texts of this seat, laid together.
-/
import Derived.Test.YtnlepnfdgdbkoaaGreatDoorYMdh
import Derived.Test.YtnlepnfdgdbkoaaGreatDoorYBlkW
import Derived.Test.YtnlepnfdgdbkoaaGreatDoorYNewI
import Derived.Test.YtnlepnfdgdbkoaaGreatDoorYMdj
import Derived.BigFrame
import Derived.Test.YtnlepnfdgdbkoaaGreatDoorYZa
import Derived.ChangeOld
import Derived.Lib.Hide
import Derived.WalkKit
section
namespace Go.Proofs.YtnlepnfdgdbkoaaGreatDoor
open Go.RowKit M
set_option linter.unusedVariables false
set_option maxRecDepth 100000 in
set_option maxHeartbeats 800000 in
theorem iFinishW_any (w : World) (κ : Nat → Nat) (s : S) (vc vj vt vl : Value) (h : WT w κ s vc vj vt vl) (hs : SmallS s) (hf : s.Fit) (hkf : KeepF s) (zs : List Int) (hzs : zs = turnL 4000) (hlen : s.log.length + 4000 ≤ 1048576) :
    Calls Tryz.prog 17 #[.agg (worVals s vc vj vt vl)] w (NewC w (runS s zs)) := by
  have hulw := Tryz.underlying33
  have HSRC := Lib.hid (fun W (hb : Below w.heap.size w W) => iRounds_any W κ s vc vj vt vl (h.below hb) hs hf hkf zs hzs hlen)
  have HONE := Lib.hid h.one
  clear h hs hf hkf hzs hlen
  go_enter Tryz.func17, Tryz.ntmps17
  go_upto_region 1 with fail
  refine wp_gen (fun W => Blk W w.heap.size 33 (worVals s vc vj vt vl) ∧ Blk W (w.heap.size + 1) 33 #[.slice none 0 0, .slice none 0 0, .slice none 0 0, .slice none 0 0, .int .i64 0, .int .i64 0] ∧ Below w.heap.size w W) ⟨(Blk.new w _ _ _ rfl).alloc _, Blk.new _ _ _ _ (by simp [go_sem]), ((Below.refl _ _).alloc (Nat.le_refl _) _).alloc (by simp [go_sem]) _⟩ ?_
  rintro W ⟨h0, h1, hb⟩
  have G0 := Lib.hid h0
  have G1 := Lib.hid h1
  have HB := Lib.hid hb
  have HL := Lib.hid (show w.heap.size + 1 < W.heap.size from h1.lt)
  clear h0 h1 hb
  go_wp2_with ((with_reducible show wpList _ _ _ _ _ _); refine wpList_load_row rfl 33 _ rfl w.heap.size rfl 33 (worVals s vc vj vt vl) (0, 0) _ G0.out hulw rfl (by kernel_rfl) ?_)
  refine (HSRC.out W HB.out).mono ?_
  rintro e W2 ⟨κ2, vc2, vj2, vt2, vl2, rfl, hwt, hk, hb⟩
  replace G1 := Lib.hid (G1.out.below hb)
  replace HB := Lib.hid (HB.out.trans (hb.mono HB.out.size))
  have hone := hwt.one
  have hz : κ2 (w.heap.size + 1) = 0 := by
    by_cases e : κ2 (w.heap.size + 1) = 0
    · exact e
    · have := hk _ e; have := HL.out; omega
  go_wp2_with ((with_reducible show wpList _ _ _ _ _ _); refine wpList_store_row rfl 33 _ _ rfl (w.heap.size + 1) (worVals (runS s zs) vc2 vj2 vt2 vl2) rfl rfl 33 _ G1.out (by kernel_rfl) rfl hone ?_)
  refine post_gen (fun Z => Blk Z (w.heap.size + 1) 33 (worVals (runS s zs) vc2 vj2 vt2 vl2) ∧ WT Z κ2 (runS s zs) vc2 vj2 vt2 vl2 ∧ Below w.heap.size w Z) ⟨setRow_heap _ _ _ _ _ _ G1.out, hwt.setRow (.inl hz) _, below_setRow' HB.out (Nat.le_succ w.heap.size) _⟩ ?_
  rintro Z ⟨hx, hw, hb9⟩
  exact bodyPost_ret (v := .agg (worVals (runS s zs) vc2 vj2 vt2 vl2)) (results_cell_row rfl _ _ _ _ _ (0, 0) _ rfl hx hulw rfl (by kernel_rfl)) rfl ⟨κ2, _, _, _, _, rfl, hw, fun k hk9 => by have := hk k hk9; have := HL.out; omega, hb9⟩
end Go.Proofs.YtnlepnfdgdbkoaaGreatDoor
end
section
namespace Go.Proofs.YtnlepnfdgdbkoaaGreatDoor
open Go.RowKit M
set_option linter.unusedVariables false
set_option linter.unusedSimpArgs false
theorem blk_own {w : World} {base g n F : Nat} {t : TypeId} {cs : Array Value} (h : Blk w g t cs) (hb : base ≤ g) (hs : cs.size = n * F) (hm : n ≤ maxLen) : w.ownsRow base t F (.slice (some ⟨g, 0, none⟩) n n) n cs.toList :=
  ⟨by simpa using hs, .inr ⟨g, n, cs, rfl, hb, h, Nat.le_refl _, hm, hs, List.take_of_length_le (by rw [Array.length_toList, hs]; exact Nat.le_refl _)⟩⟩
def todoQ (v : Int) : List (List O) := [[⟨1, ⟨#[97]⟩, 1, 0⟩, ⟨2, ⟨#[97]⟩, 0, v⟩], [], [], [⟨3, ⟨#[]⟩, 0, 0⟩]]
theorem queueB {w : World} {base gq gr gf : Nat} {v : Int} (hq : Blk w gq 46 #[.slice (some ⟨gr, 0, none⟩) 2 2, .slice none 0 0, .slice none 0 0, .slice (some ⟨gf, 0, none⟩) 1 1])
    (hr : Blk w gr 36 #[.int .i64 1, .string ⟨#[97]⟩, .int .i64 1, .int .i64 0, .int .i64 2, .string ⟨#[97]⟩, .int .i64 0, .int .i64 v]) (hf : Blk w gf 36 #[.int .i64 3, .string ⟨#[]⟩, .int .i64 0, .int .i64 0])
    (h1 : base ≤ gq) (h2 : gq < gr) (h3 : gr < gf) : OwnQ w base (.slice (some ⟨gq, 0, none⟩) 4 4) (todoQ v) := by
  refine ⟨[.slice (some ⟨gr, 0, none⟩) 2 2, .slice none 0 0, .slice none 0 0, .slice (some ⟨gf, 0, none⟩) 1 1], rfl, ?_⟩
  show Heap w base [⟨.slice (some ⟨gq, 0, none⟩) 4 4, 46, 1, 4, [.slice (some ⟨gr, 0, none⟩) 2 2, .slice none 0 0, .slice none 0 0, .slice (some ⟨gf, 0, none⟩) 1 1]⟩, ⟨.slice (some ⟨gr, 0, none⟩) 2 2, 36, 4, 2, cellsF opCells [⟨1, ⟨#[97]⟩, 1, 0⟩, ⟨2, ⟨#[97]⟩, 0, v⟩]⟩, ⟨.slice none 0 0, 36, 4, 0, cellsF opCells []⟩, ⟨.slice none 0 0, 36, 4, 0, cellsF opCells []⟩, ⟨.slice (some ⟨gf, 0, none⟩) 1 1, 36, 4, 1, cellsF opCells [⟨3, ⟨#[]⟩, 0, 0⟩]⟩]
  refine ⟨fun r hr9 => ?_, ?_⟩
  · simp only [List.mem_cons, List.not_mem_nil, or_false] at hr9
    rcases hr9 with rfl | rfl | rfl | rfl | rfl
    · exact blk_own hq h1 rfl (by decide)
    · exact blk_own (n := 2) hr (by omega) rfl (by decide)
    · exact World.ownsRow_nil _ _ _ _
    · exact World.ownsRow_nil _ _ _ _
    · exact blk_own (n := 1) hf (by omega) rfl (by decide)
  · have ne : ∀ a b n m c d : Nat, a ≠ b → Ap (.slice (some ⟨a, 0, none⟩) n c) (.slice (some ⟨b, 0, none⟩) m d) := fun a b n m c d h => .inr (fun e => h (Option.some.inj e))
    have nl : ∀ u : Value, Ap u (.slice none 0 0) := fun u => by
      by_cases h : u.ownBlock = none
      · exact .inl h
      · exact .inr h
    have ln : ∀ u : Value, Ap (.slice none 0 0) u := fun u => .inl rfl
    simp only [List.pairwise_cons, List.mem_cons, List.not_mem_nil, or_false, forall_eq_or_imp, forall_eq, List.Pairwise.nil, and_true, implies_true, false_implies]
    refine ⟨⟨⟨ne _ _ _ _ _ _ (by omega), ne _ _ _ _ _ _ (by omega)⟩, ⟨nl _, ln _⟩, ⟨nl _, ln _⟩, ⟨ne _ _ _ _ _ _ (by omega), ne _ _ _ _ _ _ (by omega)⟩⟩, ⟨⟨nl _, ln _⟩, ⟨nl _, ln _⟩, ⟨ne _ _ _ _ _ _ (by omega), ne _ _ _ _ _ _ (by omega)⟩⟩, ⟨⟨ln _, nl _⟩, ⟨ln _, nl _⟩⟩, ⟨ln _, nl _⟩⟩
theorem queueB_fit {v : Int} (hv : 1 ≤ v ∧ v ≤ 256) : FitQ (todoQ v) := fun j hj i hi => by
  refine getD_of (z := zeroO) (fun x hx => getD_of (z := ([] : List O)) (P := fun q => ∀ x ∈ q, x.Fit) ?_ j hj x hx) i hi
  intro q hq x hx
  unfold todoQ at hq
  simp only [List.mem_cons, List.not_mem_nil, or_false] at hq
  rcases hq with rfl | rfl | rfl | rfl
  · simp only [List.mem_cons, List.not_mem_nil, or_false] at hx
    rcases hx with rfl | rfl
    · exact fitReg
    · exact fitRec hv
  · cases hx
  · cases hx
  · simp only [List.mem_cons, List.not_mem_nil, or_false] at hx
    rcases hx with rfl
    exact fitFlush
set_option maxRecDepth 100000 in
theorem make_queues (w : World) : ∃ w', (Instr.makeSlice 24 (.int .i64 4) (.int .i64 4)).run Tryz.prog w = .ok (.slice (some ⟨w.heap.size, 0, none⟩) 4 4) w' ∧ Blk w' w.heap.size 46 #[.slice none 0 0, .slice none 0 0, .slice none 0 0, .slice none 0 0] ∧ Below w.heap.size w w' := by
  obtain ⟨i0, hi, hz0, hz1, hz2⟩ := info_parts info_Queue
  obtain ⟨w', hrun, r1, r2⟩ := run_make_full (P := Tryz.prog) w w.heap.size 24 46 i0 _ 1 Tryz.underlying24 hi hz0 hz1 .i64 .i64 4 (by rw [hz2]; decide) (by decide) (Nat.le_refl _)
  refine ⟨w', hrun, ?_, ?_⟩
  · rcases r1.2 with ⟨h, _⟩ | ⟨g, cap, cur, e, hb, hg, hn, hm, hc, ht⟩
    · cases h
    · injection e with e1 e2 e3
      injection e1 with e1
      injection e1 with e1 _ _
      subst e1
      subst e3
      have hl : cur.toList.length = 4 := by rw [Array.length_toList]; omega
      rw [List.take_of_length_le (by omega)] at ht
      have hcur : cur = #[.slice none 0 0, .slice none 0 0, .slice none 0 0, .slice none 0 0] := by
        apply Array.ext'
        rw [ht, show (madeCells (Value.agg #[.slice none 0 0]).cells (4 * 1)).toList = List.replicate 4 (.slice none 0 0) from toList_madeCells_one _ _]; rfl
      rw [hcur] at hg
      exact hg
  · exact (Below.refl _ w).grown r2 (Nat.le_refl _) (fun k e => by cases e)
structure BoxB (w0 w : World) (g : Nat) (s : S) : Prop where
  ex : ∃ κ vc vj vt vl, Blk w g 33 (worVals s vc vj vt vl) ∧ WT w κ s vc vj vt vl ∧ κ g = 0
  bel : Below w0.heap.size w0 w
theorem BoxB.next {w0 wr X : World} {g : Nat} {s2 : S} {cs : Array Value} {κ2 : Nat → Nat} {vc vj vt vl : Value} (hblk : Blk wr g 33 cs) (hbel : Below w0.heap.size w0 wr) (hlo : w0.heap.size ≤ g) (hwt2 : WT X κ2 s2 vc vj vt vl) (hk2 : ∀ k, κ2 k ≠ 0 → wr.heap.size ≤ k) (hb2 : Below wr.heap.size wr X) :
    BoxB w0 (X.setRow g (worVals s2 vc vj vt vl)) g s2 := by
  have hlt := hblk.lt
  have hz : κ2 g = 0 := by
    by_cases e : κ2 g = 0
    · exact e
    · have := hk2 g e; omega
  exact ⟨⟨κ2, vc, vj, vt, vl, setRow_heap _ _ _ _ _ _ (hblk.below hb2), hwt2.setRow (.inl hz) _, hz⟩, below_setRow' (hbel.trans (hb2.mono hbel.size)) hlo _⟩
theorem BoxB.read {w0 w : World} {g : Nat} {s : S} (h : BoxB w0 w g s) (hj : s.jobs.length = 4) (t : Nat) (ht : t < 4) :
    ∃ b cap, w.cell? ⟨g, 1, none⟩ = some (.slice (some ⟨b, 0, none⟩) 4 cap) ∧ w.cell? ⟨b, t * 18 + 6, none⟩ = some (.int .i64 (s.jobs.getD t zeroJ).pc) := by
  obtain ⟨⟨κ, vc, vj, vt, vl, hb, hw, _⟩, _⟩ := h
  obtain ⟨b, cap, vk, vr, e, _, hr, _⟩ := hw.job t (by omega)
  subst e
  have h1 := hb.get 1
  rw [hj] at h1
  exact ⟨b, cap, h1, hr 6 _ rfl⟩
theorem wpList_load_rowB {P : Program} {ops : Array Oper} {rest : List Oper} {o : Oper} {a : Act} {w : World} {Q : Exit → Act → World → Prop} (ty : TypeId) (x : Operand) (ho : o.op = .load ty x)
    (g : Nat) (hx : a.eval x = .pointer (some ⟨g, 0, none⟩)) (t : TypeId) (cs : Array Value) (fr : Nat × Nat) (d : TypeDesc) (hg : w.heap[g]? = some (.cells cs t fr))
    (hu : P.underlying ty = some d) (hd : (match d with | .struct _ | .array _ _ => true | _ => false) = true) (hi : (P.info? ty).map (·.size) = some cs.size)
    (hw : Region.wanted o (yielded ops a.tmps) = true) (h : wpList P ops Q rest (a.put o.dst (.agg cs)) w) : wpList P ops Q (o :: rest) a w :=
  Go.BigFrame.wpList_want hw fun _ hK => wp_load_row ty x ho g hx t cs fr d hg hu hd hi (hK _ _ h)
theorem ownRS_none {w : World} {B E : Nat} {v : Value} (h : OwnRS w B E v []) : ∃ A c, v = .slice A 0 c := by
  obtain ⟨vs, hl, hh⟩ := h
  exact Rw.slice (show (⟨v, 37, 1, 0, vs⟩ : Rw).own w B from hh.1.own _ List.mem_cons_self)
theorem ownRS_one {w : World} {B E : Nat} {v : Value} {r : R} (h : OwnRS w B E v [[r]]) : ∃ b cap bi ci, v = .slice (some ⟨b, 0, none⟩) 1 cap ∧ w.cell? ⟨b, 0, none⟩ = some (.slice (some ⟨bi, 0, none⟩) 1 ci) ∧ w.cell? ⟨bi, 2, none⟩ = some (.int .i64 r.sum) := by
  obtain ⟨vs, hl, hh⟩ := h
  match vs, hl with
  | [u], _ =>
    have ho : w.ownsRow B 37 1 v 1 [u] := hh.1.own _ List.mem_cons_self
    have hi : w.ownsRow B 55 10 u 1 (cellsF rowCells [r]) := hh.1.own _ (List.mem_cons_of_mem _ List.mem_cons_self)
    rcases ho.2 with ⟨_, h0⟩ | ⟨b, cap, cur, rfl, _⟩
    · omega
    rcases hi.2 with ⟨_, h0⟩ | ⟨bi, ci, cur2, rfl, _⟩
    · omega
    exact ⟨b, cap, bi, ci, rfl, World.ownsRow.cellAt ho 0 (by decide), World.ownsRow.cellAt hi 2 (by decide)⟩
end Go.Proofs.YtnlepnfdgdbkoaaGreatDoor
end
section
namespace Go.Proofs.YtnlepnfdgdbkoaaGreatDoor
open Go.RowKit M
set_option linter.unusedVariables false
structure Code where
  A : Option Addr
  len : Nat
  cap : Nat
  zs : List Int
def IsRow (w : World) (a : Option Addr) (len cap : Nat) (zs : List Int) : Prop :=
  (a = none ∧ len = 0 ∧ cap = 0 ∧ zs = []) ∨
  ∃ x, a = some x ∧ len ≤ cap ∧ cap ≤ maxLen ∧ zs.length = cap ∧ (∀ i, i < zs.length → w.cell? (x.add i) = some (.int .u8 (zs.getD i 0))) ∧ ∀ n ∈ zs, (Lit.int .u8 n).wf = true
def CodeIn (w : World) (K : Code) : Prop :=
  K.len ≤ maxLen ∧ (0 < K.len → ∃ b off, K.A = some ⟨b, off, none⟩ ∧ b < w.heap.size ∧ ∀ j, j < K.len → w.cell? ⟨b, off + j, none⟩ = some (.int .u8 (K.zs.getD j 0)) ∧ 0 ≤ K.zs.getD j 0 ∧ K.zs.getD j 0 ≤ 255)
theorem CodeIn.of_row {w : World} {a : Option Addr} {len cap : Nat} {zs : List Int} (h : IsRow w a len cap zs) : CodeIn w ⟨a, len, cap, zs⟩ := by
  rcases h with ⟨rfl, rfl, rfl, rfl⟩ | ⟨x, rfl, hl, hm, hz, hc, hw⟩
  · exact ⟨Nat.zero_le _, fun h => absurd h (by simp)⟩
  · refine ⟨Nat.le_trans hl hm, fun h => ?_⟩
    simp only at h
    obtain ⟨b, off, spot⟩ := x
    have h0 := hc 0 (by omega)
    have hspot : spot = none := by simpa [Addr.add] using World.cell?_spot h0
    subst hspot
    have hlt : b < w.heap.size := by
      rcases Nat.lt_or_ge b w.heap.size with h1 | h1
      · exact h1
      · have e : w.heap[b]? = none := Array.getElem?_eq_none h1
        simp [Addr.add, World.cell?, e] at h0
    refine ⟨b, off, rfl, hlt, fun j hj => ?_⟩
    simp only at hj
    have hj' : j < zs.length := by omega
    have hcj := hc j hj'
    have e : (⟨b, off, none⟩ : Addr).add j = ⟨b, off + j, none⟩ := by unfold Addr.add; split <;> simp_all
    rw [e] at hcj
    have hwf := hw (zs.getD j 0) (by rw [List.getD_eq_getElem?_getD, List.getElem?_eq_getElem hj']; exact List.getElem_mem hj')
    have hb : 0 ≤ zs.getD j 0 ∧ zs.getD j 0 ≤ 255 := by
      generalize zs.getD j 0 = z at hwf
      simp [Lit.wf] at hwf
      exact hwf
    exact ⟨hcj, hb⟩
theorem CodeIn.below {w w' : World} {K : Code} (h : CodeIn w K) (hb : Below w.heap.size w w') : CodeIn w' K := by
  refine ⟨h.1, fun hp => ?_⟩
  obtain ⟨b, off, e, hlt, hc⟩ := h.2 hp
  exact ⟨b, off, e, Nat.lt_of_lt_of_le hlt hb.size, fun j hj => ⟨(hb.cell (p := ⟨b, off + j, none⟩) hlt).trans (hc j hj).1, (hc j hj).2⟩⟩
def atV (K : Code) (i : Nat) : Nat := if i < K.len then (K.zs.getD i 0).toNat else (i * 37 + K.len * 11) % 256
theorem atV_bd {w : World} {K : Code} (k : CodeIn w K) (i : Nat) : atV K i ≤ 255 := by
  unfold atV
  split
  · rename_i h
    obtain ⟨b, off, hA, hb, hc⟩ := k.2 (by omega)
    have := hc i h
    omega
  · omega
set_option maxRecDepth 100000 in
theorem at_any (w : World) (K : Code) (k : CodeIn w K) (hl : K.len ≤ 1048576) (i : Nat) (hi : i ≤ 1000) :
    Calls Tryz.prog 13 #[.slice K.A K.len K.cap, .int .i64 i] w (Same w (.int .i64 (atV K i : Nat))) := by
  have hm := k.1
  unfold maxLen at hm
  by_cases h : i < K.len
  · obtain ⟨b, off, hA, hb, hc⟩ := k.2 (by omega)
    obtain ⟨c0, c1, c2⟩ := hc i h
    have E := Lib.hid (show atV K i = (K.zs.getD i 0).toNat from if_pos h)
    obtain ⟨x, hx⟩ := Int.eq_ofNat_of_zero_le c1
    generalize K.zs.getD i 0 = z at *
    subst hx
    have h' : (i : Int) < (K.len : Int) := by omega
    generalize atV K i = y at *
    obtain ⟨A, len, cap, zs⟩ := K
    subst hA
    clear k hc
    go_enter Tryz.func13, Tryz.ntmps13
    go_wp2
    go_ret
    exact ⟨ret_i (by have := E.out; omega), rfl⟩
  · have h' : decide ((i : Int) < (K.len : Int)) = false := by simp; omega
    have e0 : 0 ≤ (i : Int) * 37 + (K.len : Int) * 11 := by omega
    have E := Lib.hid (show atV K i = (i * 37 + K.len * 11) % 256 from if_neg h)
    generalize atV K i = y at *
    obtain ⟨A, len, cap, zs⟩ := K
    simp only at *
    clear k
    go_enter Tryz.func13, Tryz.ntmps13
    go_wp2
    go_ret
    exact ⟨ret_i (by have := E.out; omega), rfl⟩
end Go.Proofs.YtnlepnfdgdbkoaaGreatDoor
end
section
namespace Go.Proofs.YtnlepnfdgdbkoaaGreatDoor
open Go.RowKit
set_option linter.unusedVariables false
theorem nBig (A : Option Addr) (len cap : Nat) (W : World) : Calls Tryz.prog 6 #[.slice A len cap] W (Gives (.bool (decide ((1048576 : Int) < (len : Int)))) W) := by
  go_enter Tryz.func6, Tryz.ntmps6
  go_wp2
  go_ret
  exact ⟨rfl, Below.refl _ _⟩
end Go.Proofs.YtnlepnfdgdbkoaaGreatDoor
end

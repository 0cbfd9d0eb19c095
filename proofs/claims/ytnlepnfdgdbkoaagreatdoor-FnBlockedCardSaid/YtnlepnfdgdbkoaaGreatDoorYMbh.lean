/-
  Texts of this seat, laid together.
-/
import Derived.Test.YtnlepnfdgdbkoaaGreatDoorYZd
import Derived.Test.YtnlepnfdgdbkoaaGreatDoorYZa
import Derived.Test.YtnlepnfdgdbkoaaGreatDoorYZb
import Derived.Test.YtnlepnfdgdbkoaaGreatDoorYZc
import Derived.OwnWalk
import Derived.Deep.RegionHeld3
import Derived.Deep.CutRange
import Derived.Test.YtnlepnfdgdbkoaaGreatDoorYMd
import Derived.Test.YtnlepnfdgdbkoaaGreatDoorYMbd
import Derived.Lib.SliceRun
section
namespace Go.Proofs.YtnlepnfdgdbkoaaGreatDoor
open Go.RowKit M
set_option linter.unusedVariables false
set_option linter.unusedSimpArgs false
def endJob (k : Int) (r : J) : Int := k + 16 + ((r.keys.length : Int) : Int) + ((r.raw.length : Int) : Int)
def endJobL : Int → List J → Int
  | k, [] => k
  | k, r :: rs => endJobL (endJob k r) rs
theorem endJob_le (k : Int) (r : J) : k ≤ endJob k r := by unfold endJob; omega
theorem endJobL_le (k : Int) (l : List J) : k ≤ endJobL k l := by
  induction l generalizing k with
  | nil => exact Int.le_refl _
  | cons q rs ih => exact Int.le_trans (endJob_le k q) (ih _)
theorem take_snocJob (l : List J) (j : Nat) (hj : j < l.length) : l.take (j + 1) = l.take j ++ [l.getD j zeroJ] := by
  rw [List.take_add_one, List.getD_eq_getElem?_getD, List.getElem?_eq_getElem hj]; rfl
end Go.Proofs.YtnlepnfdgdbkoaaGreatDoor
end
section
namespace Go.Proofs.YtnlepnfdgdbkoaaGreatDoor
open Go.RowKit M
set_option linter.unusedVariables false
set_option linter.unusedSimpArgs false
def endEv (k : Int) (r : E) : Int := k + 12 + (10 * (r.rows.length : Int) : Int)
def endEvL : Int → List E → Int
  | k, [] => k
  | k, r :: rs => endEvL (endEv k r) rs
theorem endEv_le (k : Int) (r : E) : k ≤ endEv k r := by unfold endEv; omega
theorem endEvL_le (k : Int) (l : List E) : k ≤ endEvL k l := by
  induction l generalizing k with
  | nil => exact Int.le_refl _
  | cons q rs ih => exact Int.le_trans (endEv_le k q) (ih _)
theorem take_snocEv (l : List E) (j : Nat) (hj : j < l.length) : l.take (j + 1) = l.take j ++ [l.getD j zeroE] := by
  rw [List.take_add_one, List.getD_eq_getElem?_getD, List.getElem?_eq_getElem hj]; rfl
end Go.Proofs.YtnlepnfdgdbkoaaGreatDoor
end
section
namespace Go.Proofs.YtnlepnfdgdbkoaaGreatDoor
open Go.RowKit M
set_option linter.unusedVariables false
set_option linter.unusedSimpArgs false
def Off (a b c d : Nat) : Prop := b ≤ c ∨ d ≤ a
theorem Off.symm {a b c d : Nat} (h : Off a b c d) : Off c d a b := h.elim .inr .inl
structure Parts (B E Bc Ec Bj Ej Bt Et Bl El : Nat) : Prop where
  lo : B ≤ Bc ∧ B ≤ Bj ∧ B ≤ Bt ∧ B ≤ Bl
  hi : Ec ≤ E ∧ Ej ≤ E ∧ Et ≤ E ∧ El ≤ E
  cj : Off Bc Ec Bj Ej
  ct : Off Bc Ec Bt Et
  cl : Off Bc Ec Bl El
  jt : Off Bj Ej Bt Et
  jl : Off Bj Ej Bl El
  tl : Off Bt Et Bl El
structure WorAt (w : World) (Bc Ec Bj Ej Bt Et Bl El : Nat) (s : S) (vc vj vt vl : Value) : Prop where
  c : HeapE w Bc Ec [intRw vc s.cells]
  j : OwnY 50 18 jobDat w Bj Ej vj s.jobs
  t : OwnDE 46 36 4 opCells w Bt Et vt s.todo
  l : OwnY 39 13 evDat w Bl El vl s.log
def WorP (w : World) (B E : Nat) (s : S) (vc vj vt vl : Value) : Prop := ∃ Bc Ec Bj Ej Bt Et Bl El, Parts B E Bc Ec Bj Ej Bt Et Bl El ∧ WorAt w Bc Ec Bj Ej Bt Et Bl El s vc vj vt vl
theorem WorAt.below {w w' : World} {Bc Ec Bj Ej Bt Et Bl El : Nat} {s : S} {vc vj vt vl : Value} (h : WorAt w Bc Ec Bj Ej Bt Et Bl El s vc vj vt vl) (hb : Below w.heap.size w w') : WorAt w' Bc Ec Bj Ej Bt Et Bl El s vc vj vt vl :=
  ⟨h.c.below hb, OwnX.below h.j hb, h.t.below hb, OwnX.below h.l hb⟩
theorem WorP.below {w w' : World} {B E : Nat} {s : S} {vc vj vt vl : Value} (h : WorP w B E s vc vj vt vl) (hb : Below w.heap.size w w') : WorP w' B E s vc vj vt vl := by
  obtain ⟨_, _, _, _, _, _, _, _, hp, ha⟩ := h
  exact ⟨_, _, _, _, _, _, _, _, hp, ha.below hb⟩
theorem WorP.far {w w' : World} {B E B' E' : Nat} {s : S} {vc vj vt vl : Value} (h : WorP w B E s vc vj vt vl) (hc : Chg (Within B' E') w w') (hd : E ≤ B' ∨ E' ≤ B) : WorP w' B E s vc vj vt vl := by
  obtain ⟨_, _, _, _, _, _, _, _, hp, ha⟩ := h
  obtain ⟨h1, h2, h3, h4⟩ := hp.lo
  obtain ⟨h5, h6, h7, h8⟩ := hp.hi
  exact ⟨_, _, _, _, _, _, _, _, hp, ha.c.far hc (by omega), OwnX.far ha.j hc (by omega), ha.t.far hc (by omega), OwnX.far ha.l hc (by omega)⟩
theorem WorP.win {w : World} {B E : Nat} {s : S} {vc vj vt vl : Value} (h : WorP w B E s vc vj vt vl) : WorIn w s vc vj vt vl := by
  obtain ⟨_, _, _, _, _, _, _, _, hp, ha⟩ := h
  exact ⟨heapE_ints ha.c, ha.j.arg jobDat_len jobDat_wf zeroJ, OwnD.arg ha.t.own opCells_size zeroO, ha.l.arg evDat_len evDat_wf zeroE⟩
def endW (k : Int) (s : S) : Int := endEvL (endQ (endJobL (k + s.cells.length) s.jobs) s.todo) s.log
structure TameW (k : Int) (s : S) : Prop where
  sm : SmallS s
  tq : totQ s.todo ≤ 1048576
  k0 : 1 ≤ k
  k1 : endW k s ≤ 900000000000
theorem TameW.ks {k : Int} {s : S} (h : TameW k s) : k ≤ k + s.cells.length ∧ k + s.cells.length ≤ endJobL (k + s.cells.length) s.jobs ∧ endJobL (k + s.cells.length) s.jobs ≤ endQ (endJobL (k + s.cells.length) s.jobs) s.todo ∧ endQ (endJobL (k + s.cells.length) s.jobs) s.todo ≤ endW k s := by
  refine ⟨by omega, endJobL_le _ _, ?_, endEvL_le _ _⟩
  rw [endQ_tot]; omega
theorem Blk.chg {S : Nat → Prop} {w w' : World} {g : Nat} {t : TypeId} {cs : Array Value} (h : Blk w g t cs) (hc : Chg S w w') (hn : ¬ S g) : Blk w' g t cs := (hc.block g h.lt hn).trans h
theorem Chg.mono {a b c d : Nat} {w w' : World} (h : Chg (Within a b) w w') (h1 : c ≤ a) (h2 : b ≤ d) : Chg (Within c d) w w' :=
  ⟨h.os, h.tape, h.output, h.size, fun i hi hn => h.block i hi (fun hw => hn ⟨Nat.le_trans h1 hw.1, Nat.lt_of_lt_of_le hw.2 h2⟩)⟩
end Go.Proofs.YtnlepnfdgdbkoaaGreatDoor
namespace Go.Proofs.YtnlepnfdgdbkoaaGreatDoor
open Go.RowKit M
set_option linter.unusedVariables false
set_option linter.unusedSimpArgs false
theorem oper_make {P : Program} (w : World) {o : Oper} {a : Act} {K : Act → World → Prop} {Q : Exit → Act → World → Prop}
    (l c : Operand) (t : TypeId) (hop : o.op = Op.makeSlice t l c)
    (base : Nat) (e : TypeId) (i : TypeInfo) (z : Value) (size : Nat) (h1 : P.underlying t = some (.slice e)) (h2 : P.info? e = some i) (h3 : i.zero = some z) (h4 : i.size = size)
    (kl kc : IntKind) (L C : Int) (n : Nat) (hl : a.eval l = .int kl L) (hc : a.eval c = .int kc C) (hL : L = (n : Int)) (hC : C = (n : Int)) (b2 : i.bytes * n ≤ 281474976710656) (b3 : n ≤ maxLen) (b4 : base ≤ w.heap.size)
    (hK : ∀ w', w'.ownsRow base e size (.slice (some ⟨w.heap.size, 0, none⟩) n n) n (madeCells z.cells (n * size)).toList → w.grownBy w' none → K (a.put o.dst (.slice (some ⟨w.heap.size, 0, none⟩) n n)) w') :
    o.wp P a w K Q := by
  obtain ⟨w', hrun, r1, r2⟩ := run_make_full (P := P) w base t e i z size h1 h2 h3 h4 kl kc n b2 b3 b4
  subst hL
  subst hC
  unfold Oper.wp
  simp [execOp, hop, hl, hc, hrun, Result.andThen]
  exact hK w' r1 r2
theorem todoOk_small {ls : List (List O)} (h : todoOkV ls = true) : ls.length = 4 ∧ ∀ j, j < ls.length → (ls.getD j []).length ≤ 1000 := by
  unfold todoOkV at h
  simp only [Bool.and_eq_true, decide_eq_true_eq, List.all_eq_true, List.mem_range] at h
  refine ⟨h.1, fun j hj => ?_⟩
  have h2 := h.2 j hj
  unfold queueOkV at h2
  simp only [Bool.and_eq_true, decide_eq_true_eq] at h2
  omega
theorem info_intN : (Tryz.prog.info? 3).map (fun i => (i.zero, i.size, i.bytes)) = some (some (.int .i64 0), 1, 8) := by kernel_rfl
def NewW (w : World) (s : S) (e : Ending) (w' : World) : Prop := ∃ vc vj vt vl, e = .returned (.agg (worVals s vc vj vt vl)) ∧ WorP w' w.heap.size w'.heap.size s vc vj vt vl ∧ Below w.heap.size w w'
theorem nil_log {w : World} {B : Nat} : OwnY 39 13 evDat w B B (.slice none 0 0) [] :=
  ⟨[], trivial, Heap.one (r := ⟨.slice none 0 0, 39, 13, 0, []⟩) ⟨rfl, .inl ⟨rfl, rfl⟩⟩, fun r hr k hk => by rw [List.mem_singleton.1 hr] at hk; cases hk⟩
theorem nil_jobs {w : World} {B : Nat} : OwnY 50 18 jobDat w B B (.slice none 0 0) [] :=
  ⟨[], trivial, Heap.one (r := ⟨.slice none 0 0, 50, 18, 0, []⟩) ⟨rfl, .inl ⟨rfl, rfl⟩⟩, fun r hr k hk => by rw [List.mem_singleton.1 hr] at hk; cases hk⟩
theorem nil_cells {w : World} {B : Nat} : HeapE w B B [intRw (.slice none 0 0) []] :=
  ⟨Heap.one (r := intRw (.slice none 0 0) []) ⟨rfl, .inl ⟨rfl, rfl⟩⟩, fun r hr k hk => by rw [List.mem_singleton.1 hr] at hk; cases hk⟩
theorem nil_todo {w : World} {B : Nat} : OwnDE 46 36 4 opCells w B B (.slice none 0 0) [] :=
  ⟨[], rfl, Heap.one (r := ⟨.slice none 0 0, 46, 1, 0, []⟩) ⟨rfl, .inl ⟨rfl, rfl⟩⟩, fun r hr k hk => by rw [List.mem_singleton.1 hr] at hk; cases hk⟩
theorem zero_wor {w : World} {B E : Nat} (h : B ≤ E) : WorP w B E zeroS (.slice none 0 0) (.slice none 0 0) (.slice none 0 0) (.slice none 0 0) :=
  ⟨B, B, B, B, B, B, B, B, ⟨⟨Nat.le_refl _, Nat.le_refl _, Nat.le_refl _, Nat.le_refl _⟩, ⟨h, h, h, h⟩, .inl (Nat.le_refl _), .inl (Nat.le_refl _), .inl (Nat.le_refl _), .inl (Nat.le_refl _), .inl (Nat.le_refl _), .inl (Nat.le_refl _)⟩, ⟨nil_cells, nil_jobs, nil_todo, nil_log⟩⟩
theorem made_cells {w : World} {base g : Nat} (h : w.ownsRow base 3 1 (.slice (some ⟨g, 0, none⟩) 71 71) 71 (madeCells (Value.int .i64 0).cells (71 * 1)).toList) : HeapE w base w.heap.size [intRw (.slice (some ⟨g, 0, none⟩) 71 71) (List.replicate 71 0)] := by
  have ho := OwnI.made h
  refine HeapE.made (Heap.one (r := intRw _ _) ?_)
  exact ho.1
theorem made_jobs {w : World} {base g : Nat} (h : w.ownsRow base 50 18 (.slice (some ⟨g, 0, none⟩) 4 4) 4 (madeCells (Value.agg #[.bool false, .int .i64 0, .string ⟨#[]⟩, .int .i64 0, .int .i64 0, .int .i64 0, .int .i64 0, .int .i64 0, .int .i64 0, .int .i64 0, .int .i64 0, .int .i64 0, .int .i64 0, .int .i64 0, .int .i64 0, .int .i64 0, .slice none 0 0, .slice none 0 0]).cells (4 * 18)).toList) : OwnY 50 18 jobDat w base w.heap.size (.slice (some ⟨g, 0, none⟩) 4 4) (List.replicate 4 zeroJ) :=
  OwnX.made h rfl (by decide) jobZero_ok.1 jobZero_ok.2
end Go.Proofs.YtnlepnfdgdbkoaaGreatDoor
end
section
namespace Go.Proofs.YtnlepnfdgdbkoaaGreatDoor
open Go.RowKit M
set_option linter.unusedVariables false
set_option linter.unusedSimpArgs false
structure WorT (w : World) (Sc Sj St Su Sl : Nat → Prop) (s : S) (vc vj vt vl : Value) : Prop where
  c : HeapS w Sc [intRw vc s.cells]
  j : OwnS 50 18 s.jobs.length w Sj vj (datL jobDat s.jobs)
  t : TodoS w St Su vt s.todo
  l : OwnS 39 13 s.log.length w Sl vl (datL evDat s.log)
theorem WorT.below {w w' : World} {Sc Sj St Su Sl : Nat → Prop} {s : S} {vc vj vt vl : Value} (h : WorT w Sc Sj St Su Sl s vc vj vt vl) (hb : Below w.heap.size w w') : WorT w' Sc Sj St Su Sl s vc vj vt vl := ⟨h.c.below hb, h.j.below hb, h.t.below hb, h.l.below hb⟩
theorem ownJob_at {w : World} {B X : Nat} {v : Value} {l : List J} (h : OwnY 50 18 jobDat w B X v l) (j : Nat) (hj : j < l.length) :
    ∃ b cap vk vr, v = .slice (some ⟨b, 0, none⟩) l.length cap ∧ b < w.heap.size ∧ w.rangeAt b (j * 18) (jobVals (l.getD j zeroJ) vk vr).toList ∧ w.ownsRow B 3 1 vk (l.getD j zeroJ).keys.length ((l.getD j zeroJ).keys.map (Value.int .i64)) ∧ w.ownsRow B 3 1 vr (l.getD j zeroJ).raw.length ((l.getD j zeroJ).raw.map (Value.int .i64)) := by
  rcases OwnX.shape h with ⟨_, h0⟩ | ⟨g, cap, rfl, _⟩
  · omega
  · obtain ⟨A, cap', e, _, _, h3⟩ := OwnY.arg h jobDat_len jobDat_wf zeroJ
    injection e with e1 e2 e3
    obtain ⟨b, off, ea, hb, hc⟩ := h3 (by omega)
    rw [ea] at e1
    injection e1 with e1
    injection e1 with e4 e5 e6
    subst e4
    subst e5
    obtain ⟨vk, vr, hr, _⟩ := job_at (hc j hj)
    rw [Nat.zero_add] at hr
    refine ⟨g, cap, vk, vr, rfl, hb, hr, ?_, ?_⟩
    · have hd : (datL jobDat l)[j * 18 + 16]? = some (.row 3 1 (l.getD j zeroJ).keys.length ((l.getD j zeroJ).keys.map (Value.int .i64))) := by
        rw [datL_at jobDat_len zeroJ l j 16 hj (by decide)]; rfl
      obtain ⟨u, hu, ho⟩ := OwnX.row h (i := j * 18 + 16) (by omega) hd
      have := hr 16 vk rfl
      rw [this] at hu
      injection hu with hu
      subst hu
      exact ho
    · have hd : (datL jobDat l)[j * 18 + 17]? = some (.row 3 1 (l.getD j zeroJ).raw.length ((l.getD j zeroJ).raw.map (Value.int .i64))) := by
        rw [datL_at jobDat_len zeroJ l j 17 hj (by decide)]; rfl
      obtain ⟨u, hu, ho⟩ := OwnX.row h (i := j * 18 + 17) (by omega) hd
      have := hr 17 vr rfl
      rw [this] at hu
      injection hu with hu
      subst hu
      exact ho
structure Got3 (w wx : World) (s : S) (g : Nat) (vc vj vt vl : Value) (Bc Ec Bt Et Bl El E' : Nat) : Prop where
  b : Blk wx g 33 #[vc, vj, vt, vl, .int .i64 s.serial, .int .i64 s.now]
  lo : w.heap.size + 2 ≤ Bc ∧ w.heap.size + 2 ≤ Bt ∧ w.heap.size + 2 ≤ Bl
  hi : Ec ≤ E' ∧ Et ≤ E' ∧ El ≤ E' ∧ g < E'
  og : Off Bc Ec g (g + 1) ∧ Off Bt Et g (g + 1) ∧ Off Bl El g (g + 1)
  lg : w.heap.size + 2 ≤ g
  ct : Off Bc Ec Bt Et
  cl : Off Bc Ec Bl El
  tl : Off Bt Et Bl El
  c : HeapE wx Bc Ec [intRw vc s.cells]
  t : OwnDE 46 36 4 opCells wx Bt Et vt s.todo
  l : OwnY 39 13 evDat wx Bl El vl s.log
theorem Got3.below {w wx w' : World} {s : S} {g : Nat} {vc vj vt vl : Value} {Bc Ec Bt Et Bl El E' : Nat} (h : Got3 w wx s g vc vj vt vl Bc Ec Bt Et Bl El E') (hb : Below wx.heap.size wx w') : Got3 w w' s g vc vj vt vl Bc Ec Bt Et Bl El E' := ⟨h.b.below hb, h.lo, h.hi, h.og, h.lg, h.ct, h.cl, h.tl, h.c.below hb, h.t.below hb, OwnX.below h.l hb⟩
theorem Got3.put {w wx : World} {s : S} {g : Nat} {vc vj vt vl : Value} {Bc Ec Bt Et Bl El E' : Nat} (h : Got3 w wx s g vc vj vt vl Bc Ec Bt Et Bl El E') (u : Value) : Got3 w (wx.setCell ⟨g, 1, none⟩ u) s g vc u vt vl Bc Ec Bt Et Bl El E' := by
  have hc : Chg (Within g (g + 1)) wx (wx.setCell ⟨g, 1, none⟩ u) := Chg.of_grown (row_store h.b 1 u) (fun i hi => by injection hi with hi; subst hi; exact ⟨Nat.le_refl _, Nat.lt_succ_self _⟩)
  exact ⟨h.b.store 1 u, h.lo, h.hi, h.og, h.lg, h.ct, h.cl, h.tl, h.c.far hc h.og.1, h.t.far hc h.og.2.1, OwnX.far h.l hc h.og.2.2⟩
theorem Got3.grown {w wx w' : World} {s : S} {g : Nat} {vc vj vt vl : Value} {Bc Ec Bt Et Bl El E' : Nat} {row : Option Nat} (h : Got3 w wx s g vc vj vt vl Bc Ec Bt Et Bl El E') (hg : wx.grownBy w' row) (hr : ∀ k, row = some k → E' ≤ k) : Got3 w w' s g vc vj vt vl Bc Ec Bt Et Bl El E' := by
  have hc : Chg (Within E' ((row.getD 0) + 1)) wx w' := Chg.of_grown hg (fun k hk => by subst hk; exact ⟨hr k rfl, Nat.lt_succ_self _⟩)
  refine ⟨h.b.grown hg (fun e => by have := hr g e; have := h.hi.2.2.2; omega), h.lo, h.hi, h.og, h.lg, h.ct, h.cl, h.tl, h.c.far hc (.inl h.hi.1), h.t.far hc (.inl h.hi.2.1), OwnX.far h.l hc (.inl h.hi.2.2.1)⟩
theorem wp_buildRow1 {P : Program} {w : World} {o : Oper} {a : Act} {K : Act → World → Prop} {Q : Exit → Act → World → Prop} (t e : TypeId) (x : Operand) (ho : o.op = .buildSlice t 1 #[(0, x)])
    (cells : Array Value) (hx : a.eval x = .agg cells) (ie : TypeInfo) (z : Value) (hu : P.underlying t = some (.slice e)) (hie : P.info? e = some ie) (hz : ie.zero = some z) (hsz : ie.size = cells.size) (h0 : 0 < cells.size) (hs : cells.size ≤ 1000)
    (h : K (a.put o.dst (.slice (some ⟨w.heap.size, 0, none⟩) 1 1)) (w.alloc (.cells cells e))) : o.wp P a w K Q := by
  refine wp_buildSlice t e 1 _ ho cells ie z hu hie hz (by rw [hsz]; omega) (by rw [hsz]; omega) ?_ h
  have e1 : ((#[(0, x)] : Array (Nat × Operand)).map fun (i, x) => (i, a.eval x)).toList = [(0, a.eval x)] := by simp
  rw [e1, hx]
  exact fill_one cells _ ie.size hsz.symm (by simp)
theorem wp_append_at {P : Program} {w : World} {o : Oper} {a : Act} {K : Act → World → Prop} {Q : Exit → Act → World → Prop} (s x : Operand) (t : TypeId)
    (ho : o.op = .call { callee := .builtin .append, args := #[s, x], argTypes := #[t, t] })
    (base : Nat) (e : TypeId) (i : TypeInfo) (z : Value) (size bytes : Nat) (ht : P.underlying t = some (.slice e)) (hi : P.info? e = some i) (hz : i.zero = some z)
    (hsize : i.size = size) (hby : i.bytes = bytes) (hzs : z.cells.size = size) (hsz : 0 < size)
    (v : Value) (n : Nat) (xs : List Value) (hs : a.eval s = v) (hown : w.ownsRow base e size v n xs)
    (ad : Addr) (m c : Nat) (news : List Value) (hx : a.eval x = .slice (some ad) m c) (hl : news.length = m * size) (hnews : ∀ j u, news[j]? = some u → w.cell? (ad.add j) = some u) (h1 : ∀ u ∈ news, u.oneCell' = true)
    (h63 : n + m ≤ maxLen) (hbytes : (n + m) * bytes ≤ 140737488355328) (hbase : base ≤ w.heap.size)
    (h : ∀ v' w', w'.ownsRow base e size v' (n + m) (xs ++ news) → w.grownBy w' v.ownBlock → (v'.ownBlock = v.ownBlock ∨ v'.ownBlock = some w.heap.size) → K (a.put o.dst v') w') : o.wp P a w K Q := by
  obtain ⟨v', w', hr, h2, h3, h4, h5⟩ := run_append_own_at (P := P) w base t o.type e i z size bytes ht hi hz hsize hby hzs hsz v n xs hown ad m c news hl hnews h1 h63 hbytes hbase
  unfold Oper.wp execOp
  simp only [ho, resolve, invoke, builtin, Sem.run_bind, Sem.run_pure, Result.andThen_ok, List.map_toArray, List.map_cons, List.map_nil, hs, hx, hr]
  exact h v' w' h2 h3 h5
end Go.Proofs.YtnlepnfdgdbkoaaGreatDoor
end
section
namespace Go.Proofs.YtnlepnfdgdbkoaaGreatDoor
open Go.RowKit M
set_option linter.unusedVariables false
set_option linter.unusedSimpArgs false
theorem chg_belowP {S : Nat → Prop} {a b c : World} (h : Chg S a b) (k : Below a.heap.size b c) : Chg S a c :=
  ⟨k.os.trans h.os, k.tape.trans h.tape, k.output.trans h.output, Nat.le_trans h.size k.size, fun i hi hn => (k.block i hi).trans (h.block i hi hn)⟩
theorem WorT.chg {w w' : World} {Sc Sj St Su Sl T : Nat → Prop} {s : S} {vc vj vt vl : Value} (h : WorT w Sc Sj St Su Sl s vc vj vt vl) (hc : Chg T w w') (hd : ∀ k, Sc k ∨ Sj k ∨ St k ∨ Su k ∨ Sl k → ¬ T k) : WorT w' Sc Sj St Su Sl s vc vj vt vl :=
  ⟨h.c.chg hc (fun k hk => hd k (.inl hk)), h.j.chg hc (fun k hk => hd k (.inr (.inl hk))), h.t.chg hc (fun k hk => hd k (.inr (.inr (.inl hk)))) (fun k hk => hd k (.inr (.inr (.inr (.inl hk))))), h.l.chg hc (fun k hk => hd k (.inr (.inr (.inr (.inr hk)))))⟩
theorem range_blk {w : World} {g : Nat} {t : TypeId} {cs : Array Value} (h : Blk w g t cs) : w.rangeAt g 0 cs.toList := fun j v hv => by
  rw [Nat.zero_add, h.get j]; simpa using hv
end Go.Proofs.YtnlepnfdgdbkoaaGreatDoor
end
section
namespace Go.Proofs.YtnlepnfdgdbkoaaGreatDoor
open Go.RowKit M
set_option linter.unusedVariables false
set_option linter.unusedSimpArgs false
theorem add_at {zs : List Int} {i n : Int} {k : Nat} (hok : okC zs = true) (hi : i = (k : Int)) (hk : k < 71) (h0 : -281474976710655 ≤ n) (h1 : n ≤ 281474976710655) : addC zs i n = zs.set k (modW (zs.getD k 0 + n)) ∧ addR zs i n = zs.getD k 0 := by
  subst hi
  have h : addOk zs (k : Int) n = true := by
    unfold addOk
    rw [atC_iff.2 ⟨hok, by omega, by omega⟩, decide_eq_true h0, decide_eq_true h1]; rfl
  constructor
  · rw [addC, if_pos h, Int.toNat_natCast]; rfl
  · rw [addR, if_pos h, Int.toNat_natCast]
theorem OwnI.base' {w : World} {b b' : Nat} {v : Value} {l : List Int} (h : OwnI w b v l) (hb : b' ≤ b) : OwnI w b' v l := OwnI.base h hb
theorem iBufOf_any (w : World) (x : Int) (h0 : 0 ≤ x) (h1 : x ≤ 281474976710655) : Calls Tryz.prog 103 #[.int .i64 x] w (Same w (.int .i64 (x % 2))) := by
  go_enter Tryz.func103, Tryz.ntmps103
  go_wp2
  go_ret
  exact ⟨rfl, rfl⟩
theorem OwnR.none {w : World} {base : Nat} : OwnR w base (.slice none 0 0) [] := by
  unfold OwnR
  exact ⟨rfl, .inl ⟨rfl, rfl⟩⟩
end Go.Proofs.YtnlepnfdgdbkoaaGreatDoor
end

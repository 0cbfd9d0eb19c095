/-
  Several small texts of this proof, one behind another: each says ahead of itself what it proves.
-/
import Derived.Test.YtcfdnfckilpppaaJobK
import Derived.Test.YtcfdnfckilpppaaEvK
import Derived.Test.YtcfdnfckilpppaaZb
import Derived.Test.YtcfdnfckilpppaaZc
import Derived.Test.YtcfdnfckilpppaaZa
import Derived.OwnWalk
import Derived.Deep.RegionHeld3
/-
  The exact laws' marks on a world that a call made, and the look whether they are held.
-/
namespace Go.Proofs.Ytcfdnfckilpppaa
open Go.RowKit M
set_option linter.unusedVariables false
set_option linter.unusedSimpArgs false
/-- Two stretches of blocks have none in common. -/
def Off (a b c d : Nat) : Prop := b ≤ c ∨ d ≤ a
theorem Off.symm {a b c d : Nat} (h : Off a b c d) : Off c d a b := h.elim .inr .inl
/-- A world's rows, each in a stretch of blocks from B on and below E, no two of which meet. -/
structure Parts (B E Bc Ec Bj Ej Bt Et Bl El : Nat) : Prop where
  lo : B ≤ Bc ∧ B ≤ Bj ∧ B ≤ Bt ∧ B ≤ Bl
  hi : Ec ≤ E ∧ Ej ≤ E ∧ Et ≤ E ∧ El ≤ E
  cj : Off Bc Ec Bj Ej
  ct : Off Bc Ec Bt Et
  cl : Off Bc Ec Bl El
  jt : Off Bj Ej Bt Et
  jl : Off Bj Ej Bl El
  tl : Off Bt Et Bl El
structure WorAt (w : World) (Bc Ec Bj Ej Bt Et Bl El : Nat) (s : S) (vc vj vt vl : Value) : Prop where
  c : HeapE w Bc Ec [intRw vc s.cells]
  j : OwnY 86 18 jobDat w Bj Ej vj s.jobs
  t : OwnDE 90 53 4 opCells w Bt Et vt s.todo
  l : OwnY 56 13 evDat w Bl El vl s.log
def WorP (w : World) (B E : Nat) (s : S) (vc vj vt vl : Value) : Prop := ∃ Bc Ec Bj Ej Bt Et Bl El, Parts B E Bc Ec Bj Ej Bt Et Bl El ∧ WorAt w Bc Ec Bj Ej Bt Et Bl El s vc vj vt vl
theorem WorAt.below {w w' : World} {Bc Ec Bj Ej Bt Et Bl El : Nat} {s : S} {vc vj vt vl : Value} (h : WorAt w Bc Ec Bj Ej Bt Et Bl El s vc vj vt vl) (hb : Below w.heap.size w w') : WorAt w' Bc Ec Bj Ej Bt Et Bl El s vc vj vt vl :=
  ⟨h.c.below hb, OwnX.below h.j hb, h.t.below hb, OwnX.below h.l hb⟩
theorem WorP.below {w w' : World} {B E : Nat} {s : S} {vc vj vt vl : Value} (h : WorP w B E s vc vj vt vl) (hb : Below w.heap.size w w') : WorP w' B E s vc vj vt vl := by
  obtain ⟨_, _, _, _, _, _, _, _, hp, ha⟩ := h
  exact ⟨_, _, _, _, _, _, _, _, hp, ha.below hb⟩
theorem WorP.far {w w' : World} {B E B' E' : Nat} {s : S} {vc vj vt vl : Value} (h : WorP w B E s vc vj vt vl) (hc : Chg (Within B' E') w w') (hd : E ≤ B' ∨ E' ≤ B) : WorP w' B E s vc vj vt vl := by
  obtain ⟨_, _, _, _, _, _, _, _, hp, ha⟩ := h
  obtain ⟨h1, h2, h3, h4⟩ := hp.lo
  obtain ⟨h5, h6, h7, h8⟩ := hp.hi
  exact ⟨_, _, _, _, _, _, _, _, hp, ha.c.far hc (by omega), OwnX.far ha.j hc (by omega), ha.t.far hc (by omega), OwnX.far ha.l hc (by omega)⟩
theorem WorP.win {w : World} {B E : Nat} {s : S} {vc vj vt vl : Value} (h : WorP w B E s vc vj vt vl) : WorIn w s vc vj vt vl := by
  obtain ⟨_, _, _, _, _, _, _, _, hp, ha⟩ := h
  exact ⟨heapE_ints ha.c, ha.j.arg jobDat_len jobDat_wf zeroJ, OwnD.arg ha.t.own opCells_size zeroO, ha.l.arg evDat_len evDat_wf zeroE⟩
def markW (k : Int) (s : S) : S :=
  ⟨marks k s.cells.length, markJobL (k + s.cells.length) s.jobs, marksQ (endJobL (k + s.cells.length) s.jobs) s.todo, markEvL (endQ (endJobL (k + s.cells.length) s.jobs) s.todo) s.log, s.serial, s.now⟩
def endW (k : Int) (s : S) : Int := endEvL (endQ (endJobL (k + s.cells.length) s.jobs) s.todo) s.log
/-- The rows are short, and the count stays small. -/
structure TameW (k : Int) (s : S) : Prop where
  sm : SmallS s
  tq : totQ s.todo ≤ 1048576
  k0 : 1 ≤ k
  k1 : endW k s ≤ 900000000000
theorem TameW.ks {k : Int} {s : S} (h : TameW k s) : k ≤ k + s.cells.length ∧ k + s.cells.length ≤ endJobL (k + s.cells.length) s.jobs ∧ endJobL (k + s.cells.length) s.jobs ≤ endQ (endJobL (k + s.cells.length) s.jobs) s.todo ∧ endQ (endJobL (k + s.cells.length) s.jobs) s.todo ≤ endW k s := by
  refine ⟨by omega, endJobL_le _ _, ?_, endEvL_le _ _⟩
  rw [endQ_tot]; omega
theorem Blk.chg {S : Nat → Prop} {w w' : World} {g : Nat} {t : TypeId} {cs : Array Value} (h : Blk w g t cs) (hc : Chg S w w') (hn : ¬ S g) : Blk w' g t cs := (hc.block g h.lt hn).trans h
theorem Chg.mono {a b c d : Nat} {w w' : World} (h : Chg (Within a b) w w') (h1 : c ≤ a) (h2 : b ≤ d) : Chg (Within c d) w w' :=
  ⟨h.os, h.tape, h.output, h.size, fun i hi hn => h.block i hi (fun hw => hn ⟨Nat.le_trans h1 hw.1, Nat.lt_of_lt_of_le hw.2 h2⟩)⟩
theorem heapE_marked {w w' : World} {Bc Ec : Nat} {vc : Value} {zs : List Int} {k : Int} (h : HeapE w Bc Ec [intRw vc zs]) (ho : w'.ownsRow Bc 3 1 vc zs.length ((marks k zs.length).map (Value.int .i64))) (hg : w.grownBy w' vc.ownBlock) :
    HeapE w' Bc Ec [intRw vc (marks k zs.length)] ∧ Chg (Within Bc Ec) w w' := by
  have hk : ∀ i, vc.ownBlock = some i → Within Bc Ec i := fun i hi => ⟨h.1.base_le List.mem_cons_self i hi, h.2 _ List.mem_cons_self i hi⟩
  refine ⟨⟨Heap.one (r := intRw vc (marks k zs.length)) ?_, fun r hr i hi => ?_⟩, Chg.of_grown hg hk⟩
  · show w'.ownsRow Bc 3 1 vc (marks k zs.length).length ((marks k zs.length).map (Value.int .i64))
    rw [marks_length]; exact ho
  · rw [List.mem_singleton.1 hr] at hi
    exact (hk i hi).2
def MarkedW (w : World) (B E : Nat) (k : Int) (s : S) (vc vj vt vl : Value) (e : Ending) (w' : World) : Prop := e = .returned (.int .i64 (endW k s)) ∧ WorP w' B E (markW k s) vc vj vt vl ∧ Chg (Within B E) w w'
set_option maxRecDepth 100000 in
set_option maxHeartbeats 4000000 in
theorem markWorld_any (w : World) (B E : Nat) (s : S) (vc vj vt vl : Value) (k : Int) (h : WorP w B E s vc vj vt vl) (hE : E ≤ w.heap.size) (ht : TameW k s) : Calls Try.prog 12 #[.agg (worVals s vc vj vt vl), .int .i64 k] w (MarkedW w B E k s vc vj vt vl) := by
  obtain ⟨Bc, Ec, Bj, Ej, Bt, Et, Bl, El, hp, ha⟩ := h
  obtain ⟨k1, k2, k3, k4⟩ := ht.ks
  have K0 := ht.k0
  have K1 := ht.k1
  have HT := Lib.hid ht
  have HP := Lib.hid hp
  have HR := Lib.hid (show endW k s = endEvL (endQ (endJobL (k + s.cells.length) s.jobs) s.todo) s.log from rfl)
  have HMW := Lib.hid (show markW k s = ⟨marks k s.cells.length, markJobL (k + s.cells.length) s.jobs, marksQ (endJobL (k + s.cells.length) s.jobs) s.todo, markEvL (endQ (endJobL (k + s.cells.length) s.jobs) s.todo) s.log, s.serial, s.now⟩ from rfl)
  have HAt := Lib.hid (fun o => ha.below (below_oneL w o))
  have G := Lib.hid (Blk.new w w.heap.size 34 #[vc, vj, vt, vl, .int .i64 s.serial, .int .i64 s.now] rfl)
  have HC := Lib.hid (show Chg (Within B E) w (w.alloc (.cells #[vc, vj, vt, vl, .int .i64 s.serial, .int .i64 s.now] 34)) from Chg.of_below (below_oneL w _))
  have HEL := Lib.hid hE
  have HVJ := Lib.hid ha.j
  clear ha hp ht
  unfold worVals
  go_enter Try.func12, Try.ntmps12
  have p0 : (w.alloc (.cells #[vc, vj, vt, vl, .int .i64 s.serial, .int .i64 s.now] 34)).cell? ⟨w.heap.size, 0, none⟩ = some (vc) := G.out.get 0
  have p1 : (w.alloc (.cells #[vc, vj, vt, vl, .int .i64 s.serial, .int .i64 s.now] 34)).cell? ⟨w.heap.size, 1, none⟩ = some (vj) := G.out.get 1
  have p2 : (w.alloc (.cells #[vc, vj, vt, vl, .int .i64 s.serial, .int .i64 s.now] 34)).cell? ⟨w.heap.size, 2, none⟩ = some (vt) := G.out.get 2
  have p3 : (w.alloc (.cells #[vc, vj, vt, vl, .int .i64 s.serial, .int .i64 s.now] 34)).cell? ⟨w.heap.size, 3, none⟩ = some (vl) := G.out.get 3
  have p4 : (w.alloc (.cells #[vc, vj, vt, vl, .int .i64 s.serial, .int .i64 s.now] 34)).cell? ⟨w.heap.size, 4, none⟩ = some (.int .i64 s.serial) := G.out.get 4
  have p5 : (w.alloc (.cells #[vc, vj, vt, vl, .int .i64 s.serial, .int .i64 s.now] 34)).cell? ⟨w.heap.size, 5, none⟩ = some (.int .i64 s.now) := G.out.get 5
  have ha1 := HAt.out (.cells #[vc, vj, vt, vl, .int .i64 s.serial, .int .i64 s.now] 34)
  have HM := Lib.hid (markIntN_any _ Bc vc s.cells k (ha1.c.1.own _ List.mem_cons_self) HT.out.sm.c (by omega) (by omega))
  have HA := Lib.hid ha1
  clear ha1 HAt HVJ
  go_wp2_with fail
  refine HM.out.mono ?_
  rintro e w1 ⟨rfl, hm, hg⟩
  have hh := heapE_marked HA.out.c hm hg
  have hcg := Chg.mono hh.2 HP.out.lo.1 HP.out.hi.1
  have G1 := Lib.hid (G.out.chg hcg (fun hw => Nat.lt_irrefl _ (Nat.lt_of_lt_of_le hw.2 HEL.out)))
  replace HC := Lib.hid (HC.out.trans hcg)
  have HA1 := Lib.hid (show WorAt w1 Bc Ec Bj Ej Bt Et Bl El ⟨marks k s.cells.length, s.jobs, s.todo, s.log, s.serial, s.now⟩ vc vj vt vl from ⟨hh.1, OwnX.far HA.out.j hh.2 (HP.out.cj.symm), HA.out.t.far hh.2 (HP.out.ct.symm), OwnX.far HA.out.l hh.2 (HP.out.cl.symm)⟩)
  clear p0 p1 p2 p3 p4 p5
  clear hm hg hh hcg HM HA G
  have G := G1
  clear G1
  have p0 : w1.cell? ⟨w.heap.size, 0, none⟩ = some (vc) := G.out.get 0
  have p1 : w1.cell? ⟨w.heap.size, 1, none⟩ = some (vj) := G.out.get 1
  have p2 : w1.cell? ⟨w.heap.size, 2, none⟩ = some (vt) := G.out.get 2
  have p3 : w1.cell? ⟨w.heap.size, 3, none⟩ = some (vl) := G.out.get 3
  have p4 : w1.cell? ⟨w.heap.size, 4, none⟩ = some (.int .i64 s.serial) := G.out.get 4
  have p5 : w1.cell? ⟨w.heap.size, 5, none⟩ = some (.int .i64 s.now) := G.out.get 5
  have HM := Lib.hid (markJobS_any w1 Bj Ej vj s.jobs (k + s.cells.length) HA1.out.j HT.out.sm.j HT.out.sm.jk (by omega) (by omega))
  go_wp2_with fail
  refine HM.out.mono ?_
  rintro e w2 ⟨rfl, hm, hg⟩
  have hcg := Chg.mono hg HP.out.lo.2.1 HP.out.hi.2.1
  have G1 := Lib.hid (G.out.chg hcg (fun hw => Nat.lt_irrefl _ (Nat.lt_of_lt_of_le hw.2 HEL.out)))
  replace HC := Lib.hid (HC.out.trans hcg)
  have HA2 := Lib.hid (show WorAt w2 Bc Ec Bj Ej Bt Et Bl El ⟨marks k s.cells.length, markJobL (k + s.cells.length) s.jobs, s.todo, s.log, s.serial, s.now⟩ vc vj vt vl from ⟨HA1.out.c.far hg HP.out.cj, hm, HA1.out.t.far hg (HP.out.jt.symm), OwnX.far HA1.out.l hg (HP.out.jl.symm)⟩)
  clear p0 p1 p2 p3 p4 p5
  clear hm hg hcg HM HA1 G
  have G := G1
  clear G1
  have p0 : w2.cell? ⟨w.heap.size, 0, none⟩ = some (vc) := G.out.get 0
  have p1 : w2.cell? ⟨w.heap.size, 1, none⟩ = some (vj) := G.out.get 1
  have p2 : w2.cell? ⟨w.heap.size, 2, none⟩ = some (vt) := G.out.get 2
  have p3 : w2.cell? ⟨w.heap.size, 3, none⟩ = some (vl) := G.out.get 3
  have p4 : w2.cell? ⟨w.heap.size, 4, none⟩ = some (.int .i64 s.serial) := G.out.get 4
  have p5 : w2.cell? ⟨w.heap.size, 5, none⟩ = some (.int .i64 s.now) := G.out.get 5
  have HM := Lib.hid (markQueueS_any w2 Bt Et vt s.todo (endJobL (k + s.cells.length) s.jobs) HA2.out.t HT.out.sm.t HT.out.tq (by omega) (by omega))
  go_wp2_with fail
  refine HM.out.mono ?_
  rintro e w3 ⟨rfl, hm, hg⟩
  have hcg := Chg.mono hg HP.out.lo.2.2.1 HP.out.hi.2.2.1
  have G1 := Lib.hid (G.out.chg hcg (fun hw => Nat.lt_irrefl _ (Nat.lt_of_lt_of_le hw.2 HEL.out)))
  replace HC := Lib.hid (HC.out.trans hcg)
  have HA3 := Lib.hid (show WorAt w3 Bc Ec Bj Ej Bt Et Bl El ⟨marks k s.cells.length, markJobL (k + s.cells.length) s.jobs, marksQ (endJobL (k + s.cells.length) s.jobs) s.todo, s.log, s.serial, s.now⟩ vc vj vt vl from ⟨HA2.out.c.far hg HP.out.ct, OwnX.far HA2.out.j hg HP.out.jt, hm, OwnX.far HA2.out.l hg (HP.out.tl.symm)⟩)
  clear p0 p1 p2 p3 p4 p5
  clear hm hg hcg HM HA2 G
  have G := G1
  clear G1
  have p0 : w3.cell? ⟨w.heap.size, 0, none⟩ = some (vc) := G.out.get 0
  have p1 : w3.cell? ⟨w.heap.size, 1, none⟩ = some (vj) := G.out.get 1
  have p2 : w3.cell? ⟨w.heap.size, 2, none⟩ = some (vt) := G.out.get 2
  have p3 : w3.cell? ⟨w.heap.size, 3, none⟩ = some (vl) := G.out.get 3
  have p4 : w3.cell? ⟨w.heap.size, 4, none⟩ = some (.int .i64 s.serial) := G.out.get 4
  have p5 : w3.cell? ⟨w.heap.size, 5, none⟩ = some (.int .i64 s.now) := G.out.get 5
  have HM := Lib.hid (markEvS_any w3 Bl El vl s.log (endQ (endJobL (k + s.cells.length) s.jobs) s.todo) HA3.out.l HT.out.sm.l HT.out.sm.lk (by omega) (by rw [← HR.out]; omega))
  go_wp2_with fail
  refine HM.out.mono ?_
  rintro e w4 ⟨rfl, hm, hg⟩
  have hcg := Chg.mono hg HP.out.lo.2.2.2 HP.out.hi.2.2.2
  replace HC := Lib.hid (HC.out.trans hcg)
  have HA4 := Lib.hid (show WorAt w4 Bc Ec Bj Ej Bt Et Bl El (markW k s) vc vj vt vl from ⟨HA3.out.c.far hg HP.out.cl, OwnX.far HA3.out.j hg HP.out.jl, HA3.out.t.far hg HP.out.tl, hm⟩)
  clear p0 p1 p2 p3 p4 p5
  clear hm hg hcg HM HA3 G
  go_wp2_with fail
  go_ret
  exact ⟨rfl, ⟨Bc, Ec, Bj, Ej, Bt, Et, Bl, El, HP.out, HA4.out⟩, HC.out⟩
end Go.Proofs.Ytcfdnfckilpppaa
/-
  Chapter 10, WorldNew (what both have in common): a world of its own. It turns nothing that was there.
-/
namespace Go.Proofs.Ytcfdnfckilpppaa
open Go.RowKit M
set_option linter.unusedVariables false
set_option linter.unusedSimpArgs false
/-- 'make' of so many elements, one operation. -/
theorem oper_make {P : Program} (w : World) {o : Oper} {a : Act} {K : Act → World → Prop} {Q : Exit → Act → World → Prop}
    (l c : Operand) (t : TypeId) (hop : o.op = Op.makeSlice t l c)
    (base : Nat) (e : TypeId) (i : TypeInfo) (z : Value) (size : Nat) (h1 : P.underlying t = some (.slice e)) (h2 : P.info? e = some i) (h3 : i.zero = some z) (h4 : i.size = size)
    (kl kc : IntKind) (L C : Int) (n : Nat) (hl : a.eval l = .int kl L) (hc : a.eval c = .int kc C) (hL : L = (n : Int)) (hC : C = (n : Int)) (b2 : i.bytes * n ≤ 281474976710656) (b3 : n ≤ maxLen) (b4 : base ≤ w.heap.size)
    (hK : ∀ w', w'.ownsRow base e size (.slice (some ⟨w.heap.size, 0, none⟩) n n) n (madeCells z.cells (n * size)).toList → w.grownBy w' none → K (a.put o.dst (.slice (some ⟨w.heap.size, 0, none⟩) n n)) w') :
    o.wp P a w K Q := by
  obtain ⟨w', hrun, r1, r2⟩ := run_make_full (P := P) w base t e i z size h1 h2 h3 h4 kl kc n b2 b3 b4
  subst hL
  subst hC
  unfold Oper.wp
  simp [execOp, hop, hl, hc, hrun, Result.andThen]
  exact hK w' r1 r2
theorem todoOk_small {ls : List (List O)} (h : todoOkV ls = true) : ls.length = 4 ∧ ∀ j, j < ls.length → (ls.getD j []).length ≤ 1000 := by
  unfold todoOkV at h
  simp only [Bool.and_eq_true, decide_eq_true_eq, List.all_eq_true, List.mem_range] at h
  refine ⟨h.1, fun j hj => ?_⟩
  have h2 := h.2 j hj
  unfold queueOkV at h2
  simp only [Bool.and_eq_true, decide_eq_true_eq] at h2
  omega
theorem info_intN : (Try.prog.info? 3).map (fun i => (i.zero, i.size, i.bytes)) = some (some (.int .i64 0), 1, 8) := by kernel_rfl
def NewW (w : World) (s : S) (e : Ending) (w' : World) : Prop := ∃ vc vj vt vl, e = .returned (.agg (worVals s vc vj vt vl)) ∧ WorP w' w.heap.size w'.heap.size s vc vj vt vl ∧ Below w.heap.size w w'
theorem nil_log {w : World} {B : Nat} : OwnY 56 13 evDat w B B (.slice none 0 0) [] :=
  ⟨[], trivial, Heap.one (r := ⟨.slice none 0 0, 56, 13, 0, []⟩) ⟨rfl, .inl ⟨rfl, rfl⟩⟩, fun r hr k hk => by rw [List.mem_singleton.1 hr] at hk; cases hk⟩
theorem nil_jobs {w : World} {B : Nat} : OwnY 86 18 jobDat w B B (.slice none 0 0) [] :=
  ⟨[], trivial, Heap.one (r := ⟨.slice none 0 0, 86, 18, 0, []⟩) ⟨rfl, .inl ⟨rfl, rfl⟩⟩, fun r hr k hk => by rw [List.mem_singleton.1 hr] at hk; cases hk⟩
theorem nil_cells {w : World} {B : Nat} : HeapE w B B [intRw (.slice none 0 0) []] :=
  ⟨Heap.one (r := intRw (.slice none 0 0) []) ⟨rfl, .inl ⟨rfl, rfl⟩⟩, fun r hr k hk => by rw [List.mem_singleton.1 hr] at hk; cases hk⟩
theorem nil_todo {w : World} {B : Nat} : OwnDE 90 53 4 opCells w B B (.slice none 0 0) [] :=
  ⟨[], rfl, Heap.one (r := ⟨.slice none 0 0, 90, 1, 0, []⟩) ⟨rfl, .inl ⟨rfl, rfl⟩⟩, fun r hr k hk => by rw [List.mem_singleton.1 hr] at hk; cases hk⟩
theorem zero_wor {w : World} {B E : Nat} (h : B ≤ E) : WorP w B E zeroS (.slice none 0 0) (.slice none 0 0) (.slice none 0 0) (.slice none 0 0) :=
  ⟨B, B, B, B, B, B, B, B, ⟨⟨Nat.le_refl _, Nat.le_refl _, Nat.le_refl _, Nat.le_refl _⟩, ⟨h, h, h, h⟩, .inl (Nat.le_refl _), .inl (Nat.le_refl _), .inl (Nat.le_refl _), .inl (Nat.le_refl _), .inl (Nat.le_refl _), .inl (Nat.le_refl _)⟩, ⟨nil_cells, nil_jobs, nil_todo, nil_log⟩⟩
theorem made_cells {w : World} {base g : Nat} (h : w.ownsRow base 3 1 (.slice (some ⟨g, 0, none⟩) 71 71) 71 (madeCells (Value.int .i64 0).cells (71 * 1)).toList) : HeapE w base w.heap.size [intRw (.slice (some ⟨g, 0, none⟩) 71 71) (List.replicate 71 0)] := by
  have ho := OwnI.made h
  refine HeapE.made (Heap.one (r := intRw _ _) ?_)
  exact ho.1
theorem made_jobs {w : World} {base g : Nat} (h : w.ownsRow base 86 18 (.slice (some ⟨g, 0, none⟩) 4 4) 4 (madeCells (Value.agg #[.bool false, .int .i64 0, .string ⟨#[]⟩, .int .i64 0, .int .i64 0, .int .i64 0, .int .i64 0, .int .i64 0, .int .i64 0, .int .i64 0, .int .i64 0, .int .i64 0, .int .i64 0, .int .i64 0, .int .i64 0, .int .i64 0, .slice none 0 0, .slice none 0 0]).cells (4 * 18)).toList) : OwnY 86 18 jobDat w base w.heap.size (.slice (some ⟨g, 0, none⟩) 4 4) (List.replicate 4 zeroJ) :=
  OwnX.made h rfl (by decide) jobZero_ok.1 jobZero_ok.2
end Go.Proofs.Ytcfdnfckilpppaa

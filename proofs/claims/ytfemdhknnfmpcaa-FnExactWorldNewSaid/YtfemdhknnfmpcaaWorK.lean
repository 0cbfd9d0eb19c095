/-
  The exact laws' marks on a world that a call made, and the look whether they are held.
-/
import Derived.Test.YtfemdhknnfmpcaaJobK
import Derived.Test.YtfemdhknnfmpcaaEvK
import Derived.Test.YtfemdhknnfmpcaaQuK
import Derived.Test.YtfemdhknnfmpcaaWorC
import Derived.Test.YtfemdhknnfmpcaaSysL
namespace Go.Proofs.Ytfemdhknnfmpcaa
open Go.RowKit M
set_option linter.unusedVariables false
set_option linter.unusedSimpArgs false
/-- Two stretches of blocks have none in common. -/
def Off (a b c d : Nat) : Prop := b ≤ c ∨ d ≤ a
theorem Off.symm {a b c d : Nat} (h : Off a b c d) : Off c d a b := h.elim .inr .inl
/-- A world's rows, each in a stretch of blocks from B on and below E, no two of which meet. -/
structure Parts (B E Bc Ec Bj Ej Bt Et Bl El : Nat) : Prop where
  lo : B ≤ Bc ∧ B ≤ Bj ∧ B ≤ Bt ∧ B ≤ Bl
  hi : Ec ≤ E ∧ Ej ≤ E ∧ Et ≤ E ∧ El ≤ E
  cj : Off Bc Ec Bj Ej
  ct : Off Bc Ec Bt Et
  cl : Off Bc Ec Bl El
  jt : Off Bj Ej Bt Et
  jl : Off Bj Ej Bl El
  tl : Off Bt Et Bl El
structure WorAt (w : World) (Bc Ec Bj Ej Bt Et Bl El : Nat) (s : S) (vc vj vt vl : Value) : Prop where
  c : HeapE w Bc Ec [intRw vc s.cells]
  j : OwnY 42 18 jobDat w Bj Ej vj s.jobs
  t : OwnDE 73 26 4 opCells w Bt Et vt s.todo
  l : OwnY 99 13 evDat w Bl El vl s.log
def WorP (w : World) (B E : Nat) (s : S) (vc vj vt vl : Value) : Prop := ∃ Bc Ec Bj Ej Bt Et Bl El, Parts B E Bc Ec Bj Ej Bt Et Bl El ∧ WorAt w Bc Ec Bj Ej Bt Et Bl El s vc vj vt vl
theorem WorAt.below {w w' : World} {Bc Ec Bj Ej Bt Et Bl El : Nat} {s : S} {vc vj vt vl : Value} (h : WorAt w Bc Ec Bj Ej Bt Et Bl El s vc vj vt vl) (hb : Below w.heap.size w w') : WorAt w' Bc Ec Bj Ej Bt Et Bl El s vc vj vt vl :=
  ⟨h.c.below hb, OwnX.below h.j hb, h.t.below hb, OwnX.below h.l hb⟩
theorem WorP.below {w w' : World} {B E : Nat} {s : S} {vc vj vt vl : Value} (h : WorP w B E s vc vj vt vl) (hb : Below w.heap.size w w') : WorP w' B E s vc vj vt vl := by
  obtain ⟨_, _, _, _, _, _, _, _, hp, ha⟩ := h
  exact ⟨_, _, _, _, _, _, _, _, hp, ha.below hb⟩
theorem WorP.far {w w' : World} {B E B' E' : Nat} {s : S} {vc vj vt vl : Value} (h : WorP w B E s vc vj vt vl) (hc : Chg (Within B' E') w w') (hd : E ≤ B' ∨ E' ≤ B) : WorP w' B E s vc vj vt vl := by
  obtain ⟨_, _, _, _, _, _, _, _, hp, ha⟩ := h
  obtain ⟨h1, h2, h3, h4⟩ := hp.lo
  obtain ⟨h5, h6, h7, h8⟩ := hp.hi
  exact ⟨_, _, _, _, _, _, _, _, hp, ha.c.far hc (by omega), OwnX.far ha.j hc (by omega), ha.t.far hc (by omega), OwnX.far ha.l hc (by omega)⟩
theorem WorP.win {w : World} {B E : Nat} {s : S} {vc vj vt vl : Value} (h : WorP w B E s vc vj vt vl) : WorIn w s vc vj vt vl := by
  obtain ⟨_, _, _, _, _, _, _, _, hp, ha⟩ := h
  exact ⟨heapE_ints ha.c, ha.j.arg jobDat_len jobDat_wf zeroJ, OwnD.arg ha.t.own opCells_size zeroO, ha.l.arg evDat_len evDat_wf zeroE⟩
def markW (k : Int) (s : S) : S :=
  ⟨marks k s.cells.length, markJobL (k + s.cells.length) s.jobs, marksQ (endJobL (k + s.cells.length) s.jobs) s.todo, markEvL (endQ (endJobL (k + s.cells.length) s.jobs) s.todo) s.log, s.serial, s.now⟩
def endW (k : Int) (s : S) : Int := endEvL (endQ (endJobL (k + s.cells.length) s.jobs) s.todo) s.log
/-- The rows are short, and the count stays small. -/
structure TameW (k : Int) (s : S) : Prop where
  sm : SmallS s
  tq : totQ s.todo ≤ 1048576
  k0 : 1 ≤ k
  k1 : endW k s ≤ 900000000000
theorem TameW.ks {k : Int} {s : S} (h : TameW k s) : k ≤ k + s.cells.length ∧ k + s.cells.length ≤ endJobL (k + s.cells.length) s.jobs ∧ endJobL (k + s.cells.length) s.jobs ≤ endQ (endJobL (k + s.cells.length) s.jobs) s.todo ∧ endQ (endJobL (k + s.cells.length) s.jobs) s.todo ≤ endW k s := by
  refine ⟨by omega, endJobL_le _ _, ?_, endEvL_le _ _⟩
  rw [endQ_tot]; omega
theorem Blk.chg {S : Nat → Prop} {w w' : World} {g : Nat} {t : TypeId} {cs : Array Value} (h : Blk w g t cs) (hc : Chg S w w') (hn : ¬ S g) : Blk w' g t cs := (hc.block g h.lt hn).trans h
theorem Chg.mono {a b c d : Nat} {w w' : World} (h : Chg (Within a b) w w') (h1 : c ≤ a) (h2 : b ≤ d) : Chg (Within c d) w w' :=
  ⟨h.os, h.tape, h.output, h.size, fun i hi hn => h.block i hi (fun hw => hn ⟨Nat.le_trans h1 hw.1, Nat.lt_of_lt_of_le hw.2 h2⟩)⟩
theorem heapE_marked {w w' : World} {Bc Ec : Nat} {vc : Value} {zs : List Int} {k : Int} (h : HeapE w Bc Ec [intRw vc zs]) (ho : w'.ownsRow Bc 3 1 vc zs.length ((marks k zs.length).map (Value.int .i64))) (hg : w.grownBy w' vc.ownBlock) :
    HeapE w' Bc Ec [intRw vc (marks k zs.length)] ∧ Chg (Within Bc Ec) w w' := by
  have hk : ∀ i, vc.ownBlock = some i → Within Bc Ec i := fun i hi => ⟨h.1.base_le List.mem_cons_self i hi, h.2 _ List.mem_cons_self i hi⟩
  refine ⟨⟨Heap.one (r := intRw vc (marks k zs.length)) ?_, fun r hr i hi => ?_⟩, Chg.of_grown hg hk⟩
  · show w'.ownsRow Bc 3 1 vc (marks k zs.length).length ((marks k zs.length).map (Value.int .i64))
    rw [marks_length]; exact ho
  · rw [List.mem_singleton.1 hr] at hi
    exact (hk i hi).2
def MarkedW (w : World) (B E : Nat) (k : Int) (s : S) (vc vj vt vl : Value) (e : Ending) (w' : World) : Prop := e = .returned (.int .i64 (endW k s)) ∧ WorP w' B E (markW k s) vc vj vt vl ∧ Chg (Within B E) w w'
set_option maxRecDepth 100000 in
set_option maxHeartbeats 4000000 in
theorem markWorld_any (w : World) (B E : Nat) (s : S) (vc vj vt vl : Value) (k : Int) (h : WorP w B E s vc vj vt vl) (hE : E ≤ w.heap.size) (ht : TameW k s) : Calls Try.prog 29 #[.agg (worVals s vc vj vt vl), .int .i64 k] w (MarkedW w B E k s vc vj vt vl) := by
  obtain ⟨Bc, Ec, Bj, Ej, Bt, Et, Bl, El, hp, ha⟩ := h
  obtain ⟨k1, k2, k3, k4⟩ := ht.ks
  have K0 := ht.k0
  have K1 := ht.k1
  have HT := Lib.hid ht
  have HP := Lib.hid hp
  have HR := Lib.hid (show endW k s = endEvL (endQ (endJobL (k + s.cells.length) s.jobs) s.todo) s.log from rfl)
  have HMW := Lib.hid (show markW k s = ⟨marks k s.cells.length, markJobL (k + s.cells.length) s.jobs, marksQ (endJobL (k + s.cells.length) s.jobs) s.todo, markEvL (endQ (endJobL (k + s.cells.length) s.jobs) s.todo) s.log, s.serial, s.now⟩ from rfl)
  have HAt := Lib.hid (fun o => ha.below (below_oneL w o))
  have G := Lib.hid (Blk.new w w.heap.size 49 #[vc, vj, vt, vl, .int .i64 s.serial, .int .i64 s.now] rfl)
  have HC := Lib.hid (show Chg (Within B E) w (w.alloc (.cells #[vc, vj, vt, vl, .int .i64 s.serial, .int .i64 s.now] 49)) from Chg.of_below (below_oneL w _))
  have HEL := Lib.hid hE
  have HVJ := Lib.hid ha.j
  clear ha hp ht
  unfold worVals
  go_enter Try.func29, Try.ntmps29
  have p0 : (w.alloc (.cells #[vc, vj, vt, vl, .int .i64 s.serial, .int .i64 s.now] 49)).cell? ⟨w.heap.size, 0, none⟩ = some (vc) := G.out.get 0
  have p1 : (w.alloc (.cells #[vc, vj, vt, vl, .int .i64 s.serial, .int .i64 s.now] 49)).cell? ⟨w.heap.size, 1, none⟩ = some (vj) := G.out.get 1
  have p2 : (w.alloc (.cells #[vc, vj, vt, vl, .int .i64 s.serial, .int .i64 s.now] 49)).cell? ⟨w.heap.size, 2, none⟩ = some (vt) := G.out.get 2
  have p3 : (w.alloc (.cells #[vc, vj, vt, vl, .int .i64 s.serial, .int .i64 s.now] 49)).cell? ⟨w.heap.size, 3, none⟩ = some (vl) := G.out.get 3
  have p4 : (w.alloc (.cells #[vc, vj, vt, vl, .int .i64 s.serial, .int .i64 s.now] 49)).cell? ⟨w.heap.size, 4, none⟩ = some (.int .i64 s.serial) := G.out.get 4
  have p5 : (w.alloc (.cells #[vc, vj, vt, vl, .int .i64 s.serial, .int .i64 s.now] 49)).cell? ⟨w.heap.size, 5, none⟩ = some (.int .i64 s.now) := G.out.get 5
  have ha1 := HAt.out (.cells #[vc, vj, vt, vl, .int .i64 s.serial, .int .i64 s.now] 49)
  have HM := Lib.hid (markIntN_any _ Bc vc s.cells k (ha1.c.1.own _ List.mem_cons_self) HT.out.sm.c (by omega) (by omega))
  have HA := Lib.hid ha1
  clear ha1 HAt HVJ
  go_wp2_with fail
  refine HM.out.mono ?_
  rintro e w1 ⟨rfl, hm, hg⟩
  have hh := heapE_marked HA.out.c hm hg
  have hcg := Chg.mono hh.2 HP.out.lo.1 HP.out.hi.1
  have G1 := Lib.hid (G.out.chg hcg (fun hw => Nat.lt_irrefl _ (Nat.lt_of_lt_of_le hw.2 HEL.out)))
  replace HC := Lib.hid (HC.out.trans hcg)
  have HA1 := Lib.hid (show WorAt w1 Bc Ec Bj Ej Bt Et Bl El ⟨marks k s.cells.length, s.jobs, s.todo, s.log, s.serial, s.now⟩ vc vj vt vl from ⟨hh.1, OwnX.far HA.out.j hh.2 (HP.out.cj.symm), HA.out.t.far hh.2 (HP.out.ct.symm), OwnX.far HA.out.l hh.2 (HP.out.cl.symm)⟩)
  clear p0 p1 p2 p3 p4 p5
  clear hm hg hh hcg HM HA G
  have G := G1
  clear G1
  have p0 : w1.cell? ⟨w.heap.size, 0, none⟩ = some (vc) := G.out.get 0
  have p1 : w1.cell? ⟨w.heap.size, 1, none⟩ = some (vj) := G.out.get 1
  have p2 : w1.cell? ⟨w.heap.size, 2, none⟩ = some (vt) := G.out.get 2
  have p3 : w1.cell? ⟨w.heap.size, 3, none⟩ = some (vl) := G.out.get 3
  have p4 : w1.cell? ⟨w.heap.size, 4, none⟩ = some (.int .i64 s.serial) := G.out.get 4
  have p5 : w1.cell? ⟨w.heap.size, 5, none⟩ = some (.int .i64 s.now) := G.out.get 5
  have HM := Lib.hid (markJobS_any w1 Bj Ej vj s.jobs (k + s.cells.length) HA1.out.j HT.out.sm.j HT.out.sm.jk (by omega) (by omega))
  go_wp2_with fail
  refine HM.out.mono ?_
  rintro e w2 ⟨rfl, hm, hg⟩
  have hcg := Chg.mono hg HP.out.lo.2.1 HP.out.hi.2.1
  have G1 := Lib.hid (G.out.chg hcg (fun hw => Nat.lt_irrefl _ (Nat.lt_of_lt_of_le hw.2 HEL.out)))
  replace HC := Lib.hid (HC.out.trans hcg)
  have HA2 := Lib.hid (show WorAt w2 Bc Ec Bj Ej Bt Et Bl El ⟨marks k s.cells.length, markJobL (k + s.cells.length) s.jobs, s.todo, s.log, s.serial, s.now⟩ vc vj vt vl from ⟨HA1.out.c.far hg HP.out.cj, hm, HA1.out.t.far hg (HP.out.jt.symm), OwnX.far HA1.out.l hg (HP.out.jl.symm)⟩)
  clear p0 p1 p2 p3 p4 p5
  clear hm hg hcg HM HA1 G
  have G := G1
  clear G1
  have p0 : w2.cell? ⟨w.heap.size, 0, none⟩ = some (vc) := G.out.get 0
  have p1 : w2.cell? ⟨w.heap.size, 1, none⟩ = some (vj) := G.out.get 1
  have p2 : w2.cell? ⟨w.heap.size, 2, none⟩ = some (vt) := G.out.get 2
  have p3 : w2.cell? ⟨w.heap.size, 3, none⟩ = some (vl) := G.out.get 3
  have p4 : w2.cell? ⟨w.heap.size, 4, none⟩ = some (.int .i64 s.serial) := G.out.get 4
  have p5 : w2.cell? ⟨w.heap.size, 5, none⟩ = some (.int .i64 s.now) := G.out.get 5
  have HM := Lib.hid (markQueueS_any w2 Bt Et vt s.todo (endJobL (k + s.cells.length) s.jobs) HA2.out.t HT.out.sm.t HT.out.tq (by omega) (by omega))
  go_wp2_with fail
  refine HM.out.mono ?_
  rintro e w3 ⟨rfl, hm, hg⟩
  have hcg := Chg.mono hg HP.out.lo.2.2.1 HP.out.hi.2.2.1
  have G1 := Lib.hid (G.out.chg hcg (fun hw => Nat.lt_irrefl _ (Nat.lt_of_lt_of_le hw.2 HEL.out)))
  replace HC := Lib.hid (HC.out.trans hcg)
  have HA3 := Lib.hid (show WorAt w3 Bc Ec Bj Ej Bt Et Bl El ⟨marks k s.cells.length, markJobL (k + s.cells.length) s.jobs, marksQ (endJobL (k + s.cells.length) s.jobs) s.todo, s.log, s.serial, s.now⟩ vc vj vt vl from ⟨HA2.out.c.far hg HP.out.ct, OwnX.far HA2.out.j hg HP.out.jt, hm, OwnX.far HA2.out.l hg (HP.out.tl.symm)⟩)
  clear p0 p1 p2 p3 p4 p5
  clear hm hg hcg HM HA2 G
  have G := G1
  clear G1
  have p0 : w3.cell? ⟨w.heap.size, 0, none⟩ = some (vc) := G.out.get 0
  have p1 : w3.cell? ⟨w.heap.size, 1, none⟩ = some (vj) := G.out.get 1
  have p2 : w3.cell? ⟨w.heap.size, 2, none⟩ = some (vt) := G.out.get 2
  have p3 : w3.cell? ⟨w.heap.size, 3, none⟩ = some (vl) := G.out.get 3
  have p4 : w3.cell? ⟨w.heap.size, 4, none⟩ = some (.int .i64 s.serial) := G.out.get 4
  have p5 : w3.cell? ⟨w.heap.size, 5, none⟩ = some (.int .i64 s.now) := G.out.get 5
  have HM := Lib.hid (markEvS_any w3 Bl El vl s.log (endQ (endJobL (k + s.cells.length) s.jobs) s.todo) HA3.out.l HT.out.sm.l HT.out.sm.lk (by omega) (by rw [← HR.out]; omega))
  go_wp2_with fail
  refine HM.out.mono ?_
  rintro e w4 ⟨rfl, hm, hg⟩
  have hcg := Chg.mono hg HP.out.lo.2.2.2 HP.out.hi.2.2.2
  replace HC := Lib.hid (HC.out.trans hcg)
  have HA4 := Lib.hid (show WorAt w4 Bc Ec Bj Ej Bt Et Bl El (markW k s) vc vj vt vl from ⟨HA3.out.c.far hg HP.out.cl, OwnX.far HA3.out.j hg HP.out.jl, HA3.out.t.far hg HP.out.tl, hm⟩)
  clear p0 p1 p2 p3 p4 p5
  clear hm hg hcg HM HA3 G
  go_wp2_with fail
  go_ret
  exact ⟨rfl, ⟨Bc, Ec, Bj, Ej, Bt, Et, Bl, El, HP.out, HA4.out⟩, HC.out⟩
set_option maxRecDepth 100000 in
set_option maxHeartbeats 4000000 in
theorem heldWorld_any (w : World) (B E : Nat) (s : S) (vc vj vt vl : Value) (k : Int) (h : WorP w B E (markW k s) vc vj vt vl) (ht : TameW k s) : Calls Try.prog 30 #[.agg (worVals (markW k s) vc vj vt vl), .int .i64 k] w (Gives (.int .i64 (endW k s)) w) := by
  obtain ⟨Bc, Ec, Bj, Ej, Bt, Et, Bl, El, hp, ha⟩ := h
  obtain ⟨k1, k2, k3, k4⟩ := ht.ks
  have K0 := ht.k0
  have K1 := ht.k1
  have HT := Lib.hid ht
  have HR := Lib.hid (show endW k s = endEvL (endQ (endJobL (k + s.cells.length) s.jobs) s.todo) s.log from rfl)
  have hci := heapE_ints ha.c
  have H1 := fun W (hb : Below w.heap.size w W) => Lib.hid (heldIntN_any W vc k s.cells.length (hci.below hb) (by omega) (by omega) HT.out.sm.c)
  have H2 := fun W (hb : Below w.heap.size w W) => Lib.hid (heldJobS_any W Bj Ej vj s.jobs (k + s.cells.length) (OwnX.below ha.j hb) HT.out.sm.j HT.out.sm.jk (by omega) (by omega))
  have H3 := fun W (hb : Below w.heap.size w W) => Lib.hid (heldQueueS_any W Bt Et vt s.todo (endJobL (k + s.cells.length) s.jobs) (ha.t.below hb) HT.out.sm.t HT.out.tq (by omega) (by omega))
  have H4 := fun W (hb : Below w.heap.size w W) => Lib.hid (heldEvS_any W Bl El vl s.log (endQ (endJobL (k + s.cells.length) s.jobs) s.todo) (OwnX.below ha.l hb) HT.out.sm.l HT.out.sm.lk (by omega) (by rw [← HR.out]; omega))
  rw [← HR.out] at H4
  generalize endW k s = kw at *
  clear hci ha hp ht HT HR
  have d1 : ¬ (k + (s.cells.length : Int) < 0) := by omega
  have d2 : ¬ (endJobL (k + s.cells.length) s.jobs < 0) := by omega
  have d3 : ¬ (endQ (endJobL (k + s.cells.length) s.jobs) s.todo < 0) := by omega
  have d4 : ¬ (kw < 0) := by omega
  have e1 : (markW k s).serial = s.serial := rfl
  have e2 : (markW k s).now = s.now := rfl
  generalize endQ (endJobL (k + s.cells.length) s.jobs) s.todo = kq at *
  generalize endJobL (k + s.cells.length) s.jobs = kj at *
  generalize k + (s.cells.length : Int) = kc at *
  unfold worVals
  rw [e1, e2]
  clear e1 e2
  generalize s.serial = ser at *
  generalize s.now = now at *
  go_enter Try.func30, Try.ntmps30
  have G := Lib.hid (Blk.new w w.heap.size 49 #[vc, vj, vt, vl, .int .i64 ser, .int .i64 now] rfl)
  have HB := Lib.hid (below_oneL w (.cells #[vc, vj, vt, vl, .int .i64 ser, .int .i64 now] 49))
  have p0 : (w.alloc (.cells #[vc, vj, vt, vl, .int .i64 ser, .int .i64 now] 49)).cell? ⟨w.heap.size, 0, none⟩ = some (vc) := G.out.get 0
  have p1 : (w.alloc (.cells #[vc, vj, vt, vl, .int .i64 ser, .int .i64 now] 49)).cell? ⟨w.heap.size, 1, none⟩ = some (vj) := G.out.get 1
  have p2 : (w.alloc (.cells #[vc, vj, vt, vl, .int .i64 ser, .int .i64 now] 49)).cell? ⟨w.heap.size, 2, none⟩ = some (vt) := G.out.get 2
  have p3 : (w.alloc (.cells #[vc, vj, vt, vl, .int .i64 ser, .int .i64 now] 49)).cell? ⟨w.heap.size, 3, none⟩ = some (vl) := G.out.get 3
  have p4 : (w.alloc (.cells #[vc, vj, vt, vl, .int .i64 ser, .int .i64 now] 49)).cell? ⟨w.heap.size, 4, none⟩ = some (.int .i64 ser) := G.out.get 4
  have p5 : (w.alloc (.cells #[vc, vj, vt, vl, .int .i64 ser, .int .i64 now] 49)).cell? ⟨w.heap.size, 5, none⟩ = some (.int .i64 now) := G.out.get 5
  go_wp2_with fail
  refine (H1 _ HB.out).out.mono ?_
  rintro e w1 ⟨rfl, rfl⟩
  go_wp2_with fail
  refine (H2 _ HB.out).out.mono ?_
  rintro e w2 ⟨rfl, hb⟩
  clear p0 p1 p2 p3 p4 p5
  replace G := Lib.hid (G.out.below hb)
  replace HB := Lib.hid (HB.out.trans (hb.mono HB.out.size))
  clear hb
  have p0 : w2.cell? ⟨w.heap.size, 0, none⟩ = some (vc) := G.out.get 0
  have p1 : w2.cell? ⟨w.heap.size, 1, none⟩ = some (vj) := G.out.get 1
  have p2 : w2.cell? ⟨w.heap.size, 2, none⟩ = some (vt) := G.out.get 2
  have p3 : w2.cell? ⟨w.heap.size, 3, none⟩ = some (vl) := G.out.get 3
  have p4 : w2.cell? ⟨w.heap.size, 4, none⟩ = some (.int .i64 ser) := G.out.get 4
  have p5 : w2.cell? ⟨w.heap.size, 5, none⟩ = some (.int .i64 now) := G.out.get 5
  go_wp2_with fail
  refine (H3 _ HB.out).out.mono ?_
  rintro e w3 ⟨rfl, hb⟩
  clear p0 p1 p2 p3 p4 p5
  replace G := Lib.hid (G.out.below hb)
  replace HB := Lib.hid (HB.out.trans (hb.mono HB.out.size))
  clear hb
  have p0 : w3.cell? ⟨w.heap.size, 0, none⟩ = some (vc) := G.out.get 0
  have p1 : w3.cell? ⟨w.heap.size, 1, none⟩ = some (vj) := G.out.get 1
  have p2 : w3.cell? ⟨w.heap.size, 2, none⟩ = some (vt) := G.out.get 2
  have p3 : w3.cell? ⟨w.heap.size, 3, none⟩ = some (vl) := G.out.get 3
  have p4 : w3.cell? ⟨w.heap.size, 4, none⟩ = some (.int .i64 ser) := G.out.get 4
  have p5 : w3.cell? ⟨w.heap.size, 5, none⟩ = some (.int .i64 now) := G.out.get 5
  go_wp2_with fail
  refine (H4 _ HB.out).out.mono ?_
  rintro e w4 ⟨rfl, hb⟩
  clear p0 p1 p2 p3 p4 p5
  replace G := Lib.hid (G.out.below hb)
  replace HB := Lib.hid (HB.out.trans (hb.mono HB.out.size))
  clear hb
  have p0 : w4.cell? ⟨w.heap.size, 0, none⟩ = some (vc) := G.out.get 0
  have p1 : w4.cell? ⟨w.heap.size, 1, none⟩ = some (vj) := G.out.get 1
  have p2 : w4.cell? ⟨w.heap.size, 2, none⟩ = some (vt) := G.out.get 2
  have p3 : w4.cell? ⟨w.heap.size, 3, none⟩ = some (vl) := G.out.get 3
  have p4 : w4.cell? ⟨w.heap.size, 4, none⟩ = some (.int .i64 ser) := G.out.get 4
  have p5 : w4.cell? ⟨w.heap.size, 5, none⟩ = some (.int .i64 now) := G.out.get 5
  go_wp2_with fail
  go_ret
  exact ⟨rfl, HB.out⟩
end Go.Proofs.Ytfemdhknnfmpcaa

/-
  Several small texts of this proof, one behind another: each says ahead of itself what it proves.
-/
import Derived.Test.YtcfdnfckilpppaaWorZ
import Derived.Test.YtcfdnfckilpppaaZb
import Derived.Test.YtcfdnfckilpppaaZa
import Derived.Deep.Slices
import Derived.Deep.Fields
import Derived.OpenShut
import Derived.KernelRfl
import Derived.Great.BuildSlice
import Derived.Laws.AppendOwnNone
import Derived.Test.YtcfdnfckilpppaaZc
/-
  Arguments of chapter 10's laws opened: an operation, queues, a job, a world: each reads as some record whose fields fit their types.
-/
namespace Go.Proofs.Ytcfdnfckilpppaa
open Go.ChangeShapes Go.WideShapes Go.Deep Go.RowKit M
set_option linter.unusedVariables false
section
variable {H : Type} {enc : TypeId × Value → H} {P : Program} {w : World} {base : Nat} {spare : Nat → Bool} {held : Bool} {α : Type} [Inhabited α]
/-- An argument that is a slice: its elements, each read as its type tells. -/
theorem open_elts {t te : TypeId} {F : Nat} (ht : P.underlying t = some (.slice te)) (hC : P.cellsOf te = F) (hF : 0 < F) (z : α) (Rel : List Value → α → Prop)
    (hread : ∀ (fuel : Nat) (cs : List Value) (x : DataW H × List MemPlace), cs.length = F → DataW.trod enc P w base spare held fuel te cs = some x → ∃ r, Rel cs r)
    {fuel : Nat} {c : Value} {x : DataW H × List MemPlace} (h : DataW.trod enc P w base spare held fuel t [c] = some x) :
    ∃ (l : List α) (A : Option Addr) (cap : Nat), c = .slice A l.length cap ∧ l.length ≤ cap ∧ cap ≤ maxLen ∧ (0 < l.length → ∃ b off, A = some ⟨b, off, none⟩ ∧ b < w.heap.size ∧ ∀ j, j < l.length → ∃ cs, cs.length = F ∧ (∀ k, k < F → w.cell? ⟨b, off + j * F + k, none⟩ = cs[k]?) ∧ Rel cs (l.getD j z)) := by
  rcases open_slice ht h with ⟨hcs, _⟩ | ⟨a, len, cap, m, n, D, Pl, hcs, _, hl, hm, hmm, _, hi⟩
  · simp at hcs
    subst hcs
    exact ⟨[], none, 0, rfl, Nat.le_refl _, Nat.zero_le _, fun h => absurd h (Nat.lt_irrefl _)⟩
  · simp at hcs
    subst hcs
    have hle : len ≤ m := by rw [hmm]; split <;> omega
    rw [hC] at hi
    have hr : ∀ i, i < len → ∃ r : α, ∃ cs : List Value, cs.length = F ∧ (∀ k, k < F → w.cell? ((a.add (i * F)).add k) = cs[k]?) ∧ Rel cs r := fun i him => by
      obtain ⟨cs', hc, ht⟩ := hi i (by omega)
      obtain ⟨_, hcl, hat⟩ := World.cells?_some hc
      obtain ⟨r, hr⟩ := hread _ _ _ hcl ht
      exact ⟨r, cs', hcl, fun k hk => hat k hk, hr⟩
    obtain ⟨f, hf⟩ := choose_lt hr
    have hg : ∀ j, j < len → ((List.range len).map f).getD j z = f j := fun j hj => by simp [List.getD_eq_getElem?_getD, hj]
    have hlen : ((List.range len).map f).length = len := by simp
    refine ⟨(List.range len).map f, some a, cap, by rw [hlen], by rw [hlen]; exact hl, hm, fun hp => ?_⟩
    rw [hlen] at hp ⊢
    obtain ⟨b, off, spot⟩ := a
    obtain ⟨cs0, hl0, hc0, _⟩ := hf 0 hp
    have h0 := hc0 0 hF
    rw [List.getElem?_eq_getElem (by omega : 0 < cs0.length)] at h0
    have hspot : spot = none := by simpa [Addr.add] using World.cell?_spot h0
    subst hspot
    refine ⟨b, off, rfl, by simpa [Addr.add] using World.block_lt_of_cell? w _ h0, fun j hj => ?_⟩
    obtain ⟨cs, hcl, hc, hrel⟩ := hf j hj
    refine ⟨cs, hcl, fun k hk => ?_, by rw [hg j hj]; exact hrel⟩
    rw [← hc k hk, add_add]
    congr 1
    unfold Addr.add
    split
    · simp_all
    · simp [Nat.add_assoc]
/-- The reading of a struct gives the reading of each of its fields. -/
theorem field_readN {fs : Array Field} {cs : List Value} {xs : List (DataW H × List MemPlace)} {n : Nat}
    (hg : ∀ (i : Nat) (f : Field), fs[i]? = some f → DataW.trod enc P w base spare held n f.type ((cs.drop f.offset).take (P.cellsOf f.type)) = xs[i]?)
    {i : Nat} {f : Field} (hf : fs[i]? = some f) (hx : i < xs.length) {k m : Nat} (ho : f.offset = k) (hm : P.cellsOf f.type = m) : ∃ y, DataW.trod enc P w base spare held n f.type ((cs.drop k).take m) = some y := by
  have h := hg i f hf
  rw [ho, hm, List.getElem?_eq_getElem hx] at h
  exact ⟨_, h⟩
end
section
variable {H : Type} {enc : TypeId × Value → H} {w : World} {base : Nat} {spare : Nat → Bool} {held : Bool} {fuel : Nat} {x : DataW H × List MemPlace} {c : Value}
set_option maxRecDepth 100000 in
theorem rd_bool (h : DataW.trod enc Try.prog w base spare held fuel 4 [c] = some x) : ∃ b, c = .bool b := by
  obtain ⟨b, e, _⟩ := DataW.trod_bool Try.underlying4 h
  exact ⟨b, by simpa using e⟩
set_option maxRecDepth 100000 in
theorem rd_int (h : DataW.trod enc Try.prog w base spare held fuel 3 [c] = some x) : ∃ z, inW z ∧ c = .int .i64 z := by
  obtain ⟨z, e, _, f⟩ := DataW.trod_int Try.underlying3 h
  exact ⟨z, fit_of f, by simpa using e⟩
set_option maxRecDepth 100000 in
theorem rd_str (h : DataW.trod enc Try.prog w base spare held fuel 9 [c] = some x) : ∃ s : ByteArray, s.size ≤ maxLen ∧ c = .string s := by
  obtain ⟨s, e, _, f⟩ := DataW.trod_string Try.underlying9 h
  exact ⟨s, f, by simpa using e⟩
set_option maxRecDepth 100000 in
theorem rd_ints (h : DataW.trod enc Try.prog w base spare held fuel 22 [c] = some x) : ∃ zs, IntsArg w c zs ∧ Fit zs := by
  obtain ⟨l, A, cap, rfl, h1, h2, h3⟩ := open_elts (F := 1) Try.underlying22 (by kernel_rfl) (by decide) (0 : Int) (fun cs z => cs = [.int .i64 z] ∧ inW z) (fun fuel cs x hl ht => by
    match cs, hl with
    | [c0], _ => obtain ⟨z, h1, rfl⟩ := rd_int ht; exact ⟨z, rfl, h1⟩) h
  have hfit : ∀ j, j < l.length → inW (l.getD j 0) := fun j hj => by
    obtain ⟨b, off, _, _, h5⟩ := h3 (by omega)
    obtain ⟨cs, _, _, _, hw⟩ := h5 j hj
    exact hw
  refine ⟨l, ⟨A, cap, rfl, h1, h2, fun hp => ?_⟩, fun z hz => ?_⟩
  · obtain ⟨b, off, ea, h4, h5⟩ := h3 hp
    refine ⟨b, off, ea, h4, fun j hj => ?_⟩
    obtain ⟨cs, _, hc, rfl, _⟩ := h5 j hj
    have := hc 0 (by decide)
    rwa [Nat.mul_one, Nat.add_zero] at this
  · obtain ⟨j, hj, e⟩ := List.getElem_of_mem hz
    have := hfit j hj
    rw [List.getD_eq_getElem?_getD, List.getElem?_eq_getElem hj, Option.getD_some, e] at this
    exact this
set_option maxRecDepth 100000 in
theorem rd_rows (h : DataW.trod enc Try.prog w base spare held fuel 73 [c] = some x) : ∃ rs, RowsArg w c rs ∧ FitR rs := by
  rcases open_slice Try.underlying73 h with ⟨hcs, _⟩ | ⟨a, l, cp, m, n, D, Pl, hcs, _⟩
  · simp at hcs; subst hcs; exact open_rows h
  · simp at hcs; subst hcs; exact open_rows h
set_option maxRecDepth 100000 in
theorem rd_op {cs : List Value} (hsz : cs.length = 4) (h : DataW.trod enc Try.prog w base spare held fuel 72 cs = some x) : ∃ r : O, cs = (opCells r).toList ∧ r.Fit := by
  obtain ⟨xs, n, _, _, hlen, hxl, hg⟩ := DataW.trod_struct Try.underlying72 h
  have hx : xs.length = 4 := hxl
  match cs, hsz with
  | [c0, c1, c2, c3], _ =>
    obtain ⟨y0, h0⟩ := field_readN hg (i := 0) rfl (by omega) (k := 0) rfl (m := 1) (by kernel_rfl)
    obtain ⟨y1, h1⟩ := field_readN hg (i := 1) rfl (by omega) (k := 1) rfl (m := 1) (by kernel_rfl)
    obtain ⟨y2, h2⟩ := field_readN hg (i := 2) rfl (by omega) (k := 2) rfl (m := 1) (by kernel_rfl)
    obtain ⟨y3, h3⟩ := field_readN hg (i := 3) rfl (by omega) (k := 3) rfl (m := 1) (by kernel_rfl)
    obtain ⟨x0, f0, rfl⟩ := rd_int (c := c0) h0
    obtain ⟨x1, f1, rfl⟩ := rd_str (c := c1) h1
    obtain ⟨x2, f2, rfl⟩ := rd_int (c := c2) h2
    obtain ⟨x3, f3, rfl⟩ := rd_int (c := c3) h3
    exact ⟨⟨x0, x1, x2, x3⟩, rfl, ⟨f0, f1, f2, f3⟩⟩
instance : Inhabited O := ⟨zeroO⟩
def FitOs (l : List O) : Prop := ∀ i, i < l.length → (l.getD i zeroO).Fit
set_option maxRecDepth 100000 in
theorem rd_ops (h : DataW.trod enc Try.prog w base spare held fuel 82 [c] = some x) : ∃ l, RecsArg 4 opCells zeroO w c l ∧ FitOs l := by
  obtain ⟨l, A, cap, rfl, h1, h2, h3⟩ := open_elts (F := 4) Try.underlying82 (by kernel_rfl) (by decide) zeroO (fun cs r => cs = (opCells r).toList ∧ r.Fit) (fun fuel cs x hl ht => rd_op hl ht) h
  refine ⟨l, ⟨A, cap, rfl, h1, h2, fun hp => ?_⟩, fun j hj => ?_⟩
  · obtain ⟨b, off, ea, h4, h5⟩ := h3 hp
    refine ⟨b, off, ea, h4, fun j hj k hk => ?_⟩
    obtain ⟨cs, _, hc, rfl, _⟩ := h5 j hj
    rw [hc k hk, Array.getElem?_toList]
  · obtain ⟨b, off, _, _, h5⟩ := h3 (by omega)
    obtain ⟨cs, _, _, _, hw⟩ := h5 j hj
    exact hw
set_option maxRecDepth 100000 in
theorem rd_queue {cs : List Value} (hsz : cs.length = 1) (h : DataW.trod enc Try.prog w base spare held fuel 84 cs = some x) : ∃ q, (∃ u, cs = [u] ∧ RecsArg 4 opCells zeroO w u q) ∧ FitOs q := by
  obtain ⟨xs, n, _, _, hlen, hxl, hg⟩ := DataW.trod_struct Try.underlying84 h
  have hx : xs.length = 1 := hxl
  match cs, hsz with
  | [c0], _ =>
    obtain ⟨y0, h0⟩ := field_readN hg (i := 0) rfl (by omega) (k := 0) rfl (m := 1) (by kernel_rfl)
    obtain ⟨q, f0, f1⟩ := rd_ops (c := c0) h0
    exact ⟨q, ⟨c0, rfl, f0⟩, f1⟩
set_option maxRecDepth 100000 in
theorem rd_queues (h : DataW.trod enc Try.prog w base spare held fuel 24 [c] = some x) : ∃ ls, ArgQ w c ls ∧ FitQ ls := by
  obtain ⟨l, A, cap, rfl, h1, h2, h3⟩ := open_elts (F := 1) Try.underlying24 (by kernel_rfl) (by decide) ([] : List O) (fun cs q => (∃ u, cs = [u] ∧ RecsArg 4 opCells zeroO w u q) ∧ FitOs q) (fun fuel cs x hl ht => rd_queue hl ht) h
  refine ⟨l, ⟨A, cap, rfl, h1, h2, fun hp => ?_⟩, fun j hj => ?_⟩
  · obtain ⟨b, off, ea, h4, h5⟩ := h3 hp
    refine ⟨b, off, ea, h4, fun j hj => ?_⟩
    obtain ⟨cs, _, hc, ⟨u, rfl, hr⟩, _⟩ := h5 j hj
    have := hc 0 (by decide)
    rw [Nat.mul_one, Nat.add_zero] at this
    exact ⟨u, this, hr⟩
  · obtain ⟨b, off, _, _, h5⟩ := h3 (by omega)
    obtain ⟨cs, _, _, _, hw⟩ := h5 j hj
    exact hw
theorem ints_reads {v : Value} {zs : List Int} (h : IntsArg w v zs) : (Dat.row 3 1 zs.length (zs.map (Value.int .i64))).reads w v := by
  obtain ⟨A, cap, e, h1, h2, h3⟩ := h
  refine ⟨by simp, A, cap, e, h1, h2, fun hp => ?_⟩
  obtain ⟨b, off, ea, h4, h5⟩ := h3 hp
  refine ⟨b, off, ea, h4, fun j hj => ?_⟩
  have hj' : j < zs.length := by omega
  rw [h5 j hj', List.getElem?_map, List.getElem?_eq_getElem hj', List.getD_eq_getElem?_getD, List.getElem?_eq_getElem hj']
  rfl
theorem rows_reads {v : Value} {rs : List R} (h : RowsArg w v rs) : (Dat.row 62 10 rs.length (cellsR rs)).reads w v := by
  obtain ⟨A, cap, e, h1, h2, h3⟩ := h
  refine ⟨cellsR_length rs, A, cap, e, h1, h2, fun hp => ?_⟩
  obtain ⟨b, off, ea, h4, h5⟩ := h3 hp
  refine ⟨b, off, ea, h4, fun j hj => ?_⟩
  have ej : j = j / 10 * 10 + j % 10 := by omega
  have := h5 (j / 10) (by omega) (j % 10) (by omega)
  rw [← cellsR_at rs (j / 10) (j % 10) (by omega) (by omega), ← ej] at this
  rw [← this]
  congr 2
  omega
instance : Inhabited J := ⟨zeroJ⟩
instance : Inhabited E := ⟨zeroE⟩
end
end Go.Proofs.Ytcfdnfckilpppaa
namespace Go.Proofs.Ytcfdnfckilpppaa.M
open Go.RowKit
structure J.Fit (r : J) : Prop where
  op : r.op.Fit
  nums : inW r.serial ∧ inW r.pc ∧ inW r.k ∧ inW r.slot ∧ inW r.what ∧ inW r.e ∧ inW r.stamp ∧ inW r.old ∧ inW r.flips ∧ inW r.steps ∧ inW r.code
  keys : Go.Proofs.Ytcfdnfckilpppaa.Fit r.keys
  raw : Go.Proofs.Ytcfdnfckilpppaa.Fit r.raw
structure E.Fit (r : E) : Prop where
  op : r.op.Fit
  nums : inW r.kind ∧ inW r.who ∧ inW r.serial ∧ inW r.at_ ∧ inW r.code ∧ inW r.win ∧ inW r.steps ∧ inW r.flips
  rows : FitR r.rows
structure S.Fit (s : S) : Prop where
  cells : Go.Proofs.Ytcfdnfckilpppaa.Fit s.cells
  jobs : ∀ j, j < s.jobs.length → (s.jobs.getD j zeroJ).Fit
  todo : FitQ s.todo
  log : ∀ j, j < s.log.length → (s.log.getD j zeroE).Fit
  serial : inW s.serial
  now : inW s.now
end Go.Proofs.Ytcfdnfckilpppaa.M
namespace Go.Proofs.Ytcfdnfckilpppaa
open Go.ChangeShapes Go.WideShapes Go.Deep Go.RowKit M
set_option linter.unusedVariables false
section
variable {H : Type} {enc : TypeId × Value → H} {w : World} {base : Nat} {spare : Nat → Bool} {held : Bool} {fuel : Nat} {x : DataW H × List MemPlace} {c : Value}
set_option maxRecDepth 100000 in
theorem rd_job {cs : List Value} (hsz : cs.length = 18) (h : DataW.trod enc Try.prog w base spare held fuel 80 cs = some x) : ∃ r : J, (∀ (k : Nat) (d : Dat), (jobDat r)[k]? = some d → ∃ u, cs[k]? = some u ∧ d.reads w u) ∧ r.Fit := by
  obtain ⟨xs, n, _, _, hlen, hxl, hg⟩ := DataW.trod_struct Try.underlying80 h
  have hx : xs.length = 15 := hxl
  match cs, hsz with
  | [c0, c1, c2, c3, c4, c5, c6, c7, c8, c9, c10, c11, c12, c13, c14, c15, c16, c17], _ =>
    obtain ⟨y0, h0⟩ := field_readN hg (i := 0) rfl (by omega) (k := 0) rfl (m := 1) (by kernel_rfl)
    obtain ⟨y1, h1⟩ := field_readN hg (i := 1) rfl (by omega) (k := 1) rfl (m := 4) (by kernel_rfl)
    obtain ⟨y2, h2⟩ := field_readN hg (i := 2) rfl (by omega) (k := 5) rfl (m := 1) (by kernel_rfl)
    obtain ⟨y3, h3⟩ := field_readN hg (i := 3) rfl (by omega) (k := 6) rfl (m := 1) (by kernel_rfl)
    obtain ⟨y4, h4⟩ := field_readN hg (i := 4) rfl (by omega) (k := 7) rfl (m := 1) (by kernel_rfl)
    obtain ⟨y5, h5⟩ := field_readN hg (i := 5) rfl (by omega) (k := 8) rfl (m := 1) (by kernel_rfl)
    obtain ⟨y6, h6⟩ := field_readN hg (i := 6) rfl (by omega) (k := 9) rfl (m := 1) (by kernel_rfl)
    obtain ⟨y7, h7⟩ := field_readN hg (i := 7) rfl (by omega) (k := 10) rfl (m := 1) (by kernel_rfl)
    obtain ⟨y8, h8⟩ := field_readN hg (i := 8) rfl (by omega) (k := 11) rfl (m := 1) (by kernel_rfl)
    obtain ⟨y9, h9⟩ := field_readN hg (i := 9) rfl (by omega) (k := 12) rfl (m := 1) (by kernel_rfl)
    obtain ⟨y10, h10⟩ := field_readN hg (i := 10) rfl (by omega) (k := 13) rfl (m := 1) (by kernel_rfl)
    obtain ⟨y11, h11⟩ := field_readN hg (i := 11) rfl (by omega) (k := 14) rfl (m := 1) (by kernel_rfl)
    obtain ⟨y12, h12⟩ := field_readN hg (i := 12) rfl (by omega) (k := 15) rfl (m := 1) (by kernel_rfl)
    obtain ⟨y13, h13⟩ := field_readN hg (i := 13) rfl (by omega) (k := 16) rfl (m := 1) (by kernel_rfl)
    obtain ⟨y14, h14⟩ := field_readN hg (i := 14) rfl (by omega) (k := 17) rfl (m := 1) (by kernel_rfl)
    obtain ⟨x0, rfl⟩ := rd_bool (c := c0) h0
    obtain ⟨x1, e1, f1⟩ := rd_op (cs := [c1, c2, c3, c4]) rfl h1
    obtain ⟨x1k, x1s, x1w, x1v⟩ := x1
    simp only [opCells, List.cons.injEq, and_true] at e1
    obtain ⟨rfl, rfl, rfl, rfl⟩ := e1
    obtain ⟨x2, f2, rfl⟩ := rd_int (c := c5) h2
    obtain ⟨x3, f3, rfl⟩ := rd_int (c := c6) h3
    obtain ⟨x4, f4, rfl⟩ := rd_int (c := c7) h4
    obtain ⟨x5, f5, rfl⟩ := rd_int (c := c8) h5
    obtain ⟨x6, f6, rfl⟩ := rd_int (c := c9) h6
    obtain ⟨x7, f7, rfl⟩ := rd_int (c := c10) h7
    obtain ⟨x8, f8, rfl⟩ := rd_int (c := c11) h8
    obtain ⟨x9, f9, rfl⟩ := rd_int (c := c12) h9
    obtain ⟨x10, f10, rfl⟩ := rd_int (c := c13) h10
    obtain ⟨x11, f11, rfl⟩ := rd_int (c := c14) h11
    obtain ⟨x12, f12, rfl⟩ := rd_int (c := c15) h12
    obtain ⟨x13, a13, f13⟩ := rd_ints (c := c16) h13
    obtain ⟨x14, a14, f14⟩ := rd_ints (c := c17) h14
    refine ⟨⟨x0, ⟨x1k, x1s, x1w, x1v⟩, x2, x3, x4, x5, x6, x7, x8, x9, x10, x11, x12, x13, x14⟩, fun k d hd => ?_, ⟨f1, ⟨f2, f3, f4, f5, f6, f7, f8, f9, f10, f11, f12⟩, f13, f14⟩⟩
    match k, hd with
    | 0, hd => obtain rfl := Option.some.inj hd; exact ⟨_, rfl, rfl⟩
    | 1, hd => obtain rfl := Option.some.inj hd; exact ⟨_, rfl, rfl⟩
    | 2, hd => obtain rfl := Option.some.inj hd; exact ⟨_, rfl, rfl⟩
    | 3, hd => obtain rfl := Option.some.inj hd; exact ⟨_, rfl, rfl⟩
    | 4, hd => obtain rfl := Option.some.inj hd; exact ⟨_, rfl, rfl⟩
    | 5, hd => obtain rfl := Option.some.inj hd; exact ⟨_, rfl, rfl⟩
    | 6, hd => obtain rfl := Option.some.inj hd; exact ⟨_, rfl, rfl⟩
    | 7, hd => obtain rfl := Option.some.inj hd; exact ⟨_, rfl, rfl⟩
    | 8, hd => obtain rfl := Option.some.inj hd; exact ⟨_, rfl, rfl⟩
    | 9, hd => obtain rfl := Option.some.inj hd; exact ⟨_, rfl, rfl⟩
    | 10, hd => obtain rfl := Option.some.inj hd; exact ⟨_, rfl, rfl⟩
    | 11, hd => obtain rfl := Option.some.inj hd; exact ⟨_, rfl, rfl⟩
    | 12, hd => obtain rfl := Option.some.inj hd; exact ⟨_, rfl, rfl⟩
    | 13, hd => obtain rfl := Option.some.inj hd; exact ⟨_, rfl, rfl⟩
    | 14, hd => obtain rfl := Option.some.inj hd; exact ⟨_, rfl, rfl⟩
    | 15, hd => obtain rfl := Option.some.inj hd; exact ⟨_, rfl, rfl⟩
    | 16, hd => obtain rfl := Option.some.inj hd; exact ⟨_, rfl, ints_reads a13⟩
    | 17, hd => obtain rfl := Option.some.inj hd; exact ⟨_, rfl, ints_reads a14⟩
    | k + 18, hd => exact absurd hd (by simp [jobDat])
set_option maxRecDepth 100000 in
theorem rd_jobs (h : DataW.trod enc Try.prog w base spare held fuel 23 [c] = some x) : ∃ l : List J, ArgT 18 jobDat zeroJ w c l ∧ ∀ j, j < l.length → (l.getD j zeroJ).Fit := by
  obtain ⟨l, A, cap, rfl, h1, h2, h3⟩ := open_elts (F := 18) Try.underlying23 (by kernel_rfl) (by decide) zeroJ (fun cs r => (∀ (k : Nat) (d : Dat), (jobDat r)[k]? = some d → ∃ u, cs[k]? = some u ∧ d.reads w u) ∧ r.Fit) (fun fuel cs x hl ht => rd_job hl ht) h
  refine ⟨l, ⟨A, cap, rfl, h1, h2, fun hp => ?_⟩, fun j hj => ?_⟩
  · obtain ⟨b, off, ea, h4, h5⟩ := h3 hp
    refine ⟨b, off, ea, h4, fun j hj k d hd => ?_⟩
    obtain ⟨cs, hcl, hc, hr, _⟩ := h5 j hj
    obtain ⟨u, hu, hd2⟩ := hr k d hd
    have hk : k < 18 := by
      have := (List.getElem?_eq_some_iff.1 hu).1
      omega
    exact ⟨u, by rw [hc k hk]; exact hu, hd2⟩
  · obtain ⟨b, off, _, _, h5⟩ := h3 (by omega)
    obtain ⟨cs, _, _, _, hw⟩ := h5 j hj
    exact hw
set_option maxRecDepth 100000 in
theorem rd_ev {cs : List Value} (hsz : cs.length = 13) (h : DataW.trod enc Try.prog w base spare held fuel 75 cs = some x) : ∃ r : E, (∀ (k : Nat) (d : Dat), (evDat r)[k]? = some d → ∃ u, cs[k]? = some u ∧ d.reads w u) ∧ r.Fit := by
  obtain ⟨xs, n, _, _, hlen, hxl, hg⟩ := DataW.trod_struct Try.underlying75 h
  have hx : xs.length = 10 := hxl
  match cs, hsz with
  | [c0, c1, c2, c3, c4, c5, c6, c7, c8, c9, c10, c11, c12], _ =>
    obtain ⟨y0, h0⟩ := field_readN hg (i := 0) rfl (by omega) (k := 0) rfl (m := 1) (by kernel_rfl)
    obtain ⟨y1, h1⟩ := field_readN hg (i := 1) rfl (by omega) (k := 1) rfl (m := 1) (by kernel_rfl)
    obtain ⟨y2, h2⟩ := field_readN hg (i := 2) rfl (by omega) (k := 2) rfl (m := 1) (by kernel_rfl)
    obtain ⟨y3, h3⟩ := field_readN hg (i := 3) rfl (by omega) (k := 3) rfl (m := 1) (by kernel_rfl)
    obtain ⟨y4, h4⟩ := field_readN hg (i := 4) rfl (by omega) (k := 4) rfl (m := 4) (by kernel_rfl)
    obtain ⟨y5, h5⟩ := field_readN hg (i := 5) rfl (by omega) (k := 8) rfl (m := 1) (by kernel_rfl)
    obtain ⟨y6, h6⟩ := field_readN hg (i := 6) rfl (by omega) (k := 9) rfl (m := 1) (by kernel_rfl)
    obtain ⟨y7, h7⟩ := field_readN hg (i := 7) rfl (by omega) (k := 10) rfl (m := 1) (by kernel_rfl)
    obtain ⟨y8, h8⟩ := field_readN hg (i := 8) rfl (by omega) (k := 11) rfl (m := 1) (by kernel_rfl)
    obtain ⟨y9, h9⟩ := field_readN hg (i := 9) rfl (by omega) (k := 12) rfl (m := 1) (by kernel_rfl)
    obtain ⟨x0, f0, rfl⟩ := rd_int (c := c0) h0
    obtain ⟨x1, f1, rfl⟩ := rd_int (c := c1) h1
    obtain ⟨x2, f2, rfl⟩ := rd_int (c := c2) h2
    obtain ⟨x3, f3, rfl⟩ := rd_int (c := c3) h3
    obtain ⟨x4, e4, f4⟩ := rd_op (cs := [c4, c5, c6, c7]) rfl h4
    obtain ⟨x4k, x4s, x4w, x4v⟩ := x4
    simp only [opCells, List.cons.injEq, and_true] at e4
    obtain ⟨rfl, rfl, rfl, rfl⟩ := e4
    obtain ⟨x5, f5, rfl⟩ := rd_int (c := c8) h5
    obtain ⟨x6, f6, rfl⟩ := rd_int (c := c9) h6
    obtain ⟨x7, f7, rfl⟩ := rd_int (c := c10) h7
    obtain ⟨x8, f8, rfl⟩ := rd_int (c := c11) h8
    obtain ⟨x9, a9, f9⟩ := rd_rows (c := c12) h9
    refine ⟨⟨x0, x1, x2, x3, ⟨x4k, x4s, x4w, x4v⟩, x5, x6, x7, x8, x9⟩, fun k d hd => ?_, ⟨f4, ⟨f0, f1, f2, f3, f5, f6, f7, f8⟩, f9⟩⟩
    match k, hd with
    | 0, hd => obtain rfl := Option.some.inj hd; exact ⟨_, rfl, rfl⟩
    | 1, hd => obtain rfl := Option.some.inj hd; exact ⟨_, rfl, rfl⟩
    | 2, hd => obtain rfl := Option.some.inj hd; exact ⟨_, rfl, rfl⟩
    | 3, hd => obtain rfl := Option.some.inj hd; exact ⟨_, rfl, rfl⟩
    | 4, hd => obtain rfl := Option.some.inj hd; exact ⟨_, rfl, rfl⟩
    | 5, hd => obtain rfl := Option.some.inj hd; exact ⟨_, rfl, rfl⟩
    | 6, hd => obtain rfl := Option.some.inj hd; exact ⟨_, rfl, rfl⟩
    | 7, hd => obtain rfl := Option.some.inj hd; exact ⟨_, rfl, rfl⟩
    | 8, hd => obtain rfl := Option.some.inj hd; exact ⟨_, rfl, rfl⟩
    | 9, hd => obtain rfl := Option.some.inj hd; exact ⟨_, rfl, rfl⟩
    | 10, hd => obtain rfl := Option.some.inj hd; exact ⟨_, rfl, rfl⟩
    | 11, hd => obtain rfl := Option.some.inj hd; exact ⟨_, rfl, rfl⟩
    | 12, hd => obtain rfl := Option.some.inj hd; exact ⟨_, rfl, rows_reads a9⟩
    | k + 13, hd => exact absurd hd (by simp [evDat])
set_option maxRecDepth 100000 in
theorem rd_evs (h : DataW.trod enc Try.prog w base spare held fuel 25 [c] = some x) : ∃ l : List E, ArgT 13 evDat zeroE w c l ∧ ∀ j, j < l.length → (l.getD j zeroE).Fit := by
  obtain ⟨l, A, cap, rfl, h1, h2, h3⟩ := open_elts (F := 13) Try.underlying25 (by kernel_rfl) (by decide) zeroE (fun cs r => (∀ (k : Nat) (d : Dat), (evDat r)[k]? = some d → ∃ u, cs[k]? = some u ∧ d.reads w u) ∧ r.Fit) (fun fuel cs x hl ht => rd_ev hl ht) h
  refine ⟨l, ⟨A, cap, rfl, h1, h2, fun hp => ?_⟩, fun j hj => ?_⟩
  · obtain ⟨b, off, ea, h4, h5⟩ := h3 hp
    refine ⟨b, off, ea, h4, fun j hj k d hd => ?_⟩
    obtain ⟨cs, hcl, hc, hr, _⟩ := h5 j hj
    obtain ⟨u, hu, hd2⟩ := hr k d hd
    have hk : k < 13 := by
      have := (List.getElem?_eq_some_iff.1 hu).1
      omega
    exact ⟨u, by rw [hc k hk]; exact hu, hd2⟩
  · obtain ⟨b, off, _, _, h5⟩ := h3 (by omega)
    obtain ⟨cs, _, _, _, hw⟩ := h5 j hj
    exact hw
theorem fitS_w {s : S} (h : s.Fit) : FitW s := ⟨fun j hj => (h.jobs j hj).op.key, h.todo, fun j hj => ⟨(h.log j hj).op.key, (h.log j hj).rows.key⟩⟩
set_option maxRecDepth 100000 in
theorem rd_world {cs : List Value} (hsz : cs.length = 6) (h : DataW.trod enc Try.prog w base spare held fuel 27 cs = some x) : ∃ (s : S) (vc vj vt vl : Value), cs = (worVals s vc vj vt vl).toList ∧ WorIn w s vc vj vt vl ∧ s.Fit := by
  obtain ⟨xs, n, _, _, hlen, hxl, hg⟩ := DataW.trod_struct Try.underlying27 h
  have hx : xs.length = 6 := hxl
  match cs, hsz with
  | [c0, c1, c2, c3, c4, c5], _ =>
    obtain ⟨y0, h0⟩ := field_readN hg (i := 0) rfl (by omega) (k := 0) rfl (m := 1) (by kernel_rfl)
    obtain ⟨y1, h1⟩ := field_readN hg (i := 1) rfl (by omega) (k := 1) rfl (m := 1) (by kernel_rfl)
    obtain ⟨y2, h2⟩ := field_readN hg (i := 2) rfl (by omega) (k := 2) rfl (m := 1) (by kernel_rfl)
    obtain ⟨y3, h3⟩ := field_readN hg (i := 3) rfl (by omega) (k := 3) rfl (m := 1) (by kernel_rfl)
    obtain ⟨y4, h4⟩ := field_readN hg (i := 4) rfl (by omega) (k := 4) rfl (m := 1) (by kernel_rfl)
    obtain ⟨y5, h5⟩ := field_readN hg (i := 5) rfl (by omega) (k := 5) rfl (m := 1) (by kernel_rfl)
    obtain ⟨x0, a0, f0⟩ := rd_ints (c := c0) h0
    obtain ⟨x1, a1, f1⟩ := rd_jobs (c := c1) h1
    obtain ⟨x2, a2, f2⟩ := rd_queues (c := c2) h2
    obtain ⟨x3, a3, f3⟩ := rd_evs (c := c3) h3
    obtain ⟨x4, f4, rfl⟩ := rd_int (c := c4) h4
    obtain ⟨x5, f5, rfl⟩ := rd_int (c := c5) h5
    exact ⟨⟨x0, x1, x2, x3, x4, x5⟩, c0, c1, c2, c3, rfl, ⟨a0, a1, a2, a3⟩, ⟨f0, f1, f2, f3, f4, f5⟩⟩
end
section
variable {H : Type} {enc : TypeId × Value → H} {w : World} {base : Nat} {spare : Nat → Bool} {held : Bool} {r : Reach} {b0 : Nat} {v : Value} {d : DataW H} {p : List MemPlace}
set_option maxRecDepth 100000 in
theorem open_op (hv : Value.okWide Try.prog w r b0 72 v) (h : DataW.Trod enc Try.prog w base spare held 72 v d p) : ∃ x : O, v = x.v ∧ x.Fit := by
  obtain ⟨cs, rfl, hsz⟩ := okWide_struct Try.underlying72 hv
  obtain ⟨fuel, hf⟩ := h
  have hC : Try.prog.cellsOf 72 = 4 := by kernel_rfl
  rw [hC] at hsz
  obtain ⟨x, hx, hfit⟩ := rd_op (cs := cs.toList) (by simpa using hsz) hf
  obtain rfl : cs = opCells x := Array.ext' hx
  exact ⟨x, rfl, hfit⟩
set_option maxRecDepth 100000 in
theorem open_world (hv : Value.okWide Try.prog w r b0 27 v) (h : DataW.Trod enc Try.prog w base spare held 27 v d p) : ∃ (s : S) (vc vj vt vl : Value), v = .agg (worVals s vc vj vt vl) ∧ WorIn w s vc vj vt vl ∧ s.Fit := by
  obtain ⟨cs, rfl, hsz⟩ := okWide_struct Try.underlying27 hv
  obtain ⟨fuel, hf⟩ := h
  have hC : Try.prog.cellsOf 27 = 6 := by kernel_rfl
  rw [hC] at hsz
  obtain ⟨s, vc, vj, vt, vl, hx, hin, hfit⟩ := rd_world (cs := cs.toList) (by simpa using hsz) hf
  obtain rfl : cs = worVals s vc vj vt vl := Array.ext' hx
  exact ⟨s, vc, vj, vt, vl, rfl, hin, hfit⟩
end
end Go.Proofs.Ytcfdnfckilpppaa
/-
  Marks in rows of records of which some cells are slices: the middle of such a row, a record at a time; rows of numbers, nil ones among them, marked and looked at.
-/
namespace Go.Proofs.Ytcfdnfckilpppaa
open Go.RowKit M
set_option linter.unusedVariables false
set_option linter.unusedSimpArgs false
theorem mid_at {β : Type} {D1 L D2 : List β} {o : Nat} (ho : D1.length = o) {i : Nat} (hi : i < L.length) : (D1 ++ (L ++ D2))[o + i]? = L[i]? := by
  rw [List.getElem?_append_right (by omega), ho, Nat.add_sub_cancel_left, List.getElem?_append_left hi]
theorem mid_set {β : Type} {D1 L D2 : List β} {o : Nat} (ho : D1.length = o) {i : Nat} (hi : i < L.length) (x : β) : (D1 ++ (L ++ D2)).set (o + i) x = D1 ++ (L.set i x ++ D2) := by
  rw [List.set_append_right _ _ (by omega), ho, Nat.add_sub_cancel_left, List.set_append_left _ _ hi]
theorem lt_of_some {β : Type} {L : List β} {i : Nat} {x : β} (h : L[i]? = some x) : i < L.length := (List.getElem?_eq_some_iff.1 h).1
section
variable {t : TypeId} {F n : Nat} {w w' : World} {B E g cap o : Nat} {D1 L D2 : List Dat}
theorem OwnX.gin {ds : List Dat} (h : OwnX t F n w B E (.slice (some ⟨g, 0, none⟩) n cap) ds) : B ≤ g ∧ g < E := by
  rcases h.shape with ⟨e, _⟩ | ⟨g', c', e, _, _, h1, h2⟩
  · cases e
  · injection e with e1 _ _
    injection e1 with e1
    injection e1 with e1 _ _
    subst e1
    exact ⟨h1, h2⟩
theorem OwnX.mset (h : OwnX t F n w B E (.slice (some ⟨g, 0, none⟩) n cap) (D1 ++ (L ++ D2))) (ho : D1.length = o) (i : Nat) {x : Value} (hx : L[i]? = some (.val x)) (u : Value) :
    OwnX t F n (w.setCell ⟨g, o + i, none⟩ u) B E (.slice (some ⟨g, 0, none⟩) n cap) (D1 ++ (L.set i (.val u) ++ D2)) ∧ Chg (Within B E) w (w.setCell ⟨g, o + i, none⟩ u) := by
  have hs := h.set (i := o + i) (x := x) (by rw [mid_at ho (lt_of_some hx)]; exact hx) u
  rw [mid_set ho (lt_of_some hx)] at hs
  exact ⟨hs.1, Chg.of_grown hs.2 (fun k hk => by injection hk with hk; subst hk; exact h.gin)⟩
theorem OwnX.mval (h : OwnX t F n w B E (.slice (some ⟨g, 0, none⟩) n cap) (D1 ++ (L ++ D2))) (ho : D1.length = o) (i : Nat) {x : Value} (hx : L[i]? = some (.val x)) (hi : o + i < n * F) : w.cell? ⟨g, o + i, none⟩ = some x :=
  h.val hi (by rw [mid_at ho (lt_of_some hx)]; exact hx)
theorem OwnX.mrow (h : OwnX t F n w B E (.slice (some ⟨g, 0, none⟩) n cap) (D1 ++ (L ++ D2))) (ho : D1.length = o) (i : Nat) {t' : TypeId} {F' n' : Nat} {cs : List Value} (hx : L[i]? = some (.row t' F' n' cs)) (hi : o + i < n * F) :
    ∃ u, w.cell? ⟨g, o + i, none⟩ = some u ∧ w.ownsRow B t' F' u n' cs ∧ ∀ k, u.ownBlock = some k → B ≤ k ∧ k < E := by
  obtain ⟨vs, h1, h2⟩ := h
  have hr : w.ownsRow B t F (.slice (some ⟨g, 0, none⟩) n cap) n vs := h2.1.own _ List.mem_cons_self
  obtain ⟨u, hu, hm⟩ := innerD_row (valsD_len h1) (k := o + i) (by rw [mid_at ho (lt_of_some hx)]; exact hx)
  exact ⟨u, by rw [World.ownsRow.cellAt hr (o + i) hi]; exact hu, h2.1.own _ (List.mem_cons_of_mem _ hm), fun k hk => ⟨h2.1.base_le (List.mem_cons_of_mem _ hm) k hk, h2.2 _ (List.mem_cons_of_mem _ hm) k hk⟩⟩
theorem OwnX.mturn (h : OwnX t F n w B E (.slice (some ⟨g, 0, none⟩) n cap) (D1 ++ (L ++ D2))) (ho : D1.length = o) (i : Nat) {t' : TypeId} {F' n' : Nat} {cs cs' : List Value} {u : Value} (hx : L[i]? = some (.row t' F' n' cs)) (hi : o + i < n * F)
    (hc : w.cell? ⟨g, o + i, none⟩ = some u) (hg : w.grownBy w' u.ownBlock) (hr : w'.ownsRow B t' F' u n' cs') (hk : ∀ k, u.ownBlock = some k → B ≤ k ∧ k < E) : OwnX t F n w' B E (.slice (some ⟨g, 0, none⟩) n cap) (D1 ++ (L.set i (.row t' F' n' cs') ++ D2)) ∧ Chg (Within B E) w w' := by
  have hs := h.turn (w' := w') (i := o + i) (cs' := cs') (by rw [mid_at ho (lt_of_some hx)]; exact hx) ⟨g, cap, rfl, hc⟩ hi hg hr
  rw [mid_set ho (lt_of_some hx)] at hs
  exact ⟨hs, Chg.of_grown hg hk⟩
theorem OwnX.mfrz (h : OwnX t F n w B E (.slice (some ⟨g, 0, none⟩) n cap) (D1 ++ (L ++ D2))) (j : Nat) : w.frozen? ⟨g, j, none⟩ = false := h.frz j
end
theorem chg_below {S : Nat → Prop} {a b c : World} (h : Chg S a b) (hb : Below b.heap.size b c) : Chg S a c := h.trans (Chg.of_below hb)
def MarkedN (w : World) (base : Nat) (v : Value) (k : Int) (n : Nat) (e : Ending) (w' : World) : Prop := e = .returned (.int .i64 (k + n)) ∧ w'.ownsRow base 3 1 v n ((marks k n).map (Value.int .i64)) ∧ w.grownBy w' v.ownBlock
set_option maxRecDepth 100000 in
theorem markIntN_any (w : World) (base : Nat) (v : Value) (zs : List Int) (k : Int) (h : w.ownsRow base 3 1 v zs.length (zs.map (Value.int .i64))) (hl : zs.length ≤ 1048576) (hk0 : 0 ≤ k) (hk1 : k ≤ 1000000000000) :
    Calls Try.prog 36 #[v, .int .i64 k] w (MarkedN w base v k zs.length) := by
  rcases h.2 with ⟨rfl, h0⟩ | ⟨g, cap, cur, rfl, _⟩
  · have hz : zs = [] := List.length_eq_zero_iff.1 h0
    subst hz
    have HO := Lib.hid h
    clear h h0
    go_enter Try.func36, Try.ntmps36
    go_wp2_with fail
    go_loopw [1, 5] (fun c i wr => i = .int .i64 0 ∧ c = .int .i64 k ∧ wr = w) (fun _ i _ => 0)
    case atStart => exact ⟨rfl, rfl, rfl⟩
    case round =>
      obtain ⟨rfl, rfl, rfl⟩ := hrel
      go_wp2_with fail
      go_ret
      exact ⟨ret_i (by simp), HO.out, World.grownBy.refl _ _⟩
  · refine (markIntS_any w base _ zs k ⟨h, g, cap, rfl⟩ hl hk0 hk1).mono ?_
    rintro e w' ⟨rfl, ho, hg⟩
    have h1 := ho.1
    rw [marks_length] at h1
    exact ⟨rfl, h1, hg⟩
end Go.Proofs.Ytcfdnfckilpppaa
/-
  Rows of records of which some cells are slices: an element appended; a whole element stored over another one, some of whose inner rows stay.
-/
namespace Go.Proofs.Ytcfdnfckilpppaa
open Go.RowKit M
set_option linter.unusedVariables false
set_option linter.unusedSimpArgs false
section
variable {t : TypeId} {F : Nat}
/-- An element with inner rows of its own, appended. -/
theorem pushX {n : Nat} {w w' w2 : World} {B E B' E' : Nat} {v v' : Value} {vs us : List Value} {ds D' : List Dat} (h1 : valsD vs ds) (h2 : HeapE w B E (⟨v, t, F, n, vs⟩ :: innerD vs ds)) (hb : Below w.heap.size w w')
    (hu : valsD us D') (hn : HeapE w' B' E' (innerD us D')) (hE : E ≤ B') (hB : B ≤ B') (hr : w2.ownsRow B t F v' (n + 1) (vs ++ us)) (hg : w'.grownBy w2 v.ownBlock) (hv : v'.ownBlock = v.ownBlock ∨ ∀ k, v'.ownBlock = some k → w'.heap.size ≤ k) :
    OwnX t F (n + 1) w2 B w2.heap.size v' (ds ++ D') := by
  have hj := Heap.join (h2.1.below hb) hn.1 hB (fun r hr b hb => Nat.lt_of_lt_of_le (h2.2 r hr b hb) hE)
  rw [List.cons_append] at hj
  have ht := Heap.turn (A := []) (r' := ⟨v', t, F, n + 1, vs ++ us⟩) hj hg hr hv
  refine ⟨vs ++ us, (valsD_append (valsD_len h1)).2 ⟨h1, hu⟩, ?_⟩
  rw [innerD_append _ _ _ _ (valsD_len h1)]
  exact HeapE.made ht
theorem OwnX.sees {n : Nat} {w : World} {B E : Nat} {v : Value} {ds : List Dat} (h : OwnX t F n w B E v ds) : ∃ vs, valsD vs ds ∧ HeapE w B E (⟨v, t, F, n, vs⟩ :: innerD vs ds) ∧ w.ownsRow B t F v n vs := by
  obtain ⟨vs, h1, h2⟩ := h
  exact ⟨vs, h1, h2, h2.1.own _ List.mem_cons_self⟩
/-- The same slice stored again where it lies. -/
theorem OwnX.again {n : Nat} {w : World} {B E g cap : Nat} {ds : List Dat} (h : OwnX t F n w B E (.slice (some ⟨g, 0, none⟩) n cap) ds) {i : Nat} (hi : i < n * F) {u : Value} (hc : w.cell? ⟨g, i, none⟩ = some u) :
    OwnX t F n (w.setCell ⟨g, i, none⟩ u) B E (.slice (some ⟨g, 0, none⟩) n cap) ds ∧ w.grownBy (w.setCell ⟨g, i, none⟩ u) (some g) := by
  obtain ⟨vs, h1, h2⟩ := h
  have hro : w.ownsRow B t F (.slice (some ⟨g, 0, none⟩) n cap) n vs := h2.1.own _ List.mem_cons_self
  rw [World.ownsRow.cellAt hro i hi] at hc
  have hs := Heap.set (A := []) h2.1 i u
  have e : vs.set i u = vs := by
    obtain ⟨hlt, rfl⟩ := List.getElem?_eq_some_iff.1 hc
    exact List.set_getElem_self hlt
  rw [e] at hs
  exact ⟨⟨vs, h1, hs.1, h2.2⟩, hs.2⟩
/-- A row made later stored over another inner row. -/
theorem OwnX.swap {n : Nat} {w : World} {B E B' E' g cap : Nat} {ds : List Dat} (h : OwnX t F n w B E (.slice (some ⟨g, 0, none⟩) n cap) ds) {i : Nat} {t1 : TypeId} {F1 n1 : Nat} {cs1 : List Value} (hd : ds[i]? = some (.row t1 F1 n1 cs1))
    {t2 : TypeId} {F2 n2 : Nat} {cs2 : List Value} {u : Value} (hn : HeapE w B' E' [⟨u, t2, F2, n2, cs2⟩]) (hE : E ≤ B') (hB : B ≤ B') (hE' : E ≤ E') :
    OwnX t F n (w.setCell ⟨g, i, none⟩ u) B E' (.slice (some ⟨g, 0, none⟩) n cap) (ds.set i (.row t2 F2 n2 cs2)) ∧ w.grownBy (w.setCell ⟨g, i, none⟩ u) (some g) := by
  obtain ⟨vs, h1, h2⟩ := h
  obtain ⟨u1, hu1, _⟩ := innerD_row (valsD_len h1) hd
  obtain ⟨e, hl⟩ := split_at hd
  obtain ⟨e', hl'⟩ := split_at hu1
  have hlen : (vs.take i).length = (ds.take i).length := by rw [hl, hl']
  have hin : innerD vs ds = innerD (vs.take i) (ds.take i) ++ ⟨u1, t1, F1, n1, cs1⟩ :: innerD (vs.drop (i + 1)) (ds.drop (i + 1)) := by
    conv => lhs; rw [e, e', innerD_append _ _ _ _ hlen]
    rfl
  have hin' : innerD (vs.set i u) (ds.set i (.row t2 F2 n2 cs2)) = innerD (vs.take i) (ds.take i) ++ ⟨u, t2, F2, n2, cs2⟩ :: innerD (vs.drop (i + 1)) (ds.drop (i + 1)) := by
    conv => lhs; rw [e, e', set_mid _ _ _ _ _ hl, set_mid _ _ _ _ _ hl', innerD_append _ _ _ _ hlen]
    rfl
  have hs := Heap.set (A := []) h2.1 i u
  have hsub : Heap (w.setCell ⟨g, i, none⟩ u) B (⟨.slice (some ⟨g, 0, none⟩) n cap, t, F, n, vs.set i u⟩ :: (innerD (vs.take i) (ds.take i) ++ innerD (vs.drop (i + 1)) (ds.drop (i + 1)))) := by
    refine Heap.sub hs.1 ?_
    rw [hin]
    exact List.Sublist.cons_cons _ (List.Sublist.append (List.Sublist.refl _) (List.sublist_cons_self _ _))
  have hg : g < E := h2.2 _ List.mem_cons_self g rfl
  have hnew : Heap (w.setCell ⟨g, i, none⟩ u) B' [⟨u, t2, F2, n2, cs2⟩] := hn.1.grown hs.2 (fun r hr => by
    cases e : r.v.ownBlock with
    | none => exact .inl rfl
    | some k => exact .inr (by rw [← e]; intro hk; rw [e] at hk; injection hk with hk; have := hn.1.base_le hr k e; omega))
  have hlt : ∀ r ∈ (⟨.slice (some ⟨g, 0, none⟩) n cap, t, F, n, vs.set i u⟩ : Rw) :: (innerD (vs.take i) (ds.take i) ++ innerD (vs.drop (i + 1)) (ds.drop (i + 1))), ∀ b, r.v.ownBlock = some b → b < E := by
    intro r hr b hb
    rcases List.mem_cons.1 hr with rfl | h3
    · exact h2.2 _ List.mem_cons_self b hb
    · refine h2.2 r (List.mem_cons_of_mem _ ?_) b hb
      rw [hin]
      rcases List.mem_append.1 h3 with h4 | h4
      · exact List.mem_append_left _ h4
      · exact List.mem_append_right _ (List.mem_cons_of_mem _ h4)
  have hj := hsub.join hnew hB (fun r hr b hb => Nat.lt_of_lt_of_le (hlt r hr b hb) hE)
  refine ⟨⟨vs.set i u, ?_, ?_⟩, hs.2⟩
  · conv at h1 => rw [e, e']
    rw [valsD_append hlen] at h1
    rw [e, e', set_mid _ _ _ _ _ hl, set_mid _ _ _ _ _ hl', valsD_append hlen]
    exact ⟨h1.1, h1.2⟩
  · rw [hin']
    refine ⟨hj.perm ?_, fun r hr k hk => ?_⟩
    · rw [List.cons_append, List.append_assoc]
      refine List.Perm.cons _ ?_
      exact List.Perm.append_left _ List.perm_append_comm
    · rcases List.mem_cons.1 hr with rfl | h3
      · have := hlt _ List.mem_cons_self k hk; omega
      · rcases List.mem_append.1 h3 with h4 | h4
        · have := hlt r (List.mem_cons_of_mem _ (List.mem_append_left _ h4)) k hk; omega
        · rcases List.mem_cons.1 h4 with rfl | h5
          · exact hn.2 _ (List.mem_singleton.2 rfl) k hk
          · have := hlt r (List.mem_cons_of_mem _ (List.mem_append_right _ h5)) k hk; omega
end
end Go.Proofs.Ytcfdnfckilpppaa
/-
  A slice literal of one record: its cells in a new block, never reckoned cell by cell. And 'append(s, x...)' of an own row, nil too.
-/
namespace Go.Proofs.Ytcfdnfckilpppaa
open Go.RowKit M
set_option linter.unusedVariables false
set_option linter.unusedSimpArgs false
theorem fold_cells (vs : List Value) : ∀ (k : Nat) (ini : Array Value), k + vs.length = ini.size → (vs.zipIdx k).foldl (fun (cs : Array Value) (p : Value × Nat) => cs.setIfInBounds p.2 p.1) ini = (ini.toList.take k ++ vs).toArray := by
  induction vs with
  | nil =>
    intro k ini h
    simp only [List.length_nil, Nat.add_zero] at h
    subst h
    apply Array.ext'
    simp [List.take_of_length_le, Array.length_toList]
  | cons v vs ih =>
    intro k ini h
    rw [List.length_cons] at h
    rw [List.zipIdx_cons, List.foldl_cons, ih (k + 1) _ (by rw [Array.size_setIfInBounds]; omega)]
    congr 1
    rw [Array.toList_setIfInBounds, List.take_add_one, List.take_set_of_le (Nat.le_refl k), List.getElem?_set_self (by rw [Array.length_toList]; omega), List.append_assoc]
    rfl
theorem fill_one (cells ini : Array Value) (size : Nat) (h : cells.size = size) (hi : ini.size = size) : Instr.fill (fun i => some (i * size, size)) ini [(0, .agg cells)] = some cells := by
  have e : (Value.agg cells).cells = cells := rfl
  unfold Instr.fill
  simp only [e, h, hi, Nat.zero_mul, Nat.zero_add, ne_eq, not_true_eq_false, gt_iff_lt, Nat.lt_irrefl, false_or, decide_false, Bool.false_eq_true, if_false, or_self, Bool.or_false, Bool.or_self]
  unfold Instr.fill
  congr 1
  rw [← Array.foldl_toList, Array.toList_zipIdx]
  have := fold_cells cells.toList 0 ini (by rw [Nat.zero_add, Array.length_toList, h, hi])
  simp only [List.take_zero, List.nil_append, Array.toArray_toList] at this
  exact this
/-- As the walk leaves a literal of one record. -/
theorem fold_rec (cells ini : Array Value) (n : Nat) (h : cells.size = n) (hi : ini.size = n) : Array.foldl (fun (cs : Array Value) (x : Value × Nat) => cs.setIfInBounds x.snd x.fst) ini cells.zipIdx 0 n = cells := by
  subst h
  have e : cells.size = cells.zipIdx.size := by simp
  rw [show Array.foldl (fun (cs : Array Value) (x : Value × Nat) => cs.setIfInBounds x.snd x.fst) ini cells.zipIdx 0 cells.size = Array.foldl (fun (cs : Array Value) (x : Value × Nat) => cs.setIfInBounds x.snd x.fst) ini cells.zipIdx 0 cells.zipIdx.size by rw [← e]]
  rw [← Array.foldl_toList, Array.toList_zipIdx]
  have := fold_cells cells.toList 0 ini (by rw [Nat.zero_add, Array.length_toList, hi])
  simp only [List.take_zero, List.nil_append, Array.toArray_toList] at this
  exact this
/-- THE LITERAL. -/
theorem wpList_buildRow1 {P : Program} {w : World} {ops : Array Oper} {rest : List Oper} {o : Oper} {a : Act} {Q : Exit → Act → World → Prop} (hg : o.guard = none) (t e : TypeId) (x : Operand) (ho : o.op = .buildSlice t 1 #[(0, x)])
    (cells : Array Value) (hx : a.eval x = .agg cells) (ie : TypeInfo) (z : Value) (hu : P.underlying t = some (.slice e)) (hie : P.info? e = some ie) (hz : ie.zero = some z) (hsz : ie.size = cells.size) (h0 : 0 < cells.size) (hs : cells.size ≤ 1000)
    (h : wpList P ops Q rest (a.put o.dst (.slice (some ⟨w.heap.size, 0, none⟩) 1 1)) (w.alloc (.cells cells e))) : wpList P ops Q (o :: rest) a w := by
  refine wpList_buildSlice hg t e 1 _ ho cells ie z hu hie hz (by rw [hsz]; omega) (by rw [hsz]; omega) ?_ h
  have e1 : ((#[(0, x)] : Array (Nat × Operand)).map fun (i, x) => (i, a.eval x)).toList = [(0, a.eval x)] := by simp
  rw [e1, hx]
  exact fill_one cells _ ie.size hsz.symm (by simp)
/-- 'append(s, x...)' where s is own and empty and x is own, nil too: a new row of the same cells. -/
theorem wpList_append_all {P : Program} {w : World} {ops : Array Oper} {rest : List Oper} {o : Oper} {a : Act} {Q : Exit → Act → World → Prop} (hgd : o.guard = none) (s x : Operand) (t : TypeId)
    (ho : o.op = .call { callee := .builtin .append, args := #[s, x], argTypes := #[t, t] })
    (base : Nat) (e : TypeId) (i : TypeInfo) (z : Value) (size bytes : Nat) (ht : P.underlying t = some (.slice e)) (hi : P.info? e = some i) (hz : i.zero = some z)
    (hsize : i.size = size) (hby : i.bytes = bytes) (hzs : z.cells.size = size) (hsz : 0 < size)
    (v : Value) (hs : a.eval s = v) (hown : w.ownsRow base e size v 0 []) (B m : Nat) (vx : Value) (cs : List Value) (hx : a.eval x = vx) (hvx : w.ownsRow B e size vx m cs)
    (h1 : ∀ u ∈ cs, u.oneCell' = true) (h63 : m ≤ maxLen) (hbytes : m * bytes ≤ 140737488355328) (hbase : base ≤ w.heap.size)
    (h : ∀ v' w', w'.ownsRow base e size v' m cs → w.grownBy w' v.ownBlock → wpList P ops Q rest (a.put o.dst v') w') : wpList P ops Q (o :: rest) a w := by
  have hvx' := hvx
  rcases hvx.2 with ⟨ev, h0⟩ | ⟨g, cap, cur, ev, _, _, hn0, hm0, _, _⟩
  · subst h0
    obtain rfl : cs = [] := List.length_eq_zero_iff.1 (by have := hvx.1; omega)
    rw [ev] at hx
    exact wpList_append_own_none hgd s x t ho base e i size ht hi v 0 [] hs hown hx (h v w hown (World.grownBy.refl w _))
  · rw [ev] at hx
    refine wpList_append_own w hgd s x t ho base e i z size bytes ht hi hz hsize hby hzs hsz v 0 [] hs hown ⟨g, 0, none⟩ m cap cs hx hvx.1 ?_ h1 (by rw [Nat.zero_add]; exact h63) (by rw [Nat.zero_add]; exact hbytes) hbase ?_
    · intro j u hj
      have hin : j < m * size := by
        have := (List.getElem?_eq_some_iff.1 hj).1
        rwa [hvx.1] at this
      rw [Addr.add_lit, Nat.zero_add]
      subst ev
      exact (World.ownsRow.cellAt hvx' j hin).trans hj
    · intro v' w' h2 h3 _
      exact h v' w' (by simpa using h2) h3
end Go.Proofs.Ytcfdnfckilpppaa
/-
  Chapter 10, the model's copy of a log: each event with rows of its own.
-/
namespace Go.Proofs.Ytcfdnfckilpppaa
open Go.RowKit M
set_option linter.unusedVariables false
set_option linter.unusedSimpArgs false
/-- An event of an own log. -/
theorem ownEv_at {w : World} {B X : Nat} {v : Value} {l : List E} (h : OwnY 56 13 evDat w B X v l) (j : Nat) (hj : j < l.length) :
    ∃ b cap vrows, v = .slice (some ⟨b, 0, none⟩) l.length cap ∧ b < w.heap.size ∧ w.rangeAt b (j * 13) (evVals (l.getD j zeroE) vrows).toList ∧ w.ownsRow B 62 10 vrows (l.getD j zeroE).rows.length (cellsR (l.getD j zeroE).rows) := by
  rcases OwnX.shape h with ⟨_, h0⟩ | ⟨g, cap, rfl, _⟩
  · omega
  · obtain ⟨A, cap', e, _, _, h3⟩ := OwnY.arg h evDat_len evDat_wf zeroE
    injection e with e1 e2 e3
    obtain ⟨b, off, ea, hb, hc⟩ := h3 (by omega)
    rw [ea] at e1
    injection e1 with e1
    injection e1 with e4 e5 e6
    subst e4
    subst e5
    obtain ⟨vrows, hr, _⟩ := ev_at (hc j hj)
    rw [Nat.zero_add] at hr
    refine ⟨g, cap, vrows, rfl, hb, hr, ?_⟩
    have hd : (datL evDat l)[j * 13 + 12]? = some (.row 62 10 (l.getD j zeroE).rows.length (cellsR (l.getD j zeroE).rows)) := by
      rw [datL_at evDat_len zeroE l j 12 hj (by decide)]; rfl
    obtain ⟨u, hu, ho⟩ := OwnX.row h (i := j * 13 + 12) (by omega) hd
    have := hr 12 vrows rfl
    rw [this] at hu
    injection hu with hu
    subst hu
    exact ho
theorem ev_one (r : E) (A : Option Addr) (n cap : Nat) : (evVals r (.slice A n cap)).all (·.oneCell') = true := by
  simp [evVals, Value.oneCell']
set_option maxRecDepth 100000 in
set_option maxHeartbeats 800000 in
theorem sLog_any (w : World) (B X : Nat) (v : Value) (l : List E) (h : OwnY 56 13 evDat w B X v l) (hl : l.length ≤ 1048576) (hil : ∀ j, j < l.length → (l.getD j zeroE).rows.length ≤ 1048576) :
    Calls Try.prog 27 #[v] w (MadeEvS w l) := by
  obtain ⟨i0, hi0, hz0, hz1, hz2⟩ := info_parts info_Ev
  obtain ⟨i1, hi1, hy0, hy1, hy2⟩ := info_parts info_row
  obtain ⟨A, cap, rfl⟩ := OwnY.shape h
  have HTK := Lib.hid (List.take_length (l := l))
  have HIL := Lib.hid hil
  have HTS := Lib.hid (fun j (hj : j < l.length) => (show datL evDat (l.take (j + 1)) = datL evDat (l.take j) ++ evDat (l.getD j zeroE) by
    rw [List.take_add_one, List.getElem?_eq_getElem hj, List.getD_eq_getElem?_getD, List.getElem?_eq_getElem hj, datL_append]; simp [datL]))
  have HAT := Lib.hid (fun W (hb : Below w.heap.size w W) j (hj : j < l.length) => ownEv_at (OwnY.below h hb) j hj)
  clear h hil
  generalize hn : l.length = n at *
  have HN := Lib.hid hn
  clear hn
  go_enter Try.func27, Try.ntmps27
  go_wp2_with fail
  go_loopw [3, 4] (fun s i wr => ∃ j : Nat, j ≤ n ∧ i = .int .i64 j ∧ OwnX 56 13 j wr w.heap.size wr.heap.size s (datL evDat (l.take j)) ∧ Below w.heap.size w wr) (fun s i _ => n - (intOf i).toNat)
  case atStart =>
    exact ⟨0, Nat.zero_le _, rfl, ⟨[], trivial, HeapE.made (Heap.one (r := ⟨_, 56, 13, 0, []⟩) (World.ownsRow_made w #[] 0 (Nat.le_refl _) (Nat.zero_le _) rfl))⟩, below_oneL _ _⟩
  case round =>
    obtain ⟨j, hj, rfl, hga, hbl⟩ := hrel
    by_cases hlt : j < n
    · obtain ⟨b, cp, vrows, hA, hb, hrng, hown⟩ := HAT.out wr hbl j hlt
      injection hA with hA1 hA2 hA3
      subst hA1
      subst hA3
      clear hA2
      have hjn : (j : Int) < (n : Int) := by omega
      have HJ := Lib.hid (HIL.out j hlt)
      have HT := Lib.hid (HTS.out j hlt)
      have HB := Lib.hid hbl
      have HG := Lib.hid hga
      have HR := Lib.hid hrng
      have HO := Lib.hid hown
      clear hga hbl hrng hown HAT HIL HTS
      generalize l.getD j zeroE = r at *
      obtain ⟨A1, c1, rfl⟩ := Rw.slice (show (⟨vrows, 62, 10, r.rows.length, cellsR r.rows⟩ : Rw).own wr B from HO.out)
      have hul := Try.underlying56
      have hoc := ev_one r A1 r.rows.length c1
      go_upto_region 6 with ((with_reducible show wpList _ _ _ _ _ _); first | refine wpList_load_mid rfl 56 _ rfl b (j * 13) rfl (evVals r (.slice A1 r.rows.length c1)).toList _ HR.out hul rfl (by kernel_rfl) ?_ | refine wpList_store_row rfl 56 _ _ rfl wr.heap.size (evVals r (.slice A1 r.rows.length c1)) rfl rfl 56 _ (Blk.new wr wr.heap.size 56 #[.int .i64 0, .int .i64 0, .int .i64 0, .int .i64 0, .int .i64 0, .string ⟨#[]⟩, .int .i64 0, .int .i64 0, .int .i64 0, .int .i64 0, .int .i64 0, .int .i64 0, .slice none 0 0] rfl) (by kernel_rfl) rfl hoc ?_)
      refine wp_gen (fun W => Blk W wr.heap.size 56 (evVals r (.slice A1 r.rows.length c1)) ∧ Below wr.heap.size wr W) ⟨setRow_heap _ _ _ _ _ _ (Blk.new wr wr.heap.size 56 #[.int .i64 0, .int .i64 0, .int .i64 0, .int .i64 0, .int .i64 0, .string ⟨#[]⟩, .int .i64 0, .int .i64 0, .int .i64 0, .int .i64 0, .int .i64 0, .int .i64 0, .slice none 0 0] rfl), below_setRow' (below_oneL wr _) (Nat.le_refl _) _⟩ ?_
      rintro W ⟨hx, hbx⟩
      have c12 : (W.alloc (.cells #[] 62)).cell? ⟨wr.heap.size, 12, none⟩ = some (.slice A1 r.rows.length c1) := Lib.cell?_alloc_some _ (hx.get 12)
      have G := Lib.hid hx
      have BX := Lib.hid hbx
      have HO2 := Lib.hid (OwnR.below HO.out hbx)
      clear hx hbx HR hoc HO
      have hmade : (W.alloc (.cells #[] 62)).ownsRow W.heap.size 62 10 (.slice (some ⟨W.heap.size, 0, none⟩) 0 0) 0 [] := World.ownsRow_made W #[] 0 (Nat.le_refl _) (Nat.zero_le _) rfl
      have HMADE := Lib.hid hmade
      clear hmade
      go_upto_region 7 with (at_builtin; refine wpList_append_all rfl _ _ 54 rfl W.heap.size 62 i1 zeroR.v 10 88 Try.underlying54 hi1 hy0 hy1 hy2 rfl (by decide) _ rfl HMADE.out B r.rows.length _ (cellsR r.rows) rfl ?qc1 ?qc2 ?qc3 ?qc4 ?qc5 ?_)
      case qc1 => exact OwnR.alloc HO2.out _
      case qc2 => exact cellsR_one r.rows
      case qc3 => have := HJ.out; unfold maxLen; omega
      case qc4 => have := HJ.out; omega
      case qc5 => simp [go_sem]
      intro v1 W1 hown hgrow
      have hb1 : Below W.heap.size W W1 := (below_oneL W (.cells #[] 62)).grown hgrow (by simp [go_sem]) (by intro k hk; simp [Value.ownBlock] at hk; omega)
      obtain ⟨A2, c2, rfl⟩ := Rw.slice (show (⟨v1, 62, 10, r.rows.length, cellsR r.rows⟩ : Rw).own W1 W.heap.size from hown)
      have BX1 := Lib.hid (BX.out.trans (hb1.mono BX.out.size))
      have G1 := Lib.hid (G.out.below hb1)
      have HW := Lib.hid G.out.lt
      have HV := Lib.hid hown
      have HZ1 := Lib.hid hb1.size
      clear hown hgrow hb1 c12 HO2 HMADE BX G
      have c12 : W1.cell? ⟨wr.heap.size, 12, none⟩ = some (.slice A1 r.rows.length c1) := G1.out.get 12
      have f12 := G1.out.frz 12
      go_upto_region 7 with fail
      refine wp_gen (fun Y => Blk Y wr.heap.size 56 (evVals r (.slice A2 r.rows.length c2)) ∧ Below wr.heap.size wr Y ∧ Heap Y W.heap.size [⟨.slice A2 r.rows.length c2, 62, 10, r.rows.length, cellsR r.rows⟩]) ⟨G1.out.store 12 _, BX1.out.setCell (Nat.le_refl _) _, heap_set1 (Heap.one (r := ⟨.slice A2 r.rows.length c2, 62, 10, r.rows.length, cellsR r.rows⟩) HV.out) HW.out G1.out 12 _⟩ ?_
      rintro Y ⟨hy, hby, hrow⟩
      obtain ⟨vs, hv1, hv2, _⟩ := HG.out.sees
      have hbY : Below wr.heap.size wr (Y.alloc (.cells (evVals r (.slice A2 r.rows.length c2)) 56)) := hby.alloc hby.size _
      have HROW := Lib.hid (show World.ownsRow (Y.alloc (.cells (evVals r (.slice A2 r.rows.length c2)) 56)) w.heap.size 56 13 _ j vs from (hv2.1.below hbY).own _ List.mem_cons_self)
      have HP := Lib.hid (fun (v' : Value) (w2 : World) hr hg hv => pushX (v' := v') (w2 := w2) hv1 hv2 hbY (evVals_ok r (.slice A2 r.rows.length c2)) (HeapE.made (hrow.below (below_oneL Y _))) (Nat.le_of_lt HW.out) (Nat.le_trans HB.out.size (Nat.le_of_lt HW.out)) hr hg hv)
      have HBY := Lib.hid (HB.out.trans (hbY.mono HB.out.size))
      have GY := Lib.hid hy
      have hone := ev_one r A2 r.rows.length c2
      have hs13 : (evVals r (.slice A2 r.rows.length c2)).size = 13 := rfl
      clear hy hby hrow hbY G1 BX1 HV HZ1 f12 c12
      go_wp2_with ((with_reducible show wpList _ _ _ _ _ _); first | refine wpList_load_row rfl 56 _ rfl wr.heap.size rfl 56 (evVals r (.slice A2 r.rows.length c2)) (0, 0) _ GY.out hul rfl (by kernel_rfl) ?_ | (at_builtin; rw [fold_rec _ _ _ (by rfl) (by rfl)]; refine wpList_append_own_at _ rfl _ _ 29 rfl w.heap.size 56 i0 (.agg #[.int .i64 0, .int .i64 0, .int .i64 0, .int .i64 0, .int .i64 0, .string ⟨#[]⟩, .int .i64 0, .int .i64 0, .int .i64 0, .int .i64 0, .int .i64 0, .int .i64 0, .slice none 0 0]) 13 128 Try.underlying29 hi0 hz0 hz1 hz2 rfl (by decide) _ j _ rfl HROW.out ⟨Y.heap.size, 0, none⟩ 1 1 (evVals r (.slice A2 r.rows.length c2)).toList rfl ?qd1 ?qd2 ?qd3 ?qd4 ?qd5 ?qd6 ?_))
      case qd3 => intro u hu; exact Array.all_eq_true_iff_forall_mem.1 hone u (by simpa using hu)
      case qd4 => unfold maxLen; omega
      case qd5 => omega
      case qd6 => have := HBY.out.size; simpa [go_sem] using this
      intro v' w2 hown hgrow hnil hblk
      have HP2 := Lib.hid (HP.out v' w2 hown hgrow (by rcases hblk with h | h; exact .inl h; exact .inr (fun k hk => by have e := Option.some.inj (h.symm.trans hk); have e2 : (Y.alloc (.cells (evVals r (.slice A2 r.rows.length c2)) 56)).heap.size = Y.heap.size + 1 := (by simp [go_sem]); omega)))
      have HB2 := Lib.hid (HBY.out.grown hgrow HBY.out.size (fun k hk => (World.ownsRow.lt HROW.out k hk).1))
      clear hown hgrow hnil hblk HP HROW HBY GY HG HB hone
      go_wp2_with fail
      go_roundw
      case rel =>
        refine ⟨j + 1, by omega, by go_num, ?_, HB2.out⟩
        rw [HT.out]
        exact HP2.out
      case measure => simp [intOf]; omega
    · have hjn : j = n := by omega
      subst hjn
      have hltz : ¬ (j : Int) < (j : Int) := by omega
      have HG2 := Lib.hid hga
      have HB2 := Lib.hid hbl
      clear hga hbl
      go_wp2_with fail
      go_ret
      refine ⟨_, rfl, ?_, HB2.out⟩
      have := HG2.out
      rw [HTK.out] at this
      unfold OwnY
      rw [HN.out]
      exact this
end Go.Proofs.Ytcfdnfckilpppaa
/-
  Chapter 10's laws on a job: the argument opened; what its copy reads as.
-/
namespace Go.Proofs.Ytcfdnfckilpppaa
open Go.ChangeShapes Go.WideShapes Go.Deep Go.RowKit M
set_option linter.unusedVariables false
theorem own_ints {w : World} {B : Nat} {v : Value} {zs : List Int} (ho : (⟨v, 3, 1, zs.length, zs.map (Value.int .i64)⟩ : Rw).own w B) : IntsArg w v zs := by
  have h' : w.ownsRow B 3 1 v zs.length (zs.map (Value.int .i64)) := ho
  rcases h'.2 with ⟨rfl, h0⟩ | ⟨g, cap, cur, rfl, hb, hg, hn, hm, hc, ht⟩
  · have e : zs = [] := List.length_eq_zero_iff.1 h0
    subst e; exact IntsArg.nil w
  · refine ⟨_, cap, rfl, hn, hm, fun _ => ⟨g, 0, rfl, (World.ownsRow.lt h' g rfl).2, fun j hj => ?_⟩⟩
    rw [Nat.zero_add, World.ownsRow.cellAt h' j (by omega), List.getElem?_map, List.getElem?_eq_getElem hj, List.getD_eq_getElem?_getD, List.getElem?_eq_getElem hj]
    rfl
theorem heap_job {w : World} {B : Nat} {r : J} {vk vr : Value} (h : Heap w B [⟨vk, 3, 1, r.keys.length, (r.keys.map (Value.int .i64))⟩, ⟨vr, 3, 1, r.raw.length, (r.raw.map (Value.int .i64))⟩]) : jobIn w r vk vr :=
  ⟨own_ints (h.own _ List.mem_cons_self), own_ints (h.own _ (List.mem_cons_of_mem _ List.mem_cons_self))⟩
section
variable {H : Type} {enc : TypeId × Value → H} {w : World} {base : Nat} {spare : Nat → Bool} {held : Bool} {fuel : Nat} {x : DataW H × List MemPlace} {c : Value}
set_option maxRecDepth 100000 in
theorem rd_job2 {cs : List Value} (hsz : cs.length = 18) (h : DataW.trod enc Try.prog w base spare held fuel 80 cs = some x) : ∃ (r : J) (vk vr : Value), cs = (jobVals r vk vr).toList ∧ jobIn w r vk vr ∧ r.Fit := by
  obtain ⟨r, hr, hf⟩ := rd_job hsz h
  clear h
  match cs, hsz with
  | [c0, c1, c2, c3, c4, c5, c6, c7, c8, c9, c10, c11, c12, c13, c14, c15, c16, c17], _ =>
    obtain ⟨_, q0, rfl⟩ := hr 0 _ rfl
    injection q0 with q0
    subst q0
    obtain ⟨_, q1, rfl⟩ := hr 1 _ rfl
    injection q1 with q1
    subst q1
    obtain ⟨_, q2, rfl⟩ := hr 2 _ rfl
    injection q2 with q2
    subst q2
    obtain ⟨_, q3, rfl⟩ := hr 3 _ rfl
    injection q3 with q3
    subst q3
    obtain ⟨_, q4, rfl⟩ := hr 4 _ rfl
    injection q4 with q4
    subst q4
    obtain ⟨_, q5, rfl⟩ := hr 5 _ rfl
    injection q5 with q5
    subst q5
    obtain ⟨_, q6, rfl⟩ := hr 6 _ rfl
    injection q6 with q6
    subst q6
    obtain ⟨_, q7, rfl⟩ := hr 7 _ rfl
    injection q7 with q7
    subst q7
    obtain ⟨_, q8, rfl⟩ := hr 8 _ rfl
    injection q8 with q8
    subst q8
    obtain ⟨_, q9, rfl⟩ := hr 9 _ rfl
    injection q9 with q9
    subst q9
    obtain ⟨_, q10, rfl⟩ := hr 10 _ rfl
    injection q10 with q10
    subst q10
    obtain ⟨_, q11, rfl⟩ := hr 11 _ rfl
    injection q11 with q11
    subst q11
    obtain ⟨_, q12, rfl⟩ := hr 12 _ rfl
    injection q12 with q12
    subst q12
    obtain ⟨_, q13, rfl⟩ := hr 13 _ rfl
    injection q13 with q13
    subst q13
    obtain ⟨_, q14, rfl⟩ := hr 14 _ rfl
    injection q14 with q14
    subst q14
    obtain ⟨_, q15, rfl⟩ := hr 15 _ rfl
    injection q15 with q15
    subst q15
    obtain ⟨vk, q16, r16⟩ := hr 16 _ rfl
    obtain ⟨vr, q17, r17⟩ := hr 17 _ rfl
    injection q16 with q16
    injection q17 with q17
    subst q16
    subst q17
    exact ⟨r, c16, c17, rfl, ⟨reads_ints r16, reads_ints r17⟩, hf⟩
end
section
variable {H : Type} {enc : TypeId × Value → H} {w : World} {base : Nat} {spare : Nat → Bool} {held : Bool} {r : Reach} {b0 : Nat} {v : Value} {d : DataW H} {p : List MemPlace}
set_option maxRecDepth 100000 in
theorem open_job (hv : Value.okWide Try.prog w r b0 80 v) (h : DataW.Trod enc Try.prog w base spare held 80 v d p) : ∃ (z : J) (vk vr : Value), v = .agg (jobVals z vk vr) ∧ jobIn w z vk vr ∧ z.Fit := by
  obtain ⟨cs, rfl, hsz⟩ := okWide_struct Try.underlying80 hv
  obtain ⟨fuel, hf⟩ := h
  have hC : Try.prog.cellsOf 80 = 18 := by kernel_rfl
  rw [hC] at hsz
  obtain ⟨z, vk, vr, hx, hin, hfit⟩ := rd_job2 (cs := cs.toList) (by simpa using hsz) hf
  obtain rfl : cs = jobVals z vk vr := Array.ext' hx
  exact ⟨z, vk, vr, rfl, hin, hfit⟩
end
/-- What a job's law keeps through its last statement: the two boxes, the argument, the copy that was worked on. -/
structure LawJ (w0 : World) (gw gx : Nat) (s : J) (vk vr xk xr : Value) (w : World) : Prop where
  g : Blk w gw 80 (jobVals s vk vr)
  y : Blk w gx 86 (jobVals s xk xr)
  a : jobIn w s vk vr
  x : jobIn w s xk xr
  b : Below w0.heap.size w0 w
theorem LawJ.next {w0 w w' : World} {gw gx : Nat} {s : J} {vk vr xk xr : Value} (h : LawJ w0 gw gx s vk vr xk xr w) (hb : Below w.heap.size w w') : LawJ w0 gw gx s vk vr xk xr w' :=
  ⟨h.g.below hb, h.y.below hb, jobIn_below h.a hb, jobIn_below h.x hb, h.b.trans (hb.mono h.b.size)⟩
/-- The whole block, as a stretch of cells. -/
theorem Blk.range {w : World} {g : Nat} {t : TypeId} {cs : Array Value} (h : Blk w g t cs) : w.rangeAt g 0 cs.toList := fun j v hv => by
  rw [Nat.zero_add, h.get j]
  rw [Array.getElem?_toList] at hv
  exact hv
end Go.Proofs.Ytcfdnfckilpppaa

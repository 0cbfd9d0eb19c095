/-
  Arguments of chapter 10's laws opened: an operation, queues, a job, a world: each reads as some record whose fields fit their types.
-/
import Derived.Test.YtfemdhknnfmpcaaWorZ
import Derived.Test.YtfemdhknnfmpcaaZb
import Derived.Test.YtfemdhknnfmpcaaZa
import Derived.Deep.Slices
import Derived.Deep.Fields
import Derived.OpenShut
import Derived.KernelRfl
namespace Go.Proofs.Ytfemdhknnfmpcaa
open Go.ChangeShapes Go.WideShapes Go.Deep Go.RowKit M
set_option linter.unusedVariables false
section
variable {H : Type} {enc : TypeId × Value → H} {P : Program} {w : World} {base : Nat} {spare : Nat → Bool} {held : Bool} {α : Type} [Inhabited α]
/-- An argument that is a slice: its elements, each read as its type tells. -/
theorem open_elts {t te : TypeId} {F : Nat} (ht : P.underlying t = some (.slice te)) (hC : P.cellsOf te = F) (hF : 0 < F) (z : α) (Rel : List Value → α → Prop)
    (hread : ∀ (fuel : Nat) (cs : List Value) (x : DataW H × List MemPlace), cs.length = F → DataW.trod enc P w base spare held fuel te cs = some x → ∃ r, Rel cs r)
    {fuel : Nat} {c : Value} {x : DataW H × List MemPlace} (h : DataW.trod enc P w base spare held fuel t [c] = some x) :
    ∃ (l : List α) (A : Option Addr) (cap : Nat), c = .slice A l.length cap ∧ l.length ≤ cap ∧ cap ≤ maxLen ∧ (0 < l.length → ∃ b off, A = some ⟨b, off, none⟩ ∧ b < w.heap.size ∧ ∀ j, j < l.length → ∃ cs, cs.length = F ∧ (∀ k, k < F → w.cell? ⟨b, off + j * F + k, none⟩ = cs[k]?) ∧ Rel cs (l.getD j z)) := by
  rcases open_slice ht h with ⟨hcs, _⟩ | ⟨a, len, cap, m, n, D, Pl, hcs, _, hl, hm, hmm, _, hi⟩
  · simp at hcs
    subst hcs
    exact ⟨[], none, 0, rfl, Nat.le_refl _, Nat.zero_le _, fun h => absurd h (Nat.lt_irrefl _)⟩
  · simp at hcs
    subst hcs
    have hle : len ≤ m := by rw [hmm]; split <;> omega
    rw [hC] at hi
    have hr : ∀ i, i < len → ∃ r : α, ∃ cs : List Value, cs.length = F ∧ (∀ k, k < F → w.cell? ((a.add (i * F)).add k) = cs[k]?) ∧ Rel cs r := fun i him => by
      obtain ⟨cs', hc, ht⟩ := hi i (by omega)
      obtain ⟨_, hcl, hat⟩ := World.cells?_some hc
      obtain ⟨r, hr⟩ := hread _ _ _ hcl ht
      exact ⟨r, cs', hcl, fun k hk => hat k hk, hr⟩
    obtain ⟨f, hf⟩ := choose_lt hr
    have hg : ∀ j, j < len → ((List.range len).map f).getD j z = f j := fun j hj => by simp [List.getD_eq_getElem?_getD, hj]
    have hlen : ((List.range len).map f).length = len := by simp
    refine ⟨(List.range len).map f, some a, cap, by rw [hlen], by rw [hlen]; exact hl, hm, fun hp => ?_⟩
    rw [hlen] at hp ⊢
    obtain ⟨b, off, spot⟩ := a
    obtain ⟨cs0, hl0, hc0, _⟩ := hf 0 hp
    have h0 := hc0 0 hF
    rw [List.getElem?_eq_getElem (by omega : 0 < cs0.length)] at h0
    have hspot : spot = none := by simpa [Addr.add] using World.cell?_spot h0
    subst hspot
    refine ⟨b, off, rfl, by simpa [Addr.add] using World.block_lt_of_cell? w _ h0, fun j hj => ?_⟩
    obtain ⟨cs, hcl, hc, hrel⟩ := hf j hj
    refine ⟨cs, hcl, fun k hk => ?_, by rw [hg j hj]; exact hrel⟩
    rw [← hc k hk, add_add]
    congr 1
    unfold Addr.add
    split
    · simp_all
    · simp [Nat.add_assoc]
/-- The reading of a struct gives the reading of each of its fields. -/
theorem field_readN {fs : Array Field} {cs : List Value} {xs : List (DataW H × List MemPlace)} {n : Nat}
    (hg : ∀ (i : Nat) (f : Field), fs[i]? = some f → DataW.trod enc P w base spare held n f.type ((cs.drop f.offset).take (P.cellsOf f.type)) = xs[i]?)
    {i : Nat} {f : Field} (hf : fs[i]? = some f) (hx : i < xs.length) {k m : Nat} (ho : f.offset = k) (hm : P.cellsOf f.type = m) : ∃ y, DataW.trod enc P w base spare held n f.type ((cs.drop k).take m) = some y := by
  have h := hg i f hf
  rw [ho, hm, List.getElem?_eq_getElem hx] at h
  exact ⟨_, h⟩
end
section
variable {H : Type} {enc : TypeId × Value → H} {w : World} {base : Nat} {spare : Nat → Bool} {held : Bool} {fuel : Nat} {x : DataW H × List MemPlace} {c : Value}
set_option maxRecDepth 100000 in
theorem rd_bool (h : DataW.trod enc Try.prog w base spare held fuel 4 [c] = some x) : ∃ b, c = .bool b := by
  obtain ⟨b, e, _⟩ := DataW.trod_bool Try.underlying4 h
  exact ⟨b, by simpa using e⟩
set_option maxRecDepth 100000 in
theorem rd_int (h : DataW.trod enc Try.prog w base spare held fuel 3 [c] = some x) : ∃ z, inW z ∧ c = .int .i64 z := by
  obtain ⟨z, e, _, f⟩ := DataW.trod_int Try.underlying3 h
  exact ⟨z, fit_of f, by simpa using e⟩
set_option maxRecDepth 100000 in
theorem rd_str (h : DataW.trod enc Try.prog w base spare held fuel 9 [c] = some x) : ∃ s : ByteArray, s.size ≤ maxLen ∧ c = .string s := by
  obtain ⟨s, e, _, f⟩ := DataW.trod_string Try.underlying9 h
  exact ⟨s, f, by simpa using e⟩
set_option maxRecDepth 100000 in
theorem rd_ints (h : DataW.trod enc Try.prog w base spare held fuel 36 [c] = some x) : ∃ zs, IntsArg w c zs ∧ Fit zs := by
  obtain ⟨l, A, cap, rfl, h1, h2, h3⟩ := open_elts (F := 1) Try.underlying36 (by kernel_rfl) (by decide) (0 : Int) (fun cs z => cs = [.int .i64 z] ∧ inW z) (fun fuel cs x hl ht => by
    match cs, hl with
    | [c0], _ => obtain ⟨z, h1, rfl⟩ := rd_int ht; exact ⟨z, rfl, h1⟩) h
  have hfit : ∀ j, j < l.length → inW (l.getD j 0) := fun j hj => by
    obtain ⟨b, off, _, _, h5⟩ := h3 (by omega)
    obtain ⟨cs, _, _, _, hw⟩ := h5 j hj
    exact hw
  refine ⟨l, ⟨A, cap, rfl, h1, h2, fun hp => ?_⟩, fun z hz => ?_⟩
  · obtain ⟨b, off, ea, h4, h5⟩ := h3 hp
    refine ⟨b, off, ea, h4, fun j hj => ?_⟩
    obtain ⟨cs, _, hc, rfl, _⟩ := h5 j hj
    have := hc 0 (by decide)
    rwa [Nat.mul_one, Nat.add_zero] at this
  · obtain ⟨j, hj, e⟩ := List.getElem_of_mem hz
    have := hfit j hj
    rw [List.getD_eq_getElem?_getD, List.getElem?_eq_getElem hj, Option.getD_some, e] at this
    exact this
set_option maxRecDepth 100000 in
theorem rd_rows (h : DataW.trod enc Try.prog w base spare held fuel 110 [c] = some x) : ∃ rs, RowsArg w c rs ∧ FitR rs := by
  rcases open_slice Try.underlying110 h with ⟨hcs, _⟩ | ⟨a, l, cp, m, n, D, Pl, hcs, _⟩
  · simp at hcs; subst hcs; exact open_rows h
  · simp at hcs; subst hcs; exact open_rows h
set_option maxRecDepth 100000 in
theorem rd_op {cs : List Value} (hsz : cs.length = 4) (h : DataW.trod enc Try.prog w base spare held fuel 23 cs = some x) : ∃ r : O, cs = (opCells r).toList ∧ r.Fit := by
  obtain ⟨xs, n, _, _, hlen, hxl, hg⟩ := DataW.trod_struct Try.underlying23 h
  have hx : xs.length = 4 := hxl
  match cs, hsz with
  | [c0, c1, c2, c3], _ =>
    obtain ⟨y0, h0⟩ := field_readN hg (i := 0) rfl (by omega) (k := 0) rfl (m := 1) (by kernel_rfl)
    obtain ⟨y1, h1⟩ := field_readN hg (i := 1) rfl (by omega) (k := 1) rfl (m := 1) (by kernel_rfl)
    obtain ⟨y2, h2⟩ := field_readN hg (i := 2) rfl (by omega) (k := 2) rfl (m := 1) (by kernel_rfl)
    obtain ⟨y3, h3⟩ := field_readN hg (i := 3) rfl (by omega) (k := 3) rfl (m := 1) (by kernel_rfl)
    obtain ⟨x0, f0, rfl⟩ := rd_int (c := c0) h0
    obtain ⟨x1, f1, rfl⟩ := rd_str (c := c1) h1
    obtain ⟨x2, f2, rfl⟩ := rd_int (c := c2) h2
    obtain ⟨x3, f3, rfl⟩ := rd_int (c := c3) h3
    exact ⟨⟨x0, x1, x2, x3⟩, rfl, ⟨f0, f1, f2, f3⟩⟩
instance : Inhabited O := ⟨zeroO⟩
def FitOs (l : List O) : Prop := ∀ i, i < l.length → (l.getD i zeroO).Fit
set_option maxRecDepth 100000 in
theorem rd_ops (h : DataW.trod enc Try.prog w base spare held fuel 68 [c] = some x) : ∃ l, RecsArg 4 opCells zeroO w c l ∧ FitOs l := by
  obtain ⟨l, A, cap, rfl, h1, h2, h3⟩ := open_elts (F := 4) Try.underlying68 (by kernel_rfl) (by decide) zeroO (fun cs r => cs = (opCells r).toList ∧ r.Fit) (fun fuel cs x hl ht => rd_op hl ht) h
  refine ⟨l, ⟨A, cap, rfl, h1, h2, fun hp => ?_⟩, fun j hj => ?_⟩
  · obtain ⟨b, off, ea, h4, h5⟩ := h3 hp
    refine ⟨b, off, ea, h4, fun j hj k hk => ?_⟩
    obtain ⟨cs, _, hc, rfl, _⟩ := h5 j hj
    rw [hc k hk, Array.getElem?_toList]
  · obtain ⟨b, off, _, _, h5⟩ := h3 (by omega)
    obtain ⟨cs, _, _, _, hw⟩ := h5 j hj
    exact hw
set_option maxRecDepth 100000 in
theorem rd_queue {cs : List Value} (hsz : cs.length = 1) (h : DataW.trod enc Try.prog w base spare held fuel 70 cs = some x) : ∃ q, (∃ u, cs = [u] ∧ RecsArg 4 opCells zeroO w u q) ∧ FitOs q := by
  obtain ⟨xs, n, _, _, hlen, hxl, hg⟩ := DataW.trod_struct Try.underlying70 h
  have hx : xs.length = 1 := hxl
  match cs, hsz with
  | [c0], _ =>
    obtain ⟨y0, h0⟩ := field_readN hg (i := 0) rfl (by omega) (k := 0) rfl (m := 1) (by kernel_rfl)
    obtain ⟨q, f0, f1⟩ := rd_ops (c := c0) h0
    exact ⟨q, ⟨c0, rfl, f0⟩, f1⟩
set_option maxRecDepth 100000 in
theorem rd_queues (h : DataW.trod enc Try.prog w base spare held fuel 29 [c] = some x) : ∃ ls, ArgQ w c ls ∧ FitQ ls := by
  obtain ⟨l, A, cap, rfl, h1, h2, h3⟩ := open_elts (F := 1) Try.underlying29 (by kernel_rfl) (by decide) ([] : List O) (fun cs q => (∃ u, cs = [u] ∧ RecsArg 4 opCells zeroO w u q) ∧ FitOs q) (fun fuel cs x hl ht => rd_queue hl ht) h
  refine ⟨l, ⟨A, cap, rfl, h1, h2, fun hp => ?_⟩, fun j hj => ?_⟩
  · obtain ⟨b, off, ea, h4, h5⟩ := h3 hp
    refine ⟨b, off, ea, h4, fun j hj => ?_⟩
    obtain ⟨cs, _, hc, ⟨u, rfl, hr⟩, _⟩ := h5 j hj
    have := hc 0 (by decide)
    rw [Nat.mul_one, Nat.add_zero] at this
    exact ⟨u, this, hr⟩
  · obtain ⟨b, off, _, _, h5⟩ := h3 (by omega)
    obtain ⟨cs, _, _, _, hw⟩ := h5 j hj
    exact hw
theorem ints_reads {v : Value} {zs : List Int} (h : IntsArg w v zs) : (Dat.row 3 1 zs.length (zs.map (Value.int .i64))).reads w v := by
  obtain ⟨A, cap, e, h1, h2, h3⟩ := h
  refine ⟨by simp, A, cap, e, h1, h2, fun hp => ?_⟩
  obtain ⟨b, off, ea, h4, h5⟩ := h3 hp
  refine ⟨b, off, ea, h4, fun j hj => ?_⟩
  have hj' : j < zs.length := by omega
  rw [h5 j hj', List.getElem?_map, List.getElem?_eq_getElem hj', List.getD_eq_getElem?_getD, List.getElem?_eq_getElem hj']
  rfl
theorem rows_reads {v : Value} {rs : List R} (h : RowsArg w v rs) : (Dat.row 117 10 rs.length (cellsR rs)).reads w v := by
  obtain ⟨A, cap, e, h1, h2, h3⟩ := h
  refine ⟨cellsR_length rs, A, cap, e, h1, h2, fun hp => ?_⟩
  obtain ⟨b, off, ea, h4, h5⟩ := h3 hp
  refine ⟨b, off, ea, h4, fun j hj => ?_⟩
  have ej : j = j / 10 * 10 + j % 10 := by omega
  have := h5 (j / 10) (by omega) (j % 10) (by omega)
  rw [← cellsR_at rs (j / 10) (j % 10) (by omega) (by omega), ← ej] at this
  rw [← this]
  congr 2
  omega
instance : Inhabited J := ⟨zeroJ⟩
instance : Inhabited E := ⟨zeroE⟩
end
end Go.Proofs.Ytfemdhknnfmpcaa
namespace Go.Proofs.Ytfemdhknnfmpcaa.M
open Go.RowKit
structure J.Fit (r : J) : Prop where
  op : r.op.Fit
  nums : inW r.serial ∧ inW r.pc ∧ inW r.k ∧ inW r.slot ∧ inW r.what ∧ inW r.e ∧ inW r.stamp ∧ inW r.old ∧ inW r.flips ∧ inW r.steps ∧ inW r.code
  keys : Go.Proofs.Ytfemdhknnfmpcaa.Fit r.keys
  raw : Go.Proofs.Ytfemdhknnfmpcaa.Fit r.raw
structure E.Fit (r : E) : Prop where
  op : r.op.Fit
  nums : inW r.kind ∧ inW r.who ∧ inW r.serial ∧ inW r.at_ ∧ inW r.code ∧ inW r.win ∧ inW r.steps ∧ inW r.flips
  rows : FitR r.rows
structure S.Fit (s : S) : Prop where
  cells : Go.Proofs.Ytfemdhknnfmpcaa.Fit s.cells
  jobs : ∀ j, j < s.jobs.length → (s.jobs.getD j zeroJ).Fit
  todo : FitQ s.todo
  log : ∀ j, j < s.log.length → (s.log.getD j zeroE).Fit
  serial : inW s.serial
  now : inW s.now
end Go.Proofs.Ytfemdhknnfmpcaa.M
namespace Go.Proofs.Ytfemdhknnfmpcaa
open Go.ChangeShapes Go.WideShapes Go.Deep Go.RowKit M
set_option linter.unusedVariables false
section
variable {H : Type} {enc : TypeId × Value → H} {w : World} {base : Nat} {spare : Nat → Bool} {held : Bool} {fuel : Nat} {x : DataW H × List MemPlace} {c : Value}
set_option maxRecDepth 100000 in
theorem rd_job {cs : List Value} (hsz : cs.length = 18) (h : DataW.trod enc Try.prog w base spare held fuel 38 cs = some x) : ∃ r : J, (∀ (k : Nat) (d : Dat), (jobDat r)[k]? = some d → ∃ u, cs[k]? = some u ∧ d.reads w u) ∧ r.Fit := by
  obtain ⟨xs, n, _, _, hlen, hxl, hg⟩ := DataW.trod_struct Try.underlying38 h
  have hx : xs.length = 15 := hxl
  match cs, hsz with
  | [c0, c1, c2, c3, c4, c5, c6, c7, c8, c9, c10, c11, c12, c13, c14, c15, c16, c17], _ =>
    obtain ⟨y0, h0⟩ := field_readN hg (i := 0) rfl (by omega) (k := 0) rfl (m := 1) (by kernel_rfl)
    obtain ⟨y1, h1⟩ := field_readN hg (i := 1) rfl (by omega) (k := 1) rfl (m := 4) (by kernel_rfl)
    obtain ⟨y2, h2⟩ := field_readN hg (i := 2) rfl (by omega) (k := 5) rfl (m := 1) (by kernel_rfl)
    obtain ⟨y3, h3⟩ := field_readN hg (i := 3) rfl (by omega) (k := 6) rfl (m := 1) (by kernel_rfl)
    obtain ⟨y4, h4⟩ := field_readN hg (i := 4) rfl (by omega) (k := 7) rfl (m := 1) (by kernel_rfl)
    obtain ⟨y5, h5⟩ := field_readN hg (i := 5) rfl (by omega) (k := 8) rfl (m := 1) (by kernel_rfl)
    obtain ⟨y6, h6⟩ := field_readN hg (i := 6) rfl (by omega) (k := 9) rfl (m := 1) (by kernel_rfl)
    obtain ⟨y7, h7⟩ := field_readN hg (i := 7) rfl (by omega) (k := 10) rfl (m := 1) (by kernel_rfl)
    obtain ⟨y8, h8⟩ := field_readN hg (i := 8) rfl (by omega) (k := 11) rfl (m := 1) (by kernel_rfl)
    obtain ⟨y9, h9⟩ := field_readN hg (i := 9) rfl (by omega) (k := 12) rfl (m := 1) (by kernel_rfl)
    obtain ⟨y10, h10⟩ := field_readN hg (i := 10) rfl (by omega) (k := 13) rfl (m := 1) (by kernel_rfl)
    obtain ⟨y11, h11⟩ := field_readN hg (i := 11) rfl (by omega) (k := 14) rfl (m := 1) (by kernel_rfl)
    obtain ⟨y12, h12⟩ := field_readN hg (i := 12) rfl (by omega) (k := 15) rfl (m := 1) (by kernel_rfl)
    obtain ⟨y13, h13⟩ := field_readN hg (i := 13) rfl (by omega) (k := 16) rfl (m := 1) (by kernel_rfl)
    obtain ⟨y14, h14⟩ := field_readN hg (i := 14) rfl (by omega) (k := 17) rfl (m := 1) (by kernel_rfl)
    obtain ⟨x0, rfl⟩ := rd_bool (c := c0) h0
    obtain ⟨x1, e1, f1⟩ := rd_op (cs := [c1, c2, c3, c4]) rfl h1
    obtain ⟨x1k, x1s, x1w, x1v⟩ := x1
    simp only [opCells, List.cons.injEq, and_true] at e1
    obtain ⟨rfl, rfl, rfl, rfl⟩ := e1
    obtain ⟨x2, f2, rfl⟩ := rd_int (c := c5) h2
    obtain ⟨x3, f3, rfl⟩ := rd_int (c := c6) h3
    obtain ⟨x4, f4, rfl⟩ := rd_int (c := c7) h4
    obtain ⟨x5, f5, rfl⟩ := rd_int (c := c8) h5
    obtain ⟨x6, f6, rfl⟩ := rd_int (c := c9) h6
    obtain ⟨x7, f7, rfl⟩ := rd_int (c := c10) h7
    obtain ⟨x8, f8, rfl⟩ := rd_int (c := c11) h8
    obtain ⟨x9, f9, rfl⟩ := rd_int (c := c12) h9
    obtain ⟨x10, f10, rfl⟩ := rd_int (c := c13) h10
    obtain ⟨x11, f11, rfl⟩ := rd_int (c := c14) h11
    obtain ⟨x12, f12, rfl⟩ := rd_int (c := c15) h12
    obtain ⟨x13, a13, f13⟩ := rd_ints (c := c16) h13
    obtain ⟨x14, a14, f14⟩ := rd_ints (c := c17) h14
    refine ⟨⟨x0, ⟨x1k, x1s, x1w, x1v⟩, x2, x3, x4, x5, x6, x7, x8, x9, x10, x11, x12, x13, x14⟩, fun k d hd => ?_, ⟨f1, ⟨f2, f3, f4, f5, f6, f7, f8, f9, f10, f11, f12⟩, f13, f14⟩⟩
    match k, hd with
    | 0, hd => obtain rfl := Option.some.inj hd; exact ⟨_, rfl, rfl⟩
    | 1, hd => obtain rfl := Option.some.inj hd; exact ⟨_, rfl, rfl⟩
    | 2, hd => obtain rfl := Option.some.inj hd; exact ⟨_, rfl, rfl⟩
    | 3, hd => obtain rfl := Option.some.inj hd; exact ⟨_, rfl, rfl⟩
    | 4, hd => obtain rfl := Option.some.inj hd; exact ⟨_, rfl, rfl⟩
    | 5, hd => obtain rfl := Option.some.inj hd; exact ⟨_, rfl, rfl⟩
    | 6, hd => obtain rfl := Option.some.inj hd; exact ⟨_, rfl, rfl⟩
    | 7, hd => obtain rfl := Option.some.inj hd; exact ⟨_, rfl, rfl⟩
    | 8, hd => obtain rfl := Option.some.inj hd; exact ⟨_, rfl, rfl⟩
    | 9, hd => obtain rfl := Option.some.inj hd; exact ⟨_, rfl, rfl⟩
    | 10, hd => obtain rfl := Option.some.inj hd; exact ⟨_, rfl, rfl⟩
    | 11, hd => obtain rfl := Option.some.inj hd; exact ⟨_, rfl, rfl⟩
    | 12, hd => obtain rfl := Option.some.inj hd; exact ⟨_, rfl, rfl⟩
    | 13, hd => obtain rfl := Option.some.inj hd; exact ⟨_, rfl, rfl⟩
    | 14, hd => obtain rfl := Option.some.inj hd; exact ⟨_, rfl, rfl⟩
    | 15, hd => obtain rfl := Option.some.inj hd; exact ⟨_, rfl, rfl⟩
    | 16, hd => obtain rfl := Option.some.inj hd; exact ⟨_, rfl, ints_reads a13⟩
    | 17, hd => obtain rfl := Option.some.inj hd; exact ⟨_, rfl, ints_reads a14⟩
    | k + 18, hd => exact absurd hd (by simp [jobDat])
set_option maxRecDepth 100000 in
theorem rd_jobs (h : DataW.trod enc Try.prog w base spare held fuel 54 [c] = some x) : ∃ l : List J, ArgT 18 jobDat zeroJ w c l ∧ ∀ j, j < l.length → (l.getD j zeroJ).Fit := by
  obtain ⟨l, A, cap, rfl, h1, h2, h3⟩ := open_elts (F := 18) Try.underlying54 (by kernel_rfl) (by decide) zeroJ (fun cs r => (∀ (k : Nat) (d : Dat), (jobDat r)[k]? = some d → ∃ u, cs[k]? = some u ∧ d.reads w u) ∧ r.Fit) (fun fuel cs x hl ht => rd_job hl ht) h
  refine ⟨l, ⟨A, cap, rfl, h1, h2, fun hp => ?_⟩, fun j hj => ?_⟩
  · obtain ⟨b, off, ea, h4, h5⟩ := h3 hp
    refine ⟨b, off, ea, h4, fun j hj k d hd => ?_⟩
    obtain ⟨cs, hcl, hc, hr, _⟩ := h5 j hj
    obtain ⟨u, hu, hd2⟩ := hr k d hd
    have hk : k < 18 := by
      have := (List.getElem?_eq_some_iff.1 hu).1
      omega
    exact ⟨u, by rw [hc k hk]; exact hu, hd2⟩
  · obtain ⟨b, off, _, _, h5⟩ := h3 (by omega)
    obtain ⟨cs, _, _, _, hw⟩ := h5 j hj
    exact hw
set_option maxRecDepth 100000 in
theorem rd_ev {cs : List Value} (hsz : cs.length = 13) (h : DataW.trod enc Try.prog w base spare held fuel 112 cs = some x) : ∃ r : E, (∀ (k : Nat) (d : Dat), (evDat r)[k]? = some d → ∃ u, cs[k]? = some u ∧ d.reads w u) ∧ r.Fit := by
  obtain ⟨xs, n, _, _, hlen, hxl, hg⟩ := DataW.trod_struct Try.underlying112 h
  have hx : xs.length = 10 := hxl
  match cs, hsz with
  | [c0, c1, c2, c3, c4, c5, c6, c7, c8, c9, c10, c11, c12], _ =>
    obtain ⟨y0, h0⟩ := field_readN hg (i := 0) rfl (by omega) (k := 0) rfl (m := 1) (by kernel_rfl)
    obtain ⟨y1, h1⟩ := field_readN hg (i := 1) rfl (by omega) (k := 1) rfl (m := 1) (by kernel_rfl)
    obtain ⟨y2, h2⟩ := field_readN hg (i := 2) rfl (by omega) (k := 2) rfl (m := 1) (by kernel_rfl)
    obtain ⟨y3, h3⟩ := field_readN hg (i := 3) rfl (by omega) (k := 3) rfl (m := 1) (by kernel_rfl)
    obtain ⟨y4, h4⟩ := field_readN hg (i := 4) rfl (by omega) (k := 4) rfl (m := 4) (by kernel_rfl)
    obtain ⟨y5, h5⟩ := field_readN hg (i := 5) rfl (by omega) (k := 8) rfl (m := 1) (by kernel_rfl)
    obtain ⟨y6, h6⟩ := field_readN hg (i := 6) rfl (by omega) (k := 9) rfl (m := 1) (by kernel_rfl)
    obtain ⟨y7, h7⟩ := field_readN hg (i := 7) rfl (by omega) (k := 10) rfl (m := 1) (by kernel_rfl)
    obtain ⟨y8, h8⟩ := field_readN hg (i := 8) rfl (by omega) (k := 11) rfl (m := 1) (by kernel_rfl)
    obtain ⟨y9, h9⟩ := field_readN hg (i := 9) rfl (by omega) (k := 12) rfl (m := 1) (by kernel_rfl)
    obtain ⟨x0, f0, rfl⟩ := rd_int (c := c0) h0
    obtain ⟨x1, f1, rfl⟩ := rd_int (c := c1) h1
    obtain ⟨x2, f2, rfl⟩ := rd_int (c := c2) h2
    obtain ⟨x3, f3, rfl⟩ := rd_int (c := c3) h3
    obtain ⟨x4, e4, f4⟩ := rd_op (cs := [c4, c5, c6, c7]) rfl h4
    obtain ⟨x4k, x4s, x4w, x4v⟩ := x4
    simp only [opCells, List.cons.injEq, and_true] at e4
    obtain ⟨rfl, rfl, rfl, rfl⟩ := e4
    obtain ⟨x5, f5, rfl⟩ := rd_int (c := c8) h5
    obtain ⟨x6, f6, rfl⟩ := rd_int (c := c9) h6
    obtain ⟨x7, f7, rfl⟩ := rd_int (c := c10) h7
    obtain ⟨x8, f8, rfl⟩ := rd_int (c := c11) h8
    obtain ⟨x9, a9, f9⟩ := rd_rows (c := c12) h9
    refine ⟨⟨x0, x1, x2, x3, ⟨x4k, x4s, x4w, x4v⟩, x5, x6, x7, x8, x9⟩, fun k d hd => ?_, ⟨f4, ⟨f0, f1, f2, f3, f5, f6, f7, f8⟩, f9⟩⟩
    match k, hd with
    | 0, hd => obtain rfl := Option.some.inj hd; exact ⟨_, rfl, rfl⟩
    | 1, hd => obtain rfl := Option.some.inj hd; exact ⟨_, rfl, rfl⟩
    | 2, hd => obtain rfl := Option.some.inj hd; exact ⟨_, rfl, rfl⟩
    | 3, hd => obtain rfl := Option.some.inj hd; exact ⟨_, rfl, rfl⟩
    | 4, hd => obtain rfl := Option.some.inj hd; exact ⟨_, rfl, rfl⟩
    | 5, hd => obtain rfl := Option.some.inj hd; exact ⟨_, rfl, rfl⟩
    | 6, hd => obtain rfl := Option.some.inj hd; exact ⟨_, rfl, rfl⟩
    | 7, hd => obtain rfl := Option.some.inj hd; exact ⟨_, rfl, rfl⟩
    | 8, hd => obtain rfl := Option.some.inj hd; exact ⟨_, rfl, rfl⟩
    | 9, hd => obtain rfl := Option.some.inj hd; exact ⟨_, rfl, rfl⟩
    | 10, hd => obtain rfl := Option.some.inj hd; exact ⟨_, rfl, rfl⟩
    | 11, hd => obtain rfl := Option.some.inj hd; exact ⟨_, rfl, rfl⟩
    | 12, hd => obtain rfl := Option.some.inj hd; exact ⟨_, rfl, rows_reads a9⟩
    | k + 13, hd => exact absurd hd (by simp [evDat])
set_option maxRecDepth 100000 in
theorem rd_evs (h : DataW.trod enc Try.prog w base spare held fuel 55 [c] = some x) : ∃ l : List E, ArgT 13 evDat zeroE w c l ∧ ∀ j, j < l.length → (l.getD j zeroE).Fit := by
  obtain ⟨l, A, cap, rfl, h1, h2, h3⟩ := open_elts (F := 13) Try.underlying55 (by kernel_rfl) (by decide) zeroE (fun cs r => (∀ (k : Nat) (d : Dat), (evDat r)[k]? = some d → ∃ u, cs[k]? = some u ∧ d.reads w u) ∧ r.Fit) (fun fuel cs x hl ht => rd_ev hl ht) h
  refine ⟨l, ⟨A, cap, rfl, h1, h2, fun hp => ?_⟩, fun j hj => ?_⟩
  · obtain ⟨b, off, ea, h4, h5⟩ := h3 hp
    refine ⟨b, off, ea, h4, fun j hj k d hd => ?_⟩
    obtain ⟨cs, hcl, hc, hr, _⟩ := h5 j hj
    obtain ⟨u, hu, hd2⟩ := hr k d hd
    have hk : k < 13 := by
      have := (List.getElem?_eq_some_iff.1 hu).1
      omega
    exact ⟨u, by rw [hc k hk]; exact hu, hd2⟩
  · obtain ⟨b, off, _, _, h5⟩ := h3 (by omega)
    obtain ⟨cs, _, _, _, hw⟩ := h5 j hj
    exact hw
theorem fitS_w {s : S} (h : s.Fit) : FitW s := ⟨fun j hj => (h.jobs j hj).op.key, h.todo, fun j hj => ⟨(h.log j hj).op.key, (h.log j hj).rows.key⟩⟩
set_option maxRecDepth 100000 in
theorem rd_world {cs : List Value} (hsz : cs.length = 6) (h : DataW.trod enc Try.prog w base spare held fuel 57 cs = some x) : ∃ (s : S) (vc vj vt vl : Value), cs = (worVals s vc vj vt vl).toList ∧ WorIn w s vc vj vt vl ∧ s.Fit := by
  obtain ⟨xs, n, _, _, hlen, hxl, hg⟩ := DataW.trod_struct Try.underlying57 h
  have hx : xs.length = 6 := hxl
  match cs, hsz with
  | [c0, c1, c2, c3, c4, c5], _ =>
    obtain ⟨y0, h0⟩ := field_readN hg (i := 0) rfl (by omega) (k := 0) rfl (m := 1) (by kernel_rfl)
    obtain ⟨y1, h1⟩ := field_readN hg (i := 1) rfl (by omega) (k := 1) rfl (m := 1) (by kernel_rfl)
    obtain ⟨y2, h2⟩ := field_readN hg (i := 2) rfl (by omega) (k := 2) rfl (m := 1) (by kernel_rfl)
    obtain ⟨y3, h3⟩ := field_readN hg (i := 3) rfl (by omega) (k := 3) rfl (m := 1) (by kernel_rfl)
    obtain ⟨y4, h4⟩ := field_readN hg (i := 4) rfl (by omega) (k := 4) rfl (m := 1) (by kernel_rfl)
    obtain ⟨y5, h5⟩ := field_readN hg (i := 5) rfl (by omega) (k := 5) rfl (m := 1) (by kernel_rfl)
    obtain ⟨x0, a0, f0⟩ := rd_ints (c := c0) h0
    obtain ⟨x1, a1, f1⟩ := rd_jobs (c := c1) h1
    obtain ⟨x2, a2, f2⟩ := rd_queues (c := c2) h2
    obtain ⟨x3, a3, f3⟩ := rd_evs (c := c3) h3
    obtain ⟨x4, f4, rfl⟩ := rd_int (c := c4) h4
    obtain ⟨x5, f5, rfl⟩ := rd_int (c := c5) h5
    exact ⟨⟨x0, x1, x2, x3, x4, x5⟩, c0, c1, c2, c3, rfl, ⟨a0, a1, a2, a3⟩, ⟨f0, f1, f2, f3, f4, f5⟩⟩
end
section
variable {H : Type} {enc : TypeId × Value → H} {w : World} {base : Nat} {spare : Nat → Bool} {held : Bool} {r : Reach} {b0 : Nat} {v : Value} {d : DataW H} {p : List MemPlace}
set_option maxRecDepth 100000 in
theorem open_op (hv : Value.okWide Try.prog w r b0 23 v) (h : DataW.Trod enc Try.prog w base spare held 23 v d p) : ∃ x : O, v = x.v ∧ x.Fit := by
  obtain ⟨cs, rfl, hsz⟩ := okWide_struct Try.underlying23 hv
  obtain ⟨fuel, hf⟩ := h
  have hC : Try.prog.cellsOf 23 = 4 := by kernel_rfl
  rw [hC] at hsz
  obtain ⟨x, hx, hfit⟩ := rd_op (cs := cs.toList) (by simpa using hsz) hf
  obtain rfl : cs = opCells x := Array.ext' hx
  exact ⟨x, rfl, hfit⟩
set_option maxRecDepth 100000 in
theorem open_world (hv : Value.okWide Try.prog w r b0 57 v) (h : DataW.Trod enc Try.prog w base spare held 57 v d p) : ∃ (s : S) (vc vj vt vl : Value), v = .agg (worVals s vc vj vt vl) ∧ WorIn w s vc vj vt vl ∧ s.Fit := by
  obtain ⟨cs, rfl, hsz⟩ := okWide_struct Try.underlying57 hv
  obtain ⟨fuel, hf⟩ := h
  have hC : Try.prog.cellsOf 57 = 6 := by kernel_rfl
  rw [hC] at hsz
  obtain ⟨s, vc, vj, vt, vl, hx, hin, hfit⟩ := rd_world (cs := cs.toList) (by simpa using hsz) hf
  obtain rfl : cs = worVals s vc vj vt vl := Array.ext' hx
  exact ⟨s, vc, vj, vt, vl, rfl, hin, hfit⟩
end
end Go.Proofs.Ytfemdhknnfmpcaa

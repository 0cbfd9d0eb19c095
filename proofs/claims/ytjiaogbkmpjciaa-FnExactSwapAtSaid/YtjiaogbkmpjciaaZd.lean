/-
  Several small texts of this proof, one behind another: each says ahead of itself what it proves.
-/
import Derived.Test.YtjiaogbkmpjciaaWorZ
import Derived.Test.YtjiaogbkmpjciaaZb
import Derived.Test.YtjiaogbkmpjciaaZa
import Derived.Great.BuildSlice
import Derived.Laws.AppendOwnNone
import Derived.Test.YtjiaogbkmpjciaaZc
/-
  Arguments of chapter 10's laws opened: queues, a job, a world: each reads as some record whose fields fit their types.
-/
namespace Go.Proofs.Ytjiaogbkmpjciaa
open Go.ChangeShapes Go.WideShapes Go.Deep Go.RowKit M
set_option linter.unusedVariables false
section
variable {H : Type} {enc : TypeId × Value → H} {w : World} {base : Nat} {spare : Nat → Bool} {held : Bool} {fuel : Nat} {x : DataW H × List MemPlace} {c : Value}
theorem ints_reads {v : Value} {zs : List Int} (h : IntsArg w v zs) : (Dat.row 3 1 zs.length (zs.map (Value.int .i64))).reads w v := by
  obtain ⟨A, cap, e, h1, h2, h3⟩ := h
  refine ⟨by simp, A, cap, e, h1, h2, fun hp => ?_⟩
  obtain ⟨b, off, ea, h4, h5⟩ := h3 hp
  refine ⟨b, off, ea, h4, fun j hj => ?_⟩
  have hj' : j < zs.length := by omega
  rw [h5 j hj', List.getElem?_map, List.getElem?_eq_getElem hj', List.getD_eq_getElem?_getD, List.getElem?_eq_getElem hj']
  rfl
theorem rows_reads {v : Value} {rs : List R} (h : RowsArg w v rs) : (Dat.row 81 10 rs.length (cellsR rs)).reads w v := by
  obtain ⟨A, cap, e, h1, h2, h3⟩ := h
  refine ⟨cellsR_length rs, A, cap, e, h1, h2, fun hp => ?_⟩
  obtain ⟨b, off, ea, h4, h5⟩ := h3 hp
  refine ⟨b, off, ea, h4, fun j hj => ?_⟩
  have ej : j = j / 10 * 10 + j % 10 := by omega
  have := h5 (j / 10) (by omega) (j % 10) (by omega)
  rw [← cellsR_at rs (j / 10) (j % 10) (by omega) (by omega), ← ej] at this
  rw [← this]
  congr 2
  omega
instance : Inhabited J := ⟨zeroJ⟩
instance : Inhabited E := ⟨zeroE⟩
end
end Go.Proofs.Ytjiaogbkmpjciaa
namespace Go.Proofs.Ytjiaogbkmpjciaa.M
open Go.RowKit
structure J.Fit (r : J) : Prop where
  op : r.op.Fit
  nums : inW r.serial ∧ inW r.pc ∧ inW r.k ∧ inW r.slot ∧ inW r.what ∧ inW r.e ∧ inW r.stamp ∧ inW r.old ∧ inW r.flips ∧ inW r.steps ∧ inW r.code
  keys : Go.Proofs.Ytjiaogbkmpjciaa.Fit r.keys
  raw : Go.Proofs.Ytjiaogbkmpjciaa.Fit r.raw
structure E.Fit (r : E) : Prop where
  op : r.op.Fit
  nums : inW r.kind ∧ inW r.who ∧ inW r.serial ∧ inW r.at_ ∧ inW r.code ∧ inW r.win ∧ inW r.steps ∧ inW r.flips
  rows : FitR r.rows
structure S.Fit (s : S) : Prop where
  cells : Go.Proofs.Ytjiaogbkmpjciaa.Fit s.cells
  jobs : ∀ j, j < s.jobs.length → (s.jobs.getD j zeroJ).Fit
  todo : FitQ s.todo
  log : ∀ j, j < s.log.length → (s.log.getD j zeroE).Fit
  serial : inW s.serial
  now : inW s.now
end Go.Proofs.Ytjiaogbkmpjciaa.M
namespace Go.Proofs.Ytjiaogbkmpjciaa
open Go.ChangeShapes Go.WideShapes Go.Deep Go.RowKit M
set_option linter.unusedVariables false
section
variable {H : Type} {enc : TypeId × Value → H} {w : World} {base : Nat} {spare : Nat → Bool} {held : Bool} {fuel : Nat} {x : DataW H × List MemPlace} {c : Value}
set_option maxRecDepth 100000 in
theorem rd_ev {cs : List Value} (hsz : cs.length = 13) (h : DataW.trod enc Try.prog w base spare held fuel 43 cs = some x) : ∃ r : E, (∀ (k : Nat) (d : Dat), (evDat r)[k]? = some d → ∃ u, cs[k]? = some u ∧ d.reads w u) ∧ r.Fit := by
  obtain ⟨xs, n, _, _, hlen, hxl, hg⟩ := DataW.trod_struct Try.underlying43 h
  have hx : xs.length = 10 := hxl
  match cs, hsz with
  | [c0, c1, c2, c3, c4, c5, c6, c7, c8, c9, c10, c11, c12], _ =>
    obtain ⟨y0, h0⟩ := field_readN hg (i := 0) rfl (by omega) (k := 0) rfl (m := 1) (by kernel_rfl)
    obtain ⟨y1, h1⟩ := field_readN hg (i := 1) rfl (by omega) (k := 1) rfl (m := 1) (by kernel_rfl)
    obtain ⟨y2, h2⟩ := field_readN hg (i := 2) rfl (by omega) (k := 2) rfl (m := 1) (by kernel_rfl)
    obtain ⟨y3, h3⟩ := field_readN hg (i := 3) rfl (by omega) (k := 3) rfl (m := 1) (by kernel_rfl)
    obtain ⟨y4, h4⟩ := field_readN hg (i := 4) rfl (by omega) (k := 4) rfl (m := 4) (by kernel_rfl)
    obtain ⟨y5, h5⟩ := field_readN hg (i := 5) rfl (by omega) (k := 8) rfl (m := 1) (by kernel_rfl)
    obtain ⟨y6, h6⟩ := field_readN hg (i := 6) rfl (by omega) (k := 9) rfl (m := 1) (by kernel_rfl)
    obtain ⟨y7, h7⟩ := field_readN hg (i := 7) rfl (by omega) (k := 10) rfl (m := 1) (by kernel_rfl)
    obtain ⟨y8, h8⟩ := field_readN hg (i := 8) rfl (by omega) (k := 11) rfl (m := 1) (by kernel_rfl)
    obtain ⟨y9, h9⟩ := field_readN hg (i := 9) rfl (by omega) (k := 12) rfl (m := 1) (by kernel_rfl)
    obtain ⟨x0, f0, rfl⟩ := rd_int (c := c0) h0
    obtain ⟨x1, f1, rfl⟩ := rd_int (c := c1) h1
    obtain ⟨x2, f2, rfl⟩ := rd_int (c := c2) h2
    obtain ⟨x3, f3, rfl⟩ := rd_int (c := c3) h3
    obtain ⟨x4, e4, f4⟩ := rd_op (cs := [c4, c5, c6, c7]) rfl h4
    obtain ⟨x4k, x4s, x4w, x4v⟩ := x4
    simp only [opCells, List.cons.injEq, and_true] at e4
    obtain ⟨rfl, rfl, rfl, rfl⟩ := e4
    obtain ⟨x5, f5, rfl⟩ := rd_int (c := c8) h5
    obtain ⟨x6, f6, rfl⟩ := rd_int (c := c9) h6
    obtain ⟨x7, f7, rfl⟩ := rd_int (c := c10) h7
    obtain ⟨x8, f8, rfl⟩ := rd_int (c := c11) h8
    obtain ⟨x9, a9, f9⟩ := rd_rows (c := c12) h9
    refine ⟨⟨x0, x1, x2, x3, ⟨x4k, x4s, x4w, x4v⟩, x5, x6, x7, x8, x9⟩, fun k d hd => ?_, ⟨f4, ⟨f0, f1, f2, f3, f5, f6, f7, f8⟩, f9⟩⟩
    match k, hd with
    | 0, hd => obtain rfl := Option.some.inj hd; exact ⟨_, rfl, rfl⟩
    | 1, hd => obtain rfl := Option.some.inj hd; exact ⟨_, rfl, rfl⟩
    | 2, hd => obtain rfl := Option.some.inj hd; exact ⟨_, rfl, rfl⟩
    | 3, hd => obtain rfl := Option.some.inj hd; exact ⟨_, rfl, rfl⟩
    | 4, hd => obtain rfl := Option.some.inj hd; exact ⟨_, rfl, rfl⟩
    | 5, hd => obtain rfl := Option.some.inj hd; exact ⟨_, rfl, rfl⟩
    | 6, hd => obtain rfl := Option.some.inj hd; exact ⟨_, rfl, rfl⟩
    | 7, hd => obtain rfl := Option.some.inj hd; exact ⟨_, rfl, rfl⟩
    | 8, hd => obtain rfl := Option.some.inj hd; exact ⟨_, rfl, rfl⟩
    | 9, hd => obtain rfl := Option.some.inj hd; exact ⟨_, rfl, rfl⟩
    | 10, hd => obtain rfl := Option.some.inj hd; exact ⟨_, rfl, rfl⟩
    | 11, hd => obtain rfl := Option.some.inj hd; exact ⟨_, rfl, rfl⟩
    | 12, hd => obtain rfl := Option.some.inj hd; exact ⟨_, rfl, rows_reads a9⟩
    | k + 13, hd => exact absurd hd (by simp [evDat])
set_option maxRecDepth 100000 in
theorem rd_evs (h : DataW.trod enc Try.prog w base spare held fuel 22 [c] = some x) : ∃ l : List E, ArgT 13 evDat zeroE w c l ∧ ∀ j, j < l.length → (l.getD j zeroE).Fit := by
  obtain ⟨l, A, cap, rfl, h1, h2, h3⟩ := open_elts (F := 13) Try.underlying22 (by kernel_rfl) (by decide) zeroE (fun cs r => (∀ (k : Nat) (d : Dat), (evDat r)[k]? = some d → ∃ u, cs[k]? = some u ∧ d.reads w u) ∧ r.Fit) (fun fuel cs x hl ht => rd_ev hl ht) h
  refine ⟨l, ⟨A, cap, rfl, h1, h2, fun hp => ?_⟩, fun j hj => ?_⟩
  · obtain ⟨b, off, ea, h4, h5⟩ := h3 hp
    refine ⟨b, off, ea, h4, fun j hj k d hd => ?_⟩
    obtain ⟨cs, hcl, hc, hr, _⟩ := h5 j hj
    obtain ⟨u, hu, hd2⟩ := hr k d hd
    have hk : k < 13 := by
      have := (List.getElem?_eq_some_iff.1 hu).1
      omega
    exact ⟨u, by rw [hc k hk]; exact hu, hd2⟩
  · obtain ⟨b, off, _, _, h5⟩ := h3 (by omega)
    obtain ⟨cs, _, _, _, hw⟩ := h5 j hj
    exact hw
theorem fitS_w {s : S} (h : s.Fit) : FitW s := ⟨fun j hj => (h.jobs j hj).op.key, h.todo, fun j hj => ⟨(h.log j hj).op.key, (h.log j hj).rows.key⟩⟩
end
section
variable {H : Type} {enc : TypeId × Value → H} {w : World} {base : Nat} {spare : Nat → Bool} {held : Bool} {r : Reach} {b0 : Nat} {v : Value} {d : DataW H} {p : List MemPlace}
end
end Go.Proofs.Ytjiaogbkmpjciaa
/-
  Marks in rows of records of which some cells are slices: the middle of such a row, a record at a time; rows of numbers, nil ones among them, marked and looked at.
-/
namespace Go.Proofs.Ytjiaogbkmpjciaa
open Go.RowKit M
set_option linter.unusedVariables false
set_option linter.unusedSimpArgs false
theorem mid_at {β : Type} {D1 L D2 : List β} {o : Nat} (ho : D1.length = o) {i : Nat} (hi : i < L.length) : (D1 ++ (L ++ D2))[o + i]? = L[i]? := by
  rw [List.getElem?_append_right (by omega), ho, Nat.add_sub_cancel_left, List.getElem?_append_left hi]
theorem mid_set {β : Type} {D1 L D2 : List β} {o : Nat} (ho : D1.length = o) {i : Nat} (hi : i < L.length) (x : β) : (D1 ++ (L ++ D2)).set (o + i) x = D1 ++ (L.set i x ++ D2) := by
  rw [List.set_append_right _ _ (by omega), ho, Nat.add_sub_cancel_left, List.set_append_left _ _ hi]
theorem lt_of_some {β : Type} {L : List β} {i : Nat} {x : β} (h : L[i]? = some x) : i < L.length := (List.getElem?_eq_some_iff.1 h).1
section
variable {t : TypeId} {F n : Nat} {w w' : World} {B E g cap o : Nat} {D1 L D2 : List Dat}
theorem OwnX.gin {ds : List Dat} (h : OwnX t F n w B E (.slice (some ⟨g, 0, none⟩) n cap) ds) : B ≤ g ∧ g < E := by
  rcases h.shape with ⟨e, _⟩ | ⟨g', c', e, _, _, h1, h2⟩
  · cases e
  · injection e with e1 _ _
    injection e1 with e1
    injection e1 with e1 _ _
    subst e1
    exact ⟨h1, h2⟩
theorem OwnX.mset (h : OwnX t F n w B E (.slice (some ⟨g, 0, none⟩) n cap) (D1 ++ (L ++ D2))) (ho : D1.length = o) (i : Nat) {x : Value} (hx : L[i]? = some (.val x)) (u : Value) :
    OwnX t F n (w.setCell ⟨g, o + i, none⟩ u) B E (.slice (some ⟨g, 0, none⟩) n cap) (D1 ++ (L.set i (.val u) ++ D2)) ∧ Chg (Within B E) w (w.setCell ⟨g, o + i, none⟩ u) := by
  have hs := h.set (i := o + i) (x := x) (by rw [mid_at ho (lt_of_some hx)]; exact hx) u
  rw [mid_set ho (lt_of_some hx)] at hs
  exact ⟨hs.1, Chg.of_grown hs.2 (fun k hk => by injection hk with hk; subst hk; exact h.gin)⟩
theorem OwnX.mval (h : OwnX t F n w B E (.slice (some ⟨g, 0, none⟩) n cap) (D1 ++ (L ++ D2))) (ho : D1.length = o) (i : Nat) {x : Value} (hx : L[i]? = some (.val x)) (hi : o + i < n * F) : w.cell? ⟨g, o + i, none⟩ = some x :=
  h.val hi (by rw [mid_at ho (lt_of_some hx)]; exact hx)
theorem OwnX.mrow (h : OwnX t F n w B E (.slice (some ⟨g, 0, none⟩) n cap) (D1 ++ (L ++ D2))) (ho : D1.length = o) (i : Nat) {t' : TypeId} {F' n' : Nat} {cs : List Value} (hx : L[i]? = some (.row t' F' n' cs)) (hi : o + i < n * F) :
    ∃ u, w.cell? ⟨g, o + i, none⟩ = some u ∧ w.ownsRow B t' F' u n' cs ∧ ∀ k, u.ownBlock = some k → B ≤ k ∧ k < E := by
  obtain ⟨vs, h1, h2⟩ := h
  have hr : w.ownsRow B t F (.slice (some ⟨g, 0, none⟩) n cap) n vs := h2.1.own _ List.mem_cons_self
  obtain ⟨u, hu, hm⟩ := innerD_row (valsD_len h1) (k := o + i) (by rw [mid_at ho (lt_of_some hx)]; exact hx)
  exact ⟨u, by rw [World.ownsRow.cellAt hr (o + i) hi]; exact hu, h2.1.own _ (List.mem_cons_of_mem _ hm), fun k hk => ⟨h2.1.base_le (List.mem_cons_of_mem _ hm) k hk, h2.2 _ (List.mem_cons_of_mem _ hm) k hk⟩⟩
theorem OwnX.mturn (h : OwnX t F n w B E (.slice (some ⟨g, 0, none⟩) n cap) (D1 ++ (L ++ D2))) (ho : D1.length = o) (i : Nat) {t' : TypeId} {F' n' : Nat} {cs cs' : List Value} {u : Value} (hx : L[i]? = some (.row t' F' n' cs)) (hi : o + i < n * F)
    (hc : w.cell? ⟨g, o + i, none⟩ = some u) (hg : w.grownBy w' u.ownBlock) (hr : w'.ownsRow B t' F' u n' cs') (hk : ∀ k, u.ownBlock = some k → B ≤ k ∧ k < E) : OwnX t F n w' B E (.slice (some ⟨g, 0, none⟩) n cap) (D1 ++ (L.set i (.row t' F' n' cs') ++ D2)) ∧ Chg (Within B E) w w' := by
  have hs := h.turn (w' := w') (i := o + i) (cs' := cs') (by rw [mid_at ho (lt_of_some hx)]; exact hx) ⟨g, cap, rfl, hc⟩ hi hg hr
  rw [mid_set ho (lt_of_some hx)] at hs
  exact ⟨hs, Chg.of_grown hg hk⟩
theorem OwnX.mfrz (h : OwnX t F n w B E (.slice (some ⟨g, 0, none⟩) n cap) (D1 ++ (L ++ D2))) (j : Nat) : w.frozen? ⟨g, j, none⟩ = false := h.frz j
end
theorem chg_below {S : Nat → Prop} {a b c : World} (h : Chg S a b) (hb : Below b.heap.size b c) : Chg S a c := h.trans (Chg.of_below hb)
def MarkedN (w : World) (base : Nat) (v : Value) (k : Int) (n : Nat) (e : Ending) (w' : World) : Prop := e = .returned (.int .i64 (k + n)) ∧ w'.ownsRow base 3 1 v n ((marks k n).map (Value.int .i64)) ∧ w.grownBy w' v.ownBlock
set_option maxRecDepth 100000 in
theorem markIntN_any (w : World) (base : Nat) (v : Value) (zs : List Int) (k : Int) (h : w.ownsRow base 3 1 v zs.length (zs.map (Value.int .i64))) (hl : zs.length ≤ 1048576) (hk0 : 0 ≤ k) (hk1 : k ≤ 1000000000000) :
    Calls Try.prog 25 #[v, .int .i64 k] w (MarkedN w base v k zs.length) := by
  rcases h.2 with ⟨rfl, h0⟩ | ⟨g, cap, cur, rfl, _⟩
  · have hz : zs = [] := List.length_eq_zero_iff.1 h0
    subst hz
    have HO := Lib.hid h
    clear h h0
    go_enter Try.func25, Try.ntmps25
    go_wp2_with fail
    go_loopw [1, 5] (fun c i wr => i = .int .i64 0 ∧ c = .int .i64 k ∧ wr = w) (fun _ i _ => 0)
    case atStart => exact ⟨rfl, rfl, rfl⟩
    case round =>
      obtain ⟨rfl, rfl, rfl⟩ := hrel
      go_wp2_with fail
      go_ret
      exact ⟨ret_i (by simp), HO.out, World.grownBy.refl _ _⟩
  · refine (markIntS_any w base _ zs k ⟨h, g, cap, rfl⟩ hl hk0 hk1).mono ?_
    rintro e w' ⟨rfl, ho, hg⟩
    have h1 := ho.1
    rw [marks_length] at h1
    exact ⟨rfl, h1, hg⟩
set_option maxRecDepth 100000 in
theorem heldIntN_any (w : World) (v : Value) (k : Int) (n : Nat) (h : IntsArg w v (marks k n)) (hk0 : 0 ≤ k) (hk1 : k ≤ 1000000000000) (hl : n ≤ 1048576) :
    Calls Try.prog 26 #[v, .int .i64 k] w (Same w (.int .i64 (k + n))) := by
  have h' := h
  obtain ⟨A, cap, rfl, h1, h2, h3⟩ := h
  by_cases hp : 0 < n
  · obtain ⟨b, off, rfl, h4, h5⟩ := h3 (by rw [marks_length]; exact hp)
    exact heldIntS_any w _ k n ⟨b, off, cap, rfl, h1, h2, h4, h5⟩ hk0 hk1 hl
  · obtain rfl : n = 0 := by omega
    clear h' h1 h2 h3
    go_enter Try.func26, Try.ntmps26
    go_wp2
    go_loop [1, 5] (fun c i => i = .int .i64 0 ∧ c = .int .i64 k) (fun _ i => 0)
    case atStart => exact ⟨rfl, rfl⟩
    case round =>
      obtain ⟨rfl, rfl⟩ := hrel
      go_wp2
      go_ret
      exact ⟨ret_i (by simp), rfl⟩
end Go.Proofs.Ytjiaogbkmpjciaa
/-
  Rows of records of which some cells are slices: an element appended; a whole element stored over another one, some of whose inner rows stay.
-/
namespace Go.Proofs.Ytjiaogbkmpjciaa
open Go.RowKit M
set_option linter.unusedVariables false
set_option linter.unusedSimpArgs false
section
variable {t : TypeId} {F : Nat}
/-- An element with inner rows of its own, appended. -/
theorem pushX {n : Nat} {w w' w2 : World} {B E B' E' : Nat} {v v' : Value} {vs us : List Value} {ds D' : List Dat} (h1 : valsD vs ds) (h2 : HeapE w B E (⟨v, t, F, n, vs⟩ :: innerD vs ds)) (hb : Below w.heap.size w w')
    (hu : valsD us D') (hn : HeapE w' B' E' (innerD us D')) (hE : E ≤ B') (hB : B ≤ B') (hr : w2.ownsRow B t F v' (n + 1) (vs ++ us)) (hg : w'.grownBy w2 v.ownBlock) (hv : v'.ownBlock = v.ownBlock ∨ ∀ k, v'.ownBlock = some k → w'.heap.size ≤ k) :
    OwnX t F (n + 1) w2 B w2.heap.size v' (ds ++ D') := by
  have hj := Heap.join (h2.1.below hb) hn.1 hB (fun r hr b hb => Nat.lt_of_lt_of_le (h2.2 r hr b hb) hE)
  rw [List.cons_append] at hj
  have ht := Heap.turn (A := []) (r' := ⟨v', t, F, n + 1, vs ++ us⟩) hj hg hr hv
  refine ⟨vs ++ us, (valsD_append (valsD_len h1)).2 ⟨h1, hu⟩, ?_⟩
  rw [innerD_append _ _ _ _ (valsD_len h1)]
  exact HeapE.made ht
theorem OwnX.sees {n : Nat} {w : World} {B E : Nat} {v : Value} {ds : List Dat} (h : OwnX t F n w B E v ds) : ∃ vs, valsD vs ds ∧ HeapE w B E (⟨v, t, F, n, vs⟩ :: innerD vs ds) ∧ w.ownsRow B t F v n vs := by
  obtain ⟨vs, h1, h2⟩ := h
  exact ⟨vs, h1, h2, h2.1.own _ List.mem_cons_self⟩
/-- The same slice stored again where it lies. -/
theorem OwnX.again {n : Nat} {w : World} {B E g cap : Nat} {ds : List Dat} (h : OwnX t F n w B E (.slice (some ⟨g, 0, none⟩) n cap) ds) {i : Nat} (hi : i < n * F) {u : Value} (hc : w.cell? ⟨g, i, none⟩ = some u) :
    OwnX t F n (w.setCell ⟨g, i, none⟩ u) B E (.slice (some ⟨g, 0, none⟩) n cap) ds ∧ w.grownBy (w.setCell ⟨g, i, none⟩ u) (some g) := by
  obtain ⟨vs, h1, h2⟩ := h
  have hro : w.ownsRow B t F (.slice (some ⟨g, 0, none⟩) n cap) n vs := h2.1.own _ List.mem_cons_self
  rw [World.ownsRow.cellAt hro i hi] at hc
  have hs := Heap.set (A := []) h2.1 i u
  have e : vs.set i u = vs := by
    obtain ⟨hlt, rfl⟩ := List.getElem?_eq_some_iff.1 hc
    exact List.set_getElem_self hlt
  rw [e] at hs
  exact ⟨⟨vs, h1, hs.1, h2.2⟩, hs.2⟩
/-- A row made later stored over another inner row. -/
theorem OwnX.swap {n : Nat} {w : World} {B E B' E' g cap : Nat} {ds : List Dat} (h : OwnX t F n w B E (.slice (some ⟨g, 0, none⟩) n cap) ds) {i : Nat} {t1 : TypeId} {F1 n1 : Nat} {cs1 : List Value} (hd : ds[i]? = some (.row t1 F1 n1 cs1))
    {t2 : TypeId} {F2 n2 : Nat} {cs2 : List Value} {u : Value} (hn : HeapE w B' E' [⟨u, t2, F2, n2, cs2⟩]) (hE : E ≤ B') (hB : B ≤ B') (hE' : E ≤ E') :
    OwnX t F n (w.setCell ⟨g, i, none⟩ u) B E' (.slice (some ⟨g, 0, none⟩) n cap) (ds.set i (.row t2 F2 n2 cs2)) ∧ w.grownBy (w.setCell ⟨g, i, none⟩ u) (some g) := by
  obtain ⟨vs, h1, h2⟩ := h
  obtain ⟨u1, hu1, _⟩ := innerD_row (valsD_len h1) hd
  obtain ⟨e, hl⟩ := split_at hd
  obtain ⟨e', hl'⟩ := split_at hu1
  have hlen : (vs.take i).length = (ds.take i).length := by rw [hl, hl']
  have hin : innerD vs ds = innerD (vs.take i) (ds.take i) ++ ⟨u1, t1, F1, n1, cs1⟩ :: innerD (vs.drop (i + 1)) (ds.drop (i + 1)) := by
    conv => lhs; rw [e, e', innerD_append _ _ _ _ hlen]
    rfl
  have hin' : innerD (vs.set i u) (ds.set i (.row t2 F2 n2 cs2)) = innerD (vs.take i) (ds.take i) ++ ⟨u, t2, F2, n2, cs2⟩ :: innerD (vs.drop (i + 1)) (ds.drop (i + 1)) := by
    conv => lhs; rw [e, e', set_mid _ _ _ _ _ hl, set_mid _ _ _ _ _ hl', innerD_append _ _ _ _ hlen]
    rfl
  have hs := Heap.set (A := []) h2.1 i u
  have hsub : Heap (w.setCell ⟨g, i, none⟩ u) B (⟨.slice (some ⟨g, 0, none⟩) n cap, t, F, n, vs.set i u⟩ :: (innerD (vs.take i) (ds.take i) ++ innerD (vs.drop (i + 1)) (ds.drop (i + 1)))) := by
    refine Heap.sub hs.1 ?_
    rw [hin]
    exact List.Sublist.cons_cons _ (List.Sublist.append (List.Sublist.refl _) (List.sublist_cons_self _ _))
  have hg : g < E := h2.2 _ List.mem_cons_self g rfl
  have hnew : Heap (w.setCell ⟨g, i, none⟩ u) B' [⟨u, t2, F2, n2, cs2⟩] := hn.1.grown hs.2 (fun r hr => by
    cases e : r.v.ownBlock with
    | none => exact .inl rfl
    | some k => exact .inr (by rw [← e]; intro hk; rw [e] at hk; injection hk with hk; have := hn.1.base_le hr k e; omega))
  have hlt : ∀ r ∈ (⟨.slice (some ⟨g, 0, none⟩) n cap, t, F, n, vs.set i u⟩ : Rw) :: (innerD (vs.take i) (ds.take i) ++ innerD (vs.drop (i + 1)) (ds.drop (i + 1))), ∀ b, r.v.ownBlock = some b → b < E := by
    intro r hr b hb
    rcases List.mem_cons.1 hr with rfl | h3
    · exact h2.2 _ List.mem_cons_self b hb
    · refine h2.2 r (List.mem_cons_of_mem _ ?_) b hb
      rw [hin]
      rcases List.mem_append.1 h3 with h4 | h4
      · exact List.mem_append_left _ h4
      · exact List.mem_append_right _ (List.mem_cons_of_mem _ h4)
  have hj := hsub.join hnew hB (fun r hr b hb => Nat.lt_of_lt_of_le (hlt r hr b hb) hE)
  refine ⟨⟨vs.set i u, ?_, ?_⟩, hs.2⟩
  · conv at h1 => rw [e, e']
    rw [valsD_append hlen] at h1
    rw [e, e', set_mid _ _ _ _ _ hl, set_mid _ _ _ _ _ hl', valsD_append hlen]
    exact ⟨h1.1, h1.2⟩
  · rw [hin']
    refine ⟨hj.perm ?_, fun r hr k hk => ?_⟩
    · rw [List.cons_append, List.append_assoc]
      refine List.Perm.cons _ ?_
      exact List.Perm.append_left _ List.perm_append_comm
    · rcases List.mem_cons.1 hr with rfl | h3
      · have := hlt _ List.mem_cons_self k hk; omega
      · rcases List.mem_append.1 h3 with h4 | h4
        · have := hlt r (List.mem_cons_of_mem _ (List.mem_append_left _ h4)) k hk; omega
        · rcases List.mem_cons.1 h4 with rfl | h5
          · exact hn.2 _ (List.mem_singleton.2 rfl) k hk
          · have := hlt r (List.mem_cons_of_mem _ (List.mem_append_right _ h5)) k hk; omega
end
end Go.Proofs.Ytjiaogbkmpjciaa
/-
  A slice literal of one record: its cells in a new block, never reckoned cell by cell. And 'append(s, x...)' of an own row, nil too.
-/
namespace Go.Proofs.Ytjiaogbkmpjciaa
open Go.RowKit M
set_option linter.unusedVariables false
set_option linter.unusedSimpArgs false
theorem fold_cells (vs : List Value) : ∀ (k : Nat) (ini : Array Value), k + vs.length = ini.size → (vs.zipIdx k).foldl (fun (cs : Array Value) (p : Value × Nat) => cs.setIfInBounds p.2 p.1) ini = (ini.toList.take k ++ vs).toArray := by
  induction vs with
  | nil =>
    intro k ini h
    simp only [List.length_nil, Nat.add_zero] at h
    subst h
    apply Array.ext'
    simp [List.take_of_length_le, Array.length_toList]
  | cons v vs ih =>
    intro k ini h
    rw [List.length_cons] at h
    rw [List.zipIdx_cons, List.foldl_cons, ih (k + 1) _ (by rw [Array.size_setIfInBounds]; omega)]
    congr 1
    rw [Array.toList_setIfInBounds, List.take_add_one, List.take_set_of_le (Nat.le_refl k), List.getElem?_set_self (by rw [Array.length_toList]; omega), List.append_assoc]
    rfl
theorem fill_one (cells ini : Array Value) (size : Nat) (h : cells.size = size) (hi : ini.size = size) : Instr.fill (fun i => some (i * size, size)) ini [(0, .agg cells)] = some cells := by
  have e : (Value.agg cells).cells = cells := rfl
  unfold Instr.fill
  simp only [e, h, hi, Nat.zero_mul, Nat.zero_add, ne_eq, not_true_eq_false, gt_iff_lt, Nat.lt_irrefl, false_or, decide_false, Bool.false_eq_true, if_false, or_self, Bool.or_false, Bool.or_self]
  unfold Instr.fill
  congr 1
  rw [← Array.foldl_toList, Array.toList_zipIdx]
  have := fold_cells cells.toList 0 ini (by rw [Nat.zero_add, Array.length_toList, h, hi])
  simp only [List.take_zero, List.nil_append, Array.toArray_toList] at this
  exact this
/-- As the walk leaves a literal of one record. -/
theorem fold_rec (cells ini : Array Value) (n : Nat) (h : cells.size = n) (hi : ini.size = n) : Array.foldl (fun (cs : Array Value) (x : Value × Nat) => cs.setIfInBounds x.snd x.fst) ini cells.zipIdx 0 n = cells := by
  subst h
  have e : cells.size = cells.zipIdx.size := by simp
  rw [show Array.foldl (fun (cs : Array Value) (x : Value × Nat) => cs.setIfInBounds x.snd x.fst) ini cells.zipIdx 0 cells.size = Array.foldl (fun (cs : Array Value) (x : Value × Nat) => cs.setIfInBounds x.snd x.fst) ini cells.zipIdx 0 cells.zipIdx.size by rw [← e]]
  rw [← Array.foldl_toList, Array.toList_zipIdx]
  have := fold_cells cells.toList 0 ini (by rw [Nat.zero_add, Array.length_toList, hi])
  simp only [List.take_zero, List.nil_append, Array.toArray_toList] at this
  exact this
/-- THE LITERAL. -/
theorem wpList_buildRow1 {P : Program} {w : World} {ops : Array Oper} {rest : List Oper} {o : Oper} {a : Act} {Q : Exit → Act → World → Prop} (hg : o.guard = none) (t e : TypeId) (x : Operand) (ho : o.op = .buildSlice t 1 #[(0, x)])
    (cells : Array Value) (hx : a.eval x = .agg cells) (ie : TypeInfo) (z : Value) (hu : P.underlying t = some (.slice e)) (hie : P.info? e = some ie) (hz : ie.zero = some z) (hsz : ie.size = cells.size) (h0 : 0 < cells.size) (hs : cells.size ≤ 1000)
    (h : wpList P ops Q rest (a.put o.dst (.slice (some ⟨w.heap.size, 0, none⟩) 1 1)) (w.alloc (.cells cells e))) : wpList P ops Q (o :: rest) a w := by
  refine wpList_buildSlice hg t e 1 _ ho cells ie z hu hie hz (by rw [hsz]; omega) (by rw [hsz]; omega) ?_ h
  have e1 : ((#[(0, x)] : Array (Nat × Operand)).map fun (i, x) => (i, a.eval x)).toList = [(0, a.eval x)] := by simp
  rw [e1, hx]
  exact fill_one cells _ ie.size hsz.symm (by simp)
/-- 'append(s, x...)' where s is own and empty and x is own, nil too: a new row of the same cells. -/
theorem wpList_append_all {P : Program} {w : World} {ops : Array Oper} {rest : List Oper} {o : Oper} {a : Act} {Q : Exit → Act → World → Prop} (hgd : o.guard = none) (s x : Operand) (t : TypeId)
    (ho : o.op = .call { callee := .builtin .append, args := #[s, x], argTypes := #[t, t] })
    (base : Nat) (e : TypeId) (i : TypeInfo) (z : Value) (size bytes : Nat) (ht : P.underlying t = some (.slice e)) (hi : P.info? e = some i) (hz : i.zero = some z)
    (hsize : i.size = size) (hby : i.bytes = bytes) (hzs : z.cells.size = size) (hsz : 0 < size)
    (v : Value) (hs : a.eval s = v) (hown : w.ownsRow base e size v 0 []) (B m : Nat) (vx : Value) (cs : List Value) (hx : a.eval x = vx) (hvx : w.ownsRow B e size vx m cs)
    (h1 : ∀ u ∈ cs, u.oneCell' = true) (h63 : m ≤ maxLen) (hbytes : m * bytes ≤ 140737488355328) (hbase : base ≤ w.heap.size)
    (h : ∀ v' w', w'.ownsRow base e size v' m cs → w.grownBy w' v.ownBlock → wpList P ops Q rest (a.put o.dst v') w') : wpList P ops Q (o :: rest) a w := by
  have hvx' := hvx
  rcases hvx.2 with ⟨ev, h0⟩ | ⟨g, cap, cur, ev, _, _, hn0, hm0, _, _⟩
  · subst h0
    obtain rfl : cs = [] := List.length_eq_zero_iff.1 (by have := hvx.1; omega)
    rw [ev] at hx
    exact wpList_append_own_none hgd s x t ho base e i size ht hi v 0 [] hs hown hx (h v w hown (World.grownBy.refl w _))
  · rw [ev] at hx
    refine wpList_append_own w hgd s x t ho base e i z size bytes ht hi hz hsize hby hzs hsz v 0 [] hs hown ⟨g, 0, none⟩ m cap cs hx hvx.1 ?_ h1 (by rw [Nat.zero_add]; exact h63) (by rw [Nat.zero_add]; exact hbytes) hbase ?_
    · intro j u hj
      have hin : j < m * size := by
        have := (List.getElem?_eq_some_iff.1 hj).1
        rwa [hvx.1] at this
      rw [Addr.add_lit, Nat.zero_add]
      subst ev
      exact (World.ownsRow.cellAt hvx' j hin).trans hj
    · intro v' w' h2 h3 _
      exact h v' w' (by simpa using h2) h3
end Go.Proofs.Ytjiaogbkmpjciaa
/-
  Chapter 10, the model's copy of a log: each event with rows of its own.
-/
namespace Go.Proofs.Ytjiaogbkmpjciaa
open Go.RowKit M
set_option linter.unusedVariables false
set_option linter.unusedSimpArgs false
/-- An event of an own log. -/
theorem ownEv_at {w : World} {B X : Nat} {v : Value} {l : List E} (h : OwnY 47 13 evDat w B X v l) (j : Nat) (hj : j < l.length) :
    ∃ b cap vrows, v = .slice (some ⟨b, 0, none⟩) l.length cap ∧ b < w.heap.size ∧ w.rangeAt b (j * 13) (evVals (l.getD j zeroE) vrows).toList ∧ w.ownsRow B 81 10 vrows (l.getD j zeroE).rows.length (cellsR (l.getD j zeroE).rows) := by
  rcases OwnX.shape h with ⟨_, h0⟩ | ⟨g, cap, rfl, _⟩
  · omega
  · obtain ⟨A, cap', e, _, _, h3⟩ := OwnY.arg h evDat_len evDat_wf zeroE
    injection e with e1 e2 e3
    obtain ⟨b, off, ea, hb, hc⟩ := h3 (by omega)
    rw [ea] at e1
    injection e1 with e1
    injection e1 with e4 e5 e6
    subst e4
    subst e5
    obtain ⟨vrows, hr, _⟩ := ev_at (hc j hj)
    rw [Nat.zero_add] at hr
    refine ⟨g, cap, vrows, rfl, hb, hr, ?_⟩
    have hd : (datL evDat l)[j * 13 + 12]? = some (.row 81 10 (l.getD j zeroE).rows.length (cellsR (l.getD j zeroE).rows)) := by
      rw [datL_at evDat_len zeroE l j 12 hj (by decide)]; rfl
    obtain ⟨u, hu, ho⟩ := OwnX.row h (i := j * 13 + 12) (by omega) hd
    have := hr 12 vrows rfl
    rw [this] at hu
    injection hu with hu
    subst hu
    exact ho
theorem ev_one (r : E) (A : Option Addr) (n cap : Nat) : (evVals r (.slice A n cap)).all (·.oneCell') = true := by
  simp [evVals, Value.oneCell']
end Go.Proofs.Ytjiaogbkmpjciaa
/-
  Chapter 12: how many events are of a kind: the model's Among and the program's.
-/
namespace Go.Proofs.Ytjiaogbkmpjciaa
open Go.RowKit M
set_option linter.unusedVariables false
set_option linter.unusedSimpArgs false
theorem among_snoc (l : List M.E) (k : Int) (j : Nat) (hj : j < l.length) : (amongV (l.take (j + 1)) k : Int) = (amongV (l.take j) k : Int) + (if (l.getD j zeroE).kind = k then 1 else 0) := by
  unfold amongV
  rw [List.take_add_one, List.getElem?_eq_getElem hj, List.getD_eq_getElem?_getD, List.getElem?_eq_getElem hj, List.filter_append, List.length_append]
  simp only [Option.toList, Option.getD_some, List.filter_cons, List.filter_nil]
  split
  · rename_i h
    rw [if_pos (by simpa using h)]
    simp
  · rename_i h
    rw [if_neg (by simpa using h)]
    simp
theorem among_le (l : List M.E) (k : Int) (j : Nat) : amongV (l.take j) k ≤ j := by
  unfold amongV
  have := List.length_filter_le (fun e : M.E => decide (e.kind = k)) (l.take j)
  rw [List.length_take] at this
  omega
/-- An event that is read. -/
theorem argEv_at {w : World} {v : Value} {l : List M.E} (h : ArgT 13 evDat zeroE w v l) (j : Nat) (hj : j < l.length) :
    ∃ b off cap vrows, v = .slice (some ⟨b, off, none⟩) l.length cap ∧ l.length ≤ cap ∧ cap ≤ maxLen ∧ b < w.heap.size ∧ w.rangeAt b (off + j * 13) (evVals (l.getD j zeroE) vrows).toList ∧ evIn w (l.getD j zeroE) vrows := by
  obtain ⟨A, cap, rfl, h1, h2, h3⟩ := h
  obtain ⟨b, off, rfl, hb, hc⟩ := h3 (by omega)
  obtain ⟨vrows, hr, hi⟩ := ev_at (hc j hj)
  exact ⟨b, off, cap, vrows, rfl, h1, h2, hb, hr, hi⟩
end Go.Proofs.Ytjiaogbkmpjciaa
/-
  Own rows whose blocks lie in any set of blocks (not in a stretch): the same words as HeapE and OwnX. A row that grows may move behind all others: its set takes in the new block.
-/
namespace Go.Proofs.Ytjiaogbkmpjciaa
open Go.RowKit M
set_option linter.unusedVariables false
set_option linter.unusedSimpArgs false
/-- A heap of own rows whose blocks lie in S. -/
def HeapS (w : World) (S : Nat → Prop) (L : List Rw) : Prop := Heap w 0 L ∧ ∀ r ∈ L, ∀ k, r.v.ownBlock = some k → S k
theorem HeapS.of {w : World} {B E : Nat} {L : List Rw} (h : HeapE w B E L) : HeapS w (Within B E) L := ⟨h.1.base (Nat.zero_le _), fun r hr k hk => ⟨h.1.base_le hr k hk, h.2 r hr k hk⟩⟩
theorem HeapS.mono {w : World} {S S' : Nat → Prop} {L : List Rw} (h : HeapS w S L) (hs : ∀ k, S k → S' k) : HeapS w S' L := ⟨h.1, fun r hr k hk => hs k (h.2 r hr k hk)⟩
theorem HeapS.below {w w' : World} {S : Nat → Prop} {L : List Rw} (h : HeapS w S L) (hb : Below w.heap.size w w') : HeapS w' S L := ⟨h.1.below hb, h.2⟩
/-- Only blocks outside of S were changed. -/
theorem HeapS.chg {w w' : World} {S S' : Nat → Prop} {L : List Rw} (h : HeapS w S L) (hc : Chg S' w w') (hd : ∀ k, S k → ¬ S' k) : HeapS w' S L := ⟨h.1.chg hc (fun r hr k hk => hd k (h.2 r hr k hk)), h.2⟩
theorem HeapS.lt {w : World} {S : Nat → Prop} {L : List Rw} (h : HeapS w S L) : HeapS w (fun k => S k ∧ k < w.heap.size) L := ⟨h.1, fun r hr k hk => ⟨h.2 r hr k hk, h.1.lt hr k hk⟩⟩
/-- Two heaps in two sets that do not meet. -/
theorem HeapS.join {w : World} {S S' : Nat → Prop} {L M : List Rw} (h : HeapS w S L) (k : HeapS w S' M) (hd : ∀ i, S i → ¬ S' i) : HeapS w (fun i => S i ∨ S' i) (L ++ M) := by
  refine ⟨⟨fun r hr => ?_, List.pairwise_append.2 ⟨h.1.ap, k.1.ap, fun a ha b hb => ?_⟩⟩, fun r hr i hi => ?_⟩
  · rcases List.mem_append.1 hr with h1 | h1
    · exact h.1.own r h1
    · exact k.1.own r h1
  · have key : ∀ (x y : Rw), x ∈ L → y ∈ M → x.v.ownBlock = none ∨ x.v.ownBlock ≠ y.v.ownBlock := by
      intro x y hx hy
      cases e : x.v.ownBlock with
      | none => exact .inl rfl
      | some i => exact .inr (fun e2 => hd i (h.2 x hx i e) (k.2 y hy i (e2.symm)))
    have key2 : ∀ (x y : Rw), x ∈ L → y ∈ M → y.v.ownBlock = none ∨ y.v.ownBlock ≠ x.v.ownBlock := by
      intro x y hx hy
      cases e : y.v.ownBlock with
      | none => exact .inl rfl
      | some i => exact .inr (fun e2 => hd i (h.2 x hx i (e2.symm)) (k.2 y hy i e))
    exact ⟨key a b ha hb, key2 a b ha hb⟩
  · rcases List.mem_append.1 hr with h1 | h1
    · exact .inl (h.2 r h1 i hi)
    · exact .inr (k.2 r h1 i hi)
section
variable {t : TypeId} {F : Nat}
def OwnS (t : TypeId) (F n : Nat) (w : World) (S : Nat → Prop) (v : Value) (ds : List Dat) : Prop :=
  ∃ vs, valsD vs ds ∧ HeapS w S (⟨v, t, F, n, vs⟩ :: innerD vs ds)
theorem OwnS.of {n : Nat} {w : World} {B E : Nat} {v : Value} {ds : List Dat} (h : OwnX t F n w B E v ds) : OwnS t F n w (Within B E) v ds := by
  obtain ⟨vs, h1, h2⟩ := h; exact ⟨vs, h1, HeapS.of h2⟩
theorem OwnS.x {n : Nat} {w : World} {S : Nat → Prop} {v : Value} {ds : List Dat} (h : OwnS t F n w S v ds) : OwnX t F n w 0 w.heap.size v ds := by
  obtain ⟨vs, h1, h2⟩ := h; exact ⟨vs, h1, HeapE.made h2.1⟩
theorem OwnS.mono {n : Nat} {w : World} {S S' : Nat → Prop} {v : Value} {ds : List Dat} (h : OwnS t F n w S v ds) (hs : ∀ k, S k → S' k) : OwnS t F n w S' v ds := by
  obtain ⟨vs, h1, h2⟩ := h; exact ⟨vs, h1, h2.mono hs⟩
theorem OwnS.below {n : Nat} {w w' : World} {S : Nat → Prop} {v : Value} {ds : List Dat} (h : OwnS t F n w S v ds) (hb : Below w.heap.size w w') : OwnS t F n w' S v ds := by
  obtain ⟨vs, h1, h2⟩ := h; exact ⟨vs, h1, h2.below hb⟩
theorem OwnS.chg {n : Nat} {w w' : World} {S S' : Nat → Prop} {v : Value} {ds : List Dat} (h : OwnS t F n w S v ds) (hc : Chg S' w w') (hd : ∀ k, S k → ¬ S' k) : OwnS t F n w' S v ds := by
  obtain ⟨vs, h1, h2⟩ := h; exact ⟨vs, h1, h2.chg hc hd⟩
theorem OwnS.blk {n : Nat} {w : World} {S : Nat → Prop} {g cap : Nat} {ds : List Dat} (h : OwnS t F n w S (.slice (some ⟨g, 0, none⟩) n cap) ds) : S g := by
  obtain ⟨vs, h1, h2⟩ := h; exact h2.2 _ List.mem_cons_self g rfl
/-- A store into a cell that holds no row. -/
theorem OwnS.set {n : Nat} {w : World} {S : Nat → Prop} {g cap : Nat} {ds : List Dat} (h : OwnS t F n w S (.slice (some ⟨g, 0, none⟩) n cap) ds) {i : Nat} {x : Value} (hd : ds[i]? = some (.val x)) (u : Value) :
    OwnS t F n (w.setCell ⟨g, i, none⟩ u) S (.slice (some ⟨g, 0, none⟩) n cap) (ds.set i (.val u)) ∧ Chg S w (w.setCell ⟨g, i, none⟩ u) := by
  have hS := h.blk
  obtain ⟨vs, h1, h2⟩ := h
  have hs := Heap.set (A := []) h2.1 i u
  refine ⟨⟨vs.set i u, ?_, ?_⟩, Chg.of_grown hs.2 (fun k hk => by injection hk with hk; subst hk; exact hS)⟩
  · obtain ⟨e, hl⟩ := split_at hd
    obtain ⟨e', hl'⟩ := split_at (valsD_val h1 hd)
    rw [e, e', valsD_append (by rw [hl, hl'])] at h1
    rw [e, e', set_mid _ _ _ _ _ hl, set_mid _ _ _ _ _ hl', valsD_append (by rw [hl, hl'])]
    exact ⟨h1.1, rfl, h1.2.2⟩
  · have hin : innerD (vs.set i u) (ds.set i (.val u)) = innerD vs ds := by
      obtain ⟨e, hl⟩ := split_at hd
      obtain ⟨e', hl'⟩ := split_at (valsD_val h1 hd)
      conv => lhs; rw [e, e', set_mid _ _ _ _ _ hl, set_mid _ _ _ _ _ hl', innerD_append _ _ _ _ (by rw [hl, hl'])]
      conv => rhs; rw [e, e', innerD_append _ _ _ _ (by rw [hl, hl'])]
      rfl
    rw [hin]
    refine ⟨hs.1, fun r hr k hk => ?_⟩
    rcases List.mem_cons.1 hr with rfl | h3
    · exact h2.2 _ List.mem_cons_self k hk
    · exact h2.2 _ (List.mem_cons_of_mem _ h3) k hk
/-- The same slice stored again where it lies. -/
theorem OwnS.again {n : Nat} {w : World} {S : Nat → Prop} {g cap : Nat} {ds : List Dat} (h : OwnS t F n w S (.slice (some ⟨g, 0, none⟩) n cap) ds) {i : Nat} (hi : i < n * F) {u : Value} (hc : w.cell? ⟨g, i, none⟩ = some u) :
    OwnS t F n (w.setCell ⟨g, i, none⟩ u) S (.slice (some ⟨g, 0, none⟩) n cap) ds ∧ Chg S w (w.setCell ⟨g, i, none⟩ u) := by
  have hS := h.blk
  obtain ⟨vs, h1, h2⟩ := h
  have hro : w.ownsRow 0 t F (.slice (some ⟨g, 0, none⟩) n cap) n vs := h2.1.own _ List.mem_cons_self
  rw [World.ownsRow.cellAt hro i hi] at hc
  have hs := Heap.set (A := []) h2.1 i u
  have e : vs.set i u = vs := by
    obtain ⟨hlt, rfl⟩ := List.getElem?_eq_some_iff.1 hc
    exact List.set_getElem_self hlt
  rw [e] at hs
  exact ⟨⟨vs, h1, hs.1, h2.2⟩, Chg.of_grown hs.2 (fun k hk => by injection hk with hk; subst hk; exact hS)⟩
/-- Another own row stored over an inner row. -/
theorem OwnS.swap {n : Nat} {w : World} {S S' : Nat → Prop} {g cap : Nat} {ds : List Dat} (h : OwnS t F n w S (.slice (some ⟨g, 0, none⟩) n cap) ds) {i : Nat} {t1 : TypeId} {F1 n1 : Nat} {cs1 : List Value} (hd : ds[i]? = some (.row t1 F1 n1 cs1))
    {t2 : TypeId} {F2 n2 : Nat} {cs2 : List Value} {u : Value} (hn : HeapS w S' [⟨u, t2, F2, n2, cs2⟩]) (hdis : ∀ k, S k → ¬ S' k) :
    OwnS t F n (w.setCell ⟨g, i, none⟩ u) (fun k => S k ∨ S' k) (.slice (some ⟨g, 0, none⟩) n cap) (ds.set i (.row t2 F2 n2 cs2)) ∧ Chg S w (w.setCell ⟨g, i, none⟩ u) := by
  have hS := h.blk
  obtain ⟨vs, h1, h2⟩ := h
  obtain ⟨u1, hu1, _⟩ := innerD_row (valsD_len h1) hd
  obtain ⟨e, hl⟩ := split_at hd
  obtain ⟨e', hl'⟩ := split_at hu1
  have hlen : (vs.take i).length = (ds.take i).length := by rw [hl, hl']
  have hin : innerD vs ds = innerD (vs.take i) (ds.take i) ++ ⟨u1, t1, F1, n1, cs1⟩ :: innerD (vs.drop (i + 1)) (ds.drop (i + 1)) := by
    conv => lhs; rw [e, e', innerD_append _ _ _ _ hlen]
    rfl
  have hin' : innerD (vs.set i u) (ds.set i (.row t2 F2 n2 cs2)) = innerD (vs.take i) (ds.take i) ++ ⟨u, t2, F2, n2, cs2⟩ :: innerD (vs.drop (i + 1)) (ds.drop (i + 1)) := by
    conv => lhs; rw [e, e', set_mid _ _ _ _ _ hl, set_mid _ _ _ _ _ hl', innerD_append _ _ _ _ hlen]
    rfl
  have hs := Heap.set (A := []) h2.1 i u
  have hc : Chg S w (w.setCell ⟨g, i, none⟩ u) := Chg.of_grown hs.2 (fun k hk => by injection hk with hk; subst hk; exact hS)
  have hsub : HeapS (w.setCell ⟨g, i, none⟩ u) S (⟨.slice (some ⟨g, 0, none⟩) n cap, t, F, n, vs.set i u⟩ :: (innerD (vs.take i) (ds.take i) ++ innerD (vs.drop (i + 1)) (ds.drop (i + 1)))) := by
    refine ⟨Heap.sub hs.1 ?_, fun r hr b hb => ?_⟩
    · rw [hin]
      exact List.Sublist.cons_cons _ (List.Sublist.append (List.Sublist.refl _) (List.sublist_cons_self _ _))
    · rcases List.mem_cons.1 hr with rfl | h3
      · exact h2.2 _ List.mem_cons_self b hb
      · refine h2.2 r (List.mem_cons_of_mem _ ?_) b hb
        rw [hin]
        rcases List.mem_append.1 h3 with h4 | h4
        · exact List.mem_append_left _ h4
        · exact List.mem_append_right _ (List.mem_cons_of_mem _ h4)
  have hj := hsub.join (hn.chg hc (fun k h' hk => hdis k hk h')) hdis
  refine ⟨⟨vs.set i u, ?_, ?_⟩, hc⟩
  · conv at h1 => rw [e, e']
    rw [valsD_append hlen] at h1
    rw [e, e', set_mid _ _ _ _ _ hl, set_mid _ _ _ _ _ hl', valsD_append hlen]
    exact ⟨h1.1, h1.2⟩
  · rw [hin']
    have hp : List.Perm (⟨.slice (some ⟨g, 0, none⟩) n cap, t, F, n, vs.set i u⟩ :: (innerD (vs.take i) (ds.take i) ++ innerD (vs.drop (i + 1)) (ds.drop (i + 1))) ++ [⟨u, t2, F2, n2, cs2⟩]) ((⟨.slice (some ⟨g, 0, none⟩) n cap, t, F, n, vs.set i u⟩ : Rw) :: (innerD (vs.take i) (ds.take i) ++ ⟨u, t2, F2, n2, cs2⟩ :: innerD (vs.drop (i + 1)) (ds.drop (i + 1)))) := by
      rw [List.cons_append, List.append_assoc]
      exact List.Perm.cons _ (List.Perm.append_left _ List.perm_append_comm)
    exact ⟨hj.1.perm hp, fun r hr k hk => hj.2 r (hp.symm.subset hr) k hk⟩
/-- An element with inner rows of its own, appended. -/
theorem OwnS.push {n : Nat} {w' w2 : World} {S S' : Nat → Prop} {v v' : Value} {us vs : List Value} {ds D' : List Dat} (h1 : valsD vs ds) (h2 : HeapS w' S (⟨v, t, F, n, vs⟩ :: innerD vs ds))
    (hu : valsD us D') (hn : HeapS w' S' (innerD us D')) (hdis : ∀ k, S k → ¬ S' k) (hr : w2.ownsRow 0 t F v' (n + 1) (vs ++ us)) (hg : w'.grownBy w2 v.ownBlock) (hv : v'.ownBlock = v.ownBlock ∨ ∀ k, v'.ownBlock = some k → w'.heap.size ≤ k) :
    OwnS t F (n + 1) w2 (fun k => (S k ∨ S' k) ∨ w'.heap.size ≤ k) v' (ds ++ D') ∧ Chg S w' w2 := by
  have hj := h2.join hn hdis
  rw [List.cons_append] at hj
  have ht := Heap.turn (A := []) (r' := ⟨v', t, F, n + 1, vs ++ us⟩) hj.1 hg hr hv
  refine ⟨⟨vs ++ us, (valsD_append (valsD_len h1)).2 ⟨h1, hu⟩, ?_⟩, Chg.of_grown hg (fun k hk => h2.2 _ List.mem_cons_self k hk)⟩
  rw [innerD_append _ _ _ _ (valsD_len h1)]
  refine ⟨ht, fun r hr' k hk => ?_⟩
  rcases List.mem_cons.1 hr' with rfl | h3
  · rcases hv with e | e
    · exact .inl (hj.2 _ List.mem_cons_self k (by rw [← e]; exact hk))
    · exact .inr (e k hk)
  · exact .inl (hj.2 r (List.mem_cons_of_mem _ h3) k hk)
end
end Go.Proofs.Ytjiaogbkmpjciaa
/-
  A slice that reads as so many cells, wherever in its block it begins (a queue whose head was cut off is no row of its own any more); the model's copy of queues that are such.
-/
namespace Go.Proofs.Ytjiaogbkmpjciaa
open Go.RowKit M
set_option linter.unusedVariables false
set_option linter.unusedSimpArgs false
/-- The slice u holds n elements whose cells are cs, in a block of S. -/
def Rd (w : World) (S : Nat → Prop) (u : Value) (n : Nat) (cs : List Value) : Prop :=
  (u = .slice none 0 0 ∧ n = 0 ∧ cs = []) ∨ ∃ b off cap, u = .slice (some ⟨b, off, none⟩) n cap ∧ n ≤ cap ∧ cap ≤ maxLen ∧ S b ∧ b < w.heap.size ∧ ∀ k, k < cs.length → w.cell? ⟨b, off + k, none⟩ = cs[k]?
theorem Rd.below {w w' : World} {S : Nat → Prop} {u : Value} {n : Nat} {cs : List Value} (h : Rd w S u n cs) (hb : Below w.heap.size w w') : Rd w' S u n cs := by
  rcases h with h | ⟨b, off, cap, e, h1, h2, h3, h4, h5⟩
  · exact .inl h
  · exact .inr ⟨b, off, cap, e, h1, h2, h3, Nat.lt_of_lt_of_le h4 hb.size, fun k hk => (hb.cell (p := ⟨b, off + k, none⟩) h4).trans (h5 k hk)⟩
theorem Rd.mono {w : World} {S S' : Nat → Prop} {u : Value} {n : Nat} {cs : List Value} (h : Rd w S u n cs) (hs : ∀ k, S k → S' k) : Rd w S' u n cs := by
  rcases h with h | ⟨b, off, cap, e, h1, h2, h3, h4, h5⟩
  · exact .inl h
  · exact .inr ⟨b, off, cap, e, h1, h2, hs b h3, h4, h5⟩
theorem cell_chg {w w' : World} {S : Nat → Prop} {b o : Nat} (hc : Chg S w w') (hb : b < w.heap.size) (hn : ¬ S b) : w'.cell? ⟨b, o, none⟩ = w.cell? ⟨b, o, none⟩ := by
  unfold World.cell?
  simp only [hc.block b hb hn]
theorem Rd.chg {w w' : World} {S S' : Nat → Prop} {u : Value} {n : Nat} {cs : List Value} (h : Rd w S u n cs) (hc : Chg S' w w') (hd : ∀ k, S k → ¬ S' k) : Rd w' S u n cs := by
  rcases h with h | ⟨b, off, cap, e, h1, h2, h3, h4, h5⟩
  · exact .inl h
  · exact .inr ⟨b, off, cap, e, h1, h2, h3, Nat.lt_of_lt_of_le h4 hc.size, fun k hk => (cell_chg hc h4 (hd b h3)).trans (h5 k hk)⟩
theorem Rd.of {w : World} {S : Nat → Prop} {base : Nat} {t : TypeId} {F : Nat} {u : Value} {n : Nat} {cs : List Value} (h : w.ownsRow base t F u n cs) (hS : ∀ k, u.ownBlock = some k → S k) : Rd w S u n cs := by
  have h' := h
  rcases h.2 with ⟨e, h0⟩ | ⟨g, cap, cur, e, _, hg, hn, hm, _, _⟩
  · exact .inl ⟨e, h0, List.length_eq_zero_iff.1 (by have := h.1; rw [h0, Nat.zero_mul] at this; exact this)⟩
  · subst e
    refine .inr ⟨g, 0, cap, rfl, hn, hm, hS g rfl, (World.ownsRow.lt h' g rfl).2, fun k hk => ?_⟩
    rw [Nat.zero_add]
    exact World.ownsRow.cellAt h' k (by rw [← h.1]; exact hk)
/-- Its head cut off. -/
theorem Rd.tail {w : World} {S : Nat → Prop} {b off n cap F : Nat} {cs : List Value} (h : Rd w S (.slice (some ⟨b, off, none⟩) (n + 1) cap) (n + 1) cs) : Rd w S (.slice (some ⟨b, off + F, none⟩) n (cap - 1)) n (cs.drop F) := by
  rcases h with ⟨e, _⟩ | ⟨b', off', cap', e, h1, h2, h3, h4, h5⟩
  · cases e
  · injection e with e1 e2 e3
    injection e1 with e1
    injection e1 with e4 e5 e6
    subst e4; subst e5; subst e3
    refine .inr ⟨b, off + F, cap - 1, rfl, by omega, by omega, h3, h4, fun k hk => ?_⟩
    rw [List.length_drop] at hk
    rw [List.getElem?_drop, Nat.add_assoc]
    exact h5 (F + k) (by omega)
/-- 'append(s, x...)' where s is own and empty. -/
theorem wpList_append_rd {P : Program} {w : World} {ops : Array Oper} {rest : List Oper} {o : Oper} {a : Act} {Q : Exit → Act → World → Prop} (hgd : o.guard = none) (s x : Operand) (t : TypeId)
    (ho : o.op = .call { callee := .builtin .append, args := #[s, x], argTypes := #[t, t] })
    (base : Nat) (e : TypeId) (i : TypeInfo) (z : Value) (size bytes : Nat) (ht : P.underlying t = some (.slice e)) (hi : P.info? e = some i) (hz : i.zero = some z)
    (hsize : i.size = size) (hby : i.bytes = bytes) (hzs : z.cells.size = size) (hsz : 0 < size)
    (v : Value) (hs : a.eval s = v) (hown : w.ownsRow base e size v 0 []) (S : Nat → Prop) (m : Nat) (vx : Value) (cs : List Value) (hx : a.eval x = vx) (hvx : Rd w S vx m cs) (hl : cs.length = m * size)
    (h1 : ∀ u ∈ cs, u.oneCell' = true) (h63 : m ≤ maxLen) (hbytes : m * bytes ≤ 140737488355328) (hbase : base ≤ w.heap.size)
    (h : ∀ v' w', w'.ownsRow base e size v' m cs → w.grownBy w' v.ownBlock → wpList P ops Q rest (a.put o.dst v') w') : wpList P ops Q (o :: rest) a w := by
  rcases hvx with ⟨ev, h0, hcs⟩ | ⟨g, off, cap, ev, _, _, _, _, h5⟩
  · subst h0; subst hcs
    rw [ev] at hx
    exact wpList_append_own_none hgd s x t ho base e i size ht hi v 0 [] hs hown hx (h v w hown (World.grownBy.refl w _))
  · rw [ev] at hx
    refine wpList_append_own w hgd s x t ho base e i z size bytes ht hi hz hsize hby hzs hsz v 0 [] hs hown ⟨g, off, none⟩ m cap cs hx hl ?_ h1 (by rw [Nat.zero_add]; exact h63) (by rw [Nat.zero_add]; exact hbytes) hbase ?_
    · intro j u hj
      rw [Addr.add_lit]
      exact (h5 j (List.getElem?_eq_some_iff.1 hj).1).trans hj
    · intro v' w' h2 h3 _
      exact h v' w' (by simpa using h2) h3
/-- The block of a slice, wherever in it it begins. -/
def slB : Value → Option Nat
  | .slice (some a) _ _ => some a.block
  | _ => none
/-- The slices lie apart from one another, in blocks that may be written. -/
structure QOk (w : World) (us : List Value) : Prop where
  ap : ∀ (i j : Nat) (u v : Value) (b : Nat), i < j → us[i]? = some u → us[j]? = some v → slB u = some b → slB v ≠ some b
  frz : ∀ (i : Nat) (u : Value) (b : Nat), us[i]? = some u → slB u = some b → b < w.heap.size ∧ ∀ k, w.frozen? ⟨b, k, none⟩ = false
theorem frz_block {w w' : World} {b k : Nat} (h : w'.heap[b]? = w.heap[b]?) : w'.frozen? ⟨b, k, none⟩ = w.frozen? ⟨b, k, none⟩ := by
  unfold World.frozen?
  simp only [h]
theorem QOk.below {w w' : World} {us : List Value} (h : QOk w us) (hb : Below w.heap.size w w') : QOk w' us :=
  ⟨h.ap, fun i u b h1 h2 => by
    obtain ⟨h3, h4⟩ := h.frz i u b h1 h2
    exact ⟨Nat.lt_of_lt_of_le h3 hb.size, fun k => by rw [frz_block (hb.block b h3)]; exact h4 k⟩⟩
theorem QOk.chg {w w' : World} {us : List Value} {S' : Nat → Prop} (h : QOk w us) (hc : Chg S' w w') (hd : ∀ (i : Nat) (u : Value) (b : Nat), us[i]? = some u → slB u = some b → ¬ S' b) : QOk w' us :=
  ⟨h.ap, fun i u b h1 h2 => by
    obtain ⟨h3, h4⟩ := h.frz i u b h1 h2
    exact ⟨Nat.lt_of_lt_of_le h3 hc.size, fun k => by rw [frz_block (hc.block b h3 (hd i u b h1 h2))]; exact h4 k⟩⟩
theorem Rd.slB {w : World} {S : Nat → Prop} {u : Value} {n : Nat} {cs : List Value} (h : Rd w S u n cs) {b : Nat} (hb : slB u = some b) : S b := by
  rcases h with ⟨e, _⟩ | ⟨b', off, cap, e, h1, h2, h3, h4, h5⟩
  · subst e; cases hb
  · subst e
    obtain rfl : b' = b := Option.some.inj hb
    exact h3
end Go.Proofs.Ytjiaogbkmpjciaa
/-
  slices.Clone of a slice of report rows that reads as so many cells, nil too.
-/
namespace Go.Proofs.Ytjiaogbkmpjciaa
open Go.RowKit M
set_option linter.unusedVariables false
set_option linter.unusedSimpArgs false
theorem own_below {w w' : World} {B : Nat} {t : TypeId} {F n : Nat} {v : Value} {cs : List Value} (h : w.ownsRow B t F v n cs) (hb : Below w.heap.size w w') : w'.ownsRow B t F v n cs :=
  World.ownsRow.kept h (row := none) ⟨hb.os, hb.tape, hb.output, hb.size, fun i hi _ => hb.block i hi⟩ (by cases v.ownBlock <;> simp)
/-- A call answers a new row of so many cells. -/
def MadeRow (t : TypeId) (F : Nat) (w : World) (m : Nat) (cs : List Value) (e : Ending) (w' : World) : Prop := ∃ v, e = .returned v ∧ w'.ownsRow w.heap.size t F v m cs ∧ Below w.heap.size w w'
theorem Rd.shape {w : World} {S : Nat → Prop} {u : Value} {n : Nat} {cs : List Value} (h : Rd w S u n cs) : ∃ A cap, u = .slice A n cap := by
  rcases h with ⟨e, h0, _⟩ | ⟨b, off, cap, e, _⟩
  · subst h0; exact ⟨none, 0, e⟩
  · exact ⟨_, cap, e⟩
end Go.Proofs.Ytjiaogbkmpjciaa

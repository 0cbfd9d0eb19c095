/-
  Marks in rows of records of which some cells are slices: the middle of such a row, a record at a time; rows of numbers, nil ones among them, marked and looked at.
-/
import Derived.Test.YtfemdhknnfmpcaaZa
import Derived.Test.YtfemdhknnfmpcaaOpen
namespace Go.Proofs.Ytfemdhknnfmpcaa
open Go.RowKit M
set_option linter.unusedVariables false
set_option linter.unusedSimpArgs false
theorem mid_at {β : Type} {D1 L D2 : List β} {o : Nat} (ho : D1.length = o) {i : Nat} (hi : i < L.length) : (D1 ++ (L ++ D2))[o + i]? = L[i]? := by
  rw [List.getElem?_append_right (by omega), ho, Nat.add_sub_cancel_left, List.getElem?_append_left hi]
theorem mid_set {β : Type} {D1 L D2 : List β} {o : Nat} (ho : D1.length = o) {i : Nat} (hi : i < L.length) (x : β) : (D1 ++ (L ++ D2)).set (o + i) x = D1 ++ (L.set i x ++ D2) := by
  rw [List.set_append_right _ _ (by omega), ho, Nat.add_sub_cancel_left, List.set_append_left _ _ hi]
theorem lt_of_some {β : Type} {L : List β} {i : Nat} {x : β} (h : L[i]? = some x) : i < L.length := (List.getElem?_eq_some_iff.1 h).1
section
variable {t : TypeId} {F n : Nat} {w w' : World} {B E g cap o : Nat} {D1 L D2 : List Dat}
theorem OwnX.gin {ds : List Dat} (h : OwnX t F n w B E (.slice (some ⟨g, 0, none⟩) n cap) ds) : B ≤ g ∧ g < E := by
  rcases h.shape with ⟨e, _⟩ | ⟨g', c', e, _, _, h1, h2⟩
  · cases e
  · injection e with e1 _ _
    injection e1 with e1
    injection e1 with e1 _ _
    subst e1
    exact ⟨h1, h2⟩
theorem OwnX.mset (h : OwnX t F n w B E (.slice (some ⟨g, 0, none⟩) n cap) (D1 ++ (L ++ D2))) (ho : D1.length = o) (i : Nat) {x : Value} (hx : L[i]? = some (.val x)) (u : Value) :
    OwnX t F n (w.setCell ⟨g, o + i, none⟩ u) B E (.slice (some ⟨g, 0, none⟩) n cap) (D1 ++ (L.set i (.val u) ++ D2)) ∧ Chg (Within B E) w (w.setCell ⟨g, o + i, none⟩ u) := by
  have hs := h.set (i := o + i) (x := x) (by rw [mid_at ho (lt_of_some hx)]; exact hx) u
  rw [mid_set ho (lt_of_some hx)] at hs
  exact ⟨hs.1, Chg.of_grown hs.2 (fun k hk => by injection hk with hk; subst hk; exact h.gin)⟩
theorem OwnX.mval (h : OwnX t F n w B E (.slice (some ⟨g, 0, none⟩) n cap) (D1 ++ (L ++ D2))) (ho : D1.length = o) (i : Nat) {x : Value} (hx : L[i]? = some (.val x)) (hi : o + i < n * F) : w.cell? ⟨g, o + i, none⟩ = some x :=
  h.val hi (by rw [mid_at ho (lt_of_some hx)]; exact hx)
theorem OwnX.mrow (h : OwnX t F n w B E (.slice (some ⟨g, 0, none⟩) n cap) (D1 ++ (L ++ D2))) (ho : D1.length = o) (i : Nat) {t' : TypeId} {F' n' : Nat} {cs : List Value} (hx : L[i]? = some (.row t' F' n' cs)) (hi : o + i < n * F) :
    ∃ u, w.cell? ⟨g, o + i, none⟩ = some u ∧ w.ownsRow B t' F' u n' cs ∧ ∀ k, u.ownBlock = some k → B ≤ k ∧ k < E := by
  obtain ⟨vs, h1, h2⟩ := h
  have hr : w.ownsRow B t F (.slice (some ⟨g, 0, none⟩) n cap) n vs := h2.1.own _ List.mem_cons_self
  obtain ⟨u, hu, hm⟩ := innerD_row (valsD_len h1) (k := o + i) (by rw [mid_at ho (lt_of_some hx)]; exact hx)
  exact ⟨u, by rw [World.ownsRow.cellAt hr (o + i) hi]; exact hu, h2.1.own _ (List.mem_cons_of_mem _ hm), fun k hk => ⟨h2.1.base_le (List.mem_cons_of_mem _ hm) k hk, h2.2 _ (List.mem_cons_of_mem _ hm) k hk⟩⟩
theorem OwnX.mturn (h : OwnX t F n w B E (.slice (some ⟨g, 0, none⟩) n cap) (D1 ++ (L ++ D2))) (ho : D1.length = o) (i : Nat) {t' : TypeId} {F' n' : Nat} {cs cs' : List Value} {u : Value} (hx : L[i]? = some (.row t' F' n' cs)) (hi : o + i < n * F)
    (hc : w.cell? ⟨g, o + i, none⟩ = some u) (hg : w.grownBy w' u.ownBlock) (hr : w'.ownsRow B t' F' u n' cs') (hk : ∀ k, u.ownBlock = some k → B ≤ k ∧ k < E) : OwnX t F n w' B E (.slice (some ⟨g, 0, none⟩) n cap) (D1 ++ (L.set i (.row t' F' n' cs') ++ D2)) ∧ Chg (Within B E) w w' := by
  have hs := h.turn (w' := w') (i := o + i) (cs' := cs') (by rw [mid_at ho (lt_of_some hx)]; exact hx) ⟨g, cap, rfl, hc⟩ hi hg hr
  rw [mid_set ho (lt_of_some hx)] at hs
  exact ⟨hs, Chg.of_grown hg hk⟩
theorem OwnX.mfrz (h : OwnX t F n w B E (.slice (some ⟨g, 0, none⟩) n cap) (D1 ++ (L ++ D2))) (j : Nat) : w.frozen? ⟨g, j, none⟩ = false := h.frz j
end
theorem chg_below {S : Nat → Prop} {a b c : World} (h : Chg S a b) (hb : Below b.heap.size b c) : Chg S a c := h.trans (Chg.of_below hb)
def MarkedN (w : World) (base : Nat) (v : Value) (k : Int) (n : Nat) (e : Ending) (w' : World) : Prop := e = .returned (.int .i64 (k + n)) ∧ w'.ownsRow base 3 1 v n ((marks k n).map (Value.int .i64)) ∧ w.grownBy w' v.ownBlock
set_option maxRecDepth 100000 in
theorem markIntN_any (w : World) (base : Nat) (v : Value) (zs : List Int) (k : Int) (h : w.ownsRow base 3 1 v zs.length (zs.map (Value.int .i64))) (hl : zs.length ≤ 1048576) (hk0 : 0 ≤ k) (hk1 : k ≤ 1000000000000) :
    Calls Try.prog 65 #[v, .int .i64 k] w (MarkedN w base v k zs.length) := by
  rcases h.2 with ⟨rfl, h0⟩ | ⟨g, cap, cur, rfl, _⟩
  · have hz : zs = [] := List.length_eq_zero_iff.1 h0
    subst hz
    have HO := Lib.hid h
    clear h h0
    go_enter Try.func65, Try.ntmps65
    go_wp2_with fail
    go_loopw [1, 5] (fun c i wr => i = .int .i64 0 ∧ c = .int .i64 k ∧ wr = w) (fun _ i _ => 0)
    case atStart => exact ⟨rfl, rfl, rfl⟩
    case round =>
      obtain ⟨rfl, rfl, rfl⟩ := hrel
      go_wp2_with fail
      go_ret
      exact ⟨ret_i (by simp), HO.out, World.grownBy.refl _ _⟩
  · refine (markIntS_any w base _ zs k ⟨h, g, cap, rfl⟩ hl hk0 hk1).mono ?_
    rintro e w' ⟨rfl, ho, hg⟩
    have h1 := ho.1
    rw [marks_length] at h1
    exact ⟨rfl, h1, hg⟩
set_option maxRecDepth 100000 in
theorem heldIntN_any (w : World) (v : Value) (k : Int) (n : Nat) (h : IntsArg w v (marks k n)) (hk0 : 0 ≤ k) (hk1 : k ≤ 1000000000000) (hl : n ≤ 1048576) :
    Calls Try.prog 68 #[v, .int .i64 k] w (Same w (.int .i64 (k + n))) := by
  have h' := h
  obtain ⟨A, cap, rfl, h1, h2, h3⟩ := h
  by_cases hp : 0 < n
  · obtain ⟨b, off, rfl, h4, h5⟩ := h3 (by rw [marks_length]; exact hp)
    exact heldIntS_any w _ k n ⟨b, off, cap, rfl, h1, h2, h4, h5⟩ hk0 hk1 hl
  · obtain rfl : n = 0 := by omega
    clear h' h1 h2 h3
    go_enter Try.func68, Try.ntmps68
    go_wp2
    go_loop [1, 5] (fun c i => i = .int .i64 0 ∧ c = .int .i64 k) (fun _ i => 0)
    case atStart => exact ⟨rfl, rfl⟩
    case round =>
      obtain ⟨rfl, rfl⟩ := hrel
      go_wp2
      go_ret
      exact ⟨ret_i (by simp), rfl⟩
end Go.Proofs.Ytfemdhknnfmpcaa

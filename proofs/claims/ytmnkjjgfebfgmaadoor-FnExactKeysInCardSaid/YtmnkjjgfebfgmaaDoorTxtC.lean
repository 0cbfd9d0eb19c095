/-
  The exact laws' helpers on rows of strings: comparing two rows, marking a row, checking the marks.
-/
import Derived.Test.YtmnkjjgfebfgmaaDoorTxt
import Derived.Test.YtmnkjjgfebfgmaaDoorIntC
import Derived.Test.YtmnkjjgfebfgmaaDoorOwn
import Derived.Test.YtmnkjjgfebfgmaaDoorMathE
import Derived.Deep.RegionHeld3
namespace Go.Proofs.YtmnkjjgfebfgmaaDoor
open Go.RowKit M
set_option linter.unusedVariables false
/-- The text of mark k. -/
def markV (k : Int) : ByteArray := (⟨#[109]⟩ : ByteArray) ++ decs k
theorem mark_byte (u : Nat) : UInt8.ofNat (48 + (u : Int) % 10).toNat = UInt8.ofNat (48 + u % 10) := by congr 1
set_option maxRecDepth 100000 in
set_option maxHeartbeats 400000 in
theorem markText_nat (m : Nat) (w : World) (h0 : 0 < m) (h1 : m ≤ 9223372036854775807) : Calls Tryd.prog 37 #[.int .i64 m] w (Gives (.string (markV m)) w) := by
  have hcv := conv_one
  go_enter Tryd.func37, Tryd.ntmps37
  go_wp2
  go_loopw [0, 3] (fun x o wr => ∃ (u : Nat) (acc : List UInt8), DecAt m u acc ∧ u ≤ m ∧ x = .int .i64 u ∧ o = .string (accs acc) ∧ Below w.heap.size w wr) (fun x _ _ => (intOf x).toNat)
  case atStart => exact ⟨m, [], DecAt.start h0, Nat.le_refl _, rfl, rfl, Below.refl _ _⟩
  case round =>
    obtain ⟨u, acc, hd, hu, rfl, rfl, hb⟩ := hrel
    have hl : (accs acc).size ≤ 19 := by rw [accs_size]; exact hd.len (by omega)
    by_cases hp : 0 < u
    · have hd2 := Lib.hid (hd.step hp)
      go_wp2
      go_roundw
      case rel => exact ⟨u / 10, _, hd2.out, by omega, by go_num, by rw [accs_cons, d48], hb.alloc hb.size _⟩
      case measure => simp [intOf]; omega
    · obtain rfl : u = 0 := by omega
      have HE := Lib.hid (decs_pos (n := (m : Int)) (by omega) acc (by rw [Int.toNat_natCast]; exact hd.stop))
      go_wp2
      go_ret
      exact ⟨ret_str (by rw [HE.out]; rfl), hb⟩
theorem markText_any (k : Int) (w : World) (h0 : 1 ≤ k) (h1 : k ≤ 9223372036854775807) : Calls Tryd.prog 37 #[.int .i64 k] w (Gives (.string (markV k)) w) := by
  obtain ⟨m, rfl⟩ := Int.eq_ofNat_of_zero_le (show 0 ≤ k by omega)
  exact markText_nat m w (by omega) (by omega)
theorem eqStringS_same (w : World) (v u : Value) (l : List ByteArray) (h : TxtArg w v l) (k : TxtArg w u l) : Calls Tryd.prog 17 #[v, u] w (Quiet w (.bool true)) := by
  obtain ⟨A, cap, rfl, h1, h2, h3⟩ := h
  obtain ⟨A', cap', rfl, k1, k2, k3⟩ := k
  generalize hn : l.length = n at *
  clear hn
  unfold maxLen at h2 k2
  have H4 := Lib.hid h3
  have K4 := Lib.hid k3
  clear h3 k3
  go_enter Tryd.func17, Tryd.ntmps17
  go_wp2
  go_loopw [5] (fun i wr => ∃ j q : Nat, j ≤ n ∧ i = .int .i64 j ∧ wr = w.drewN q) (fun i _ => n - (intOf i).toNat)
  case atStart => exact ⟨0, 0, Nat.zero_le _, rfl, rfl⟩
  case round =>
    obtain ⟨j, q, hj, rfl, rfl⟩ := hrel
    by_cases hlt : j < n
    · obtain ⟨b, off, rfl, _, hc⟩ := H4.out (by omega)
      obtain ⟨b', off', rfl, _, hc'⟩ := K4.out (by omega)
      have g1 := hc j hlt
      have g2 := hc' j hlt
      clear hc hc'
      generalize l.getD j ⟨#[]⟩ = z at *
      go_wp2_with fail
      go_quiet (fail)
      go_wp2
      go_roundw
      case rel => exact ⟨j + 1, q + _, by omega, by go_num, rfl⟩
      case measure => simp [intOf]; omega
    · go_wp2
      go_ret
      exact ⟨rfl, q, rfl⟩
/-- Marks from k on. -/
def marksT (k : Int) (n : Nat) : List ByteArray := (List.range n).map fun j : Nat => markV (k + (j : Int))
theorem marksT_length (k : Int) (n : Nat) : (marksT k n).length = n := by simp [marksT]
theorem marksT_getD (k : Int) (n j : Nat) (h : j < n) : (marksT k n).getD j ⟨#[]⟩ = markV (k + j) := by simp [marksT, List.getD_eq_getElem?_getD, h]
def mpartT (l : List ByteArray) (k : Int) (j : Nat) : List ByteArray := marksT k j ++ l.drop j
theorem mpartT_length (l : List ByteArray) (k : Int) (j : Nat) (h : j ≤ l.length) : (mpartT l k j).length = l.length := by
  simp only [mpartT, List.length_append, marksT_length, List.length_drop]; omega
theorem mpartT_zero (l : List ByteArray) (k : Int) : mpartT l k 0 = l := by simp [mpartT, marksT]
theorem mpartT_all (l : List ByteArray) (k : Int) : mpartT l k l.length = marksT k l.length := by simp [mpartT]
theorem mpartT_set (l : List ByteArray) (k : Int) (j : Nat) (h : j < l.length) : (mpartT l k j).set j (markV (k + j)) = mpartT l k (j + 1) := by
  unfold mpartT
  rw [List.set_append_right _ _ (by rw [marksT_length]; exact Nat.le_refl _), marksT_length, Nat.sub_self, List.drop_eq_getElem_cons h]
  have : marksT k (j + 1) = marksT k j ++ [markV (k + (j : Int))] := by simp [marksT, List.range_succ]
  rw [this, List.set_cons_zero, List.append_assoc]; rfl
theorem OwnT.set {w : World} {base g n cap : Nat} {l : List ByteArray} (h : OwnT w base (.slice (some ⟨g, 0, none⟩) n cap) l) (hn : l.length = n) (j : Nat) (x : ByteArray) :
    OwnT (w.setCell ⟨g, j, none⟩ (.string x)) base (.slice (some ⟨g, 0, none⟩) n cap) (l.set j x) ∧ w.grownBy (w.setCell ⟨g, j, none⟩ (.string x)) (some g) := by
  subst hn
  have hs := World.ownsRow.stored h j (.string x)
  refine ⟨?_, hs.2⟩
  unfold OwnT
  rw [List.length_set, List.map_set]
  exact hs.1
theorem OwnT.frz {w : World} {base g n cap : Nat} {l : List ByteArray} (h : OwnT w base (.slice (some ⟨g, 0, none⟩) n cap) l) (hn : l.length = n) (j : Nat) : w.frozen? ⟨g, j, none⟩ = false := by
  subst hn
  exact World.ownsRow.frozenAt h j
theorem OwnT.cell {w : World} {base g n cap : Nat} {l : List ByteArray} (h : OwnT w base (.slice (some ⟨g, 0, none⟩) n cap) l) (hn : l.length = n) (j : Nat) (hj : j < n) : w.cell? ⟨g, j, none⟩ = some (.string (l.getD j ⟨#[]⟩)) := by
  subst hn
  rw [World.ownsRow.cellAt h j (by omega), List.getElem?_map, List.getElem?_eq_getElem hj, List.getD_eq_getElem?_getD, List.getElem?_eq_getElem hj]
  rfl
def MarkedT (w : World) (base : Nat) (v : Value) (k : Int) (n : Nat) (e : Ending) (w' : World) : Prop := e = .returned (.int .i64 (k + n)) ∧ OwnT w' base v (marksT k n) ∧ w.grownBy w' v.ownBlock
theorem grown_any {w w1 w2 : World} {r : Option Nat} (h : w.grownBy w1 r) (hb : Below w1.heap.size w1 w2) : w.grownBy w2 r :=
  ⟨hb.os.trans h.os, hb.tape.trans h.tape, hb.output.trans h.output, Nat.le_trans h.size hb.size, fun i hi hne => (hb.block i (Nat.lt_of_lt_of_le hi h.size)).trans (h.block i hi hne)⟩
set_option maxRecDepth 100000 in
theorem markStringS_any (w : World) (base : Nat) (v : Value) (l : List ByteArray) (k : Int) (h : OwnT w base v l) (hl : l.length ≤ 1048576) (hk0 : 1 ≤ k) (hk1 : k ≤ 1000000000000) :
    Calls Tryd.prog 18 #[v, .int .i64 k] w (MarkedT w base v k l.length) := by
  have h' := h
  rcases h.2 with ⟨rfl, h0⟩ | ⟨g, cap, cur, rfl, _, _, _, _, _, _⟩
  · have HO := Lib.hid h'
    have hl0 : l = [] := List.eq_nil_of_length_eq_zero h0
    subst hl0
    clear h h' h0
    go_enter Tryd.func18, Tryd.ntmps18
    go_wp2
    go_loopw [1, 5] (fun c i wr => i = .int .i64 0 ∧ c = .int .i64 k ∧ wr = w) (fun _ i _ => 0)
    case atStart => exact ⟨rfl, rfl, rfl⟩
    case round =>
      obtain ⟨rfl, rfl, rfl⟩ := hrel
      go_wp2
      go_ret
      exact ⟨ret_i (by simp), HO.out, World.grownBy.refl _ _⟩
  · generalize hn : l.length = n at *
    have HN := Lib.hid hn
    have HO := Lib.hid h'
    have hcap : n ≤ 9223372036854775807 := by omega
    clear hn h h'
    go_enter Tryd.func18, Tryd.ntmps18
    go_wp2
    go_loopw [1, 5] (fun c i wr => ∃ j : Nat, j ≤ n ∧ i = .int .i64 j ∧ c = .int .i64 (k + j) ∧ OwnT wr base (.slice (some ⟨g, 0, none⟩) n cap) (mpartT l k j) ∧ w.grownBy wr (some g)) (fun _ i _ => n - (intOf i).toNat)
    case atStart =>
      refine ⟨0, Nat.zero_le _, rfl, by simp, ?_, World.grownBy.refl _ _⟩
      rw [mpartT_zero]; exact HO.out
    case round =>
      obtain ⟨j, hj, rfl, rfl, ho, hg⟩ := hrel
      have HO2 := Lib.hid ho
      have HG := Lib.hid hg
      clear ho hg
      have hml := Lib.hid (mpartT_length l k j (by rw [HN.out]; exact hj))
      by_cases hlt : j < n
      · have HM := Lib.hid (markText_any (k + j) wr (by omega) (by omega))
        generalize hmv : markV (k + (j : Int)) = mv at *
        have HMV := Lib.hid hmv
        clear hmv
        go_wp2_with fail
        refine HM.out.mono ?_
        rintro e w2 ⟨rfl, hb2⟩
        have ho2 := HO2.out.below hb2
        have hf := ho2.frz (hml.out.trans HN.out) j
        obtain ⟨z, hz⟩ : ∃ z, w2.cell? ⟨g, j, none⟩ = some z := ⟨_, ho2.cell (hml.out.trans HN.out) j hlt⟩
        have HST := Lib.hid (ho2.set (hml.out.trans HN.out) j mv)
        have HG2 := Lib.hid (grown_any HG.out hb2)
        clear ho2 hb2
        go_wp2_with fail
        go_roundw
        case rel =>
          have hst := HST.out
          rw [← HMV.out, mpartT_set l k j (by rw [HN.out]; exact hlt), HMV.out] at hst
          exact ⟨j + 1, by omega, by go_num, by go_num, hst.1, grownI_trans HG2.out hst.2⟩
        case measure => simp [intOf]; omega
      · obtain rfl : j = n := by omega
        go_wp2
        go_ret
        have := HO2.out
        rw [← HN.out, mpartT_all, HN.out] at this
        exact ⟨rfl, this, HG.out⟩
/-- What holds of each world in a statement that draws and calls. -/
def HeldB (w0 : World) (b : Nat) (w : World) : Prop := Below w0.heap.size w0 w ∧ b < w.heap.size
theorem heldB_next {w0 w1 w2 : World} {b i : Nat} {x : Value} (hb : Below w1.heap.size w1 w2) (h : w1.cell? ⟨b, i, none⟩ = some x ∧ HeldB w0 b w1) : w2.cell? ⟨b, i, none⟩ = some x ∧ HeldB w0 b w2 := by
  obtain ⟨h1, h2, h3⟩ := h
  exact ⟨(hb.cell (p := ⟨b, i, none⟩) h3).trans h1, h2.trans (hb.mono h2.size), Nat.lt_of_lt_of_le h3 hb.size⟩
theorem heldB_bel {w0 w : World} {b : Nat} {p : Prop} (h : p ∧ HeldB w0 b w) : Below w0.heap.size w0 w := h.2.1
set_option maxRecDepth 100000 in
theorem heldStringS_any (w : World) (v : Value) (k : Int) (n : Nat) (h : TxtArg w v (marksT k n)) (hk0 : 1 ≤ k) (hk1 : k ≤ 1000000000000) (hl : n ≤ 1048576) :
    Calls Tryd.prog 19 #[v, .int .i64 k] w (Gives (.int .i64 (k + n)) w) := by
  obtain ⟨A, cap, rfl, h1, h2, h3⟩ := h
  rw [marksT_length] at *
  unfold maxLen at h2
  have H4 := Lib.hid h3
  clear h3
  go_enter Tryd.func19, Tryd.ntmps19
  go_wp2
  go_loopw [1, 5] (fun c i wr => ∃ j : Nat, j ≤ n ∧ i = .int .i64 j ∧ c = .int .i64 (k + j) ∧ Below w.heap.size w wr) (fun _ i _ => n - (intOf i).toNat)
  case atStart => exact ⟨0, Nat.zero_le _, rfl, by simp, Below.refl _ _⟩
  case round =>
    obtain ⟨j, hj, rfl, rfl, hb⟩ := hrel
    by_cases hlt : j < n
    · obtain ⟨b, off, rfl, hlt2, hc⟩ := H4.out (by omega)
      have g1 := (hb.cell (p := ⟨b, off + j, none⟩) hlt2).trans (hc j hlt)
      rw [marksT_getD k n j hlt] at g1
      have HM := fun W => Lib.hid (markText_any (k + j) W (by omega) (by omega))
      generalize markV (k + (j : Int)) = mv at *
      have HB := Lib.hid hb
      have HS := Lib.hid (show wr.drew.cell? ⟨b, off + j, none⟩ = some (.string mv) ∧ HeldB w b wr.drew from ⟨g1, (hb.trans ((Below.drew (Below.refl wr.heap.size wr)).mono hb.size)), Nat.lt_of_lt_of_le hlt2 hb.size⟩)
      have hjn : (j : Int) < (n : Int) := by omega
      clear hb hc g1
      go_wp2_with fail
      go_region_held3 (fun w' => w'.cell? ⟨b, off + j, none⟩ = some (.string mv) ∧ HeldB w b w')
        (first | (with_reducible exact HS.out) | assumption | (apply heldB_next; assumption; assumption))
        ((go_at_call 37; (with_reducible refine Calls.mono (Hid.out (HM _)) ?_); rintro e w' ⟨rfl, hb⟩))
      all_goals (
        go_wp2_with fail
        go_roundw
        case rel => exact ⟨j + 1, by omega, by go_num, by go_num, heldB_bel (by assumption)⟩
        case measure => simp [intOf]; omega)
    · obtain rfl : j = n := by omega
      go_wp2
      go_ret
      exact ⟨rfl, hb⟩
/-- Two rows of which one was made behind the other lie in two blocks. -/
theorem apart_IT {w w' : World} {b0 B : Nat} {v u : Value} {xs : List Int} {l : List ByteArray} (h : OwnI w b0 v xs) (k : OwnT w' B u l) (hB : w.heap.size ≤ B) : ∀ g, v.ownBlock = some g → u.ownBlock ≠ some g := fun g hg e => by
  obtain ⟨g', hg', _, h2⟩ := h.block
  have := k.base_le g e
  rw [hg'] at hg; injection hg with hg; omega
theorem apart_TI {w w' : World} {b0 B : Nat} {v u : Value} {xs : List Int} {l : List ByteArray} (h : OwnT w b0 v l) (k : OwnI w' B u xs) (hB : w.heap.size ≤ B) : ∀ g, v.ownBlock = some g → u.ownBlock ≠ some g := fun g hg e => by
  obtain ⟨g', hg', h1, _⟩ := k.block
  have := (World.ownsRow.lt h g hg).2
  rw [hg'] at e; injection e with e; omega
theorem OwnT.apart {w w' : World} {b0 B : Nat} {v u : Value} {xs l : List ByteArray} (h : OwnT w b0 v xs) (k : OwnT w' B u l) (hB : w.heap.size ≤ B) : ∀ g, v.ownBlock = some g → u.ownBlock ≠ some g := fun g hg e => by
  have h1 := (World.ownsRow.lt h g hg).2
  have := k.base_le g e
  omega
theorem ne_of {v u : Value} (h : ∀ g, v.ownBlock = some g → u.ownBlock ≠ some g) : v.ownBlock = none ∨ v.ownBlock ≠ u.ownBlock := by
  cases e : v.ownBlock with
  | none => exact Or.inl rfl
  | some g => exact Or.inr fun x => h g e x.symm
theorem ne_sym {v u : Value} (h : ∀ g, v.ownBlock = some g → u.ownBlock ≠ some g) : u.ownBlock = none ∨ u.ownBlock ≠ v.ownBlock := by
  cases e : u.ownBlock with
  | none => exact Or.inl rfl
  | some g => exact Or.inr fun x => h g x.symm e
end Go.Proofs.YtmnkjjgfebfgmaaDoor

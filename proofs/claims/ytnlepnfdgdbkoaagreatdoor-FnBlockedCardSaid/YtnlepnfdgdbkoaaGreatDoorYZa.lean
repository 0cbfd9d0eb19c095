/-
  Texts of this seat, laid together.
-/
import Derived.Laws.Cover1
import Derived.WalkKit
import Derived.Lib.SliceRun
import Derived.Lib.AtoiAllCases
import Derived.Deep.RegionHeld3
import Derived.Lib.ItoaNum
import Derived.OwnWalk
import Derived.Deep.MidRow
import Derived.OpenShut
import Derived.ProofKit
import Derived.BigQuiet
import Derived.Test.YtnlepnfdgdbkoaaGreatDoorChecked
import Derived.Deep.Fields
import Derived.KernelRfl
import Derived.Deep.Cut
import Derived.Lib.Hide
import Derived.BigGuardPart
import Derived.Deep.QuietTactic
namespace Go.Proofs.YtnlepnfdgdbkoaaGreatDoor.M
open Go.RowKit
theorem ret_str {a b : ByteArray} (h : a = b) : Ending.returned (.string a) = .returned (.string b) := by rw [h]
theorem ret_bool {a b : Bool} (h : a = b) : Ending.returned (.bool a) = .returned (.bool b) := by rw [h]
def be (l : List UInt8) : Nat := l.foldl (fun n c => n * 256 + c.toNat) 0
theorem be_snoc (l : List UInt8) (c : UInt8) : be (l ++ [c]) = be l * 256 + c.toNat := by
  simp [be, List.foldl_append]
theorem be_lt_aux (l : List UInt8) : ∀ a : Nat, l.foldl (fun n c => n * 256 + c.toNat) a < (a + 1) * 256 ^ l.length := by
  induction l with
  | nil => intro a; simp
  | cons c l ih =>
    intro a
    have h := ih (a * 256 + c.toNat)
    have hc := c.toNat_lt
    have e : (a * 256 + c.toNat + 1) * 256 ^ l.length ≤ ((a + 1) * 256) * 256 ^ l.length := Nat.mul_le_mul_right _ (by omega)
    rw [List.foldl_cons, List.length_cons, Nat.pow_succ, Nat.mul_comm (256 ^ l.length) 256, ← Nat.mul_assoc]
    omega
theorem be_lt (l : List UInt8) : be l < 256 ^ l.length := by
  have h := be_lt_aux l 0
  simpa [be] using h
theorem take_snoc (s : ByteArray) (k : Nat) (h : k < s.size) : s.data.toList.take (k + 1) = s.data.toList.take k ++ [s[k]] := by
  rw [List.take_succ_eq_append_getElem (by simpa using h)]; rfl
theorem be_take (s : ByteArray) (k : Nat) (h : k < s.size) : be (s.data.toList.take (k + 1)) = be (s.data.toList.take k) * 256 + s[k].toNat := by
  rw [take_snoc s k h, be_snoc]
theorem be_take_lt (s : ByteArray) (k : Nat) (h : k < 7) : be (s.data.toList.take k) < 281474976710656 := by
  have h1 := be_lt (s.data.toList.take k)
  have h2 : (s.data.toList.take k).length ≤ k := List.length_take_le _ _
  have h3 : 256 ^ (s.data.toList.take k).length ≤ 256 ^ 6 := Nat.pow_le_pow_right (by decide) (by omega)
  have h4 : (256 : Nat) ^ 6 = 281474976710656 := by decide
  omega
theorem wraps_i64 (n : Int) (h0 : 0 ≤ n) (h1 : n < 2 ^ 63) : IntKind.i64.wrap n = n := by rw [IntKind.wrap_i64]; omega
theorem or256 (x c : Nat) (hx : x < 281474976710656) (hc : c < 256) : bits .or .i64 ((x : Int) * 256) (c : Int) = (x : Int) * 256 + c :=
  bits_join .i64 63 (by decide) wraps_i64 8 _ _ (by omega) (by omega) (by omega) (by omega) (by omega) (by omega)
def dv (n k : Nat) : Nat := n / 256 ^ k
theorem dv_pos (n k : Nat) : 0 < dv n k ↔ 256 ^ k ≤ n := by
  unfold dv
  exact Nat.div_pos_iff.trans ⟨fun h => h.2, fun h => ⟨Nat.pow_pos (by decide), h⟩⟩
def fx (n : Nat) : Nat → List UInt8
  | 0 => []
  | k + 1 => UInt8.ofNat (dv n k) :: fx n k
theorem fx_length (n k : Nat) : (fx n k).length = k := by
  induction k with
  | zero => rfl
  | succ k ih => simp [fx, ih]
def fxs (n k : Nat) : ByteArray := ⟨(fx n k).toArray⟩
theorem fxs_size (n k : Nat) : (fxs n k).size = k := by simp [fxs, ByteArray.size, fx_length]
theorem fx_get (n : Nat) : ∀ k i, i < k → (fx n k)[i]? = some (UInt8.ofNat (dv n (k - 1 - i))) := by
  intro k
  induction k with
  | zero => intro i h; omega
  | succ k ih =>
    intro i h
    cases i with
    | zero => simp [fx]
    | succ i =>
      simp only [fx, List.getElem?_cons_succ]
      rw [ih i (by omega)]
      congr 3
      omega
theorem shr_dv (n k : Nat) : (n : Int) / 2 ^ (8 * k) = (dv n k : Int) := by
  unfold dv
  rw [Int.natCast_ediv, Int.natCast_pow, Int.pow_mul]
  rfl
theorem shr_dv_ne (n k : Nat) (h : 256 ^ k ≤ n) : ((n : Int) / 2 ^ (8 * k) != 0) = true := by
  have := (dv_pos n k).2 h
  rw [shr_dv, bne_iff_ne]; omega
theorem shr_dv_eq (n k : Nat) (h : ¬ 256 ^ k ≤ n) : ((n : Int) / 2 ^ (8 * k) != 0) = false := by
  have := dv_pos n k
  rw [shr_dv, bne_eq_false_iff_eq]; omega
def vb : Nat → Nat → List UInt8
  | 0, n => [UInt8.ofNat n]
  | f + 1, n => if n < 128 then [UInt8.ofNat n] else UInt8.ofNat (128 + n % 128) :: vb f (n / 128)
theorem vb_small (f n : Nat) (h : n < 128) : vb f n = [UInt8.ofNat n] := by
  cases f with
  | zero => rfl
  | succ f => simp [vb, h]
theorem vb_big (f n : Nat) (h : ¬ n < 128) : vb (f + 1) n = UInt8.ofNat (128 + n % 128) :: vb f (n / 128) := by simp [vb, h]
def VarAt (n0 f m : Nat) (acc : List UInt8) : Prop := acc ++ vb f m = vb 6 n0 ∧ acc.length + f = 6 ∧ m < 128 ^ (f + 1)
theorem VarAt.start (n : Nat) (h : n ≤ 562949953421311) : VarAt n 6 n [] := ⟨rfl, rfl, by show n < 128 ^ 7; omega⟩
theorem VarAt.step {n0 f m : Nat} {acc : List UInt8} (h : VarAt n0 f m acc) (hm : ¬ m < 128) : ∃ g, f = g + 1 ∧ VarAt n0 g (m / 128) (acc ++ [UInt8.ofNat (128 + m % 128)]) := by
  obtain ⟨h1, h2, h3⟩ := h
  cases f with
  | zero => simp at h3; omega
  | succ g =>
    refine ⟨g, rfl, ?_, ?_, ?_⟩
    · rw [vb_big _ _ hm] at h1
      rw [← h1]; simp
    · simp; omega
    · rw [Nat.pow_succ] at h3
      omega
theorem VarAt.stop {n0 f m : Nat} {acc : List UInt8} (h : VarAt n0 f m acc) (hm : m < 128) : acc ++ [UInt8.ofNat m] = vb 6 n0 := by
  rw [← vb_small f m hm]; exact h.1
theorem VarAt.len {n0 f m : Nat} {acc : List UInt8} (h : VarAt n0 f m acc) : acc.length ≤ 6 := by have := h.2.1; omega
end Go.Proofs.YtnlepnfdgdbkoaaGreatDoor.M
namespace Go.Proofs.YtnlepnfdgdbkoaaGreatDoor
open Go.RowKit M
set_option linter.unusedVariables false
theorem info_int : (Tryz.prog.info? 3).map (fun i => (i.zero, i.size, i.bytes)) = some (some (.int .i64 0), 1, 8) := by kernel_rfl
def Fit (zs : List Int) : Prop := ∀ z ∈ zs, -9223372036854775808 ≤ z ∧ z ≤ 9223372036854775807
theorem Fit.at {zs : List Int} (h : Fit zs) (j : Nat) : -9223372036854775808 ≤ zs.getD j 0 ∧ zs.getD j 0 ≤ 9223372036854775807 := by
  rw [List.getD_eq_getElem?_getD]
  cases e : zs[j]? with
  | none => simp
  | some z => exact h z (List.mem_of_getElem? e)
def Ints (w : World) (v : Value) (zs : List Int) : Prop :=
  ∃ b off cap, v = .slice (some ⟨b, off, none⟩) zs.length cap ∧ zs.length ≤ cap ∧ cap ≤ maxLen ∧ b < w.heap.size ∧ ∀ j, j < zs.length → w.cell? ⟨b, off + j, none⟩ = some (.int .i64 (zs.getD j 0))
def IntsArg (w : World) (v : Value) (zs : List Int) : Prop :=
  ∃ A cap, v = .slice A zs.length cap ∧ zs.length ≤ cap ∧ cap ≤ maxLen ∧ (0 < zs.length → ∃ b off, A = some ⟨b, off, none⟩ ∧ b < w.heap.size ∧ ∀ j, j < zs.length → w.cell? ⟨b, off + j, none⟩ = some (.int .i64 (zs.getD j 0)))
theorem Ints.arg {w : World} {v : Value} {zs : List Int} (h : Ints w v zs) : IntsArg w v zs := by
  obtain ⟨b, off, cap, e, h1, h2, h3, h4⟩ := h
  exact ⟨_, cap, e, h1, h2, fun _ => ⟨b, off, rfl, h3, h4⟩⟩
theorem IntsArg.nil (w : World) : IntsArg w (.slice none 0 0) [] := ⟨none, 0, rfl, Nat.zero_le _, Nat.zero_le _, fun h => absurd h (by simp)⟩
theorem Ints.below {w w' : World} {v : Value} {zs : List Int} (h : Ints w v zs) (hb : Below w.heap.size w w') : Ints w' v zs := by
  obtain ⟨b, off, cap, e, h1, h2, h3, h4⟩ := h
  exact ⟨b, off, cap, e, h1, h2, Nat.lt_of_lt_of_le h3 hb.size, fun j hj => (hb.cell (p := ⟨b, off + j, none⟩) h3).trans (h4 j hj)⟩
theorem IntsArg.below {w w' : World} {v : Value} {zs : List Int} (h : IntsArg w v zs) (hb : Below w.heap.size w w') : IntsArg w' v zs := by
  obtain ⟨A, cap, e, h1, h2, h3⟩ := h
  refine ⟨A, cap, e, h1, h2, fun hp => ?_⟩
  obtain ⟨b, off, ea, h4, h5⟩ := h3 hp
  exact ⟨b, off, ea, Nat.lt_of_lt_of_le h4 hb.size, fun j hj => (hb.cell (p := ⟨b, off + j, none⟩) h4).trans (h5 j hj)⟩
def OwnI (w : World) (base : Nat) (v : Value) (zs : List Int) : Prop := w.ownsRow base 3 1 v zs.length (zs.map (Value.int .i64)) ∧ ∃ g cap, v = .slice (some ⟨g, 0, none⟩) zs.length cap
theorem OwnI.block {w : World} {base : Nat} {v : Value} {zs : List Int} (h : OwnI w base v zs) : ∃ g, v.ownBlock = some g ∧ base ≤ g ∧ g < w.heap.size := by
  obtain ⟨h1, g, cap, rfl⟩ := h
  have := World.ownsRow.lt h1 g rfl
  exact ⟨g, rfl, this⟩
theorem OwnI.ints {w : World} {base : Nat} {v : Value} {zs : List Int} (h : OwnI w base v zs) : Ints w v zs := by
  obtain ⟨h1, g, cap, rfl⟩ := h
  have hlt := World.ownsRow.lt h1 g rfl
  have hc : zs.length ≤ cap ∧ cap ≤ maxLen := by
    rcases h1.2 with ⟨h', _⟩ | ⟨g', cap', cur, h', _, _, hn, hm, _⟩
    · cases h'
    · injection h' with _ _ e; subst e; exact ⟨hn, hm⟩
  refine ⟨g, 0, cap, rfl, hc.1, hc.2, hlt.2, fun j hj => ?_⟩
  rw [Nat.zero_add, World.ownsRow.cellAt h1 j (by omega), List.getElem?_map, List.getElem?_eq_getElem hj, List.getD_eq_getElem?_getD, List.getElem?_eq_getElem hj]
  rfl
theorem OwnI.kept {w w' : World} {base : Nat} {v : Value} {zs : List Int} {row : Option Nat} (h : OwnI w base v zs) (hg : w.grownBy w' row) (hne : v.ownBlock ≠ row) : OwnI w' base v zs :=
  ⟨World.ownsRow.kept h.1 hg (Or.inr hne), h.2⟩
theorem OwnI.below {w w' : World} {base : Nat} {v : Value} {zs : List Int} (h : OwnI w base v zs) (hb : Below w.heap.size w w') : OwnI w' base v zs := by
  obtain ⟨g, hg, _, _⟩ := h.block
  exact h.kept (row := none) ⟨hb.os, hb.tape, hb.output, hb.size, fun i hi _ => hb.block i hi⟩ (by rw [hg]; intro h; cases h)
theorem OwnI.made {w : World} {base g n cap : Nat} (h : w.ownsRow base 3 1 (.slice (some ⟨g, 0, none⟩) n cap) n (madeCells (Value.int .i64 0).cells (n * 1)).toList) : OwnI w base (.slice (some ⟨g, 0, none⟩) n cap) (List.replicate n 0) := by
  refine ⟨?_, g, cap, by rw [List.length_replicate]⟩
  rw [List.length_replicate, List.map_replicate]
  have : (madeCells (Value.int .i64 0).cells (n * 1)).toList = List.replicate n (Value.int .i64 0) := by rw [Nat.mul_one]; exact toList_madeCells_one _ _
  rw [← this]; exact h
theorem OwnI.set {w : World} {base g n cap : Nat} {zs : List Int} (h : OwnI w base (.slice (some ⟨g, 0, none⟩) n cap) zs) (j : Nat) (z : Int) :
    OwnI (w.setCell ⟨g, j, none⟩ (.int .i64 z)) base (.slice (some ⟨g, 0, none⟩) n cap) (zs.set j z) ∧ w.grownBy (w.setCell ⟨g, j, none⟩ (.int .i64 z)) (some g) := by
  obtain ⟨h1, g', cap', e⟩ := h
  have hn : n = zs.length := by injection e
  subst hn
  have hs := World.ownsRow.stored h1 j (.int .i64 z)
  refine ⟨⟨?_, g, cap, by rw [List.length_set]⟩, hs.2⟩
  rw [List.length_set, List.map_set]
  exact hs.1
theorem OwnI.frz {w : World} {base g n cap : Nat} {zs : List Int} (h : OwnI w base (.slice (some ⟨g, 0, none⟩) n cap) zs) (j : Nat) : w.frozen? ⟨g, j, none⟩ = false := by
  obtain ⟨h1, g', cap', e⟩ := h
  have hn : n = zs.length := by injection e
  subst hn
  exact World.ownsRow.frozenAt h1 j
theorem OwnI.cell {w : World} {base g n cap : Nat} {zs : List Int} (h : OwnI w base (.slice (some ⟨g, 0, none⟩) n cap) zs) (j : Nat) (hj : j < n) : w.cell? ⟨g, j, none⟩ = some (.int .i64 (zs.getD j 0)) := by
  obtain ⟨h1, g', cap', e⟩ := h
  have hn : n = zs.length := by injection e
  subst hn
  rw [World.ownsRow.cellAt h1 j (by omega), List.getElem?_map, List.getElem?_eq_getElem hj, List.getD_eq_getElem?_getD, List.getElem?_eq_getElem hj]
  rfl
theorem OwnI.apart {w w' : World} {b0 B : Nat} {v u : Value} {xs ys : List Int} (h : OwnI w b0 v xs) (k : OwnI w' B u ys) (hB : w.heap.size ≤ B) : v.ownBlock ≠ u.ownBlock := by
  obtain ⟨g, hg, _, h2⟩ := h.block
  obtain ⟨g', hg', h3, _⟩ := k.block
  rw [hg, hg']
  intro e
  injection e with e
  omega
theorem OwnI.of_row {w : World} {base n : Nat} {v : Value} {zs : List Int} (h : w.ownsRow base 3 1 v n (zs.map (Value.int .i64))) (hn : zs.length = n) (hv : v ≠ .slice none 0 0) : OwnI w base v zs := by
  subst hn
  refine ⟨h, ?_⟩
  rcases h.2 with ⟨h', _⟩ | ⟨g, cap, cur, h', _⟩
  · exact absurd h' hv
  · exact ⟨g, cap, h'⟩
def MadeI (w : World) (zs : List Int) (e : Ending) (w' : World) : Prop := ∃ v, e = .returned v ∧ OwnI w' w.heap.size v zs ∧ Below w.heap.size w w'
end Go.Proofs.YtnlepnfdgdbkoaaGreatDoor
namespace Go.Proofs.YtnlepnfdgdbkoaaGreatDoor
open Go.RowKit M
set_option linter.unusedVariables false
section
variable {α : Type} {F : Nat} {c : α → Array Value}
def cellsF (c : α → Array Value) (l : List α) : List Value := l.flatMap fun r => (c r).toList
theorem cellsF_length (hF : ∀ r, (c r).size = F) (l : List α) : (cellsF c l).length = l.length * F := by
  induction l with
  | nil => simp [cellsF]
  | cons r l ih => simp only [cellsF, List.flatMap_cons, List.length_append, List.length_cons, Array.length_toList, hF] at *; rw [ih, Nat.add_mul, Nat.one_mul, Nat.add_comm]
theorem cellsF_append (xs ys : List α) : cellsF c (xs ++ ys) = cellsF c xs ++ cellsF c ys := by simp [cellsF]
theorem cellsF_at (hF : ∀ r, (c r).size = F) (z : α) (l : List α) (j k : Nat) (hj : j < l.length) (hk : k < F) : (cellsF c l)[j * F + k]? = (c (l.getD j z))[k]? := by
  induction l generalizing j with
  | nil => simp at hj
  | cons r l ih =>
    show ((c r).toList ++ cellsF c l)[j * F + k]? = _
    cases j with
    | zero => rw [List.getElem?_append_left (by simp [hF]; omega)]; simp
    | succ j =>
      rw [List.getElem?_append_right (by simp [hF, Nat.add_mul]; omega), show (j + 1) * F + k - (c r).toList.length = j * F + k by simp [hF, Nat.add_mul]; omega, ih j (by simpa using hj)]
      simp
def setN (cs : List Value) (o : Nat) : List Value → List Value
  | [] => cs
  | u :: us => setN (cs.set o u) (o + 1) us
theorem setN_mid (us bs as_ cs : List Value) (h : us.length = bs.length) : setN (as_ ++ (bs ++ cs)) as_.length us = as_ ++ (us ++ cs) := by
  induction us generalizing bs as_ with
  | nil =>
    have : bs = [] := List.eq_nil_of_length_eq_zero (by simpa using h.symm)
    subst this; rfl
  | cons u us ih =>
    cases bs with
    | nil => simp at h
    | cons b bs =>
      show setN ((as_ ++ (b :: bs ++ cs)).set as_.length u) (as_.length + 1) us = _
      rw [List.set_append_right _ _ (Nat.le_refl _), Nat.sub_self]
      show setN (as_ ++ (u :: (bs ++ cs))) (as_.length + 1) us = _
      have e : as_ ++ (u :: (bs ++ cs)) = (as_ ++ [u]) ++ (bs ++ cs) := by simp
      rw [e, show as_.length + 1 = (as_ ++ [u]).length by simp, ih bs (as_ ++ [u]) (by simpa using h)]
      simp
theorem cellsF_set (hF : ∀ r, (c r).size = F) (l : List α) (j : Nat) (hj : j < l.length) (r : α) : setN (cellsF c l) (j * F) (c r).toList = cellsF c (l.set j r) := by
  have e : l = l.take j ++ (l[j] :: l.drop (j + 1)) := by rw [← List.drop_eq_getElem_cons hj, List.take_append_drop]
  have e2 : l.set j r = l.take j ++ (r :: l.drop (j + 1)) := by
    conv => lhs; rw [e]
    rw [List.set_append_right _ _ (by rw [List.length_take]; omega), List.length_take, show j - min j l.length = 0 by omega, List.set_cons_zero]
  have e3 : cellsF c l = cellsF c (l.take j) ++ ((c l[j]).toList ++ cellsF c (l.drop (j + 1))) := by
    conv => lhs; rw [e]
    rw [cellsF_append]; rfl
  have e4 : cellsF c (l.set j r) = cellsF c (l.take j) ++ ((c r).toList ++ cellsF c (l.drop (j + 1))) := by rw [e2, cellsF_append]; rfl
  have e5 : (cellsF c (l.take j)).length = j * F := by rw [cellsF_length hF, List.length_take]; congr 1; omega
  rw [e3, e4, ← e5]
  exact setN_mid _ _ _ _ (by simp [hF])
end
theorem wp_gen {C : Go.Code} {Q : Exit → Act → World → Prop} {a : Act} {w : World} (P : World → Prop) (h : P w) (k : ∀ w', P w' → Code.wp Tryz.prog C Q a w') : Code.wp Tryz.prog C Q a w := k w h
theorem ownsRow_some {w : World} {base g n cap F : Nat} {t : TypeId} {xs : List Value} (h : w.ownsRow base t F (.slice (some ⟨g, 0, none⟩) n cap) n xs) (j : Nat) (hj : j < n * F) : ∃ z, w.cell? ⟨g, j, none⟩ = some z := by
  refine ⟨xs[j]'(by rw [h.1]; exact hj), ?_⟩
  rw [World.ownsRow.cellAt h j hj, List.getElem?_eq_getElem]
theorem grownF {a b c : World} {o : Option Nat} (h : a.grownBy b o) (k : b.grownBy c o) : a.grownBy c o :=
  ⟨k.os.trans h.os, k.tape.trans h.tape, k.output.trans h.output, Nat.le_trans h.size k.size, fun i hi hne => (k.block i (Nat.lt_of_lt_of_le hi h.size) hne).trans (h.block i hi hne)⟩
end Go.Proofs.YtnlepnfdgdbkoaaGreatDoor
namespace Go.Proofs.YtnlepnfdgdbkoaaGreatDoor
open Go.RowKit M
set_option linter.unusedVariables false
section
variable {α : Type} {F : Nat} {c : α → Array Value} {z : α} {t : TypeId}
def RecAt (F : Nat) (c : α → Array Value) (w : World) (b o : Nat) (r : α) : Prop := ∀ k, k < F → w.cell? ⟨b, o + k, none⟩ = (c r)[k]?
theorem RecAt.below {w w' : World} {b o : Nat} {r : α} (h : RecAt F c w b o r) (hlt : b < w.heap.size) (hb : Below w.heap.size w w') : RecAt F c w' b o r :=
  fun k hk => (hb.cell (p := ⟨b, o + k, none⟩) hlt).trans (h k hk)
def RecsArg (F : Nat) (c : α → Array Value) (z : α) (w : World) (v : Value) (l : List α) : Prop :=
  ∃ A cap, v = .slice A l.length cap ∧ l.length ≤ cap ∧ cap ≤ maxLen ∧ (0 < l.length → ∃ b off, A = some ⟨b, off, none⟩ ∧ b < w.heap.size ∧ ∀ j, j < l.length → RecAt F c w b (off + j * F) (l.getD j z))
theorem RecsArg.below {w w' : World} {v : Value} {l : List α} (h : RecsArg F c z w v l) (hb : Below w.heap.size w w') : RecsArg F c z w' v l := by
  obtain ⟨A, cap, e, h1, h2, h3⟩ := h
  refine ⟨A, cap, e, h1, h2, fun hp => ?_⟩
  obtain ⟨b, off, ea, h4, h5⟩ := h3 hp
  exact ⟨b, off, ea, Nat.lt_of_lt_of_le h4 hb.size, fun j hj => (h5 j hj).below h4 hb⟩
theorem RecsArg.nil (w : World) : RecsArg F c z w (.slice none 0 0) [] := ⟨none, 0, rfl, Nat.zero_le _, Nat.zero_le _, fun h => absurd h (by simp)⟩
def OwnF (t : TypeId) (F : Nat) (c : α → Array Value) (w : World) (base : Nat) (v : Value) (l : List α) : Prop := w.ownsRow base t F v l.length (cellsF c l)
theorem OwnF.alloc {w : World} {base : Nat} {v : Value} {l : List α} (h : OwnF t F c w base v l) (o : Obj) : OwnF t F c (w.alloc o) base v l := World.ownsRow.alloc h o
theorem OwnF.kept {w w' : World} {base : Nat} {v : Value} {l : List α} {row : Option Nat} (h : OwnF t F c w base v l) (hg : w.grownBy w' row) (hne : v.ownBlock = none ∨ v.ownBlock ≠ row) : OwnF t F c w' base v l := World.ownsRow.kept h hg hne
theorem OwnF.base_le {w : World} {base : Nat} {v : Value} {l : List α} (h : OwnF t F c w base v l) : ∀ k, v.ownBlock = some k → base ≤ k := fun k hk => (World.ownsRow.lt h k hk).1
theorem OwnF.lt {w : World} {base : Nat} {v : Value} {l : List α} (h : OwnF t F c w base v l) : ∀ k, v.ownBlock = some k → k < w.heap.size := fun k hk => (World.ownsRow.lt h k hk).2
theorem OwnF.below {w w' : World} {base : Nat} {v : Value} {l : List α} (h : OwnF t F c w base v l) (hb : Below w.heap.size w w') : OwnF t F c w' base v l :=
  h.kept (row := none) ⟨hb.os, hb.tape, hb.output, hb.size, fun i hi _ => hb.block i hi⟩ (by cases v.ownBlock <;> simp)
theorem OwnF.base {w : World} {b b' : Nat} {v : Value} {l : List α} (h : OwnF t F c w b v l) (hb : b' ≤ b) : OwnF t F c w b' v l := by
  rcases h.2 with ⟨h1, h2⟩ | ⟨g, cap, cur, h1, h2, h3⟩
  · exact ⟨h.1, .inl ⟨h1, h2⟩⟩
  · exact ⟨h.1, .inr ⟨g, cap, cur, h1, Nat.le_trans hb h2, h3⟩⟩
theorem OwnF.shape {w : World} {base : Nat} {v : Value} {l : List α} (h : OwnF t F c w base v l) : ∃ A cap, v = .slice A l.length cap := by
  rcases h.2 with ⟨rfl, h0⟩ | ⟨g, cap, cur, rfl, _⟩
  · exact ⟨none, 0, by rw [h0]⟩
  · exact ⟨_, cap, rfl⟩
theorem OwnF.arg {w : World} {base : Nat} {v : Value} {l : List α} (h : OwnF t F c w base v l) (hF : ∀ r, (c r).size = F) (z : α) : RecsArg F c z w v l := by
  have h' := h
  rcases h.2 with ⟨rfl, h0⟩ | ⟨g, cap, cur, rfl, hb, hg, hn, hm, hc, ht⟩
  · exact ⟨none, 0, by rw [h0], by omega, Nat.zero_le _, fun h => by omega⟩
  · refine ⟨_, cap, rfl, hn, hm, fun _ => ⟨g, 0, rfl, (World.ownsRow.lt h' g rfl).2, fun j hj k hk => ?_⟩⟩
    have hlt : j * F + k < l.length * F := Nat.lt_of_lt_of_le (show j * F + k < (j + 1) * F by rw [Nat.add_mul]; omega) (Nat.mul_le_mul_right F hj)
    rw [Nat.zero_add, World.ownsRow.cellAt h' (j * F + k) hlt, cellsF_at hF z l j k hj hk]
theorem OwnF.at {w : World} {base g n cap : Nat} {l : List α} (h : OwnF t F c w base (.slice (some ⟨g, 0, none⟩) n cap) l) (hF : ∀ r, (c r).size = F) (z : α) (hn : l.length = n) (j : Nat) (hj : j < n) : RecAt F c w g (j * F) (l.getD j z) := by
  subst hn
  intro k hk
  have hlt : j * F + k < l.length * F := Nat.lt_of_lt_of_le (show j * F + k < (j + 1) * F by rw [Nat.add_mul]; omega) (Nat.mul_le_mul_right F hj)
  rw [World.ownsRow.cellAt h (j * F + k) hlt, cellsF_at hF z l j k hj hk]
theorem OwnF.frz {w : World} {base g n cap : Nat} {l : List α} (h : OwnF t F c w base (.slice (some ⟨g, 0, none⟩) n cap) l) (hn : l.length = n) (j : Nat) : w.frozen? ⟨g, j, none⟩ = false := by
  subst hn
  exact World.ownsRow.frozenAt h j
def putN (w : World) (g o : Nat) : List Value → World
  | [] => w
  | u :: us => putN (w.setCell ⟨g, o, none⟩ u) g (o + 1) us
theorem putN_own {w : World} {base g n cap : Nat} (us xs : List Value) (o : Nat) (h : w.ownsRow base t F (.slice (some ⟨g, 0, none⟩) n cap) n xs) :
    (putN w g o us).ownsRow base t F (.slice (some ⟨g, 0, none⟩) n cap) n (setN xs o us) ∧ w.grownBy (putN w g o us) (some g) := by
  induction us generalizing w xs o with
  | nil => exact ⟨h, World.grownBy.refl _ _⟩
  | cons u us ih =>
    have hs := World.ownsRow.stored h o u
    have := ih (w := w.setCell ⟨g, o, none⟩ u) (xs.set o u) (o + 1) hs.1
    exact ⟨this.1, grownF hs.2 this.2⟩
theorem OwnF.put {w : World} {base g n cap : Nat} {l : List α} (h : OwnF t F c w base (.slice (some ⟨g, 0, none⟩) n cap) l) (hF : ∀ r, (c r).size = F) (hn : l.length = n) (j : Nat) (hj : j < n) (r : α) :
    OwnF t F c (putN w g (j * F) (c r).toList) base (.slice (some ⟨g, 0, none⟩) n cap) (l.set j r) ∧ w.grownBy (putN w g (j * F) (c r).toList) (some g) := by
  subst hn
  have := putN_own (c r).toList (cellsF c l) (j * F) h
  refine ⟨?_, this.2⟩
  unfold OwnF
  rw [List.length_set, ← cellsF_set hF l j hj r]
  exact this.1
def MadeF (t : TypeId) (F : Nat) (c : α → Array Value) (w : World) (l : List α) (e : Ending) (w' : World) : Prop := ∃ v, e = .returned v ∧ OwnF t F c w' w.heap.size v l ∧ Below w.heap.size w w'
theorem zeroF_cells (zv : Value) (hz : zv.cells = c z) (hF : ∀ r, (c r).size = F) (h0 : 0 < F) (n : Nat) : (madeCells zv.cells (n * F)).toList = cellsF c (List.replicate n z) := by
  apply List.ext_getElem?
  intro i
  by_cases h : i < n * F
  · have hd : i / F < n := Nat.div_lt_of_lt_mul (by rw [Nat.mul_comm]; exact h)
    have hm : i % F < F := Nat.mod_lt _ h0
    have e : i = i / F * F + i % F := by rw [Nat.mul_comm]; exact (Nat.div_add_mod i F).symm
    have hg : (List.replicate n z).getD (i / F) z = z := by
      rw [List.getD_eq_getElem?_getD, List.getElem?_replicate]; split <;> rfl
    conv => rhs; rw [e]
    rw [cellsF_at hF z _ _ _ (by rw [List.length_replicate]; exact hd) hm, hz, hg, Array.getElem?_toList]
    unfold madeCells
    rw [hF, Array.getElem?_map, Array.getElem?_range, if_pos h]
    have hk : i % F < (c z).size := by rw [hF]; exact hm
    simp [getElem!_pos, hk]
  · rw [List.getElem?_eq_none (by rw [Array.length_toList, size_madeCells]; omega), List.getElem?_eq_none (by rw [cellsF_length hF, List.length_replicate]; omega)]
theorem below_madeF {w w1 : World} (hg : w.grownBy w1 none) : Below w.heap.size w w1 := (Below.refl _ _).grown hg (Nat.le_refl _) (by intro _ h; cases h)
end
end Go.Proofs.YtnlepnfdgdbkoaaGreatDoor
namespace Go.Proofs.YtnlepnfdgdbkoaaGreatDoor.M
open Go.RowKit
set_option linter.unusedVariables false
def keyB (c : Nat) : Bool := (decide (97 ≤ c) && decide (c ≤ 122)) || (decide (65 ≤ c) && decide (c ≤ 90)) || (decide (48 ≤ c) && decide (c ≤ 57)) || decide (c = 95)
theorem keyB_pos {c : Nat} (h : keyB c = true) : 48 ≤ c ∧ c ≤ 122 := by simp [keyB] at h; omega
def AllB (s : ByteArray) (j : Nat) : Prop := ∀ m (h : m < s.size), m < j → keyB s[m].toNat = true
theorem AllB.zero (s : ByteArray) : AllB s 0 := fun m _ h => absurd h (Nat.not_lt_zero _)
theorem AllB.next {s : ByteArray} {j : Nat} (h : AllB s j) (hj : j < s.size) (k : keyB s[j].toNat = true) : AllB s (j + 1) := fun m hm hl => by
  by_cases e : m = j
  · subst e; exact k
  · exact h m hm (by omega)
def keyOkV (s : ByteArray) : Bool := (decide (1 ≤ s.size) && decide (s.size ≤ 4)) && s.data.toList.all fun c => keyB c.toNat
theorem all_iff {s : ByteArray} : (s.data.toList.all fun c => keyB c.toNat) = true ↔ AllB s s.size := by
  rw [List.all_eq_true]
  constructor
  · intro h m hm _
    exact h _ (by rw [show s[m] = s.data.toList[m]'(by simpa using hm) from rfl]; exact List.getElem_mem _)
  · intro h c hc
    obtain ⟨m, hm, rfl⟩ := List.getElem_of_mem hc
    have hm' : m < s.size := by simpa using hm
    exact h m hm' hm'
theorem keyOkV_iff {s : ByteArray} : keyOkV s = true ↔ (1 ≤ s.size ∧ s.size ≤ 4) ∧ AllB s s.size := by
  unfold keyOkV
  rw [Bool.and_eq_true, Bool.and_eq_true, decide_eq_true_eq, decide_eq_true_eq, all_iff]
theorem keyOkV_no {s : ByteArray} {j : Nat} (hj : j < s.size) (h : keyB s[j].toNat = false) : keyOkV s = false := by
  rw [← Bool.not_eq_true]
  intro k
  have := (keyOkV_iff.1 k).2 j hj hj
  rw [h] at this; cases this
theorem keyOkV_size {s : ByteArray} (h : ¬ (1 ≤ s.size ∧ s.size ≤ 4)) : keyOkV s = false := by
  rw [← Bool.not_eq_true]; intro k; exact h (keyOkV_iff.1 k).1
def packV (s : ByteArray) : Nat := if keyOkV s = true then be s.data.toList else 0
theorem be_lt4 {s : ByteArray} (h : s.size ≤ 4) : be s.data.toList < 4294967296 := by
  have h1 := be_lt s.data.toList
  have h2 : s.data.toList.length ≤ 4 := by simpa using h
  have h3 : 256 ^ s.data.toList.length ≤ 256 ^ 4 := Nat.pow_le_pow_right (by decide) h2
  omega
theorem packV_lt (s : ByteArray) : packV s < 4294967296 := by
  unfold packV
  split
  · rename_i h; exact be_lt4 (keyOkV_iff.1 h).1.2
  · decide
def nbV (n : Nat) : Nat := if n = 0 then 0 else if n < 256 then 1 else if n < 65536 then 2 else if n < 16777216 then 3 else 4
def unb (n : Nat) : ByteArray := fxs n (nbV n)
theorem unb_size (n : Nat) : (unb n).size = nbV n := fxs_size _ _
def unV (n : Int) : Option ByteArray := if 1 ≤ n ∧ n ≤ 4294967295 then (if keyOkV (unb n.toNat) = true then some (unb n.toNat) else none) else none
def unT : Option ByteArray → Value
  | some s => .tuple #[.string s, .bool true]
  | none => .tuple #[.string ⟨#[]⟩, .bool false]
theorem unT_none : unT none = .tuple #[.string ⟨#[]⟩, .bool false] := rfl
theorem unT_some (s : ByteArray) : unT (some s) = .tuple #[.string s, .bool true] := rfl
def hashS (h c : Nat) : Nat := (h ^^^ c) * 16777619 % 4294967296
def hashF (h : Nat) (c : UInt8) : Nat := hashS h c.toNat
def hash0 : Nat := 2166136261
def hashT (l : List UInt8) : Nat := l.foldl hashF hash0
theorem hashF_lt (h : Nat) (c : UInt8) : hashF h c < 4294967296 := Nat.mod_lt _ (by decide)
theorem hash_fold_lt : ∀ (l : List UInt8) (h : Nat), h < 4294967296 → l.foldl hashF h < 4294967296
  | [], _, hh => hh
  | c :: l, h, _ => hash_fold_lt l (hashF h c) (hashF_lt h c)
theorem hashT_lt (l : List UInt8) : hashT l < 4294967296 := hash_fold_lt l hash0 (by decide)
theorem hash_fold_snoc (h : Nat) (l : List UInt8) (c : UInt8) : (l ++ [c]).foldl hashF h = hashF (l.foldl hashF h) c := by
  rw [List.foldl_append, List.foldl_cons, List.foldl_nil]
theorem hashT_snoc (l : List UInt8) (c : UInt8) : hashT (l ++ [c]) = hashS (hashT l) c.toNat := hash_fold_snoc hash0 l c
theorem hashT_take (s : ByteArray) (k : Nat) (h : k < s.size) : hashT (s.data.toList.take (k + 1)) = hashS (hashT (s.data.toList.take k)) s[k].toNat := by
  rw [take_snoc s k h, hashT_snoc]
def hashV (s : ByteArray) : Nat := hashT s.data.toList
theorem xor_lt32 {a b : Nat} (ha : a < 4294967296) (hb : b < 4294967296) : a ^^^ b < 4294967296 := Nat.xor_lt_two_pow (n := 32) (by omega) (by omega)
def probeV (s : ByteArray) (n : Int) : Int := if keyOkV s = true ∧ 0 ≤ n ∧ n ≤ 3 then ((hashV s : Int) + n) % 4 else -1
theorem nbV_le (m : Nat) : nbV m ≤ 4 := by unfold nbV; (repeat' split) <;> omega
theorem hash_next (h c : Nat) : (((h ^^^ c : Nat) : Int) * 16777619) % 4294967296 = (hashS h c : Nat) := by unfold hashS; omega
theorem u8_of (c : UInt8) (n : Nat) (h : n % 256 = c.toNat) : UInt8.ofNat n = c := by
  apply UInt8.toNat_inj.1; simp; exact h
theorem fx_four {l : List UInt8} (h : l.length ≤ 4) : fx (be l) l.length = l := by
  match l, h with
  | [], _ => rfl
  | [a], _ =>
    have ha := a.toNat_lt
    simp only [be, List.foldl, List.length, fx, dv]
    rw [u8_of a _ (by omega)]
  | [a, b], _ =>
    have ha := a.toNat_lt; have hb := b.toNat_lt
    simp only [be, List.foldl, List.length, fx, dv]
    rw [u8_of a _ (by omega), u8_of b _ (by omega)]
  | [a, b, c], _ =>
    have ha := a.toNat_lt; have hb := b.toNat_lt; have hc := c.toNat_lt
    simp only [be, List.foldl, List.length, fx, dv]
    rw [u8_of a _ (by omega), u8_of b _ (by omega), u8_of c _ (by omega)]
  | [a, b, c, d], _ =>
    have ha := a.toNat_lt; have hb := b.toNat_lt; have hc := c.toNat_lt; have hd := d.toNat_lt
    simp only [be, List.foldl, List.length, fx, dv]
    rw [u8_of a _ (by omega), u8_of b _ (by omega), u8_of c _ (by omega), u8_of d _ (by omega)]
  | _ :: _ :: _ :: _ :: _ :: _, h => simp at h
theorem nb_1 {n : Nat} (h : 1 ≤ n ∧ n < 256) : nbV n = 1 := by unfold nbV; rw [if_neg (by omega), if_pos (by omega)]
theorem nb_2 {n : Nat} (h : 256 ≤ n ∧ n < 65536) : nbV n = 2 := by unfold nbV; rw [if_neg (by omega), if_neg (by omega), if_pos (by omega)]
theorem nb_3 {n : Nat} (h : 65536 ≤ n ∧ n < 16777216) : nbV n = 3 := by unfold nbV; rw [if_neg (by omega), if_neg (by omega), if_neg (by omega), if_pos (by omega)]
theorem nb_4 {n : Nat} (h : 16777216 ≤ n) : nbV n = 4 := by unfold nbV; rw [if_neg (by omega), if_neg (by omega), if_neg (by omega), if_neg (by omega)]
theorem nb_four {l : List UInt8} (h : l.length ≤ 4) (h0 : ∀ c ∈ l.head?, 0 < c.toNat) : nbV (be l) = l.length := by
  match l, h with
  | [], _ => rfl
  | [a], _ =>
    have ha := a.toNat_lt
    have h1 := h0 a rfl
    exact nb_1 (by simp only [be, List.foldl]; omega)
  | [a, b], _ =>
    have ha := a.toNat_lt; have hb := b.toNat_lt
    have h1 := h0 a rfl
    exact nb_2 (by simp only [be, List.foldl]; omega)
  | [a, b, c], _ =>
    have ha := a.toNat_lt; have hb := b.toNat_lt; have hc := c.toNat_lt
    have h1 := h0 a rfl
    exact nb_3 (by simp only [be, List.foldl]; omega)
  | [a, b, c, d], _ =>
    have ha := a.toNat_lt; have hb := b.toNat_lt; have hc := c.toNat_lt; have hd := d.toNat_lt
    have h1 := h0 a rfl
    exact nb_4 (by simp only [be, List.foldl]; omega)
  | _ :: _ :: _ :: _ :: _ :: _, h => simp at h
theorem key_head {s : ByteArray} (h : keyOkV s = true) : ∀ c ∈ s.data.toList.head?, 0 < c.toNat := by
  intro c hc
  have hm : c ∈ s.data.toList := List.mem_of_mem_head? hc
  have := h
  unfold keyOkV at this
  rw [Bool.and_eq_true, List.all_eq_true] at this
  have := keyB_pos (this.2 c hm)
  omega
theorem unb_be {s : ByteArray} (h : keyOkV s = true) : unb (be s.data.toList) = s := by
  have h4 := (keyOkV_iff.1 h).1.2
  have hl : s.data.toList.length ≤ 4 := by simpa using h4
  unfold unb fxs
  rw [nb_four hl (key_head h), fx_four hl]
theorem be_some {s : ByteArray} (h : keyOkV s = true) : 1 ≤ be s.data.toList := by
  have h4 := (keyOkV_iff.1 h).1
  have hl : s.data.toList.length ≤ 4 := by simpa using h4.2
  have e := nb_four hl (key_head h)
  rcases Nat.eq_zero_or_pos (be s.data.toList) with h0 | h0
  · rw [h0] at e
    have : s.size = 0 := by have : s.data.toList.length = 0 := e.symm; simpa using this
    omega
  · exact h0
theorem unV_pack {s : ByteArray} (h : keyOkV s = true) : unV (packV s : Nat) = some s ∧ 1 ≤ packV s := by
  have e : packV s = be s.data.toList := if_pos h
  have hlt := packV_lt s
  have hp : 1 ≤ packV s := by rw [e]; exact be_some h
  refine ⟨?_, hp⟩
  unfold unV
  rw [if_pos (by omega), Int.toNat_natCast, e, unb_be h, if_pos h]
theorem be_fx4 {n : Nat} (h : n ≤ 4294967295) : be (fx n (nbV n)) = n := by
  unfold nbV
  (repeat' split) <;> simp only [fx, be, List.foldl, dv, UInt8.toNat_ofNat'] <;> omega
theorem pack_unV {n : Int} {s : ByteArray} (h : unV n = some s) : keyOkV s = true ∧ (packV s : Int) = n := by
  unfold unV at h
  split at h
  · split at h
    · rename_i h1 h2
      injection h with h
      subst h
      refine ⟨h2, ?_⟩
      have e : packV (unb n.toNat) = be (unb n.toNat).data.toList := if_pos h2
      rw [e]
      have : (unb n.toNat).data.toList = fx n.toNat (nbV n.toNat) := rfl
      rw [this, be_fx4 (by omega)]; omega
    · cases h
  · cases h
theorem probeV_yes {s : ByteArray} (h : keyOkV s = true) {k : Nat} (hk : k < 4) : probeV s (k : Nat) = ((hashV s : Int) + k) % 4 := if_pos ⟨h, by omega, by omega⟩
end Go.Proofs.YtnlepnfdgdbkoaaGreatDoor.M
namespace Go.Proofs.YtnlepnfdgdbkoaaGreatDoor.M
open Go.RowKit
set_option linter.unusedVariables false
structure R where
  key : ByteArray
  kind : Int
  sum : Int
  set : Bool
  last : Int
  n : Int
  mn : Int
  mx : Int
  total : Int
  dropped : Int
def R.v (r : R) : Value := .agg #[.string r.key, .int .i64 r.kind, .int .i64 r.sum, .bool r.set, .int .i64 r.last, .int .i64 r.n, .int .i64 r.mn, .int .i64 r.mx, .int .i64 r.total, .int .i64 r.dropped]
def rowCells (r : R) : Array Value := #[.string r.key, .int .i64 r.kind, .int .i64 r.sum, .bool r.set, .int .i64 r.last, .int .i64 r.n, .int .i64 r.mn, .int .i64 r.mx, .int .i64 r.total, .int .i64 r.dropped]
def zeroR : R := ⟨⟨#[]⟩, 0, 0, false, 0, 0, 0, 0, 0, 0⟩
def inW (x : Int) : Prop := -9223372036854775808 ≤ x ∧ x ≤ 9223372036854775807
structure R.Fit (r : R) : Prop where
  key : r.key.size ≤ maxLen
  kind : inW r.kind
  sum : inW r.sum
  last : inW r.last
  n : inW r.n
  mn : inW r.mn
  mx : inW r.mx
  total : inW r.total
  dropped : inW r.dropped
def quietV (r : R) : Bool := r.sum == 0 && (!r.set && r.n == 0)
def timerV (r : R) : Bool :=
  if r.n = 0 then decide (r.mn = 0 ∧ r.mx = 0 ∧ r.total = 0 ∧ r.dropped = 0)
  else decide ((1 ≤ r.n ∧ r.n ≤ 3) ∧ (0 ≤ r.mn ∧ r.mn ≤ r.mx) ∧ r.mx ≤ 65535 ∧ (r.mn * r.n ≤ r.total ∧ r.total ≤ r.mx * r.n) ∧ (0 ≤ r.dropped ∧ r.dropped ≤ 65535) ∧ (r.dropped = 0 ∨ r.n = 3))
def countV (r : R) : Bool := decide ((0 ≤ r.sum ∧ r.sum ≤ 281474976710655) ∧ r.set = false ∧ r.last = 0 ∧ r.n = 0 ∧ r.mn = 0 ∧ r.mx = 0 ∧ r.total = 0 ∧ r.dropped = 0)
def gaugeRV (r : R) : Bool := decide ((0 ≤ r.last ∧ r.last ≤ 65535) ∧ (r.set = true ∨ r.last = 0) ∧ r.sum = 0 ∧ r.n = 0 ∧ r.mn = 0 ∧ r.mx = 0 ∧ r.total = 0 ∧ r.dropped = 0)
def rowOkV (r : R) : Bool := keyOkV r.key && (if r.kind = 1 then countV r else if r.kind = 2 then gaugeRV r else if r.kind = 3 then decide (r.sum = 0 ∧ r.set = false ∧ r.last = 0) && timerV r else false)
def sampledV (r : R) (v : Int) : R :=
  if rowOkV r = true ∧ r.kind = 3 ∧ (0 ≤ v ∧ v ≤ 65535) then
    (if r.n = 3 then { r with dropped := if r.dropped < 65535 then r.dropped + 1 else 65535 }
     else if r.n = 0 then { r with mn := v, mx := v, total := r.total + v, n := 1 }
     else { r with mn := if r.mn ≤ v then r.mn else v, mx := if v ≤ r.mx then r.mx else v, total := r.total + v, n := r.n + 1 })
  else r
theorem timer_facts {r : R} (h : rowOkV r = true) (hk : r.kind = 3) : r.sum = 0 ∧ r.set = false ∧ r.last = 0 ∧ (0 ≤ r.n ∧ r.n ≤ 3) ∧ (0 ≤ r.mn ∧ r.mn ≤ r.mx) ∧ r.mx ≤ 65535 ∧ (0 ≤ r.total ∧ r.total ≤ 196605) ∧ (0 ≤ r.dropped ∧ r.dropped ≤ 65535) := by
  unfold rowOkV at h
  rw [if_neg (by omega), if_neg (by omega), if_pos hk, Bool.and_eq_true, Bool.and_eq_true, decide_eq_true_eq] at h
  obtain ⟨_, ⟨h1, h2, h3⟩, ht⟩ := h
  unfold timerV at ht
  split at ht
  · rename_i h0
    simp only [decide_eq_true_eq] at ht
    exact ⟨h1, h2, h3, by omega⟩
  · simp only [decide_eq_true_eq] at ht
    obtain ⟨⟨a1, a2⟩, ⟨b1, b2⟩, c, ⟨d1, d2⟩, e, _⟩ := ht
    have hn : r.n = 1 ∨ r.n = 2 ∨ r.n = 3 := by omega
    refine ⟨h1, h2, h3, ⟨by omega, a2⟩, ⟨b1, b2⟩, c, ?_, e⟩
    rcases hn with h | h | h <;> rw [h] at d1 d2 <;> omega
end Go.Proofs.YtnlepnfdgdbkoaaGreatDoor.M
namespace Go.Proofs.YtnlepnfdgdbkoaaGreatDoor.M
open Go.RowKit
set_option linter.unusedVariables false
structure O where
  kind : Int
  key : ByteArray
  what : Int
  val : Int
def O.v (r : O) : Value := .agg #[.int .i64 r.kind, .string r.key, .int .i64 r.what, .int .i64 r.val]
def opCells (r : O) : Array Value := #[.int .i64 r.kind, .string r.key, .int .i64 r.what, .int .i64 r.val]
def zeroO : O := ⟨0, ⟨#[]⟩, 0, 0⟩
structure O.Fit (r : O) : Prop where
  kind : inW r.kind
  key : r.key.size ≤ maxLen
  what : inW r.what
  val : inW r.val
end Go.Proofs.YtnlepnfdgdbkoaaGreatDoor.M
namespace Go.Proofs.YtnlepnfdgdbkoaaGreatDoor
open Go.RowKit M
set_option linter.unusedVariables false
theorem atOp {w : World} {b o : Nat} {r : O} (h : RecAt 4 opCells w b o r) : w.cell? ⟨b, o, none⟩ = some (.int .i64 r.kind) ∧ w.cell? ⟨b, o + 1, none⟩ = some (.string r.key) ∧ w.cell? ⟨b, o + 2, none⟩ = some (.int .i64 r.what) ∧ w.cell? ⟨b, o + 3, none⟩ = some (.int .i64 r.val) :=
  ⟨h 0 (by decide), h 1 (by decide), h 2 (by decide), h 3 (by decide)⟩
theorem info_Op : (Tryz.prog.info? 36).map (fun i => (i.zero, i.size, i.bytes)) = some (some zeroO.v, 4, 40) := by kernel_rfl
instance : Inhabited O := ⟨zeroO⟩
end Go.Proofs.YtnlepnfdgdbkoaaGreatDoor
namespace Go.Proofs.YtnlepnfdgdbkoaaGreatDoor
open Go.RowKit
set_option linter.unusedVariables false
def Gives (v : Value) (w : World) (e : Ending) (w' : World) : Prop := e = .returned v ∧ Below w.heap.size w w'
theorem gives_same {v : Value} {w w' : World} {e : Ending} (h : e = .returned v ∧ w = w') : Gives v w e w' := ⟨h.1, by rw [h.2]; exact Below.refl _ _⟩
def Same (w : World) (v : Value) (e : Ending) (w' : World) : Prop := e = .returned v ∧ w = w'
theorem ret_i {a b : Int} (h : a = b) : Ending.returned (.int .i64 a) = .returned (.int .i64 b) := by rw [h]
theorem ret_ii {a b c d : Int} (h : a = c) (k : b = d) : Ending.returned (.tuple #[.int .i64 a, .int .i64 b]) = .returned (.tuple #[.int .i64 c, .int .i64 d]) := by rw [h, k]
theorem below_drew (B : Nat) (w : World) : Below B w w.drew := ⟨rfl, rfl, rfl, Nat.le_refl _, fun _ _ => rfl⟩
end Go.Proofs.YtnlepnfdgdbkoaaGreatDoor
namespace Go.Proofs.YtnlepnfdgdbkoaaGreatDoor
open Go.RowKit
set_option linter.unusedVariables false
structure WQ (P : Program) (ops : Array Oper) (C : World → Prop) (Q : Act → Prop) (l : List Oper) (a : Act) : Prop where
  run : wpQuiet P ops C Q l a
theorem WQ.nil {P : Program} {ops : Array Oper} {C : World → Prop} {Q : Act → Prop} {a : Act} (h : Q a) : WQ P ops C Q [] a := ⟨wpQuiet_nil h⟩
theorem WQ.step {P : Program} {ops : Array Oper} {C : World → Prop} {Q : Act → Prop} {a : Act} {o : Oper} {rest : List Oper}
    (h : ∀ K : Act → Prop, (∀ a, WQ P ops C Q rest a → K a) → if Region.wanted o (yielded ops a.tmps) then o.quiet P a C K else K (a.put o.dst undef)) : WQ P ops C Q (o :: rest) a :=
  ⟨wpQuiet_step (fun K hK => h K (fun a ha => hK a ha.run))⟩
theorem wp_region_wq {P : Program} {C : World → Prop} {id : Nat} {Q : Exit → Act → World → Prop} {a : Act} {w : World} {l : List Oper} (hm : P.follows .mixedOrders = true) (hB : Region.lexB .any l.toArray = true) (hC : C w.drew)
    (h : WQ P l.toArray C (fun a' => ∀ w', C w' → Q .normal a' w') l a) : (Code.region id l.toArray true).wp P Q a w :=
  wp_region_quiet (C := C) hm hB hC (by simpa using h.run)
end Go.Proofs.YtnlepnfdgdbkoaaGreatDoor
namespace Go.Proofs.YtnlepnfdgdbkoaaGreatDoor
open Go.RowKit
set_option linter.unusedVariables false
structure HoldsC (F : World → Prop) (w : World) : Prop where
  out : F w
section
variable {P : Program} {md : Region.Mode} {ops : Array Oper} {C : World → Prop}
def wpPre (P : Program) (md : Region.Mode) (ops : Array Oper) (C : World → Prop) (n : Nat) (Q : Array Bool → Act → Prop) : Nat → Array Bool → Act → Prop
  | 0, listed, a => (∀ k, k < n → listed.getD k true = true) ∧ Q listed a
  | fuel + 1, listed, a => Region.ready md ops listed ≠ [] ∧ ∀ i ∈ Region.ready md ops listed, qOp P ops C i (wpPre P md ops C n Q fuel (listed.setIfInBounds i true)) a
theorem wpAny_of_pre {n m : Nat} {Q : Array Bool → Act → Prop} {Q' : Exit → Act → World → Prop} (hQ : ∀ listed a w, C w → Q listed a → wpAny P md ops Q' m listed a w) : ∀ (fuel : Nat) (listed : Array Bool) (a : Act) (w : World), C w →
    wpPre P md ops C n Q fuel listed a → wpAny P md ops Q' (fuel + m) listed a w
  | 0, _, _, _, hw, h => by rw [Nat.zero_add]; exact hQ _ _ _ hw h.2
  | fuel + 1, _, _, _, hw, h => by
    rw [show fuel + 1 + m = (fuel + m) + 1 by omega]
    exact ⟨fun h0 => absurd h0 h.1, fun i hi => wpOp_of_qOp hw (fun a' w' hw' => wpAny_of_pre hQ fuel _ a' w' hw') (h.2 i hi)⟩
theorem wpPre_first {n : Nat} {Q : Array Bool → Act → Prop} {i : Nat} {oi : Oper} {v : Value} (hi : ops[i]? = some oi) (hin : i < n) (hsel : ∀ (j : Nat) (o : Oper) cs b, ops[j]? = some o → o.op ≠ .select cs b)
    (hpost : ∀ j oj, ops[j]? = some oj → n ≤ j → ∀ k, k < n → ∃ e ∈ oj.after, Region.binds md e = true ∧ e.on = k) :
    ∀ (fuel : Nat) (listed : Array Bool) (a : Act),
      (∀ j oj, ops[j]? = some oj → j ≠ i → listed.getD j true = false → (∀ e ∈ oj.after, Region.binds md e = true → e.on ≠ i) → oi.apart ops oj = true) →
      i ∈ Region.ready md ops listed → YieldsIn P ops C oi v a →
      wpPre P md ops C n Q fuel (listed.setIfInBounds i true) (a.put oi.dst v) → wpPre P md ops C n Q (fuel + 1) listed a := by
  have hun : ∀ {listed : Array Bool} {j : Nat}, i ∈ Region.ready md ops listed → j ∈ Region.ready md ops listed → n ≤ j → False := by
    intro listed j hr hj hnj
    obtain ⟨_, oj, hoj, hall⟩ := mem_ready.1 hj
    obtain ⟨e, he, hb, rfl⟩ := hpost j oj hoj hnj i hin
    have h1 := hall e he hb
    have h0 := (mem_ready.1 hr).1
    rcases Nat.lt_or_ge e.on listed.size with h' | h'
    · simp [h'] at h0 h1; rw [h0] at h1; cases h1
    · simp [Array.getElem?_eq_none h'] at h1
  intro fuel
  induction fuel with
  | zero =>
    intro listed a _ hr hy H
    refine ⟨fun h => (by rw [h] at hr; cases hr), fun j hj => ?_⟩
    by_cases hji : j = i
    · subst hji; exact hy.qOp hi H
    · exfalso
      rcases Nat.lt_or_ge j n with h1 | h1
      · have h2 := H.1 j h1
        rw [getD_set_ne true (Ne.symm hji), (mem_ready.1 hj).1] at h2
        cases h2
      · exact hun hr hj h1
  | succ fuel ih =>
    intro listed a hfree hr hy H
    refine ⟨fun h => (by rw [h] at hr; cases hr), fun j hj => ?_⟩
    by_cases hji : j = i
    · subst hji; exact hy.qOp hi H
    · have h1 := H.2 j (ready_mono hj hji)
      obtain ⟨hjun, oj, hoj, hall⟩ := mem_ready.1 hj
      have hnot : ∀ e ∈ oj.after, Region.binds md e = true → e.on ≠ i := fun e he hb heq => by
        have h1 := hall e he hb
        have h0 := (mem_ready.1 hr).1
        rw [heq] at h1
        rcases Nat.lt_or_ge i listed.size with h' | h'
        · simp [h'] at h0 h1; rw [h0] at h1; cases h1
        · simp [Array.getElem?_eq_none h'] at h1
      have h2 := qOp_put hoj (hfree j oj hoj hji hjun hnot) (fun cs b => hsel i oi cs b hi) (fun cs b => hsel j oj cs b hoj) hy h1
      have hfree' : ∀ k ok, ops[k]? = some ok → k ≠ i → (listed.setIfInBounds j true).getD k true = false →
          (∀ e ∈ ok.after, Region.binds md e = true → e.on ≠ i) → oi.apart ops ok = true := fun k ok hk hki hun hno => by
        refine hfree k ok hk hki ?_ hno
        by_cases hjk : j = k
        · subst hjk; exact hjun
        · rw [getD_set_ne true hjk] at hun; exact hun
      refine qOp_mono (fun a' h3 => ih (listed.setIfInBounds j true) a' hfree' (ready_mono hr (Ne.symm hji)) h3.1 ?_) h2
      rw [Array.setIfInBounds_comm _ _ hji]
      exact h3.2
def preB (md : Region.Mode) (ops : Array Oper) (n : Nat) : Nat → Nat → Array Bool → Bool
  | 0, k, listed => ((List.range n).all fun j => listed.getD j true) && (Region.ready md ops listed == [n]) && (Region.ready md ops (listed.setIfInBounds n true)).isEmpty
  | fuel + 1, k, listed => decide (k < n) && ((Region.ready md ops listed).contains k && Region.free md ops listed k && preB md ops n fuel (k + 1) (listed.setIfInBounds k true))
def postB (md : Region.Mode) (ops : Array Oper) (n : Nat) : Bool := (List.range ops.size).all fun j => decide (j < n) || match ops[j]? with
  | some o => (List.range n).all fun k => o.after.any fun e => Region.binds md e && e.on == k
  | none => true
def tailB (md : Region.Mode) (ops : Array Oper) (n : Nat) : Bool := Region.noSelect ops && (postB md ops n && (decide (ops.size = n + 1) && preB md ops n n 0 (Array.replicate ops.size false)))
theorem post_spec {n : Nat} (h : postB md ops n = true) (j : Nat) (oj : Oper) (hj : ops[j]? = some oj) (hn : n ≤ j) (k : Nat) (hk : k < n) : ∃ e ∈ oj.after, Region.binds md e = true ∧ e.on = k := by
  unfold postB at h
  rw [List.all_eq_true] at h
  have h1 := h j (List.mem_range.2 (Array.getElem?_eq_some_iff.1 hj).1)
  rw [hj, decide_eq_false (by omega), Bool.false_or] at h1
  simp only [List.all_eq_true] at h1
  have h2 := h1 k (List.mem_range.2 hk)
  rw [Array.any_eq_true] at h2
  obtain ⟨i, hi, h3⟩ := h2
  rw [Bool.and_eq_true, beq_iff_eq] at h3
  exact ⟨oj.after[i], Array.getElem_mem hi, h3.1, h3.2⟩
theorem wpPre_lex {n : Nat} {Q : Act → Prop} (hs : Region.noSelect ops = true) (hp : postB md ops n = true) : ∀ (l : List Oper) (k : Nat) (listed : Array Bool) (a : Act), (∀ j, j < l.length → l[j]? = ops[k + j]?) →
    preB md ops n l.length k listed = true → wpQuiet P ops C Q l a → wpPre P md ops C n (fun listed a => (Region.ready md ops listed = [n] ∧ Region.ready md ops (listed.setIfInBounds n true) = []) ∧ Q a) l.length listed a
  | [], _, _, _, _, hB, h => by
    simp only [List.length_nil, preB, Bool.and_eq_true, List.all_eq_true, List.mem_range, beq_iff_eq, List.isEmpty_iff] at hB
    exact ⟨hB.1.1, ⟨hB.1.2, hB.2⟩, h⟩
  | o :: l, k, listed, a, hl, hB, h => by
    have h0 : ops[k]? = some o := by simpa using (hl 0 (by simp)).symm
    simp only [List.length_cons, preB, Bool.and_eq_true, decide_eq_true_eq] at hB
    obtain ⟨hk, ⟨hr, hf⟩, hB'⟩ := hB
    have hst : qOp P ops C k (wpQuiet P ops C Q l) a := by unfold qOp; simp only [h0]; exact h
    obtain ⟨v, hy, hK⟩ := yieldsIn_of_qOp h0 hst
    exact wpPre_first h0 hk (Region.noSelect_spec hs) (post_spec hp) l.length listed a (Region.free_spec h0 hf) (by simpa using hr) hy
      (wpPre_lex hs hp l (k + 1) _ _ (fun j hj => by have := hl (j + 1) (by simpa using hj); simpa [Nat.add_assoc, Nat.add_comm 1 j] using this) hB' hK)
end
theorem wp_region_tail {P : Program} {C : World → Prop} {id : Nat} {Q : Exit → Act → World → Prop} {a : Act} {w : World} {l : List Oper} {o : Oper} (hm : P.follows .mixedOrders = true) (hB : tailB .any (l ++ [o]).toArray l.length = true) (hC : C w.drew)
    (h : WQ P (l ++ [o]).toArray C (fun a' => ∀ w', C w' → (Region.wanted o (yielded (l ++ [o]).toArray a'.tmps) = true ∧ o.wp P a' w' (fun a'' w'' => Q .normal a'' w'') Q)) l a) : (Code.region id (l ++ [o]).toArray true).wp P Q a w := by
  simp only [tailB, Bool.and_eq_true, decide_eq_true_eq] at hB
  obtain ⟨hs, hp, hz, hpre⟩ := hB
  refine wp_region_any hm ?_
  rw [hz]
  rw [hz] at hpre
  refine wpAny_of_pre (C := C) (m := 1) (Q := fun listed a' => (Region.ready .any (l ++ [o]).toArray listed = [l.length] ∧ Region.ready .any (l ++ [o]).toArray (listed.setIfInBounds l.length true) = []) ∧ ∀ w', C w' → (Region.wanted o (yielded (l ++ [o]).toArray a'.tmps) = true ∧ o.wp P a' w' (fun a'' w'' => Q .normal a'' w'') Q)) ?_ l.length _ _ _ hC
    (wpPre_lex hs hp l 0 _ a (fun j hj => by rw [Nat.zero_add]; simp [List.getElem?_append_left hj]) hpre h.run)
  intro listed a' w' hw ⟨⟨hr, hr2⟩, hq⟩
  obtain ⟨h1, h2⟩ := hq w' hw
  refine ⟨fun h0 => (by rw [hr] at h0; cases h0), fun i hi => ?_⟩
  rw [hr] at hi
  obtain rfl : i = l.length := by simpa using hi
  unfold wpOp
  have ho : (l ++ [o]).toArray[l.length]? = some o := by simp
  simp only [ho, h1, if_true]
  refine .inl ?_
  have hK : (wpAny P .any (l ++ [o]).toArray Q 0 (listed.setIfInBounds l.length true)) = fun a'' w'' => Q .normal a'' w'' := by
    funext a'' w''
    unfold wpAny
    simp only [hr2, true_and]
  rw [hK]
  exact h2
theorem wp_region_tail_lit {P : Program} {C : World → Prop} {id : Nat} {Q : Exit → Act → World → Prop} {a : Act} {w : World} {L : List Oper} {o : Oper} (hm : P.follows .mixedOrders = true) (hB : tailB .any L.toArray (L.length - 1) = true) (ho : L.getLast? = some o) (hC : C w.drew)
    (h : WQ P L.toArray C (fun a' => ∀ w', C w' → (Region.wanted o (yielded L.toArray a'.tmps) = true ∧ o.wp P a' w' (fun a'' w'' => Q .normal a'' w'') Q)) L.dropLast a) : (Code.region id L.toArray true).wp P Q a w := by
  have e : L = L.dropLast ++ [o] := by
    cases L with
    | nil => cases ho
    | cons x l =>
      rw [List.getLast?_eq_some_getLast (by simp)] at ho
      injection ho with ho
      rw [← ho]; exact (List.dropLast_concat_getLast (by simp)).symm
  have hn : L.length - 1 = L.dropLast.length := by rw [List.length_dropLast]
  rw [hn] at hB
  generalize L.dropLast = l at *
  subst e
  exact wp_region_tail hm hB hC h
end Go.Proofs.YtnlepnfdgdbkoaaGreatDoor
namespace Go.Proofs.YtnlepnfdgdbkoaaGreatDoor
open Go.RowKit M
set_option linter.unusedVariables false
def Ap (v u : Value) : Prop := v.ownBlock = none ∨ v.ownBlock ≠ u.ownBlock
theorem Ap.of {v u : Value} {B : Nat} (hv : ∀ k, v.ownBlock = some k → k < B) (hu : ∀ k, u.ownBlock = some k → B ≤ k) : Ap v u ∧ Ap u v := by
  cases ev : v.ownBlock with
  | none => exact ⟨.inl ev, by cases eu : u.ownBlock with
      | none => exact .inl eu
      | some k => exact .inr (by rw [eu, ev]; intro h; cases h)⟩
  | some k =>
    have h1 := hv k ev
    refine ⟨.inr ?_, ?_⟩
    · rw [ev]; intro h; have := hu k h.symm; omega
    · cases eu : u.ownBlock with
      | none => exact .inl eu
      | some j => exact .inr (by rw [eu, ev]; intro h; injection h with h; have := hu j eu; omega)
theorem Ap.symm {v u : Value} (h : Ap v u) : Ap u v := by
  cases eu : u.ownBlock with
  | none => exact .inl eu
  | some j =>
    refine .inr ?_
    rcases h with h | h
    · rw [eu, h]; intro k; cases k
    · exact fun k => h (by rw [k])
structure Rw where
  v : Value
  t : TypeId
  F : Nat
  n : Nat
  cs : List Value
def Rw.own (w : World) (base : Nat) (r : Rw) : Prop := w.ownsRow base r.t r.F r.v r.n r.cs
structure Heap (w : World) (base : Nat) (L : List Rw) : Prop where
  own : ∀ r ∈ L, r.own w base
  ap : L.Pairwise fun a b => Ap a.v b.v ∧ Ap b.v a.v
theorem Heap.nil (w : World) (base : Nat) : Heap w base [] := ⟨fun r h => (by cases h), List.Pairwise.nil⟩
theorem Heap.lt {w : World} {base : Nat} {L : List Rw} (h : Heap w base L) {r : Rw} (hr : r ∈ L) : ∀ k, r.v.ownBlock = some k → k < w.heap.size := fun k hk => (World.ownsRow.lt (h.own r hr) k hk).2
theorem Heap.base_le {w : World} {base : Nat} {L : List Rw} (h : Heap w base L) {r : Rw} (hr : r ∈ L) : ∀ k, r.v.ownBlock = some k → base ≤ k := fun k hk => (World.ownsRow.lt (h.own r hr) k hk).1
theorem Rw.own_base {w : World} {b b' : Nat} {r : Rw} (h : r.own w b) (hb : b' ≤ b) : r.own w b' := by
  rcases h.2 with ⟨h1, h2⟩ | ⟨g, cap, cur, h1, h2, h3⟩
  · exact ⟨h.1, .inl ⟨h1, h2⟩⟩
  · exact ⟨h.1, .inr ⟨g, cap, cur, h1, Nat.le_trans hb h2, h3⟩⟩
theorem Heap.base {w : World} {b b' : Nat} {L : List Rw} (h : Heap w b L) (hb : b' ≤ b) : Heap w b' L := ⟨fun r hr => Rw.own_base (h.own r hr) hb, h.ap⟩
theorem Heap.grown {w w' : World} {base : Nat} {L : List Rw} {row : Option Nat} (h : Heap w base L) (hg : w.grownBy w' row) (hne : ∀ r ∈ L, r.v.ownBlock = none ∨ r.v.ownBlock ≠ row) : Heap w' base L :=
  ⟨fun r hr => World.ownsRow.kept (h.own r hr) hg (hne r hr), h.ap⟩
theorem Heap.below {w w' : World} {base : Nat} {L : List Rw} (h : Heap w base L) (hb : Below w.heap.size w w') : Heap w' base L :=
  h.grown (row := none) ⟨hb.os, hb.tape, hb.output, hb.size, fun i hi _ => hb.block i hi⟩ (fun r _ => by cases r.v.ownBlock <;> simp)
theorem Heap.alloc {w : World} {base : Nat} {L : List Rw} (h : Heap w base L) (o : Obj) : Heap (w.alloc o) base L := ⟨fun r hr => World.ownsRow.alloc (h.own r hr) o, h.ap⟩
theorem Heap.sub {w : World} {base : Nat} {L M : List Rw} (h : Heap w base L) (hs : List.Sublist M L) : Heap w base M := ⟨fun r hr => h.own r (hs.mem hr), h.ap.sublist hs⟩
theorem Heap.join {w : World} {base B : Nat} {L M : List Rw} (h : Heap w base L) (k : Heap w B M) (hB : base ≤ B) (hlt : ∀ r ∈ L, ∀ b, r.v.ownBlock = some b → b < B) : Heap w base (L ++ M) := by
  refine ⟨fun r hr => ?_, ?_⟩
  · rcases List.mem_append.1 hr with h1 | h1
    · exact h.own r h1
    · exact Rw.own_base (k.own r h1) hB
  · rw [List.pairwise_append]
    exact ⟨h.ap, k.ap, fun a ha b hb => Ap.of (hlt a ha) (k.base_le hb)⟩
theorem Heap.one {w : World} {base : Nat} {r : Rw} (h : r.own w base) : Heap w base [r] := ⟨fun x hx => by rw [List.mem_singleton.1 hx]; exact h, List.pairwise_singleton _ _⟩
theorem Heap.set {w : World} {base g n cap : Nat} {A M : List Rw} {t : TypeId} {F : Nat} {cs : List Value} (h : Heap w base (A ++ ⟨.slice (some ⟨g, 0, none⟩) n cap, t, F, n, cs⟩ :: M)) (j : Nat) (u : Value) :
    Heap (w.setCell ⟨g, j, none⟩ u) base (A ++ ⟨.slice (some ⟨g, 0, none⟩) n cap, t, F, n, cs.set j u⟩ :: M) ∧ w.grownBy (w.setCell ⟨g, j, none⟩ u) (some g) := by
  have hr := h.own ⟨.slice (some ⟨g, 0, none⟩) n cap, t, F, n, cs⟩ (by simp)
  have hs := World.ownsRow.stored hr j u
  have hp := h.ap
  rw [List.pairwise_append] at hp
  obtain ⟨pA, pM, pAM⟩ := hp
  rw [List.pairwise_cons] at pM
  have away : ∀ r ∈ A ++ M, r.v.ownBlock = none ∨ r.v.ownBlock ≠ some g := by
    intro r hr
    rcases List.mem_append.1 hr with h1 | h1
    · exact (pAM r h1 ⟨.slice (some ⟨g, 0, none⟩) n cap, t, F, n, cs⟩ (by simp)).1
    · exact (pM.1 r h1).2
  refine ⟨⟨fun r hr' => ?_, ?_⟩, hs.2⟩
  · rcases List.mem_append.1 hr' with h1 | h1
    · exact World.ownsRow.kept (h.own r (by simp [h1])) hs.2 (away r (by simp [h1]))
    · rcases List.mem_cons.1 h1 with rfl | h2
      · exact hs.1
      · exact World.ownsRow.kept (h.own r (by simp [h2])) hs.2 (away r (by simp [h2]))
  · rw [List.pairwise_append, List.pairwise_cons]
    exact ⟨pA, ⟨fun b hb => pM.1 b hb, pM.2⟩, fun a ha b hb => by
      rcases List.mem_cons.1 hb with rfl | h2
      · exact pAM a ha ⟨.slice (some ⟨g, 0, none⟩) n cap, t, F, n, cs⟩ (by simp)
      · exact pAM a ha b (by simp [h2])⟩
theorem Heap.turn {w w' : World} {base : Nat} {A M : List Rw} {r r' : Rw} (h : Heap w base (A ++ r :: M)) (hg : w.grownBy w' r.v.ownBlock) (hr : r'.own w' base) (hv : r'.v.ownBlock = r.v.ownBlock ∨ ∀ k, r'.v.ownBlock = some k → w.heap.size ≤ k) : Heap w' base (A ++ r' :: M) := by
  have hp := h.ap
  rw [List.pairwise_append] at hp
  obtain ⟨pA, pM, pAM⟩ := hp
  rw [List.pairwise_cons] at pM
  have far : ∀ x, x ∈ A ∨ x ∈ M → Ap x.v r'.v ∧ Ap r'.v x.v := by
    intro x hx
    rcases hv with e | hk
    · have := show Ap x.v r.v ∧ Ap r.v x.v from by
        rcases hx with h1 | h1
        · exact pAM x h1 r (by simp)
        · exact (pM.1 x h1).symm
      unfold Ap at this ⊢
      rw [e]; exact this
    · exact Ap.of (fun k hk' => h.lt (by rcases hx with h1 | h1 <;> simp [h1]) k hk') hk
  have away : ∀ x, x ∈ A ∨ x ∈ M → x.v.ownBlock = none ∨ x.v.ownBlock ≠ r.v.ownBlock := by
    intro x hx
    rcases hx with h1 | h1
    · exact (pAM x h1 r (by simp)).1
    · exact (pM.1 x h1).2
  refine ⟨fun x hx => ?_, ?_⟩
  · rcases List.mem_append.1 hx with h1 | h1
    · exact World.ownsRow.kept (h.own x (by simp [h1])) hg (away x (.inl h1))
    · rcases List.mem_cons.1 h1 with rfl | h2
      · exact hr
      · exact World.ownsRow.kept (h.own x (by simp [h2])) hg (away x (.inr h2))
  · rw [List.pairwise_append, List.pairwise_cons]
    exact ⟨pA, ⟨fun b hb => (far b (.inr hb)).symm, pM.2⟩, fun a ha b hb => by
      rcases List.mem_cons.1 hb with rfl | h2
      · exact far a (.inl ha)
      · exact pAM a ha b (by simp [h2])⟩
structure Chg (S : Nat → Prop) (w w' : World) : Prop where
  os : w'.os = w.os
  tape : w'.tape = w.tape
  output : w'.output = w.output
  size : w.heap.size ≤ w'.heap.size
  block : ∀ i, i < w.heap.size → ¬ S i → w'.heap[i]? = w.heap[i]?
theorem Chg.refl (S : Nat → Prop) (w : World) : Chg S w w := ⟨rfl, rfl, rfl, Nat.le_refl _, fun _ _ _ => rfl⟩
theorem Chg.of_grown {S : Nat → Prop} {w w' : World} {row : Option Nat} (h : w.grownBy w' row) (hS : ∀ i, row = some i → S i) : Chg S w w' :=
  ⟨h.os, h.tape, h.output, h.size, fun i hi hn => h.block i hi (fun e => hn (hS i e.symm))⟩
theorem Chg.of_below {S : Nat → Prop} {w w' : World} (h : Below w.heap.size w w') : Chg S w w' := ⟨h.os, h.tape, h.output, h.size, fun i hi _ => h.block i hi⟩
theorem Chg.trans {S : Nat → Prop} {a b c : World} (h : Chg S a b) (k : Chg S b c) : Chg S a c :=
  ⟨k.os.trans h.os, k.tape.trans h.tape, k.output.trans h.output, Nat.le_trans h.size k.size, fun i hi hn => (k.block i (Nat.lt_of_lt_of_le hi h.size) hn).trans (h.block i hi hn)⟩
theorem Chg.to_below {S : Nat → Prop} {w0 w w' : World} {B : Nat} (hb : Below B w0 w) (h : Chg S w w') (hB : B ≤ w.heap.size) (hS : ∀ i, S i → B ≤ i) : Below B w0 w' :=
  ⟨h.os.trans hb.os, h.tape.trans hb.tape, h.output.trans hb.output, Nat.le_trans hb.size h.size, fun i hi => (h.block i (by omega) (fun s => by have := hS i s; omega)).trans (hb.block i hi)⟩
theorem ownsRow_chg {S : Nat → Prop} {w w' : World} {base n F : Nat} {t : TypeId} {v : Value} {xs : List Value} (h : w.ownsRow base t F v n xs) (hc : Chg S w w') (hn : ∀ k, v.ownBlock = some k → ¬ S k) : w'.ownsRow base t F v n xs := by
  have hlt := World.ownsRow.lt h
  rcases h.2 with ⟨h1, h2⟩ | ⟨g, cap, cur, rfl, hb, hg, h3⟩
  · exact ⟨h.1, .inl ⟨h1, h2⟩⟩
  · exact ⟨h.1, .inr ⟨g, cap, cur, rfl, hb, (hc.block g (hlt g rfl).2 (hn g rfl)).trans hg, h3⟩⟩
theorem Heap.chg {S : Nat → Prop} {w w' : World} {base : Nat} {L : List Rw} (h : Heap w base L) (hc : Chg S w w') (hn : ∀ r ∈ L, ∀ k, r.v.ownBlock = some k → ¬ S k) : Heap w' base L :=
  ⟨fun r hr => ownsRow_chg (h.own r hr) hc (hn r hr), h.ap⟩
def inner {α : Type} (t : TypeId) (F : Nat) (c : α → Array Value) (vs : List Value) (ls : List (List α)) : List Rw := List.zipWith (fun u l => ⟨u, t, F, l.length, cellsF c l⟩) vs ls
def OwnD {α : Type} (t1 t : TypeId) (F : Nat) (c : α → Array Value) (w : World) (base : Nat) (v : Value) (ls : List (List α)) : Prop :=
  ∃ vs : List Value, vs.length = ls.length ∧ Heap w base (⟨v, t1, 1, ls.length, vs⟩ :: inner t F c vs ls)
def ArgD {α : Type} (F : Nat) (c : α → Array Value) (z : α) (w : World) (v : Value) (ls : List (List α)) : Prop :=
  ∃ A cap, v = .slice A ls.length cap ∧ ls.length ≤ cap ∧ cap ≤ maxLen ∧ (0 < ls.length → ∃ b off, A = some ⟨b, off, none⟩ ∧ b < w.heap.size ∧ ∀ j, j < ls.length → ∃ u, w.cell? ⟨b, off + j, none⟩ = some u ∧ RecsArg F c z w u (ls.getD j []))
theorem ArgD.below {α : Type} {F : Nat} {c : α → Array Value} {z : α} {w w' : World} {v : Value} {ls : List (List α)} (h : ArgD F c z w v ls) (hb : Below w.heap.size w w') : ArgD F c z w' v ls := by
  obtain ⟨A, cap, e, h1, h2, h3⟩ := h
  refine ⟨A, cap, e, h1, h2, fun hp => ?_⟩
  obtain ⟨b, off, ea, h4, h5⟩ := h3 hp
  exact ⟨b, off, ea, Nat.lt_of_lt_of_le h4 hb.size, fun j hj => by
    obtain ⟨u, hu, ha⟩ := h5 j hj
    exact ⟨u, (hb.cell (p := ⟨b, off + j, none⟩) h4).trans hu, ha.below hb⟩⟩
theorem OwnD.below {α : Type} {t1 t : TypeId} {F : Nat} {c : α → Array Value} {w w' : World} {base : Nat} {v : Value} {ls : List (List α)} (h : OwnD t1 t F c w base v ls) (hb : Below w.heap.size w w') : OwnD t1 t F c w' base v ls := by
  obtain ⟨vs, h1, h2⟩ := h
  exact ⟨vs, h1, h2.below hb⟩
theorem inner_at {α : Type} {t : TypeId} {F : Nat} {c : α → Array Value} {vs : List Value} {ls : List (List α)} (hl : vs.length = ls.length) (j : Nat) (hj : j < ls.length) (d : Value) : (⟨vs.getD j d, t, F, (ls.getD j []).length, cellsF c (ls.getD j [])⟩ : Rw) ∈ inner t F c vs ls := by
  unfold inner
  have hj' : j < vs.length := by omega
  rw [List.mem_iff_getElem]
  refine ⟨j, by simp [List.length_zipWith]; omega, ?_⟩
  rw [List.getElem_zipWith, List.getD_eq_getElem?_getD, List.getD_eq_getElem?_getD, List.getElem?_eq_getElem hj, List.getElem?_eq_getElem hj']
  rfl
theorem OwnD.arg {α : Type} {t1 t : TypeId} {F : Nat} {c : α → Array Value} {w : World} {base : Nat} {v : Value} {ls : List (List α)} (h : OwnD t1 t F c w base v ls) (hF : ∀ r, (c r).size = F) (z : α) : ArgD F c z w v ls := by
  obtain ⟨vs, hl, hh⟩ := h
  have ho := hh.own ⟨v, t1, 1, ls.length, vs⟩ (by simp)
  have ho' := ho
  rcases ho.2 with ⟨e, h0⟩ | ⟨g, cap, cur, e, hb, hg, hn, hm, hc, ht⟩
  · have e : v = .slice none 0 0 := e
    have h00 : ls.length = 0 := h0
    subst e
    exact ⟨none, 0, by rw [h00], by omega, Nat.zero_le _, fun h => by omega⟩
  · have e : v = .slice (some ⟨g, 0, none⟩) ls.length cap := e
    subst e
    refine ⟨_, cap, rfl, hn, hm, fun _ => ⟨g, 0, rfl, (World.ownsRow.lt ho' g rfl).2, fun j hj => ⟨vs.getD j undef, ?_, ?_⟩⟩⟩
    · have := World.ownsRow.cellAt (w := w) (size := 1) (xs := vs) ho' j (show j < ls.length * 1 by omega)
      rw [Nat.zero_add, this, List.getD_eq_getElem?_getD, List.getElem?_eq_getElem (by omega)]
      rfl
    · exact OwnF.arg (t := t) (base := base) (hh.own _ (List.mem_cons_of_mem _ (inner_at hl j hj undef))) hF z
def Within (B E : Nat) (i : Nat) : Prop := B ≤ i ∧ i < E
def HeapE (w : World) (B E : Nat) (L : List Rw) : Prop := Heap w B L ∧ ∀ r ∈ L, ∀ k, r.v.ownBlock = some k → k < E
theorem HeapE.made {w : World} {B : Nat} {L : List Rw} (h : Heap w B L) : HeapE w B w.heap.size L := ⟨h, fun r hr => h.lt hr⟩
theorem HeapE.below {w w' : World} {B E : Nat} {L : List Rw} (h : HeapE w B E L) (hb : Below w.heap.size w w') : HeapE w' B E L := ⟨h.1.below hb, h.2⟩
theorem HeapE.far {w w' : World} {B E B' E' : Nat} {L : List Rw} (h : HeapE w B E L) (hc : Chg (Within B' E') w w') (hd : E ≤ B' ∨ E' ≤ B) : HeapE w' B E L :=
  ⟨h.1.chg hc (fun r hr k hk => fun hw => by have h1 := h.2 r hr k hk; have h2 := h.1.base_le hr k hk; have := hw.1; have := hw.2; omega), h.2⟩
def OwnDE {α : Type} (t1 t : TypeId) (F : Nat) (c : α → Array Value) (w : World) (B E : Nat) (v : Value) (ls : List (List α)) : Prop :=
  ∃ vs : List Value, vs.length = ls.length ∧ HeapE w B E (⟨v, t1, 1, ls.length, vs⟩ :: inner t F c vs ls)
theorem OwnD.made {α : Type} {t1 t : TypeId} {F : Nat} {c : α → Array Value} {w : World} {B : Nat} {v : Value} {ls : List (List α)} (h : OwnD t1 t F c w B v ls) : OwnDE t1 t F c w B w.heap.size v ls := by
  obtain ⟨vs, h1, h2⟩ := h; exact ⟨vs, h1, HeapE.made h2⟩
theorem OwnDE.own {α : Type} {t1 t : TypeId} {F : Nat} {c : α → Array Value} {w : World} {B E : Nat} {v : Value} {ls : List (List α)} (h : OwnDE t1 t F c w B E v ls) : OwnD t1 t F c w B v ls := by
  obtain ⟨vs, h1, h2⟩ := h; exact ⟨vs, h1, h2.1⟩
theorem OwnDE.below {α : Type} {t1 t : TypeId} {F : Nat} {c : α → Array Value} {w w' : World} {B E : Nat} {v : Value} {ls : List (List α)} (h : OwnDE t1 t F c w B E v ls) (hb : Below w.heap.size w w') : OwnDE t1 t F c w' B E v ls := by
  obtain ⟨vs, h1, h2⟩ := h; exact ⟨vs, h1, h2.below hb⟩
theorem OwnDE.far {α : Type} {t1 t : TypeId} {F : Nat} {c : α → Array Value} {w w' : World} {B E B' E' : Nat} {v : Value} {ls : List (List α)} (h : OwnDE t1 t F c w B E v ls) (hc : Chg (Within B' E') w w') (hd : E ≤ B' ∨ E' ≤ B) : OwnDE t1 t F c w' B E v ls := by
  obtain ⟨vs, h1, h2⟩ := h; exact ⟨vs, h1, h2.far hc hd⟩
end Go.Proofs.YtnlepnfdgdbkoaaGreatDoor
namespace Go.Proofs.YtnlepnfdgdbkoaaGreatDoor
open Go.RowKit M
set_option linter.unusedVariables false
def Blk (w : World) (g : Nat) (t : TypeId) (cs : Array Value) : Prop := w.heap[g]? = some (.cells cs t (0, 0))
theorem Blk.lt {w : World} {g : Nat} {t : TypeId} {cs : Array Value} (h : Blk w g t cs) : g < w.heap.size := by
  rcases Nat.lt_or_ge g w.heap.size with h1 | h1
  · exact h1
  · unfold Blk at h; rw [Array.getElem?_eq_none h1] at h; cases h
theorem Blk.below {w w' : World} {g : Nat} {t : TypeId} {cs : Array Value} (h : Blk w g t cs) (hb : Below w.heap.size w w') : Blk w' g t cs := (hb.block g h.lt).trans h
theorem Blk.grown {w w' : World} {g : Nat} {t : TypeId} {cs : Array Value} {row : Option Nat} (h : Blk w g t cs) (hg : w.grownBy w' row) (hne : row ≠ some g) : Blk w' g t cs := (hg.block g h.lt (fun e => hne e.symm)).trans h
theorem Blk.new (w : World) (g : Nat) (t : TypeId) (cs : Array Value) (hg : g = w.heap.size) : Blk (w.alloc (.cells cs t)) g t cs := by subst hg; exact heap_alloc_new w _
theorem Blk.alloc {w : World} {g : Nat} {t : TypeId} {cs : Array Value} (h : Blk w g t cs) (o : Obj) : Blk (w.alloc o) g t cs := h.below ((Below.refl _ _).alloc (Nat.le_refl _) o)
theorem Blk.get {w : World} {g : Nat} {t : TypeId} {cs : Array Value} (h : Blk w g t cs) (j : Nat) : w.cell? ⟨g, j, none⟩ = cs[j]? := cell_of_row w g j cs t (0, 0) h
theorem Blk.frz {w : World} {g : Nat} {t : TypeId} {cs : Array Value} (h : Blk w g t cs) (j : Nat) : w.frozen? ⟨g, j, none⟩ = false := frozen_of_row w g j cs t h
theorem Blk.store {w : World} {g : Nat} {t : TypeId} {cs : Array Value} (h : Blk w g t cs) (i : Nat) (v : Value) : Blk (w.setCell ⟨g, i, none⟩ v) g t (cs.setIfInBounds i v) := heap_setCell_same w g i _ _ v h
theorem Blk.far {w : World} {g : Nat} {t : TypeId} {cs : Array Value} (h : Blk w g t cs) (k i : Nat) (v : Value) (hk : g ≠ k) : Blk (w.setCell ⟨k, i, none⟩ v) g t cs := (heap_setCell_other w ⟨k, i, none⟩ g v hk).trans h
theorem row_store {w : World} {g : Nat} {t : TypeId} {cs : Array Value} (h : Blk w g t cs) (i : Nat) (v : Value) : w.grownBy (w.setCell ⟨g, i, none⟩ v) (some g) :=
  ⟨rfl, rfl, rfl, by simp, fun k _ hk => heap_setCell_other w ⟨g, i, none⟩ k v (fun e => hk (by simp [e]))⟩
end Go.Proofs.YtnlepnfdgdbkoaaGreatDoor
namespace Go.Proofs.YtnlepnfdgdbkoaaGreatDoor.M
open Go.RowKit
set_option linter.unusedVariables false
def tagV (s : ByteArray) (k : Int) : Int := if keyOkV s = true ∧ (1 ≤ k ∧ k ≤ 3) then (packV s : Int) * 4 + k else 0
def untagV (n : Int) : Option (ByteArray × Int) := if 1 ≤ n ∧ n ≤ 17179869183 then (match unV (n / 4) with | some s => if 1 ≤ n % 4 then some (s, n % 4) else none | none => none) else none
def untT : Option (ByteArray × Int) → Value
  | some x => .tuple #[.string x.1, .int .i64 x.2]
  | none => .tuple #[.string ⟨#[]⟩, .int .i64 0]
theorem untT_some (s : ByteArray) (k : Int) : untT (some (s, k)) = .tuple #[.string s, .int .i64 k] := rfl
theorem untT_none : untT none = .tuple #[.string ⟨#[]⟩, .int .i64 0] := rfl
theorem tagV_yes {s : ByteArray} {k : Int} (h : keyOkV s = true) (hk : 1 ≤ k ∧ k ≤ 3) : tagV s k = (packV s : Int) * 4 + k := if_pos ⟨h, hk⟩
theorem tagV_no {s : ByteArray} {k : Int} (h : ¬ (keyOkV s = true ∧ (1 ≤ k ∧ k ≤ 3))) : tagV s k = 0 := if_neg h
theorem untag_tag {s : ByteArray} {k : Int} (h : keyOkV s = true) (hk : 1 ≤ k ∧ k ≤ 3) : untagV (tagV s k) = some (s, k) := by
  have hp := packV_lt s
  obtain ⟨hu, h1⟩ := unV_pack h
  rw [tagV_yes h hk]
  unfold untagV
  have e4 : ((packV s : Int) * 4 + k) / 4 = (packV s : Nat) := by omega
  have m4 : ((packV s : Int) * 4 + k) % 4 = k := by omega
  rw [if_pos (by omega), e4, m4, hu]
  simp only
  rw [if_pos hk.1]
theorem tag_untag {n : Int} {s : ByteArray} {k : Int} (h : untagV n = some (s, k)) : tagV s k = n ∧ keyOkV s = true ∧ 1 ≤ k ∧ k ≤ 3 := by
  unfold untagV at h
  split at h
  · split at h
    · rename_i h1 _ s' hu
      split at h
      · injection h with h
        injection h with h2 h3
        subst h2; subst h3
        obtain ⟨a, b⟩ := pack_unV hu
        refine ⟨?_, a, by omega, by omega⟩
        rw [tagV_yes a (by omega), b]; omega
      · cases h
    · cases h
  · cases h
def gaugeV (a v : Int) : Int := if (1 ≤ a ∧ a ≤ 65535) ∧ (0 ≤ v ∧ v ≤ 65535) then a * 65536 + v else 0
def ungA (n : Int) : Int := if 65536 ≤ n ∧ n ≤ 4294967295 then n / 65536 else 0
def ungV (n : Int) : Int := if 65536 ≤ n ∧ n ≤ 4294967295 then n % 65536 else 0
theorem gaugeV_yes {a v : Int} (h : (1 ≤ a ∧ a ≤ 65535) ∧ (0 ≤ v ∧ v ≤ 65535)) : gaugeV a v = a * 65536 + v := if_pos h
theorem gaugeV_no {a v : Int} (h : ¬ ((1 ≤ a ∧ a ≤ 65535) ∧ (0 ≤ v ∧ v ≤ 65535))) : gaugeV a v = 0 := if_neg h
end Go.Proofs.YtnlepnfdgdbkoaaGreatDoor.M
namespace Go.Proofs.YtnlepnfdgdbkoaaGreatDoor.M
def inV (b : Int) : Int := if 0 ≤ b ∧ b ≤ 1 then 1 + b else -1
def keyV (s : Int) : Int := if 0 ≤ s ∧ s ≤ 3 then 3 + s else -1
def cellV (b s k : Int) : Int := if (0 ≤ b ∧ b ≤ 1) ∧ (0 ≤ s ∧ s ≤ 3) then 7 + b * 32 + s * 8 + k else -1
def partV (b s n at_ k : Int) : Int := if 0 ≤ k ∧ k < n then cellV b s (at_ + k) else -1
theorem inV_yes {b : Int} (h : 0 ≤ b ∧ b ≤ 1) : inV b = 1 + b := if_pos h
theorem inV_no {b : Int} (h : ¬ (0 ≤ b ∧ b ≤ 1)) : inV b = -1 := if_neg h
theorem keyV_yes {s : Int} (h : 0 ≤ s ∧ s ≤ 3) : keyV s = 3 + s := if_pos h
theorem keyV_no {s : Int} (h : ¬ (0 ≤ s ∧ s ≤ 3)) : keyV s = -1 := if_neg h
theorem cellV_yes {b s k : Int} (h : 0 ≤ b ∧ b ≤ 1) (h' : 0 ≤ s ∧ s ≤ 3) : cellV b s k = 7 + b * 32 + s * 8 + k := if_pos ⟨h, h'⟩
theorem cellV_noB {b s k : Int} (h : ¬ (0 ≤ b ∧ b ≤ 1)) : cellV b s k = -1 := if_neg fun x => h x.1
theorem cellV_noS {b s k : Int} (h : ¬ (0 ≤ s ∧ s ≤ 3)) : cellV b s k = -1 := if_neg fun x => h x.2
theorem partV_yes {b s n at_ k : Int} (h : 0 ≤ k ∧ k < n) : partV b s n at_ k = cellV b s (at_ + k) := if_pos h
theorem partV_no {b s n at_ k : Int} (h : ¬ (0 ≤ k ∧ k < n)) : partV b s n at_ k = -1 := if_neg h
end Go.Proofs.YtnlepnfdgdbkoaaGreatDoor.M
namespace Go.Proofs.YtnlepnfdgdbkoaaGreatDoor
open Go.RowKit M
set_option linter.unusedVariables false
def Quiet (w : World) (v : Value) (e : Ending) (w' : World) : Prop := e = .returned v ∧ ∃ q, w' = w.drewN q
theorem Quiet.below {w w' : World} {v : Value} {e : Ending} (h : Quiet w v e w') : e = .returned v ∧ Below w.heap.size w w' := by
  obtain ⟨rfl, q, rfl⟩ := h
  exact ⟨rfl, ⟨rfl, rfl, rfl, Nat.le_refl _, fun _ _ => rfl⟩⟩
end Go.Proofs.YtnlepnfdgdbkoaaGreatDoor
namespace Go.Proofs.YtnlepnfdgdbkoaaGreatDoor
open Go.RowKit M
set_option linter.unusedVariables false
def isW (z : Int) : Bool := decide (0 ≤ z) && decide (z ≤ 281474976710655)
theorem isW_iff {z : Int} : isW z = true ↔ 0 ≤ z ∧ z ≤ 281474976710655 := by simp [isW]
theorem isW_no {z : Int} : isW z = false ↔ z < 0 ∨ 281474976710655 < z := by
  rw [← Bool.not_eq_true, isW_iff]; omega
def okC (zs : List Int) : Bool := decide (zs.length = 71) && zs.all isW
def atC (zs : List Int) (i : Int) : Bool := okC zs && (decide (0 ≤ i) && decide (i ≤ 70))
theorem okC_len {zs : List Int} (h : okC zs = true) : zs.length = 71 := by simp [okC] at h; exact h.1
theorem okC_at {zs : List Int} (h : okC zs = true) (j : Nat) (hj : j < 71) : 0 ≤ zs.getD j 0 ∧ zs.getD j 0 ≤ 281474976710655 := by
  have hl := okC_len h
  simp only [okC, Bool.and_eq_true, List.all_eq_true] at h
  have := h.2 (zs.getD j 0) (by rw [List.getD_eq_getElem?_getD, List.getElem?_eq_getElem (by omega)]; exact List.getElem_mem (by omega))
  exact isW_iff.1 this
theorem atC_iff {zs : List Int} {i : Int} : atC zs i = true ↔ okC zs = true ∧ 0 ≤ i ∧ i ≤ 70 := by simp [atC]
theorem atC_no {zs : List Int} {i : Int} : atC zs i = false ↔ okC zs = false ∨ i < 0 ∨ 70 < i := by
  rw [← Bool.not_eq_true, atC_iff, ← Bool.not_eq_true]
  by_cases h : okC zs = true
  · simp only [h, true_and, not_true_eq_false, false_or]; omega
  · simp [h]
theorem okC_set {zs : List Int} (h : okC zs = true) (j : Nat) (n : Int) (hn : isW n = true) : okC (zs.set j n) = true := by
  simp only [okC, Bool.and_eq_true, decide_eq_true_eq, List.all_eq_true, List.length_set] at h ⊢
  refine ⟨h.1, fun x hx => ?_⟩
  rcases List.mem_or_eq_of_mem_set hx with h' | rfl
  · exact h.2 x h'
  · exact hn
theorem all_getD {zs : List Int} {p : Int → Bool} (h : ∀ j, j < zs.length → p (zs.getD j 0) = true) : zs.all p = true := by
  rw [List.all_eq_true]
  intro x hx
  obtain ⟨j, hj, rfl⟩ := List.getElem_of_mem hx
  have := h j hj
  rw [List.getD_eq_getElem?_getD, List.getElem?_eq_getElem hj] at this
  exact this
theorem all_no {zs : List Int} {p : Int → Bool} {j : Nat} (hj : j < zs.length) (h : p (zs.getD j 0) = false) : zs.all p = false := by
  rw [← Bool.not_eq_true, List.all_eq_true]
  intro k
  have := k (zs.getD j 0) (by rw [List.getD_eq_getElem?_getD, List.getElem?_eq_getElem hj]; exact List.getElem_mem hj)
  rw [h] at this; cases this
end Go.Proofs.YtnlepnfdgdbkoaaGreatDoor
namespace Go.Proofs.YtnlepnfdgdbkoaaGreatDoor
open Go.RowKit M
set_option linter.unusedVariables false
end Go.Proofs.YtnlepnfdgdbkoaaGreatDoor
namespace Go.Proofs.YtnlepnfdgdbkoaaGreatDoor
open Go.RowKit M
set_option linter.unusedVariables false
def modW (x : Int) : Int := x % 281474976710656
def ringV (r : R) (raw : List Int) : Nat → R
  | 0 => r
  | k + 1 => if (k : Int) < raw.getD 4 0 then sampledV (ringV r raw k) (raw.getD (5 + k) 0 - 1) else ringV r raw k
def sumT (raw : List Int) : Nat → Int
  | 0 => 0
  | k + 1 => modW (sumT raw k + modW (raw.getD k 0))
def countRow (key : ByteArray) (raw : List Int) : R := { zeroR with key := key, kind := 1, sum := sumT raw 2 }
def gaugeRow (key : ByteArray) (raw : List Int) : R := { zeroR with key := key, kind := 2, set := decide (0 < ungA (raw.getD 3 0)), last := ungV (raw.getD 3 0) }
def dropRow (r : R) (t : Int) : R := if r.n = 3 ∧ 3 < t then { r with dropped := if t - 3 < 65535 then t - 3 else 65535 } else r
def timerRow (key : ByteArray) (raw : List Int) : R := dropRow (ringV { zeroR with key := key, kind := 3 } raw 3) (raw.getD 4 0)
def kindRow (key : ByteArray) (kind : Int) (raw : List Int) : R := if kind = 1 then countRow key raw else if kind = 2 then gaugeRow key raw else timerRow key raw
def rowFromV (tag : Int) (raw : List Int) : R :=
  match untagV tag with
  | some (key, kind) => if raw.length = 8 then kindRow key kind raw else zeroR
  | none => zeroR
def strLt (x y : ByteArray) : Bool := Go.Op.bytesLess x.toList y.toList
def insV (r : R) : List R → List R
  | [] => [r]
  | x :: l => if strLt r.key x.key = true then r :: x :: l else x :: insV r l
def putV (l : List R) (r : R) : List R := if l.any (fun x => decide (x.key = r.key)) = true then l else insV r l
def addV (l : List R) (r : R) : List R := if r.kind ≠ 0 ∧ quietV r = false then putV l r else l
end Go.Proofs.YtnlepnfdgdbkoaaGreatDoor
namespace Go.Proofs.YtnlepnfdgdbkoaaGreatDoor.M
open Go.RowKit
set_option linter.unusedVariables false
structure J where
  busy : Bool
  op : O
  serial : Int
  pc : Int
  k : Int
  slot : Int
  what : Int
  e : Int
  stamp : Int
  old : Int
  flips : Int
  steps : Int
  code : Int
  keys : List Int
  raw : List Int
structure E where
  kind : Int
  who : Int
  serial : Int
  at_ : Int
  op : O
  code : Int
  win : Int
  steps : Int
  flips : Int
  rows : List R
structure S where
  cells : List Int
  jobs : List J
  todo : List (List O)
  log : List E
  serial : Int
  now : Int
def zeroJ : J := ⟨false, zeroO, 0, 0, 0, 0, 0, 0, 0, 0, 0, 0, 0, [], []⟩
def zeroE : E := ⟨0, 0, 0, 0, zeroO, 0, 0, 0, 0, []⟩
def zeroS : S := ⟨[], [], [], [], 0, 0⟩
def isZeroO (o : O) : Bool := decide (o.kind = 0 ∧ o.key = ⟨#[]⟩ ∧ o.what = 0 ∧ o.val = 0)
def isFlushO (o : O) : Bool := decide (o.kind = 3 ∧ o.key = ⟨#[]⟩ ∧ o.what = 0 ∧ o.val = 0)
def opOkV (o : O) : Bool :=
  if o.kind = 1 then keyOkV o.key && (decide (1 ≤ o.what ∧ o.what ≤ 3) && decide (o.val = 0))
  else if o.kind = 2 then keyOkV o.key && (decide (o.what = 0) && decide (0 ≤ o.val ∧ o.val ≤ 65535))
  else if o.kind = 3 then isFlushO o else false
def opInV (t : Nat) (o : O) : Bool := opOkV o && (decide (o.kind = 3) == decide (t = 3))
def queueOkV (t : Nat) (q : List O) : Bool := decide (q.length ≤ 10) && q.all (opInV t)
def todoOkV (l : List (List O)) : Bool := decide (l.length = 4) && (List.range l.length).all fun t => queueOkV t (l.getD t [])
def countOkV (j : J) : Bool :=
  if j.pc = 0 ∨ j.pc = 1 then decide (0 ≤ j.k ∧ j.k ≤ 3)
  else if j.pc = 8 then decide (0 ≤ j.k ∧ j.k ≤ 2)
  else if j.pc = 14 then decide (0 ≤ j.k ∧ j.k ≤ 3) && (decide ((j.keys.length : Int) = j.k) && decide (j.raw.length = 0))
  else if j.pc = 15 then decide (0 ≤ j.k ∧ j.k ≤ 31) && (decide (j.keys.length = 4) && decide ((j.raw.length : Int) = j.k))
  else if j.pc = 13 ∨ j.pc = 12 then decide (j.keys.length = 0) && decide (j.raw.length = 0)
  else true
def placeOkV (j : J) : Bool :=
  if j.pc = 11 then true
  else if j.op.kind = 3 then decide (12 ≤ j.pc ∧ j.pc ≤ 15)
  else if j.op.kind = 1 then decide (j.pc = 0 ∨ j.pc = 1)
  else decide (j.pc = 0 ∨ (2 ≤ j.pc ∧ j.pc ≤ 10))
def jobOkV (j : J) : Bool :=
  opOkV j.op && (placeOkV j && (countOkV j && (decide (0 ≤ j.slot ∧ j.slot ≤ 3) && (decide (0 ≤ j.what ∧ j.what ≤ 3) && (decide (0 ≤ j.e ∧ j.e ≤ 281474976710655) && (decide (0 ≤ j.k ∧ j.k ≤ 32) && (decide (j.keys.length ≤ 4) && decide (j.raw.length ≤ 32))))))))
def zeroJobV (j : J) : Bool :=
  isZeroO j.op && (decide (j.serial = 0 ∧ j.pc = 0 ∧ j.k = 0 ∧ j.slot = 0 ∧ j.what = 0 ∧ j.e = 0 ∧ j.stamp = 0 ∧ j.old = 0 ∧ j.flips = 0 ∧ j.steps = 0 ∧ j.code = 0) && (decide (j.keys.length = 0) && decide (j.raw.length = 0)))
def jobAtV (t : Nat) (j : J) : Bool := if j.busy = true then jobOkV j && (decide (j.op.kind = 3) == decide (t = 3)) else zeroJobV j
def worldOkV (w : S) : Bool :=
  okC w.cells && (decide (w.jobs.length = 4) && (todoOkV w.todo && (decide (0 ≤ w.serial ∧ w.serial ≤ 1000000) && (decide (0 ≤ w.now ∧ w.now ≤ 1000000000) && (List.range 4).all fun t => jobAtV t (w.jobs.getD t zeroJ)))))
def worldNewV (l : List (List O)) : S := if todoOkV l = true then ⟨List.replicate 71 0, List.replicate 4 zeroJ, l, [], 0, 0⟩ else zeroS
def bump (n : Int) : Int := Go.IntKind.i64.wrap (n + 1)
def pointV (w : S) (t : Nat) (j : J) (code win : Int) : S × J :=
  ({ w with log := w.log ++ [⟨2, t, j.serial, w.now, j.op, code, win, 0, 0, []⟩] }, { j with code := code })
def endV (w : S) (t : Nat) (j : J) (code : Int) : S × J := ((pointV w t j code (-1)).1, { (pointV w t j code (-1)).2 with pc := 11 })
def cellV' (w : S) (i : Int) : Int := w.cells.getD i.toNat 0
def putV' (w : S) (i v : Int) : S := { w with cells := w.cells.set i.toNat v }
def addCV (w : S) (i n : Int) : S := putV' w i (modW (cellV' w i + n))
def tagKey (n : Int) : ByteArray := match untagV n with | some x => x.1 | none => ⟨#[]⟩
def tagKind (n : Int) : Int := match untagV n with | some x => x.2 | none => 0
def probeS (w : S) (t : Nat) (j : J) : S × J :=
  let slot := probeV j.op.key j.k
  let c := cellV' w (3 + slot)
  if c = 0 then (if j.op.kind = 1 then (w, { j with pc := 1 }) else endV w t j 2)
  else if tagKey c = j.op.key then
    (if j.op.kind = 2 then (w, { j with slot := slot, what := tagKind c, pc := 2 }) else if tagKind c = j.op.what then endV w t j 0 else endV w t j 4)
  else if j.k + 1 < 4 then (w, { j with k := j.k + 1 })
  else if j.op.kind = 1 then endV w t j 3 else endV w t j 2
def claimS (w : S) (t : Nat) (j : J) : S × J :=
  let i := 3 + probeV j.op.key j.k
  if cellV' w i ≠ 0 then (w, { j with pc := 0 }) else endV (putV' w i (tagV j.op.key j.op.what)) t j 0
def jobCell (j : J) (k : Int) : Int := 7 + j.e % 2 * 32 + j.slot * 8 + k
def inCell (j : J) : Int := 1 + j.e % 2
def dataS (w : S) (t : Nat) (j : J) : S × J :=
  if j.what = 1 then
    let p := pointV (addCV w (jobCell j ((t : Int) % 2)) j.op.val) t j 0 j.e
    (p.1, { p.2 with pc := 9 })
  else if j.what = 2 then
    let p := pointV (addCV w (jobCell j 2) 1) t j 0 j.e
    (p.1, { p.2 with stamp := modW (cellV' w (jobCell j 2) + 1), pc := 6 })
  else
    let old := cellV' w (jobCell j 4)
    let w1 := addCV w (jobCell j 4) 1
    if 3 ≤ old then
      let p := pointV w1 t j 5 j.e
      (p.1, { p.2 with pc := 9 })
    else
      let p := pointV w1 t j 0 j.e
      (p.1, { p.2 with k := old, pc := 8 })
def writeS (w : S) (t : Nat) (j : J) : S × J :=
  if j.pc = 2 then (w, { j with e := cellV' w 0, pc := 3 })
  else if j.pc = 3 then (addCV w (inCell j) 1, { j with pc := 4 })
  else if j.pc = 4 then (w, { j with pc := if cellV' w 0 = j.e then 5 else 10 })
  else if j.pc = 5 then dataS w t j
  else if j.pc = 6 then (w, { j with old := cellV' w (jobCell j 3), pc := if j.stamp < ungA (cellV' w (jobCell j 3)) then 9 else 7 })
  else if j.pc = 7 then
    (if cellV' w (jobCell j 3) = j.old then (putV' w (jobCell j 3) (gaugeV j.stamp j.op.val), { j with pc := 9 }) else (w, { j with pc := 6 }))
  else if j.pc = 8 then (putV' w (jobCell j (5 + j.k)) (j.op.val + 1), { j with pc := 9 })
  else if j.pc = 9 then (addCV w (inCell j) (-1), { j with pc := 11 })
  else (addCV w (inCell j) (-1), { j with flips := bump j.flips, pc := 2 })
def flushS (w : S) (t : Nat) (j : J) : S × J :=
  if j.pc = 12 then
    let p := pointV (addCV w 0 1) t { j with e := cellV' w 0 } 0 (cellV' w 0)
    (p.1, { p.2 with pc := 13 })
  else if j.pc = 13 then (w, if cellV' w (inCell j) = 0 then { j with pc := 14, k := 0 } else j)
  else if j.pc = 14 then
    (w, if j.k + 1 = 4 then { j with keys := j.keys ++ [cellV' w (3 + j.k)], pc := 15, k := 0 } else { j with keys := j.keys ++ [cellV' w (3 + j.k)], k := j.k + 1 })
  else
    let i := 7 + j.e % 2 * 32 + j.k
    (putV' w i 0, { j with raw := j.raw ++ [cellV' w i], k := j.k + 1, pc := if j.k + 1 = 32 then 11 else j.pc })
def rowsT (j : J) (n : Nat) : List R := (List.range n).foldl (fun l (s : Nat) => addV l (rowFromV (j.keys.getD s 0) ((j.raw.drop (s * 8)).take 8))) []
def rowsN (j : J) : Nat := min j.keys.length (j.raw.length / 8)
def rowsV (j : J) : List R := rowsT j (rowsN j)
def startS (w : S) (t : Nat) : S :=
  let o := (w.todo.getD t []).headD zeroO
  { w with
    todo := w.todo.set t (w.todo.getD t []).tail
    serial := w.serial + 1
    jobs := w.jobs.set t { zeroJ with busy := true, op := o, serial := w.serial + 1, pc := if o.kind = 3 then 12 else 0 }
    log := w.log ++ [⟨1, t, w.serial + 1, w.now, o, 0, -1, 0, 0, []⟩] }
def tellS (w : S) (t : Nat) (j : J) : S × J := ({ w with log := w.log ++ [⟨3, t, j.serial, w.now, j.op, j.code, -1, j.steps, j.flips, rowsV j⟩] }, zeroJ)
def workS (w : S) (t : Nat) (j : J) : S × J :=
  if j.pc = 11 then tellS w t j else if j.pc = 0 then probeS w t j else if j.pc = 1 then claimS w t j else if j.pc < 12 then writeS w t j else flushS w t j
def restsV (w : S) (t : Nat) : Bool := (!(w.jobs.getD t zeroJ).busy && (decide ((w.todo.getD t []).length = 0) || decide (w.serial = 1000000))) || decide (w.now = 1000000000)
def doV (w : S) (t : Nat) : S :=
  if restsV w t = true then w
  else
    let j := w.jobs.getD t zeroJ
    let w1 := { w with now := w.now + 1 }
    if j.busy = false then startS w1 t
    else
      let p := workS w1 t { j with steps := bump j.steps }
      { p.1 with jobs := p.1.jobs.set t p.2 }
def threadOk (t : Int) : Bool := decide (0 ≤ t ∧ t ≤ 3)
def stepV (w : S) (t : Int) : S := if worldOkV w = true ∧ threadOk t = true then doV w t.toNat else w
def tellsV (w : S) : List E := w.log.filter fun e => decide (e.kind = 3)
def reportsV (w : S) : List (List R) := ((tellsV w).filter fun e => decide (e.op.kind = 3)).map E.rows
end Go.Proofs.YtnlepnfdgdbkoaaGreatDoor.M
namespace Go.Proofs.YtnlepnfdgdbkoaaGreatDoor
open Go.RowKit M
set_option linter.unusedVariables false
theorem heap_set1 {w : World} {B g : Nat} {L : List Rw} {t : TypeId} {cs : Array Value} (h : Heap w B L) (hg : g < B) (hb : Blk w g t cs) (i : Nat) (v : Value) : Heap (w.setCell ⟨g, i, none⟩ v) B L :=
  h.grown (row_store hb i v) (fun r hr => by
      cases e : r.v.ownBlock with
      | none => exact .inl rfl
      | some k => exact .inr (by rw [← e]; intro hk; rw [e] at hk; injection hk with hk; have := h.base_le hr k e; omega))
theorem Blk.puts {w : World} {g : Nat} {t : TypeId} {cs : Array Value} (h : Blk w g t cs) (o : Nat) (us : List Value) : Blk (putN w g o us) g t (setN cs.toList o us).toArray := by
  induction us generalizing w cs o with
  | nil => exact h
  | cons u us ih =>
    have := ih (h.store o u) (o + 1)
    rw [Array.toList_setIfInBounds] at this
    exact this
theorem Blk.all {w : World} {g : Nat} {t : TypeId} {cs : Array Value} (h : Blk w g t cs) (us : List Value) (hl : us.length = cs.size) : Blk (putN w g 0 us) g t us.toArray := by
  have e := setN_mid us cs.toList [] [] (by rw [Array.length_toList]; exact hl)
  simp only [List.nil_append, List.append_nil, List.length_nil] at e
  have := h.puts 0 us
  rw [e] at this
  exact this
theorem post_gen {P : Program} {fn : Func} {Q : Ending → World → Prop} {x : Exit} {a : Act} {w : World} (R : World → Prop) (h : R w) (k : ∀ w', R w' → bodyPost P fn Q x a w') : bodyPost P fn Q x a w := k w h
theorem grown_setRow (w : World) (g : Nat) (cs : Array Value) : w.grownBy (w.setRow g cs) (some g) :=
  ⟨rfl, rfl, rfl, Nat.le_of_eq (setRow_size w g cs).symm, fun i _ hne => setRow_other w g i cs (fun e => hne (by rw [e]))⟩
theorem below_setRow' {B g : Nat} {w0 w : World} (hb : Below B w0 w) (hBg : B ≤ g) (cs : Array Value) : Below B w0 (w.setRow g cs) :=
  ⟨hb.os, hb.tape, hb.output, by rw [setRow_size]; exact hb.size, fun i hi => (setRow_other w g i cs (by omega)).trans (hb.block i hi)⟩
inductive Dat where
  | val (u : Value)
  | row (t : TypeId) (F n : Nat) (cs : List Value)
instance : Inhabited Dat := ⟨.val undef⟩
def Dat.reads (w : World) (v : Value) : Dat → Prop
  | .val u => v = u
  | .row _ F n cs => cs.length = n * F ∧ ∃ A cap, v = .slice A n cap ∧ n ≤ cap ∧ cap ≤ maxLen ∧ (0 < n → ∃ b off, A = some ⟨b, off, none⟩ ∧ b < w.heap.size ∧ ∀ k, k < n * F → w.cell? ⟨b, off + k, none⟩ = cs[k]?)
theorem Dat.reads.below {w w' : World} {v : Value} {d : Dat} (h : d.reads w v) (hb : Below w.heap.size w w') : d.reads w' v := by
  cases d with
  | val u => exact h
  | row t F n cs =>
    obtain ⟨h0, A, cap, e, h1, h2, h3⟩ := h
    refine ⟨h0, A, cap, e, h1, h2, fun hp => ?_⟩
    obtain ⟨b, off, ea, h4, h5⟩ := h3 hp
    exact ⟨b, off, ea, Nat.lt_of_lt_of_le h4 hb.size, fun k hk => (hb.cell (p := ⟨b, off + k, none⟩) h4).trans (h5 k hk)⟩
def innerD : List Value → List Dat → List Rw
  | v :: vs, .row t F n cs :: ds => ⟨v, t, F, n, cs⟩ :: innerD vs ds
  | _ :: vs, .val _ :: ds => innerD vs ds
  | _, _ => []
def valsD : List Value → List Dat → Prop
  | v :: vs, .val u :: ds => v = u ∧ valsD vs ds
  | _ :: vs, .row _ _ _ _ :: ds => valsD vs ds
  | [], [] => True
  | _, _ => False
theorem valsD_len {vs : List Value} {ds : List Dat} (h : valsD vs ds) : vs.length = ds.length := by
  induction vs generalizing ds with
  | nil => cases ds with
    | nil => rfl
    | cons d ds => exact h.elim
  | cons v vs ih => cases ds with
    | nil => exact h.elim
    | cons d ds =>
      simp only [List.length_cons]
      cases d with
      | val u => rw [ih h.2]
      | row t F n cs => rw [ih h]
theorem innerD_append (xs ys : List Value) (ds es : List Dat) (h : xs.length = ds.length) : innerD (xs ++ ys) (ds ++ es) = innerD xs ds ++ innerD ys es := by
  induction xs generalizing ds with
  | nil => cases ds with
    | nil => rfl
    | cons d ds => simp at h
  | cons x xs ih => cases ds with
    | nil => simp at h
    | cons d ds =>
      have h' : xs.length = ds.length := by simpa using h
      cases d with
      | val u => simp only [List.cons_append, innerD]; exact ih ds h'
      | row t F n cs => simp only [List.cons_append, innerD]; rw [ih ds h']
theorem valsD_append {xs ys : List Value} {ds es : List Dat} (h : xs.length = ds.length) : valsD (xs ++ ys) (ds ++ es) ↔ valsD xs ds ∧ valsD ys es := by
  induction xs generalizing ds with
  | nil => cases ds with
    | nil => simp [valsD]
    | cons d ds => simp at h
  | cons x xs ih => cases ds with
    | nil => simp at h
    | cons d ds =>
      have h' : xs.length = ds.length := by simpa using h
      cases d with
      | val u => simp only [List.cons_append, valsD]; rw [ih h', and_assoc]
      | row t F n cs => simp only [List.cons_append, valsD]; rw [ih h']
theorem valsD_val {vs : List Value} {ds : List Dat} (h : valsD vs ds) {k : Nat} {u : Value} (hk : ds[k]? = some (.val u)) : vs[k]? = some u := by
  induction vs generalizing ds k with
  | nil => cases ds with
    | nil => simp at hk
    | cons d ds => exact h.elim
  | cons v vs ih => cases ds with
    | nil => exact h.elim
    | cons d ds =>
      cases k with
      | zero => rw [List.getElem?_cons_zero] at hk ⊢; injection hk with hk; subst hk; rw [h.1]
      | succ k =>
        rw [List.getElem?_cons_succ] at hk ⊢
        cases d with
        | val u' => exact ih h.2 hk
        | row t F n cs => exact ih h hk
theorem innerD_row {vs : List Value} {ds : List Dat} (hl : vs.length = ds.length) {k : Nat} {t : TypeId} {F n : Nat} {cs : List Value} (hk : ds[k]? = some (.row t F n cs)) : ∃ v, vs[k]? = some v ∧ (⟨v, t, F, n, cs⟩ : Rw) ∈ innerD vs ds := by
  induction vs generalizing ds k with
  | nil => cases ds with
    | nil => simp at hk
    | cons d ds => simp at hl
  | cons v vs ih => cases ds with
    | nil => simp at hl
    | cons d ds =>
      have hl' : vs.length = ds.length := by simpa using hl
      cases k with
      | zero =>
        rw [List.getElem?_cons_zero] at hk; injection hk with hk; subst hk
        exact ⟨v, rfl, by simp [innerD]⟩
      | succ k =>
        rw [List.getElem?_cons_succ] at hk
        obtain ⟨v', h1, h2⟩ := ih hl' hk
        refine ⟨v', by rw [List.getElem?_cons_succ]; exact h1, ?_⟩
        cases d with
        | val u' => exact h2
        | row t' F' n' cs' => exact List.mem_cons_of_mem _ h2
theorem Rw.slice {w : World} {B : Nat} {v : Value} {t : TypeId} {F n : Nat} {cs : List Value} (h : (⟨v, t, F, n, cs⟩ : Rw).own w B) : ∃ A c, v = .slice A n c := by
  have h' : w.ownsRow B t F v n cs := h
  rcases h'.2 with ⟨e, h0⟩ | ⟨g, cap, cur, e, _⟩
  · subst h0; exact ⟨none, 0, e⟩
  · exact ⟨_, cap, e⟩
theorem Rw.reads {w : World} {B : Nat} {v : Value} {t : TypeId} {F n : Nat} {cs : List Value} (h : (⟨v, t, F, n, cs⟩ : Rw).own w B) (hl : cs.length = n * F) : (Dat.row t F n cs).reads w v := by
  have h' : w.ownsRow B t F v n cs := h
  refine ⟨hl, ?_⟩
  rcases h'.2 with ⟨e, h0⟩ | ⟨g, cap, cur, e, hb, hg, hn, hm, hc, ht⟩
  · subst e; subst h0
    exact ⟨none, 0, rfl, Nat.le_refl _, Nat.zero_le _, fun h => absurd h (Nat.lt_irrefl _)⟩
  · subst e
    refine ⟨_, cap, rfl, hn, hm, fun _ => ⟨g, 0, rfl, (World.ownsRow.lt h' g rfl).2, fun k hk => ?_⟩⟩
    rw [Nat.zero_add, World.ownsRow.cellAt h' k hk]
section
variable {α : Type} {F : Nat} {dat : α → List Dat} {z : α} {t : TypeId}
def Dat.wf : Dat → Prop
  | .val _ => True
  | .row _ F n cs => cs.length = n * F
def datL (dat : α → List Dat) (l : List α) : List Dat := l.flatMap dat
theorem datL_append (xs ys : List α) : datL dat (xs ++ ys) = datL dat xs ++ datL dat ys := by simp [datL]
theorem datL_length (hF : ∀ r, (dat r).length = F) (l : List α) : (datL dat l).length = l.length * F := by
  induction l with
  | nil => simp [datL]
  | cons r l ih => simp only [datL, List.flatMap_cons, List.length_append, List.length_cons] at *; rw [ih, hF, Nat.succ_mul]; omega
theorem datL_at (hF : ∀ r, (dat r).length = F) (z : α) (l : List α) (j k : Nat) (hj : j < l.length) (hk : k < F) : (datL dat l)[j * F + k]? = (dat (l.getD j z))[k]? := by
  induction l generalizing j with
  | nil => simp at hj
  | cons r l ih =>
    show (dat r ++ datL dat l)[j * F + k]? = _
    cases j with
    | zero => rw [List.getElem?_append_left (by rw [hF]; omega)]; simp
    | succ j =>
      rw [List.getElem?_append_right (by rw [hF, Nat.succ_mul]; omega), hF, show (j + 1) * F + k - F = j * F + k by rw [Nat.succ_mul]; omega, ih j (by simpa using hj)]
      simp
def EltAt (dat : α → List Dat) (w : World) (b o : Nat) (r : α) : Prop := ∀ k d, (dat r)[k]? = some d → ∃ u, w.cell? ⟨b, o + k, none⟩ = some u ∧ d.reads w u
theorem EltAt.below {w w' : World} {b o : Nat} {r : α} (h : EltAt dat w b o r) (hlt : b < w.heap.size) (hb : Below w.heap.size w w') : EltAt dat w' b o r := fun k d hd => by
  obtain ⟨u, h1, h2⟩ := h k d hd
  exact ⟨u, (hb.cell (p := ⟨b, o + k, none⟩) hlt).trans h1, h2.below hb⟩
def ArgT (F : Nat) (dat : α → List Dat) (z : α) (w : World) (v : Value) (l : List α) : Prop :=
  ∃ A cap, v = .slice A l.length cap ∧ l.length ≤ cap ∧ cap ≤ maxLen ∧ (0 < l.length → ∃ b off, A = some ⟨b, off, none⟩ ∧ b < w.heap.size ∧ ∀ j, j < l.length → EltAt dat w b (off + j * F) (l.getD j z))
theorem ArgT.below {w w' : World} {v : Value} {l : List α} (h : ArgT F dat z w v l) (hb : Below w.heap.size w w') : ArgT F dat z w' v l := by
  obtain ⟨A, cap, e, h1, h2, h3⟩ := h
  refine ⟨A, cap, e, h1, h2, fun hp => ?_⟩
  obtain ⟨b, off, ea, h4, h5⟩ := h3 hp
  exact ⟨b, off, ea, Nat.lt_of_lt_of_le h4 hb.size, fun j hj => (h5 j hj).below h4 hb⟩
def OwnX (t : TypeId) (F n : Nat) (w : World) (B E : Nat) (v : Value) (ds : List Dat) : Prop :=
  ∃ vs, valsD vs ds ∧ HeapE w B E (⟨v, t, F, n, vs⟩ :: innerD vs ds)
theorem OwnX.below {n : Nat} {w w' : World} {B E : Nat} {v : Value} {ds : List Dat} (h : OwnX t F n w B E v ds) (hb : Below w.heap.size w w') : OwnX t F n w' B E v ds := by
  obtain ⟨vs, h1, h2⟩ := h; exact ⟨vs, h1, h2.below hb⟩
theorem OwnX.far {n : Nat} {w w' : World} {B E B' E' : Nat} {v : Value} {ds : List Dat} (h : OwnX t F n w B E v ds) (hc : Chg (Within B' E') w w') (hd : E ≤ B' ∨ E' ≤ B) : OwnX t F n w' B E v ds := by
  obtain ⟨vs, h1, h2⟩ := h; exact ⟨vs, h1, h2.far hc hd⟩
theorem OwnX.shape {n : Nat} {w : World} {B E : Nat} {v : Value} {ds : List Dat} (h : OwnX t F n w B E v ds) : (v = .slice none 0 0 ∧ n = 0) ∨ ∃ g cap, v = .slice (some ⟨g, 0, none⟩) n cap ∧ n ≤ cap ∧ cap ≤ maxLen ∧ B ≤ g ∧ g < E := by
  obtain ⟨vs, h1, h2⟩ := h
  have ho := h2.1.own _ List.mem_cons_self
  have ho' : w.ownsRow B t F v n vs := ho
  rcases ho'.2 with ⟨e, h0⟩ | ⟨g, cap, cur, e, hb, hg, hn, hm, _⟩
  · exact .inl ⟨e, h0⟩
  · exact .inr ⟨g, cap, e, hn, hm, hb, h2.2 _ List.mem_cons_self g (by rw [e]; rfl)⟩
theorem OwnX.val {n : Nat} {w : World} {B E g cap : Nat} {ds : List Dat} (h : OwnX t F n w B E (.slice (some ⟨g, 0, none⟩) n cap) ds) {i : Nat} (hi : i < n * F) {u : Value} (hd : ds[i]? = some (.val u)) : w.cell? ⟨g, i, none⟩ = some u := by
  obtain ⟨vs, h1, h2⟩ := h
  have ho : w.ownsRow B t F (.slice (some ⟨g, 0, none⟩) n cap) n vs := h2.1.own _ List.mem_cons_self
  rw [World.ownsRow.cellAt ho i hi]
  exact valsD_val h1 hd
theorem OwnX.row {n : Nat} {w : World} {B E g cap : Nat} {ds : List Dat} (h : OwnX t F n w B E (.slice (some ⟨g, 0, none⟩) n cap) ds) {i : Nat} (hi : i < n * F) {t' : TypeId} {F' n' : Nat} {cs : List Value} (hd : ds[i]? = some (.row t' F' n' cs)) :
    ∃ u, w.cell? ⟨g, i, none⟩ = some u ∧ w.ownsRow B t' F' u n' cs := by
  obtain ⟨vs, h1, h2⟩ := h
  have ho : w.ownsRow B t F (.slice (some ⟨g, 0, none⟩) n cap) n vs := h2.1.own _ List.mem_cons_self
  obtain ⟨u, hu, hm⟩ := innerD_row (valsD_len h1) hd
  exact ⟨u, by rw [World.ownsRow.cellAt ho i hi]; exact hu, h2.1.own _ (List.mem_cons_of_mem _ hm)⟩
theorem OwnX.frz {n : Nat} {w : World} {B E g cap : Nat} {ds : List Dat} (h : OwnX t F n w B E (.slice (some ⟨g, 0, none⟩) n cap) ds) (j : Nat) : w.frozen? ⟨g, j, none⟩ = false := by
  obtain ⟨vs, h1, h2⟩ := h
  have ho : w.ownsRow B t F (.slice (some ⟨g, 0, none⟩) n cap) n vs := h2.1.own _ List.mem_cons_self
  exact World.ownsRow.frozenAt ho j
theorem split_at {β : Type} {l : List β} {i : Nat} {x : β} (h : l[i]? = some x) : l = l.take i ++ x :: l.drop (i + 1) ∧ (l.take i).length = i := by
  obtain ⟨hi, e⟩ := List.getElem?_eq_some_iff.1 h
  refine ⟨?_, by rw [List.length_take]; omega⟩
  rw [← e, ← List.drop_eq_getElem_cons hi, List.take_append_drop]
theorem set_mid {β : Type} (xs ys : List β) (x y : β) (i : Nat) (h : xs.length = i) : (xs ++ x :: ys).set i y = xs ++ y :: ys := by
  subst h
  rw [List.set_append_right _ _ (Nat.le_refl _), Nat.sub_self, List.set_cons_zero]
theorem OwnX.set {n : Nat} {w : World} {B E g cap : Nat} {ds : List Dat} (h : OwnX t F n w B E (.slice (some ⟨g, 0, none⟩) n cap) ds) {i : Nat} {x : Value} (hd : ds[i]? = some (.val x)) (u : Value) :
    OwnX t F n (w.setCell ⟨g, i, none⟩ u) B E (.slice (some ⟨g, 0, none⟩) n cap) (ds.set i (.val u)) ∧ w.grownBy (w.setCell ⟨g, i, none⟩ u) (some g) := by
  obtain ⟨vs, h1, h2⟩ := h
  have hs := Heap.set (A := []) h2.1 i u
  refine ⟨⟨vs.set i u, ?_, ?_⟩, hs.2⟩
  · obtain ⟨e, hl⟩ := split_at hd
    obtain ⟨e', hl'⟩ := split_at (valsD_val h1 hd)
    rw [e, e', valsD_append (by rw [hl, hl'])] at h1
    rw [e, e', set_mid _ _ _ _ _ hl, set_mid _ _ _ _ _ hl', valsD_append (by rw [hl, hl'])]
    exact ⟨h1.1, rfl, h1.2.2⟩
  · have hin : innerD (vs.set i u) (ds.set i (.val u)) = innerD vs ds := by
      obtain ⟨e, hl⟩ := split_at hd
      obtain ⟨e', hl'⟩ := split_at (valsD_val h1 hd)
      conv => lhs; rw [e, e', set_mid _ _ _ _ _ hl, set_mid _ _ _ _ _ hl', innerD_append _ _ _ _ (by rw [hl, hl'])]
      conv => rhs; rw [e, e', innerD_append _ _ _ _ (by rw [hl, hl'])]
      rfl
    rw [hin]
    refine ⟨hs.1, fun r hr k hk => ?_⟩
    rcases List.mem_cons.1 hr with rfl | h3
    · exact h2.2 _ List.mem_cons_self k hk
    · exact h2.2 _ (List.mem_cons_of_mem _ h3) k hk
theorem OwnX.turn {n : Nat} {w w' : World} {B E : Nat} {v : Value} {ds : List Dat} (h : OwnX t F n w B E v ds) {i : Nat} {t' : TypeId} {F' n' : Nat} {cs cs' : List Value} {u : Value} (hd : ds[i]? = some (.row t' F' n' cs))
    (hc : ∃ g cap, v = .slice (some ⟨g, 0, none⟩) n cap ∧ w.cell? ⟨g, i, none⟩ = some u) (hi : i < n * F) (hg : w.grownBy w' u.ownBlock) (ho : w'.ownsRow B t' F' u n' cs') : OwnX t F n w' B E v (ds.set i (.row t' F' n' cs')) := by
  obtain ⟨vs, h1, h2⟩ := h
  obtain ⟨g, cap, rfl, hcell⟩ := hc
  have hro : w.ownsRow B t F (.slice (some ⟨g, 0, none⟩) n cap) n vs := h2.1.own _ List.mem_cons_self
  rw [World.ownsRow.cellAt hro i hi] at hcell
  obtain ⟨e, hl⟩ := split_at hd
  obtain ⟨e', hl'⟩ := split_at hcell
  have hlen : (vs.take i).length = (ds.take i).length := by rw [hl, hl']
  have hin : innerD vs ds = innerD (vs.take i) (ds.take i) ++ ⟨u, t', F', n', cs⟩ :: innerD (vs.drop (i + 1)) (ds.drop (i + 1)) := by
    conv => lhs; rw [e, e', innerD_append _ _ _ _ hlen]
    rfl
  have hin' : innerD vs (ds.set i (.row t' F' n' cs')) = innerD (vs.take i) (ds.take i) ++ ⟨u, t', F', n', cs'⟩ :: innerD (vs.drop (i + 1)) (ds.drop (i + 1)) := by
    conv => lhs; rw [e, e', set_mid _ _ _ _ _ hl, innerD_append _ _ _ _ hlen]
    rfl
  refine ⟨vs, ?_, ?_⟩
  · conv at h1 => rw [e, e']
    rw [valsD_append hlen] at h1
    rw [e]
    conv => lhs; rw [e']
    rw [set_mid _ _ _ _ _ hl, valsD_append hlen]
    exact ⟨h1.1, h1.2⟩
  · rw [hin']
    rw [hin] at h2
    have := Heap.turn (w' := w') (A := ⟨.slice (some ⟨g, 0, none⟩) n cap, t, F, n, vs⟩ :: innerD (vs.take i) (ds.take i)) (r := ⟨u, t', F', n', cs⟩) (r' := ⟨u, t', F', n', cs'⟩) (by simpa using h2.1) hg ho (.inl rfl)
    refine ⟨by simpa using this, fun r hr k hk => ?_⟩
    simp only [List.mem_cons, List.mem_append] at hr
    have hm := fun r hr => h2.2 r hr
    simp only [List.mem_cons, List.mem_append] at hm
    rcases hr with rfl | h3 | rfl | h3
    · exact hm _ (.inl rfl) k hk
    · exact hm _ (.inr (.inl h3)) k hk
    · exact hm ⟨u, t', F', n', cs⟩ (.inr (.inr (.inl rfl))) k hk
    · exact hm _ (.inr (.inr (.inr h3))) k hk
theorem Heap.perm {w : World} {B : Nat} {L M : List Rw} (h : Heap w B L) (hp : L.Perm M) : Heap w B M :=
  ⟨fun r hr => h.own r (hp.mem_iff.2 hr), (hp.pairwise_iff (fun hx => hx.symm)).1 h.ap⟩
theorem OwnX.mono {n : Nat} {w : World} {B E E' : Nat} {v : Value} {ds : List Dat} (h : OwnX t F n w B E v ds) (hE : E ≤ E') : OwnX t F n w B E' v ds := by
  obtain ⟨vs, h1, h2⟩ := h; exact ⟨vs, h1, h2.1, fun r hr k hk => Nat.lt_of_lt_of_le (h2.2 r hr k hk) hE⟩
theorem OwnX.base {n : Nat} {w : World} {B B' E : Nat} {v : Value} {ds : List Dat} (h : OwnX t F n w B E v ds) (hB : B' ≤ B) : OwnX t F n w B' E v ds := by
  obtain ⟨vs, h1, h2⟩ := h; exact ⟨vs, h1, h2.1.base hB, h2.2⟩
theorem chg_setRow (w : World) (g : Nat) (cs : Array Value) : Chg (Within g (g + 1)) w (w.setRow g cs) :=
  Chg.of_grown (grown_setRow w g cs) (fun k hk => by injection hk with hk; unfold Within; omega)
theorem OwnDE.slice {β : Type} {t1 t : TypeId} {F : Nat} {c : β → Array Value} {w : World} {B E : Nat} {v : Value} {ls : List (List β)} (h : OwnDE t1 t F c w B E v ls) : ∃ A cap, v = .slice A ls.length cap := by
  obtain ⟨vs, h1, h2⟩ := h
  rcases (h2.1.own _ List.mem_cons_self).2 with ⟨e, h0⟩ | ⟨g, cap, cur, e, _⟩
  · have h0 : ls.length = 0 := h0
    exact ⟨none, 0, by rw [h0]; exact e⟩
  · exact ⟨_, cap, e⟩
theorem OwnD.base {β : Type} {t1 t : TypeId} {F : Nat} {c : β → Array Value} {w : World} {B B' : Nat} {v : Value} {ls : List (List β)} (h : OwnD t1 t F c w B v ls) (hB : B' ≤ B) : OwnD t1 t F c w B' v ls := by
  obtain ⟨vs, h1, h2⟩ := h; exact ⟨vs, h1, h2.base hB⟩
theorem Heap.putN {w : World} {base g n cap : Nat} {M : List Rw} {t : TypeId} {F : Nat} (us cs : List Value) (o : Nat) (h : Heap w base (⟨.slice (some ⟨g, 0, none⟩) n cap, t, F, n, cs⟩ :: M)) :
    Heap (putN w g o us) base (⟨.slice (some ⟨g, 0, none⟩) n cap, t, F, n, setN cs o us⟩ :: M) ∧ w.grownBy (putN w g o us) (some g) := by
  induction us generalizing w cs o with
  | nil => exact ⟨h, World.grownBy.refl _ _⟩
  | cons u us ih =>
    have hs := Heap.set (A := []) h o u
    have := ih (w := w.setCell ⟨g, o, none⟩ u) (cs.set o u) (o + 1) hs.1
    exact ⟨this.1, grownF hs.2 this.2⟩
theorem OwnX.put {n : Nat} {w : World} {B E B' E' g cap : Nat} {D1 D D2 D' : List Dat} {us : List Value} (h : OwnX t F n w B E (.slice (some ⟨g, 0, none⟩) n cap) (D1 ++ (D ++ D2))) {o : Nat} (ho : D1.length = o) (hl : D.length = us.length)
    (hv : valsD us D') (hn : HeapE w B' E' (innerD us D')) (hE : E ≤ B') (hB : B ≤ E) (hE' : E ≤ E') : OwnX t F n (putN w g o us) B E' (.slice (some ⟨g, 0, none⟩) n cap) (D1 ++ (D' ++ D2)) ∧ w.grownBy (putN w g o us) (some g) := by
  obtain ⟨vs, h1, h2⟩ := h
  have hlen := valsD_len h1
  rw [List.length_append, List.length_append] at hlen
  have e1 : vs = vs.take o ++ ((vs.drop o).take us.length ++ vs.drop (o + us.length)) := by
    rw [← List.drop_drop, List.take_append_drop, List.take_append_drop]
  generalize hV1 : vs.take o = V1 at e1
  generalize hV : (vs.drop o).take us.length = V at e1
  generalize vs.drop (o + us.length) = V2 at e1
  have l1 : V1.length = D1.length := by rw [← hV1, List.length_take]; omega
  have l2 : V.length = D.length := by rw [← hV, List.length_take, List.length_drop]; omega
  subst e1
  rw [valsD_append l1, valsD_append l2] at h1
  rw [innerD_append _ _ _ _ l1, innerD_append _ _ _ _ l2] at h2
  have hus := valsD_len hv
  have H1 := h2.1.sub (M := ⟨.slice (some ⟨g, 0, none⟩) n cap, t, F, n, V1 ++ (V ++ V2)⟩ :: (innerD V1 D1 ++ innerD V2 D2)) (by
    refine List.Sublist.cons_cons _ (List.Sublist.append (List.Sublist.refl _) (List.sublist_append_right _ _)))
  have H2 := Heap.putN us _ o H1
  rw [show setN (V1 ++ (V ++ V2)) o us = V1 ++ (us ++ V2) by rw [← ho, ← l1]; exact setN_mid us V V1 V2 (by omega)] at H2
  have hg : g < E := h2.2 _ List.mem_cons_self g rfl
  have H3 : Heap (putN w g o us) B' (innerD us D') := hn.1.grown H2.2 (fun r hr => by
    cases e : r.v.ownBlock with
    | none => exact .inl rfl
    | some k => exact .inr (by rw [← e]; intro hk; rw [e] at hk; injection hk with hk; have := hn.1.base_le hr k e; omega))
  have hlt : ∀ r ∈ (⟨.slice (some ⟨g, 0, none⟩) n cap, t, F, n, V1 ++ (us ++ V2)⟩ : Rw) :: (innerD V1 D1 ++ innerD V2 D2), ∀ b, r.v.ownBlock = some b → b < E := by
    intro r hr b hb
    rcases List.mem_cons.1 hr with rfl | h3
    · exact h2.2 _ List.mem_cons_self b hb
    · refine h2.2 r (List.mem_cons_of_mem _ ?_) b hb
      rcases List.mem_append.1 h3 with h4 | h4
      · exact List.mem_append_left _ h4
      · exact List.mem_append_right _ (List.mem_append_right _ h4)
  have H4 := H2.1.join H3 (by omega) (fun r hr b hb => by have := hlt r hr b hb; omega)
  refine ⟨⟨V1 ++ (us ++ V2), ?_, ?_⟩, H2.2⟩
  · rw [valsD_append l1, valsD_append hus]; exact ⟨h1.1, hv, h1.2.2⟩
  · rw [innerD_append _ _ _ _ l1, innerD_append _ _ _ _ hus]
    refine ⟨H4.perm ?_, fun r hr k hk => ?_⟩
    · rw [List.cons_append]
      refine List.Perm.cons _ ?_
      rw [List.append_assoc]
      exact List.Perm.append_left _ List.perm_append_comm
    · rcases List.mem_cons.1 hr with rfl | h3
      · have := hlt _ List.mem_cons_self k hk; omega
      · rcases List.mem_append.1 h3 with h4 | h4
        · have := hlt r (List.mem_cons_of_mem _ (List.mem_append_left _ h4)) k hk; omega
        · rcases List.mem_append.1 h4 with h5 | h5
          · exact hn.2 r h5 k hk
          · have := hlt r (List.mem_cons_of_mem _ (List.mem_append_right _ h5)) k hk; omega
theorem setCells_putN (w : World) (g o : Nat) (us : List Value) : w.setCells g o us = putN w g o us := by
  induction us generalizing w o with
  | nil => rfl
  | cons u us ih => exact ih (w.setCell ⟨g, o, none⟩ u) (o + 1)
theorem Heap.nils {w : World} {B : Nat} {r : Rw} (h : r.own w B) : ∀ {L : List Rw}, (∀ x ∈ L, x.v = .slice none 0 0 ∧ x.n = 0 ∧ x.cs = []) → Heap w B (r :: L) := by
  intro L hL
  have hn : ∀ x ∈ L, x.v.ownBlock = none := fun x hx => by rw [(hL x hx).1]; rfl
  refine ⟨fun x hx => ?_, ?_⟩
  · rcases List.mem_cons.1 hx with rfl | h2
    · exact h
    · obtain ⟨e1, e2, e3⟩ := hL x h2
      exact ⟨by rw [e2, e3]; simp, .inl ⟨e1, e2⟩⟩
  · have ap : ∀ (x y : Rw), y.v.ownBlock = none → Ap x.v y.v ∧ Ap y.v x.v := by
      intro x y hy
      refine ⟨?_, .inl hy⟩
      cases e : x.v.ownBlock with
      | none => exact .inl e
      | some k => exact .inr (by rw [e, hy]; intro h; cases h)
    rw [List.pairwise_cons]
    refine ⟨fun x hx => ap r x (hn x hx), ?_⟩
    exact List.Pairwise.imp_of_mem (R := fun _ _ => True) (fun {x y} _ hy _ => ap x y (hn y hy)) (List.pairwise_of_forall (fun _ _ => trivial))
theorem OwnX.made {w : World} {base g n cap : Nat} {zc : Array Value} (h : w.ownsRow base t F (.slice (some ⟨g, 0, none⟩) n cap) n (madeCells zc (n * F)).toList) (hz : zc.size = F) (h0 : 0 < F) (hv : valsD zc.toList (dat z))
    (hi : ∀ x ∈ innerD zc.toList (dat z), x.v = .slice none 0 0 ∧ x.n = 0 ∧ x.cs = []) : OwnX t F n w base w.heap.size (.slice (some ⟨g, 0, none⟩) n cap) (datL dat (List.replicate n z)) := by
  have hF := fun (r : Unit) => hz
  have e := zeroF_cells (c := fun _ : Unit => zc) (z := ()) (.agg zc) rfl hF h0 n
  have e' : (Value.agg zc).cells = zc := rfl
  rw [e'] at e
  rw [e] at h
  have key : ∀ m, valsD (cellsF (fun _ : Unit => zc) (List.replicate m ())) (datL dat (List.replicate m z)) ∧ ∀ x ∈ innerD (cellsF (fun _ : Unit => zc) (List.replicate m ())) (datL dat (List.replicate m z)), x.v = .slice none 0 0 ∧ x.n = 0 ∧ x.cs = [] := by
    intro m
    induction m with
    | zero => exact ⟨trivial, fun x hx => by cases hx⟩
    | succ m ih =>
      have e1 : cellsF (fun _ : Unit => zc) (List.replicate (m + 1) ()) = zc.toList ++ cellsF (fun _ : Unit => zc) (List.replicate m ()) := rfl
      have e2 : datL dat (List.replicate (m + 1) z) = dat z ++ datL dat (List.replicate m z) := rfl
      rw [e1, e2, valsD_append (valsD_len hv), innerD_append _ _ _ _ (valsD_len hv)]
      refine ⟨⟨hv, ih.1⟩, fun x hx => ?_⟩
      rcases List.mem_append.1 hx with h1 | h1
      · exact hi x h1
      · exact ih.2 x h1
  exact ⟨cellsF (fun _ : Unit => zc) (List.replicate n ()), (key n).1, HeapE.made (Heap.nils (r := ⟨.slice (some ⟨g, 0, none⟩) n cap, t, F, n, cellsF (fun _ : Unit => zc) (List.replicate n ())⟩) h (key n).2)⟩
theorem OwnX.there {n : Nat} {w : World} {B E g cap : Nat} {ds : List Dat} (h : OwnX t F n w B E (.slice (some ⟨g, 0, none⟩) n cap) ds) {o m : Nat} (hm : o + m ≤ n * F) : w.there g o m := by
  intro j hj
  obtain ⟨vs, h1, h2⟩ := h
  have ho : w.ownsRow B t F (.slice (some ⟨g, 0, none⟩) n cap) n vs := h2.1.own _ List.mem_cons_self
  exact ⟨by rw [World.ownsRow.cellAt ho (o + j) (by omega), List.getElem?_eq_getElem (by rw [ho.1]; omega)]; rfl, World.ownsRow.frozenAt ho (o + j)⟩
def OwnY (t : TypeId) (F : Nat) (dat : α → List Dat) (w : World) (B E : Nat) (v : Value) (l : List α) : Prop := OwnX t F l.length w B E v (datL dat l)
theorem OwnY.below {w w' : World} {B E : Nat} {v : Value} {l : List α} (h : OwnY t F dat w B E v l) (hb : Below w.heap.size w w') : OwnY t F dat w' B E v l := by
  obtain ⟨vs, h1, h2⟩ := h; exact ⟨vs, h1, h2.below hb⟩
theorem OwnY.far {w w' : World} {B E B' E' : Nat} {v : Value} {l : List α} (h : OwnY t F dat w B E v l) (hc : Chg (Within B' E') w w') (hd : E ≤ B' ∨ E' ≤ B) : OwnY t F dat w' B E v l := by
  obtain ⟨vs, h1, h2⟩ := h; exact ⟨vs, h1, h2.far hc hd⟩
theorem OwnY.shape {w : World} {B E : Nat} {v : Value} {l : List α} (h : OwnY t F dat w B E v l) : ∃ A cap, v = .slice A l.length cap := by
  obtain ⟨vs, h1, h2⟩ := h
  rcases (h2.1.own _ List.mem_cons_self).2 with ⟨e, h0⟩ | ⟨g, cap, cur, e, _⟩
  · have h0 : l.length = 0 := h0
    exact ⟨none, 0, by rw [h0]; exact e⟩
  · exact ⟨_, cap, e⟩
theorem OwnY.arg {w : World} {B E : Nat} {v : Value} {l : List α} (h : OwnY t F dat w B E v l) (hF : ∀ r, (dat r).length = F) (hwf : ∀ r, ∀ d ∈ dat r, d.wf) (z : α) : ArgT F dat z w v l := by
  obtain ⟨vs, hv, hh⟩ := h
  have ho := hh.1.own _ List.mem_cons_self
  have ho' : w.ownsRow B t F v l.length vs := ho
  have hl := valsD_len hv
  rcases ho'.2 with ⟨e, h0⟩ | ⟨g, cap, cur, e, hb, hg, hn, hm, hc, ht⟩
  · subst e
    exact ⟨none, 0, by rw [h0], by omega, Nat.zero_le _, fun h => by omega⟩
  · subst e
    refine ⟨_, cap, rfl, hn, hm, fun _ => ⟨g, 0, rfl, (World.ownsRow.lt ho' g rfl).2, fun j hj k d hd => ?_⟩⟩
    have hk : k < F := by rw [← hF (l.getD j z)]; exact (List.getElem?_eq_some_iff.1 hd).1
    have hlt : j * F + k < l.length * F := Nat.lt_of_lt_of_le (show j * F + k < (j + 1) * F by rw [Nat.add_mul]; omega) (Nat.mul_le_mul_right F hj)
    have hd' : (datL dat l)[j * F + k]? = some d := by rw [datL_at hF z l j k hj hk]; exact hd
    have hcell := World.ownsRow.cellAt ho' (j * F + k) hlt
    rw [Nat.zero_add]
    cases d with
    | val u => exact ⟨u, by rw [hcell]; exact valsD_val hv hd', rfl⟩
    | row t' F' n' cs' =>
      obtain ⟨u, hu, hm'⟩ := innerD_row hl hd'
      exact ⟨u, by rw [hcell]; exact hu, Rw.reads (hh.1.own _ (List.mem_cons_of_mem _ hm')) (hwf _ _ (List.mem_of_getElem? hd))⟩
end
end Go.Proofs.YtnlepnfdgdbkoaaGreatDoor
namespace Go.Proofs.YtnlepnfdgdbkoaaGreatDoor
open Go.RowKit M
set_option linter.unusedVariables false
theorem txt_ne {x y : ByteArray} (h : x ≠ y) : (x.toList == y.toList) = false := by
  rw [beq_eq_false_iff_ne]
  intro e
  rw [ByteArray.toList_eq, ByteArray.toList_eq] at e
  exact h (ByteArray.ext (Array.ext' e))
theorem txt_self (x : ByteArray) : (x.toList == x.toList) = true := by simp
def TxtArg (w : World) (v : Value) (l : List ByteArray) : Prop :=
  ∃ A cap, v = .slice A l.length cap ∧ l.length ≤ cap ∧ cap ≤ maxLen ∧ (0 < l.length → ∃ b off, A = some ⟨b, off, none⟩ ∧ b < w.heap.size ∧ ∀ j, j < l.length → w.cell? ⟨b, off + j, none⟩ = some (.string (l.getD j ⟨#[]⟩)))
theorem TxtArg.below {w w' : World} {v : Value} {l : List ByteArray} (h : TxtArg w v l) (hb : Below w.heap.size w w') : TxtArg w' v l := by
  obtain ⟨A, cap, e, h1, h2, h3⟩ := h
  refine ⟨A, cap, e, h1, h2, fun hp => ?_⟩
  obtain ⟨b, off, ea, h4, h5⟩ := h3 hp
  exact ⟨b, off, ea, Nat.lt_of_lt_of_le h4 hb.size, fun j hj => (hb.cell (p := ⟨b, off + j, none⟩) h4).trans (h5 j hj)⟩
def OwnT (w : World) (base : Nat) (v : Value) (l : List ByteArray) : Prop := w.ownsRow base 9 1 v l.length (l.map Value.string)
theorem OwnT.alloc {w : World} {base : Nat} {v : Value} {l : List ByteArray} (h : OwnT w base v l) (o : Obj) : OwnT (w.alloc o) base v l := World.ownsRow.alloc h o
theorem OwnT.kept {w w' : World} {base : Nat} {v : Value} {l : List ByteArray} {row : Option Nat} (h : OwnT w base v l) (hg : w.grownBy w' row) (hne : v.ownBlock = none ∨ v.ownBlock ≠ row) : OwnT w' base v l := World.ownsRow.kept h hg hne
theorem OwnT.base_le {w : World} {base : Nat} {v : Value} {l : List ByteArray} (h : OwnT w base v l) : ∀ k, v.ownBlock = some k → base ≤ k := fun k hk => (World.ownsRow.lt h k hk).1
theorem OwnT.below {w w' : World} {base : Nat} {v : Value} {l : List ByteArray} (h : OwnT w base v l) (hb : Below w.heap.size w w') : OwnT w' base v l :=
  h.kept (row := none) ⟨hb.os, hb.tape, hb.output, hb.size, fun i hi _ => hb.block i hi⟩ (by cases v.ownBlock <;> simp)
theorem OwnT.arg {w : World} {base : Nat} {v : Value} {l : List ByteArray} (h : OwnT w base v l) : TxtArg w v l := by
  have h' := h
  rcases h.2 with ⟨rfl, h0⟩ | ⟨g, cap, cur, rfl, hb, hg, hn, hm, hc, ht⟩
  · exact ⟨none, 0, by rw [h0], by omega, Nat.zero_le _, fun h => by omega⟩
  · refine ⟨_, cap, rfl, hn, hm, fun _ => ⟨g, 0, rfl, (World.ownsRow.lt h' g rfl).2, fun j hj => ?_⟩⟩
    rw [Nat.zero_add, World.ownsRow.cellAt h' j (by omega), List.getElem?_map, List.getElem?_eq_getElem hj, List.getD_eq_getElem?_getD, List.getElem?_eq_getElem hj]
    rfl
end Go.Proofs.YtnlepnfdgdbkoaaGreatDoor
namespace Go.Proofs.YtnlepnfdgdbkoaaGreatDoor
open Go.RowKit M
set_option linter.unusedVariables false
theorem info_u8 : (Tryz.prog.info? 5).map (fun i => (i.zero, i.size, i.bytes)) = some (some (.int .u8 0), 1, 1) := by kernel_rfl
def b2v (c : UInt8) : Value := .int .u8 (c.toNat : Int)
def OwnB (w : World) (base : Nat) (v : Value) (l : List UInt8) : Prop := w.ownsRow base 5 1 v l.length (l.map b2v)
theorem OwnB.alloc {w : World} {base : Nat} {v : Value} {l : List UInt8} (h : OwnB w base v l) (o : Obj) : OwnB (w.alloc o) base v l := World.ownsRow.alloc h o
theorem OwnB.kept {w w' : World} {base : Nat} {v : Value} {l : List UInt8} {row : Option Nat} (h : OwnB w base v l) (hg : w.grownBy w' row) (hne : v.ownBlock = none ∨ v.ownBlock ≠ row) : OwnB w' base v l := World.ownsRow.kept h hg hne
theorem conv_own {W : World} {base : Nat} {v : Value} {l : List UInt8} (h : OwnB W base v l) :
    (convert 22 9 v).run Tryz.prog W = .ok (.string ⟨l.toArray⟩) W := by
  rcases h.2 with ⟨rfl, h0⟩ | ⟨g, cap, cur, rfl, hb, hg, hn, hm, hc, ht⟩
  · have : l = [] := List.eq_nil_of_length_eq_zero h0
    subst this
    exact run_convert_bytes_nil (P := Tryz.prog) W 22 5 Tryz.underlying22 Tryz.underlying5 0 0 9 Tryz.underlying9
  · have hx := run_convert_bytes_arg (P := Tryz.prog) W 22 5 Tryz.underlying22 Tryz.underlying5 g 0 l.length cap (l.map fun c => (c.toNat : Int)) (by simp) (by
      intro i hi
      rw [Nat.zero_add, World.ownsRow.cellAt h i (by omega), List.getElem?_map, List.getElem?_eq_getElem hi]
      simp [b2v, List.getD, List.getElem?_eq_getElem hi]) 9 Tryz.underlying9
    rw [hx]
    have : strOfNums (l.map fun c => (c.toNat : Int)) = ⟨l.toArray⟩ := by
      simp [strOfNums, Function.comp_def]
    rw [this]
theorem OwnB.cell {w : World} {base g n cap : Nat} {l : List UInt8} (h : OwnB w base (.slice (some ⟨g, 0, none⟩) n cap) l) (hn : l.length = n) {j : Nat} {c : UInt8} (hj : l[j]? = some c) : w.cell? ⟨g, j, none⟩ = some (b2v c) := by
  subst hn
  obtain ⟨hl, _⟩ := List.getElem?_eq_some_iff.1 hj
  rw [World.ownsRow.cellAt h j (by omega), List.getElem?_map, hj]; rfl
theorem OwnB.cellEx {w : World} {base g n cap : Nat} {l : List UInt8} (h : OwnB w base (.slice (some ⟨g, 0, none⟩) n cap) l) (hn : l.length = n) {j : Nat} (hj : j < n) : ∃ z : Int, w.cell? ⟨g, j, none⟩ = some (.int .u8 z) :=
  ⟨_, h.cell hn (List.getElem?_eq_getElem (by omega))⟩
theorem OwnB.frz {w : World} {base g n cap : Nat} {l : List UInt8} (h : OwnB w base (.slice (some ⟨g, 0, none⟩) n cap) l) (hn : l.length = n) (j : Nat) : w.frozen? ⟨g, j, none⟩ = false := by
  subst hn
  exact World.ownsRow.frozenAt h j
def part (l : List UInt8) (j : Nat) : List UInt8 := l.take j ++ List.replicate (l.length - j) 0
theorem part_length (l : List UInt8) (j : Nat) : (part l j).length = l.length := by
  simp only [part, List.length_append, List.length_take, List.length_replicate]; omega
theorem part_zero (l : List UInt8) : part l 0 = List.replicate l.length 0 := by simp [part]
theorem part_all (l : List UInt8) : part l l.length = l := by simp [part]
theorem part_set (l : List UInt8) (j : Nat) (c : UInt8) (hc : l[j]? = some c) : (part l j).set j c = part l (j + 1) := by
  obtain ⟨hj, he⟩ := List.getElem?_eq_some_iff.1 hc
  apply List.ext_getElem?
  intro i
  unfold part
  rcases Nat.lt_trichotomy i j with h | h | h
  · rw [List.getElem?_set_ne (by omega), List.getElem?_append_left (by simp; omega), List.getElem?_append_left (by simp; omega), List.getElem?_take_of_lt h, List.getElem?_take_of_lt (by omega)]
  · subst h
    rw [List.getElem?_set_self (by simp; omega), List.getElem?_append_left (by simp; omega), List.getElem?_take_of_lt (by omega), hc]
  · rw [List.getElem?_set_ne (by omega), List.getElem?_append_right (by simp; omega), List.getElem?_append_right (by simp; omega)]
    simp only [List.length_take, List.getElem?_replicate]
    congr 1
    simp only [eq_iff_iff]
    omega
theorem OwnB.made {w : World} {base g n : Nat} {cap : Nat} (h : w.ownsRow base 5 1 (.slice (some ⟨g, 0, none⟩) n cap) n (madeCells (Value.int .u8 0).cells (n * 1)).toList) (l : List UInt8) (hl : l.length = n) :
    OwnB w base (.slice (some ⟨g, 0, none⟩) n cap) (part l 0) := by
  unfold OwnB
  rw [part_length, hl, part_zero, hl]
  have : (madeCells (Value.int .u8 0).cells (n * 1)).toList = (List.replicate n (0 : UInt8)).map b2v := by
    rw [Nat.mul_one, List.map_replicate]
    exact toList_madeCells_one _ _
  rw [← this]
  exact h
theorem OwnB.store {w : World} {base g n cap : Nat} {l : List UInt8} {j : Nat} (hn : l.length = n) (h : OwnB w base (.slice (some ⟨g, 0, none⟩) n cap) (part l j)) (c : UInt8) (hc : l[j]? = some c) :
    OwnB (w.setCell ⟨g, j, none⟩ (b2v c)) base (.slice (some ⟨g, 0, none⟩) n cap) (part l (j + 1)) ∧ w.grownBy (w.setCell ⟨g, j, none⟩ (b2v c)) (some g) := by
  subst hn
  unfold OwnB at h ⊢
  rw [part_length] at h ⊢
  have hs := World.ownsRow.stored h j (b2v c)
  rw [← List.map_set, part_set l j c hc] at hs
  exact hs
theorem OwnB.drew {w : World} {base : Nat} {v : Value} {l : List UInt8} (h : OwnB w base v l) : OwnB w.drew base v l := h
theorem OwnB.base_le {w : World} {base : Nat} {v : Value} {l : List UInt8} (h : OwnB w base v l) : ∀ k, v.ownBlock = some k → base ≤ k := fun k hk => (World.ownsRow.lt h k hk).1
end Go.Proofs.YtnlepnfdgdbkoaaGreatDoor
namespace Go.Proofs.YtnlepnfdgdbkoaaGreatDoor.M
open Go.RowKit
theorem len_data (s : ByteArray) : s.data.toList.length = s.size := Array.length_toList
def val : List UInt8 → Nat
  | [] => 0
  | c :: l => c.toNat % 128 + 128 * val l
def good (l : List UInt8) (k : Nat) : Bool := vb 6 (val (l.take k)) == l.take k
def HighTo (l : List UInt8) (p : Nat) : Prop := ∀ (i : Nat) (c : UInt8), i < p → l[i]? = some c → 128 ≤ c.toNat
theorem HighTo.succ {s : ByteArray} {p : Nat} (h : HighTo s.data.toList p) (hp : p < s.size) (hc : 127 < s[p].toNat) : HighTo s.data.toList (p + 1) := by
  intro i c hi hget
  rcases Nat.lt_or_ge i p with h1 | h1
  · exact h i c h1 hget
  · obtain rfl : i = p := by omega
    have e : s.data.toList[i]? = some s[i] := by rw [List.getElem?_eq_getElem (by rw [len_data]; exact hp)]; rfl
    rw [e] at hget
    obtain rfl : s[i] = c := by simpa using hget
    omega
end Go.Proofs.YtnlepnfdgdbkoaaGreatDoor.M
namespace Go.Proofs.YtnlepnfdgdbkoaaGreatDoor.M
open Go.RowKit
theorem dec_small {u : Nat} (h : u < 10) : Lib.decDigits u = [UInt8.ofNat (48 + u)] := by rw [Lib.decDigits, dif_pos h]
theorem dec_big {u : Nat} (h : ¬ u < 10) : Lib.decDigits u = Lib.decDigits (u / 10) ++ [UInt8.ofNat (48 + u % 10)] := by rw [Lib.decDigits, dif_neg h]
def DecAt (m u : Nat) (acc : List UInt8) : Prop := (u = 0 ∧ acc = Lib.decDigits m) ∨ (0 < u ∧ Lib.decDigits u ++ acc = Lib.decDigits m)
theorem DecAt.start {m : Nat} (h : 0 < m) : DecAt m m [] := Or.inr ⟨h, by simp⟩
theorem DecAt.step {m u : Nat} {acc : List UInt8} (h : DecAt m u acc) (hu : 0 < u) : DecAt m (u / 10) (UInt8.ofNat (48 + u % 10) :: acc) := by
  rcases h with ⟨h0, _⟩ | ⟨_, h1⟩
  · omega
  · by_cases hs : u < 10
    · left
      rw [dec_small hs] at h1
      rw [Nat.mod_eq_of_lt hs]
      exact ⟨by omega, by rw [← h1]; rfl⟩
    · right
      rw [dec_big hs] at h1
      exact ⟨by omega, by rw [← h1]; simp⟩
theorem DecAt.stop {m : Nat} {acc : List UInt8} (h : DecAt m 0 acc) : acc = Lib.decDigits m := by
  rcases h with ⟨_, h1⟩ | ⟨h0, _⟩
  · exact h1
  · omega
theorem nDigits_le {u : Nat} (h : u ≤ 9223372036854775808) : Lib.nDigits u ≤ 19 := by
  rcases Nat.lt_or_ge 19 (Lib.nDigits u) with hc | hc
  · exfalso
    have : ∀ k u, 10 ^ k ≤ u → k + 1 ≤ Lib.nDigits u := by
      intro k
      induction k with
      | zero => intro u _; exact Lib.nDigits_pos u
      | succ k ih =>
        intro u hu
        have h10 : ¬ u < 10 := by
          have : 10 ^ 1 ≤ 10 ^ (k + 1) := Nat.pow_le_pow_right (by decide) (by omega)
          omega
        rw [Lib.nDigits_big h10]
        have := ih (u / 10) (by rw [Nat.pow_succ] at hu; omega)
        omega
    have h2 : ∀ k u, u < 10 ^ k → 1 ≤ k → Lib.nDigits u ≤ k := by
      intro k
      induction k with
      | zero => intro u _ h; omega
      | succ k ih =>
        intro u hu _
        by_cases h10 : u < 10
        · rw [Lib.nDigits_small h10]; omega
        · rw [Lib.nDigits_big h10]
          have hk : 1 ≤ k := by
            rcases Nat.eq_zero_or_pos k with h0 | h0
            · subst h0; simp at hu; omega
            · exact h0
          have := ih (u / 10) (by rw [Nat.pow_succ] at hu; omega) hk
          omega
    have := h2 19 u (by omega) (by decide)
    omega
  · exact hc
theorem DecAt.len {m u : Nat} {acc : List UInt8} (h : DecAt m u acc) (hm : m ≤ 9223372036854775808) : acc.length ≤ 19 := by
  have hl : (Lib.decDigits m).length ≤ 19 := by rw [Lib.decDigits_length]; exact nDigits_le hm
  rcases h with ⟨_, h1⟩ | ⟨_, h1⟩
  · rw [h1]; exact hl
  · rw [← h1, List.length_append] at hl; omega
end Go.Proofs.YtnlepnfdgdbkoaaGreatDoor.M
namespace Go.Proofs.YtnlepnfdgdbkoaaGreatDoor
open Go.RowKit M
set_option linter.unusedVariables false
theorem OwnT.set {w : World} {base g n cap : Nat} {l : List ByteArray} (h : OwnT w base (.slice (some ⟨g, 0, none⟩) n cap) l) (hn : l.length = n) (j : Nat) (x : ByteArray) :
    OwnT (w.setCell ⟨g, j, none⟩ (.string x)) base (.slice (some ⟨g, 0, none⟩) n cap) (l.set j x) ∧ w.grownBy (w.setCell ⟨g, j, none⟩ (.string x)) (some g) := by
  subst hn
  have hs := World.ownsRow.stored h j (.string x)
  refine ⟨?_, hs.2⟩
  unfold OwnT
  rw [List.length_set, List.map_set]
  exact hs.1
theorem OwnT.frz {w : World} {base g n cap : Nat} {l : List ByteArray} (h : OwnT w base (.slice (some ⟨g, 0, none⟩) n cap) l) (hn : l.length = n) (j : Nat) : w.frozen? ⟨g, j, none⟩ = false := by
  subst hn
  exact World.ownsRow.frozenAt h j
theorem OwnT.cell {w : World} {base g n cap : Nat} {l : List ByteArray} (h : OwnT w base (.slice (some ⟨g, 0, none⟩) n cap) l) (hn : l.length = n) (j : Nat) (hj : j < n) : w.cell? ⟨g, j, none⟩ = some (.string (l.getD j ⟨#[]⟩)) := by
  subst hn
  rw [World.ownsRow.cellAt h j (by omega), List.getElem?_map, List.getElem?_eq_getElem hj, List.getD_eq_getElem?_getD, List.getElem?_eq_getElem hj]
  rfl
theorem OwnT.apart {w w' : World} {b0 B : Nat} {v u : Value} {xs l : List ByteArray} (h : OwnT w b0 v xs) (k : OwnT w' B u l) (hB : w.heap.size ≤ B) : ∀ g, v.ownBlock = some g → u.ownBlock ≠ some g := fun g hg e => by
  have h1 := (World.ownsRow.lt h g hg).2
  have := k.base_le g e
  omega
end Go.Proofs.YtnlepnfdgdbkoaaGreatDoor
namespace Go.Proofs.YtnlepnfdgdbkoaaGreatDoor
open Go.ChangeShapes Go.WideShapes Go.Deep Go.RowKit M
set_option linter.unusedVariables false
section
variable {H : Type} {enc : TypeId × Value → H} {P : Program} {w : World} {base : Nat} {spare : Nat → Bool} {held : Bool}
end
end Go.Proofs.YtnlepnfdgdbkoaaGreatDoor
namespace Go.Proofs.YtnlepnfdgdbkoaaGreatDoor
open Go.RowKit M
set_option linter.unusedVariables false
set_option linter.unusedSimpArgs false
structure Good (s : S) : Prop where
  cells : okC s.cells = true
  jl : s.jobs.length = 4
  todo : todoOkV s.todo = true
  ser : 0 ≤ s.serial ∧ s.serial ≤ 1000000
  now : 0 ≤ s.now ∧ s.now ≤ 1000000000
  jobs : ∀ i, i < 4 → jobAtV i (s.jobs.getD i zeroJ) = true
theorem good_iff {s : S} : worldOkV s = true ↔ Good s := by
  unfold worldOkV
  simp only [Bool.and_eq_true, decide_eq_true_eq, List.all_eq_true, List.mem_range]
  exact ⟨fun ⟨h1, h2, h3, h4, h5, h6⟩ => ⟨h1, h2, h3, h4, h5, h6⟩, fun h => ⟨h.cells, h.jl, h.todo, h.ser, h.now, h.jobs⟩⟩
structure JG (t : Nat) (j : J) : Prop where
  busy : j.busy = true
  op : opOkV j.op = true
  kt : (decide (j.op.kind = 3) == decide (t = 3)) = true
  place : placeOkV j = true
  count : countOkV j = true
  slot : 0 ≤ j.slot ∧ j.slot ≤ 3
  what : 0 ≤ j.what ∧ j.what ≤ 3
  e : 0 ≤ j.e ∧ j.e ≤ 281474976710655
  k : 0 ≤ j.k ∧ j.k ≤ 32
  keys : j.keys.length ≤ 4
  raw : j.raw.length ≤ 32
theorem jg_iff {t : Nat} {j : J} (hb : j.busy = true) : jobAtV t j = true ↔ JG t j := by
  unfold jobAtV jobOkV
  rw [if_pos hb]
  simp only [Bool.and_eq_true, decide_eq_true_eq]
  exact ⟨fun ⟨⟨h1, h2, h3, h4, h5, h6, h7, h8, h9⟩, h10⟩ => ⟨hb, h1, h10, h2, h3, h4, h5, h6, h7, h8, h9⟩, fun h => ⟨⟨h.op, h.place, h.count, h.slot, h.what, h.e, h.k, h.keys, h.raw⟩, h.kt⟩⟩
theorem JG.at {t : Nat} {j : J} (h : JG t j) : jobAtV t j = true := (jg_iff h.busy).2 h
theorem op_kinds {o : O} (h : opOkV o = true) : (o.kind = 1 ∨ o.kind = 2 ∨ o.kind = 3) ∧ (o.kind = 3 ∨ keyOkV o.key = true) := by
  unfold opOkV at h
  by_cases h1 : o.kind = 1
  · rw [if_pos h1, Bool.and_eq_true] at h; exact ⟨.inl h1, .inr h.1⟩
  rw [if_neg h1] at h
  by_cases h2 : o.kind = 2
  · rw [if_pos h2, Bool.and_eq_true] at h; exact ⟨.inr (.inl h2), .inr h.1⟩
  rw [if_neg h2] at h
  by_cases h3 : o.kind = 3
  · exact ⟨.inr (.inr h3), .inl h3⟩
  · rw [if_neg h3] at h; cases h
theorem op_val {o : O} (h : opOkV o = true) (hk : o.kind = 2) : 0 ≤ o.val ∧ o.val ≤ 65535 := by
  unfold opOkV at h
  rw [if_neg (by omega), if_pos hk] at h
  simp only [Bool.and_eq_true, decide_eq_true_eq] at h
  exact h.2.2
theorem probe_range {s : ByteArray} {n : Int} (h : keyOkV s = true) (hn : 0 ≤ n ∧ n ≤ 3) : 0 ≤ probeV s n ∧ probeV s n ≤ 3 := by
  unfold probeV
  rw [if_pos ⟨h, hn⟩]
  omega
theorem kind_range (n : Int) : 0 ≤ tagKind n ∧ tagKind n ≤ 3 := by
  unfold tagKind
  cases h : untagV n with
  | none => decide
  | some x =>
    obtain ⟨s, k⟩ := x
    have := (tag_untag h).2.2
    simp only
    omega
theorem tag_word (s : ByteArray) (k : Int) : isW (tagV s k) = true := by
  rw [isW_iff]
  by_cases h : keyOkV s = true ∧ (1 ≤ k ∧ k ≤ 3)
  · have hu := untag_tag h.1 h.2
    unfold untagV at hu
    split at hu
    · omega
    · cases hu
  · rw [tagV_no h]; omega
theorem mod_word (x : Int) : isW (modW x) = true := by
  rw [isW_iff]; unfold modW; omega
theorem gauge_word (a v : Int) : isW (gaugeV a v) = true := by
  rw [isW_iff]; unfold gaugeV
  split <;> omega
structure Did (s : S) (t : Nat) (x : S) : Prop where
  cells : okC x.cells = true
  one : x.cells = s.cells ∨ ∃ i v, x.cells = s.cells.set i v
  jobs : x.jobs = s.jobs
  todo : x.todo = s.todo
  ser : x.serial = s.serial
  now : x.now = s.now
  log : x.log = s.log ∨ ∃ e, x.log = s.log ++ [e] ∧ e.who = (t : Int) ∧ e.at_ = s.now
theorem Did.refl {s : S} {t : Nat} (h : okC s.cells = true) : Did s t s := ⟨h, .inl rfl, rfl, rfl, rfl, rfl, .inl rfl⟩
theorem did_put {s : S} {t : Nat} (h : okC s.cells = true) (i v : Int) (hv : isW v = true) : Did s t (putV' s i v) := ⟨okC_set h _ _ hv, .inr ⟨_, _, rfl⟩, rfl, rfl, rfl, rfl, .inl rfl⟩
theorem did_add {s : S} {t : Nat} (h : okC s.cells = true) (i n : Int) : Did s t (addCV s i n) := did_put h _ _ (mod_word _)
theorem did_point {s x : S} {t : Nat} {j : J} {code win : Int} (h : Did s t x) (hl : x.log = s.log) : Did s t (pointV x t j code win).1 :=
  ⟨h.cells, h.one, h.jobs, h.todo, h.ser, h.now, .inr ⟨_, by show x.log ++ [_] = _; rw [hl], rfl, h.now⟩⟩
theorem place_of {j : J} {kind pc : Int} (hk : j.op.kind = kind) (hp : j.pc = pc) : placeOkV j = if pc = 11 then true else if kind = 3 then decide (12 ≤ pc ∧ pc ≤ 15) else if kind = 1 then decide (pc = 0 ∨ pc = 1) else decide (pc = 0 ∨ (2 ≤ pc ∧ pc ≤ 10)) := by
  unfold placeOkV; rw [hk, hp]
theorem JG.fin {t : Nat} {j j' : J} (h : JG t j) (h1 : j'.busy = j.busy) (h2 : j'.op = j.op) (h3 : j'.pc = 11) (h4 : j'.slot = j.slot) (h5 : j'.what = j.what) (h6 : j'.e = j.e) (h7 : j'.k = j.k) (h8 : j'.keys = j.keys) (h9 : j'.raw = j.raw) : JG t j' :=
  ⟨h1.trans h.busy, by rw [h2]; exact h.op, by rw [h2]; exact h.kt, by unfold placeOkV; rw [if_pos h3], by unfold countOkV; simp [h3], by rw [h4]; exact h.slot, by rw [h5]; exact h.what, by rw [h6]; exact h.e, by rw [h7]; exact h.k, by rw [h8]; exact h.keys, by rw [h9]; exact h.raw⟩
theorem JG.on {t : Nat} {j j' : J} (h : JG t j) (h1 : j'.busy = j.busy) (h2 : j'.op = j.op) (hk : j.op.kind = 2) (h3 : (2 ≤ j'.pc ∧ j'.pc ≤ 10 ∧ j'.pc ≠ 8) ∨ (j'.pc = 8 ∧ 0 ≤ j'.k ∧ j'.k ≤ 2)) (h4 : 0 ≤ j'.slot ∧ j'.slot ≤ 3) (h5 : 0 ≤ j'.what ∧ j'.what ≤ 3) (h6 : 0 ≤ j'.e ∧ j'.e ≤ 281474976710655) (h7 : 0 ≤ j'.k ∧ j'.k ≤ 32) (h8 : j'.keys = j.keys) (h9 : j'.raw = j.raw) : JG t j' := by
  refine ⟨h1.trans h.busy, by rw [h2]; exact h.op, by rw [h2]; exact h.kt, ?_, ?_, h4, h5, h6, h7, by rw [h8]; exact h.keys, by rw [h9]; exact h.raw⟩
  · unfold placeOkV
    rw [h2, hk, if_neg (by omega), if_neg (by decide), if_neg (by decide), decide_eq_true_eq]
    omega
  · unfold countOkV
    rcases h3 with h3 | ⟨h3, h3'⟩
    · rw [if_neg (by omega), if_neg (by omega), if_neg (by omega), if_neg (by omega), if_neg (by omega)]
    · rw [if_neg (by omega), if_pos h3, decide_eq_true_eq]; exact h3'
theorem end_did {s x : S} {t : Nat} {j : J} {code : Int} (hx : Did s t x) (hl : x.log = s.log) (h : JG t j) : Did s t (endV x t j code).1 ∧ JG t (endV x t j code).2 :=
  ⟨did_point hx hl, h.fin rfl rfl rfl rfl rfl rfl rfl rfl rfl⟩
theorem probe_did {s : S} {t : Nat} {j : J} (hc : okC s.cells = true) (h : JG t j) (hp : j.pc = 0) : Did s t (probeS s t j).1 ∧ JG t (probeS s t j).2 := by
  have hk : 0 ≤ j.k ∧ j.k ≤ 3 := by
    have := h.count
    unfold countOkV at this
    rw [if_pos (.inl hp), decide_eq_true_eq] at this
    exact this
  obtain ⟨hks, hkey⟩ := op_kinds h.op
  have h3 : j.op.kind ≠ 3 := fun e => by
    have := h.place
    unfold placeOkV at this
    rw [if_neg (by omega), if_pos e, decide_eq_true_eq] at this
    omega
  have hkey : keyOkV j.op.key = true := hkey.resolve_left h3
  have hpr := probe_range hkey hk
  have hkr := kind_range (cellV' s (3 + probeV j.op.key j.k))
  unfold probeS
  simp only
  split
  · split
    · rename_i h1
      exact ⟨Did.refl hc, ⟨h.busy, h.op, h.kt, by unfold placeOkV; simp [h1], by unfold countOkV; simp [hk], h.slot, h.what, h.e, h.k, h.keys, h.raw⟩⟩
    · exact end_did (Did.refl hc) rfl h
  · split
    · split
      · rename_i h2
        exact ⟨Did.refl hc, h.on rfl rfl h2 (.inl ⟨by simp, by simp, by simp⟩) hpr hkr h.e h.k rfl rfl⟩
      · split
        · exact end_did (Did.refl hc) rfl h
        · exact end_did (Did.refl hc) rfl h
    · split
      · rename_i h4
        refine ⟨Did.refl hc, ⟨h.busy, h.op, h.kt, ?_, ?_, h.slot, h.what, h.e, ?_, h.keys, h.raw⟩⟩
        · exact (place_of rfl rfl).trans ((place_of rfl rfl).symm.trans h.place)
        · unfold countOkV
          rw [if_pos (.inl hp), decide_eq_true_eq]
          show 0 ≤ j.k + 1 ∧ j.k + 1 ≤ 3
          omega
        · show 0 ≤ j.k + 1 ∧ j.k + 1 ≤ 32
          omega
      · split
        · exact end_did (Did.refl hc) rfl h
        · exact end_did (Did.refl hc) rfl h
theorem claim_did {s : S} {t : Nat} {j : J} (hc : okC s.cells = true) (h : JG t j) (hp : j.pc = 1) : Did s t (claimS s t j).1 ∧ JG t (claimS s t j).2 := by
  have hk : 0 ≤ j.k ∧ j.k ≤ 3 := by
    have := h.count
    unfold countOkV at this
    rw [if_pos (.inr hp), decide_eq_true_eq] at this
    exact this
  have h1 : j.op.kind = 1 := by
    have := h.place
    unfold placeOkV at this
    rw [if_neg (by omega)] at this
    obtain ⟨hks, _⟩ := op_kinds h.op
    rcases hks with e | e | e
    · exact e
    · rw [e, if_neg (by decide), if_neg (by decide), decide_eq_true_eq] at this; omega
    · rw [e, if_pos rfl, decide_eq_true_eq] at this; omega
  unfold claimS
  simp only
  split
  · exact ⟨Did.refl hc, ⟨h.busy, h.op, h.kt, by unfold placeOkV; simp [h1], by unfold countOkV; simp [hk], h.slot, h.what, h.e, h.k, h.keys, h.raw⟩⟩
  · exact end_did (did_put hc _ _ (tag_word _ _)) rfl h
theorem data_did {s : S} {t : Nat} {j : J} (hc : okC s.cells = true) (h : JG t j) (hk : j.op.kind = 2) (hp : j.pc = 5) : Did s t (dataS s t j).1 ∧ JG t (dataS s t j).2 := by
  unfold dataS
  simp only
  split
  · exact ⟨did_point (did_add hc _ _) rfl, h.on rfl rfl hk (.inl ⟨by simp, by simp, by simp⟩) h.slot h.what h.e h.k rfl rfl⟩
  · split
    · exact ⟨did_point (did_add hc _ _) rfl, h.on rfl rfl hk (.inl ⟨by simp, by simp, by simp⟩) h.slot h.what h.e h.k rfl rfl⟩
    · split
      · exact ⟨did_point (did_add hc _ _) rfl, h.on rfl rfl hk (.inl ⟨by simp, by simp, by simp⟩) h.slot h.what h.e h.k rfl rfl⟩
      · rename_i h3
        have hcell : 0 ≤ cellV' s (jobCell j 4) := by
          unfold cellV'
          by_cases hj : (jobCell j 4).toNat < 71
          · exact (okC_at hc _ hj).1
          · rw [List.getD_eq_getElem?_getD, List.getElem?_eq_none (by rw [okC_len hc]; omega)]; exact Int.le_refl _
        exact ⟨did_point (did_add hc _ _) rfl, h.on rfl rfl hk (.inr ⟨by simp, by show 0 ≤ cellV' s (jobCell j 4) ∧ cellV' s (jobCell j 4) ≤ 2; omega⟩) h.slot h.what h.e (by show 0 ≤ cellV' s (jobCell j 4) ∧ cellV' s (jobCell j 4) ≤ 32; omega) rfl rfl⟩
theorem cell_word {s : S} (hc : okC s.cells = true) (i : Int) : 0 ≤ cellV' s i ∧ cellV' s i ≤ 281474976710655 := by
  unfold cellV'
  by_cases hj : i.toNat < 71
  · exact okC_at hc _ hj
  · rw [List.getD_eq_getElem?_getD, List.getElem?_eq_none (by rw [okC_len hc]; omega)]
    decide
theorem write_did {s : S} {t : Nat} {j : J} (hc : okC s.cells = true) (h : JG t j) (hk : j.op.kind = 2) (hp : 2 ≤ j.pc ∧ j.pc ≤ 10) : Did s t (writeS s t j).1 ∧ JG t (writeS s t j).2 := by
  unfold writeS
  split
  · exact ⟨Did.refl hc, h.on rfl rfl hk (.inl ⟨by simp, by simp, by simp⟩) h.slot h.what (cell_word hc _) h.k rfl rfl⟩
  split
  · exact ⟨did_add hc _ _, h.on rfl rfl hk (.inl ⟨by simp, by simp, by simp⟩) h.slot h.what h.e h.k rfl rfl⟩
  split
  · exact ⟨Did.refl hc, h.on rfl rfl hk (.inl (by simp only; split <;> simp)) h.slot h.what h.e h.k rfl rfl⟩
  split
  · rename_i h5; exact data_did hc h hk h5
  split
  · exact ⟨Did.refl hc, h.on rfl rfl hk (.inl (by simp only; split <;> simp)) h.slot h.what h.e h.k rfl rfl⟩
  split
  · split
    · exact ⟨did_put hc _ _ (gauge_word _ _), h.on rfl rfl hk (.inl ⟨by simp, by simp, by simp⟩) h.slot h.what h.e h.k rfl rfl⟩
    · exact ⟨Did.refl hc, h.on rfl rfl hk (.inl ⟨by simp, by simp, by simp⟩) h.slot h.what h.e h.k rfl rfl⟩
  split
  · have hv := op_val h.op hk
    exact ⟨did_put hc _ _ (by rw [isW_iff]; omega), h.on rfl rfl hk (.inl ⟨by simp, by simp, by simp⟩) h.slot h.what h.e h.k rfl rfl⟩
  split
  · exact ⟨did_add hc _ _, h.fin rfl rfl rfl rfl rfl rfl rfl rfl rfl⟩
  · exact ⟨did_add hc _ _, h.on rfl rfl hk (.inl ⟨by simp, by simp, by simp⟩) h.slot h.what h.e h.k rfl rfl⟩
theorem cnt14 {j : J} (h : j.pc = 14) (hk : 0 ≤ j.k ∧ j.k ≤ 3) (h1 : (j.keys.length : Int) = j.k) (h2 : j.raw.length = 0) : countOkV j = true := by
  unfold countOkV
  rw [if_neg (by omega), if_neg (by omega), if_pos h, decide_eq_true hk, decide_eq_true h1, decide_eq_true h2]; rfl
theorem cnt15 {j : J} (h : j.pc = 15) (hk : 0 ≤ j.k ∧ j.k ≤ 31) (h1 : j.keys.length = 4) (h2 : (j.raw.length : Int) = j.k) : countOkV j = true := by
  unfold countOkV
  rw [if_neg (by omega), if_neg (by omega), if_neg (by omega), if_pos h, decide_eq_true hk, decide_eq_true h1, decide_eq_true h2]; rfl
theorem cnt13 {j : J} (h : j.pc = 13) (h1 : j.keys.length = 0) (h2 : j.raw.length = 0) : countOkV j = true := by
  unfold countOkV
  rw [if_neg (by omega), if_neg (by omega), if_neg (by omega), if_neg (by omega), if_pos (.inl h), decide_eq_true h1, decide_eq_true h2]; rfl
theorem flush_did {s : S} {t : Nat} {j : J} (hc : okC s.cells = true) (h : JG t j) (hk : j.op.kind = 3) (hp : 12 ≤ j.pc ∧ j.pc ≤ 15) : Did s t (flushS s t j).1 ∧ JG t (flushS s t j).2 := by
  have hcnt := h.count
  have pl : ∀ j' : J, j'.op = j.op → 12 ≤ j'.pc ∧ j'.pc ≤ 15 → placeOkV j' = true := fun j' h1 h2 => by
    unfold placeOkV
    rw [h1, hk, if_neg (by omega), if_pos rfl, decide_eq_true_eq]; exact h2
  unfold flushS
  split
  · rename_i h12
    unfold countOkV at hcnt
    rw [if_neg (by omega), if_neg (by omega), if_neg (by omega), if_neg (by omega), if_pos (.inr h12)] at hcnt
    simp only [Bool.and_eq_true, decide_eq_true_eq] at hcnt
    exact ⟨did_point (did_add hc _ _) rfl, ⟨h.busy, h.op, h.kt, pl _ rfl (show (12 : Int) ≤ 13 ∧ (13 : Int) ≤ 15 from by decide), cnt13 rfl hcnt.1 hcnt.2, h.slot, h.what, cell_word hc _, h.k, h.keys, h.raw⟩⟩
  split
  · rename_i h13
    unfold countOkV at hcnt
    rw [if_neg (by omega), if_neg (by omega), if_neg (by omega), if_neg (by omega), if_pos (.inl h13)] at hcnt
    simp only [Bool.and_eq_true, decide_eq_true_eq] at hcnt
    refine ⟨Did.refl hc, ?_⟩
    simp only
    split
    · exact ⟨h.busy, h.op, h.kt, pl _ rfl (show (12 : Int) ≤ 14 ∧ (14 : Int) ≤ 15 from by decide), cnt14 rfl (show (0 : Int) ≤ 0 ∧ (0 : Int) ≤ 3 from by decide) (by show (j.keys.length : Int) = 0; omega) hcnt.2, h.slot, h.what, h.e, (show (0 : Int) ≤ 0 ∧ (0 : Int) ≤ 32 from by decide), h.keys, h.raw⟩
    · exact h
  split
  · rename_i h14
    unfold countOkV at hcnt
    rw [if_neg (by omega), if_neg (by omega), if_pos h14] at hcnt
    simp only [Bool.and_eq_true, decide_eq_true_eq] at hcnt
    obtain ⟨k0, k1, k2⟩ := hcnt
    refine ⟨Did.refl hc, ?_⟩
    have hkl : (j.keys ++ [cellV' s (3 + j.k)]).length = j.keys.length + 1 := by simp
    simp only
    split
    · rename_i hk4
      exact ⟨h.busy, h.op, h.kt, pl _ rfl (show (12 : Int) ≤ 15 ∧ (15 : Int) ≤ 15 from by decide), cnt15 rfl (show (0 : Int) ≤ 0 ∧ (0 : Int) ≤ 31 from by decide) (hkl.trans (by omega)) (by show (j.raw.length : Int) = 0; omega), h.slot, h.what, h.e, (show (0 : Int) ≤ 0 ∧ (0 : Int) ≤ 32 from by decide), (by show (j.keys ++ _).length ≤ 4; omega), h.raw⟩
    · rename_i hk4
      exact ⟨h.busy, h.op, h.kt, pl _ rfl hp, cnt14 h14 (by show 0 ≤ j.k + 1 ∧ j.k + 1 ≤ 3; omega) (by show ((j.keys ++ _).length : Int) = j.k + 1; omega) k2, h.slot, h.what, h.e, (by show 0 ≤ j.k + 1 ∧ j.k + 1 ≤ 32; omega), (by show (j.keys ++ _).length ≤ 4; omega), h.raw⟩
  · have h15 : j.pc = 15 := by omega
    unfold countOkV at hcnt
    rw [if_neg (by omega), if_neg (by omega), if_neg (by omega), if_pos h15] at hcnt
    simp only [Bool.and_eq_true, decide_eq_true_eq] at hcnt
    obtain ⟨k0, k1, k2⟩ := hcnt
    refine ⟨did_put hc _ _ (by decide), ?_⟩
    have hrl : (j.raw ++ [cellV' s (7 + j.e % 2 * 32 + j.k)]).length = j.raw.length + 1 := by simp
    by_cases hk32 : j.k + 1 = 32
    · simp only [if_pos hk32]
      exact ⟨h.busy, h.op, h.kt, by unfold placeOkV; simp, by unfold countOkV; simp, h.slot, h.what, h.e, (by show 0 ≤ j.k + 1 ∧ j.k + 1 ≤ 32; omega), h.keys, (by show (j.raw ++ _).length ≤ 32; omega)⟩
    · simp only [if_neg hk32]
      exact ⟨h.busy, h.op, h.kt, pl _ rfl hp, cnt15 h15 (by show 0 ≤ j.k + 1 ∧ j.k + 1 ≤ 31; omega) k1 (by show ((j.raw ++ _).length : Int) = j.k + 1; omega), h.slot, h.what, h.e, (by show 0 ≤ j.k + 1 ∧ j.k + 1 ≤ 32; omega), h.keys, (by show (j.raw ++ _).length ≤ 32; omega)⟩
theorem work_did {s : S} {t : Nat} {j : J} (hc : okC s.cells = true) (h : JG t j) : Did s t (workS s t j).1 ∧ jobAtV t (workS s t j).2 = true := by
  have hpl := h.place
  unfold placeOkV at hpl
  obtain ⟨hks, _⟩ := op_kinds h.op
  unfold workS
  split
  · exact ⟨⟨hc, .inl rfl, rfl, rfl, rfl, rfl, .inr ⟨_, rfl, rfl, rfl⟩⟩, rfl⟩
  rename_i h11
  rw [if_neg h11] at hpl
  split
  · rename_i h0; have := probe_did hc h h0; exact ⟨this.1, this.2.at⟩
  split
  · rename_i h1; have := claim_did hc h h1; exact ⟨this.1, this.2.at⟩
  split
  · rename_i h0 h1 h12
    have hk : j.op.kind = 2 ∧ 2 ≤ j.pc ∧ j.pc ≤ 10 := by
      rcases hks with e | e | e
      · rw [e, if_neg (by decide), if_pos rfl, decide_eq_true_eq] at hpl; omega
      · rw [e, if_neg (by decide), if_neg (by decide), decide_eq_true_eq] at hpl; exact ⟨e, by omega⟩
      · rw [e, if_pos rfl, decide_eq_true_eq] at hpl; omega
    have := write_did hc h hk.1 hk.2; exact ⟨this.1, this.2.at⟩
  · rename_i h0 h1 h12
    have hk : j.op.kind = 3 ∧ 12 ≤ j.pc ∧ j.pc ≤ 15 := by
      rcases hks with e | e | e
      · rw [e, if_neg (by decide), if_pos rfl, decide_eq_true_eq] at hpl; omega
      · rw [e, if_neg (by decide), if_neg (by decide), decide_eq_true_eq] at hpl; omega
      · rw [e, if_pos rfl, decide_eq_true_eq] at hpl; exact ⟨e, hpl⟩
    have := flush_did hc h hk.1 hk.2; exact ⟨this.1, this.2.at⟩
theorem todo_iff {l : List (List O)} : todoOkV l = true ↔ l.length = 4 ∧ ∀ t, t < 4 → (l.getD t []).length ≤ 10 ∧ ∀ o ∈ l.getD t [], opInV t o = true := by
  unfold todoOkV queueOkV
  simp only [Bool.and_eq_true, decide_eq_true_eq, List.all_eq_true, List.mem_range]
  constructor
  · exact fun ⟨h1, h2⟩ => ⟨h1, fun t ht => h2 t (by omega)⟩
  · exact fun ⟨h1, h2⟩ => ⟨h1, fun t ht => h2 t (by omega)⟩
theorem set_getD {α : Type} (l : List α) (z x : α) (t i : Nat) (ht : t < l.length) : (l.set t x).getD i z = if i = t then x else l.getD i z := by
  rw [List.getD_eq_getElem?_getD, List.getElem?_set]
  by_cases h : t = i
  · subst h; simp [ht]
  · rw [if_neg h, if_neg (fun e => h e.symm), List.getD_eq_getElem?_getD]
theorem todo_tail {l : List (List O)} {t : Nat} (h : todoOkV l = true) (ht : t < 4) : todoOkV (l.set t (l.getD t []).tail) = true := by
  rw [todo_iff] at h ⊢
  obtain ⟨h1, h2⟩ := h
  refine ⟨by rw [List.length_set]; exact h1, fun i hi => ?_⟩
  rw [set_getD _ _ _ _ _ (by omega)]
  split
  · rename_i e
    subst e
    refine ⟨?_, fun o ho => (h2 i ht).2 o (List.mem_of_mem_tail ho)⟩
    have := (h2 i ht).1
    rw [List.length_tail]; omega
  · exact h2 i hi
structure Stepd (s : S) (t : Nat) (x : S) : Prop where
  good : Good x
  one : x.cells = s.cells ∨ ∃ i v, x.cells = s.cells.set i v
  jobs : ∀ i, i ≠ t → x.jobs.getD i zeroJ = s.jobs.getD i zeroJ
  todo : ∀ i, i ≠ t → x.todo.getD i [] = s.todo.getD i []
  tl : x.todo.length = s.todo.length
  log : x.log = s.log ∨ ∃ e, x.log = s.log ++ [e] ∧ e.who = (t : Int) ∧ e.at_ = x.now
  now : s.now ≤ x.now ∧ x.now ≤ s.now + 1
  ser : x.serial - s.serial = ((s.todo.getD t []).length : Int) - ((x.todo.getD t []).length : Int)
theorem Stepd.refl {s : S} {t : Nat} (h : Good s) : Stepd s t s := ⟨h, .inl rfl, fun _ _ => rfl, fun _ _ => rfl, rfl, .inl rfl, ⟨Int.le_refl _, by omega⟩, by omega⟩
theorem start_job {t : Nat} {o : O} {n : Int} (h : opInV t o = true) : jobAtV t { zeroJ with busy := true, op := o, serial := n, pc := if o.kind = 3 then 12 else 0 } = true := by
  unfold opInV at h
  rw [Bool.and_eq_true] at h
  obtain ⟨h1, h2⟩ := h
  have hk := (op_kinds h1).1
  refine (jg_iff rfl).2 ⟨rfl, h1, h2, ?_, ?_, (show (0 : Int) ≤ 0 ∧ (0 : Int) ≤ 3 from by decide), (show (0 : Int) ≤ 0 ∧ (0 : Int) ≤ 3 from by decide), (show (0 : Int) ≤ 0 ∧ (0 : Int) ≤ 281474976710655 from by decide), (show (0 : Int) ≤ 0 ∧ (0 : Int) ≤ 32 from by decide), (show 0 ≤ 4 from by decide), (show 0 ≤ 32 from by decide)⟩
  · unfold placeOkV
    rcases hk with e | e | e <;> simp [e]
  · unfold countOkV
    rcases hk with e | e | e <;> simp [e, zeroJ]
theorem do_did {s : S} {t : Nat} (h : Good s) (ht : t < 4) : Stepd s t (doV s t) := by
  unfold doV
  split
  · exact Stepd.refl h
  rename_i hr
  unfold restsV at hr
  simp only [Bool.or_eq_true, Bool.and_eq_true, Bool.not_eq_true', decide_eq_true_eq, not_or, not_and] at hr
  obtain ⟨hr1, hr2⟩ := hr
  have hn := h.now
  have hs := h.ser
  have hjl := h.jl
  have htl : s.todo.length = 4 := (todo_iff.1 h.todo).1
  simp only
  split
  · rename_i hb
    obtain ⟨hq, hse⟩ := hr1 hb
    have hne : s.todo.getD t [] ≠ [] := fun e => hq (by rw [e]; rfl)
    have hin := ((todo_iff.1 h.todo).2 t ht).2 ((s.todo.getD t []).headD zeroO) (by
      cases hc : s.todo.getD t [] with
      | nil => exact absurd hc hne
      | cons a l => exact List.mem_cons_self)
    unfold startS
    refine ⟨⟨h.cells, by simp [hjl], todo_tail h.todo ht, ⟨by show 0 ≤ s.serial + 1; omega, by show s.serial + 1 ≤ 1000000; omega⟩, ⟨by show 0 ≤ s.now + 1; omega, by show s.now + 1 ≤ 1000000000; omega⟩, fun i hi => ?_⟩, .inl rfl, fun i hi => ?_, fun i hi => ?_, ?_, .inr ⟨_, rfl, rfl, rfl⟩, ⟨by show s.now ≤ s.now + 1; omega, by show s.now + 1 ≤ s.now + 1; omega⟩, ?_⟩
    · show jobAtV i ((s.jobs.set t _).getD i zeroJ) = true
      rw [set_getD _ _ _ _ _ (by omega)]
      split
      · rename_i e; subst e; exact start_job hin
      · exact h.jobs i hi
    · show (s.jobs.set t _).getD i zeroJ = _
      rw [set_getD _ _ _ _ _ (by omega), if_neg hi]
    · show (s.todo.set t _).getD i [] = _
      rw [set_getD _ _ _ _ _ (by omega), if_neg hi]
    · show (s.todo.set t _).length = _
      rw [List.length_set]
    · show s.serial + 1 - s.serial = _ - (((s.todo.set t (s.todo.getD t []).tail).getD t []).length : Int)
      rw [set_getD _ _ _ _ _ (by omega), if_pos rfl, List.length_tail]
      have : 0 < (s.todo.getD t []).length := Nat.pos_of_ne_zero (by intro e; exact hq e)
      omega
  · rename_i hb
    have hb : (s.jobs.getD t zeroJ).busy = true := by simpa using hb
    have hj := (jg_iff hb).1 (h.jobs t ht)
    have hj1 : JG t { s.jobs.getD t zeroJ with steps := bump (s.jobs.getD t zeroJ).steps } := ⟨hj.busy, hj.op, hj.kt, hj.place, hj.count, hj.slot, hj.what, hj.e, hj.k, hj.keys, hj.raw⟩
    have hd := work_did (s := { s with now := s.now + 1 }) (t := t) h.cells hj1
    generalize workS { s with now := s.now + 1 } t { s.jobs.getD t zeroJ with steps := bump (s.jobs.getD t zeroJ).steps } = p at hd ⊢
    obtain ⟨x, j'⟩ := p
    obtain ⟨hd, hj'⟩ := hd
    simp only at hd hj' ⊢
    refine ⟨⟨hd.cells, by rw [List.length_set, hd.jobs]; exact hjl, by rw [hd.todo]; exact h.todo, by rw [hd.ser]; exact h.ser, by rw [hd.now]; exact ⟨by show 0 ≤ s.now + 1; omega, by show s.now + 1 ≤ 1000000000; omega⟩, fun i hi => ?_⟩, hd.one, fun i hi => ?_, fun i hi => by rw [hd.todo], by rw [hd.todo], ?_, ⟨by rw [hd.now]; show s.now ≤ s.now + 1; omega, by rw [hd.now]; exact Int.le_refl _⟩, by rw [hd.ser, hd.todo]; simp⟩
    · rw [hd.jobs, set_getD _ _ _ _ _ (by show t < s.jobs.length; omega)]
      split
      · rename_i e; subst e; exact hj'
      · exact h.jobs i hi
    · rw [hd.jobs, set_getD _ _ _ _ _ (by show t < s.jobs.length; omega), if_neg hi]
    · rcases hd.log with e | ⟨e, h1, h2, h3⟩
      · exact .inl e
      · exact .inr ⟨e, h1, h2, by rw [h3]; exact hd.now.symm⟩
theorem step_valid (s : S) (t : Int) : worldOkV (stepV s t) = worldOkV s := by
  unfold stepV
  split
  · rename_i h
    rw [h.1, good_iff]
    have ht : t.toNat < 4 := by
      have := h.2
      unfold threadOk at this
      rw [decide_eq_true_eq] at this
      omega
    exact (do_did (good_iff.1 h.1) ht).good
  · rfl
end Go.Proofs.YtnlepnfdgdbkoaaGreatDoor
namespace Go.Proofs.YtnlepnfdgdbkoaaGreatDoor
open Go.RowKit
end Go.Proofs.YtnlepnfdgdbkoaaGreatDoor
namespace Go.Proofs.YtnlepnfdgdbkoaaGreatDoor
open Go.RowKit M
set_option linter.unusedVariables false
end Go.Proofs.YtnlepnfdgdbkoaaGreatDoor
namespace Go.Proofs.YtnlepnfdgdbkoaaGreatDoor
open Go.RowKit M
set_option linter.unusedVariables false
def AllW (zs : List Int) (j : Nat) : Prop := ∀ m, m < j → isW (zs.getD m 0) = true
theorem AllW.zero (zs : List Int) : AllW zs 0 := fun m h => absurd h (Nat.not_lt_zero _)
theorem AllW.next {zs : List Int} {j : Nat} (h : AllW zs j) (k : isW (zs.getD j 0) = true) : AllW zs (j + 1) := fun m hm => by
  by_cases e : m = j
  · rw [e]; exact k
  · exact h m (by omega)
theorem AllW.yes {zs : List Int} (h : AllW zs zs.length) (hn : zs.length = 71) : okC zs = true := by
  unfold okC; rw [all_getD h, hn]; rfl
theorem okC_no_len {zs : List Int} (hn : ¬ zs.length = 71) : okC zs = false := by unfold okC; rw [decide_eq_false hn]; rfl
theorem okC_no_at {zs : List Int} {j : Nat} (hj : j < zs.length) (h : isW (zs.getD j 0) = false) : okC zs = false := by unfold okC; rw [all_no hj h, Bool.and_false]
theorem ret_bool' {a b : Bool} (h : a = b) : Ending.returned (.bool a) = .returned (.bool b) := by rw [h]
theorem isWord_yes (x : Int) (w : World) (h : isW x = true) :
    Calls Tryz.prog 58 #[.int .i64 x] w fun e w' => e = .returned (.bool true) ∧ w = w' := by
  obtain ⟨h1, h2⟩ := isW_iff.1 h
  clear h
  go_enter Tryz.func58, Tryz.ntmps58
  have h3 : x < 281474976710656 := by omega
  go_wp2
  go_ret
  exact ⟨rfl, rfl⟩
theorem isWord_no (x : Int) (w : World) (h : isW x = false) :
    Calls Tryz.prog 58 #[.int .i64 x] w fun e w' => e = .returned (.bool false) ∧ w = w' := by
  rcases isW_no.1 h with h1 | h1
  · have h2 : decide (0 ≤ x) = false := by simp; omega
    clear h
    go_enter Tryz.func58, Tryz.ntmps58
    go_wp2
    go_ret
    exact ⟨rfl, rfl⟩
  · have h2 : decide (0 ≤ x) = true := by simp; omega
    have h3 : decide (x < 281474976710656) = false := by simp; omega
    have h4 : 0 ≤ x := by omega
    clear h
    go_enter Tryz.func58, Tryz.ntmps58
    go_wp2
    go_ret
    exact ⟨rfl, rfl⟩
set_option maxRecDepth 100000 in
theorem iOk_any (w : World) (v : Value) (zs : List Int) (h : Ints w v zs) :
    Calls Tryz.prog 43 #[v] w fun e w' => e = .returned (.bool (okC zs)) ∧ w = w' := by
  obtain ⟨b, off, cap, rfl, h1, h2, h3, h4⟩ := h
  generalize hn : zs.length = n at *
  have HN := Lib.hid hn
  have H4 := Lib.hid h4
  clear hn h4
  unfold maxLen at h2
  by_cases h71 : n = 71
  · have t1 : ((n : Int) != 71) = false := by rw [bne_eq_false_iff_eq]; omega
    have H71 := Lib.hid h71
    clear h71
    go_enter Tryz.func43, Tryz.ntmps43
    go_wp2
    go_loop [10] (fun i => ∃ j : Nat, j ≤ n ∧ i = .int .i64 j ∧ AllW zs j) (fun i => n - (intOf i).toNat)
    case atStart => exact ⟨0, Nat.zero_le _, rfl, AllW.zero _⟩
    case round =>
      obtain ⟨j, hj, rfl, ha⟩ := hrel
      have HA := Lib.hid ha
      clear ha
      by_cases hlt : j < n
      · have g1 := H4.out j hlt
        cases hw : isW (zs.getD j 0) with
        | true =>
          have HW := Lib.hid hw
          clear hw
          generalize hz : zs.getD j 0 = z at *
          have HZ := Lib.hid hz
          clear hz
          go_wp2_with (go_at_call 58; refine (isWord_yes _ _ HW.out).mono ?_; rintro e w' ⟨rfl, rfl⟩)
          go_round
          case rel => exact ⟨j + 1, by omega, by go_num, HA.out.next (by rw [HZ.out]; exact HW.out)⟩
          case measure => simp [intOf]; omega
        | false =>
          have HX := Lib.hid (okC_no_at (by rw [HN.out]; exact hlt) hw)
          have HW := Lib.hid hw
          clear hw
          generalize hz : zs.getD j 0 = z at *
          clear hz
          go_wp2_with (go_at_call 58; refine (isWord_no _ _ HW.out).mono ?_; rintro e w' ⟨rfl, rfl⟩)
          go_ret
          exact ⟨ret_bool' HX.out.symm, rfl⟩
      · obtain rfl : j = n := by omega
        have HX := Lib.hid (show okC zs = true from AllW.yes (by rw [HN.out]; exact HA.out) (by rw [HN.out]; exact H71.out))
        go_wp2
        go_ret
        exact ⟨ret_bool' HX.out.symm, rfl⟩
  · have t1 : ((n : Int) != 71) = true := by rw [bne_iff_ne]; omega
    have HX := Lib.hid (show okC zs = false from okC_no_len (by rw [HN.out]; exact h71))
    clear h71
    go_enter Tryz.func43, Tryz.ntmps43
    go_wp2
    go_ret
    exact ⟨ret_bool' HX.out.symm, rfl⟩
theorem iOk_b (w : World) (v : Value) (zs : List Int) (h : Ints w v zs) (b : Bool) (hb : okC zs = b) :
    Calls Tryz.prog 43 #[v] w fun e w' => e = .returned (.bool b) ∧ w = w' := by
  subst hb; exact iOk_any w v zs h
end Go.Proofs.YtnlepnfdgdbkoaaGreatDoor
namespace Go.Proofs.YtnlepnfdgdbkoaaGreatDoor
open Go.RowKit
set_option linter.unusedVariables false
end Go.Proofs.YtnlepnfdgdbkoaaGreatDoor
namespace Go.Proofs.YtnlepnfdgdbkoaaGreatDoor
open Go.RowKit M
set_option linter.unusedVariables false
theorem Ints.part {w : World} {b off n cap : Nat} {zs : List Int} (h : Ints w (.slice (some ⟨b, off, none⟩) n cap) zs) (k m : Nat) (hk : k + m ≤ n) : Ints w (.slice (some ⟨b, off + k, none⟩) m (cap - k)) ((zs.drop k).take m) := by
  obtain ⟨b', off', cap', e, h1, h2, h3, h4⟩ := h
  injection e with e1 e2 e3
  injection e1 with e1
  injection e1 with e1 e4 _
  subst e1; subst e4; subst e3
  have hlen : ((zs.drop k).take m).length = m := by simp only [List.length_take, List.length_drop]; omega
  refine ⟨b, off + k, cap - k, by rw [hlen], by rw [hlen]; omega, by omega, h3, fun j hj => ?_⟩
  rw [hlen] at hj
  rw [List.getD_eq_getElem?_getD, List.getElem?_take_of_lt hj, List.getElem?_drop, ← List.getD_eq_getElem?_getD, ← h4 (k + j) (by omega), Nat.add_assoc]
end Go.Proofs.YtnlepnfdgdbkoaaGreatDoor
namespace Go.Proofs.YtnlepnfdgdbkoaaGreatDoor
open Go.RowKit M
set_option linter.unusedVariables false
end Go.Proofs.YtnlepnfdgdbkoaaGreatDoor
namespace Go.Proofs.YtnlepnfdgdbkoaaGreatDoor
open Go.RowKit M
set_option linter.unusedVariables false
theorem OwnB.shape {w : World} {base : Nat} {v : Value} {l : List UInt8} (h : OwnB w base v l) (hl : l ≠ []) : ∃ g cap, v = .slice (some ⟨g, 0, none⟩) l.length cap := by
  rcases h.2 with ⟨_, h0⟩ | ⟨g, cap, cur, rfl, _⟩
  · exact absurd (List.eq_nil_of_length_eq_zero h0) hl
  · exact ⟨g, cap, rfl⟩
theorem OwnB.one (w : World) (base : Nat) (hb : base ≤ w.heap.size) (c : UInt8) : OwnB (w.alloc (.cells #[b2v c] 5)) base (.slice (some ⟨w.heap.size, 0, none⟩) 1 1) [c] :=
  World.ownsRow_lit w #[b2v c] 1 hb (by unfold maxLen; omega) rfl
end Go.Proofs.YtnlepnfdgdbkoaaGreatDoor
namespace Go.Proofs.YtnlepnfdgdbkoaaGreatDoor
open Go.RowKit M
set_option linter.unusedVariables false
end Go.Proofs.YtnlepnfdgdbkoaaGreatDoor
namespace Go.Proofs.YtnlepnfdgdbkoaaGreatDoor
open Go.RowKit M
set_option linter.unusedVariables false
end Go.Proofs.YtnlepnfdgdbkoaaGreatDoor
namespace Go.Proofs.YtnlepnfdgdbkoaaGreatDoor
open Go.RowKit M
set_option linter.unusedVariables false
end Go.Proofs.YtnlepnfdgdbkoaaGreatDoor
namespace Go.Proofs.YtnlepnfdgdbkoaaGreatDoor
open Go.RowKit M
set_option linter.unusedVariables false
theorem OwnI.alloc {w : World} {base : Nat} {v : Value} {zs : List Int} (h : OwnI w base v zs) (o : Obj) : OwnI (w.alloc o) base v zs := ⟨World.ownsRow.alloc h.1 o, h.2⟩
theorem OwnI.base_le {w : World} {base : Nat} {v : Value} {zs : List Int} (h : OwnI w base v zs) : ∀ k, v.ownBlock = some k → base ≤ k := fun k hk => (World.ownsRow.lt h.1 k hk).1
theorem own_set {w w0 : World} {base g n cap : Nat} {zs : List Int} (h : OwnI w base (.slice (some ⟨g, 0, none⟩) n cap) zs) (j : Nat) (z : Int) (hb : Below base w0 w) (hg : base ≤ w.heap.size) :
    OwnI (w.setCell ⟨g, j, none⟩ (.int .i64 z)) base (.slice (some ⟨g, 0, none⟩) n cap) (zs.set j z) ∧ Below base w0 (w.setCell ⟨g, j, none⟩ (.int .i64 z)) := by
  have hs := h.set j z
  obtain ⟨g', e, h2, _⟩ := h.block
  cases e
  exact ⟨hs.1, hb.grown hs.2 hg (by intro k hk; cases hk; exact h2)⟩
end Go.Proofs.YtnlepnfdgdbkoaaGreatDoor
namespace Go.Proofs.YtnlepnfdgdbkoaaGreatDoor
open Go.RowKit M
set_option linter.unusedVariables false
set_option linter.unusedSimpArgs false
end Go.Proofs.YtnlepnfdgdbkoaaGreatDoor
namespace Go.Proofs.YtnlepnfdgdbkoaaGreatDoor
open Go.RowKit M
theorem iRf_good (s : ByteArray) (k : Nat) (w : World) (hs : s.size ≤ maxLen) (h1 : 1 ≤ k) (h2 : k ≤ 7) (h3 : k ≤ s.size) :
    Calls Tryz.prog 128 #[.string s, .int .i64 k] w fun e w' => e = .returned (.tuple #[.int .i64 (be (s.data.toList.take k)), .bool true]) ∧ w = w' := by
  unfold maxLen at hs
  go_enter Tryz.func128, Tryz.ntmps128
  go_wp2
  go_loop [6, 7, 21] (fun n _ i => ∃ j : Nat, j ≤ k ∧ i = .int .i64 j ∧ n = .int .i64 (be (s.data.toList.take j))) (fun _ _ i => k - (intOf i).toNat)
  case atStart => exact ⟨0, Nat.zero_le _, rfl, rfl⟩
  case round =>
    obtain ⟨j, hj, rfl, rfl⟩ := hrel
    by_cases hlt : j < k
    · have hjs : j < s.size := by omega
      have hb := be_take_lt s j (by omega)
      have hc := s[j].toNat_lt
      have HS : Hid (be (s.data.toList.take (j + 1)) = be (s.data.toList.take j) * 256 + s[j].toNat) := be_take s j hjs
      go_wp2
      go_round
      case rel => exact ⟨j + 1, by omega, by go_num, by rw [HS.out, or256 _ _ hb hc]; go_num⟩
      case measure => simp [intOf]; omega
    · obtain rfl : j = k := by omega
      go_wp2
      go_ret2
      exact ⟨rfl, rfl⟩
end Go.Proofs.YtnlepnfdgdbkoaaGreatDoor
namespace Go.Proofs.YtnlepnfdgdbkoaaGreatDoor
open Go.RowKit M
set_option linter.unusedVariables false
theorem isIdx_yes (x n : Int) (w : World) (h1 : 0 ≤ x) (h2 : x < n) :
    Calls Tryz.prog 44 #[.int .i64 x, .int .i64 n] w fun e w' => e = .returned (.bool true) ∧ w = w' := by
  go_enter Tryz.func44, Tryz.ntmps44
  go_wp2
  go_ret
  exact ⟨rfl, rfl⟩
theorem isIdx_no (x n : Int) (w : World) (h : x < 0 ∨ n ≤ x) :
    Calls Tryz.prog 44 #[.int .i64 x, .int .i64 n] w fun e w' => e = .returned (.bool false) ∧ w = w' := by
  by_cases h1 : 0 ≤ x
  · have h2 : decide (x < n) = false := by simp; omega
    go_enter Tryz.func44, Tryz.ntmps44
    go_wp2
    go_ret
    exact ⟨rfl, rfl⟩
  · go_enter Tryz.func44, Tryz.ntmps44
    go_wp2
    go_ret
    exact ⟨rfl, rfl⟩
end Go.Proofs.YtnlepnfdgdbkoaaGreatDoor
namespace Go.Proofs.YtnlepnfdgdbkoaaGreatDoor
open Go.RowKit M
set_option linter.unusedVariables false
def AgreeTo (xs ys : List Int) (j : Nat) : Prop := ∀ m, m < j → xs.getD m 0 = ys.getD m 0
theorem AgreeTo.zero (xs ys : List Int) : AgreeTo xs ys 0 := fun m h => absurd h (Nat.not_lt_zero _)
theorem AgreeTo.next {xs ys : List Int} {j : Nat} (h : AgreeTo xs ys j) (k : xs.getD j 0 = ys.getD j 0) : AgreeTo xs ys (j + 1) := fun m hm => by
  by_cases e : m = j
  · rw [e]; exact k
  · exact h m (by omega)
theorem AgreeTo.all {xs ys : List Int} (h : AgreeTo xs ys xs.length) (hl : xs.length = ys.length) : xs = ys := by
  apply List.ext_getElem hl
  intro i h1 h2
  have := h i h1
  rw [List.getD_eq_getElem?_getD, List.getD_eq_getElem?_getD, List.getElem?_eq_getElem h1, List.getElem?_eq_getElem h2] at this
  exact this
end Go.Proofs.YtnlepnfdgdbkoaaGreatDoor

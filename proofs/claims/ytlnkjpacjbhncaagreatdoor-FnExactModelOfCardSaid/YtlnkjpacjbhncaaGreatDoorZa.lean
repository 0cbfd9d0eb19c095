/-
  Several small texts of this proof, one behind another: each says ahead of itself what it proves.
-/
import Derived.WalkKit
import Derived.Test.YtlnkjpacjbhncaaGreatDoorChecked
import Derived.Lib.Hide
import Derived.KernelRfl
import Derived.Deep.Cut
import Derived.OwnWalk
import Derived.Deep.QuietTactic
import Derived.BigQuiet
import Derived.ProofKit
import Derived.OpenShut
import Derived.Laws.Cover1
import Derived.BigGuardPart
import Derived.Deep.Fields
import Derived.Lib.Strings
import Derived.Deep.MidRow
import Derived.Lib.SliceRun
/-
  Plain mathematics of bytes and digits, with no program in sight: the number that a row of bytes encodes, most significant byte first; what shifting and or-ing by eight bits comes to.
-/
namespace Go.Proofs.YtlnkjpacjbhncaaGreatDoor.M
open Go.RowKit

theorem ret_int {k : IntKind} {a b : Int} (h : a = b) : Ending.returned (.int k a) = .returned (.int k b) := by rw [h]
theorem ret_str {a b : ByteArray} (h : a = b) : Ending.returned (.string a) = .returned (.string b) := by rw [h]
theorem ret_bool {a b : Bool} (h : a = b) : Ending.returned (.bool a) = .returned (.bool b) := by rw [h]
/-- The number that the bytes encode, most significant byte first. -/
def be (l : List UInt8) : Nat := l.foldl (fun n c => n * 256 + c.toNat) 0
theorem be_snoc (l : List UInt8) (c : UInt8) : be (l ++ [c]) = be l * 256 + c.toNat := by
  simp [be, List.foldl_append]
theorem be_lt_aux (l : List UInt8) : ∀ a : Nat, l.foldl (fun n c => n * 256 + c.toNat) a < (a + 1) * 256 ^ l.length := by
  induction l with
  | nil => intro a; simp
  | cons c l ih =>
    intro a
    have h := ih (a * 256 + c.toNat)
    have hc := c.toNat_lt
    have e : (a * 256 + c.toNat + 1) * 256 ^ l.length ≤ ((a + 1) * 256) * 256 ^ l.length := Nat.mul_le_mul_right _ (by omega)
    rw [List.foldl_cons, List.length_cons, Nat.pow_succ, Nat.mul_comm (256 ^ l.length) 256, ← Nat.mul_assoc]
    omega
theorem be_lt (l : List UInt8) : be l < 256 ^ l.length := by
  have h := be_lt_aux l 0
  simpa [be] using h
theorem take_snoc (s : ByteArray) (k : Nat) (h : k < s.size) : s.data.toList.take (k + 1) = s.data.toList.take k ++ [s[k]] := by
  rw [List.take_succ_eq_append_getElem (by simpa using h)]; rfl
theorem be_take (s : ByteArray) (k : Nat) (h : k < s.size) : be (s.data.toList.take (k + 1)) = be (s.data.toList.take k) * 256 + s[k].toNat := by
  rw [take_snoc s k h, be_snoc]
theorem be_take_lt (s : ByteArray) (k : Nat) (h : k < 7) : be (s.data.toList.take k) < 281474976710656 := by
  have h1 := be_lt (s.data.toList.take k)
  have h2 : (s.data.toList.take k).length ≤ k := List.length_take_le _ _
  have h3 : 256 ^ (s.data.toList.take k).length ≤ 256 ^ 6 := Nat.pow_le_pow_right (by decide) (by omega)
  have h4 : (256 : Nat) ^ 6 = 281474976710656 := by decide
  omega
theorem wraps_i64 (n : Int) (h0 : 0 ≤ n) (h1 : n < 2 ^ 63) : IntKind.i64.wrap n = n := by rw [IntKind.wrap_i64]; omega
/-- Or-ing a byte onto a number that was moved up by eight bits adds it. -/
theorem or256 (x c : Nat) (hx : x < 281474976710656) (hc : c < 256) : bits .or .i64 ((x : Int) * 256) (c : Int) = (x : Int) * 256 + c :=
  bits_join .i64 63 (by decide) wraps_i64 8 _ _ (by omega) (by omega) (by omega) (by omega) (by omega) (by omega)
/-- n without its last k bytes. -/
def dv (n k : Nat) : Nat := n / 256 ^ k
theorem dv_zero (n : Nat) : dv n 0 = n := by simp [dv]
theorem dv_succ (n k : Nat) : dv n (k + 1) = dv n k / 256 := by simp only [dv, Nat.pow_succ, Nat.div_div_eq_div_mul]
theorem dv_le (n k : Nat) : dv n k ≤ n := Nat.div_le_self _ _
theorem dv_pos (n k : Nat) : 0 < dv n k ↔ 256 ^ k ≤ n := by
  unfold dv
  exact Nat.div_pos_iff.trans ⟨fun h => h.2, fun h => ⟨Nat.pow_pos (by decide), h⟩⟩
/-- The last k bytes of n, most significant first. -/
def fx (n : Nat) : Nat → List UInt8
  | 0 => []
  | k + 1 => UInt8.ofNat (dv n k) :: fx n k
theorem fx_length (n k : Nat) : (fx n k).length = k := by
  induction k with
  | zero => rfl
  | succ k ih => simp [fx, ih]
def fxs (n k : Nat) : ByteArray := ⟨(fx n k).toArray⟩
theorem fxs_size (n k : Nat) : (fxs n k).size = k := by simp [fxs, ByteArray.size, fx_length]
theorem fxs_zero (n : Nat) : fxs n 0 = ⟨#[]⟩ := rfl
theorem fxs_succ (n k : Nat) : (⟨#[UInt8.ofNat (dv n k)]⟩ : ByteArray) ++ fxs n k = fxs n (k + 1) := by
  have h := ByteArray.mk_append_mk [UInt8.ofNat (dv n k)] (fx n k)
  simpa [fxs, fx] using h
theorem fx_get (n : Nat) : ∀ k i, i < k → (fx n k)[i]? = some (UInt8.ofNat (dv n (k - 1 - i))) := by
  intro k
  induction k with
  | zero => intro i h; omega
  | succ k ih =>
    intro i h
    cases i with
    | zero => simp [fx]
    | succ i =>
      simp only [fx, List.getElem?_cons_succ]
      rw [ih i (by omega)]
      congr 3
      omega
theorem ofNat_mod (m : Nat) : UInt8.ofNat (m % 256) = UInt8.ofNat m := by
  apply UInt8.toNat_inj.1
  simp
theorem shr_dv (n k : Nat) : (n : Int) / 2 ^ (8 * k) = (dv n k : Int) := by
  unfold dv
  rw [Int.natCast_ediv, Int.natCast_pow, Int.pow_mul]
  rfl
theorem shr_dv_ne (n k : Nat) (h : 256 ^ k ≤ n) : ((n : Int) / 2 ^ (8 * k) != 0) = true := by
  have := (dv_pos n k).2 h
  rw [shr_dv, bne_iff_ne]; omega
theorem shr_dv_eq (n k : Nat) (h : ¬ 256 ^ k ≤ n) : ((n : Int) / 2 ^ (8 * k) != 0) = false := by
  have := dv_pos n k
  rw [shr_dv, bne_eq_false_iff_eq]; omega
/-- The varint of n, least significant group first, with at most f bytes that have the high bit. -/
def vb : Nat → Nat → List UInt8
  | 0, n => [UInt8.ofNat n]
  | f + 1, n => if n < 128 then [UInt8.ofNat n] else UInt8.ofNat (128 + n % 128) :: vb f (n / 128)
theorem vb_small (f n : Nat) (h : n < 128) : vb f n = [UInt8.ofNat n] := by
  cases f with
  | zero => rfl
  | succ f => simp [vb, h]
theorem vb_big (f n : Nat) (h : ¬ n < 128) : vb (f + 1) n = UInt8.ofNat (128 + n % 128) :: vb f (n / 128) := by simp [vb, h]
theorem vb_le (f : Nat) : ∀ n, 1 ≤ (vb f n).length ∧ (vb f n).length ≤ f + 1 := by
  induction f with
  | zero => intro n; simp [vb]
  | succ f ih =>
    intro n
    by_cases h : n < 128
    · rw [vb_small _ _ h]; simp
    · rw [vb_big _ _ h]; have := ih (n / 128); simp only [List.length_cons]; omega
/-- What a call that writes the varint of n0 knows between two bytes: what lies already, what is left. -/
def VarAt (n0 f m : Nat) (acc : List UInt8) : Prop := acc ++ vb f m = vb 6 n0 ∧ acc.length + f = 6 ∧ m < 128 ^ (f + 1)
theorem VarAt.start (n : Nat) (h : n ≤ 562949953421311) : VarAt n 6 n [] := ⟨rfl, rfl, by show n < 128 ^ 7; omega⟩
theorem VarAt.step {n0 f m : Nat} {acc : List UInt8} (h : VarAt n0 f m acc) (hm : ¬ m < 128) : ∃ g, f = g + 1 ∧ VarAt n0 g (m / 128) (acc ++ [UInt8.ofNat (128 + m % 128)]) := by
  obtain ⟨h1, h2, h3⟩ := h
  cases f with
  | zero => simp at h3; omega
  | succ g =>
    refine ⟨g, rfl, ?_, ?_, ?_⟩
    · rw [vb_big _ _ hm] at h1
      rw [← h1]; simp
    · simp; omega
    · rw [Nat.pow_succ] at h3
      omega
theorem VarAt.stop {n0 f m : Nat} {acc : List UInt8} (h : VarAt n0 f m acc) (hm : m < 128) : acc ++ [UInt8.ofNat m] = vb 6 n0 := by
  rw [← vb_small f m hm]; exact h.1
theorem VarAt.len {n0 f m : Nat} {acc : List UInt8} (h : VarAt n0 f m acc) : acc.length ≤ 6 := by have := h.2.1; omega
def vbs (n : Nat) : ByteArray := ⟨(vb 6 n).toArray⟩
theorem i64_or128 (y : Int) (h0 : 0 ≤ y) (h1 : y < 128) : bits .or .i64 y 128 = 128 + y := by
  have hc : bits .or .i64 y 128 = bits .or .i64 128 y := by simp only [bits, BitVec.or_comm]
  rw [hc]
  exact bits_join .i64 63 (by decide) wraps_i64 7 _ _ (by decide) (by decide) (by decide) h0 h1 (by omega)
end Go.Proofs.YtlnkjpacjbhncaaGreatDoor.M
/-
  Rows of ints: reading one that came in or was made, making one, filling it; the law's own helpers that copy, compare, mark and check a row.
-/
namespace Go.Proofs.YtlnkjpacjbhncaaGreatDoor
open Go.RowKit M
set_option linter.unusedVariables false
theorem info_int : (Tryz.prog.info? 3).map (fun i => (i.zero, i.size, i.bytes)) = some (some (.int .i64 0), 1, 8) := by kernel_rfl
/-- Each number fits an int. -/
def Fit (zs : List Int) : Prop := ∀ z ∈ zs, -9223372036854775808 ≤ z ∧ z ≤ 9223372036854775807
theorem Fit.at {zs : List Int} (h : Fit zs) (j : Nat) : -9223372036854775808 ≤ zs.getD j 0 ∧ zs.getD j 0 ≤ 9223372036854775807 := by
  rw [List.getD_eq_getElem?_getD]
  cases e : zs[j]? with
  | none => simp
  | some z => exact h z (List.mem_of_getElem? e)
/-- The slice value v reads as the ints zs, in a block that is there. -/
def Ints (w : World) (v : Value) (zs : List Int) : Prop :=
  ∃ b off cap, v = .slice (some ⟨b, off, none⟩) zs.length cap ∧ zs.length ≤ cap ∧ cap ≤ maxLen ∧ b < w.heap.size ∧ ∀ j, j < zs.length → w.cell? ⟨b, off + j, none⟩ = some (.int .i64 (zs.getD j 0))
/-- The like of any slice of ints that came in: nil, or of no length, or one whose cells are there. -/
def IntsArg (w : World) (v : Value) (zs : List Int) : Prop :=
  ∃ A cap, v = .slice A zs.length cap ∧ zs.length ≤ cap ∧ cap ≤ maxLen ∧ (0 < zs.length → ∃ b off, A = some ⟨b, off, none⟩ ∧ b < w.heap.size ∧ ∀ j, j < zs.length → w.cell? ⟨b, off + j, none⟩ = some (.int .i64 (zs.getD j 0)))
theorem Ints.arg {w : World} {v : Value} {zs : List Int} (h : Ints w v zs) : IntsArg w v zs := by
  obtain ⟨b, off, cap, e, h1, h2, h3, h4⟩ := h
  exact ⟨_, cap, e, h1, h2, fun _ => ⟨b, off, rfl, h3, h4⟩⟩
theorem IntsArg.nil (w : World) : IntsArg w (.slice none 0 0) [] := ⟨none, 0, rfl, Nat.zero_le _, Nat.zero_le _, fun h => absurd h (by simp)⟩
theorem Ints.below {w w' : World} {v : Value} {zs : List Int} (h : Ints w v zs) (hb : Below w.heap.size w w') : Ints w' v zs := by
  obtain ⟨b, off, cap, e, h1, h2, h3, h4⟩ := h
  exact ⟨b, off, cap, e, h1, h2, Nat.lt_of_lt_of_le h3 hb.size, fun j hj => (hb.cell (p := ⟨b, off + j, none⟩) h3).trans (h4 j hj)⟩
theorem IntsArg.below {w w' : World} {v : Value} {zs : List Int} (h : IntsArg w v zs) (hb : Below w.heap.size w w') : IntsArg w' v zs := by
  obtain ⟨A, cap, e, h1, h2, h3⟩ := h
  refine ⟨A, cap, e, h1, h2, fun hp => ?_⟩
  obtain ⟨b, off, ea, h4, h5⟩ := h3 hp
  exact ⟨b, off, ea, Nat.lt_of_lt_of_le h4 hb.size, fun j hj => (hb.cell (p := ⟨b, off + j, none⟩) h4).trans (h5 j hj)⟩
/-- The row is the call's own: in a block from base on. -/
def OwnI (w : World) (base : Nat) (v : Value) (zs : List Int) : Prop := w.ownsRow base 3 1 v zs.length (zs.map (Value.int .i64)) ∧ ∃ g cap, v = .slice (some ⟨g, 0, none⟩) zs.length cap
theorem OwnI.block {w : World} {base : Nat} {v : Value} {zs : List Int} (h : OwnI w base v zs) : ∃ g, v.ownBlock = some g ∧ base ≤ g ∧ g < w.heap.size := by
  obtain ⟨h1, g, cap, rfl⟩ := h
  have := World.ownsRow.lt h1 g rfl
  exact ⟨g, rfl, this⟩
theorem OwnI.ints {w : World} {base : Nat} {v : Value} {zs : List Int} (h : OwnI w base v zs) : Ints w v zs := by
  obtain ⟨h1, g, cap, rfl⟩ := h
  have hlt := World.ownsRow.lt h1 g rfl
  have hc : zs.length ≤ cap ∧ cap ≤ maxLen := by
    rcases h1.2 with ⟨h', _⟩ | ⟨g', cap', cur, h', _, _, hn, hm, _⟩
    · cases h'
    · injection h' with _ _ e; subst e; exact ⟨hn, hm⟩
  refine ⟨g, 0, cap, rfl, hc.1, hc.2, hlt.2, fun j hj => ?_⟩
  rw [Nat.zero_add, World.ownsRow.cellAt h1 j (by omega), List.getElem?_map, List.getElem?_eq_getElem hj, List.getD_eq_getElem?_getD, List.getElem?_eq_getElem hj]
  rfl
theorem OwnI.kept {w w' : World} {base : Nat} {v : Value} {zs : List Int} {row : Option Nat} (h : OwnI w base v zs) (hg : w.grownBy w' row) (hne : v.ownBlock ≠ row) : OwnI w' base v zs :=
  ⟨World.ownsRow.kept h.1 hg (Or.inr hne), h.2⟩
theorem OwnI.below {w w' : World} {base : Nat} {v : Value} {zs : List Int} (h : OwnI w base v zs) (hb : Below w.heap.size w w') : OwnI w' base v zs := by
  obtain ⟨g, hg, _, _⟩ := h.block
  exact h.kept (row := none) ⟨hb.os, hb.tape, hb.output, hb.size, fun i hi _ => hb.block i hi⟩ (by rw [hg]; intro h; cases h)
theorem OwnI.made {w : World} {base g n cap : Nat} (h : w.ownsRow base 3 1 (.slice (some ⟨g, 0, none⟩) n cap) n (madeCells (Value.int .i64 0).cells (n * 1)).toList) : OwnI w base (.slice (some ⟨g, 0, none⟩) n cap) (List.replicate n 0) := by
  refine ⟨?_, g, cap, by rw [List.length_replicate]⟩
  rw [List.length_replicate, List.map_replicate]
  have : (madeCells (Value.int .i64 0).cells (n * 1)).toList = List.replicate n (Value.int .i64 0) := by rw [Nat.mul_one]; exact toList_madeCells_one _ _
  rw [← this]; exact h
theorem OwnI.set {w : World} {base g n cap : Nat} {zs : List Int} (h : OwnI w base (.slice (some ⟨g, 0, none⟩) n cap) zs) (j : Nat) (z : Int) :
    OwnI (w.setCell ⟨g, j, none⟩ (.int .i64 z)) base (.slice (some ⟨g, 0, none⟩) n cap) (zs.set j z) ∧ w.grownBy (w.setCell ⟨g, j, none⟩ (.int .i64 z)) (some g) := by
  obtain ⟨h1, g', cap', e⟩ := h
  have hn : n = zs.length := by injection e
  subst hn
  have hs := World.ownsRow.stored h1 j (.int .i64 z)
  refine ⟨⟨?_, g, cap, by rw [List.length_set]⟩, hs.2⟩
  rw [List.length_set, List.map_set]
  exact hs.1
theorem OwnI.frz {w : World} {base g n cap : Nat} {zs : List Int} (h : OwnI w base (.slice (some ⟨g, 0, none⟩) n cap) zs) (j : Nat) : w.frozen? ⟨g, j, none⟩ = false := by
  obtain ⟨h1, g', cap', e⟩ := h
  have hn : n = zs.length := by injection e
  subst hn
  exact World.ownsRow.frozenAt h1 j
theorem OwnI.cell {w : World} {base g n cap : Nat} {zs : List Int} (h : OwnI w base (.slice (some ⟨g, 0, none⟩) n cap) zs) (j : Nat) (hj : j < n) : w.cell? ⟨g, j, none⟩ = some (.int .i64 (zs.getD j 0)) := by
  obtain ⟨h1, g', cap', e⟩ := h
  have hn : n = zs.length := by injection e
  subst hn
  rw [World.ownsRow.cellAt h1 j (by omega), List.getElem?_map, List.getElem?_eq_getElem hj, List.getD_eq_getElem?_getD, List.getElem?_eq_getElem hj]
  rfl
/-- Filling from the front: what is there after j stores. -/
def partI (zs : List Int) (j : Nat) : List Int := zs.take j ++ List.replicate (zs.length - j) 0
theorem partI_length (zs : List Int) (j : Nat) : (partI zs j).length = zs.length := by
  simp only [partI, List.length_append, List.length_take, List.length_replicate]; omega
theorem partI_all (zs : List Int) : partI zs zs.length = zs := by simp [partI]
theorem partI_set (zs : List Int) (j : Nat) (hj : j < zs.length) : (partI zs j).set j (zs.getD j 0) = partI zs (j + 1) := by
  apply List.ext_getElem?
  intro i
  unfold partI
  rcases Nat.lt_trichotomy i j with h | h | h
  · rw [List.getElem?_set_ne (by omega), List.getElem?_append_left (by simp; omega), List.getElem?_append_left (by simp; omega), List.getElem?_take_of_lt h, List.getElem?_take_of_lt (by omega)]
  · subst h
    rw [List.getElem?_set_self (by simp; omega), List.getElem?_append_left (by simp; omega), List.getElem?_take_of_lt (by omega), List.getD_eq_getElem?_getD, List.getElem?_eq_getElem hj]; rfl
  · rw [List.getElem?_set_ne (by omega), List.getElem?_append_right (by simp; omega), List.getElem?_append_right (by simp; omega)]
    simp only [List.length_take, List.getElem?_replicate]
    congr 1
    simp only [eq_iff_iff]
    omega
/-- What a row reads as in a later world. -/
theorem OwnI.apart {w w' : World} {b0 B : Nat} {v u : Value} {xs ys : List Int} (h : OwnI w b0 v xs) (k : OwnI w' B u ys) (hB : w.heap.size ≤ B) : v.ownBlock ≠ u.ownBlock := by
  obtain ⟨g, hg, _, h2⟩ := h.block
  obtain ⟨g', hg', h3, _⟩ := k.block
  rw [hg, hg']
  intro e
  injection e with e
  omega
theorem OwnI.of_row {w : World} {base n : Nat} {v : Value} {zs : List Int} (h : w.ownsRow base 3 1 v n (zs.map (Value.int .i64))) (hn : zs.length = n) (hv : v ≠ .slice none 0 0) : OwnI w base v zs := by
  subst hn
  refine ⟨h, ?_⟩
  rcases h.2 with ⟨h', _⟩ | ⟨g, cap, cur, h', _⟩
  · exact absurd h' hv
  · exact ⟨g, cap, h'⟩
/-- A call hands back a new row of its own that reads zs, and turns nothing that was there. -/
def MadeI (w : World) (zs : List Int) (e : Ending) (w' : World) : Prop := ∃ v, e = .returned v ∧ OwnI w' w.heap.size v zs ∧ Below w.heap.size w w'
end Go.Proofs.YtlnkjpacjbhncaaGreatDoor
/-
  Rows of records, whatever the record: its cells one behind the other; setting a record's cells one after another.
-/
namespace Go.Proofs.YtlnkjpacjbhncaaGreatDoor
open Go.RowKit M
set_option linter.unusedVariables false
section
variable {α : Type} {F : Nat} {c : α → Array Value}
def cellsF (c : α → Array Value) (l : List α) : List Value := l.flatMap fun r => (c r).toList
theorem cellsF_length (hF : ∀ r, (c r).size = F) (l : List α) : (cellsF c l).length = l.length * F := by
  induction l with
  | nil => simp [cellsF]
  | cons r l ih => simp only [cellsF, List.flatMap_cons, List.length_append, List.length_cons, Array.length_toList, hF] at *; rw [ih, Nat.add_mul, Nat.one_mul, Nat.add_comm]
theorem cellsF_append (xs ys : List α) : cellsF c (xs ++ ys) = cellsF c xs ++ cellsF c ys := by simp [cellsF]
theorem cellsF_at (hF : ∀ r, (c r).size = F) (z : α) (l : List α) (j k : Nat) (hj : j < l.length) (hk : k < F) : (cellsF c l)[j * F + k]? = (c (l.getD j z))[k]? := by
  induction l generalizing j with
  | nil => simp at hj
  | cons r l ih =>
    show ((c r).toList ++ cellsF c l)[j * F + k]? = _
    cases j with
    | zero => rw [List.getElem?_append_left (by simp [hF]; omega)]; simp
    | succ j =>
      rw [List.getElem?_append_right (by simp [hF, Nat.add_mul]; omega), show (j + 1) * F + k - (c r).toList.length = j * F + k by simp [hF, Nat.add_mul]; omega, ih j (by simpa using hj)]
      simp
/-- Cells set one after another, from place o on. -/
def setN (cs : List Value) (o : Nat) : List Value → List Value
  | [] => cs
  | u :: us => setN (cs.set o u) (o + 1) us
theorem setN_mid (us bs as_ cs : List Value) (h : us.length = bs.length) : setN (as_ ++ (bs ++ cs)) as_.length us = as_ ++ (us ++ cs) := by
  induction us generalizing bs as_ with
  | nil =>
    have : bs = [] := List.eq_nil_of_length_eq_zero (by simpa using h.symm)
    subst this; rfl
  | cons u us ih =>
    cases bs with
    | nil => simp at h
    | cons b bs =>
      show setN ((as_ ++ (b :: bs ++ cs)).set as_.length u) (as_.length + 1) us = _
      rw [List.set_append_right _ _ (Nat.le_refl _), Nat.sub_self]
      show setN (as_ ++ (u :: (bs ++ cs))) (as_.length + 1) us = _
      have e : as_ ++ (u :: (bs ++ cs)) = (as_ ++ [u]) ++ (bs ++ cs) := by simp
      rw [e, show as_.length + 1 = (as_ ++ [u]).length by simp, ih bs (as_ ++ [u]) (by simpa using h)]
      simp
theorem cellsF_set (hF : ∀ r, (c r).size = F) (l : List α) (j : Nat) (hj : j < l.length) (r : α) : setN (cellsF c l) (j * F) (c r).toList = cellsF c (l.set j r) := by
  have e : l = l.take j ++ (l[j] :: l.drop (j + 1)) := by rw [← List.drop_eq_getElem_cons hj, List.take_append_drop]
  have e2 : l.set j r = l.take j ++ (r :: l.drop (j + 1)) := by
    conv => lhs; rw [e]
    rw [List.set_append_right _ _ (by rw [List.length_take]; omega), List.length_take, show j - min j l.length = 0 by omega, List.set_cons_zero]
  have e3 : cellsF c l = cellsF c (l.take j) ++ ((c l[j]).toList ++ cellsF c (l.drop (j + 1))) := by
    conv => lhs; rw [e]
    rw [cellsF_append]; rfl
  have e4 : cellsF c (l.set j r) = cellsF c (l.take j) ++ ((c r).toList ++ cellsF c (l.drop (j + 1))) := by rw [e2, cellsF_append]; rfl
  have e5 : (cellsF c (l.take j)).length = j * F := by rw [cellsF_length hF, List.length_take]; congr 1; omega
  rw [e3, e4, ← e5]
  exact setN_mid _ _ _ _ (by simp [hF])
/-- Marked from the front: what is there after j records. -/
def mpartF (m : Nat → α) (l : List α) (j : Nat) : List α := (List.range j).map m ++ l.drop j
theorem mpartF_length (m : Nat → α) (l : List α) (j : Nat) (h : j ≤ l.length) : (mpartF m l j).length = l.length := by
  simp only [mpartF, List.length_append, List.length_map, List.length_range, List.length_drop]; omega
theorem mpartF_zero (m : Nat → α) (l : List α) : mpartF m l 0 = l := by simp [mpartF]
theorem mpartF_all (m : Nat → α) (l : List α) : mpartF m l l.length = (List.range l.length).map m := by simp [mpartF]
theorem mpartF_set (m : Nat → α) (l : List α) (j : Nat) (h : j < l.length) : (mpartF m l j).set j (m j) = mpartF m l (j + 1) := by
  unfold mpartF
  rw [List.set_append_right _ _ (by simp), List.length_map, List.length_range, Nat.sub_self, List.drop_eq_getElem_cons h, List.range_succ, List.map_append, List.set_cons_zero, List.append_assoc]
  rfl
end
/-- The walk goes on over any world of which P is known. -/
theorem wp_gen {C : Go.Code} {Q : Exit → Act → World → Prop} {a : Act} {w : World} (P : World → Prop) (h : P w) (k : ∀ w', P w' → Code.wp Tryz.prog C Q a w') : Code.wp Tryz.prog C Q a w := k w h
theorem ownsRow_some {w : World} {base g n cap F : Nat} {t : TypeId} {xs : List Value} (h : w.ownsRow base t F (.slice (some ⟨g, 0, none⟩) n cap) n xs) (j : Nat) (hj : j < n * F) : ∃ z, w.cell? ⟨g, j, none⟩ = some z := by
  refine ⟨xs[j]'(by rw [h.1]; exact hj), ?_⟩
  rw [World.ownsRow.cellAt h j hj, List.getElem?_eq_getElem]
theorem grownF {a b c : World} {o : Option Nat} (h : a.grownBy b o) (k : b.grownBy c o) : a.grownBy c o :=
  ⟨k.os.trans h.os, k.tape.trans h.tape, k.output.trans h.output, Nat.le_trans h.size k.size, fun i hi hne => (k.block i (Nat.lt_of_lt_of_le hi h.size) hne).trans (h.block i hi hne)⟩
end Go.Proofs.YtlnkjpacjbhncaaGreatDoor
/-
  Rows of records, whatever the record: reading one that came in or was made; one that a call made itself: storing a record, a new one, an empty one.
-/
namespace Go.Proofs.YtlnkjpacjbhncaaGreatDoor
open Go.RowKit M
set_option linter.unusedVariables false
section
variable {α : Type} {F : Nat} {c : α → Array Value} {z : α} {t : TypeId}
/-- Record r lies in block b from cell o on. -/
def RecAt (F : Nat) (c : α → Array Value) (w : World) (b o : Nat) (r : α) : Prop := ∀ k, k < F → w.cell? ⟨b, o + k, none⟩ = (c r)[k]?
theorem RecAt.below {w w' : World} {b o : Nat} {r : α} (h : RecAt F c w b o r) (hlt : b < w.heap.size) (hb : Below w.heap.size w w') : RecAt F c w' b o r :=
  fun k hk => (hb.cell (p := ⟨b, o + k, none⟩) hlt).trans (h k hk)
/-- The slice value v reads as the records l (nil, or of no length, or one whose cells are there). -/
def RecsArg (F : Nat) (c : α → Array Value) (z : α) (w : World) (v : Value) (l : List α) : Prop :=
  ∃ A cap, v = .slice A l.length cap ∧ l.length ≤ cap ∧ cap ≤ maxLen ∧ (0 < l.length → ∃ b off, A = some ⟨b, off, none⟩ ∧ b < w.heap.size ∧ ∀ j, j < l.length → RecAt F c w b (off + j * F) (l.getD j z))
theorem RecsArg.below {w w' : World} {v : Value} {l : List α} (h : RecsArg F c z w v l) (hb : Below w.heap.size w w') : RecsArg F c z w' v l := by
  obtain ⟨A, cap, e, h1, h2, h3⟩ := h
  refine ⟨A, cap, e, h1, h2, fun hp => ?_⟩
  obtain ⟨b, off, ea, h4, h5⟩ := h3 hp
  exact ⟨b, off, ea, Nat.lt_of_lt_of_le h4 hb.size, fun j hj => (h5 j hj).below h4 hb⟩
theorem RecsArg.nil (w : World) : RecsArg F c z w (.slice none 0 0) [] := ⟨none, 0, rfl, Nat.zero_le _, Nat.zero_le _, fun h => absurd h (by simp)⟩
/-- The records are the call's own: in a block from base on. -/
def OwnF (t : TypeId) (F : Nat) (c : α → Array Value) (w : World) (base : Nat) (v : Value) (l : List α) : Prop := w.ownsRow base t F v l.length (cellsF c l)
theorem OwnF.alloc {w : World} {base : Nat} {v : Value} {l : List α} (h : OwnF t F c w base v l) (o : Obj) : OwnF t F c (w.alloc o) base v l := World.ownsRow.alloc h o
theorem OwnF.kept {w w' : World} {base : Nat} {v : Value} {l : List α} {row : Option Nat} (h : OwnF t F c w base v l) (hg : w.grownBy w' row) (hne : v.ownBlock = none ∨ v.ownBlock ≠ row) : OwnF t F c w' base v l := World.ownsRow.kept h hg hne
theorem OwnF.base_le {w : World} {base : Nat} {v : Value} {l : List α} (h : OwnF t F c w base v l) : ∀ k, v.ownBlock = some k → base ≤ k := fun k hk => (World.ownsRow.lt h k hk).1
theorem OwnF.lt {w : World} {base : Nat} {v : Value} {l : List α} (h : OwnF t F c w base v l) : ∀ k, v.ownBlock = some k → k < w.heap.size := fun k hk => (World.ownsRow.lt h k hk).2
theorem OwnF.below {w w' : World} {base : Nat} {v : Value} {l : List α} (h : OwnF t F c w base v l) (hb : Below w.heap.size w w') : OwnF t F c w' base v l :=
  h.kept (row := none) ⟨hb.os, hb.tape, hb.output, hb.size, fun i hi _ => hb.block i hi⟩ (by cases v.ownBlock <;> simp)
theorem OwnF.base {w : World} {b b' : Nat} {v : Value} {l : List α} (h : OwnF t F c w b v l) (hb : b' ≤ b) : OwnF t F c w b' v l := by
  rcases h.2 with ⟨h1, h2⟩ | ⟨g, cap, cur, h1, h2, h3⟩
  · exact ⟨h.1, .inl ⟨h1, h2⟩⟩
  · exact ⟨h.1, .inr ⟨g, cap, cur, h1, Nat.le_trans hb h2, h3⟩⟩
theorem OwnF.shape {w : World} {base : Nat} {v : Value} {l : List α} (h : OwnF t F c w base v l) : ∃ A cap, v = .slice A l.length cap := by
  rcases h.2 with ⟨rfl, h0⟩ | ⟨g, cap, cur, rfl, _⟩
  · exact ⟨none, 0, by rw [h0]⟩
  · exact ⟨_, cap, rfl⟩
theorem OwnF.arg {w : World} {base : Nat} {v : Value} {l : List α} (h : OwnF t F c w base v l) (hF : ∀ r, (c r).size = F) (z : α) : RecsArg F c z w v l := by
  have h' := h
  rcases h.2 with ⟨rfl, h0⟩ | ⟨g, cap, cur, rfl, hb, hg, hn, hm, hc, ht⟩
  · exact ⟨none, 0, by rw [h0], by omega, Nat.zero_le _, fun h => by omega⟩
  · refine ⟨_, cap, rfl, hn, hm, fun _ => ⟨g, 0, rfl, (World.ownsRow.lt h' g rfl).2, fun j hj k hk => ?_⟩⟩
    have hlt : j * F + k < l.length * F := Nat.lt_of_lt_of_le (show j * F + k < (j + 1) * F by rw [Nat.add_mul]; omega) (Nat.mul_le_mul_right F hj)
    rw [Nat.zero_add, World.ownsRow.cellAt h' (j * F + k) hlt, cellsF_at hF z l j k hj hk]
theorem OwnF.at {w : World} {base g n cap : Nat} {l : List α} (h : OwnF t F c w base (.slice (some ⟨g, 0, none⟩) n cap) l) (hF : ∀ r, (c r).size = F) (z : α) (hn : l.length = n) (j : Nat) (hj : j < n) : RecAt F c w g (j * F) (l.getD j z) := by
  subst hn
  intro k hk
  have hlt : j * F + k < l.length * F := Nat.lt_of_lt_of_le (show j * F + k < (j + 1) * F by rw [Nat.add_mul]; omega) (Nat.mul_le_mul_right F hj)
  rw [World.ownsRow.cellAt h (j * F + k) hlt, cellsF_at hF z l j k hj hk]
theorem OwnF.frz {w : World} {base g n cap : Nat} {l : List α} (h : OwnF t F c w base (.slice (some ⟨g, 0, none⟩) n cap) l) (hn : l.length = n) (j : Nat) : w.frozen? ⟨g, j, none⟩ = false := by
  subst hn
  exact World.ownsRow.frozenAt h j
/-- So many stores one after another. -/
def putN (w : World) (g o : Nat) : List Value → World
  | [] => w
  | u :: us => putN (w.setCell ⟨g, o, none⟩ u) g (o + 1) us
theorem putN_own {w : World} {base g n cap : Nat} (us xs : List Value) (o : Nat) (h : w.ownsRow base t F (.slice (some ⟨g, 0, none⟩) n cap) n xs) :
    (putN w g o us).ownsRow base t F (.slice (some ⟨g, 0, none⟩) n cap) n (setN xs o us) ∧ w.grownBy (putN w g o us) (some g) := by
  induction us generalizing w xs o with
  | nil => exact ⟨h, World.grownBy.refl _ _⟩
  | cons u us ih =>
    have hs := World.ownsRow.stored h o u
    have := ih (w := w.setCell ⟨g, o, none⟩ u) (xs.set o u) (o + 1) hs.1
    exact ⟨this.1, grownF hs.2 this.2⟩
theorem OwnF.put {w : World} {base g n cap : Nat} {l : List α} (h : OwnF t F c w base (.slice (some ⟨g, 0, none⟩) n cap) l) (hF : ∀ r, (c r).size = F) (hn : l.length = n) (j : Nat) (hj : j < n) (r : α) :
    OwnF t F c (putN w g (j * F) (c r).toList) base (.slice (some ⟨g, 0, none⟩) n cap) (l.set j r) ∧ w.grownBy (putN w g (j * F) (c r).toList) (some g) := by
  subst hn
  have := putN_own (c r).toList (cellsF c l) (j * F) h
  refine ⟨?_, this.2⟩
  unfold OwnF
  rw [List.length_set, ← cellsF_set hF l j hj r]
  exact this.1
/-- A call hands back a new row of records of its own, and turns nothing that was there. -/
def MadeF (t : TypeId) (F : Nat) (c : α → Array Value) (w : World) (l : List α) (e : Ending) (w' : World) : Prop := ∃ v, e = .returned v ∧ OwnF t F c w' w.heap.size v l ∧ Below w.heap.size w w'
/-- An empty one that was just built. -/
theorem OwnF.empty (w : World) (base : Nat) (hb : base ≤ w.heap.size) : OwnF t F c (w.alloc (.cells #[] t)) base (.slice (some ⟨w.heap.size, 0, none⟩) 0 0) [] := by
  unfold OwnF
  exact World.ownsRow_lit w #[] 0 hb (Nat.zero_le _) (by simp)
theorem zeroF_cells (zv : Value) (hz : zv.cells = c z) (hF : ∀ r, (c r).size = F) (h0 : 0 < F) (n : Nat) : (madeCells zv.cells (n * F)).toList = cellsF c (List.replicate n z) := by
  apply List.ext_getElem?
  intro i
  by_cases h : i < n * F
  · have hd : i / F < n := Nat.div_lt_of_lt_mul (by rw [Nat.mul_comm]; exact h)
    have hm : i % F < F := Nat.mod_lt _ h0
    have e : i = i / F * F + i % F := by rw [Nat.mul_comm]; exact (Nat.div_add_mod i F).symm
    have hg : (List.replicate n z).getD (i / F) z = z := by
      rw [List.getD_eq_getElem?_getD, List.getElem?_replicate]; split <;> rfl
    conv => rhs; rw [e]
    rw [cellsF_at hF z _ _ _ (by rw [List.length_replicate]; exact hd) hm, hz, hg, Array.getElem?_toList]
    unfold madeCells
    rw [hF, Array.getElem?_map, Array.getElem?_range, if_pos h]
    have hk : i % F < (c z).size := by rw [hF]; exact hm
    simp [getElem!_pos, hk]
  · rw [List.getElem?_eq_none (by rw [Array.length_toList, size_madeCells]; omega), List.getElem?_eq_none (by rw [cellsF_length hF, List.length_replicate]; omega)]
/-- Filling from the front: what is there after j records are stored. -/
def partF (z : α) (l : List α) (j : Nat) : List α := l.take j ++ List.replicate (l.length - j) z
theorem partF_length (l : List α) (j : Nat) : (partF z l j).length = l.length := by
  simp only [partF, List.length_append, List.length_take, List.length_replicate]; omega
theorem partF_all (l : List α) : partF z l l.length = l := by simp [partF]
theorem partF_zero (l : List α) : partF z l 0 = List.replicate l.length z := by simp [partF]
theorem partF_set (l : List α) (j : Nat) (hj : j < l.length) : (partF z l j).set j (l.getD j z) = partF z l (j + 1) := by
  apply List.ext_getElem?
  intro i
  unfold partF
  rcases Nat.lt_trichotomy i j with h | h | h
  · rw [List.getElem?_set_ne (by omega), List.getElem?_append_left (by simp; omega), List.getElem?_append_left (by simp; omega), List.getElem?_take_of_lt h, List.getElem?_take_of_lt (by omega)]
  · subst h
    rw [List.getElem?_set_self (by simp; omega), List.getElem?_append_left (by simp; omega), List.getElem?_take_of_lt (by omega), List.getD_eq_getElem?_getD, List.getElem?_eq_getElem hj]; rfl
  · rw [List.getElem?_set_ne (by omega), List.getElem?_append_right (by simp; omega), List.getElem?_append_right (by simp; omega)]
    simp only [List.length_take, List.getElem?_replicate]
    congr 1
    simp only [eq_iff_iff]
    omega
/-- What is left of a budget behind the records' texts. -/
def szLF (s : α → Nat) : List α → Int → Int
  | [], l => l
  | r :: rs, l => if l - (s r : Int) < 0 then -1 else szLF s rs (l - (s r : Int))
def szVF (s : α → Nat) (rs : List α) (l : Int) : Int := if l - (rs.length : Int) < 0 then -1 else szLF s rs (l - (rs.length : Int))
theorem szLF_drop (s : α → Nat) (z : α) (rs : List α) (j : Nat) (hj : j < rs.length) (c : Int) : szLF s (rs.drop j) c = if c - (s (rs.getD j z) : Int) < 0 then -1 else szLF s (rs.drop (j + 1)) (c - (s (rs.getD j z) : Int)) := by
  rw [List.drop_eq_getElem_cons hj, List.getD_eq_getElem?_getD, List.getElem?_eq_getElem hj]
  rfl
theorem szLF_le (s : α → Nat) : ∀ (rs : List α) (l : Int), szLF s rs l ≤ l ∨ szLF s rs l = -1
  | [], l => .inl (Int.le_refl _)
  | r :: rs, l => by
    unfold szLF
    split
    · exact .inr rfl
    · rcases szLF_le s rs (l - (s r : Int)) with h | h
      · exact .inl (by omega)
      · exact .inr h
theorem szVF_le {s : α → Nat} {rs : List α} {l : Int} (h : 0 ≤ szVF s rs l) : (rs.length : Int) ≤ l ∧ szVF s rs l ≤ l := by
  unfold szVF at *
  split at h
  · omega
  · rename_i h2
    rw [if_neg h2]
    rcases szLF_le s rs (l - (rs.length : Int)) with h3 | h3 <;> omega
theorem below_madeF {w w1 : World} (hg : w.grownBy w1 none) : Below w.heap.size w w1 := (Below.refl _ _).grown hg (Nat.le_refl _) (by intro _ h; cases h)
end
end Go.Proofs.YtlnkjpacjbhncaaGreatDoor
/-
  Chapter 4 in plain words: which bytes a key has, the number of a key, the key of a number, the hash.
-/
namespace Go.Proofs.YtlnkjpacjbhncaaGreatDoor.M
open Go.RowKit
set_option linter.unusedVariables false
/-- May the byte stand in a key? -/
def keyB (c : Nat) : Bool := (decide (97 ≤ c) && decide (c ≤ 122)) || (decide (65 ≤ c) && decide (c ≤ 90)) || (decide (48 ≤ c) && decide (c ≤ 57)) || decide (c = 95)
theorem keyB_pos {c : Nat} (h : keyB c = true) : 48 ≤ c ∧ c ≤ 122 := by simp [keyB] at h; omega
/-- The first j bytes may stand in a key. -/
def AllB (s : ByteArray) (j : Nat) : Prop := ∀ m (h : m < s.size), m < j → keyB s[m].toNat = true
theorem AllB.zero (s : ByteArray) : AllB s 0 := fun m _ h => absurd h (Nat.not_lt_zero _)
theorem AllB.next {s : ByteArray} {j : Nat} (h : AllB s j) (hj : j < s.size) (k : keyB s[j].toNat = true) : AllB s (j + 1) := fun m hm hl => by
  by_cases e : m = j
  · subst e; exact k
  · exact h m hm (by omega)
def keyOkV (s : ByteArray) : Bool := (decide (1 ≤ s.size) && decide (s.size ≤ 4)) && s.data.toList.all fun c => keyB c.toNat
theorem all_iff {s : ByteArray} : (s.data.toList.all fun c => keyB c.toNat) = true ↔ AllB s s.size := by
  rw [List.all_eq_true]
  constructor
  · intro h m hm _
    exact h _ (by rw [show s[m] = s.data.toList[m]'(by simpa using hm) from rfl]; exact List.getElem_mem _)
  · intro h c hc
    obtain ⟨m, hm, rfl⟩ := List.getElem_of_mem hc
    have hm' : m < s.size := by simpa using hm
    exact h m hm' hm'
theorem keyOkV_iff {s : ByteArray} : keyOkV s = true ↔ (1 ≤ s.size ∧ s.size ≤ 4) ∧ AllB s s.size := by
  unfold keyOkV
  rw [Bool.and_eq_true, Bool.and_eq_true, decide_eq_true_eq, decide_eq_true_eq, all_iff]
theorem keyOkV_no {s : ByteArray} {j : Nat} (hj : j < s.size) (h : keyB s[j].toNat = false) : keyOkV s = false := by
  rw [← Bool.not_eq_true]
  intro k
  have := (keyOkV_iff.1 k).2 j hj hj
  rw [h] at this; cases this
theorem keyOkV_size {s : ByteArray} (h : ¬ (1 ≤ s.size ∧ s.size ≤ 4)) : keyOkV s = false := by
  rw [← Bool.not_eq_true]; intro k; exact h (keyOkV_iff.1 k).1
/-- The number of a key. -/
def packV (s : ByteArray) : Nat := if keyOkV s = true then be s.data.toList else 0
theorem be_lt4 {s : ByteArray} (h : s.size ≤ 4) : be s.data.toList < 4294967296 := by
  have h1 := be_lt s.data.toList
  have h2 : s.data.toList.length ≤ 4 := by simpa using h
  have h3 : 256 ^ s.data.toList.length ≤ 256 ^ 4 := Nat.pow_le_pow_right (by decide) h2
  omega
theorem packV_lt (s : ByteArray) : packV s < 4294967296 := by
  unfold packV
  split
  · rename_i h; exact be_lt4 (keyOkV_iff.1 h).1.2
  · decide
/-- How many bytes a number has. -/
def nbV (n : Nat) : Nat := if n = 0 then 0 else if n < 256 then 1 else if n < 65536 then 2 else if n < 16777216 then 3 else 4
/-- The bytes of a number, most significant first, no zero ahead. -/
def unb (n : Nat) : ByteArray := fxs n (nbV n)
theorem unb_size (n : Nat) : (unb n).size = nbV n := fxs_size _ _
/-- UnpackKey's answer. -/
def unV (n : Int) : Option ByteArray := if 1 ≤ n ∧ n ≤ 4294967295 then (if keyOkV (unb n.toNat) = true then some (unb n.toNat) else none) else none
def unT : Option ByteArray → Value
  | some s => .tuple #[.string s, .bool true]
  | none => .tuple #[.string ⟨#[]⟩, .bool false]
theorem unT_none : unT none = .tuple #[.string ⟨#[]⟩, .bool false] := rfl
theorem unT_some (s : ByteArray) : unT (some s) = .tuple #[.string s, .bool true] := rfl
/-- The hash of the first j bytes. -/
def hashS (h c : Nat) : Nat := (h ^^^ c) * 16777619 % 4294967296
def hashF (h : Nat) (c : UInt8) : Nat := hashS h c.toNat
def hash0 : Nat := 2166136261
def hashT (l : List UInt8) : Nat := l.foldl hashF hash0
theorem hashF_lt (h : Nat) (c : UInt8) : hashF h c < 4294967296 := Nat.mod_lt _ (by decide)
theorem hash_fold_lt : ∀ (l : List UInt8) (h : Nat), h < 4294967296 → l.foldl hashF h < 4294967296
  | [], _, hh => hh
  | c :: l, h, _ => hash_fold_lt l (hashF h c) (hashF_lt h c)
theorem hashT_lt (l : List UInt8) : hashT l < 4294967296 := hash_fold_lt l hash0 (by decide)
theorem hash_fold_snoc (h : Nat) (l : List UInt8) (c : UInt8) : (l ++ [c]).foldl hashF h = hashF (l.foldl hashF h) c := by
  rw [List.foldl_append, List.foldl_cons, List.foldl_nil]
theorem hashT_snoc (l : List UInt8) (c : UInt8) : hashT (l ++ [c]) = hashS (hashT l) c.toNat := hash_fold_snoc hash0 l c
theorem hashT_take (s : ByteArray) (k : Nat) (h : k < s.size) : hashT (s.data.toList.take (k + 1)) = hashS (hashT (s.data.toList.take k)) s[k].toNat := by
  rw [take_snoc s k h, hashT_snoc]
def hashV (s : ByteArray) : Nat := hashT s.data.toList
theorem xor_i64 {a b : Nat} (ha : a < 4294967296) (hb : b < 4294967296) : bits .xor .i64 (a : Int) (b : Int) = ((a ^^^ b : Nat) : Int) := by
  have hlt : a ^^^ b < 2 ^ 32 := Nat.xor_lt_two_pow (by omega) (by omega)
  have ka : (BitVec.ofInt 64 (a : Int)).toNat = a := by rw [BitVec.toNat_ofInt]; omega
  have kb : (BitVec.ofInt 64 (b : Int)).toNat = b := by rw [BitVec.toNat_ofInt]; omega
  show IntKind.i64.wrap ((BitVec.ofInt 64 (a : Int) ^^^ BitVec.ofInt 64 (b : Int)).toNat : Nat) = _
  rw [BitVec.toNat_xor, ka, kb, IntKind.wrap_i64]
  omega
theorem xor_lt32 {a b : Nat} (ha : a < 4294967296) (hb : b < 4294967296) : a ^^^ b < 4294967296 := Nat.xor_lt_two_pow (n := 32) (by omega) (by omega)
/-- Probe's answer. -/
def probeV (s : ByteArray) (n : Int) : Int := if keyOkV s = true ∧ 0 ≤ n ∧ n ≤ 3 then ((hashV s : Int) + n) % 4 else -1
theorem nbV_iff {m k : Nat} (hm : m ≤ 4294967295) (hk : k ≤ 4) : 0 < dv m k ↔ k < nbV m := by
  rw [dv_pos]
  unfold nbV
  have h : k = 0 ∨ k = 1 ∨ k = 2 ∨ k = 3 ∨ k = 4 := by omega
  rcases h with rfl | rfl | rfl | rfl | rfl <;> simp <;> (repeat' split) <;> omega
theorem nbV_le (m : Nat) : nbV m ≤ 4 := by unfold nbV; (repeat' split) <;> omega
theorem hash_next (h c : Nat) : (((h ^^^ c : Nat) : Int) * 16777619) % 4294967296 = (hashS h c : Nat) := by unfold hashS; omega
theorem u8_of (c : UInt8) (n : Nat) (h : n % 256 = c.toNat) : UInt8.ofNat n = c := by
  apply UInt8.toNat_inj.1; simp; exact h
theorem fx_four {l : List UInt8} (h : l.length ≤ 4) : fx (be l) l.length = l := by
  match l, h with
  | [], _ => rfl
  | [a], _ =>
    have ha := a.toNat_lt
    simp only [be, List.foldl, List.length, fx, dv]
    rw [u8_of a _ (by omega)]
  | [a, b], _ =>
    have ha := a.toNat_lt; have hb := b.toNat_lt
    simp only [be, List.foldl, List.length, fx, dv]
    rw [u8_of a _ (by omega), u8_of b _ (by omega)]
  | [a, b, c], _ =>
    have ha := a.toNat_lt; have hb := b.toNat_lt; have hc := c.toNat_lt
    simp only [be, List.foldl, List.length, fx, dv]
    rw [u8_of a _ (by omega), u8_of b _ (by omega), u8_of c _ (by omega)]
  | [a, b, c, d], _ =>
    have ha := a.toNat_lt; have hb := b.toNat_lt; have hc := c.toNat_lt; have hd := d.toNat_lt
    simp only [be, List.foldl, List.length, fx, dv]
    rw [u8_of a _ (by omega), u8_of b _ (by omega), u8_of c _ (by omega), u8_of d _ (by omega)]
  | _ :: _ :: _ :: _ :: _ :: _, h => simp at h
theorem nb_1 {n : Nat} (h : 1 ≤ n ∧ n < 256) : nbV n = 1 := by unfold nbV; rw [if_neg (by omega), if_pos (by omega)]
theorem nb_2 {n : Nat} (h : 256 ≤ n ∧ n < 65536) : nbV n = 2 := by unfold nbV; rw [if_neg (by omega), if_neg (by omega), if_pos (by omega)]
theorem nb_3 {n : Nat} (h : 65536 ≤ n ∧ n < 16777216) : nbV n = 3 := by unfold nbV; rw [if_neg (by omega), if_neg (by omega), if_neg (by omega), if_pos (by omega)]
theorem nb_4 {n : Nat} (h : 16777216 ≤ n) : nbV n = 4 := by unfold nbV; rw [if_neg (by omega), if_neg (by omega), if_neg (by omega), if_neg (by omega)]
theorem nb_four {l : List UInt8} (h : l.length ≤ 4) (h0 : ∀ c ∈ l.head?, 0 < c.toNat) : nbV (be l) = l.length := by
  match l, h with
  | [], _ => rfl
  | [a], _ =>
    have ha := a.toNat_lt
    have h1 := h0 a rfl
    exact nb_1 (by simp only [be, List.foldl]; omega)
  | [a, b], _ =>
    have ha := a.toNat_lt; have hb := b.toNat_lt
    have h1 := h0 a rfl
    exact nb_2 (by simp only [be, List.foldl]; omega)
  | [a, b, c], _ =>
    have ha := a.toNat_lt; have hb := b.toNat_lt; have hc := c.toNat_lt
    have h1 := h0 a rfl
    exact nb_3 (by simp only [be, List.foldl]; omega)
  | [a, b, c, d], _ =>
    have ha := a.toNat_lt; have hb := b.toNat_lt; have hc := c.toNat_lt; have hd := d.toNat_lt
    have h1 := h0 a rfl
    exact nb_4 (by simp only [be, List.foldl]; omega)
  | _ :: _ :: _ :: _ :: _ :: _, h => simp at h
theorem key_head {s : ByteArray} (h : keyOkV s = true) : ∀ c ∈ s.data.toList.head?, 0 < c.toNat := by
  intro c hc
  have hm : c ∈ s.data.toList := List.mem_of_mem_head? hc
  have := h
  unfold keyOkV at this
  rw [Bool.and_eq_true, List.all_eq_true] at this
  have := keyB_pos (this.2 c hm)
  omega
theorem unb_be {s : ByteArray} (h : keyOkV s = true) : unb (be s.data.toList) = s := by
  have h4 := (keyOkV_iff.1 h).1.2
  have hl : s.data.toList.length ≤ 4 := by simpa using h4
  unfold unb fxs
  rw [nb_four hl (key_head h), fx_four hl]
theorem be_some {s : ByteArray} (h : keyOkV s = true) : 1 ≤ be s.data.toList := by
  have h4 := (keyOkV_iff.1 h).1
  have hl : s.data.toList.length ≤ 4 := by simpa using h4.2
  have e := nb_four hl (key_head h)
  rcases Nat.eq_zero_or_pos (be s.data.toList) with h0 | h0
  · rw [h0] at e
    have : s.size = 0 := by have : s.data.toList.length = 0 := e.symm; simpa using this
    omega
  · exact h0
/-- A key is read from its number. -/
theorem unV_pack {s : ByteArray} (h : keyOkV s = true) : unV (packV s : Nat) = some s ∧ 1 ≤ packV s := by
  have e : packV s = be s.data.toList := if_pos h
  have hlt := packV_lt s
  have hp : 1 ≤ packV s := by rw [e]; exact be_some h
  refine ⟨?_, hp⟩
  unfold unV
  rw [if_pos (by omega), Int.toNat_natCast, e, unb_be h, if_pos h]
theorem be_fx4 {n : Nat} (h : n ≤ 4294967295) : be (fx n (nbV n)) = n := by
  unfold nbV
  (repeat' split) <;> simp only [fx, be, List.foldl, dv, UInt8.toNat_ofNat'] <;> omega
/-- A number that has a key is that key's number. -/
theorem pack_unV {n : Int} {s : ByteArray} (h : unV n = some s) : keyOkV s = true ∧ (packV s : Int) = n := by
  unfold unV at h
  split at h
  · split at h
    · rename_i h1 h2
      injection h with h
      subst h
      refine ⟨h2, ?_⟩
      have e : packV (unb n.toNat) = be (unb n.toNat).data.toList := if_pos h2
      rw [e]
      have : (unb n.toNat).data.toList = fx n.toNat (nbV n.toNat) := rfl
      rw [this, be_fx4 (by omega)]; omega
    · cases h
  · cases h
theorem packV_no {s : ByteArray} (h : keyOkV s = false) : packV s = 0 := by unfold packV; rw [h]; rfl
theorem unV_zero : unV 0 = none := if_neg (by decide)
/-- The first j slots on a key's way. -/
def probeL (s : ByteArray) (j : Nat) : List Int := (List.range j).map fun k : Nat => probeV s k
theorem probeL_len (s : ByteArray) (j : Nat) : (probeL s j).length = j := by simp [probeL]
theorem probeL_next (s : ByteArray) (j : Nat) : probeL s j ++ [probeV s (j : Nat)] = probeL s (j + 1) := by simp [probeL, List.range_succ]
theorem probeL_at (s : ByteArray) {j i : Nat} (h : i < j) : (probeL s j).getD i 0 = probeV s (i : Nat) := by
  rw [List.getD_eq_getElem?_getD, List.getElem?_eq_getElem (by rw [probeL_len]; exact h)]; simp [probeL]
theorem probeV_yes {s : ByteArray} (h : keyOkV s = true) {k : Nat} (hk : k < 4) : probeV s (k : Nat) = ((hashV s : Int) + k) % 4 := if_pos ⟨h, by omega, by omega⟩
theorem probeV_no {s : ByteArray} (h : keyOkV s = false) (n : Int) : probeV s n = -1 := if_neg fun x => by rw [h] at x; cases x.1
/-- A key's way meets no slot twice. -/
theorem probeL_new {s : ByteArray} (h : keyOkV s = true) {j : Nat} (hj : j < 4) : ∀ i, i < (probeL s j).length → (probeL s j).getD i 0 ≠ probeV s (j : Nat) := fun i hi => by
  rw [probeL_len] at hi
  rw [probeL_at s hi, probeV_yes h (by omega), probeV_yes h hj]
  omega
end Go.Proofs.YtlnkjpacjbhncaaGreatDoor.M
/-
  Chapter 7 in plain words: a row, when it is valid, when it tells of nothing; what a sample and a count make of it.
-/
namespace Go.Proofs.YtlnkjpacjbhncaaGreatDoor.M
open Go.RowKit
set_option linter.unusedVariables false
structure R where
  key : ByteArray
  kind : Int
  sum : Int
  set : Bool
  last : Int
  n : Int
  mn : Int
  mx : Int
  total : Int
  dropped : Int
/-- The row as a value. -/
def R.v (r : R) : Value := .agg #[.string r.key, .int .i64 r.kind, .int .i64 r.sum, .bool r.set, .int .i64 r.last, .int .i64 r.n, .int .i64 r.mn, .int .i64 r.mx, .int .i64 r.total, .int .i64 r.dropped]
/-- The cells of a row. -/
def rowCells (r : R) : Array Value := #[.string r.key, .int .i64 r.kind, .int .i64 r.sum, .bool r.set, .int .i64 r.last, .int .i64 r.n, .int .i64 r.mn, .int .i64 r.mx, .int .i64 r.total, .int .i64 r.dropped]
/-- The row of zeros. -/
def zeroR : R := ⟨⟨#[]⟩, 0, 0, false, 0, 0, 0, 0, 0, 0⟩
def inW (x : Int) : Prop := -9223372036854775808 ≤ x ∧ x ≤ 9223372036854775807
/-- Each field fits its type. -/
structure R.Fit (r : R) : Prop where
  key : r.key.size ≤ maxLen
  kind : inW r.kind
  sum : inW r.sum
  last : inW r.last
  n : inW r.n
  mn : inW r.mn
  mx : inW r.mx
  total : inW r.total
  dropped : inW r.dropped
def quietV (r : R) : Bool := r.sum == 0 && (!r.set && r.n == 0)
def timerV (r : R) : Bool :=
  if r.n = 0 then decide (r.mn = 0 ∧ r.mx = 0 ∧ r.total = 0 ∧ r.dropped = 0)
  else decide ((1 ≤ r.n ∧ r.n ≤ 3) ∧ (0 ≤ r.mn ∧ r.mn ≤ r.mx) ∧ r.mx ≤ 65535 ∧ (r.mn * r.n ≤ r.total ∧ r.total ≤ r.mx * r.n) ∧ (0 ≤ r.dropped ∧ r.dropped ≤ 65535) ∧ (r.dropped = 0 ∨ r.n = 3))
def countV (r : R) : Bool := decide ((0 ≤ r.sum ∧ r.sum ≤ 281474976710655) ∧ r.set = false ∧ r.last = 0 ∧ r.n = 0 ∧ r.mn = 0 ∧ r.mx = 0 ∧ r.total = 0 ∧ r.dropped = 0)
def gaugeRV (r : R) : Bool := decide ((0 ≤ r.last ∧ r.last ≤ 65535) ∧ (r.set = true ∨ r.last = 0) ∧ r.sum = 0 ∧ r.n = 0 ∧ r.mn = 0 ∧ r.mx = 0 ∧ r.total = 0 ∧ r.dropped = 0)
def rowOkV (r : R) : Bool := keyOkV r.key && (if r.kind = 1 then countV r else if r.kind = 2 then gaugeRV r else if r.kind = 3 then decide (r.sum = 0 ∧ r.set = false ∧ r.last = 0) && timerV r else false)
/-- A row with one sample more. -/
def sampledV (r : R) (v : Int) : R :=
  if rowOkV r = true ∧ r.kind = 3 ∧ (0 ≤ v ∧ v ≤ 65535) then
    (if r.n = 3 then { r with dropped := if r.dropped < 65535 then r.dropped + 1 else 65535 }
     else if r.n = 0 then { r with mn := v, mx := v, total := r.total + v, n := 1 }
     else { r with mn := if r.mn ≤ v then r.mn else v, mx := if v ≤ r.mx then r.mx else v, total := r.total + v, n := r.n + 1 })
  else r
/-- A row with v counted. -/
def countedV (r : R) (v : Int) : R := if rowOkV r = true ∧ r.kind = 1 ∧ (0 ≤ v ∧ v ≤ 65535) then { r with sum := (r.sum + v) % 281474976710656 } else r
theorem timer_facts {r : R} (h : rowOkV r = true) (hk : r.kind = 3) : r.sum = 0 ∧ r.set = false ∧ r.last = 0 ∧ (0 ≤ r.n ∧ r.n ≤ 3) ∧ (0 ≤ r.mn ∧ r.mn ≤ r.mx) ∧ r.mx ≤ 65535 ∧ (0 ≤ r.total ∧ r.total ≤ 196605) ∧ (0 ≤ r.dropped ∧ r.dropped ≤ 65535) := by
  unfold rowOkV at h
  rw [if_neg (by omega), if_neg (by omega), if_pos hk, Bool.and_eq_true, Bool.and_eq_true, decide_eq_true_eq] at h
  obtain ⟨_, ⟨h1, h2, h3⟩, ht⟩ := h
  unfold timerV at ht
  split at ht
  · rename_i h0
    simp only [decide_eq_true_eq] at ht
    exact ⟨h1, h2, h3, by omega⟩
  · simp only [decide_eq_true_eq] at ht
    obtain ⟨⟨a1, a2⟩, ⟨b1, b2⟩, c, ⟨d1, d2⟩, e, _⟩ := ht
    have hn : r.n = 1 ∨ r.n = 2 ∨ r.n = 3 := by omega
    refine ⟨h1, h2, h3, ⟨by omega, a2⟩, ⟨b1, b2⟩, c, ?_, e⟩
    rcases hn with h | h | h <;> rw [h] at d1 d2 <;> omega
theorem count_facts {r : R} (h : rowOkV r = true) (hk : r.kind = 1) : 0 ≤ r.sum ∧ r.sum ≤ 281474976710655 := by
  unfold rowOkV at h
  rw [if_pos hk, Bool.and_eq_true] at h
  have := h.2
  unfold countV at this
  simp only [decide_eq_true_eq] at this
  exact this.1
end Go.Proofs.YtlnkjpacjbhncaaGreatDoor.M
/-
  The record KRow in plain words, and its cells.
-/
namespace Go.Proofs.YtlnkjpacjbhncaaGreatDoor.M
open Go.RowKit
set_option linter.unusedVariables false
structure KR where
  key : ByteArray
  kind : Int
/-- The record as a value. -/
def KR.v (r : KR) : Value := .agg #[.string r.key, .int .i64 r.kind]
/-- Its cells. -/
def krCells (r : KR) : Array Value := #[.string r.key, .int .i64 r.kind]
def zeroKR : KR := ⟨⟨#[]⟩, 0⟩
/-- Each field fits its type. -/
structure KR.Fit (r : KR) : Prop where
  key : r.key.size ≤ maxLen
  kind : inW r.kind
end Go.Proofs.YtlnkjpacjbhncaaGreatDoor.M
namespace Go.Proofs.YtlnkjpacjbhncaaGreatDoor
open Go.RowKit M
set_option linter.unusedVariables false
theorem sizeKRow (r : KR) : (krCells r).size = 2 := rfl
theorem atKRow {w : World} {b o : Nat} {r : KR} (h : RecAt 2 krCells w b o r) : w.cell? ⟨b, o, none⟩ = some (.string r.key) ∧ w.cell? ⟨b, o + 1, none⟩ = some (.int .i64 r.kind) :=
  ⟨h 0 (by decide), h 1 (by decide)⟩
theorem info_KRow : (Tryz.prog.info? 39).map (fun i => (i.zero, i.size, i.bytes)) = some (some zeroKR.v, 2, 24) := by kernel_rfl
instance : Inhabited KR := ⟨zeroKR⟩
end Go.Proofs.YtlnkjpacjbhncaaGreatDoor
/-
  Chapter 5 in plain words: the words of the kinds and of the codes; a key with its kind in one number; a gauge's stamp and value in one number.
-/
namespace Go.Proofs.YtlnkjpacjbhncaaGreatDoor.M
open Go.RowKit
set_option linter.unusedVariables false
def kindW (k : Int) : ByteArray := if k = 1 then ⟨#[99]⟩ else if k = 2 then ⟨#[103]⟩ else if k = 3 then ⟨#[109, 115]⟩ else ⟨#[]⟩
def kindOfV (s : ByteArray) : Int := if ⟨#[99]⟩ = s then 1 else if ⟨#[103]⟩ = s then 2 else if ⟨#[109, 115]⟩ = s then 3 else 0
def codeW (k : Int) : ByteArray := if k = 0 then ⟨#[111, 107]⟩ else if k = 1 then ⟨#[97, 114, 103, 115]⟩ else if k = 2 then ⟨#[110, 111, 110, 101]⟩ else if k = 3 then ⟨#[102, 117, 108, 108]⟩ else if k = 4 then ⟨#[99, 108, 97, 115, 104]⟩ else if k = 5 then ⟨#[100, 114, 111, 112, 112, 101, 100]⟩ else ⟨#[]⟩
theorem kindW_no {k : Int} (h : ¬ (1 ≤ k ∧ k ≤ 3)) : kindW k = ⟨#[]⟩ := by unfold kindW; rw [if_neg (by omega), if_neg (by omega), if_neg (by omega)]
theorem codeW_no {k : Int} (h : ¬ (0 ≤ k ∧ k ≤ 5)) : codeW k = ⟨#[]⟩ := by unfold codeW; rw [if_neg (by omega), if_neg (by omega), if_neg (by omega), if_neg (by omega), if_neg (by omega), if_neg (by omega)]
theorem kindW_some {k : Int} (h : 1 ≤ k ∧ k ≤ 3) : kindW k ≠ ⟨#[]⟩ := by
  have : k = 1 ∨ k = 2 ∨ k = 3 := by omega
  rcases this with rfl | rfl | rfl <;> decide
theorem kindW_size (k : Int) : (kindW k).size ≤ 2 := by
  unfold kindW; (repeat' split) <;> decide
theorem kindOf_word {k : Int} (h : 1 ≤ k ∧ k ≤ 3) : kindOfV (kindW k) = k := by
  have : k = 1 ∨ k = 2 ∨ k = 3 := by omega
  rcases this with rfl | rfl | rfl <;> decide
theorem kindOf_no {s : ByteArray} (h1 : kindW 1 ≠ s) (h2 : kindW 2 ≠ s) (h3 : kindW 3 ≠ s) : kindOfV s = 0 := by
  have e1 : kindW 1 = ⟨#[99]⟩ := by decide
  have e2 : kindW 2 = ⟨#[103]⟩ := by decide
  have e3 : kindW 3 = ⟨#[109, 115]⟩ := by decide
  rw [e1] at h1; rw [e2] at h2; rw [e3] at h3
  unfold kindOfV; rw [if_neg h1, if_neg h2, if_neg h3]
/-- A key and its kind in one number. -/
def tagV (s : ByteArray) (k : Int) : Int := if keyOkV s = true ∧ (1 ≤ k ∧ k ≤ 3) then (packV s : Int) * 4 + k else 0
/-- The key and the kind of a number. -/
def untagV (n : Int) : Option (ByteArray × Int) := if 1 ≤ n ∧ n ≤ 17179869183 then (match unV (n / 4) with | some s => if 1 ≤ n % 4 then some (s, n % 4) else none | none => none) else none
def untT : Option (ByteArray × Int) → Value
  | some x => .tuple #[.string x.1, .int .i64 x.2]
  | none => .tuple #[.string ⟨#[]⟩, .int .i64 0]
theorem untT_some (s : ByteArray) (k : Int) : untT (some (s, k)) = .tuple #[.string s, .int .i64 k] := rfl
theorem untT_none : untT none = .tuple #[.string ⟨#[]⟩, .int .i64 0] := rfl
theorem tagV_yes {s : ByteArray} {k : Int} (h : keyOkV s = true) (hk : 1 ≤ k ∧ k ≤ 3) : tagV s k = (packV s : Int) * 4 + k := if_pos ⟨h, hk⟩
theorem tagV_no {s : ByteArray} {k : Int} (h : ¬ (keyOkV s = true ∧ (1 ≤ k ∧ k ≤ 3))) : tagV s k = 0 := if_neg h
theorem tagV_bd (s : ByteArray) (k : Int) : 0 ≤ tagV s k ∧ tagV s k ≤ 17179869183 := by
  have := packV_lt s
  unfold tagV; split <;> omega
/-- A key and its kind are read from their number. -/
theorem untag_tag {s : ByteArray} {k : Int} (h : keyOkV s = true) (hk : 1 ≤ k ∧ k ≤ 3) : untagV (tagV s k) = some (s, k) := by
  have hp := packV_lt s
  obtain ⟨hu, h1⟩ := unV_pack h
  rw [tagV_yes h hk]
  unfold untagV
  have e4 : ((packV s : Int) * 4 + k) / 4 = (packV s : Nat) := by omega
  have m4 : ((packV s : Int) * 4 + k) % 4 = k := by omega
  rw [if_pos (by omega), e4, m4, hu]
  simp only
  rw [if_pos hk.1]
theorem untag_zero : untagV 0 = none := if_neg (by omega)
/-- A number that has a key and a kind is their number. -/
theorem tag_untag {n : Int} {s : ByteArray} {k : Int} (h : untagV n = some (s, k)) : tagV s k = n ∧ keyOkV s = true ∧ 1 ≤ k ∧ k ≤ 3 := by
  unfold untagV at h
  split at h
  · split at h
    · rename_i h1 _ s' hu
      split at h
      · injection h with h
        injection h with h2 h3
        subst h2; subst h3
        obtain ⟨a, b⟩ := pack_unV hu
        refine ⟨?_, a, by omega, by omega⟩
        rw [tagV_yes a (by omega), b]; omega
      · cases h
    · cases h
  · cases h
/-- A gauge's stamp and value in one number, and back. -/
def gaugeV (a v : Int) : Int := if (1 ≤ a ∧ a ≤ 65535) ∧ (0 ≤ v ∧ v ≤ 65535) then a * 65536 + v else 0
def ungA (n : Int) : Int := if 65536 ≤ n ∧ n ≤ 4294967295 then n / 65536 else 0
def ungV (n : Int) : Int := if 65536 ≤ n ∧ n ≤ 4294967295 then n % 65536 else 0
theorem gaugeV_yes {a v : Int} (h : (1 ≤ a ∧ a ≤ 65535) ∧ (0 ≤ v ∧ v ≤ 65535)) : gaugeV a v = a * 65536 + v := if_pos h
theorem gaugeV_no {a v : Int} (h : ¬ ((1 ≤ a ∧ a ≤ 65535) ∧ (0 ≤ v ∧ v ≤ 65535))) : gaugeV a v = 0 := if_neg h
theorem ung_gauge {a v : Int} (h : (1 ≤ a ∧ a ≤ 65535) ∧ (0 ≤ v ∧ v ≤ 65535)) : ungA (gaugeV a v) = a ∧ ungV (gaugeV a v) = v := by
  rw [gaugeV_yes h]; unfold ungA ungV; rw [if_pos (by omega), if_pos (by omega)]; omega
end Go.Proofs.YtlnkjpacjbhncaaGreatDoor.M
/-
  Chapter 3 in plain words: the numbers of the cells.
-/
namespace Go.Proofs.YtlnkjpacjbhncaaGreatDoor.M
/-- Buffer b's count of threads inside. -/
def inV (b : Int) : Int := if 0 ≤ b ∧ b ≤ 1 then 1 + b else -1
/-- The key cell of a slot. -/
def keyV (s : Int) : Int := if 0 ≤ s ∧ s ≤ 3 then 3 + s else -1
/-- Cell k of a slot of a buffer. -/
def cellV (b s k : Int) : Int := if (0 ≤ b ∧ b ≤ 1) ∧ (0 ≤ s ∧ s ≤ 3) then 7 + b * 32 + s * 8 + k else -1
/-- Cell k of n, behind the first 'at' of a slot of a buffer. -/
def partV (b s n at_ k : Int) : Int := if 0 ≤ k ∧ k < n then cellV b s (at_ + k) else -1
theorem inV_yes {b : Int} (h : 0 ≤ b ∧ b ≤ 1) : inV b = 1 + b := if_pos h
theorem inV_no {b : Int} (h : ¬ (0 ≤ b ∧ b ≤ 1)) : inV b = -1 := if_neg h
theorem keyV_yes {s : Int} (h : 0 ≤ s ∧ s ≤ 3) : keyV s = 3 + s := if_pos h
theorem keyV_no {s : Int} (h : ¬ (0 ≤ s ∧ s ≤ 3)) : keyV s = -1 := if_neg h
theorem cellV_yes {b s k : Int} (h : 0 ≤ b ∧ b ≤ 1) (h' : 0 ≤ s ∧ s ≤ 3) : cellV b s k = 7 + b * 32 + s * 8 + k := if_pos ⟨h, h'⟩
theorem cellV_noB {b s k : Int} (h : ¬ (0 ≤ b ∧ b ≤ 1)) : cellV b s k = -1 := if_neg fun x => h x.1
theorem cellV_noS {b s k : Int} (h : ¬ (0 ≤ s ∧ s ≤ 3)) : cellV b s k = -1 := if_neg fun x => h x.2
theorem partV_yes {b s n at_ k : Int} (h : 0 ≤ k ∧ k < n) : partV b s n at_ k = cellV b s (at_ + k) := if_pos h
theorem partV_no {b s n at_ k : Int} (h : ¬ (0 ≤ k ∧ k < n)) : partV b s n at_ k = -1 := if_neg h
end Go.Proofs.YtlnkjpacjbhncaaGreatDoor.M
/-
  Contracts of the law's own helpers on rows of ints: the copy, the comparison, the marking, the check of the marks.
-/
namespace Go.Proofs.YtlnkjpacjbhncaaGreatDoor
open Go.RowKit M
set_option linter.unusedVariables false
theorem grownI_trans {a b c : World} {g : Nat} (h : a.grownBy b (some g)) (k : b.grownBy c (some g)) : a.grownBy c (some g) :=
  ⟨k.os.trans h.os, k.tape.trans h.tape, k.output.trans h.output, Nat.le_trans h.size k.size, fun i hi hne => (k.block i (Nat.lt_of_lt_of_le hi h.size) hne).trans (h.block i hi hne)⟩
theorem ret_val {a b : Value} (h : a = b) : Ending.returned a = .returned b := by rw [h]
theorem below_made {w w1 : World} (hg : w.grownBy w1 none) : Below w.heap.size w w1 := (Below.refl _ _).grown hg (Nat.le_refl _) (by intro _ h; cases h)
set_option maxRecDepth 100000 in
theorem toIntS_any (w : World) (v : Value) (zs : List Int) (h : IntsArg w v zs) (hl : zs.length ≤ 1048576) :
    Calls Tryz.prog 5 #[v] w (MadeI w zs) := by
  obtain ⟨i0, hi, hz0, hz1, hz2⟩ := info_parts info_int
  obtain ⟨A, cap, rfl, h1, h2, h3⟩ := h
  generalize hn : zs.length = n at *
  have HN := Lib.hid hn
  have HC := Lib.hid h3
  clear hn h3
  unfold maxLen at h2
  go_enter Tryz.func5, Tryz.ntmps5
  go_wp2_with (refine wpList_make_full _ rfl _ _ 22 rfl w.heap.size 3 i0 (.int .i64 0) 1 Tryz.underlying22 hi hz0 hz1 .i64 .i64 _ _ n rfl rfl rfl rfl ?c1 ?c2 ?c3 ?_; rotate_left 3; intro w1 hown hg; have HO := Lib.hid hown; have HG := Lib.hid hg; clear hown hg)
  case c1 => rw [hz2]; omega
  case c2 => unfold maxLen; omega
  case c3 => exact Nat.le_refl _
  clear hi hz0 hz1 hz2
  go_loopw [4] (fun i wr => ∃ j : Nat, j ≤ n ∧ i = .int .i64 j ∧ OwnI wr w.heap.size (.slice (some ⟨w.heap.size, 0, none⟩) n n) (partI zs j) ∧ Below w.heap.size w wr) (fun i _ => n - (intOf i).toNat)
  case atStart =>
    refine ⟨0, Nat.zero_le _, rfl, ?_, below_made HG.out⟩
    have := OwnI.made HO.out
    rw [← HN.out] at this ⊢
    simpa [partI] using this
  case round =>
    obtain ⟨j, hj, rfl, ho, hbl⟩ := hrel
    by_cases hlt : j < n
    · obtain ⟨b, off, hA, h3, hC⟩ := HC.out (by omega)
      have hcell := (hbl.cell (p := ⟨b, off + j, none⟩) h3).trans (hC j hlt)
      subst hA
      have hf := ho.frz j
      obtain ⟨z, hz⟩ : ∃ z, wr.cell? ⟨w.heap.size, j, none⟩ = some z := ⟨_, ho.cell j hlt⟩
      have HO2 := Lib.hid ho
      have HB := Lib.hid hbl
      clear ho hbl hC
      go_wp2
      go_roundw
      case rel =>
        have hst := HO2.out.set j (zs.getD j 0)
        rw [partI_set zs j (by rw [HN.out]; exact hlt)] at hst
        exact ⟨j + 1, by omega, by go_num, hst.1, HB.out.grown hst.2 HB.out.size (by intro _ h; cases h; exact Nat.le_refl _)⟩
      case measure => simp [intOf]; omega
    · obtain rfl : j = n := by omega
      have HO2 := Lib.hid ho
      have HB := Lib.hid hbl
      clear ho hbl
      go_wp2
      go_ret
      have := HO2.out
      rw [← HN.out, partI_all, HN.out] at this
      exact ⟨_, rfl, this, HB.out⟩
def Quiet (w : World) (v : Value) (e : Ending) (w' : World) : Prop := e = .returned v ∧ ∃ q, w' = w.drewN q
theorem Quiet.below {w w' : World} {v : Value} {e : Ending} (h : Quiet w v e w') : e = .returned v ∧ Below w.heap.size w w' := by
  obtain ⟨rfl, q, rfl⟩ := h
  exact ⟨rfl, ⟨rfl, rfl, rfl, Nat.le_refl _, fun _ _ => rfl⟩⟩
theorem getD_eq_of_eq {xs ys : List Int} (h : xs = ys) (j : Nat) : xs.getD j 0 = ys.getD j 0 := by rw [h]
theorem eqIntS_same (w : World) (v u : Value) (zs : List Int) (h : Ints w v zs) (k : Ints w u zs) :
    Calls Tryz.prog 8 #[v, u] w (Quiet w (.bool true)) := by
  obtain ⟨b, off, cap, rfl, h1, h2, h3, h4⟩ := h
  obtain ⟨b', off', cap', rfl, k1, k2, k3, k4⟩ := k
  generalize hn : zs.length = n at *
  clear hn
  unfold maxLen at h2 k2
  have H4 := Lib.hid h4
  have K4 := Lib.hid k4
  clear h4 k4
  go_enter Tryz.func8, Tryz.ntmps8
  go_wp2
  go_loopw [5] (fun i wr => ∃ j q : Nat, j ≤ n ∧ i = .int .i64 j ∧ wr = w.drewN q) (fun i _ => n - (intOf i).toNat)
  case atStart => exact ⟨0, 0, Nat.zero_le _, rfl, rfl⟩
  case round =>
    obtain ⟨j, q, hj, rfl, rfl⟩ := hrel
    by_cases hlt : j < n
    · have g1 := H4.out j hlt
      have g2 := K4.out j hlt
      generalize zs.getD j 0 = z at *
      go_wp2_with fail
      go_quiet (fail)
      go_wp2
      go_roundw
      case rel => exact ⟨j + 1, q + _, by omega, by go_num, rfl⟩
      case measure => simp [intOf]; omega
    · go_wp2
      go_ret
      exact ⟨rfl, q, rfl⟩
/-- Marks from k on. -/
def marks (k : Int) (n : Nat) : List Int := (List.range n).map fun (j : Nat) => k + (j : Int)
theorem marks_length (k : Int) (n : Nat) : (marks k n).length = n := by simp [marks]
theorem marks_getD (k : Int) (n j : Nat) (h : j < n) : (marks k n).getD j 0 = k + j := by simp [marks, List.getD_eq_getElem?_getD, h]
def mpart (zs : List Int) (k : Int) (j : Nat) : List Int := marks k j ++ zs.drop j
theorem mpart_length (zs : List Int) (k : Int) (j : Nat) (h : j ≤ zs.length) : (mpart zs k j).length = zs.length := by
  simp only [mpart, List.length_append, marks_length, List.length_drop]; omega
theorem mpart_zero (zs : List Int) (k : Int) : mpart zs k 0 = zs := by simp [mpart, marks]
theorem mpart_all (zs : List Int) (k : Int) : mpart zs k zs.length = marks k zs.length := by simp [mpart]
theorem mpart_set (zs : List Int) (k : Int) (j : Nat) (h : j < zs.length) : (mpart zs k j).set j (k + j) = mpart zs k (j + 1) := by
  unfold mpart
  rw [List.set_append_right _ _ (by rw [marks_length]; exact Nat.le_refl _), marks_length, Nat.sub_self, List.drop_eq_getElem_cons h]
  have : marks k (j + 1) = marks k j ++ [k + (j : Int)] := by simp [marks, List.range_succ]
  rw [this, List.set_cons_zero, List.append_assoc]; rfl
def Marked (w : World) (base : Nat) (v : Value) (k : Int) (n : Nat) (e : Ending) (w' : World) : Prop := e = .returned (.int .i64 (k + n)) ∧ OwnI w' base v (marks k n) ∧ w.grownBy w' v.ownBlock
set_option maxRecDepth 100000 in
theorem markIntS_any (w : World) (base : Nat) (v : Value) (zs : List Int) (k : Int) (h : OwnI w base v zs) (hl : zs.length ≤ 1048576) (hk0 : 0 ≤ k) (hk1 : k ≤ 1000000000000) :
    Calls Tryz.prog 9 #[v, .int .i64 k] w (Marked w base v k zs.length) := by
  obtain ⟨g, cap, rfl⟩ := h.2
  generalize hn : zs.length = n at *
  have HN := Lib.hid hn
  have HO := Lib.hid h
  have hcap : n ≤ 9223372036854775807 := by omega
  clear hn h
  go_enter Tryz.func9, Tryz.ntmps9
  go_wp2
  go_loopw [1, 5] (fun c i wr => ∃ j : Nat, j ≤ n ∧ i = .int .i64 j ∧ c = .int .i64 (k + j) ∧ OwnI wr base (.slice (some ⟨g, 0, none⟩) n cap) (mpart zs k j) ∧ w.grownBy wr (some g)) (fun _ i _ => n - (intOf i).toNat)
  case atStart =>
    refine ⟨0, Nat.zero_le _, rfl, by simp, ?_, World.grownBy.refl _ _⟩
    rw [mpart_zero]; exact HO.out
  case round =>
    obtain ⟨j, hj, rfl, rfl, ho, hg⟩ := hrel
    by_cases hlt : j < n
    · have hf := ho.frz j
      obtain ⟨z, hz⟩ : ∃ z, wr.cell? ⟨g, j, none⟩ = some z := ⟨_, ho.cell j hlt⟩
      have HO2 := Lib.hid ho
      have HG := Lib.hid hg
      clear ho hg
      go_wp2
      go_roundw
      case rel =>
        have hst := HO2.out.set j (k + j)
        rw [mpart_set zs k j (by rw [HN.out]; exact hlt)] at hst
        exact ⟨j + 1, by omega, by go_num, by go_num, hst.1, grownI_trans HG.out hst.2⟩
      case measure => simp [intOf]; omega
    · obtain rfl : j = n := by omega
      have HO2 := Lib.hid ho
      have HG := Lib.hid hg
      clear ho hg
      go_wp2
      go_ret
      have := HO2.out
      rw [← HN.out, mpart_all, HN.out] at this
      exact ⟨rfl, this, HG.out⟩
/-- What the statement's opening of an argument gives, as a row of ints. -/
theorem IntsArg.of_cells {w : World} {x : Addr} {l c : Nat} {zs : List Int} (hl : l ≤ c) (hm : c ≤ maxLen) (hz : zs.length = c) (hc : ∀ i, i < zs.length → w.cell? (x.add i) = some (.int .i64 (zs.getD i 0))) :
    IntsArg w (.slice (some x) l c) (zs.take l) := by
  have e : (zs.take l).length = l := by rw [List.length_take]; omega
  refine ⟨some x, c, by rw [e], by rw [e]; exact hl, hm, fun hp => ?_⟩
  rw [e] at hp ⊢
  obtain ⟨b, off, spot⟩ := x
  have h0 := hc 0 (by omega)
  have hspot : spot = none := by simpa [Addr.add] using World.cell?_spot h0
  subst hspot
  have hlt : b < w.heap.size := by
    rcases Nat.lt_or_ge b w.heap.size with h1 | h1
    · exact h1
    · have e : w.heap[b]? = none := Array.getElem?_eq_none h1
      simp [Addr.add, World.cell?, e] at h0
  refine ⟨b, off, rfl, hlt, fun j hj => ?_⟩
  have hcj := hc j (by omega)
  have ea : (⟨b, off, none⟩ : Addr).add j = ⟨b, off + j, none⟩ := by unfold Addr.add; split <;> simp_all
  rw [ea] at hcj
  rw [hcj]
  simp [List.getD_eq_getElem?_getD, hj]
theorem Fit.of_wf {zs : List Int} {l : Nat} (h : ∀ n ∈ zs, (Lit.int .i64 n).wf = true) : Fit (zs.take l) := fun z hz => Go.bounds_i64 (h z (List.mem_of_mem_take hz))
end Go.Proofs.YtlnkjpacjbhncaaGreatDoor
/-
  Chapter 2 in plain words: when a row of cells is valid, when a cell can be looked at; what each operation makes of the row.
-/
namespace Go.Proofs.YtlnkjpacjbhncaaGreatDoor
open Go.RowKit M
set_option linter.unusedVariables false
/-- A number that a cell can hold. -/
def isW (z : Int) : Bool := decide (0 ≤ z) && decide (z ≤ 281474976710655)
theorem isW_iff {z : Int} : isW z = true ↔ 0 ≤ z ∧ z ≤ 281474976710655 := by simp [isW]
theorem isW_no {z : Int} : isW z = false ↔ z < 0 ∨ 281474976710655 < z := by
  rw [← Bool.not_eq_true, isW_iff]; omega
/-- The cells are valid. -/
def okC (zs : List Int) : Bool := decide (zs.length = 71) && zs.all isW
/-- Cell i can be looked at. -/
def atC (zs : List Int) (i : Int) : Bool := okC zs && (decide (0 ≤ i) && decide (i ≤ 70))
theorem okC_len {zs : List Int} (h : okC zs = true) : zs.length = 71 := by simp [okC] at h; exact h.1
theorem okC_at {zs : List Int} (h : okC zs = true) (j : Nat) (hj : j < 71) : 0 ≤ zs.getD j 0 ∧ zs.getD j 0 ≤ 281474976710655 := by
  have hl := okC_len h
  simp only [okC, Bool.and_eq_true, List.all_eq_true] at h
  have := h.2 (zs.getD j 0) (by rw [List.getD_eq_getElem?_getD, List.getElem?_eq_getElem (by omega)]; exact List.getElem_mem (by omega))
  exact isW_iff.1 this
theorem atC_iff {zs : List Int} {i : Int} : atC zs i = true ↔ okC zs = true ∧ 0 ≤ i ∧ i ≤ 70 := by simp [atC]
theorem atC_no {zs : List Int} {i : Int} : atC zs i = false ↔ okC zs = false ∨ i < 0 ∨ 70 < i := by
  rw [← Bool.not_eq_true, atC_iff, ← Bool.not_eq_true]
  by_cases h : okC zs = true
  · simp only [h, true_and, not_true_eq_false, false_or]; omega
  · simp [h]
theorem okC_set {zs : List Int} (h : okC zs = true) (j : Nat) (n : Int) (hn : isW n = true) : okC (zs.set j n) = true := by
  simp only [okC, Bool.and_eq_true, decide_eq_true_eq, List.all_eq_true, List.length_set] at h ⊢
  refine ⟨h.1, fun x hx => ?_⟩
  rcases List.mem_or_eq_of_mem_set hx with h' | rfl
  · exact h.2 x h'
  · exact hn
theorem all_getD {zs : List Int} {p : Int → Bool} (h : ∀ j, j < zs.length → p (zs.getD j 0) = true) : zs.all p = true := by
  rw [List.all_eq_true]
  intro x hx
  obtain ⟨j, hj, rfl⟩ := List.getElem_of_mem hx
  have := h j hj
  rw [List.getD_eq_getElem?_getD, List.getElem?_eq_getElem hj] at this
  exact this
theorem all_no {zs : List Int} {p : Int → Bool} {j : Nat} (hj : j < zs.length) (h : p (zs.getD j 0) = false) : zs.all p = false := by
  rw [← Bool.not_eq_true, List.all_eq_true]
  intro k
  have := k (zs.getD j 0) (by rw [List.getD_eq_getElem?_getD, List.getElem?_eq_getElem hj]; exact List.getElem_mem hj)
  rw [h] at this; cases this
end Go.Proofs.YtlnkjpacjbhncaaGreatDoor
/-
  Chapter 6 in plain words: where a key's way ends; what registering makes of the cells; the keys of a table; when a table is right.
-/
namespace Go.Proofs.YtlnkjpacjbhncaaGreatDoor
open Go.RowKit M
set_option linter.unusedVariables false
/-- What a slot's key cell holds. -/
def cellK (zs : List Int) (s : Int) : Int := zs.getD (3 + s).toNat 0
/-- Does a key's way end at its n-th slot: the slot, the kind, the free slot. -/
def stepF (zs : List Int) (key : ByteArray) (n : Int) : Option (Int × Int × Int) :=
  if cellK zs (probeV key n) = 0 then some (-1, 0, probeV key n)
  else match untagV (cellK zs (probeV key n)) with
    | some (k, kd) => if k = key then some (probeV key n, kd, -1) else none
    | none => none
/-- Where a key's way ends. -/
def findV (zs : List Int) (key : ByteArray) : Int × Int × Int :=
  (((stepF zs key 0).orElse fun _ => (stepF zs key 1).orElse fun _ => (stepF zs key 2).orElse fun _ => stepF zs key 3).getD (-1, 0, -1))
theorem findV_at {zs : List Int} {key : ByteArray} {n : Nat} (hn : n < 4) (h : ∀ m : Nat, m < n → stepF zs key m = none) {r : Int × Int × Int} (hr : stepF zs key n = some r) : findV zs key = r := by
  unfold findV
  have hn' : n = 0 ∨ n = 1 ∨ n = 2 ∨ n = 3 := by omega
  rcases hn' with rfl | rfl | rfl | rfl
  · have hr' : stepF zs key 0 = some r := hr
    rw [hr']; rfl
  · have h0 : stepF zs key 0 = none := h 0 (by omega)
    have hr' : stepF zs key 1 = some r := hr
    rw [h0, hr']; rfl
  · have h0 : stepF zs key 0 = none := h 0 (by omega)
    have h1 : stepF zs key 1 = none := h 1 (by omega)
    have hr' : stepF zs key 2 = some r := hr
    rw [h0, h1, hr']; rfl
  · have h0 : stepF zs key 0 = none := h 0 (by omega)
    have h1 : stepF zs key 1 = none := h 1 (by omega)
    have h2 : stepF zs key 2 = none := h 2 (by omega)
    have hr' : stepF zs key 3 = some r := hr
    rw [h0, h1, h2, hr']; rfl
theorem findV_none {zs : List Int} {key : ByteArray} (h : ∀ m : Nat, m < 4 → stepF zs key m = none) : findV zs key = (-1, 0, -1) := by
  unfold findV
  have h0 : stepF zs key 0 = none := h 0 (by omega)
  have h1 : stepF zs key 1 = none := h 1 (by omega)
  have h2 : stepF zs key 2 = none := h 2 (by omega)
  have h3 : stepF zs key 3 = none := h 3 (by omega)
  rw [h0, h1, h2, h3]; rfl
theorem none_next {zs : List Int} {key : ByteArray} {n : Nat} (h : ∀ m : Nat, m < n → stepF zs key m = none) (hn : stepF zs key n = none) : ∀ m : Nat, m < n + 1 → stepF zs key m = none := fun m hm => by
  by_cases e : m = n
  · subst e; exact hn
  · exact h m (by omega)
theorem probe_bd {key : ByteArray} (hk : keyOkV key = true) {n : Nat} (hn : n < 4) : 0 ≤ probeV key n ∧ probeV key n ≤ 3 := by
  rw [probeV_yes hk hn]; omega
theorem stepF_bd {zs : List Int} {key : ByteArray} (hk : keyOkV key = true) {n : Nat} (hn : n < 4) {r : Int × Int × Int} (h : stepF zs key n = some r) : (-1 ≤ r.1 ∧ r.1 ≤ 3) ∧ (0 ≤ r.2.1 ∧ r.2.1 ≤ 3) ∧ (-1 ≤ r.2.2 ∧ r.2.2 ≤ 3) ∧ (r.1 = -1 ∨ r.2.2 = -1) := by
  have hp := probe_bd hk hn
  unfold stepF at h
  split at h
  · injection h with h; subst h
    exact ⟨⟨show (-1 : Int) ≤ -1 by decide, show (-1 : Int) ≤ 3 by decide⟩, ⟨show (0 : Int) ≤ 0 by decide, show (0 : Int) ≤ 3 by decide⟩, ⟨show (-1 : Int) ≤ probeV key n by omega, hp.2⟩, Or.inl rfl⟩
  · split at h
    · split at h
      · rename_i k kd hu _
        injection h with h; subst h
        have := tag_untag hu
        exact ⟨⟨by show (-1 : Int) ≤ probeV key n; omega, hp.2⟩, ⟨by show (0 : Int) ≤ kd; omega, by show kd ≤ 3; omega⟩, ⟨show (-1 : Int) ≤ -1 by decide, show (-1 : Int) ≤ 3 by decide⟩, Or.inr rfl⟩
      · cases h
    · cases h
theorem findV_bd {zs : List Int} {key : ByteArray} (hk : keyOkV key = true) : (-1 ≤ (findV zs key).1 ∧ (findV zs key).1 ≤ 3) ∧ (0 ≤ (findV zs key).2.1 ∧ (findV zs key).2.1 ≤ 3) ∧ (-1 ≤ (findV zs key).2.2 ∧ (findV zs key).2.2 ≤ 3) ∧ ((findV zs key).1 = -1 ∨ (findV zs key).2.2 = -1) := by
  cases h0 : stepF zs key (0 : Nat) with
  | some r => rw [findV_at (n := 0) (by omega) (fun m hm => by omega) h0]; exact stepF_bd hk (by omega) h0
  | none =>
    have n1 := none_next (n := 0) (fun m hm => absurd hm (Nat.not_lt_zero _)) h0
    cases h1 : stepF zs key (1 : Nat) with
    | some r => rw [findV_at (n := 1) (by omega) n1 h1]; exact stepF_bd hk (by omega) h1
    | none =>
      have n2 := none_next n1 h1
      cases h2 : stepF zs key (2 : Nat) with
      | some r => rw [findV_at (n := 2) (by omega) n2 h2]; exact stepF_bd hk (by omega) h2
      | none =>
        have n3 := none_next n2 h2
        cases h3 : stepF zs key (3 : Nat) with
        | some r => rw [findV_at (n := 3) (by omega) n3 h3]; exact stepF_bd hk (by omega) h3
        | none => rw [findV_none (none_next n3 h3)]; decide
/-- FindKey's answers. -/
def fkS (zs : List Int) (key : ByteArray) : Int := if okC zs = true ∧ keyOkV key = true then (findV zs key).1 else -1
def fkK (zs : List Int) (key : ByteArray) : Int := if okC zs = true ∧ keyOkV key = true then (findV zs key).2.1 else 0
/-- Register's answers. -/
def regOk (zs : List Int) (key : ByteArray) (k : Int) : Bool := okC zs && (keyOkV key && (decide (1 ≤ k) && decide (k ≤ 3)))
def regC (zs : List Int) (key : ByteArray) (k : Int) : List Int := if regOk zs key k = true ∧ (findV zs key).1 < 0 ∧ 0 ≤ (findV zs key).2.2 then zs.set (3 + (findV zs key).2.2).toNat (tagV key k) else zs
def regS (zs : List Int) (key : ByteArray) (k : Int) : Int := if regOk zs key k = true then (if 0 ≤ (findV zs key).1 then (findV zs key).1 else (findV zs key).2.2) else -1
def regD (zs : List Int) (key : ByteArray) (k : Int) : Int :=
  if regOk zs key k = true then (if 0 ≤ (findV zs key).1 then (if (findV zs key).2.1 = k then 0 else 4) else (if (findV zs key).2.2 < 0 then 3 else 0)) else 1
theorem regC_length (zs : List Int) (key : ByteArray) (k : Int) : (regC zs key k).length = zs.length := by unfold regC; split <;> simp
/-- The keys of the first j slots. -/
def keysT (zs : List Int) (j : Nat) : List ByteArray := (List.range j).flatMap fun s : Nat => match untagV (cellK zs s) with | some x => [x.1] | none => []
theorem keysT_zero (zs : List Int) : keysT zs 0 = [] := rfl
theorem keysT_some {zs : List Int} {j : Nat} {x : ByteArray × Int} (h : untagV (cellK zs (j : Nat)) = some x) : keysT zs (j + 1) = keysT zs j ++ [x.1] := by
  unfold keysT; rw [List.range_succ, List.flatMap_append, List.flatMap_cons, List.flatMap_nil, List.append_nil, h]
theorem keysT_none {zs : List Int} {j : Nat} (h : untagV (cellK zs (j : Nat)) = none) : keysT zs (j + 1) = keysT zs j := by
  unfold keysT; rw [List.range_succ, List.flatMap_append, List.flatMap_cons, List.flatMap_nil, List.append_nil, h, List.append_nil]
theorem keysT_len (zs : List Int) (j : Nat) : (keysT zs j).length ≤ j := by
  induction j with
  | zero => exact Nat.le_refl _
  | succ j ih =>
    cases h : untagV (cellK zs (j : Nat)) with
    | none => rw [keysT_none h]; omega
    | some x => rw [keysT_some h, List.length_append]; simp; omega
def keysV (zs : List Int) : List ByteArray := if okC zs = true then keysT zs 4 else []
theorem keysV_len (zs : List Int) : (keysV zs).length ≤ 4 := by
  unfold keysV; split
  · exact keysT_len zs 4
  · simp
/-- Is slot s free, or its key found there? -/
def slotR (zs : List Int) (s : Int) : Bool := if cellK zs s = 0 then true else match untagV (cellK zs s) with | some (k, _) => decide ((findV zs k).1 = s) | none => false
def tableV (zs : List Int) : Bool := okC zs && (slotR zs 0 && (slotR zs 1 && (slotR zs 2 && slotR zs 3)))
theorem slotR_free {zs : List Int} {s : Int} (h : cellK zs s = 0) : slotR zs s = true := if_pos h
theorem slotR_none {zs : List Int} {s : Int} (h : cellK zs s ≠ 0) (hu : untagV (cellK zs s) = none) : slotR zs s = false := by unfold slotR; rw [if_neg h, hu]
theorem slotR_some {zs : List Int} {s : Int} {k : ByteArray} {kd : Int} (h : cellK zs s ≠ 0) (hu : untagV (cellK zs s) = some (k, kd)) : slotR zs s = decide ((findV zs k).1 = s) := by unfold slotR; rw [if_neg h, hu]
theorem tableV_all {zs : List Int} (h : okC zs = true) (hs : ∀ m : Nat, m < 4 → slotR zs m = true) : tableV zs = true := by
  have h0 : slotR zs 0 = true := hs 0 (by omega)
  have h1 : slotR zs 1 = true := hs 1 (by omega)
  have h2 : slotR zs 2 = true := hs 2 (by omega)
  have h3 : slotR zs 3 = true := hs 3 (by omega)
  unfold tableV; rw [h, h0, h1, h2, h3]; rfl
theorem tableV_no {zs : List Int} {m : Nat} (hm : m < 4) (h : slotR zs m = false) : tableV zs = false := by
  have hm' : m = 0 ∨ m = 1 ∨ m = 2 ∨ m = 3 := by omega
  unfold tableV
  rcases hm' with rfl | rfl | rfl | rfl
  · have h' : slotR zs 0 = false := h
    rw [h']; simp
  · have h' : slotR zs 1 = false := h
    rw [h']; simp
  · have h' : slotR zs 2 = false := h
    rw [h']; simp
  · have h' : slotR zs 3 = false := h
    rw [h']; simp
theorem tableV_cells {zs : List Int} (h : okC zs = false) : tableV zs = false := by unfold tableV; rw [h]; rfl
end Go.Proofs.YtlnkjpacjbhncaaGreatDoor
/-
  Chapters 8 and 9 in plain words: the row of a slot's cells, the report of a buffer, a buffer cleared; recording and flushing at once.
-/
namespace Go.Proofs.YtlnkjpacjbhncaaGreatDoor
open Go.RowKit M
set_option linter.unusedVariables false
/-- A number modulo the word. -/
def modW (x : Int) : Int := x % 281474976710656
/-- The first k samples of a slot's cells, as many as the ticket tells, put into r. -/
def ringV (r : R) (raw : List Int) : Nat → R
  | 0 => r
  | k + 1 => if (k : Int) < raw.getD 4 0 then sampledV (ringV r raw k) (raw.getD (5 + k) 0 - 1) else ringV r raw k
/-- The sum of a slot's first k stripes. -/
def sumT (raw : List Int) : Nat → Int
  | 0 => 0
  | k + 1 => modW (sumT raw k + modW (raw.getD k 0))
def countRow (key : ByteArray) (raw : List Int) : R := { zeroR with key := key, kind := 1, sum := sumT raw 2 }
def gaugeRow (key : ByteArray) (raw : List Int) : R := { zeroR with key := key, kind := 2, set := decide (0 < ungA (raw.getD 3 0)), last := ungV (raw.getD 3 0) }
def dropRow (r : R) (t : Int) : R := if r.n = 3 ∧ 3 < t then { r with dropped := if t - 3 < 65535 then t - 3 else 65535 } else r
def timerRow (key : ByteArray) (raw : List Int) : R := dropRow (ringV { zeroR with key := key, kind := 3 } raw 3) (raw.getD 4 0)
def kindRow (key : ByteArray) (kind : Int) (raw : List Int) : R := if kind = 1 then countRow key raw else if kind = 2 then gaugeRow key raw else timerRow key raw
/-- The row of a slot whose key cell holds tag and whose eight cells are raw. -/
def rowFromV (tag : Int) (raw : List Int) : R :=
  match untagV tag with
  | some (key, kind) => if raw.length = 8 then kindRow key kind raw else zeroR
  | none => zeroR
/-- The eight cells of a slot of a buffer. -/
def slotRaw (a : List Int) (b s : Int) : List Int := (a.drop (7 + b * 32 + s * 8).toNat).take 8
def bufOk (b : Int) : Bool := decide (0 ≤ b ∧ b ≤ 1)
def slotOk (s : Int) : Bool := decide (0 ≤ s ∧ s ≤ 3)
def rowInV (a : List Int) (b s : Int) : R := if okC a = true ∧ bufOk b = true ∧ slotOk s = true then rowFromV (cellK a s) (slotRaw a b s) else zeroR
/-- x comes ahead of y, byte by byte. -/
def strLt (x y : ByteArray) : Bool := Go.Op.bytesLess x.toList y.toList
/-- The row put into its place by its key, ahead of the first one with a greater key. -/
def insV (r : R) : List R → List R
  | [] => [r]
  | x :: l => if strLt r.key x.key = true then r :: x :: l else x :: insV r l
def putV (l : List R) (r : R) : List R := if l.any (fun x => decide (x.key = r.key)) = true then l else insV r l
/-- A row is left out of a report where it has no kind or tells of nothing. -/
def addV (l : List R) (r : R) : List R := if r.kind ≠ 0 ∧ quietV r = false then putV l r else l
def reportT (a : List Int) (b : Int) (n : Nat) : List R := (List.range n).foldl (fun l (s : Nat) => addV l (rowInV a b s)) []
def reportInV (a : List Int) (b : Int) : List R := if okC a = true ∧ bufOk b = true then reportT a b 4 else []
def clearT (a : List Int) (b : Int) (n : Nat) : List Int := (List.range n).foldl (fun l (i : Nat) => l.set (7 + b * 32 + i).toNat 0) a
def clearV (a : List Int) (b : Int) : List Int := if okC a = true ∧ bufOk b = true then clearT a b 32 else a
def bufClearV (a : List Int) (b : Int) : Bool := (okC a && bufOk b) && (List.range 32).all fun (i : Nat) => decide (a.getD (7 + b * 32 + i).toNat 0 = 0)
/-- A value put into a slot of a buffer by writer w; is a sample dropped? -/
def putCount (a : List Int) (b s w v : Int) : List Int := a.set (7 + b * 32 + s * 8 + w % 2).toNat (modW (a.getD (7 + b * 32 + s * 8 + w % 2).toNat 0 + v))
def putGauge (a : List Int) (b s v : Int) : List Int :=
  let a1 := a.set (7 + b * 32 + s * 8 + 2).toNat (modW (a.getD (7 + b * 32 + s * 8 + 2).toNat 0 + 1))
  if ungA (a1.getD (7 + b * 32 + s * 8 + 3).toNat 0) ≤ a1.getD (7 + b * 32 + s * 8 + 2).toNat 0 then a1.set (7 + b * 32 + s * 8 + 3).toNat (gaugeV (a1.getD (7 + b * 32 + s * 8 + 2).toNat 0) v) else a1
def putTimer (a : List Int) (b s v : Int) : List Int :=
  let t := a.getD (7 + b * 32 + s * 8 + 4).toNat 0
  let a1 := a.set (7 + b * 32 + s * 8 + 4).toNat (modW (t + 1))
  if 3 ≤ t then a1 else a1.set (7 + b * 32 + s * 8 + (5 + t)).toNat (v + 1)
def putCells (a : List Int) (b s kind w v : Int) : List Int := if kind = 1 then putCount a b s w v else if kind = 2 then putGauge a b s v else putTimer a b s v
def putDrop (a : List Int) (b s kind : Int) : Bool := decide (kind ≠ 1 ∧ kind ≠ 2) && decide (3 ≤ a.getD (7 + b * 32 + s * 8 + 4).toNat 0)
def recArgs (a : List Int) (w : Int) (key : ByteArray) (v : Int) : Bool := okC a && (decide (0 ≤ w ∧ w ≤ 2) && (keyOkV key && decide (0 ≤ v ∧ v ≤ 65535)))
def recC (a : List Int) (w : Int) (key : ByteArray) (v : Int) : List Int :=
  if recArgs a w key v = true ∧ 0 ≤ fkS a key then putCells a (a.getD 0 0 % 2) (fkS a key) (fkK a key) w v else a
def recD (a : List Int) (w : Int) (key : ByteArray) (v : Int) : Int :=
  if recArgs a w key v = true then (if 0 ≤ fkS a key then (if putDrop a (a.getD 0 0 % 2) (fkS a key) (fkK a key) = true then 5 else 0) else 2) else 1
def flushC (a : List Int) : List Int := if okC a = true then (clearV a (a.getD 0 0 % 2)).set 0 (modW (a.getD 0 0 + 1)) else a
def flushR (a : List Int) : List R := if okC a = true then reportInV a (a.getD 0 0 % 2) else []
end Go.Proofs.YtlnkjpacjbhncaaGreatDoor
/-
  The record Op in plain words, and its cells.
-/
namespace Go.Proofs.YtlnkjpacjbhncaaGreatDoor.M
open Go.RowKit
set_option linter.unusedVariables false
structure O where
  kind : Int
  key : ByteArray
  what : Int
  val : Int
/-- The record as a value. -/
def O.v (r : O) : Value := .agg #[.int .i64 r.kind, .string r.key, .int .i64 r.what, .int .i64 r.val]
/-- Its cells. -/
def opCells (r : O) : Array Value := #[.int .i64 r.kind, .string r.key, .int .i64 r.what, .int .i64 r.val]
def zeroO : O := ⟨0, ⟨#[]⟩, 0, 0⟩
/-- Each field fits its type. -/
structure O.Fit (r : O) : Prop where
  kind : inW r.kind
  key : r.key.size ≤ maxLen
  what : inW r.what
  val : inW r.val
end Go.Proofs.YtlnkjpacjbhncaaGreatDoor.M
namespace Go.Proofs.YtlnkjpacjbhncaaGreatDoor
open Go.RowKit M
set_option linter.unusedVariables false
theorem sizeOp (r : O) : (opCells r).size = 4 := rfl
theorem atOp {w : World} {b o : Nat} {r : O} (h : RecAt 4 opCells w b o r) : w.cell? ⟨b, o, none⟩ = some (.int .i64 r.kind) ∧ w.cell? ⟨b, o + 1, none⟩ = some (.string r.key) ∧ w.cell? ⟨b, o + 2, none⟩ = some (.int .i64 r.what) ∧ w.cell? ⟨b, o + 3, none⟩ = some (.int .i64 r.val) :=
  ⟨h 0 (by decide), h 1 (by decide), h 2 (by decide), h 3 (by decide)⟩
instance : Inhabited O := ⟨zeroO⟩
end Go.Proofs.YtlnkjpacjbhncaaGreatDoor
/-
  Chapters 10 to 12 in plain words: operations, jobs, events, worlds; one step of a thread; schedules.
-/
namespace Go.Proofs.YtlnkjpacjbhncaaGreatDoor.M
open Go.RowKit
set_option linter.unusedVariables false
structure J where
  busy : Bool
  op : O
  serial : Int
  pc : Int
  k : Int
  slot : Int
  what : Int
  e : Int
  stamp : Int
  old : Int
  flips : Int
  steps : Int
  code : Int
  keys : List Int
  raw : List Int
structure E where
  kind : Int
  who : Int
  serial : Int
  at_ : Int
  op : O
  code : Int
  win : Int
  steps : Int
  flips : Int
  rows : List R
structure S where
  cells : List Int
  jobs : List J
  todo : List (List O)
  log : List E
  serial : Int
  now : Int
def zeroJ : J := ⟨false, zeroO, 0, 0, 0, 0, 0, 0, 0, 0, 0, 0, 0, [], []⟩
def zeroE : E := ⟨0, 0, 0, 0, zeroO, 0, 0, 0, 0, []⟩
def zeroS : S := ⟨[], [], [], [], 0, 0⟩
def isZeroO (o : O) : Bool := decide (o.kind = 0 ∧ o.key = ⟨#[]⟩ ∧ o.what = 0 ∧ o.val = 0)
def isFlushO (o : O) : Bool := decide (o.kind = 3 ∧ o.key = ⟨#[]⟩ ∧ o.what = 0 ∧ o.val = 0)
def opOkV (o : O) : Bool :=
  if o.kind = 1 then keyOkV o.key && (decide (1 ≤ o.what ∧ o.what ≤ 3) && decide (o.val = 0))
  else if o.kind = 2 then keyOkV o.key && (decide (o.what = 0) && decide (0 ≤ o.val ∧ o.val ≤ 65535))
  else if o.kind = 3 then isFlushO o else false
/-- May the operation stand in the queue of thread t? -/
def opInV (t : Nat) (o : O) : Bool := opOkV o && (decide (o.kind = 3) == decide (t = 3))
def queueOkV (t : Nat) (q : List O) : Bool := decide (q.length ≤ 10) && q.all (opInV t)
def todoOkV (l : List (List O)) : Bool := decide (l.length = 4) && (List.range l.length).all fun t => queueOkV t (l.getD t [])
def countOkV (j : J) : Bool :=
  if j.pc = 0 ∨ j.pc = 1 then decide (0 ≤ j.k ∧ j.k ≤ 3)
  else if j.pc = 8 then decide (0 ≤ j.k ∧ j.k ≤ 2)
  else if j.pc = 14 then decide (0 ≤ j.k ∧ j.k ≤ 3) && (decide ((j.keys.length : Int) = j.k) && decide (j.raw.length = 0))
  else if j.pc = 15 then decide (0 ≤ j.k ∧ j.k ≤ 31) && (decide (j.keys.length = 4) && decide ((j.raw.length : Int) = j.k))
  else if j.pc = 13 ∨ j.pc = 12 then decide (j.keys.length = 0) && decide (j.raw.length = 0)
  else true
def placeOkV (j : J) : Bool :=
  if j.pc = 11 then true
  else if j.op.kind = 3 then decide (12 ≤ j.pc ∧ j.pc ≤ 15)
  else if j.op.kind = 1 then decide (j.pc = 0 ∨ j.pc = 1)
  else decide (j.pc = 0 ∨ (2 ≤ j.pc ∧ j.pc ≤ 10))
def jobOkV (j : J) : Bool :=
  opOkV j.op && (placeOkV j && (countOkV j && (decide (0 ≤ j.slot ∧ j.slot ≤ 3) && (decide (0 ≤ j.what ∧ j.what ≤ 3) && (decide (0 ≤ j.e ∧ j.e ≤ 281474976710655) && (decide (0 ≤ j.k ∧ j.k ≤ 32) && (decide (j.keys.length ≤ 4) && decide (j.raw.length ≤ 32))))))))
def zeroJobV (j : J) : Bool :=
  isZeroO j.op && (decide (j.serial = 0 ∧ j.pc = 0 ∧ j.k = 0 ∧ j.slot = 0 ∧ j.what = 0 ∧ j.e = 0 ∧ j.stamp = 0 ∧ j.old = 0 ∧ j.flips = 0 ∧ j.steps = 0 ∧ j.code = 0) && (decide (j.keys.length = 0) && decide (j.raw.length = 0)))
def jobAtV (t : Nat) (j : J) : Bool := if j.busy = true then jobOkV j && (decide (j.op.kind = 3) == decide (t = 3)) else zeroJobV j
def worldOkV (w : S) : Bool :=
  okC w.cells && (decide (w.jobs.length = 4) && (todoOkV w.todo && (decide (0 ≤ w.serial ∧ w.serial ≤ 1000000) && (decide (0 ≤ w.now ∧ w.now ≤ 1000000000) && (List.range 4).all fun t => jobAtV t (w.jobs.getD t zeroJ)))))
def worldNewV (l : List (List O)) : S := if todoOkV l = true then ⟨List.replicate 71 0, List.replicate 4 zeroJ, l, [], 0, 0⟩ else zeroS
def idleV (w : S) : Bool := w.jobs.all (fun j => !j.busy) && w.todo.all (fun q => decide (q.length = 0))
def pcW (n : Int) : ByteArray :=
  if n = 0 then ⟨#[112, 114, 111, 98, 101]⟩ else if n = 1 then ⟨#[99, 108, 97, 105, 109]⟩ else if n = 2 then ⟨#[101, 112, 111, 99, 104]⟩ else if n = 3 then ⟨#[101, 110, 116, 101, 114]⟩
  else if n = 4 then ⟨#[114, 101, 99, 104, 101, 99, 107]⟩ else if n = 5 then ⟨#[100, 97, 116, 97]⟩ else if n = 6 then ⟨#[108, 111, 111, 107]⟩ else if n = 7 then ⟨#[99, 97, 115]⟩
  else if n = 8 then ⟨#[115, 116, 111, 114, 101]⟩ else if n = 9 then ⟨#[101, 120, 105, 116]⟩ else if n = 10 then ⟨#[108, 101, 97, 118, 101]⟩ else if n = 11 then ⟨#[116, 101, 108, 108]⟩
  else if n = 12 then ⟨#[115, 119, 97, 112]⟩ else if n = 13 then ⟨#[119, 97, 105, 116]⟩ else if n = 14 then ⟨#[107, 101, 121, 115]⟩ else if n = 15 then ⟨#[100, 114, 97, 105, 110]⟩ else ⟨#[]⟩
/-- One more, as an int64. -/
def bump (n : Int) : Int := Go.IntKind.i64.wrap (n + 1)
/-- The operation takes effect: an event, and the job's code. -/
def pointV (w : S) (t : Nat) (j : J) (code win : Int) : S × J :=
  ({ w with log := w.log ++ [⟨2, t, j.serial, w.now, j.op, code, win, 0, 0, []⟩] }, { j with code := code })
def endV (w : S) (t : Nat) (j : J) (code : Int) : S × J := ((pointV w t j code (-1)).1, { (pointV w t j code (-1)).2 with pc := 11 })
def cellV' (w : S) (i : Int) : Int := w.cells.getD i.toNat 0
def putV' (w : S) (i v : Int) : S := { w with cells := w.cells.set i.toNat v }
/-- A sum into a cell, modulo the word. -/
def addCV (w : S) (i n : Int) : S := putV' w i (modW (cellV' w i + n))
def tagKey (n : Int) : ByteArray := match untagV n with | some x => x.1 | none => ⟨#[]⟩
def tagKind (n : Int) : Int := match untagV n with | some x => x.2 | none => 0
def probeS (w : S) (t : Nat) (j : J) : S × J :=
  let slot := probeV j.op.key j.k
  let c := cellV' w (3 + slot)
  if c = 0 then (if j.op.kind = 1 then (w, { j with pc := 1 }) else endV w t j 2)
  else if tagKey c = j.op.key then
    (if j.op.kind = 2 then (w, { j with slot := slot, what := tagKind c, pc := 2 }) else if tagKind c = j.op.what then endV w t j 0 else endV w t j 4)
  else if j.k + 1 < 4 then (w, { j with k := j.k + 1 })
  else if j.op.kind = 1 then endV w t j 3 else endV w t j 2
def claimS (w : S) (t : Nat) (j : J) : S × J :=
  let i := 3 + probeV j.op.key j.k
  if cellV' w i ≠ 0 then (w, { j with pc := 0 }) else endV (putV' w i (tagV j.op.key j.op.what)) t j 0
/-- Cell k of a slot of the job's buffer. -/
def jobCell (j : J) (k : Int) : Int := 7 + j.e % 2 * 32 + j.slot * 8 + k
def inCell (j : J) : Int := 1 + j.e % 2
def dataS (w : S) (t : Nat) (j : J) : S × J :=
  if j.what = 1 then
    let p := pointV (addCV w (jobCell j ((t : Int) % 2)) j.op.val) t j 0 j.e
    (p.1, { p.2 with pc := 9 })
  else if j.what = 2 then
    let p := pointV (addCV w (jobCell j 2) 1) t j 0 j.e
    (p.1, { p.2 with stamp := modW (cellV' w (jobCell j 2) + 1), pc := 6 })
  else
    let old := cellV' w (jobCell j 4)
    let w1 := addCV w (jobCell j 4) 1
    if 3 ≤ old then
      let p := pointV w1 t j 5 j.e
      (p.1, { p.2 with pc := 9 })
    else
      let p := pointV w1 t j 0 j.e
      (p.1, { p.2 with k := old, pc := 8 })
def writeS (w : S) (t : Nat) (j : J) : S × J :=
  if j.pc = 2 then (w, { j with e := cellV' w 0, pc := 3 })
  else if j.pc = 3 then (addCV w (inCell j) 1, { j with pc := 4 })
  else if j.pc = 4 then (w, { j with pc := if cellV' w 0 = j.e then 5 else 10 })
  else if j.pc = 5 then dataS w t j
  else if j.pc = 6 then (w, { j with old := cellV' w (jobCell j 3), pc := if j.stamp < ungA (cellV' w (jobCell j 3)) then 9 else 7 })
  else if j.pc = 7 then
    (if cellV' w (jobCell j 3) = j.old then (putV' w (jobCell j 3) (gaugeV j.stamp j.op.val), { j with pc := 9 }) else (w, { j with pc := 6 }))
  else if j.pc = 8 then (putV' w (jobCell j (5 + j.k)) (j.op.val + 1), { j with pc := 9 })
  else if j.pc = 9 then (addCV w (inCell j) (-1), { j with pc := 11 })
  else (addCV w (inCell j) (-1), { j with flips := bump j.flips, pc := 2 })
def flushS (w : S) (t : Nat) (j : J) : S × J :=
  if j.pc = 12 then
    let p := pointV (addCV w 0 1) t { j with e := cellV' w 0 } 0 (cellV' w 0)
    (p.1, { p.2 with pc := 13 })
  else if j.pc = 13 then (w, if cellV' w (inCell j) = 0 then { j with pc := 14, k := 0 } else j)
  else if j.pc = 14 then
    (w, if j.k + 1 = 4 then { j with keys := j.keys ++ [cellV' w (3 + j.k)], pc := 15, k := 0 } else { j with keys := j.keys ++ [cellV' w (3 + j.k)], k := j.k + 1 })
  else
    let i := 7 + j.e % 2 * 32 + j.k
    (putV' w i 0, { j with raw := j.raw ++ [cellV' w i], k := j.k + 1, pc := if j.k + 1 = 32 then 11 else j.pc })
/-- The report of what a flush has gathered. -/
def rowsT (j : J) (n : Nat) : List R := (List.range n).foldl (fun l (s : Nat) => addV l (rowFromV (j.keys.getD s 0) ((j.raw.drop (s * 8)).take 8))) []
def rowsN (j : J) : Nat := min j.keys.length (j.raw.length / 8)
def rowsV (j : J) : List R := rowsT j (rowsN j)
def startS (w : S) (t : Nat) : S :=
  let o := (w.todo.getD t []).headD zeroO
  { w with
    todo := w.todo.set t (w.todo.getD t []).tail
    serial := w.serial + 1
    jobs := w.jobs.set t { zeroJ with busy := true, op := o, serial := w.serial + 1, pc := if o.kind = 3 then 12 else 0 }
    log := w.log ++ [⟨1, t, w.serial + 1, w.now, o, 0, -1, 0, 0, []⟩] }
def tellS (w : S) (t : Nat) (j : J) : S × J := ({ w with log := w.log ++ [⟨3, t, j.serial, w.now, j.op, j.code, -1, j.steps, j.flips, rowsV j⟩] }, zeroJ)
def workS (w : S) (t : Nat) (j : J) : S × J :=
  if j.pc = 11 then tellS w t j else if j.pc = 0 then probeS w t j else if j.pc = 1 then claimS w t j else if j.pc < 12 then writeS w t j else flushS w t j
/-- Has the thread nothing to do? -/
def restsV (w : S) (t : Nat) : Bool := (!(w.jobs.getD t zeroJ).busy && (decide ((w.todo.getD t []).length = 0) || decide (w.serial = 1000000))) || decide (w.now = 1000000000)
/-- One step of a thread, in a valid world. -/
def doV (w : S) (t : Nat) : S :=
  if restsV w t = true then w
  else
    let j := w.jobs.getD t zeroJ
    let w1 := { w with now := w.now + 1 }
    if j.busy = false then startS w1 t
    else
      let p := workS w1 t { j with steps := bump j.steps }
      { p.1 with jobs := p.1.jobs.set t p.2 }
def threadOk (t : Int) : Bool := decide (0 ≤ t ∧ t ≤ 3)
def stepV (w : S) (t : Int) : S := if worldOkV w = true ∧ threadOk t = true then doV w t.toNat else w
/-- The threads of a list of picks, one after another; what is no thread is passed by. -/
def runV (w : S) (l : List Int) : S := l.foldl (fun w t => if threadOk t = true then doV w t.toNat else w) w
def playV (todo : List (List O)) (picks : List Int) : S := if todoOkV todo = true then runV (worldNewV todo) (picks.take 500) else zeroS
def turnsV (w : S) : Nat → S
  | 0 => w
  | n + 1 => doV (turnsV w n) (n % 4)
def roundsV (w : S) (n : Int) : S := if worldOkV w = true then turnsV w (min n.toNat 4000) else w
/-- Turns from i on, till the world is idle or n turns are done. -/
def finishT (w : S) (i : Nat) : Nat → S
  | 0 => w
  | n + 1 => if idleV w = true then w else finishT (doV w (i % 4)) (i + 1) n
def finishV (w : S) : S := if worldOkV w = true then finishT w 0 4000 else w
def tellsV (w : S) : List E := w.log.filter fun e => decide (e.kind = 3)
def amongV (l : List E) (kind : Int) : Nat := (l.filter fun e => decide (e.kind = kind)).length
def reportsV (w : S) : List (List R) := ((tellsV w).filter fun e => decide (e.op.kind = 3)).map E.rows
end Go.Proofs.YtlnkjpacjbhncaaGreatDoor.M
/-
  A function that answers a value and leaves the world alone; one that answers a value and turns nothing that was there.
-/
namespace Go.Proofs.YtlnkjpacjbhncaaGreatDoor
open Go.RowKit
set_option linter.unusedVariables false
/-- A function answers v, and turns nothing that was there. -/
def Gives (v : Value) (w : World) (e : Ending) (w' : World) : Prop := e = .returned v ∧ Below w.heap.size w w'
theorem gives_same {v : Value} {w w' : World} {e : Ending} (h : e = .returned v ∧ w = w') : Gives v w e w' := ⟨h.1, by rw [h.2]; exact Below.refl _ _⟩
/-- A function answers v, and the world is as before. -/
def Same (w : World) (v : Value) (e : Ending) (w' : World) : Prop := e = .returned v ∧ w = w'
theorem ret_i {a b : Int} (h : a = b) : Ending.returned (.int .i64 a) = .returned (.int .i64 b) := by rw [h]
theorem ret_ii {a b c d : Int} (h : a = c) (k : b = d) : Ending.returned (.tuple #[.int .i64 a, .int .i64 b]) = .returned (.tuple #[.int .i64 c, .int .i64 d]) := by rw [h, k]
theorem below_drew (B : Nat) (w : World) : Below B w w.drew := ⟨rfl, rfl, rfl, Nat.le_refl _, fun _ _ => rfl⟩
end Go.Proofs.YtlnkjpacjbhncaaGreatDoor
/-
  The range test of the model (is x from low to high?) as a contract: it returns the test's outcome and leaves the world alone.
-/
namespace Go.Proofs.YtlnkjpacjbhncaaGreatDoor
open Go.RowKit
theorem l1In_yes (x a b : Int) (w : World) (h1 : a ≤ x) (h2 : x ≤ b) :
    Calls Tryz.prog 32 #[.int .i64 x, .int .i64 a, .int .i64 b] w fun e w' => e = .returned (.bool true) ∧ w = w' := by
  go_enter Tryz.func32, Tryz.ntmps32
  go_wp2
  go_ret
  exact ⟨rfl, rfl⟩
theorem l1In_no (x a b : Int) (w : World) (h : x < a ∨ b < x) :
    Calls Tryz.prog 32 #[.int .i64 x, .int .i64 a, .int .i64 b] w fun e w' => e = .returned (.bool false) ∧ w = w' := by
  by_cases h1 : a ≤ x
  · have h2 : decide (x ≤ b) = false := by simp; omega
    go_enter Tryz.func32, Tryz.ntmps32
    go_wp2
    go_ret
    exact ⟨rfl, rfl⟩
  · go_enter Tryz.func32, Tryz.ntmps32
    go_wp2
    go_ret
    exact ⟨rfl, rfl⟩
theorem l1In_any (x a b : Int) (w : World) :
    Calls Tryz.prog 32 #[.int .i64 x, .int .i64 a, .int .i64 b] w fun e w' => e = .returned (.bool (decide (a ≤ x ∧ x ≤ b))) ∧ w = w' := by
  by_cases h : a ≤ x ∧ x ≤ b
  · rw [decide_eq_true h]; exact l1In_yes x a b w h.1 h.2
  · rw [decide_eq_false h]; exact l1In_no x a b w (by omega)
end Go.Proofs.YtlnkjpacjbhncaaGreatDoor
/-
  Chapter 4, the model's functions: each answers what the plain words say.
-/
namespace Go.Proofs.YtlnkjpacjbhncaaGreatDoor
open Go.RowKit M
set_option linter.unusedVariables false
theorem l4Byte_any (c : Nat) (w : World) (hc : c < 256) : Calls Tryz.prog 77 #[.int .i64 c] w (Same w (.bool (keyB c))) := by
  have e95 : ((c : Int) == 95) = decide (c = 95) := by
    by_cases h : c = 95
    · subst h; rfl
    · rw [decide_eq_false h, beq_eq_false_iff_ne]; omega
  by_cases h1 : 97 ≤ c ∧ c ≤ 122
  · have E := Lib.hid (show keyB c = true by simp [keyB]; omega)
    clear e95
    go_enter Tryz.func77, Tryz.ntmps77
    go_wp2_with (go_at_call 32; first | (refine (l1In_yes _ _ _ _ (by omega) (by omega)).mono ?_; rintro e w' ⟨rfl, rfl⟩) | (refine (l1In_no _ _ _ _ (by omega)).mono ?_; rintro e w' ⟨rfl, rfl⟩))
    go_ret
    exact ⟨ret_bool E.out.symm, rfl⟩
  · by_cases h2 : 65 ≤ c ∧ c ≤ 90
    · have E := Lib.hid (show keyB c = true by simp [keyB]; omega)
      clear e95
      go_enter Tryz.func77, Tryz.ntmps77
      go_wp2_with (go_at_call 32; first | (refine (l1In_yes _ _ _ _ (by omega) (by omega)).mono ?_; rintro e w' ⟨rfl, rfl⟩) | (refine (l1In_no _ _ _ _ (by omega)).mono ?_; rintro e w' ⟨rfl, rfl⟩))
      go_ret
      exact ⟨ret_bool E.out.symm, rfl⟩
    · by_cases h3 : 48 ≤ c ∧ c ≤ 57
      · have E := Lib.hid (show keyB c = true by simp [keyB]; omega)
        clear e95
        go_enter Tryz.func77, Tryz.ntmps77
        go_wp2_with (go_at_call 32; first | (refine (l1In_yes _ _ _ _ (by omega) (by omega)).mono ?_; rintro e w' ⟨rfl, rfl⟩) | (refine (l1In_no _ _ _ _ (by omega)).mono ?_; rintro e w' ⟨rfl, rfl⟩))
        go_ret
        exact ⟨ret_bool E.out.symm, rfl⟩
      · have E := Lib.hid (show keyB c = decide (c = 95) by
          unfold keyB
          rw [show (decide (97 ≤ c) && decide (c ≤ 122)) = false by simp; omega, show (decide (65 ≤ c) && decide (c ≤ 90)) = false by simp; omega, show (decide (48 ≤ c) && decide (c ≤ 57)) = false by simp; omega]
          simp)
        generalize decide (c = 95) = r at *
        go_enter Tryz.func77, Tryz.ntmps77
        go_wp2_with (go_at_call 32; refine (l1In_no _ _ _ _ (by omega)).mono ?_; rintro e w' ⟨rfl, rfl⟩)
        go_ret
        exact ⟨ret_bool E.out.symm, rfl⟩
set_option maxRecDepth 100000 in
theorem sKeyOk_any (w : World) (s : ByteArray) (hs : s.size ≤ maxLen) : Calls Tryz.prog 53 #[.string s] w (Same w (.bool (keyOkV s))) := by
  unfold maxLen at hs
  go_enter Tryz.func53, Tryz.ntmps53
  go_wp2
  go_loop [3] (fun i => ∃ j : Nat, j ≤ s.size ∧ i = .int .i64 j ∧ AllB s j) (fun i => s.size - (intOf i).toNat)
  case atStart => exact ⟨0, Nat.zero_le _, rfl, AllB.zero _⟩
  case round =>
    obtain ⟨j, hj, rfl, ha⟩ := hrel
    have HA := Lib.hid ha
    clear ha
    by_cases hlt : j < s.size
    · have hc := s[j].toNat_lt
      have HB := Lib.hid (l4Byte_any s[j].toNat w (by omega))
      cases hk : keyB s[j].toNat with
      | true =>
        have HN := Lib.hid (HA.out.next hlt hk)
        rw [hk] at HB
        clear hk
        go_wp2_with (go_at_call 77; refine HB.out.mono ?_; rintro e w' ⟨rfl, rfl⟩)
        go_round
        case rel => exact ⟨j + 1, by omega, by go_num, HN.out⟩
        case measure => simp [intOf]; omega
      | false =>
        have HN := Lib.hid (keyOkV_no hlt hk)
        rw [hk] at HB
        clear hk
        go_wp2_with (go_at_call 77; refine HB.out.mono ?_; rintro e w' ⟨rfl, rfl⟩)
        go_ret
        exact ⟨ret_bool HN.out.symm, rfl⟩
    · obtain rfl : j = s.size := by omega
      by_cases h4 : 1 ≤ s.size ∧ s.size ≤ 4
      · have HN := Lib.hid (keyOkV_iff.2 ⟨h4, HA.out⟩)
        obtain ⟨h40, h41⟩ := h4
        go_wp2_with (go_at_call 32; refine (l1In_yes _ _ _ _ (by omega) (by omega)).mono ?_; rintro e w' ⟨rfl, rfl⟩)
        go_ret
        exact ⟨ret_bool HN.out.symm, rfl⟩
      · have HN := Lib.hid (keyOkV_size h4)
        go_wp2_with (go_at_call 32; refine (l1In_no _ _ _ _ (by omega)).mono ?_; rintro e w' ⟨rfl, rfl⟩)
        go_ret
        exact ⟨ret_bool HN.out.symm, rfl⟩
set_option maxRecDepth 100000 in
theorem sHash_any (w : World) (s : ByteArray) (hs : s.size ≤ maxLen) : Calls Tryz.prog 76 #[.string s] w (Same w (.int .i64 (hashV s : Nat))) := by
  unfold maxLen at hs
  go_enter Tryz.func76, Tryz.ntmps76
  go_wp2
  go_loop [3, 4] (fun h i => ∃ j : Nat, j ≤ s.size ∧ i = .int .i64 j ∧ h = .int .i64 (hashT (s.data.toList.take j) : Nat)) (fun _ i => s.size - (intOf i).toNat)
  case atStart => exact ⟨0, Nat.zero_le _, rfl, rfl⟩
  case round =>
    obtain ⟨j, hj, rfl, rfl⟩ := hrel
    by_cases hlt : j < s.size
    · have hb := hashT_lt (s.data.toList.take j)
      have hc := s[j].toNat_lt
      have HS := Lib.hid (hashT_take s j hlt)
      have HN := Lib.hid (hash_next (hashT (s.data.toList.take j)) s[j].toNat)
      generalize hashT (s.data.toList.take j) = h at *
      have hx := xor_i64 (a := h) (b := s[j].toNat) hb (by omega)
      have hx2 := xor_lt32 (a := h) (b := s[j].toNat) hb (by omega)
      generalize h ^^^ s[j].toNat = x at *
      go_wp2
      go_round
      case rel => exact ⟨j + 1, by omega, by go_num, by rw [HS.out, ← HN.out]⟩
      case measure => simp [intOf]; omega
    · obtain rfl : j = s.size := by omega
      have E := Lib.hid (show hashV s = hashT (s.data.toList.take s.size) by unfold hashV; rw [List.take_of_length_le (by simp)])
      go_wp2
      go_ret
      exact ⟨ret_i (by rw [E.out]), rfl⟩
set_option maxRecDepth 100000 in
theorem sProbe_any (w : World) (s : ByteArray) (n : Int) (hs : s.size ≤ maxLen) : Calls Tryz.prog 52 #[.string s, .int .i64 n] w (Same w (.int .i64 (probeV s n))) := by
  have HOK := Lib.hid (sKeyOk_any w s hs)
  have HH := Lib.hid (sHash_any w s hs)
  have hh := hashT_lt s.data.toList
  rw [show hashT s.data.toList = hashV s from rfl] at hh
  cases hk : keyOkV s with
  | false =>
    have E := Lib.hid (show probeV s n = -1 by unfold probeV; rw [if_neg (by rw [hk]; simp)])
    rw [hk] at HOK
    clear hk hh
    go_enter Tryz.func52, Tryz.ntmps52
    go_wp2_with (go_at_call 53; refine HOK.out.mono ?_; rintro e w' ⟨rfl, rfl⟩)
    go_ret
    exact ⟨ret_i E.out.symm, rfl⟩
  | true =>
    rw [hk] at HOK
    by_cases hn : 0 ≤ n ∧ n ≤ 3
    · have E := Lib.hid (show probeV s n = ((hashV s : Int) + n) % 4 by unfold probeV; rw [if_pos ⟨hk, hn⟩])
      obtain ⟨n0, n1⟩ := hn
      generalize hashV s = h at *
      clear hk
      go_enter Tryz.func52, Tryz.ntmps52
      go_wp2_with (first | (go_at_call 53; refine HOK.out.mono ?_; rintro e w' ⟨rfl, rfl⟩) | (go_at_call 32; refine (l1In_yes _ _ _ _ (by omega) (by omega)).mono ?_; rintro e w' ⟨rfl, rfl⟩) | (go_at_call 76; refine HH.out.mono ?_; rintro e w' ⟨rfl, rfl⟩))
      go_ret
      exact ⟨ret_i E.out.symm, rfl⟩
    · have E := Lib.hid (show probeV s n = -1 by unfold probeV; rw [if_neg (fun h => hn h.2)])
      clear hk hh
      go_enter Tryz.func52, Tryz.ntmps52
      go_wp2_with (first | (go_at_call 53; refine HOK.out.mono ?_; rintro e w' ⟨rfl, rfl⟩) | (go_at_call 32; refine (l1In_no _ _ _ _ (by omega)).mono ?_; rintro e w' ⟨rfl, rfl⟩))
      go_ret
      exact ⟨ret_i E.out.symm, rfl⟩
end Go.Proofs.YtlnkjpacjbhncaaGreatDoor
/-
  Rows of strings: one that a call made itself and appends to; reading one; the law's helper that looks for a text in a row.
-/
namespace Go.Proofs.YtlnkjpacjbhncaaGreatDoor
open Go.RowKit M
set_option linter.unusedVariables false
theorem info_txt : (Tryz.prog.info? 9).map (fun i => (i.zero, i.size, i.bytes)) = some (some (.string ⟨#[]⟩), 1, 16) := by kernel_rfl
theorem txt_ne {x y : ByteArray} (h : x ≠ y) : (x.toList == y.toList) = false := by
  rw [beq_eq_false_iff_ne]
  intro e
  rw [ByteArray.toList_eq, ByteArray.toList_eq] at e
  exact h (ByteArray.ext (Array.ext' e))
theorem txt_some {x : ByteArray} (h : x ≠ ⟨#[]⟩) : ¬ x.toList = [] := by
  intro e
  rw [ByteArray.toList_eq] at e
  exact h (ByteArray.ext (Array.ext' e))
theorem txt_full {x : ByteArray} (h : x ≠ ⟨#[]⟩) : x.toList.isEmpty = false := by
  cases e : x.toList with
  | nil => exact absurd e (txt_some h)
  | cons a l => rfl
theorem txt_nil_ne {x : ByteArray} (h : x ≠ ⟨#[]⟩) : ([] == x.toList) = false := by
  have := txt_some h
  rw [beq_eq_false_iff_ne]; exact fun e => this e.symm
theorem txt_self (x : ByteArray) : (x.toList == x.toList) = true := by simp
theorem txt_one (l : List ByteArray) : ∀ u ∈ l.map Value.string, u.oneCell' = true := by
  intro u hu
  obtain ⟨c, _, rfl⟩ := List.mem_map.1 hu
  rfl
/-- The slice value v reads as the strings l (nil, or of no length, or one whose cells are there). -/
def TxtArg (w : World) (v : Value) (l : List ByteArray) : Prop :=
  ∃ A cap, v = .slice A l.length cap ∧ l.length ≤ cap ∧ cap ≤ maxLen ∧ (0 < l.length → ∃ b off, A = some ⟨b, off, none⟩ ∧ b < w.heap.size ∧ ∀ j, j < l.length → w.cell? ⟨b, off + j, none⟩ = some (.string (l.getD j ⟨#[]⟩)))
theorem TxtArg.below {w w' : World} {v : Value} {l : List ByteArray} (h : TxtArg w v l) (hb : Below w.heap.size w w') : TxtArg w' v l := by
  obtain ⟨A, cap, e, h1, h2, h3⟩ := h
  refine ⟨A, cap, e, h1, h2, fun hp => ?_⟩
  obtain ⟨b, off, ea, h4, h5⟩ := h3 hp
  exact ⟨b, off, ea, Nat.lt_of_lt_of_le h4 hb.size, fun j hj => (hb.cell (p := ⟨b, off + j, none⟩) h4).trans (h5 j hj)⟩
/-- The row is the call's own: in a block from base on. -/
def OwnT (w : World) (base : Nat) (v : Value) (l : List ByteArray) : Prop := w.ownsRow base 9 1 v l.length (l.map Value.string)
theorem OwnT.alloc {w : World} {base : Nat} {v : Value} {l : List ByteArray} (h : OwnT w base v l) (o : Obj) : OwnT (w.alloc o) base v l := World.ownsRow.alloc h o
theorem OwnT.kept {w w' : World} {base : Nat} {v : Value} {l : List ByteArray} {row : Option Nat} (h : OwnT w base v l) (hg : w.grownBy w' row) (hne : v.ownBlock = none ∨ v.ownBlock ≠ row) : OwnT w' base v l := World.ownsRow.kept h hg hne
theorem OwnT.base_le {w : World} {base : Nat} {v : Value} {l : List ByteArray} (h : OwnT w base v l) : ∀ k, v.ownBlock = some k → base ≤ k := fun k hk => (World.ownsRow.lt h k hk).1
theorem OwnT.below {w w' : World} {base : Nat} {v : Value} {l : List ByteArray} (h : OwnT w base v l) (hb : Below w.heap.size w w') : OwnT w' base v l :=
  h.kept (row := none) ⟨hb.os, hb.tape, hb.output, hb.size, fun i hi _ => hb.block i hi⟩ (by cases v.ownBlock <;> simp)
theorem OwnT.arg {w : World} {base : Nat} {v : Value} {l : List ByteArray} (h : OwnT w base v l) : TxtArg w v l := by
  have h' := h
  rcases h.2 with ⟨rfl, h0⟩ | ⟨g, cap, cur, rfl, hb, hg, hn, hm, hc, ht⟩
  · exact ⟨none, 0, by rw [h0], by omega, Nat.zero_le _, fun h => by omega⟩
  · refine ⟨_, cap, rfl, hn, hm, fun _ => ⟨g, 0, rfl, (World.ownsRow.lt h' g rfl).2, fun j hj => ?_⟩⟩
    rw [Nat.zero_add, World.ownsRow.cellAt h' j (by omega), List.getElem?_map, List.getElem?_eq_getElem hj, List.getD_eq_getElem?_getD, List.getElem?_eq_getElem hj]
    rfl
/-- A call hands back a new row of its own that reads l, and turns nothing that was there. -/
def MadeT (w : World) (l : List ByteArray) (e : Ending) (w' : World) : Prop := ∃ v, e = .returned v ∧ OwnT w' w.heap.size v l ∧ Below w.heap.size w w'
/-- An empty row that was just built ([]string{}). -/
theorem OwnT.empty (w : World) (base : Nat) (hb : base ≤ w.heap.size) : OwnT (w.alloc (.cells #[] 9)) base (.slice (some ⟨w.heap.size, 0, none⟩) 0 0) [] :=
  World.ownsRow_lit w #[] 0 hb (Nat.zero_le _) rfl
/-- append(v, x) onto an own row of strings, x being a string that lies alone in a new block. -/
theorem wpT_append (w : World) {ops : Array Oper} {rest : List Oper} {o : Oper} {a : Act} {Q : Exit → Act → World → Prop} (hgd : o.guard = none) (s x : Operand)
    (ho : o.op = .call { callee := .builtin .append, args := #[s, x], argTypes := #[41, 41] })
    (base : Nat) (v : Value) (l : List ByteArray) (hown : OwnT w base v l) (hs : a.eval s = v)
    (c : ByteArray) (hx : a.eval x = .slice (some ⟨w.heap.size, 0, none⟩) 1 1)
    (hlen : l.length + 1 ≤ 8796093022208) (hbase : base ≤ w.heap.size)
    (h : ∀ v' w', OwnT w' base v' (l ++ [c]) → (w.alloc (.cells #[.string c] 9)).grownBy w' v.ownBlock → wpList Tryz.prog ops Q rest (a.put o.dst v') w') : wpList Tryz.prog ops Q (o :: rest) a (w.alloc (.cells #[.string c] 9)) := by
  obtain ⟨i0, hi, hz0, hz1, hz2⟩ := info_parts info_txt
  refine wpList_append_own (w.alloc (.cells #[.string c] 9)) hgd s x 41 ho base 9 i0 (.string ⟨#[]⟩) 1 16 Tryz.underlying41 hi hz0 hz1 hz2 rfl (by decide) v l.length (l.map Value.string) hs (hown.alloc _) ⟨w.heap.size, 0, none⟩ 1 1 [.string c] hx rfl ?_ (by intro u hu; simp at hu; subst hu; rfl) (by unfold maxLen; omega) (by omega) (by simp [go_sem]; omega) ?_
  · intro j u hu
    cases j with
    | zero => obtain rfl : Value.string c = u := by simpa using hu
              simp [go_sem]
    | succ j => simp at hu
  · intro v' w' h1 h2 _
    refine h v' w' ?_ h2
    unfold OwnT
    rw [List.length_append, List.map_append]
    exact h1
end Go.Proofs.YtlnkjpacjbhncaaGreatDoor
/-
  A statement that draws its order, whose own operations only read while its calls may make memory: walked once, in the text's order, over a class of worlds (Derived/Deep/Quiet's theorem), each step behind a structure, so that no step lays the whole walk open.
-/
namespace Go.Proofs.YtlnkjpacjbhncaaGreatDoor
open Go.RowKit
set_option linter.unusedVariables false
structure WQ (P : Program) (ops : Array Oper) (C : World → Prop) (Q : Act → Prop) (l : List Oper) (a : Act) : Prop where
  run : wpQuiet P ops C Q l a
theorem WQ.nil {P : Program} {ops : Array Oper} {C : World → Prop} {Q : Act → Prop} {a : Act} (h : Q a) : WQ P ops C Q [] a := ⟨wpQuiet_nil h⟩
theorem WQ.step {P : Program} {ops : Array Oper} {C : World → Prop} {Q : Act → Prop} {a : Act} {o : Oper} {rest : List Oper}
    (h : ∀ K : Act → Prop, (∀ a, WQ P ops C Q rest a → K a) → if Region.wanted o (yielded ops a.tmps) then o.quiet P a C K else K (a.put o.dst undef)) : WQ P ops C Q (o :: rest) a :=
  ⟨wpQuiet_step (fun K hK => h K (fun a ha => hK a ha.run))⟩
theorem wp_region_wq {P : Program} {C : World → Prop} {id : Nat} {Q : Exit → Act → World → Prop} {a : Act} {w : World} {l : List Oper} (hm : P.follows .mixedOrders = true) (hB : Region.lexB .any l.toArray = true) (hC : C w.drew)
    (h : WQ P l.toArray C (fun a' => ∀ w', C w' → Q .normal a' w') l a) : (Code.region id l.toArray true).wp P Q a w :=
  wp_region_quiet (C := C) hm hB hC (by simpa using h.run)
end Go.Proofs.YtlnkjpacjbhncaaGreatDoor
/-
  An argument that is a row (a struct of ten one-cell fields, by value), opened: it is some row each of whose fields fits its type.
-/
namespace Go.Proofs.YtlnkjpacjbhncaaGreatDoor
open Go.ChangeShapes Go.WideShapes Go.Deep Go.RowKit M
set_option linter.unusedVariables false
section
variable {H : Type} {enc : TypeId × Value → H} {P : Program} {w : World} {base : Nat} {spare : Nat → Bool} {held : Bool}
/-- The reading of a struct gives the reading of each of its one-cell fields. -/
theorem field_read {fs : Array Field} {cs : List Value} {xs : List (DataW H × List MemPlace)} {n : Nat}
    (hg : ∀ (i : Nat) (f : Field), fs[i]? = some f → DataW.trod enc P w base spare held n f.type ((cs.drop f.offset).take (P.cellsOf f.type)) = xs[i]?)
    (hone : oneCellFields P fs = true) {i : Nat} {f : Field} {c : Value} (hf : fs[i]? = some f) (hc : cs[i]? = some c) (hx : i < xs.length) : ∃ y, DataW.trod enc P w base spare held n f.type [c] = some y := by
  have h := hg i f hf
  rw [(hone_of hone i f hf).1, (hone_of hone i f hf).2] at h
  obtain ⟨hl, he⟩ := List.getElem?_eq_some_iff.1 hc
  rw [List.drop_eq_getElem_cons hl, he, List.getElem?_eq_getElem hx] at h
  exact ⟨_, by simpa using h⟩
end
theorem fit_of {n : Int} (h : (Lit.int .i64 n).wf = true) : inW n := bounds_i64 h
end Go.Proofs.YtlnkjpacjbhncaaGreatDoor
/-
  Chapter 8 in plain words: the rows of the slots that are not quiet, sorted by their keys, the first of each key: the report built row by row.
-/
namespace Go.Proofs.YtlnkjpacjbhncaaGreatDoor
open Go.RowKit M
set_option linter.unusedVariables false
theorem bl_irrefl (x : List UInt8) : Go.Op.bytesLess x x = false := by
  induction x with
  | nil => rfl
  | cons a x ih =>
    have : ¬ a < a := fun k => by have : a.toNat < a.toNat := k; omega
    simp [Go.Op.bytesLess, ih, this]
theorem bl_trans (x y z : List UInt8) (h1 : Go.Op.bytesLess x y = true) (h2 : Go.Op.bytesLess y z = true) : Go.Op.bytesLess x z = true := by
  induction x generalizing y z with
  | nil =>
    cases z with
    | nil => cases y <;> simp [Go.Op.bytesLess] at h2
    | cons c z => rfl
  | cons a x ih =>
    cases y with
    | nil => simp [Go.Op.bytesLess] at h1
    | cons b y =>
      cases z with
      | nil => simp [Go.Op.bytesLess] at h2
      | cons c z =>
        simp only [Go.Op.bytesLess, Bool.or_eq_true, Bool.and_eq_true, decide_eq_true_eq, beq_iff_eq] at h1 h2 ⊢
        rcases h1 with h1 | ⟨rfl, h1⟩
        · rcases h2 with h2 | ⟨rfl, h2⟩
          · exact .inl (by have a1 : a.toNat < b.toNat := h1; have a2 : b.toNat < c.toNat := h2; show a.toNat < c.toNat; omega)
          · exact .inl h1
        · rcases h2 with h2 | ⟨rfl, h2⟩
          · exact .inl h2
          · exact .inr ⟨rfl, ih _ _ h1 h2⟩
theorem bl_total (x y : List UInt8) (h1 : Go.Op.bytesLess x y = false) (h2 : Go.Op.bytesLess y x = false) : x = y := by
  induction x generalizing y with
  | nil => cases y with
    | nil => rfl
    | cons b y => simp [Go.Op.bytesLess] at h1
  | cons a x ih =>
    cases y with
    | nil => simp [Go.Op.bytesLess] at h2
    | cons b y =>
      simp only [Go.Op.bytesLess, Bool.or_eq_false_iff, decide_eq_false_iff_not, Bool.and_eq_false_iff, beq_eq_false_iff_ne] at h1 h2
      have e : a = b := by
        have a1 : ¬ a.toNat < b.toNat := h1.1
        have a2 : ¬ b.toNat < a.toNat := h2.1
        exact UInt8.toNat_inj.1 (by omega)
      subst e
      rw [ih y (by rcases h1.2 with k | k; exact absurd rfl k; exact k) (by rcases h2.2 with k | k; exact absurd rfl k; exact k)]
theorem strLt_irrefl (x : ByteArray) : strLt x x = false := bl_irrefl _
theorem strLt_trans {x y z : ByteArray} (h1 : strLt x y = true) (h2 : strLt y z = true) : strLt x z = true := bl_trans _ _ _ h1 h2
theorem strLt_total {x y : ByteArray} (h1 : strLt x y = false) (h2 : strLt y x = false) : x = y := by
  have := bl_total _ _ h1 h2
  have e : ∀ b : ByteArray, b.toList = b.data.toList := Go.Lib.toList_data
  rw [e, e] at this
  cases x; cases y
  simp only [ByteArray.mk.injEq]
  exact Array.ext' this
theorem strLt_le_trans {x y z : ByteArray} (h1 : strLt x y = true) (h2 : strLt z y = false) : strLt x z = true := by
  cases h : strLt x z with
  | true => rfl
  | false =>
    by_cases e : strLt z x = true
    · rw [strLt_trans e h1] at h2; cases h2
    · have := strLt_total h (by simpa using e)
      subst this; rw [h1] at h2; cases h2
theorem strLe_lt_trans {x y z : ByteArray} (h1 : strLt y x = false) (h2 : strLt y z = true) : strLt x z = true := by
  cases h : strLt x z with
  | true => rfl
  | false =>
    by_cases e : strLt z x = true
    · rw [strLt_trans h2 e] at h1; cases h1
    · have := strLt_total h (by simpa using e)
      subst this; rw [h2] at h1; cases h1
theorem strLe_trans {x y z : ByteArray} (h1 : strLt y x = false) (h2 : strLt z y = false) : strLt z x = false := by
  cases h : strLt z x with
  | false => rfl
  | true => rw [strLt_le_trans h h1] at h2; cases h2
/-- The rows in the order of their keys, alike ones in the order in which they came. -/
def sortV (l : List R) : List R := l.foldl (fun s r => insV r s) []
/-- No row lies ahead of one with a smaller key, none is smaller than k. -/
def UpV (k : ByteArray) : List R → Prop
  | [] => True
  | x :: l => strLt x.key k = false ∧ UpV x.key l
def AscV : List R → Prop
  | [] => True
  | x :: l => UpV x.key l
theorem UpV.ins {k : ByteArray} {l : List R} (h : UpV k l) (r : R) (hr : strLt r.key k = false) : UpV k (insV r l) := by
  induction l generalizing k with
  | nil => exact ⟨hr, trivial⟩
  | cons x l ih =>
    simp only [insV]
    cases e : strLt r.key x.key with
    | true =>
      refine ⟨hr, ?_, h.2⟩
      cases e2 : strLt x.key r.key with
      | false => rfl
      | true => have := strLt_trans e e2; rw [strLt_irrefl] at this; cases this
    | false => exact ⟨h.1, ih h.2 e⟩
theorem AscV.ins {l : List R} (h : AscV l) (r : R) : AscV (insV r l) := by
  cases l with
  | nil => exact trivial
  | cons x l =>
    simp only [insV]
    cases e : strLt r.key x.key with
    | true =>
      refine ⟨?_, h⟩
      cases e2 : strLt x.key r.key with
      | false => rfl
      | true => have := strLt_trans e e2; rw [strLt_irrefl] at this; cases this
    | false => exact UpV.ins h r e
theorem asc_sort (l : List R) : AscV (sortV l) := by
  have : ∀ (l s : List R), AscV s → AscV (l.foldl (fun s r => insV r s) s) := by
    intro l
    induction l with
    | nil => exact fun s h => h
    | cons x l ih => exact fun s h => ih _ (h.ins x)
  exact this l [] trivial
theorem UpV.all {k : ByteArray} {l : List R} (h : UpV k l) : ∀ x ∈ l, strLt x.key k = false := by
  induction l generalizing k with
  | nil => intro x hx; cases hx
  | cons y l ih =>
    intro x hx
    rcases List.mem_cons.1 hx with rfl | hx
    · exact h.1
    · exact strLe_trans h.1 (ih h.2 x hx)
/-- Where r is put into rows in order: behind A, ahead of B. -/
theorem ins_at (r : R) (A B : List R) (hA : AscV (A ++ B)) (h1 : A = [] ∨ ∃ A' a, A = A' ++ [a] ∧ strLt r.key a.key = false) (h2 : B = [] ∨ ∃ b B', B = b :: B' ∧ strLt r.key b.key = true) : insV r (A ++ B) = A ++ r :: B := by
  have base : insV r B = r :: B := by
    rcases h2 with rfl | ⟨b, B', rfl, hb⟩
    · rfl
    · simp [insV, hb]
  have main : ∀ A : List R, (∀ x ∈ A, strLt r.key x.key = false) → insV r (A ++ B) = A ++ r :: B := by
    intro A hA
    induction A with
    | nil => exact base
    | cons x A ih =>
      simp only [List.cons_append, insV, hA x List.mem_cons_self, Bool.false_eq_true, if_false]
      rw [ih (fun y hy => hA y (List.mem_cons_of_mem _ hy))]
  apply main
  rcases h1 with rfl | ⟨A', a, rfl, ha⟩
  · intro x hx; cases hx
  · have up : ∀ (A' : List R) (k : ByteArray) (B : List R), UpV k (A' ++ [a] ++ B) → ∀ x ∈ A', strLt a.key x.key = false := by
      intro A'
      induction A' with
      | nil => intro k B _ x hx; cases hx
      | cons y A' ih =>
        intro k B h x hx
        rcases List.mem_cons.1 hx with rfl | hx
        · exact UpV.all h.2 a (by simp)
        · exact ih _ B h.2 x hx
    intro x hx
    rcases List.mem_append.1 hx with hx | hx
    · refine strLe_trans ?_ ha
      cases A' with
      | nil => cases hx
      | cons y A' =>
        rcases List.mem_cons.1 hx with rfl | hx
        · exact UpV.all (show UpV x.key (A' ++ [a] ++ B) from hA) a (by simp)
        · exact up A' y.key B hA x hx
    · rw [List.mem_singleton] at hx; subst hx; exact ha
/-- Of rows with one key, side by side, the first. -/
def oneFrom (k : ByteArray) : List R → List R
  | [] => []
  | x :: l => if x.key = k then oneFrom k l else x :: oneFrom x.key l
def oneV : List R → List R
  | [] => []
  | x :: l => x :: oneFrom x.key l
theorem one_mem (k : ByteArray) (l : List R) (c : ByteArray) : c = k ∨ (∃ y ∈ oneFrom k l, y.key = c) ↔ c = k ∨ ∃ y ∈ l, y.key = c := by
  induction l generalizing k with
  | nil => rfl
  | cons x l ih =>
    simp only [oneFrom]
    by_cases e : x.key = k
    · rw [if_pos e, ih]
      constructor
      · rintro (h | ⟨y, hy, h⟩)
        · exact .inl h
        · exact .inr ⟨y, List.mem_cons_of_mem _ hy, h⟩
      · rintro (h | ⟨y, hy, h⟩)
        · exact .inl h
        · rcases List.mem_cons.1 hy with rfl | hy
          · exact .inl (h.symm.trans e)
          · exact .inr ⟨y, hy, h⟩
    · rw [if_neg e]
      have := ih x.key
      constructor
      · rintro (h | ⟨y, hy, h⟩)
        · exact .inl h
        · rcases List.mem_cons.1 hy with rfl | hy
          · exact .inr ⟨y, List.mem_cons_self, h⟩
          · rcases this.1 (.inr ⟨y, hy, h⟩) with h | ⟨y, hy, h⟩
            · exact .inr ⟨x, List.mem_cons_self, h.symm⟩
            · exact .inr ⟨y, List.mem_cons_of_mem _ hy, h⟩
      · rintro (h | ⟨y, hy, h⟩)
        · exact .inl h
        · rcases List.mem_cons.1 hy with rfl | hy
          · exact .inr ⟨y, List.mem_cons_self, h⟩
          · rcases this.2 (.inr ⟨y, hy, h⟩) with h | ⟨y, hy, h⟩
            · exact .inr ⟨x, List.mem_cons_self, h.symm⟩
            · exact .inr ⟨y, List.mem_cons_of_mem _ hy, h⟩
theorem strLt_ne {x y : ByteArray} (h : strLt x y = true) : x ≠ y := fun e => by subst e; rw [strLt_irrefl] at h; cases h
theorem oneFrom_ins (r : R) (k : ByteArray) (l : List R) (h : UpV k l) (hr : strLt r.key k = false) :
    oneFrom k (insV r l) = if r.key = k ∨ ∃ y ∈ l, y.key = r.key then oneFrom k l else insV r (oneFrom k l) := by
  classical
  induction l generalizing k with
  | nil => simp [insV, oneFrom]
  | cons x l ih =>
    simp only [insV]
    cases e : strLt r.key x.key with
    | true =>
      have hxr : x.key ≠ r.key := fun k => strLt_ne e k.symm
      have hall : ¬ ∃ y ∈ x :: l, y.key = r.key := by
        rintro ⟨y, hy, e2⟩
        rcases List.mem_cons.1 hy with rfl | hy
        · exact hxr e2
        · have := UpV.all h.2 y hy
          rw [e2, e] at this; cases this
      have hxk : x.key ≠ k := fun e2 => by rw [e2, hr] at e; cases e
      rw [if_pos rfl]
      by_cases hk : r.key = k
      · rw [if_pos (.inl hk)]
        show (if r.key = k then _ else _) = _
        rw [if_pos hk]
      · rw [if_neg (by rintro (h9 | h9); exact hk h9; exact hall h9)]
        simp only [oneFrom, if_neg hk, if_neg hxr, if_neg hxk, insV, e, if_true]
    | false =>
      rw [if_neg (by simp)]
      by_cases hxk : x.key = k
      · simp only [oneFrom, if_pos hxk]
        rw [ih k (hxk ▸ h.2) hr]
        have hiff : (r.key = k ∨ ∃ y ∈ l, y.key = r.key) ↔ (r.key = k ∨ ∃ y ∈ x :: l, y.key = r.key) := by
          constructor
          · rintro (h9 | ⟨y, hy, h9⟩)
            · exact .inl h9
            · exact .inr ⟨y, List.mem_cons_of_mem _ hy, h9⟩
          · rintro (h9 | ⟨y, hy, h9⟩)
            · exact .inl h9
            · rcases List.mem_cons.1 hy with rfl | hy
              · exact .inl (h9.symm.trans hxk)
              · exact .inr ⟨y, hy, h9⟩
        by_cases c : r.key = k ∨ ∃ y ∈ l, y.key = r.key
        · rw [if_pos c, if_pos (hiff.1 c)]
        · rw [if_neg c, if_neg (fun d => c (hiff.2 d))]
      · simp only [oneFrom, if_neg hxk]
        rw [ih x.key h.2 e]
        have hrk : r.key ≠ k := fun e2 => hxk (strLt_total h.1 (by rw [← e2]; exact e))
        have hiff : (r.key = x.key ∨ ∃ y ∈ l, y.key = r.key) ↔ (r.key = k ∨ ∃ y ∈ x :: l, y.key = r.key) := by
          constructor
          · rintro (h9 | ⟨y, hy, h9⟩)
            · exact .inr ⟨x, List.mem_cons_self, h9.symm⟩
            · exact .inr ⟨y, List.mem_cons_of_mem _ hy, h9⟩
          · rintro (h9 | ⟨y, hy, h9⟩)
            · exact absurd h9 hrk
            · rcases List.mem_cons.1 hy with rfl | hy
              · exact .inl h9.symm
              · exact .inr ⟨y, hy, h9⟩
        by_cases c : r.key = x.key ∨ ∃ y ∈ l, y.key = r.key
        · rw [if_pos c, if_pos (hiff.1 c)]
        · rw [if_neg c, if_neg (fun d => c (hiff.2 d))]
          simp only [insV, e, Bool.false_eq_true, if_false]
theorem oneV_ins (r : R) (l : List R) (h : AscV l) : oneV (insV r l) = putV (oneV l) r := by
  classical
  cases l with
  | nil => rfl
  | cons x l =>
    have hany : ((oneV (x :: l)).any fun y => decide (y.key = r.key)) = true ↔ r.key = x.key ∨ ∃ y ∈ l, y.key = r.key := by
      rw [← one_mem]
      simp only [oneV, List.any_cons, Bool.or_eq_true, decide_eq_true_eq, List.any_eq_true]
      constructor
      · rintro (h | h)
        · exact .inl h.symm
        · exact .inr h
      · rintro (h | h)
        · exact .inl h.symm
        · exact .inr h
    unfold putV
    simp only [insV]
    cases e : strLt r.key x.key with
    | true =>
      have hxr : x.key ≠ r.key := fun k => strLt_ne e k.symm
      have hall : ¬ (r.key = x.key ∨ ∃ y ∈ l, y.key = r.key) := by
        rintro (h1 | ⟨y, hy, e2⟩)
        · exact hxr h1.symm
        · have := UpV.all h y hy
          rw [e2, e] at this; cases this
      rw [if_pos rfl, if_neg (fun k => hall (hany.1 k))]
      simp only [oneV, oneFrom, if_neg hxr, insV, e, if_true]
    | false =>
      rw [if_neg (by simp)]
      show x :: oneFrom x.key (insV r l) = _
      rw [oneFrom_ins r x.key l h e]
      by_cases c : r.key = x.key ∨ ∃ y ∈ l, y.key = r.key
      · rw [if_pos c, if_pos (hany.2 c)]; rfl
      · rw [if_neg c, if_neg (fun k => c (hany.1 k))]
        simp only [oneV, insV, e, Bool.false_eq_true, if_false]
theorem sortV_snoc (l : List R) (r : R) : sortV (l ++ [r]) = insV r (sortV l) := by simp [sortV]
/-- The rows that are not quiet, sorted, one of each key: a report built row by row. -/
theorem report_sorted (l : List R) (h : ∀ r ∈ l, quietV r = false → r.kind ≠ 0) : oneV (sortV (l.filter fun r => !quietV r)) = l.foldl addV [] := by
  have main : ∀ (n : Nat) (l : List R), l.length = n → (∀ r ∈ l, quietV r = false → r.kind ≠ 0) → oneV (sortV (l.filter fun r => !quietV r)) = l.foldl addV [] := by
    intro n
    induction n with
    | zero => intro l hl _; rw [List.length_eq_zero_iff.1 hl]; rfl
    | succ n ih =>
      intro l hl h
      have hne : l ≠ [] := fun e => by rw [e] at hl; cases hl
      rw [← List.dropLast_concat_getLast hne] at h ⊢
      generalize hx : l.getLast hne = x at h ⊢
      have hl2 : l.dropLast.length = n := by rw [List.length_dropLast, hl]; omega
      generalize l.dropLast = m at h hl2 ⊢
      rw [List.filter_append, List.foldl_append, ← ih m hl2 (fun r hr => h r (List.mem_append_left _ hr))]
      simp only [List.foldl_cons, List.foldl_nil, addV]
      cases q : quietV x with
      | true => simp [q]
      | false =>
        rw [if_pos ⟨h x (by simp) q, rfl⟩, show [x].filter (fun r => !quietV r) = [x] by simp [q], sortV_snoc, oneV_ins _ _ (asc_sort _)]
  exact main _ l rfl h
/-- Of the first m rows those whose place is kept. -/
def keptL (kp : Nat → Bool) (l : List R) (m : Nat) : List R := ((List.range m).filter kp).map fun j => l.getD j zeroR
theorem keptL_succ (kp : Nat → Bool) (l : List R) (m : Nat) : keptL kp l (m + 1) = keptL kp l m ++ (if kp m = true then [l.getD m zeroR] else []) := by
  unfold keptL
  rw [List.range_succ, List.filter_append, List.map_append]
  congr 1
  cases h : kp m <;> simp [h]
theorem take_next (l : List R) (m : Nat) (h : m < l.length) : l.take (m + 1) = l.take m ++ [l.getD m zeroR] := by
  rw [List.take_add_one, List.getD_eq_getElem?_getD, List.getElem?_eq_getElem h]
  rfl
theorem keptL_all {kp : Nat → Bool} {l : List R} {m : Nat} (hm : m ≤ l.length) (h : ∀ j, j < m → kp j = true) : keptL kp l m = l.take m := by
  induction m with
  | zero => rfl
  | succ m ih => rw [keptL_succ, ih (by omega) (fun j hj => h j (by omega)), h m (by omega), if_pos rfl, ← take_next l m (by omega)]
theorem keptL_le (kp : Nat → Bool) (l : List R) (m : Nat) : (keptL kp l m).length ≤ m := by
  unfold keptL
  rw [List.length_map]
  exact Nat.le_trans (List.length_filter_le _ _) (by simp)
/-- The rows as the loop that strikes some of them leaves them: what is kept at the head, then what was there. -/
def strikeV (kp : Nat → Bool) (l : List R) (m : Nat) : List R := keptL kp l m ++ l.drop (keptL kp l m).length
theorem strikeV_length {kp : Nat → Bool} {l : List R} {m : Nat} (hm : m ≤ l.length) : (strikeV kp l m).length = l.length := by
  have := keptL_le kp l m
  rw [strikeV, List.length_append, List.length_drop]; omega
theorem strikeV_start {kp : Nat → Bool} {l : List R} {k : Nat} (hk : k < l.length) (hall : ∀ j, j < k → kp j = true) (hno : kp k = false) : keptL kp l (k + 1) = l.take k ∧ strikeV kp l (k + 1) = l := by
  have e : keptL kp l (k + 1) = l.take k := by rw [keptL_succ, hno, keptL_all (by omega) hall]; simp
  refine ⟨e, ?_⟩
  rw [strikeV, e, List.length_take, Nat.min_eq_left (by omega), List.take_append_drop]
theorem strikeV_high {kp : Nat → Bool} {l : List R} {m : Nat} (j : Nat) (hj : (keptL kp l m).length ≤ j) : (strikeV kp l m).getD j zeroR = l.getD j zeroR := by
  rw [strikeV, List.getD_eq_getElem?_getD, List.getElem?_append_right hj, List.getElem?_drop, List.getD_eq_getElem?_getD]
  congr 2; omega
theorem strikeV_skip {kp : Nat → Bool} {l : List R} {m : Nat} (h : kp m = false) : keptL kp l (m + 1) = keptL kp l m ∧ strikeV kp l (m + 1) = strikeV kp l m := by
  have e : keptL kp l (m + 1) = keptL kp l m := by rw [keptL_succ, h]; simp
  exact ⟨e, by rw [strikeV, e]; rfl⟩
theorem strikeV_keep {kp : Nat → Bool} {l : List R} {m : Nat} (hm : m < l.length) (h : kp m = true) :
    (keptL kp l (m + 1)).length = (keptL kp l m).length + 1 ∧ strikeV kp l (m + 1) = (strikeV kp l m).set (keptL kp l m).length (l.getD m zeroR) := by
  have e : keptL kp l (m + 1) = keptL kp l m ++ [l.getD m zeroR] := by rw [keptL_succ, h]; simp
  have hle := keptL_le kp l m
  refine ⟨by rw [e]; simp, ?_⟩
  unfold strikeV
  rw [List.set_append_right _ _ (Nat.le_refl _), Nat.sub_self, e, List.append_assoc]
  congr 1
  rw [List.length_append, List.length_singleton, List.drop_eq_getElem_cons (by omega : (keptL kp l m).length < l.length), List.set_cons_zero]
  rfl
theorem strikeV_done (kp : Nat → Bool) (l : List R) (m : Nat) : (strikeV kp l m).take (keptL kp l m).length = keptL kp l m := by
  rw [strikeV, List.take_left]
theorem keptL_filter (f : R → Bool) (l : List R) : keptL (fun j => f (l.getD j zeroR)) l l.length = l.filter f := by
  have : ∀ m, m ≤ l.length → keptL (fun j => f (l.getD j zeroR)) l m = (l.take m).filter f := by
    intro m
    induction m with
    | zero => intro _; rfl
    | succ m ih =>
      intro hm
      rw [keptL_succ, ih (by omega), take_next l m (by omega), List.filter_append]
      congr 1
      generalize l.getD m zeroR = x
      cases h : f x <;> simp [h]
  rw [this _ (Nat.le_refl _), List.take_length]
def lastKey (k : ByteArray) : List R → ByteArray
  | [] => k
  | x :: l => lastKey x.key l
theorem lastKey_snoc (k : ByteArray) (l : List R) (x : R) : lastKey k (l ++ [x]) = x.key := by
  induction l generalizing k with
  | nil => rfl
  | cons y l ih => exact ih y.key
theorem oneFrom_snoc (k : ByteArray) (l : List R) (x : R) : oneFrom k (l ++ [x]) = oneFrom k l ++ (if x.key = lastKey k l then [] else [x]) := by
  induction l generalizing k with
  | nil =>
    show (if x.key = k then oneFrom k [] else x :: oneFrom x.key []) = [] ++ (if x.key = k then [] else [x])
    by_cases c : x.key = k
    · rw [if_pos c, if_pos c]; rfl
    · rw [if_neg c, if_neg c]; rfl
  | cons y l ih =>
    simp only [List.cons_append, oneFrom, lastKey]
    by_cases e : y.key = k
    · rw [if_pos e, if_pos e, ih, ← e]
      congr 1
    · rw [if_neg e, if_neg e, ih]; rfl
/-- Is the row at place j another key's than the one ahead of it? -/
def newKey (l : List R) (j : Nat) : Bool := decide (j = 0) || !decide ((l.getD j zeroR).key = (l.getD (j - 1) zeroR).key)
theorem keptL_one (l : List R) : keptL (newKey l) l l.length = oneV l := by
  have : ∀ m, m ≤ l.length → keptL (newKey l) l m = oneV (l.take m) := by
    intro m
    induction m with
    | zero => intro _; rfl
    | succ m ih =>
      intro hm
      rw [keptL_succ, ih (by omega), take_next l m (by omega)]
      cases m with
      | zero => simp [newKey, oneV, oneFrom]
      | succ m =>
        obtain ⟨x, t, e⟩ : ∃ x t, l.take (m + 1) = x :: t := by
          cases hl : l with
          | nil => rw [hl] at hm; simp at hm
          | cons x t => exact ⟨x, _, List.take_succ_cons⟩
        have hlast : lastKey x.key t = (l.getD m zeroR).key := by
          have e2 := take_next l m (by omega)
          rw [e] at e2
          have : lastKey x.key (x :: t) = (l.getD m zeroR).key := by rw [e2]; exact lastKey_snoc _ _ _
          exact this
        rw [e]
        show oneV (x :: t) ++ _ = x :: oneFrom x.key (t ++ [_])
        rw [oneFrom_snoc, hlast]
        show x :: (oneFrom x.key t ++ _) = x :: (oneFrom x.key t ++ _)
        congr 2
        by_cases c : (l.getD (m + 1) zeroR).key = (l.getD m zeroR).key
        · simp only [newKey, Nat.add_sub_cancel, c, if_true]; simp
        · simp only [newKey, Nat.add_sub_cancel, c, if_false]; simp
  rw [this _ (Nat.le_refl _), List.take_length]
end Go.Proofs.YtlnkjpacjbhncaaGreatDoor
/-
  Chapter 6 in plain words, once more: the slot at which a key's way ends, and what is there.
-/
namespace Go.Proofs.YtlnkjpacjbhncaaGreatDoor
open Go.RowKit M
set_option linter.unusedVariables false
/-- What a slot at which the way ends says. -/
def Ends (zs : List Int) (key : ByteArray) (r : Int × Int × Int) : Prop :=
  ∃ p, 0 ≤ p ∧ p ≤ 3 ∧ ((r = (-1, 0, p) ∧ cellK zs p = 0) ∨ ∃ kd, r = (p, kd, -1) ∧ cellK zs p ≠ 0 ∧ untagV (cellK zs p) = some (key, kd))
theorem stepF_ends {zs : List Int} {key : ByteArray} (hk : keyOkV key = true) {n : Nat} (hn : n < 4) {r : Int × Int × Int} (h : stepF zs key n = some r) : Ends zs key r := by
  have hp := probe_bd hk hn
  unfold stepF at h
  split at h
  · rename_i hx
    injection h with h; subst h
    exact ⟨_, hp.1, hp.2, Or.inl ⟨rfl, hx⟩⟩
  · rename_i hx
    split at h
    · split at h
      · rename_i k kd hu he
        injection h with h; subst h; subst he
        exact ⟨_, hp.1, hp.2, Or.inr ⟨kd, rfl, hx, hu⟩⟩
      · cases h
    · cases h
theorem findV_ends (zs : List Int) {key : ByteArray} (hk : keyOkV key = true) : findV zs key = (-1, 0, -1) ∨ Ends zs key (findV zs key) := by
  cases h0 : stepF zs key (0 : Nat) with
  | some r => exact Or.inr (by rw [findV_at (n := 0) (by omega) (fun m hm => by omega) h0]; exact stepF_ends hk (by omega) h0)
  | none =>
    have n1 := none_next (n := 0) (fun m hm => absurd hm (Nat.not_lt_zero _)) h0
    cases h1 : stepF zs key (1 : Nat) with
    | some r => exact Or.inr (by rw [findV_at (n := 1) (by omega) n1 h1]; exact stepF_ends hk (by omega) h1)
    | none =>
      have n2 := none_next n1 h1
      cases h2 : stepF zs key (2 : Nat) with
      | some r => exact Or.inr (by rw [findV_at (n := 2) (by omega) n2 h2]; exact stepF_ends hk (by omega) h2)
      | none =>
        have n3 := none_next n2 h2
        cases h3 : stepF zs key (3 : Nat) with
        | some r => exact Or.inr (by rw [findV_at (n := 3) (by omega) n3 h3]; exact stepF_ends hk (by omega) h3)
        | none => exact Or.inl (findV_none (none_next n3 h3))
/-- The slot of such an answer: the key's, or the free one; -1 for none. -/
def slotE (r : Int × Int × Int) : Int := if 0 ≤ r.1 then r.1 else r.2.2
theorem slotE_free (p : Int) : slotE (-1, 0, p) = p := rfl
theorem slotE_found {p : Int} (h : 0 ≤ p) (kd e : Int) : slotE (p, kd, e) = p := if_pos h
theorem untagV_zero : untagV 0 = none := rfl
/-- A valid table's cell that is found again carries the very tag. -/
theorem tag_same {zs : List Int} {p : Int} {key : ByteArray} {kd k : Int} (hu : untagV (cellK zs p) = some (key, kd)) (hk : 1 ≤ k ∧ k ≤ 3) : (cellK zs p != tagV key k) = !decide (kd = k) := by
  obtain ⟨e, hkey, hd⟩ := tag_untag hu
  rw [← e, tagV_yes hkey hd, tagV_yes hkey hk]
  by_cases h : kd = k
  · subst h; simp
  · rw [decide_eq_false h, Bool.not_false, bne_iff_ne]; omega
end Go.Proofs.YtlnkjpacjbhncaaGreatDoor
/-
  A statement that draws its order, whose last operation (a store) waits for all others, while those only read (their calls may make memory): walked once, in the text's order, over a class of worlds; then the last one.
-/
namespace Go.Proofs.YtlnkjpacjbhncaaGreatDoor
open Go.RowKit
set_option linter.unusedVariables false
/-- A class of worlds, behind a structure. -/
structure HoldsC (F : World → Prop) (w : World) : Prop where
  out : F w
section
variable {P : Program} {md : Region.Mode} {ops : Array Oper} {C : World → Prop}
/-- Whatever order is picked, till the first n are listed. -/
def wpPre (P : Program) (md : Region.Mode) (ops : Array Oper) (C : World → Prop) (n : Nat) (Q : Array Bool → Act → Prop) : Nat → Array Bool → Act → Prop
  | 0, listed, a => (∀ k, k < n → listed.getD k true = true) ∧ Q listed a
  | fuel + 1, listed, a => Region.ready md ops listed ≠ [] ∧ ∀ i ∈ Region.ready md ops listed, qOp P ops C i (wpPre P md ops C n Q fuel (listed.setIfInBounds i true)) a
theorem wpAny_of_pre {n m : Nat} {Q : Array Bool → Act → Prop} {Q' : Exit → Act → World → Prop} (hQ : ∀ listed a w, C w → Q listed a → wpAny P md ops Q' m listed a w) : ∀ (fuel : Nat) (listed : Array Bool) (a : Act) (w : World), C w →
    wpPre P md ops C n Q fuel listed a → wpAny P md ops Q' (fuel + m) listed a w
  | 0, _, _, _, hw, h => by rw [Nat.zero_add]; exact hQ _ _ _ hw h.2
  | fuel + 1, _, _, _, hw, h => by
    rw [show fuel + 1 + m = (fuel + m) + 1 by omega]
    exact ⟨fun h0 => absurd h0 h.1, fun i hi => wpOp_of_qOp hw (fun a' w' hw' => wpAny_of_pre hQ fuel _ a' w' hw') (h.2 i hi)⟩
theorem getD_set_self {listed : Array Bool} {i : Nat} : (listed.setIfInBounds i true).getD i true = true := by
  simp only [Array.getD_eq_getD_getElem?, Array.getElem?_setIfInBounds]
  split
  · split <;> rfl
  · contradiction
theorem wpPre_first {n : Nat} {Q : Array Bool → Act → Prop} {i : Nat} {oi : Oper} {v : Value} (hi : ops[i]? = some oi) (hin : i < n) (hsel : ∀ (j : Nat) (o : Oper) cs b, ops[j]? = some o → o.op ≠ .select cs b)
    (hpost : ∀ j oj, ops[j]? = some oj → n ≤ j → ∀ k, k < n → ∃ e ∈ oj.after, Region.binds md e = true ∧ e.on = k) :
    ∀ (fuel : Nat) (listed : Array Bool) (a : Act),
      (∀ j oj, ops[j]? = some oj → j ≠ i → listed.getD j true = false → (∀ e ∈ oj.after, Region.binds md e = true → e.on ≠ i) → oi.apart ops oj = true) →
      i ∈ Region.ready md ops listed → YieldsIn P ops C oi v a →
      wpPre P md ops C n Q fuel (listed.setIfInBounds i true) (a.put oi.dst v) → wpPre P md ops C n Q (fuel + 1) listed a := by
  have hun : ∀ {listed : Array Bool} {j : Nat}, i ∈ Region.ready md ops listed → j ∈ Region.ready md ops listed → n ≤ j → False := by
    intro listed j hr hj hnj
    obtain ⟨_, oj, hoj, hall⟩ := mem_ready.1 hj
    obtain ⟨e, he, hb, rfl⟩ := hpost j oj hoj hnj i hin
    have h1 := hall e he hb
    have h0 := (mem_ready.1 hr).1
    rcases Nat.lt_or_ge e.on listed.size with h' | h'
    · simp [h'] at h0 h1; rw [h0] at h1; cases h1
    · simp [Array.getElem?_eq_none h'] at h1
  intro fuel
  induction fuel with
  | zero =>
    intro listed a _ hr hy H
    refine ⟨fun h => (by rw [h] at hr; cases hr), fun j hj => ?_⟩
    by_cases hji : j = i
    · subst hji; exact hy.qOp hi H
    · exfalso
      rcases Nat.lt_or_ge j n with h1 | h1
      · have h2 := H.1 j h1
        rw [getD_set_ne true (Ne.symm hji), (mem_ready.1 hj).1] at h2
        cases h2
      · exact hun hr hj h1
  | succ fuel ih =>
    intro listed a hfree hr hy H
    refine ⟨fun h => (by rw [h] at hr; cases hr), fun j hj => ?_⟩
    by_cases hji : j = i
    · subst hji; exact hy.qOp hi H
    · have h1 := H.2 j (ready_mono hj hji)
      obtain ⟨hjun, oj, hoj, hall⟩ := mem_ready.1 hj
      have hnot : ∀ e ∈ oj.after, Region.binds md e = true → e.on ≠ i := fun e he hb heq => by
        have h1 := hall e he hb
        have h0 := (mem_ready.1 hr).1
        rw [heq] at h1
        rcases Nat.lt_or_ge i listed.size with h' | h'
        · simp [h'] at h0 h1; rw [h0] at h1; cases h1
        · simp [Array.getElem?_eq_none h'] at h1
      have h2 := qOp_put hoj (hfree j oj hoj hji hjun hnot) (fun cs b => hsel i oi cs b hi) (fun cs b => hsel j oj cs b hoj) hy h1
      have hfree' : ∀ k ok, ops[k]? = some ok → k ≠ i → (listed.setIfInBounds j true).getD k true = false →
          (∀ e ∈ ok.after, Region.binds md e = true → e.on ≠ i) → oi.apart ops ok = true := fun k ok hk hki hun hno => by
        refine hfree k ok hk hki ?_ hno
        by_cases hjk : j = k
        · subst hjk; exact hjun
        · rw [getD_set_ne true hjk] at hun; exact hun
      refine qOp_mono (fun a' h3 => ih (listed.setIfInBounds j true) a' hfree' (ready_mono hr (Ne.symm hji)) h3.1 ?_) h2
      rw [Array.setIfInBounds_comm _ _ hji]
      exact h3.2
/-- The first so many may be taken in the text's order; when they are listed, what is ready is the last one. -/
def preB (md : Region.Mode) (ops : Array Oper) (n : Nat) : Nat → Nat → Array Bool → Bool
  | 0, k, listed => ((List.range n).all fun j => listed.getD j true) && (Region.ready md ops listed == [n]) && (Region.ready md ops (listed.setIfInBounds n true)).isEmpty
  | fuel + 1, k, listed => decide (k < n) && ((Region.ready md ops listed).contains k && Region.free md ops listed k && preB md ops n fuel (k + 1) (listed.setIfInBounds k true))
def postB (md : Region.Mode) (ops : Array Oper) (n : Nat) : Bool := (List.range ops.size).all fun j => decide (j < n) || match ops[j]? with
  | some o => (List.range n).all fun k => o.after.any fun e => Region.binds md e && e.on == k
  | none => true
def tailB (md : Region.Mode) (ops : Array Oper) (n : Nat) : Bool := Region.noSelect ops && (postB md ops n && (decide (ops.size = n + 1) && preB md ops n n 0 (Array.replicate ops.size false)))
theorem post_spec {n : Nat} (h : postB md ops n = true) (j : Nat) (oj : Oper) (hj : ops[j]? = some oj) (hn : n ≤ j) (k : Nat) (hk : k < n) : ∃ e ∈ oj.after, Region.binds md e = true ∧ e.on = k := by
  unfold postB at h
  rw [List.all_eq_true] at h
  have h1 := h j (List.mem_range.2 (Array.getElem?_eq_some_iff.1 hj).1)
  rw [hj, decide_eq_false (by omega), Bool.false_or] at h1
  simp only [List.all_eq_true] at h1
  have h2 := h1 k (List.mem_range.2 hk)
  rw [Array.any_eq_true] at h2
  obtain ⟨i, hi, h3⟩ := h2
  rw [Bool.and_eq_true, beq_iff_eq] at h3
  exact ⟨oj.after[i], Array.getElem_mem hi, h3.1, h3.2⟩
theorem wpPre_lex {n : Nat} {Q : Act → Prop} (hs : Region.noSelect ops = true) (hp : postB md ops n = true) : ∀ (l : List Oper) (k : Nat) (listed : Array Bool) (a : Act), (∀ j, j < l.length → l[j]? = ops[k + j]?) →
    preB md ops n l.length k listed = true → wpQuiet P ops C Q l a → wpPre P md ops C n (fun listed a => (Region.ready md ops listed = [n] ∧ Region.ready md ops (listed.setIfInBounds n true) = []) ∧ Q a) l.length listed a
  | [], _, _, _, _, hB, h => by
    simp only [List.length_nil, preB, Bool.and_eq_true, List.all_eq_true, List.mem_range, beq_iff_eq, List.isEmpty_iff] at hB
    exact ⟨hB.1.1, ⟨hB.1.2, hB.2⟩, h⟩
  | o :: l, k, listed, a, hl, hB, h => by
    have h0 : ops[k]? = some o := by simpa using (hl 0 (by simp)).symm
    simp only [List.length_cons, preB, Bool.and_eq_true, decide_eq_true_eq] at hB
    obtain ⟨hk, ⟨hr, hf⟩, hB'⟩ := hB
    have hst : qOp P ops C k (wpQuiet P ops C Q l) a := by unfold qOp; simp only [h0]; exact h
    obtain ⟨v, hy, hK⟩ := yieldsIn_of_qOp h0 hst
    exact wpPre_first h0 hk (Region.noSelect_spec hs) (post_spec hp) l.length listed a (Region.free_spec h0 hf) (by simpa using hr) hy
      (wpPre_lex hs hp l (k + 1) _ _ (fun j hj => by have := hl (j + 1) (by simpa using hj); simpa [Nat.add_assoc, Nat.add_comm 1 j] using this) hB' hK)
end
/-- The walk of all but the last operation, then the last one in whatever world of the class. -/
theorem wp_region_tail {P : Program} {C : World → Prop} {id : Nat} {Q : Exit → Act → World → Prop} {a : Act} {w : World} {l : List Oper} {o : Oper} (hm : P.follows .mixedOrders = true) (hB : tailB .any (l ++ [o]).toArray l.length = true) (hC : C w.drew)
    (h : WQ P (l ++ [o]).toArray C (fun a' => ∀ w', C w' → (Region.wanted o (yielded (l ++ [o]).toArray a'.tmps) = true ∧ o.wp P a' w' (fun a'' w'' => Q .normal a'' w'') Q)) l a) : (Code.region id (l ++ [o]).toArray true).wp P Q a w := by
  simp only [tailB, Bool.and_eq_true, decide_eq_true_eq] at hB
  obtain ⟨hs, hp, hz, hpre⟩ := hB
  refine wp_region_any hm ?_
  rw [hz]
  rw [hz] at hpre
  refine wpAny_of_pre (C := C) (m := 1) (Q := fun listed a' => (Region.ready .any (l ++ [o]).toArray listed = [l.length] ∧ Region.ready .any (l ++ [o]).toArray (listed.setIfInBounds l.length true) = []) ∧ ∀ w', C w' → (Region.wanted o (yielded (l ++ [o]).toArray a'.tmps) = true ∧ o.wp P a' w' (fun a'' w'' => Q .normal a'' w'') Q)) ?_ l.length _ _ _ hC
    (wpPre_lex hs hp l 0 _ a (fun j hj => by rw [Nat.zero_add]; simp [List.getElem?_append_left hj]) hpre h.run)
  intro listed a' w' hw ⟨⟨hr, hr2⟩, hq⟩
  obtain ⟨h1, h2⟩ := hq w' hw
  refine ⟨fun h0 => (by rw [hr] at h0; cases h0), fun i hi => ?_⟩
  rw [hr] at hi
  obtain rfl : i = l.length := by simpa using hi
  unfold wpOp
  have ho : (l ++ [o]).toArray[l.length]? = some o := by simp
  simp only [ho, h1, if_true]
  refine .inl ?_
  have hK : (wpAny P .any (l ++ [o]).toArray Q 0 (listed.setIfInBounds l.length true)) = fun a'' w'' => Q .normal a'' w'' := by
    funext a'' w''
    unfold wpAny
    simp only [hr2, true_and]
  rw [hK]
  exact h2
/-- The same at a region written out. -/
theorem wp_region_tail_lit {P : Program} {C : World → Prop} {id : Nat} {Q : Exit → Act → World → Prop} {a : Act} {w : World} {L : List Oper} {o : Oper} (hm : P.follows .mixedOrders = true) (hB : tailB .any L.toArray (L.length - 1) = true) (ho : L.getLast? = some o) (hC : C w.drew)
    (h : WQ P L.toArray C (fun a' => ∀ w', C w' → (Region.wanted o (yielded L.toArray a'.tmps) = true ∧ o.wp P a' w' (fun a'' w'' => Q .normal a'' w'') Q)) L.dropLast a) : (Code.region id L.toArray true).wp P Q a w := by
  have e : L = L.dropLast ++ [o] := by
    cases L with
    | nil => cases ho
    | cons x l =>
      rw [List.getLast?_eq_some_getLast (by simp)] at ho
      injection ho with ho
      rw [← ho]; exact (List.dropLast_concat_getLast (by simp)).symm
  have hn : L.length - 1 = L.dropLast.length := by rw [List.length_dropLast]
  rw [hn] at hB
  generalize L.dropLast = l at *
  subst e
  exact wp_region_tail hm hB hC h
end Go.Proofs.YtlnkjpacjbhncaaGreatDoor
/-
  The exact laws' helpers on the record KRow and on rows of it: the copy, the size, comparing two.
-/
namespace Go.Proofs.YtlnkjpacjbhncaaGreatDoor
open Go.RowKit M
set_option linter.unusedVariables false
set_option linter.unusedSimpArgs false
set_option maxRecDepth 100000 in
set_option maxHeartbeats 800000 in
theorem eqKRow_same (w : World) (r : KR) : Calls Tryz.prog 49 #[r.v, r.v] w (Gives (.bool true) w) := by
  obtain ⟨key_, kind_⟩ := r
  unfold KR.v
  simp only
  go_enter Tryz.func49, Tryz.ntmps49
  go_wp2_with fail
  go_ret
  exact ⟨rfl, ((Below.refl _ _).alloc (Nat.le_refl _) _).alloc (by simp [go_sem]) _⟩
set_option maxRecDepth 100000 in
set_option maxHeartbeats 1000000 in
theorem eqKRowS_same (w : World) (v u : Value) (l : List KR) (h : RecsArg 2 krCells zeroKR w v l) (k : RecsArg 2 krCells zeroKR w u l) : Calls Tryz.prog 24 #[v, u] w (Gives (.bool true) w) := by
  obtain ⟨A, cap, rfl, h1, h2, h3⟩ := h
  obtain ⟨A', cap', rfl, k1, k2, k3⟩ := k
  generalize hn : l.length = n at *
  clear hn
  unfold maxLen at h2 k2
  have H4 := Lib.hid h3
  have K4 := Lib.hid k3
  clear h3 k3
  go_enter Tryz.func24, Tryz.ntmps24
  go_wp2_with fail
  go_loopw [5] (fun i wr => ∃ j : Nat, j ≤ n ∧ i = .int .i64 j ∧ Below w.heap.size w wr) (fun i _ => n - (intOf i).toNat)
  case atStart => exact ⟨0, Nat.zero_le _, rfl, Below.refl _ _⟩
  case round =>
    obtain ⟨j, hj, rfl, hbl⟩ := hrel
    by_cases hlt : j < n
    · obtain ⟨b, off, rfl, hb, hc⟩ := H4.out (by omega)
      obtain ⟨b', off', rfl, hb', hc'⟩ := K4.out (by omega)
      have HX := Lib.hid (hc j hlt)
      have HY := Lib.hid (hc' j hlt)
      have HR := fun W => Lib.hid (eqKRow_same W (l.getD j zeroKR))
      have HS := Lib.hid (show Below w.heap.size w wr.drew from hbl.trans (below_drew _ _))
      clear hc hc' hbl
      generalize l.getD j zeroKR = r at *
      obtain ⟨key_, kind_⟩ := r
      unfold KR.v at HR
      simp only at HR
      have hjn : (j : Int) < (n : Int) := by omega
      go_wp2_with fail
      have HCL := (⟨HS.out⟩ : HoldsC (fun W => Below w.heap.size w W) _)
      have hall : ∀ p : Prop, (∀ W, HoldsC (fun W => Below w.heap.size w W) W → p) ↔ p := fun p => ⟨fun h => h _ HCL, fun h _ _ => h⟩
      refine wp_region_wq (C := HoldsC (fun W => Below w.heap.size w W)) (by kernel_rfl) (by kernel_rfl) HCL ?_
      repeat (refine WQ.step (fun K hK => ?_); go_simp; first | (refine hK _ ?_; clear hK K) | (apply Exists.intro; refine ⟨fun W hW => ?_, hK _ ?_⟩; (focus (first | (go_at_call 49; (with_reducible refine Calls.mono (Hid.out (HR _)) ?_); rintro e w' ⟨rfl, hb'⟩; exact ⟨rfl, ⟨hW.out.trans (hb'.mono hW.out.size)⟩⟩) | exact rfl | (obtain hB := hW.out; obtain ⟨x0, x1⟩ := atKRow (HX.out.below hb hB); obtain ⟨y0, y1⟩ := atKRow (HY.out.below hb' hB); simp only at *; go_simp; rfl))); clear hK K))
      refine WQ.nil ?_
      intro W hW
      obtain hB := hW.out; obtain ⟨x0, x1⟩ := atKRow (HX.out.below hb hB); obtain ⟨y0, y1⟩ := atKRow (HY.out.below hb' hB); simp only at *
      clear hall HCL
      have HB := Lib.hid hW.out
      clear hW
      go_wp2_with fail
      go_roundw
      case rel => exact ⟨j + 1, by omega, by go_num, HB.out⟩
      case measure => simp [intOf]; omega
    · have HB := Lib.hid hbl
      clear hbl
      go_wp2_with fail
      go_ret
      exact ⟨rfl, HB.out⟩
end Go.Proofs.YtlnkjpacjbhncaaGreatDoor
/-
  A heap of own rows, apart from one another: what calls and stores leave of it.
-/
namespace Go.Proofs.YtlnkjpacjbhncaaGreatDoor
open Go.RowKit M
set_option linter.unusedVariables false
/-- v's block, if it has one, is not u's. -/
def Ap (v u : Value) : Prop := v.ownBlock = none ∨ v.ownBlock ≠ u.ownBlock
theorem Ap.of {v u : Value} {B : Nat} (hv : ∀ k, v.ownBlock = some k → k < B) (hu : ∀ k, u.ownBlock = some k → B ≤ k) : Ap v u ∧ Ap u v := by
  cases ev : v.ownBlock with
  | none => exact ⟨.inl ev, by cases eu : u.ownBlock with
      | none => exact .inl eu
      | some k => exact .inr (by rw [eu, ev]; intro h; cases h)⟩
  | some k =>
    have h1 := hv k ev
    refine ⟨.inr ?_, ?_⟩
    · rw [ev]; intro h; have := hu k h.symm; omega
    · cases eu : u.ownBlock with
      | none => exact .inl eu
      | some j => exact .inr (by rw [eu, ev]; intro h; injection h with h; have := hu j eu; omega)
theorem Ap.symm {v u : Value} (h : Ap v u) : Ap u v := by
  cases eu : u.ownBlock with
  | none => exact .inl eu
  | some j =>
    refine .inr ?_
    rcases h with h | h
    · rw [eu, h]; intro k; cases k
    · exact fun k => h (by rw [k])
/-- One own row: the slice value, the type of an element, an element's cells, how many elements, all cells. -/
structure Rw where
  v : Value
  t : TypeId
  F : Nat
  n : Nat
  cs : List Value
def Rw.own (w : World) (base : Nat) (r : Rw) : Prop := w.ownsRow base r.t r.F r.v r.n r.cs
/-- The rows are the call's own, each in a block of its own. -/
structure Heap (w : World) (base : Nat) (L : List Rw) : Prop where
  own : ∀ r ∈ L, r.own w base
  ap : L.Pairwise fun a b => Ap a.v b.v ∧ Ap b.v a.v
theorem Heap.nil (w : World) (base : Nat) : Heap w base [] := ⟨fun r h => (by cases h), List.Pairwise.nil⟩
theorem Heap.lt {w : World} {base : Nat} {L : List Rw} (h : Heap w base L) {r : Rw} (hr : r ∈ L) : ∀ k, r.v.ownBlock = some k → k < w.heap.size := fun k hk => (World.ownsRow.lt (h.own r hr) k hk).2
theorem Heap.base_le {w : World} {base : Nat} {L : List Rw} (h : Heap w base L) {r : Rw} (hr : r ∈ L) : ∀ k, r.v.ownBlock = some k → base ≤ k := fun k hk => (World.ownsRow.lt (h.own r hr) k hk).1
theorem Rw.own_base {w : World} {b b' : Nat} {r : Rw} (h : r.own w b) (hb : b' ≤ b) : r.own w b' := by
  rcases h.2 with ⟨h1, h2⟩ | ⟨g, cap, cur, h1, h2, h3⟩
  · exact ⟨h.1, .inl ⟨h1, h2⟩⟩
  · exact ⟨h.1, .inr ⟨g, cap, cur, h1, Nat.le_trans hb h2, h3⟩⟩
theorem Heap.base {w : World} {b b' : Nat} {L : List Rw} (h : Heap w b L) (hb : b' ≤ b) : Heap w b' L := ⟨fun r hr => Rw.own_base (h.own r hr) hb, h.ap⟩
/-- What a call or a store outside leaves. -/
theorem Heap.grown {w w' : World} {base : Nat} {L : List Rw} {row : Option Nat} (h : Heap w base L) (hg : w.grownBy w' row) (hne : ∀ r ∈ L, r.v.ownBlock = none ∨ r.v.ownBlock ≠ row) : Heap w' base L :=
  ⟨fun r hr => World.ownsRow.kept (h.own r hr) hg (hne r hr), h.ap⟩
theorem Heap.below {w w' : World} {base : Nat} {L : List Rw} (h : Heap w base L) (hb : Below w.heap.size w w') : Heap w' base L :=
  h.grown (row := none) ⟨hb.os, hb.tape, hb.output, hb.size, fun i hi _ => hb.block i hi⟩ (fun r _ => by cases r.v.ownBlock <;> simp)
theorem Heap.alloc {w : World} {base : Nat} {L : List Rw} (h : Heap w base L) (o : Obj) : Heap (w.alloc o) base L := ⟨fun r hr => World.ownsRow.alloc (h.own r hr) o, h.ap⟩
theorem Heap.sub {w : World} {base : Nat} {L M : List Rw} (h : Heap w base L) (hs : List.Sublist M L) : Heap w base M := ⟨fun r hr => h.own r (hs.mem hr), h.ap.sublist hs⟩
/-- Two heaps of which one was made behind the other. -/
theorem Heap.join {w : World} {base B : Nat} {L M : List Rw} (h : Heap w base L) (k : Heap w B M) (hB : base ≤ B) (hlt : ∀ r ∈ L, ∀ b, r.v.ownBlock = some b → b < B) : Heap w base (L ++ M) := by
  refine ⟨fun r hr => ?_, ?_⟩
  · rcases List.mem_append.1 hr with h1 | h1
    · exact h.own r h1
    · exact Rw.own_base (k.own r h1) hB
  · rw [List.pairwise_append]
    exact ⟨h.ap, k.ap, fun a ha b hb => Ap.of (hlt a ha) (k.base_le hb)⟩
theorem Heap.one {w : World} {base : Nat} {r : Rw} (h : r.own w base) : Heap w base [r] := ⟨fun x hx => by rw [List.mem_singleton.1 hx]; exact h, List.pairwise_singleton _ _⟩
/-- A store into one of the rows. -/
theorem Heap.set {w : World} {base g n cap : Nat} {A M : List Rw} {t : TypeId} {F : Nat} {cs : List Value} (h : Heap w base (A ++ ⟨.slice (some ⟨g, 0, none⟩) n cap, t, F, n, cs⟩ :: M)) (j : Nat) (u : Value) :
    Heap (w.setCell ⟨g, j, none⟩ u) base (A ++ ⟨.slice (some ⟨g, 0, none⟩) n cap, t, F, n, cs.set j u⟩ :: M) ∧ w.grownBy (w.setCell ⟨g, j, none⟩ u) (some g) := by
  have hr := h.own ⟨.slice (some ⟨g, 0, none⟩) n cap, t, F, n, cs⟩ (by simp)
  have hs := World.ownsRow.stored hr j u
  have hp := h.ap
  rw [List.pairwise_append] at hp
  obtain ⟨pA, pM, pAM⟩ := hp
  rw [List.pairwise_cons] at pM
  have away : ∀ r ∈ A ++ M, r.v.ownBlock = none ∨ r.v.ownBlock ≠ some g := by
    intro r hr
    rcases List.mem_append.1 hr with h1 | h1
    · exact (pAM r h1 ⟨.slice (some ⟨g, 0, none⟩) n cap, t, F, n, cs⟩ (by simp)).1
    · exact (pM.1 r h1).2
  refine ⟨⟨fun r hr' => ?_, ?_⟩, hs.2⟩
  · rcases List.mem_append.1 hr' with h1 | h1
    · exact World.ownsRow.kept (h.own r (by simp [h1])) hs.2 (away r (by simp [h1]))
    · rcases List.mem_cons.1 h1 with rfl | h2
      · exact hs.1
      · exact World.ownsRow.kept (h.own r (by simp [h2])) hs.2 (away r (by simp [h2]))
  · rw [List.pairwise_append, List.pairwise_cons]
    exact ⟨pA, ⟨fun b hb => pM.1 b hb, pM.2⟩, fun a ha b hb => by
      rcases List.mem_cons.1 hb with rfl | h2
      · exact pAM a ha ⟨.slice (some ⟨g, 0, none⟩) n cap, t, F, n, cs⟩ (by simp)
      · exact pAM a ha b (by simp [h2])⟩
/-- One of the rows is another one now, in its own block or in a new one; the others stand. -/
theorem Heap.turn {w w' : World} {base : Nat} {A M : List Rw} {r r' : Rw} (h : Heap w base (A ++ r :: M)) (hg : w.grownBy w' r.v.ownBlock) (hr : r'.own w' base) (hv : r'.v.ownBlock = r.v.ownBlock ∨ ∀ k, r'.v.ownBlock = some k → w.heap.size ≤ k) : Heap w' base (A ++ r' :: M) := by
  have hp := h.ap
  rw [List.pairwise_append] at hp
  obtain ⟨pA, pM, pAM⟩ := hp
  rw [List.pairwise_cons] at pM
  have far : ∀ x, x ∈ A ∨ x ∈ M → Ap x.v r'.v ∧ Ap r'.v x.v := by
    intro x hx
    rcases hv with e | hk
    · have := show Ap x.v r.v ∧ Ap r.v x.v from by
        rcases hx with h1 | h1
        · exact pAM x h1 r (by simp)
        · exact (pM.1 x h1).symm
      unfold Ap at this ⊢
      rw [e]; exact this
    · exact Ap.of (fun k hk' => h.lt (by rcases hx with h1 | h1 <;> simp [h1]) k hk') hk
  have away : ∀ x, x ∈ A ∨ x ∈ M → x.v.ownBlock = none ∨ x.v.ownBlock ≠ r.v.ownBlock := by
    intro x hx
    rcases hx with h1 | h1
    · exact (pAM x h1 r (by simp)).1
    · exact (pM.1 x h1).2
  refine ⟨fun x hx => ?_, ?_⟩
  · rcases List.mem_append.1 hx with h1 | h1
    · exact World.ownsRow.kept (h.own x (by simp [h1])) hg (away x (.inl h1))
    · rcases List.mem_cons.1 h1 with rfl | h2
      · exact hr
      · exact World.ownsRow.kept (h.own x (by simp [h2])) hg (away x (.inr h2))
  · rw [List.pairwise_append, List.pairwise_cons]
    exact ⟨pA, ⟨fun b hb => (far b (.inr hb)).symm, pM.2⟩, fun a ha b hb => by
      rcases List.mem_cons.1 hb with rfl | h2
      · exact far a (.inl ha)
      · exact pAM a ha b (by simp [h2])⟩
/-- From one world to a later one no block changed but those of S. -/
structure Chg (S : Nat → Prop) (w w' : World) : Prop where
  os : w'.os = w.os
  tape : w'.tape = w.tape
  output : w'.output = w.output
  size : w.heap.size ≤ w'.heap.size
  block : ∀ i, i < w.heap.size → ¬ S i → w'.heap[i]? = w.heap[i]?
theorem Chg.refl (S : Nat → Prop) (w : World) : Chg S w w := ⟨rfl, rfl, rfl, Nat.le_refl _, fun _ _ _ => rfl⟩
theorem Chg.of_grown {S : Nat → Prop} {w w' : World} {row : Option Nat} (h : w.grownBy w' row) (hS : ∀ i, row = some i → S i) : Chg S w w' :=
  ⟨h.os, h.tape, h.output, h.size, fun i hi hn => h.block i hi (fun e => hn (hS i e.symm))⟩
theorem Chg.of_below {S : Nat → Prop} {w w' : World} (h : Below w.heap.size w w') : Chg S w w' := ⟨h.os, h.tape, h.output, h.size, fun i hi _ => h.block i hi⟩
theorem Chg.trans {S : Nat → Prop} {a b c : World} (h : Chg S a b) (k : Chg S b c) : Chg S a c :=
  ⟨k.os.trans h.os, k.tape.trans h.tape, k.output.trans h.output, Nat.le_trans h.size k.size, fun i hi hn => (k.block i (Nat.lt_of_lt_of_le hi h.size) hn).trans (h.block i hi hn)⟩
theorem Chg.to_below {S : Nat → Prop} {w0 w w' : World} {B : Nat} (hb : Below B w0 w) (h : Chg S w w') (hB : B ≤ w.heap.size) (hS : ∀ i, S i → B ≤ i) : Below B w0 w' :=
  ⟨h.os.trans hb.os, h.tape.trans hb.tape, h.output.trans hb.output, Nat.le_trans hb.size h.size, fun i hi => (h.block i (by omega) (fun s => by have := hS i s; omega)).trans (hb.block i hi)⟩
theorem ownsRow_chg {S : Nat → Prop} {w w' : World} {base n F : Nat} {t : TypeId} {v : Value} {xs : List Value} (h : w.ownsRow base t F v n xs) (hc : Chg S w w') (hn : ∀ k, v.ownBlock = some k → ¬ S k) : w'.ownsRow base t F v n xs := by
  have hlt := World.ownsRow.lt h
  rcases h.2 with ⟨h1, h2⟩ | ⟨g, cap, cur, rfl, hb, hg, h3⟩
  · exact ⟨h.1, .inl ⟨h1, h2⟩⟩
  · exact ⟨h.1, .inr ⟨g, cap, cur, rfl, hb, (hc.block g (hlt g rfl).2 (hn g rfl)).trans hg, h3⟩⟩
theorem Heap.chg {S : Nat → Prop} {w w' : World} {base : Nat} {L : List Rw} (h : Heap w base L) (hc : Chg S w w') (hn : ∀ r ∈ L, ∀ k, r.v.ownBlock = some k → ¬ S k) : Heap w' base L :=
  ⟨fun r hr => ownsRow_chg (h.own r hr) hc (hn r hr), h.ap⟩
/-- The blocks of a list of rows. -/
def Blocks (L : List Rw) (i : Nat) : Prop := ∃ r ∈ L, r.v.ownBlock = some i
/-- Rows within a row: the inner ones. -/
def inner {α : Type} (t : TypeId) (F : Nat) (c : α → Array Value) (vs : List Value) (ls : List (List α)) : List Rw := List.zipWith (fun u l => ⟨u, t, F, l.length, cellsF c l⟩) vs ls
/-- A row of rows of records, all of the call's own: the outer one has one cell for each inner one. -/
def OwnD {α : Type} (t1 t : TypeId) (F : Nat) (c : α → Array Value) (w : World) (base : Nat) (v : Value) (ls : List (List α)) : Prop :=
  ∃ vs : List Value, vs.length = ls.length ∧ Heap w base (⟨v, t1, 1, ls.length, vs⟩ :: inner t F c vs ls)
/-- The slice value v reads as rows of records. -/
def ArgD {α : Type} (F : Nat) (c : α → Array Value) (z : α) (w : World) (v : Value) (ls : List (List α)) : Prop :=
  ∃ A cap, v = .slice A ls.length cap ∧ ls.length ≤ cap ∧ cap ≤ maxLen ∧ (0 < ls.length → ∃ b off, A = some ⟨b, off, none⟩ ∧ b < w.heap.size ∧ ∀ j, j < ls.length → ∃ u, w.cell? ⟨b, off + j, none⟩ = some u ∧ RecsArg F c z w u (ls.getD j []))
theorem ArgD.below {α : Type} {F : Nat} {c : α → Array Value} {z : α} {w w' : World} {v : Value} {ls : List (List α)} (h : ArgD F c z w v ls) (hb : Below w.heap.size w w') : ArgD F c z w' v ls := by
  obtain ⟨A, cap, e, h1, h2, h3⟩ := h
  refine ⟨A, cap, e, h1, h2, fun hp => ?_⟩
  obtain ⟨b, off, ea, h4, h5⟩ := h3 hp
  exact ⟨b, off, ea, Nat.lt_of_lt_of_le h4 hb.size, fun j hj => by
    obtain ⟨u, hu, ha⟩ := h5 j hj
    exact ⟨u, (hb.cell (p := ⟨b, off + j, none⟩) h4).trans hu, ha.below hb⟩⟩
theorem OwnD.below {α : Type} {t1 t : TypeId} {F : Nat} {c : α → Array Value} {w w' : World} {base : Nat} {v : Value} {ls : List (List α)} (h : OwnD t1 t F c w base v ls) (hb : Below w.heap.size w w') : OwnD t1 t F c w' base v ls := by
  obtain ⟨vs, h1, h2⟩ := h
  exact ⟨vs, h1, h2.below hb⟩
theorem inner_at {α : Type} {t : TypeId} {F : Nat} {c : α → Array Value} {vs : List Value} {ls : List (List α)} (hl : vs.length = ls.length) (j : Nat) (hj : j < ls.length) (d : Value) : (⟨vs.getD j d, t, F, (ls.getD j []).length, cellsF c (ls.getD j [])⟩ : Rw) ∈ inner t F c vs ls := by
  unfold inner
  have hj' : j < vs.length := by omega
  rw [List.mem_iff_getElem]
  refine ⟨j, by simp [List.length_zipWith]; omega, ?_⟩
  rw [List.getElem_zipWith, List.getD_eq_getElem?_getD, List.getD_eq_getElem?_getD, List.getElem?_eq_getElem hj, List.getElem?_eq_getElem hj']
  rfl
theorem OwnD.arg {α : Type} {t1 t : TypeId} {F : Nat} {c : α → Array Value} {w : World} {base : Nat} {v : Value} {ls : List (List α)} (h : OwnD t1 t F c w base v ls) (hF : ∀ r, (c r).size = F) (z : α) : ArgD F c z w v ls := by
  obtain ⟨vs, hl, hh⟩ := h
  have ho := hh.own ⟨v, t1, 1, ls.length, vs⟩ (by simp)
  have ho' := ho
  rcases ho.2 with ⟨e, h0⟩ | ⟨g, cap, cur, e, hb, hg, hn, hm, hc, ht⟩
  · have e : v = .slice none 0 0 := e
    have h00 : ls.length = 0 := h0
    subst e
    exact ⟨none, 0, by rw [h00], by omega, Nat.zero_le _, fun h => by omega⟩
  · have e : v = .slice (some ⟨g, 0, none⟩) ls.length cap := e
    subst e
    refine ⟨_, cap, rfl, hn, hm, fun _ => ⟨g, 0, rfl, (World.ownsRow.lt ho' g rfl).2, fun j hj => ⟨vs.getD j undef, ?_, ?_⟩⟩⟩
    · have := World.ownsRow.cellAt (w := w) (size := 1) (xs := vs) ho' j (show j < ls.length * 1 by omega)
      rw [Nat.zero_add, this, List.getD_eq_getElem?_getD, List.getElem?_eq_getElem (by omega)]
      rfl
    · exact OwnF.arg (t := t) (base := base) (hh.own _ (List.mem_cons_of_mem _ (inner_at hl j hj undef))) hF z
theorem inner_cons {α : Type} {t : TypeId} {F : Nat} {c : α → Array Value} (V1 V2 : List Value) (u : Value) (X Y : List (List α)) (q : List α) (h : V1.length = X.length) :
    inner t F c (V1 ++ u :: V2) (X ++ q :: Y) = inner t F c V1 X ++ ⟨u, t, F, q.length, cellsF c q⟩ :: inner t F c V2 Y := by
  unfold inner
  induction V1 generalizing X with
  | nil => cases X with
    | nil => rfl
    | cons x X => simp at h
  | cons a V1 ih => cases X with
    | nil => simp at h
    | cons x X => simp only [List.cons_append, List.zipWith_cons_cons]; rw [ih X (by simpa using h)]
/-- The blocks lie from B on, below E. -/
def Within (B E : Nat) (i : Nat) : Prop := B ≤ i ∧ i < E
/-- A heap of own rows that lies below E. -/
def HeapE (w : World) (B E : Nat) (L : List Rw) : Prop := Heap w B L ∧ ∀ r ∈ L, ∀ k, r.v.ownBlock = some k → k < E
theorem HeapE.made {w : World} {B : Nat} {L : List Rw} (h : Heap w B L) : HeapE w B w.heap.size L := ⟨h, fun r hr => h.lt hr⟩
theorem HeapE.below {w w' : World} {B E : Nat} {L : List Rw} (h : HeapE w B E L) (hb : Below w.heap.size w w') : HeapE w' B E L := ⟨h.1.below hb, h.2⟩
/-- What was made in another stretch of blocks stands when one is marked. -/
theorem HeapE.far {w w' : World} {B E B' E' : Nat} {L : List Rw} (h : HeapE w B E L) (hc : Chg (Within B' E') w w') (hd : E ≤ B' ∨ E' ≤ B) : HeapE w' B E L :=
  ⟨h.1.chg hc (fun r hr k hk => fun hw => by have h1 := h.2 r hr k hk; have h2 := h.1.base_le hr k hk; have := hw.1; have := hw.2; omega), h.2⟩
/-- Rows of rows of records in a stretch of blocks. -/
def OwnDE {α : Type} (t1 t : TypeId) (F : Nat) (c : α → Array Value) (w : World) (B E : Nat) (v : Value) (ls : List (List α)) : Prop :=
  ∃ vs : List Value, vs.length = ls.length ∧ HeapE w B E (⟨v, t1, 1, ls.length, vs⟩ :: inner t F c vs ls)
theorem OwnD.made {α : Type} {t1 t : TypeId} {F : Nat} {c : α → Array Value} {w : World} {B : Nat} {v : Value} {ls : List (List α)} (h : OwnD t1 t F c w B v ls) : OwnDE t1 t F c w B w.heap.size v ls := by
  obtain ⟨vs, h1, h2⟩ := h; exact ⟨vs, h1, HeapE.made h2⟩
theorem OwnDE.own {α : Type} {t1 t : TypeId} {F : Nat} {c : α → Array Value} {w : World} {B E : Nat} {v : Value} {ls : List (List α)} (h : OwnDE t1 t F c w B E v ls) : OwnD t1 t F c w B v ls := by
  obtain ⟨vs, h1, h2⟩ := h; exact ⟨vs, h1, h2.1⟩
theorem OwnDE.below {α : Type} {t1 t : TypeId} {F : Nat} {c : α → Array Value} {w w' : World} {B E : Nat} {v : Value} {ls : List (List α)} (h : OwnDE t1 t F c w B E v ls) (hb : Below w.heap.size w w') : OwnDE t1 t F c w' B E v ls := by
  obtain ⟨vs, h1, h2⟩ := h; exact ⟨vs, h1, h2.below hb⟩
theorem OwnDE.far {α : Type} {t1 t : TypeId} {F : Nat} {c : α → Array Value} {w w' : World} {B E B' E' : Nat} {v : Value} {ls : List (List α)} (h : OwnDE t1 t F c w B E v ls) (hc : Chg (Within B' E') w w') (hd : E ≤ B' ∨ E' ≤ B) : OwnDE t1 t F c w' B E v ls := by
  obtain ⟨vs, h1, h2⟩ := h; exact ⟨vs, h1, h2.far hc hd⟩
end Go.Proofs.YtlnkjpacjbhncaaGreatDoor
/-
  A block that holds so many cells: a local variable or a boxed argument of any struct type.
-/
namespace Go.Proofs.YtlnkjpacjbhncaaGreatDoor
open Go.RowKit M
set_option linter.unusedVariables false
def Blk (w : World) (g : Nat) (t : TypeId) (cs : Array Value) : Prop := w.heap[g]? = some (.cells cs t (0, 0))
theorem Blk.lt {w : World} {g : Nat} {t : TypeId} {cs : Array Value} (h : Blk w g t cs) : g < w.heap.size := by
  rcases Nat.lt_or_ge g w.heap.size with h1 | h1
  · exact h1
  · unfold Blk at h; rw [Array.getElem?_eq_none h1] at h; cases h
theorem Blk.below {w w' : World} {g : Nat} {t : TypeId} {cs : Array Value} (h : Blk w g t cs) (hb : Below w.heap.size w w') : Blk w' g t cs := (hb.block g h.lt).trans h
theorem Blk.grown {w w' : World} {g : Nat} {t : TypeId} {cs : Array Value} {row : Option Nat} (h : Blk w g t cs) (hg : w.grownBy w' row) (hne : row ≠ some g) : Blk w' g t cs := (hg.block g h.lt (fun e => hne e.symm)).trans h
theorem Blk.new (w : World) (g : Nat) (t : TypeId) (cs : Array Value) (hg : g = w.heap.size) : Blk (w.alloc (.cells cs t)) g t cs := by subst hg; exact heap_alloc_new w _
theorem Blk.alloc {w : World} {g : Nat} {t : TypeId} {cs : Array Value} (h : Blk w g t cs) (o : Obj) : Blk (w.alloc o) g t cs := h.below ((Below.refl _ _).alloc (Nat.le_refl _) o)
theorem Blk.get {w : World} {g : Nat} {t : TypeId} {cs : Array Value} (h : Blk w g t cs) (j : Nat) : w.cell? ⟨g, j, none⟩ = cs[j]? := cell_of_row w g j cs t (0, 0) h
theorem Blk.frz {w : World} {g : Nat} {t : TypeId} {cs : Array Value} (h : Blk w g t cs) (j : Nat) : w.frozen? ⟨g, j, none⟩ = false := frozen_of_row w g j cs t h
theorem Blk.store {w : World} {g : Nat} {t : TypeId} {cs : Array Value} (h : Blk w g t cs) (i : Nat) (v : Value) : Blk (w.setCell ⟨g, i, none⟩ v) g t (cs.setIfInBounds i v) := heap_setCell_same w g i _ _ v h
theorem Blk.far {w : World} {g : Nat} {t : TypeId} {cs : Array Value} (h : Blk w g t cs) (k i : Nat) (v : Value) (hk : g ≠ k) : Blk (w.setCell ⟨k, i, none⟩ v) g t cs := (heap_setCell_other w ⟨k, i, none⟩ g v hk).trans h
/-- A store into a block turns no other. -/
theorem row_store {w : World} {g : Nat} {t : TypeId} {cs : Array Value} (h : Blk w g t cs) (i : Nat) (v : Value) : w.grownBy (w.setCell ⟨g, i, none⟩ v) (some g) :=
  ⟨rfl, rfl, rfl, by simp, fun k _ hk => heap_setCell_other w ⟨g, i, none⟩ k v (fun e => hk (by simp [e]))⟩
end Go.Proofs.YtlnkjpacjbhncaaGreatDoor
/-
  Rows of records of which some cells are slices of flat records: reading one that came in or was made; one of the call's own, its inner rows each in a block of its own.
-/
namespace Go.Proofs.YtlnkjpacjbhncaaGreatDoor
open Go.RowKit M
set_option linter.unusedVariables false
/-- Stores into a block ahead of all rows leave them. -/
theorem heap_set1 {w : World} {B g : Nat} {L : List Rw} {t : TypeId} {cs : Array Value} (h : Heap w B L) (hg : g < B) (hb : Blk w g t cs) (i : Nat) (v : Value) : Heap (w.setCell ⟨g, i, none⟩ v) B L :=
  h.grown (row_store hb i v) (fun r hr => by
      cases e : r.v.ownBlock with
      | none => exact .inl rfl
      | some k => exact .inr (by rw [← e]; intro hk; rw [e] at hk; injection hk with hk; have := h.base_le hr k e; omega))
theorem heap_putN {w : World} {B g o : Nat} {L : List Rw} {t : TypeId} {cs : Array Value} (h : Heap w B L) (hg : g < B) (hb : Blk w g t cs) {us : List Value} : Heap (putN w g o us) B L := by
  induction us generalizing w o cs with
  | nil => exact h
  | cons u us ih =>
    exact ih (o := o + 1) (h.grown (row_store hb o u) (fun r hr => by
      cases e : r.v.ownBlock with
      | none => exact .inl rfl
      | some k => exact .inr (by rw [← e]; intro hk; rw [e] at hk; injection hk with hk; have := h.base_le hr k e; omega))) (hb.store o u)
theorem below_putN {w0 w : World} {B g : Nat} (h : Below B w0 w) (hg : B ≤ g) (us : List Value) (o : Nat) : Below B w0 (putN w g o us) := by
  induction us generalizing w o with
  | nil => exact h
  | cons u us ih => exact ih (w := w.setCell ⟨g, o, none⟩ u) (h.setCell hg u) (o + 1)
theorem Blk.puts {w : World} {g : Nat} {t : TypeId} {cs : Array Value} (h : Blk w g t cs) (o : Nat) (us : List Value) : Blk (putN w g o us) g t (setN cs.toList o us).toArray := by
  induction us generalizing w cs o with
  | nil => exact h
  | cons u us ih =>
    have := ih (h.store o u) (o + 1)
    rw [Array.toList_setIfInBounds] at this
    exact this
/-- A whole block is stored anew. -/
theorem Blk.all {w : World} {g : Nat} {t : TypeId} {cs : Array Value} (h : Blk w g t cs) (us : List Value) (hl : us.length = cs.size) : Blk (putN w g 0 us) g t us.toArray := by
  have e := setN_mid us cs.toList [] [] (by rw [Array.length_toList]; exact hl)
  simp only [List.nil_append, List.append_nil, List.length_nil] at e
  have := h.puts 0 us
  rw [e] at this
  exact this
/-- The walk stands at a function's end: the world under one name. -/
theorem post_gen {P : Program} {fn : Func} {Q : Ending → World → Prop} {x : Exit} {a : Act} {w : World} (R : World → Prop) (h : R w) (k : ∀ w', R w' → bodyPost P fn Q x a w') : bodyPost P fn Q x a w := k w h
theorem grown_setRow (w : World) (g : Nat) (cs : Array Value) : w.grownBy (w.setRow g cs) (some g) :=
  ⟨rfl, rfl, rfl, Nat.le_of_eq (setRow_size w g cs).symm, fun i _ hne => setRow_other w g i cs (fun e => hne (by rw [e]))⟩
theorem heap_setRow {w : World} {B g : Nat} {L : List Rw} (h : Heap w B L) (hg : g < B) (cs : Array Value) : Heap (w.setRow g cs) B L :=
  h.grown (grown_setRow w g cs) (fun r hr => by
      cases e : r.v.ownBlock with
      | none => exact .inl rfl
      | some k => exact .inr (by rw [← e]; intro hk; rw [e] at hk; injection hk with hk; have := h.base_le hr k e; omega))
theorem below_setRow' {B g : Nat} {w0 w : World} (hb : Below B w0 w) (hBg : B ≤ g) (cs : Array Value) : Below B w0 (w.setRow g cs) :=
  ⟨hb.os, hb.tape, hb.output, by rw [setRow_size]; exact hb.size, fun i hi => (setRow_other w g i cs (by omega)).trans (hb.block i hi)⟩
/-- What a cell holds: a value, or a slice of n records of F cells each. -/
inductive Dat where
  | val (u : Value)
  | row (t : TypeId) (F n : Nat) (cs : List Value)
instance : Inhabited Dat := ⟨.val undef⟩
/-- The value v reads as d. -/
def Dat.reads (w : World) (v : Value) : Dat → Prop
  | .val u => v = u
  | .row _ F n cs => cs.length = n * F ∧ ∃ A cap, v = .slice A n cap ∧ n ≤ cap ∧ cap ≤ maxLen ∧ (0 < n → ∃ b off, A = some ⟨b, off, none⟩ ∧ b < w.heap.size ∧ ∀ k, k < n * F → w.cell? ⟨b, off + k, none⟩ = cs[k]?)
theorem Dat.reads.below {w w' : World} {v : Value} {d : Dat} (h : d.reads w v) (hb : Below w.heap.size w w') : d.reads w' v := by
  cases d with
  | val u => exact h
  | row t F n cs =>
    obtain ⟨h0, A, cap, e, h1, h2, h3⟩ := h
    refine ⟨h0, A, cap, e, h1, h2, fun hp => ?_⟩
    obtain ⟨b, off, ea, h4, h5⟩ := h3 hp
    exact ⟨b, off, ea, Nat.lt_of_lt_of_le h4 hb.size, fun k hk => (hb.cell (p := ⟨b, off + k, none⟩) h4).trans (h5 k hk)⟩
/-- The rows that the values hold. -/
def innerD : List Value → List Dat → List Rw
  | v :: vs, .row t F n cs :: ds => ⟨v, t, F, n, cs⟩ :: innerD vs ds
  | _ :: vs, .val _ :: ds => innerD vs ds
  | _, _ => []
/-- Where no row is asked the values are those. -/
def valsD : List Value → List Dat → Prop
  | v :: vs, .val u :: ds => v = u ∧ valsD vs ds
  | _ :: vs, .row _ _ _ _ :: ds => valsD vs ds
  | [], [] => True
  | _, _ => False
theorem valsD_len {vs : List Value} {ds : List Dat} (h : valsD vs ds) : vs.length = ds.length := by
  induction vs generalizing ds with
  | nil => cases ds with
    | nil => rfl
    | cons d ds => exact h.elim
  | cons v vs ih => cases ds with
    | nil => exact h.elim
    | cons d ds =>
      simp only [List.length_cons]
      cases d with
      | val u => rw [ih h.2]
      | row t F n cs => rw [ih h]
theorem innerD_append (xs ys : List Value) (ds es : List Dat) (h : xs.length = ds.length) : innerD (xs ++ ys) (ds ++ es) = innerD xs ds ++ innerD ys es := by
  induction xs generalizing ds with
  | nil => cases ds with
    | nil => rfl
    | cons d ds => simp at h
  | cons x xs ih => cases ds with
    | nil => simp at h
    | cons d ds =>
      have h' : xs.length = ds.length := by simpa using h
      cases d with
      | val u => simp only [List.cons_append, innerD]; exact ih ds h'
      | row t F n cs => simp only [List.cons_append, innerD]; rw [ih ds h']
theorem valsD_append {xs ys : List Value} {ds es : List Dat} (h : xs.length = ds.length) : valsD (xs ++ ys) (ds ++ es) ↔ valsD xs ds ∧ valsD ys es := by
  induction xs generalizing ds with
  | nil => cases ds with
    | nil => simp [valsD]
    | cons d ds => simp at h
  | cons x xs ih => cases ds with
    | nil => simp at h
    | cons d ds =>
      have h' : xs.length = ds.length := by simpa using h
      cases d with
      | val u => simp only [List.cons_append, valsD]; rw [ih h', and_assoc]
      | row t F n cs => simp only [List.cons_append, valsD]; rw [ih h']
theorem valsD_val {vs : List Value} {ds : List Dat} (h : valsD vs ds) {k : Nat} {u : Value} (hk : ds[k]? = some (.val u)) : vs[k]? = some u := by
  induction vs generalizing ds k with
  | nil => cases ds with
    | nil => simp at hk
    | cons d ds => exact h.elim
  | cons v vs ih => cases ds with
    | nil => exact h.elim
    | cons d ds =>
      cases k with
      | zero => rw [List.getElem?_cons_zero] at hk ⊢; injection hk with hk; subst hk; rw [h.1]
      | succ k =>
        rw [List.getElem?_cons_succ] at hk ⊢
        cases d with
        | val u' => exact ih h.2 hk
        | row t F n cs => exact ih h hk
theorem innerD_row {vs : List Value} {ds : List Dat} (hl : vs.length = ds.length) {k : Nat} {t : TypeId} {F n : Nat} {cs : List Value} (hk : ds[k]? = some (.row t F n cs)) : ∃ v, vs[k]? = some v ∧ (⟨v, t, F, n, cs⟩ : Rw) ∈ innerD vs ds := by
  induction vs generalizing ds k with
  | nil => cases ds with
    | nil => simp at hk
    | cons d ds => simp at hl
  | cons v vs ih => cases ds with
    | nil => simp at hl
    | cons d ds =>
      have hl' : vs.length = ds.length := by simpa using hl
      cases k with
      | zero =>
        rw [List.getElem?_cons_zero] at hk; injection hk with hk; subst hk
        exact ⟨v, rfl, by simp [innerD]⟩
      | succ k =>
        rw [List.getElem?_cons_succ] at hk
        obtain ⟨v', h1, h2⟩ := ih hl' hk
        refine ⟨v', by rw [List.getElem?_cons_succ]; exact h1, ?_⟩
        cases d with
        | val u' => exact h2
        | row t' F' n' cs' => exact List.mem_cons_of_mem _ h2
theorem Rw.slice {w : World} {B : Nat} {v : Value} {t : TypeId} {F n : Nat} {cs : List Value} (h : (⟨v, t, F, n, cs⟩ : Rw).own w B) : ∃ A c, v = .slice A n c := by
  have h' : w.ownsRow B t F v n cs := h
  rcases h'.2 with ⟨e, h0⟩ | ⟨g, cap, cur, e, _⟩
  · subst h0; exact ⟨none, 0, e⟩
  · exact ⟨_, cap, e⟩
/-- An own row reads as what it holds. -/
theorem Rw.reads {w : World} {B : Nat} {v : Value} {t : TypeId} {F n : Nat} {cs : List Value} (h : (⟨v, t, F, n, cs⟩ : Rw).own w B) (hl : cs.length = n * F) : (Dat.row t F n cs).reads w v := by
  have h' : w.ownsRow B t F v n cs := h
  refine ⟨hl, ?_⟩
  rcases h'.2 with ⟨e, h0⟩ | ⟨g, cap, cur, e, hb, hg, hn, hm, hc, ht⟩
  · subst e; subst h0
    exact ⟨none, 0, rfl, Nat.le_refl _, Nat.zero_le _, fun h => absurd h (Nat.lt_irrefl _)⟩
  · subst e
    refine ⟨_, cap, rfl, hn, hm, fun _ => ⟨g, 0, rfl, (World.ownsRow.lt h' g rfl).2, fun k hk => ?_⟩⟩
    rw [Nat.zero_add, World.ownsRow.cellAt h' k hk]
section
variable {α : Type} {F : Nat} {dat : α → List Dat} {z : α} {t : TypeId}
/-- Each inner row holds as many cells as it should. -/
def Dat.wf : Dat → Prop
  | .val _ => True
  | .row _ F n cs => cs.length = n * F
/-- All elements' cells. -/
def datL (dat : α → List Dat) (l : List α) : List Dat := l.flatMap dat
theorem datL_append (xs ys : List α) : datL dat (xs ++ ys) = datL dat xs ++ datL dat ys := by simp [datL]
theorem datL_length (hF : ∀ r, (dat r).length = F) (l : List α) : (datL dat l).length = l.length * F := by
  induction l with
  | nil => simp [datL]
  | cons r l ih => simp only [datL, List.flatMap_cons, List.length_append, List.length_cons] at *; rw [ih, hF, Nat.succ_mul]; omega
theorem datL_at (hF : ∀ r, (dat r).length = F) (z : α) (l : List α) (j k : Nat) (hj : j < l.length) (hk : k < F) : (datL dat l)[j * F + k]? = (dat (l.getD j z))[k]? := by
  induction l generalizing j with
  | nil => simp at hj
  | cons r l ih =>
    show (dat r ++ datL dat l)[j * F + k]? = _
    cases j with
    | zero => rw [List.getElem?_append_left (by rw [hF]; omega)]; simp
    | succ j =>
      rw [List.getElem?_append_right (by rw [hF, Nat.succ_mul]; omega), hF, show (j + 1) * F + k - F = j * F + k by rw [Nat.succ_mul]; omega, ih j (by simpa using hj)]
      simp
/-- Element r lies in block b from cell o on. -/
def EltAt (dat : α → List Dat) (w : World) (b o : Nat) (r : α) : Prop := ∀ k d, (dat r)[k]? = some d → ∃ u, w.cell? ⟨b, o + k, none⟩ = some u ∧ d.reads w u
theorem EltAt.below {w w' : World} {b o : Nat} {r : α} (h : EltAt dat w b o r) (hlt : b < w.heap.size) (hb : Below w.heap.size w w') : EltAt dat w' b o r := fun k d hd => by
  obtain ⟨u, h1, h2⟩ := h k d hd
  exact ⟨u, (hb.cell (p := ⟨b, o + k, none⟩) hlt).trans h1, h2.below hb⟩
/-- The slice value v reads as the elements l. -/
def ArgT (F : Nat) (dat : α → List Dat) (z : α) (w : World) (v : Value) (l : List α) : Prop :=
  ∃ A cap, v = .slice A l.length cap ∧ l.length ≤ cap ∧ cap ≤ maxLen ∧ (0 < l.length → ∃ b off, A = some ⟨b, off, none⟩ ∧ b < w.heap.size ∧ ∀ j, j < l.length → EltAt dat w b (off + j * F) (l.getD j z))
theorem ArgT.below {w w' : World} {v : Value} {l : List α} (h : ArgT F dat z w v l) (hb : Below w.heap.size w w') : ArgT F dat z w' v l := by
  obtain ⟨A, cap, e, h1, h2, h3⟩ := h
  refine ⟨A, cap, e, h1, h2, fun hp => ?_⟩
  obtain ⟨b, off, ea, h4, h5⟩ := h3 hp
  exact ⟨b, off, ea, Nat.lt_of_lt_of_le h4 hb.size, fun j hj => (h5 j hj).below h4 hb⟩
/-- The cells of a row are the call's own, all blocks from B on and below E: what they hold is ds. -/
def OwnX (t : TypeId) (F n : Nat) (w : World) (B E : Nat) (v : Value) (ds : List Dat) : Prop :=
  ∃ vs, valsD vs ds ∧ HeapE w B E (⟨v, t, F, n, vs⟩ :: innerD vs ds)
theorem OwnX.below {n : Nat} {w w' : World} {B E : Nat} {v : Value} {ds : List Dat} (h : OwnX t F n w B E v ds) (hb : Below w.heap.size w w') : OwnX t F n w' B E v ds := by
  obtain ⟨vs, h1, h2⟩ := h; exact ⟨vs, h1, h2.below hb⟩
theorem OwnX.far {n : Nat} {w w' : World} {B E B' E' : Nat} {v : Value} {ds : List Dat} (h : OwnX t F n w B E v ds) (hc : Chg (Within B' E') w w') (hd : E ≤ B' ∨ E' ≤ B) : OwnX t F n w' B E v ds := by
  obtain ⟨vs, h1, h2⟩ := h; exact ⟨vs, h1, h2.far hc hd⟩
theorem OwnX.shape {n : Nat} {w : World} {B E : Nat} {v : Value} {ds : List Dat} (h : OwnX t F n w B E v ds) : (v = .slice none 0 0 ∧ n = 0) ∨ ∃ g cap, v = .slice (some ⟨g, 0, none⟩) n cap ∧ n ≤ cap ∧ cap ≤ maxLen ∧ B ≤ g ∧ g < E := by
  obtain ⟨vs, h1, h2⟩ := h
  have ho := h2.1.own _ List.mem_cons_self
  have ho' : w.ownsRow B t F v n vs := ho
  rcases ho'.2 with ⟨e, h0⟩ | ⟨g, cap, cur, e, hb, hg, hn, hm, _⟩
  · exact .inl ⟨e, h0⟩
  · exact .inr ⟨g, cap, e, hn, hm, hb, h2.2 _ List.mem_cons_self g (by rw [e]; rfl)⟩
theorem OwnX.val {n : Nat} {w : World} {B E g cap : Nat} {ds : List Dat} (h : OwnX t F n w B E (.slice (some ⟨g, 0, none⟩) n cap) ds) {i : Nat} (hi : i < n * F) {u : Value} (hd : ds[i]? = some (.val u)) : w.cell? ⟨g, i, none⟩ = some u := by
  obtain ⟨vs, h1, h2⟩ := h
  have ho : w.ownsRow B t F (.slice (some ⟨g, 0, none⟩) n cap) n vs := h2.1.own _ List.mem_cons_self
  rw [World.ownsRow.cellAt ho i hi]
  exact valsD_val h1 hd
theorem OwnX.row {n : Nat} {w : World} {B E g cap : Nat} {ds : List Dat} (h : OwnX t F n w B E (.slice (some ⟨g, 0, none⟩) n cap) ds) {i : Nat} (hi : i < n * F) {t' : TypeId} {F' n' : Nat} {cs : List Value} (hd : ds[i]? = some (.row t' F' n' cs)) :
    ∃ u, w.cell? ⟨g, i, none⟩ = some u ∧ w.ownsRow B t' F' u n' cs := by
  obtain ⟨vs, h1, h2⟩ := h
  have ho : w.ownsRow B t F (.slice (some ⟨g, 0, none⟩) n cap) n vs := h2.1.own _ List.mem_cons_self
  obtain ⟨u, hu, hm⟩ := innerD_row (valsD_len h1) hd
  exact ⟨u, by rw [World.ownsRow.cellAt ho i hi]; exact hu, h2.1.own _ (List.mem_cons_of_mem _ hm)⟩
theorem OwnX.frz {n : Nat} {w : World} {B E g cap : Nat} {ds : List Dat} (h : OwnX t F n w B E (.slice (some ⟨g, 0, none⟩) n cap) ds) (j : Nat) : w.frozen? ⟨g, j, none⟩ = false := by
  obtain ⟨vs, h1, h2⟩ := h
  have ho : w.ownsRow B t F (.slice (some ⟨g, 0, none⟩) n cap) n vs := h2.1.own _ List.mem_cons_self
  exact World.ownsRow.frozenAt ho j
theorem split_at {β : Type} {l : List β} {i : Nat} {x : β} (h : l[i]? = some x) : l = l.take i ++ x :: l.drop (i + 1) ∧ (l.take i).length = i := by
  obtain ⟨hi, e⟩ := List.getElem?_eq_some_iff.1 h
  refine ⟨?_, by rw [List.length_take]; omega⟩
  rw [← e, ← List.drop_eq_getElem_cons hi, List.take_append_drop]
theorem set_mid {β : Type} (xs ys : List β) (x y : β) (i : Nat) (h : xs.length = i) : (xs ++ x :: ys).set i y = xs ++ y :: ys := by
  subst h
  rw [List.set_append_right _ _ (Nat.le_refl _), Nat.sub_self, List.set_cons_zero]
/-- A store into a cell that holds no row. -/
theorem OwnX.set {n : Nat} {w : World} {B E g cap : Nat} {ds : List Dat} (h : OwnX t F n w B E (.slice (some ⟨g, 0, none⟩) n cap) ds) {i : Nat} {x : Value} (hd : ds[i]? = some (.val x)) (u : Value) :
    OwnX t F n (w.setCell ⟨g, i, none⟩ u) B E (.slice (some ⟨g, 0, none⟩) n cap) (ds.set i (.val u)) ∧ w.grownBy (w.setCell ⟨g, i, none⟩ u) (some g) := by
  obtain ⟨vs, h1, h2⟩ := h
  have hs := Heap.set (A := []) h2.1 i u
  refine ⟨⟨vs.set i u, ?_, ?_⟩, hs.2⟩
  · obtain ⟨e, hl⟩ := split_at hd
    obtain ⟨e', hl'⟩ := split_at (valsD_val h1 hd)
    rw [e, e', valsD_append (by rw [hl, hl'])] at h1
    rw [e, e', set_mid _ _ _ _ _ hl, set_mid _ _ _ _ _ hl', valsD_append (by rw [hl, hl'])]
    exact ⟨h1.1, rfl, h1.2.2⟩
  · have hin : innerD (vs.set i u) (ds.set i (.val u)) = innerD vs ds := by
      obtain ⟨e, hl⟩ := split_at hd
      obtain ⟨e', hl'⟩ := split_at (valsD_val h1 hd)
      conv => lhs; rw [e, e', set_mid _ _ _ _ _ hl, set_mid _ _ _ _ _ hl', innerD_append _ _ _ _ (by rw [hl, hl'])]
      conv => rhs; rw [e, e', innerD_append _ _ _ _ (by rw [hl, hl'])]
      rfl
    rw [hin]
    refine ⟨hs.1, fun r hr k hk => ?_⟩
    rcases List.mem_cons.1 hr with rfl | h3
    · exact h2.2 _ List.mem_cons_self k hk
    · exact h2.2 _ (List.mem_cons_of_mem _ h3) k hk
/-- One of the inner rows was turned, in its own block. -/
theorem OwnX.turn {n : Nat} {w w' : World} {B E : Nat} {v : Value} {ds : List Dat} (h : OwnX t F n w B E v ds) {i : Nat} {t' : TypeId} {F' n' : Nat} {cs cs' : List Value} {u : Value} (hd : ds[i]? = some (.row t' F' n' cs))
    (hc : ∃ g cap, v = .slice (some ⟨g, 0, none⟩) n cap ∧ w.cell? ⟨g, i, none⟩ = some u) (hi : i < n * F) (hg : w.grownBy w' u.ownBlock) (ho : w'.ownsRow B t' F' u n' cs') : OwnX t F n w' B E v (ds.set i (.row t' F' n' cs')) := by
  obtain ⟨vs, h1, h2⟩ := h
  obtain ⟨g, cap, rfl, hcell⟩ := hc
  have hro : w.ownsRow B t F (.slice (some ⟨g, 0, none⟩) n cap) n vs := h2.1.own _ List.mem_cons_self
  rw [World.ownsRow.cellAt hro i hi] at hcell
  obtain ⟨e, hl⟩ := split_at hd
  obtain ⟨e', hl'⟩ := split_at hcell
  have hlen : (vs.take i).length = (ds.take i).length := by rw [hl, hl']
  have hin : innerD vs ds = innerD (vs.take i) (ds.take i) ++ ⟨u, t', F', n', cs⟩ :: innerD (vs.drop (i + 1)) (ds.drop (i + 1)) := by
    conv => lhs; rw [e, e', innerD_append _ _ _ _ hlen]
    rfl
  have hin' : innerD vs (ds.set i (.row t' F' n' cs')) = innerD (vs.take i) (ds.take i) ++ ⟨u, t', F', n', cs'⟩ :: innerD (vs.drop (i + 1)) (ds.drop (i + 1)) := by
    conv => lhs; rw [e, e', set_mid _ _ _ _ _ hl, innerD_append _ _ _ _ hlen]
    rfl
  refine ⟨vs, ?_, ?_⟩
  · conv at h1 => rw [e, e']
    rw [valsD_append hlen] at h1
    rw [e]
    conv => lhs; rw [e']
    rw [set_mid _ _ _ _ _ hl, valsD_append hlen]
    exact ⟨h1.1, h1.2⟩
  · rw [hin'] 
    rw [hin] at h2
    have := Heap.turn (w' := w') (A := ⟨.slice (some ⟨g, 0, none⟩) n cap, t, F, n, vs⟩ :: innerD (vs.take i) (ds.take i)) (r := ⟨u, t', F', n', cs⟩) (r' := ⟨u, t', F', n', cs'⟩) (by simpa using h2.1) hg ho (.inl rfl)
    refine ⟨by simpa using this, fun r hr k hk => ?_⟩
    simp only [List.mem_cons, List.mem_append] at hr
    have hm := fun r hr => h2.2 r hr
    simp only [List.mem_cons, List.mem_append] at hm
    rcases hr with rfl | h3 | rfl | h3
    · exact hm _ (.inl rfl) k hk
    · exact hm _ (.inr (.inl h3)) k hk
    · exact hm ⟨u, t', F', n', cs⟩ (.inr (.inr (.inl rfl))) k hk
    · exact hm _ (.inr (.inr (.inr h3))) k hk
theorem Heap.perm {w : World} {B : Nat} {L M : List Rw} (h : Heap w B L) (hp : L.Perm M) : Heap w B M :=
  ⟨fun r hr => h.own r (hp.mem_iff.2 hr), (hp.pairwise_iff (fun hx => hx.symm)).1 h.ap⟩
theorem OwnX.mono {n : Nat} {w : World} {B E E' : Nat} {v : Value} {ds : List Dat} (h : OwnX t F n w B E v ds) (hE : E ≤ E') : OwnX t F n w B E' v ds := by
  obtain ⟨vs, h1, h2⟩ := h; exact ⟨vs, h1, h2.1, fun r hr k hk => Nat.lt_of_lt_of_le (h2.2 r hr k hk) hE⟩
theorem OwnX.base {n : Nat} {w : World} {B B' E : Nat} {v : Value} {ds : List Dat} (h : OwnX t F n w B E v ds) (hB : B' ≤ B) : OwnX t F n w B' E v ds := by
  obtain ⟨vs, h1, h2⟩ := h; exact ⟨vs, h1, h2.1.base hB, h2.2⟩
theorem chg_set {w : World} {g : Nat} {t : TypeId} {cs : Array Value} (hb : Blk w g t cs) (i : Nat) (v : Value) : Chg (Within g (g + 1)) w (w.setCell ⟨g, i, none⟩ v) :=
  Chg.of_grown (row_store hb i v) (fun k hk => by injection hk with hk; unfold Within; omega)
theorem chg_setRow (w : World) (g : Nat) (cs : Array Value) : Chg (Within g (g + 1)) w (w.setRow g cs) :=
  Chg.of_grown (grown_setRow w g cs) (fun k hk => by injection hk with hk; unfold Within; omega)
theorem OwnDE.slice {β : Type} {t1 t : TypeId} {F : Nat} {c : β → Array Value} {w : World} {B E : Nat} {v : Value} {ls : List (List β)} (h : OwnDE t1 t F c w B E v ls) : ∃ A cap, v = .slice A ls.length cap := by
  obtain ⟨vs, h1, h2⟩ := h
  rcases (h2.1.own _ List.mem_cons_self).2 with ⟨e, h0⟩ | ⟨g, cap, cur, e, _⟩
  · have h0 : ls.length = 0 := h0
    exact ⟨none, 0, by rw [h0]; exact e⟩
  · exact ⟨_, cap, e⟩
theorem OwnD.base {β : Type} {t1 t : TypeId} {F : Nat} {c : β → Array Value} {w : World} {B B' : Nat} {v : Value} {ls : List (List β)} (h : OwnD t1 t F c w B v ls) (hB : B' ≤ B) : OwnD t1 t F c w B' v ls := by
  obtain ⟨vs, h1, h2⟩ := h; exact ⟨vs, h1, h2.base hB⟩
/-- So many stores into the first of some rows. -/
theorem Heap.putN {w : World} {base g n cap : Nat} {M : List Rw} {t : TypeId} {F : Nat} (us cs : List Value) (o : Nat) (h : Heap w base (⟨.slice (some ⟨g, 0, none⟩) n cap, t, F, n, cs⟩ :: M)) :
    Heap (putN w g o us) base (⟨.slice (some ⟨g, 0, none⟩) n cap, t, F, n, setN cs o us⟩ :: M) ∧ w.grownBy (putN w g o us) (some g) := by
  induction us generalizing w cs o with
  | nil => exact ⟨h, World.grownBy.refl _ _⟩
  | cons u us ih =>
    have hs := Heap.set (A := []) h o u
    have := ih (w := w.setCell ⟨g, o, none⟩ u) (cs.set o u) (o + 1) hs.1
    exact ⟨this.1, grownF hs.2 this.2⟩
/-- A new element, with inner rows made later, stored over another one. -/
theorem OwnX.put {n : Nat} {w : World} {B E B' E' g cap : Nat} {D1 D D2 D' : List Dat} {us : List Value} (h : OwnX t F n w B E (.slice (some ⟨g, 0, none⟩) n cap) (D1 ++ (D ++ D2))) {o : Nat} (ho : D1.length = o) (hl : D.length = us.length)
    (hv : valsD us D') (hn : HeapE w B' E' (innerD us D')) (hE : E ≤ B') (hB : B ≤ E) (hE' : E ≤ E') : OwnX t F n (putN w g o us) B E' (.slice (some ⟨g, 0, none⟩) n cap) (D1 ++ (D' ++ D2)) ∧ w.grownBy (putN w g o us) (some g) := by
  obtain ⟨vs, h1, h2⟩ := h
  have hlen := valsD_len h1
  rw [List.length_append, List.length_append] at hlen
  have e1 : vs = vs.take o ++ ((vs.drop o).take us.length ++ vs.drop (o + us.length)) := by
    rw [← List.drop_drop, List.take_append_drop, List.take_append_drop]
  generalize hV1 : vs.take o = V1 at e1
  generalize hV : (vs.drop o).take us.length = V at e1
  generalize vs.drop (o + us.length) = V2 at e1
  have l1 : V1.length = D1.length := by rw [← hV1, List.length_take]; omega
  have l2 : V.length = D.length := by rw [← hV, List.length_take, List.length_drop]; omega
  subst e1
  rw [valsD_append l1, valsD_append l2] at h1
  rw [innerD_append _ _ _ _ l1, innerD_append _ _ _ _ l2] at h2
  have hus := valsD_len hv
  have H1 := h2.1.sub (M := ⟨.slice (some ⟨g, 0, none⟩) n cap, t, F, n, V1 ++ (V ++ V2)⟩ :: (innerD V1 D1 ++ innerD V2 D2)) (by
    refine List.Sublist.cons_cons _ (List.Sublist.append (List.Sublist.refl _) (List.sublist_append_right _ _)))
  have H2 := Heap.putN us _ o H1
  rw [show setN (V1 ++ (V ++ V2)) o us = V1 ++ (us ++ V2) by rw [← ho, ← l1]; exact setN_mid us V V1 V2 (by omega)] at H2
  have hg : g < E := h2.2 _ List.mem_cons_self g rfl
  have H3 : Heap (putN w g o us) B' (innerD us D') := hn.1.grown H2.2 (fun r hr => by
    cases e : r.v.ownBlock with
    | none => exact .inl rfl
    | some k => exact .inr (by rw [← e]; intro hk; rw [e] at hk; injection hk with hk; have := hn.1.base_le hr k e; omega))
  have hlt : ∀ r ∈ (⟨.slice (some ⟨g, 0, none⟩) n cap, t, F, n, V1 ++ (us ++ V2)⟩ : Rw) :: (innerD V1 D1 ++ innerD V2 D2), ∀ b, r.v.ownBlock = some b → b < E := by
    intro r hr b hb
    rcases List.mem_cons.1 hr with rfl | h3
    · exact h2.2 _ List.mem_cons_self b hb
    · refine h2.2 r (List.mem_cons_of_mem _ ?_) b hb
      rcases List.mem_append.1 h3 with h4 | h4
      · exact List.mem_append_left _ h4
      · exact List.mem_append_right _ (List.mem_append_right _ h4)
  have H4 := H2.1.join H3 (by omega) (fun r hr b hb => by have := hlt r hr b hb; omega)
  refine ⟨⟨V1 ++ (us ++ V2), ?_, ?_⟩, H2.2⟩
  · rw [valsD_append l1, valsD_append hus]; exact ⟨h1.1, hv, h1.2.2⟩
  · rw [innerD_append _ _ _ _ l1, innerD_append _ _ _ _ hus]
    refine ⟨H4.perm ?_, fun r hr k hk => ?_⟩
    · rw [List.cons_append]
      refine List.Perm.cons _ ?_
      rw [List.append_assoc]
      exact List.Perm.append_left _ List.perm_append_comm
    · rcases List.mem_cons.1 hr with rfl | h3
      · have := hlt _ List.mem_cons_self k hk; omega
      · rcases List.mem_append.1 h3 with h4 | h4
        · have := hlt r (List.mem_cons_of_mem _ (List.mem_append_left _ h4)) k hk; omega
        · rcases List.mem_append.1 h4 with h5 | h5
          · exact hn.2 r h5 k hk
          · have := hlt r (List.mem_cons_of_mem _ (List.mem_append_right _ h5)) k hk; omega
theorem setCells_putN (w : World) (g o : Nat) (us : List Value) : w.setCells g o us = putN w g o us := by
  induction us generalizing w o with
  | nil => rfl
  | cons u us ih => exact ih (w.setCell ⟨g, o, none⟩ u) (o + 1)
/-- Rows of no length beside another one. -/
theorem Heap.nils {w : World} {B : Nat} {r : Rw} (h : r.own w B) : ∀ {L : List Rw}, (∀ x ∈ L, x.v = .slice none 0 0 ∧ x.n = 0 ∧ x.cs = []) → Heap w B (r :: L) := by
  intro L hL
  have hn : ∀ x ∈ L, x.v.ownBlock = none := fun x hx => by rw [(hL x hx).1]; rfl
  refine ⟨fun x hx => ?_, ?_⟩
  · rcases List.mem_cons.1 hx with rfl | h2
    · exact h
    · obtain ⟨e1, e2, e3⟩ := hL x h2
      exact ⟨by rw [e2, e3]; simp, .inl ⟨e1, e2⟩⟩
  · have ap : ∀ (x y : Rw), y.v.ownBlock = none → Ap x.v y.v ∧ Ap y.v x.v := by
      intro x y hy
      refine ⟨?_, .inl hy⟩
      cases e : x.v.ownBlock with
      | none => exact .inl e
      | some k => exact .inr (by rw [e, hy]; intro h; cases h)
    rw [List.pairwise_cons]
    refine ⟨fun x hx => ap r x (hn x hx), ?_⟩
    exact List.Pairwise.imp_of_mem (R := fun _ _ => True) (fun {x y} _ hy _ => ap x y (hn y hy)) (List.pairwise_of_forall (fun _ _ => trivial))
/-- A row that was just made: each element is the zero one. -/
theorem OwnX.made {w : World} {base g n cap : Nat} {zc : Array Value} (h : w.ownsRow base t F (.slice (some ⟨g, 0, none⟩) n cap) n (madeCells zc (n * F)).toList) (hz : zc.size = F) (h0 : 0 < F) (hv : valsD zc.toList (dat z))
    (hi : ∀ x ∈ innerD zc.toList (dat z), x.v = .slice none 0 0 ∧ x.n = 0 ∧ x.cs = []) : OwnX t F n w base w.heap.size (.slice (some ⟨g, 0, none⟩) n cap) (datL dat (List.replicate n z)) := by
  have hF := fun (r : Unit) => hz
  have e := zeroF_cells (c := fun _ : Unit => zc) (z := ()) (.agg zc) rfl hF h0 n
  have e' : (Value.agg zc).cells = zc := rfl
  rw [e'] at e
  rw [e] at h
  have key : ∀ m, valsD (cellsF (fun _ : Unit => zc) (List.replicate m ())) (datL dat (List.replicate m z)) ∧ ∀ x ∈ innerD (cellsF (fun _ : Unit => zc) (List.replicate m ())) (datL dat (List.replicate m z)), x.v = .slice none 0 0 ∧ x.n = 0 ∧ x.cs = [] := by
    intro m
    induction m with
    | zero => exact ⟨trivial, fun x hx => by cases hx⟩
    | succ m ih =>
      have e1 : cellsF (fun _ : Unit => zc) (List.replicate (m + 1) ()) = zc.toList ++ cellsF (fun _ : Unit => zc) (List.replicate m ()) := rfl
      have e2 : datL dat (List.replicate (m + 1) z) = dat z ++ datL dat (List.replicate m z) := rfl
      rw [e1, e2, valsD_append (valsD_len hv), innerD_append _ _ _ _ (valsD_len hv)]
      refine ⟨⟨hv, ih.1⟩, fun x hx => ?_⟩
      rcases List.mem_append.1 hx with h1 | h1
      · exact hi x h1
      · exact ih.2 x h1
  exact ⟨cellsF (fun _ : Unit => zc) (List.replicate n ()), (key n).1, HeapE.made (Heap.nils (r := ⟨.slice (some ⟨g, 0, none⟩) n cap, t, F, n, cellsF (fun _ : Unit => zc) (List.replicate n ())⟩) h (key n).2)⟩
theorem OwnX.there {n : Nat} {w : World} {B E g cap : Nat} {ds : List Dat} (h : OwnX t F n w B E (.slice (some ⟨g, 0, none⟩) n cap) ds) {o m : Nat} (hm : o + m ≤ n * F) : w.there g o m := by
  intro j hj
  obtain ⟨vs, h1, h2⟩ := h
  have ho : w.ownsRow B t F (.slice (some ⟨g, 0, none⟩) n cap) n vs := h2.1.own _ List.mem_cons_self
  exact ⟨by rw [World.ownsRow.cellAt ho (o + j) (by omega), List.getElem?_eq_getElem (by rw [ho.1]; omega)]; rfl, World.ownsRow.frozenAt ho (o + j)⟩
/-- Elements stored so far, ahead of zero ones. -/
theorem datL_part (hF : ∀ r, (dat r).length = F) (l : List α) (j : Nat) (hj : j < l.length) :
    datL dat (partF z l j) = datL dat (l.take j) ++ (dat z ++ datL dat (List.replicate (l.length - (j + 1)) z)) ∧ datL dat (partF z l (j + 1)) = datL dat (l.take j) ++ (dat (l.getD j z) ++ datL dat (List.replicate (l.length - (j + 1)) z)) ∧ (datL dat (l.take j)).length = j * F := by
  refine ⟨?_, ?_, ?_⟩
  · unfold partF
    rw [datL_append, show l.length - j = (l.length - (j + 1)) + 1 by omega]
    rfl
  · unfold partF
    rw [List.take_add_one, List.getElem?_eq_getElem hj, List.getD_eq_getElem?_getD, List.getElem?_eq_getElem hj, datL_append, datL_append, List.append_assoc]
    simp [datL]
  · rw [datL_length hF, List.length_take]; congr 1; omega
/-- The elements are the call's own, all blocks from B on and below E. -/
def OwnY (t : TypeId) (F : Nat) (dat : α → List Dat) (w : World) (B E : Nat) (v : Value) (l : List α) : Prop := OwnX t F l.length w B E v (datL dat l)
theorem OwnY.below {w w' : World} {B E : Nat} {v : Value} {l : List α} (h : OwnY t F dat w B E v l) (hb : Below w.heap.size w w') : OwnY t F dat w' B E v l := by
  obtain ⟨vs, h1, h2⟩ := h; exact ⟨vs, h1, h2.below hb⟩
theorem OwnY.far {w w' : World} {B E B' E' : Nat} {v : Value} {l : List α} (h : OwnY t F dat w B E v l) (hc : Chg (Within B' E') w w') (hd : E ≤ B' ∨ E' ≤ B) : OwnY t F dat w' B E v l := by
  obtain ⟨vs, h1, h2⟩ := h; exact ⟨vs, h1, h2.far hc hd⟩
theorem OwnY.shape {w : World} {B E : Nat} {v : Value} {l : List α} (h : OwnY t F dat w B E v l) : ∃ A cap, v = .slice A l.length cap := by
  obtain ⟨vs, h1, h2⟩ := h
  rcases (h2.1.own _ List.mem_cons_self).2 with ⟨e, h0⟩ | ⟨g, cap, cur, e, _⟩
  · have h0 : l.length = 0 := h0
    exact ⟨none, 0, by rw [h0]; exact e⟩
  · exact ⟨_, cap, e⟩
theorem OwnY.arg {w : World} {B E : Nat} {v : Value} {l : List α} (h : OwnY t F dat w B E v l) (hF : ∀ r, (dat r).length = F) (hwf : ∀ r, ∀ d ∈ dat r, d.wf) (z : α) : ArgT F dat z w v l := by
  obtain ⟨vs, hv, hh⟩ := h
  have ho := hh.1.own _ List.mem_cons_self
  have ho' : w.ownsRow B t F v l.length vs := ho
  have hl := valsD_len hv
  rcases ho'.2 with ⟨e, h0⟩ | ⟨g, cap, cur, e, hb, hg, hn, hm, hc, ht⟩
  · subst e
    exact ⟨none, 0, by rw [h0], by omega, Nat.zero_le _, fun h => by omega⟩
  · subst e
    refine ⟨_, cap, rfl, hn, hm, fun _ => ⟨g, 0, rfl, (World.ownsRow.lt ho' g rfl).2, fun j hj k d hd => ?_⟩⟩
    have hk : k < F := by rw [← hF (l.getD j z)]; exact (List.getElem?_eq_some_iff.1 hd).1
    have hlt : j * F + k < l.length * F := Nat.lt_of_lt_of_le (show j * F + k < (j + 1) * F by rw [Nat.add_mul]; omega) (Nat.mul_le_mul_right F hj)
    have hd' : (datL dat l)[j * F + k]? = some d := by rw [datL_at hF z l j k hj hk]; exact hd
    have hcell := World.ownsRow.cellAt ho' (j * F + k) hlt
    rw [Nat.zero_add]
    cases d with
    | val u => exact ⟨u, by rw [hcell]; exact valsD_val hv hd', rfl⟩
    | row t' F' n' cs' =>
      obtain ⟨u, hu, hm'⟩ := innerD_row hl hd'
      exact ⟨u, by rw [hcell]; exact hu, Rw.reads (hh.1.own _ (List.mem_cons_of_mem _ hm')) (hwf _ _ (List.mem_of_getElem? hd))⟩
end
end Go.Proofs.YtlnkjpacjbhncaaGreatDoor
/-
  Rows of ints of the call's own: one that was just built, appending one; the law's helper that looks for a number in a row.
-/
namespace Go.Proofs.YtlnkjpacjbhncaaGreatDoor
open Go.RowKit M
set_option linter.unusedVariables false
theorem OwnI.alloc {w : World} {base : Nat} {v : Value} {zs : List Int} (h : OwnI w base v zs) (o : Obj) : OwnI (w.alloc o) base v zs := ⟨World.ownsRow.alloc h.1 o, h.2⟩
theorem OwnI.base_le {w : World} {base : Nat} {v : Value} {zs : List Int} (h : OwnI w base v zs) : ∀ k, v.ownBlock = some k → base ≤ k := fun k hk => (World.ownsRow.lt h.1 k hk).1
/-- An empty row that was just built ([]int{}). -/
theorem OwnI.empty (w : World) (base : Nat) (hb : base ≤ w.heap.size) : OwnI (w.alloc (.cells #[] 3)) base (.slice (some ⟨w.heap.size, 0, none⟩) 0 0) [] :=
  ⟨World.ownsRow_lit w #[] 0 hb (Nat.zero_le _) rfl, _, _, rfl⟩
/-- append(v, x) onto an own row of ints, x being a number that lies alone in a new block. -/
theorem wpI_append (w : World) {ops : Array Oper} {rest : List Oper} {o : Oper} {a : Act} {Q : Exit → Act → World → Prop} (hgd : o.guard = none) (s x : Operand)
    (ho : o.op = .call { callee := .builtin .append, args := #[s, x], argTypes := #[22, 22] })
    (base : Nat) (v : Value) (l : List Int) (hown : OwnI w base v l) (hs : a.eval s = v)
    (c : Int) (hx : a.eval x = .slice (some ⟨w.heap.size, 0, none⟩) 1 1)
    (hlen : l.length + 1 ≤ 8796093022208) (hbase : base ≤ w.heap.size)
    (h : ∀ v' w', OwnI w' base v' (l ++ [c]) → (w.alloc (.cells #[.int .i64 c] 3)).grownBy w' v.ownBlock → wpList Tryz.prog ops Q rest (a.put o.dst v') w') : wpList Tryz.prog ops Q (o :: rest) a (w.alloc (.cells #[.int .i64 c] 3)) := by
  obtain ⟨i0, hi, hz0, hz1, hz2⟩ := info_parts info_int
  refine wpList_append_own (w.alloc (.cells #[.int .i64 c] 3)) hgd s x 22 ho base 3 i0 (.int .i64 0) 1 8 Tryz.underlying22 hi hz0 hz1 hz2 rfl (by decide) v l.length (l.map (Value.int .i64)) hs (hown.alloc _).1 ⟨w.heap.size, 0, none⟩ 1 1 [.int .i64 c] hx rfl ?_ (by intro u hu; simp at hu; subst hu; rfl) (by unfold maxLen; omega) (by omega) (by simp [go_sem]; omega) ?_
  · intro j u hu
    cases j with
    | zero => obtain rfl : Value.int .i64 c = u := by simpa using hu
              simp [go_sem]
    | succ j => simp at hu
  · intro v' w' h1 h2 _
    have h1' : w'.ownsRow base 3 1 v' (l.length + 1) ((l ++ [c]).map (Value.int .i64)) := by rw [List.map_append]; exact h1
    refine h v' w' (OwnI.of_row h1' (by simp) ?_) h2
    intro e
    subst e
    rcases h1'.2 with ⟨_, h0⟩ | ⟨g, cap, cur, e, _⟩
    · omega
    · cases e
theorem own_set {w w0 : World} {base g n cap : Nat} {zs : List Int} (h : OwnI w base (.slice (some ⟨g, 0, none⟩) n cap) zs) (j : Nat) (z : Int) (hb : Below base w0 w) (hg : base ≤ w.heap.size) :
    OwnI (w.setCell ⟨g, j, none⟩ (.int .i64 z)) base (.slice (some ⟨g, 0, none⟩) n cap) (zs.set j z) ∧ Below base w0 (w.setCell ⟨g, j, none⟩ (.int .i64 z)) := by
  have hs := h.set j z
  obtain ⟨g', e, h2, _⟩ := h.block
  cases e
  exact ⟨hs.1, hb.grown hs.2 hg (by intro k hk; cases hk; exact h2)⟩
end Go.Proofs.YtlnkjpacjbhncaaGreatDoor
/-
  Rows of bytes that a call made itself: the word 'OwnB w base v l' (the slice value v holds the bytes l, in a block from base on), and what making, storing, appending and turning into a string do to it.
-/
namespace Go.Proofs.YtlnkjpacjbhncaaGreatDoor
open Go.RowKit M
set_option linter.unusedVariables false
theorem info_u8 : (Tryz.prog.info? 5).map (fun i => (i.zero, i.size, i.bytes)) = some (some (.int .u8 0), 1, 1) := by kernel_rfl
def b2v (c : UInt8) : Value := .int .u8 (c.toNat : Int)
theorem b2v_one (l : List UInt8) : ∀ u ∈ l.map b2v, u.oneCell' = true := by
  intro u hu
  obtain ⟨c, _, rfl⟩ := List.mem_map.1 hu
  rfl
def OwnB (w : World) (base : Nat) (v : Value) (l : List UInt8) : Prop := w.ownsRow base 5 1 v l.length (l.map b2v)
theorem OwnB.alloc {w : World} {base : Nat} {v : Value} {l : List UInt8} (h : OwnB w base v l) (o : Obj) : OwnB (w.alloc o) base v l := World.ownsRow.alloc h o
theorem OwnB.kept {w w' : World} {base : Nat} {v : Value} {l : List UInt8} {row : Option Nat} (h : OwnB w base v l) (hg : w.grownBy w' row) (hne : v.ownBlock = none ∨ v.ownBlock ≠ row) : OwnB w' base v l := World.ownsRow.kept h hg hne
theorem conv_own {W : World} {base : Nat} {v : Value} {l : List UInt8} (h : OwnB W base v l) :
    (convert 71 9 v).run Tryz.prog W = .ok (.string ⟨l.toArray⟩) W := by
  rcases h.2 with ⟨rfl, h0⟩ | ⟨g, cap, cur, rfl, hb, hg, hn, hm, hc, ht⟩
  · have : l = [] := List.eq_nil_of_length_eq_zero h0
    subst this
    exact run_convert_bytes_nil (P := Tryz.prog) W 71 5 Tryz.underlying71 Tryz.underlying5 0 0 9 Tryz.underlying9
  · have hx := run_convert_bytes_arg (P := Tryz.prog) W 71 5 Tryz.underlying71 Tryz.underlying5 g 0 l.length cap (l.map fun c => (c.toNat : Int)) (by simp) (by
      intro i hi
      rw [Nat.zero_add, World.ownsRow.cellAt h i (by omega), List.getElem?_map, List.getElem?_eq_getElem hi]
      simp [b2v, List.getD, List.getElem?_eq_getElem hi]) 9 Tryz.underlying9
    rw [hx]
    have : strOfNums (l.map fun c => (c.toNat : Int)) = ⟨l.toArray⟩ := by
      simp [strOfNums, Function.comp_def]
    rw [this]
theorem OwnB.cell {w : World} {base g n cap : Nat} {l : List UInt8} (h : OwnB w base (.slice (some ⟨g, 0, none⟩) n cap) l) (hn : l.length = n) {j : Nat} {c : UInt8} (hj : l[j]? = some c) : w.cell? ⟨g, j, none⟩ = some (b2v c) := by
  subst hn
  obtain ⟨hl, _⟩ := List.getElem?_eq_some_iff.1 hj
  rw [World.ownsRow.cellAt h j (by omega), List.getElem?_map, hj]; rfl
theorem OwnB.cellEx {w : World} {base g n cap : Nat} {l : List UInt8} (h : OwnB w base (.slice (some ⟨g, 0, none⟩) n cap) l) (hn : l.length = n) {j : Nat} (hj : j < n) : ∃ z : Int, w.cell? ⟨g, j, none⟩ = some (.int .u8 z) :=
  ⟨_, h.cell hn (List.getElem?_eq_getElem (by omega))⟩
theorem OwnB.frz {w : World} {base g n cap : Nat} {l : List UInt8} (h : OwnB w base (.slice (some ⟨g, 0, none⟩) n cap) l) (hn : l.length = n) (j : Nat) : w.frozen? ⟨g, j, none⟩ = false := by
  subst hn
  exact World.ownsRow.frozenAt h j
/-- A slice of one byte that was just built, as a string. -/
theorem conv_one (W : World) (n : Int) :
    (convert 71 9 (.slice (some ⟨W.heap.size, 0, none⟩) 1 1)).run Tryz.prog (W.alloc (.cells #[.int .u8 n] 5)) = .ok (.string ⟨#[UInt8.ofNat n.toNat]⟩) (W.alloc (.cells #[.int .u8 n] 5)) := by
  have h := run_convert_bytes_arg (P := Tryz.prog) (W.alloc (.cells #[.int .u8 n] 5)) 71 5 Tryz.underlying71 Tryz.underlying5 W.heap.size 0 1 1 [n] rfl (by
    intro i hi
    obtain rfl : i = 0 := by omega
    simp [go_sem]) 9 Tryz.underlying9
  simpa [strOfNums] using h
/-- Filling from the front: what is there after j stores. -/
def part (l : List UInt8) (j : Nat) : List UInt8 := l.take j ++ List.replicate (l.length - j) 0
theorem part_length (l : List UInt8) (j : Nat) : (part l j).length = l.length := by
  simp only [part, List.length_append, List.length_take, List.length_replicate]; omega
theorem part_zero (l : List UInt8) : part l 0 = List.replicate l.length 0 := by simp [part]
theorem part_all (l : List UInt8) : part l l.length = l := by simp [part]
theorem part_set (l : List UInt8) (j : Nat) (c : UInt8) (hc : l[j]? = some c) : (part l j).set j c = part l (j + 1) := by
  obtain ⟨hj, he⟩ := List.getElem?_eq_some_iff.1 hc
  apply List.ext_getElem?
  intro i
  unfold part
  rcases Nat.lt_trichotomy i j with h | h | h
  · rw [List.getElem?_set_ne (by omega), List.getElem?_append_left (by simp; omega), List.getElem?_append_left (by simp; omega), List.getElem?_take_of_lt h, List.getElem?_take_of_lt (by omega)]
  · subst h
    rw [List.getElem?_set_self (by simp; omega), List.getElem?_append_left (by simp; omega), List.getElem?_take_of_lt (by omega), hc]
  · rw [List.getElem?_set_ne (by omega), List.getElem?_append_right (by simp; omega), List.getElem?_append_right (by simp; omega)]
    simp only [List.length_take, List.getElem?_replicate]
    congr 1
    simp only [eq_iff_iff]
    omega
theorem OwnB.made {w : World} {base g n : Nat} {cap : Nat} (h : w.ownsRow base 5 1 (.slice (some ⟨g, 0, none⟩) n cap) n (madeCells (Value.int .u8 0).cells (n * 1)).toList) (l : List UInt8) (hl : l.length = n) :
    OwnB w base (.slice (some ⟨g, 0, none⟩) n cap) (part l 0) := by
  unfold OwnB
  rw [part_length, hl, part_zero, hl]
  have : (madeCells (Value.int .u8 0).cells (n * 1)).toList = (List.replicate n (0 : UInt8)).map b2v := by
    rw [Nat.mul_one, List.map_replicate]
    exact toList_madeCells_one _ _
  rw [← this]
  exact h
theorem OwnB.store {w : World} {base g n cap : Nat} {l : List UInt8} {j : Nat} (hn : l.length = n) (h : OwnB w base (.slice (some ⟨g, 0, none⟩) n cap) (part l j)) (c : UInt8) (hc : l[j]? = some c) :
    OwnB (w.setCell ⟨g, j, none⟩ (b2v c)) base (.slice (some ⟨g, 0, none⟩) n cap) (part l (j + 1)) ∧ w.grownBy (w.setCell ⟨g, j, none⟩ (b2v c)) (some g) := by
  subst hn
  unfold OwnB at h ⊢
  rw [part_length] at h ⊢
  have hs := World.ownsRow.stored h j (b2v c)
  rw [← List.map_set, part_set l j c hc] at hs
  exact hs
/-- append(v, x...) onto an own row of bytes, x being bytes that lie at 'ad'. -/
theorem wpB_append (w : World) {ops : Array Oper} {rest : List Oper} {o : Oper} {a : Act} {Q : Exit → Act → World → Prop} (hgd : o.guard = none) (s x : Operand)
    (ho : o.op = .call { callee := .builtin .append, args := #[s, x], argTypes := #[71, 71] })
    (base : Nat) (v : Value) (l : List UInt8) (hown : OwnB w base v l) (hs : a.eval s = v)
    (ad : Addr) (m c : Nat) (news : List UInt8) (hx : a.eval x = .slice (some ad) m c) (hm : news.length = m) (hnews : ∀ (j : Nat) (u : UInt8), news[j]? = some u → w.cell? (ad.add j) = some (b2v u))
    (hlen : l.length + m ≤ 140737488355328) (hbase : base ≤ w.heap.size)
    (h : ∀ v' w', OwnB w' base v' (l ++ news) → w.grownBy w' v.ownBlock → wpList Tryz.prog ops Q rest (a.put o.dst v') w') : wpList Tryz.prog ops Q (o :: rest) a w := by
  obtain ⟨i0, hi, hz0, hz1, hz2⟩ := info_parts info_u8
  refine wpList_append_own w hgd s x 71 ho base 5 i0 (.int .u8 0) 1 1 Tryz.underlying71 hi hz0 hz1 hz2 rfl (by decide) v l.length (l.map b2v) hs hown ad m c (news.map b2v) hx (by simp [hm]) ?_ (b2v_one _) (by unfold maxLen; omega) (by omega) hbase ?_
  · intro j u hu
    rw [List.getElem?_map] at hu
    cases hj : news[j]? with
    | none => rw [hj] at hu; cases hu
    | some y =>
      rw [hj] at hu
      obtain rfl : b2v y = u := by simpa using hu
      exact hnews j y hj
  · intro v' w' h1 h2 _
    refine h v' w' ?_ h2
    unfold OwnB
    rw [List.length_append, hm, List.map_append]
    exact h1
theorem OwnB.drew {w : World} {base : Nat} {v : Value} {l : List UInt8} (h : OwnB w base v l) : OwnB w.drew base v l := h
/-- The like as one step of a region that draws its order. -/
theorem stepB_append {w : World} {ops : Array Oper} {o : Oper} {a : Act} {K : Act → World → Prop} {Q : Exit → Act → World → Prop} {E : Prop} (hgd : o.guard = none) (s x : Operand)
    (ho : o.op = .call { callee := .builtin .append, args := #[s, x], argTypes := #[71, 71] })
    (base : Nat) (v : Value) (l : List UInt8) (hown : OwnB w base v l) (hs : a.eval s = v)
    (ad : Addr) (m c : Nat) (news : List UInt8) (hx : a.eval x = .slice (some ad) m c) (hm : news.length = m) (hnews : ∀ (j : Nat) (u : UInt8), news[j]? = some u → w.cell? (ad.add j) = some (b2v u))
    (hlen : l.length + m ≤ 140737488355328) (hbase : base ≤ w.heap.size)
    (h : ∀ v' w', OwnB w' base v' (l ++ news) → w.grownBy w' v.ownBlock → K (a.put o.dst v') w') :
    if Region.wanted o (yielded ops a.tmps) = true then Oper.wp Tryz.prog o a w K Q else E := by
  have hw : Region.wanted o (yielded ops a.tmps) = true := by simp [Region.wanted, hgd]
  rw [if_pos hw]
  obtain ⟨i0, hi, hz0, hz1, hz2⟩ := info_parts info_u8
  refine wp_append_own w s x 71 ho base 5 i0 (.int .u8 0) 1 1 Tryz.underlying71 hi hz0 hz1 hz2 rfl (by decide) v l.length (l.map b2v) hs hown ad m c (news.map b2v) hx (by simp [hm]) ?_ (b2v_one _) (by unfold maxLen; omega) (by omega) hbase ?_
  · intro j u hu
    rw [List.getElem?_map] at hu
    cases hj : news[j]? with
    | none => rw [hj] at hu; cases hu
    | some y =>
      rw [hj] at hu
      obtain rfl : b2v y = u := by simpa using hu
      exact hnews j y hj
  · intro v' w' h1 h2 _
    refine h v' w' ?_ h2
    unfold OwnB
    rw [List.length_append, hm, List.map_append]
    exact h1
theorem one_get (c : UInt8) : ∀ (j : Nat) (u : UInt8), [c][j]? = some u → [b2v c][j]? = some (b2v u) := by
  intro j u hu
  rw [show [b2v c] = [c].map b2v from rfl, List.getElem?_map, hu]; rfl
theorem le_alloc {w : World} {B : Nat} (h : B ≤ w.heap.size) (o : Obj) : B ≤ (w.alloc o).heap.size := by simp [go_sem]; omega
theorem new1 (w : World) (c : UInt8) : ∀ (j : Nat) (u : UInt8), [c][j]? = some u → (w.alloc (.cells #[b2v c] 5)).cell? ((⟨w.heap.size, 0, none⟩ : Addr).add j) = some (b2v u) := by
  intro j u hu
  cases j with
  | zero => obtain rfl : c = u := by simpa using hu
            simp [go_sem]
  | succ j => simp at hu
theorem new2 (w : World) (c d : UInt8) : ∀ (j : Nat) (u : UInt8), [c, d][j]? = some u → (w.alloc (.cells #[b2v c, b2v d] 5)).cell? ((⟨w.heap.size, 0, none⟩ : Addr).add j) = some (b2v u) := by
  intro j u hu
  rcases j with _ | _ | j
  · obtain rfl : c = u := by simpa using hu
    simp [go_sem]
  · obtain rfl : d = u := by simpa using hu
    simp [go_sem, Addr.add]
  · simp at hu
theorem OwnB.base_le {w : World} {base : Nat} {v : Value} {l : List UInt8} (h : OwnB w base v l) : ∀ k, v.ownBlock = some k → base ≤ k := fun k hk => (World.ownsRow.lt h k hk).1
/-- An empty row that was just built ([]byte{}). -/
theorem OwnB.empty (w : World) (base : Nat) (hb : base ≤ w.heap.size) : OwnB (w.alloc (.cells #[] 5)) base (.slice (some ⟨w.heap.size, 0, none⟩) 0 0) [] :=
  World.ownsRow_lit w #[] 0 hb (Nat.zero_le _) rfl
end Go.Proofs.YtlnkjpacjbhncaaGreatDoor
/-
  Chapter 4, the model's UnpackKey: it answers what the plain words say and turns nothing that was there.
-/
namespace Go.Proofs.YtlnkjpacjbhncaaGreatDoor
open Go.RowKit M
set_option linter.unusedVariables false
theorem OwnB.shape {w : World} {base : Nat} {v : Value} {l : List UInt8} (h : OwnB w base v l) (hl : l ≠ []) : ∃ g cap, v = .slice (some ⟨g, 0, none⟩) l.length cap := by
  rcases h.2 with ⟨_, h0⟩ | ⟨g, cap, cur, rfl, _⟩
  · exact absurd (List.eq_nil_of_length_eq_zero h0) hl
  · exact ⟨g, cap, rfl⟩
/-- A row of one byte that was just built. -/
theorem OwnB.one (w : World) (base : Nat) (hb : base ≤ w.heap.size) (c : UInt8) : OwnB (w.alloc (.cells #[b2v c] 5)) base (.slice (some ⟨w.heap.size, 0, none⟩) 1 1) [c] :=
  World.ownsRow_lit w #[b2v c] 1 hb (by unfold maxLen; omega) rfl
set_option maxRecDepth 100000 in
set_option maxHeartbeats 400000 in
theorem sUnpack_any (w : World) (n : Int) : Calls Tryz.prog 33 #[.int .i64 n] w (Gives (unT (unV n)) w) := by
  by_cases hn : 1 ≤ n ∧ n ≤ 4294967295
  · have E := Lib.hid (show unV n = if keyOkV (unb n.toNat) = true then some (unb n.toNat) else none by unfold unV; rw [if_pos hn])
    obtain ⟨m, rfl⟩ := Int.eq_ofNat_of_zero_le (show 0 ≤ n by omega)
    rw [Int.toNat_natCast] at E
    obtain ⟨n0, n1⟩ := hn
    have hm : m ≤ 4294967295 := by omega
    go_enter Tryz.func33, Tryz.ntmps33
    go_wp2_with (go_at_call 32; refine (l1In_yes _ _ _ _ (by omega) (by omega)).mono ?_; rintro e w' ⟨rfl, rfl⟩)
    go_loopw [0, 4] (fun x v wr => ∃ (k g cap : Nat), k ≤ nbV m ∧ x = .int .i64 (dv m k : Nat) ∧ v = .slice (some ⟨g, 0, none⟩) k cap ∧ OwnB wr w.heap.size v (fx m k) ∧ Below w.heap.size w wr) (fun x _ _ => (intOf x).toNat)
    case atStart => exact ⟨0, _, _, Nat.zero_le _, by rw [dv_zero], rfl, OwnB.empty w _ (Nat.le_refl _), (Below.refl _ _).alloc (Nat.le_refl _) _⟩
    case round =>
      obtain ⟨k, g, cap, hk, rfl, rfl, ho, hb⟩ := hrel
      have hk4 : k ≤ 4 := Nat.le_trans hk (nbV_le m)
      have hle := dv_le m k
      by_cases hp : k < nbV m
      · have hpos := (nbV_iff hm hk4).2 hp
        have hv : Value.int .u8 (((dv m k : Nat) : Int) % 256) = b2v (UInt8.ofNat (dv m k)) := by unfold b2v; congr 1
        have HO1 : Hid (OwnB (wr.alloc (.cells #[.int .u8 (((dv m k : Nat) : Int) % 256)] 5)) w.heap.size (.slice (some ⟨wr.heap.size, 0, none⟩) 1 1) [UInt8.ofNat (dv m k)]) := Lib.hid (by rw [hv]; exact OwnB.one wr _ hb.size _)
        have HC1 : Hid (∀ (j : Nat) (u : UInt8), (fx m k)[j]? = some u → (wr.alloc (.cells #[.int .u8 (((dv m k : Nat) : Int) % 256)] 5)).cell? ((⟨g, 0, none⟩ : Addr).add j) = some (b2v u)) := Lib.hid (fun j u hu => by
          have := (ho.alloc (.cells #[.int .u8 (((dv m k : Nat) : Int) % 256)] 5)).cell (fx_length m k) hu
          rw [show (⟨g, 0, none⟩ : Addr).add j = ⟨g, j, none⟩ by unfold Addr.add; split <;> simp_all]; exact this)
        have HB := Lib.hid hb
        have HS := Lib.hid (dv_succ m k)
        have HL := Lib.hid (fx_length m k)
        clear hv ho hb
        go_wp2_with (at_builtin; refine wpB_append _ rfl _ _ rfl w.heap.size _ [UInt8.ofNat (dv m k)] HO1.out rfl ⟨g, 0, none⟩ k cap (fx m k) rfl HL.out HC1.out ?c2 ?c3 ?_; rotate_left 2; intro v' w1 hown' hgrow'; have HO' := Lib.hid hown'; have HG := Lib.hid hgrow'; clear hown' hgrow')
        · obtain ⟨g', cap', rfl⟩ := HO'.out.shape (by simp)
          go_roundw
          case rel => exact ⟨k + 1, g', cap', by omega, by rw [HS.out]; go_num, by simp [HL.out], HO'.out, (HB.out.alloc HB.out.size _).grown HG.out (by simp [go_sem]; have := HB.out.size; omega) (fun i hi => by injection hi with hi; rw [← hi]; exact HB.out.size)⟩
          case measure => simp [intOf]; omega
        case c2 => simp; omega
        case c3 => have := HB.out.size; simp [go_sem]; omega
      · have hz : dv m k = 0 := by have := (nbV_iff hm hk4); omega
        obtain rfl : k = nbV m := by omega
        have hcv := conv_own ho
        have hun : (⟨(fx m (nbV m)).toArray⟩ : ByteArray) = unb m := rfl
        rw [hun] at hcv
        have hus : (unb m).size ≤ maxLen := by rw [unb_size]; unfold maxLen; omega
        have HOK := Lib.hid (sKeyOk_any wr (unb m) hus)
        have HB := Lib.hid hb
        clear ho hb hun
        rw [hz]
        cases hkk : keyOkV (unb m) with
        | true =>
          rw [hkk] at HOK
          rw [if_pos hkk] at E
          clear hkk
          generalize unb m = s at *
          go_wp2_with (go_at_call 53; refine HOK.out.mono ?_; rintro e w' ⟨rfl, rfl⟩)
          go_ret2
          exact ⟨by rw [E.out]; rfl, HB.out⟩
        | false =>
          rw [hkk] at HOK
          rw [if_neg (by rw [hkk]; simp)] at E
          clear hkk
          generalize unb m = s at *
          go_wp2_with (go_at_call 53; refine HOK.out.mono ?_; rintro e w' ⟨rfl, rfl⟩)
          go_ret2
          exact ⟨by rw [E.out]; rfl, HB.out⟩
  · have E := Lib.hid (show unV n = none from if_neg hn)
    go_enter Tryz.func33, Tryz.ntmps33
    go_wp2_with (go_at_call 32; refine (l1In_no _ _ _ _ (by omega)).mono ?_; rintro e w' ⟨rfl, rfl⟩)
    go_ret2
    exact ⟨by rw [E.out]; rfl, Below.refl _ _⟩
end Go.Proofs.YtlnkjpacjbhncaaGreatDoor
/-
  Chapter 5, the model's functions: each answers what the plain words say. They turn nothing that was there.
-/
namespace Go.Proofs.YtlnkjpacjbhncaaGreatDoor
open Go.RowKit M
set_option linter.unusedVariables false
theorem sKindWord_any (w : World) (k : Int) : Calls Tryz.prog 34 #[.int .i64 k] w (Gives (.string (kindW k)) w) := by
  by_cases h : 1 ≤ k ∧ k ≤ 3
  · have hk : k = 1 ∨ k = 2 ∨ k = 3 := by omega
    rcases hk with rfl | rfl | rfl
    · go_enter Tryz.func34, Tryz.ntmps34
      go_wp2_with (go_at_call 32; refine (l1In_yes _ _ _ _ (by omega) (by omega)).mono ?_; rintro e w' ⟨rfl, rfl⟩)
      go_ret
      exact ⟨rfl, (Below.refl _ _).alloc (Nat.le_refl _) _⟩
    · go_enter Tryz.func34, Tryz.ntmps34
      go_wp2_with (go_at_call 32; refine (l1In_yes _ _ _ _ (by omega) (by omega)).mono ?_; rintro e w' ⟨rfl, rfl⟩)
      go_ret
      exact ⟨rfl, (Below.refl _ _).alloc (Nat.le_refl _) _⟩
    · go_enter Tryz.func34, Tryz.ntmps34
      go_wp2_with (go_at_call 32; refine (l1In_yes _ _ _ _ (by omega) (by omega)).mono ?_; rintro e w' ⟨rfl, rfl⟩)
      go_ret
      exact ⟨rfl, (Below.refl _ _).alloc (Nat.le_refl _) _⟩
  · have E := Lib.hid (kindW_no h)
    go_enter Tryz.func34, Tryz.ntmps34
    go_wp2_with (go_at_call 32; refine (l1In_no _ _ _ _ (by omega)).mono ?_; rintro e w' ⟨rfl, rfl⟩)
    go_ret
    exact ⟨ret_str E.out.symm, Below.refl _ _⟩
set_option maxRecDepth 100000 in
set_option maxHeartbeats 800000 in
theorem sUntag_any (w : World) (n : Int) : Calls Tryz.prog 13 #[.int .i64 n] w (Gives (untT (untagV n)) w) := by
  by_cases hn : 1 ≤ n ∧ n ≤ 17179869183
  · have E : untagV n = (match unV (n / 4) with | some s => if 1 ≤ n % 4 then some (s, n % 4) else none | none => none) := if_pos hn
    have HU := Lib.hid (sUnpack_any w (n / 4))
    have HK := fun W => Lib.hid (sKindWord_any W (n % 4))
    obtain ⟨n1, n2⟩ := hn
    have m0 : 0 ≤ n % 4 := by omega
    have m3 : n % 4 ≤ 3 := by omega
    cases hu : unV (n / 4) with
    | none =>
      rw [hu] at E
      rw [hu, unT_none] at HU
      have HE := Lib.hid E
      clear hu E
      go_enter Tryz.func13, Tryz.ntmps13
      go_wp2_with (first | (go_at_call 32; refine (l1In_yes _ _ _ _ (by omega) (by omega)).mono ?_; rintro e w' ⟨rfl, rfl⟩) | (go_at_call 33; refine HU.out.mono ?_; rintro e w2 ⟨rfl, hb⟩))
      go_ret2
      exact ⟨by rw [HE.out]; rfl, hb⟩
    | some s =>
      rw [hu] at E
      rw [hu, unT_some] at HU
      simp only at E
      by_cases hr : 1 ≤ n % 4
      · rw [if_pos hr] at E
        have hne := txt_some (kindW_some (k := n % 4) ⟨hr, m3⟩)
        have hne2 := txt_full (kindW_some (k := n % 4) ⟨hr, m3⟩)
        have HE := Lib.hid E
        clear hu E
        generalize kindW (n % 4) = y at *
        go_enter Tryz.func13, Tryz.ntmps13
        go_wp2_with (first | (go_at_call 32; refine (l1In_yes _ _ _ _ (by omega) (by omega)).mono ?_; rintro e w' ⟨rfl, rfl⟩) | (go_at_call 33; refine HU.out.mono ?_; rintro e w2 ⟨rfl, hb⟩))
        refine (HK w2).out.mono ?_
        rintro e w3 ⟨rfl, hb3⟩
        go_wp2_with fail
        go_ret2
        exact ⟨by rw [HE.out]; rfl, hb.trans (hb3.mono hb.size)⟩
      · rw [if_neg hr] at E
        have hk0 : kindW (n % 4) = ⟨#[]⟩ := kindW_no (by omega)
        rw [hk0] at HK
        have HE := Lib.hid E
        clear hu E hk0
        go_enter Tryz.func13, Tryz.ntmps13
        go_wp2_with (first | (go_at_call 32; refine (l1In_yes _ _ _ _ (by omega) (by omega)).mono ?_; rintro e w' ⟨rfl, rfl⟩) | (go_at_call 33; refine HU.out.mono ?_; rintro e w2 ⟨rfl, hb⟩))
        refine (HK w2).out.mono ?_
        rintro e w3 ⟨rfl, hb3⟩
        go_wp2_with fail
        go_ret2
        exact ⟨by rw [HE.out]; rfl, hb.trans (hb3.mono hb.size)⟩
  · have E := Lib.hid (show untagV n = none from if_neg hn)
    go_enter Tryz.func13, Tryz.ntmps13
    go_wp2_with (go_at_call 32; refine (l1In_no _ _ _ _ (by omega)).mono ?_; rintro e w' ⟨rfl, rfl⟩)
    go_ret2
    exact ⟨by rw [E.out]; rfl, Below.refl _ _⟩
theorem sUnpackGauge_any (w : World) (n : Int) : Calls Tryz.prog 79 #[.int .i64 n] w (Same w (.tuple #[.int .i64 (ungA n), .int .i64 (ungV n)])) := by
  by_cases h : 65536 ≤ n ∧ n ≤ 4294967295
  · have E := Lib.hid (show ungA n = n / 65536 from if_pos h)
    have E2 := Lib.hid (show ungV n = n % 65536 from if_pos h)
    obtain ⟨h1, h2⟩ := h
    go_enter Tryz.func79, Tryz.ntmps79
    go_wp2_with (go_at_call 32; refine (l1In_yes _ _ _ _ (by omega) (by omega)).mono ?_; rintro e w' ⟨rfl, rfl⟩)
    go_ret2
    exact ⟨ret_ii E.out.symm E2.out.symm, rfl⟩
  · have E := Lib.hid (show ungA n = 0 from if_neg h)
    have E2 := Lib.hid (show ungV n = 0 from if_neg h)
    go_enter Tryz.func79, Tryz.ntmps79
    go_wp2_with (go_at_call 32; refine (l1In_no _ _ _ _ (by omega)).mono ?_; rintro e w' ⟨rfl, rfl⟩)
    go_ret2
    exact ⟨ret_ii E.out.symm E2.out.symm, rfl⟩
end Go.Proofs.YtlnkjpacjbhncaaGreatDoor
/-
  The program's ReadFixed: the number that the first width bytes encode, and true; or 0 and false where width is not from 1 to 7 or the string is shorter. It does not turn the world.
-/
namespace Go.Proofs.YtlnkjpacjbhncaaGreatDoor
open Go.RowKit M
end Go.Proofs.YtlnkjpacjbhncaaGreatDoor
/-
  Is x an index below n? The program's test, as a contract: it returns the outcome and leaves the world alone.
-/
namespace Go.Proofs.YtlnkjpacjbhncaaGreatDoor
open Go.RowKit M
set_option linter.unusedVariables false
theorem isIdx_yes (x n : Int) (w : World) (h1 : 0 ≤ x) (h2 : x < n) :
    Calls Tryz.prog 58 #[.int .i64 x, .int .i64 n] w fun e w' => e = .returned (.bool true) ∧ w = w' := by
  go_enter Tryz.func58, Tryz.ntmps58
  go_wp2
  go_ret
  exact ⟨rfl, rfl⟩
theorem isIdx_no (x n : Int) (w : World) (h : x < 0 ∨ n ≤ x) :
    Calls Tryz.prog 58 #[.int .i64 x, .int .i64 n] w fun e w' => e = .returned (.bool false) ∧ w = w' := by
  by_cases h1 : 0 ≤ x
  · have h2 : decide (x < n) = false := by simp; omega
    go_enter Tryz.func58, Tryz.ntmps58
    go_wp2
    go_ret
    exact ⟨rfl, rfl⟩
  · go_enter Tryz.func58, Tryz.ntmps58
    go_wp2
    go_ret
    exact ⟨rfl, rfl⟩
end Go.Proofs.YtlnkjpacjbhncaaGreatDoor
/-
  Contracts of chapter 2, the model's and the program's: the check of the cells, looking at a cell.
-/
namespace Go.Proofs.YtlnkjpacjbhncaaGreatDoor
open Go.RowKit M
set_option linter.unusedVariables false
/-- All of the first j numbers can be held by a cell. -/
def AllW (zs : List Int) (j : Nat) : Prop := ∀ m, m < j → isW (zs.getD m 0) = true
theorem AllW.zero (zs : List Int) : AllW zs 0 := fun m h => absurd h (Nat.not_lt_zero _)
theorem AllW.next {zs : List Int} {j : Nat} (h : AllW zs j) (k : isW (zs.getD j 0) = true) : AllW zs (j + 1) := fun m hm => by
  by_cases e : m = j
  · rw [e]; exact k
  · exact h m (by omega)
theorem AllW.yes {zs : List Int} (h : AllW zs zs.length) (hn : zs.length = 71) : okC zs = true := by
  unfold okC; rw [all_getD h, hn]; rfl
theorem okC_no_len {zs : List Int} (hn : ¬ zs.length = 71) : okC zs = false := by unfold okC; rw [decide_eq_false hn]; rfl
theorem okC_no_at {zs : List Int} {j : Nat} (hj : j < zs.length) (h : isW (zs.getD j 0) = false) : okC zs = false := by unfold okC; rw [all_no hj h, Bool.and_false]
theorem ret_bool' {a b : Bool} (h : a = b) : Ending.returned (.bool a) = .returned (.bool b) := by rw [h]
set_option maxRecDepth 100000 in
theorem sOk_any (w : World) (v : Value) (zs : List Int) (h : Ints w v zs) :
    Calls Tryz.prog 30 #[v] w fun e w' => e = .returned (.bool (okC zs)) ∧ w = w' := by
  obtain ⟨b, off, cap, rfl, h1, h2, h3, h4⟩ := h
  generalize hn : zs.length = n at *
  have HN := Lib.hid hn
  have H4 := Lib.hid h4
  clear hn h4
  unfold maxLen at h2
  go_enter Tryz.func30, Tryz.ntmps30
  go_wp2
  go_loop [3] (fun i => ∃ j : Nat, j ≤ n ∧ i = .int .i64 j ∧ AllW zs j) (fun i => n - (intOf i).toNat)
  case atStart => exact ⟨0, Nat.zero_le _, rfl, AllW.zero _⟩
  case round =>
    obtain ⟨j, hj, rfl, ha⟩ := hrel
    have HA := Lib.hid ha
    clear ha
    by_cases hlt : j < n
    · have g1 := H4.out j hlt
      cases hw : isW (zs.getD j 0) with
      | true =>
        have HW := Lib.hid hw
        obtain ⟨w0, w1⟩ := isW_iff.1 hw
        clear hw
        generalize hz : zs.getD j 0 = z at *
        have HZ := Lib.hid hz
        clear hz
        go_wp2_with (go_at_call 32; refine (l1In_yes _ _ _ _ (by omega) (by omega)).mono ?_; rintro e w' ⟨rfl, rfl⟩)
        go_round
        case rel => exact ⟨j + 1, by omega, by go_num, HA.out.next (by rw [HZ.out]; exact HW.out)⟩
        case measure => simp [intOf]; omega
      | false =>
        have HW := Lib.hid (okC_no_at (by rw [HN.out]; exact hlt) hw)
        have w0 := isW_no.1 hw
        clear hw
        generalize hz : zs.getD j 0 = z at *
        clear hz
        go_wp2_with (go_at_call 32; refine (l1In_no _ _ _ _ (by omega)).mono ?_; rintro e w' ⟨rfl, rfl⟩)
        go_ret
        exact ⟨ret_bool' HW.out.symm, rfl⟩
    · obtain rfl : j = n := by omega
      by_cases h71 : j = 71
      · have t1 : ((j : Int) == 71) = true := by rw [beq_iff_eq]; omega
        have HX := Lib.hid (show okC zs = true from AllW.yes (by rw [HN.out]; exact HA.out) (by rw [HN.out]; exact h71))
        clear h71
        go_wp2
        go_ret
        exact ⟨ret_bool' HX.out.symm, rfl⟩
      · have t1 : ((j : Int) == 71) = false := by rw [beq_eq_false_iff_ne]; omega
        have HX := Lib.hid (show okC zs = false from okC_no_len (by rw [HN.out]; exact h71))
        clear h71
        go_wp2
        go_ret
        exact ⟨ret_bool' HX.out.symm, rfl⟩
theorem isWord_yes (x : Int) (w : World) (h : isW x = true) :
    Calls Tryz.prog 57 #[.int .i64 x] w fun e w' => e = .returned (.bool true) ∧ w = w' := by
  obtain ⟨h1, h2⟩ := isW_iff.1 h
  clear h
  go_enter Tryz.func57, Tryz.ntmps57
  have h3 : x < 281474976710656 := by omega
  go_wp2
  go_ret
  exact ⟨rfl, rfl⟩
theorem isWord_no (x : Int) (w : World) (h : isW x = false) :
    Calls Tryz.prog 57 #[.int .i64 x] w fun e w' => e = .returned (.bool false) ∧ w = w' := by
  rcases isW_no.1 h with h1 | h1
  · have h2 : decide (0 ≤ x) = false := by simp; omega
    clear h
    go_enter Tryz.func57, Tryz.ntmps57
    go_wp2
    go_ret
    exact ⟨rfl, rfl⟩
  · have h2 : decide (0 ≤ x) = true := by simp; omega
    have h3 : decide (x < 281474976710656) = false := by simp; omega
    have h4 : 0 ≤ x := by omega
    clear h
    go_enter Tryz.func57, Tryz.ntmps57
    go_wp2
    go_ret
    exact ⟨rfl, rfl⟩
set_option maxRecDepth 100000 in
theorem iOk_any (w : World) (v : Value) (zs : List Int) (h : Ints w v zs) :
    Calls Tryz.prog 39 #[v] w fun e w' => e = .returned (.bool (okC zs)) ∧ w = w' := by
  obtain ⟨b, off, cap, rfl, h1, h2, h3, h4⟩ := h
  generalize hn : zs.length = n at *
  have HN := Lib.hid hn
  have H4 := Lib.hid h4
  clear hn h4
  unfold maxLen at h2
  by_cases h71 : n = 71
  · have t1 : ((n : Int) != 71) = false := by rw [bne_eq_false_iff_eq]; omega
    have H71 := Lib.hid h71
    clear h71
    go_enter Tryz.func39, Tryz.ntmps39
    go_wp2
    go_loop [10] (fun i => ∃ j : Nat, j ≤ n ∧ i = .int .i64 j ∧ AllW zs j) (fun i => n - (intOf i).toNat)
    case atStart => exact ⟨0, Nat.zero_le _, rfl, AllW.zero _⟩
    case round =>
      obtain ⟨j, hj, rfl, ha⟩ := hrel
      have HA := Lib.hid ha
      clear ha
      by_cases hlt : j < n
      · have g1 := H4.out j hlt
        cases hw : isW (zs.getD j 0) with
        | true =>
          have HW := Lib.hid hw
          clear hw
          generalize hz : zs.getD j 0 = z at *
          have HZ := Lib.hid hz
          clear hz
          go_wp2_with (go_at_call 57; refine (isWord_yes _ _ HW.out).mono ?_; rintro e w' ⟨rfl, rfl⟩)
          go_round
          case rel => exact ⟨j + 1, by omega, by go_num, HA.out.next (by rw [HZ.out]; exact HW.out)⟩
          case measure => simp [intOf]; omega
        | false =>
          have HX := Lib.hid (okC_no_at (by rw [HN.out]; exact hlt) hw)
          have HW := Lib.hid hw
          clear hw
          generalize hz : zs.getD j 0 = z at *
          clear hz
          go_wp2_with (go_at_call 57; refine (isWord_no _ _ HW.out).mono ?_; rintro e w' ⟨rfl, rfl⟩)
          go_ret
          exact ⟨ret_bool' HX.out.symm, rfl⟩
      · obtain rfl : j = n := by omega
        have HX := Lib.hid (show okC zs = true from AllW.yes (by rw [HN.out]; exact HA.out) (by rw [HN.out]; exact H71.out))
        go_wp2
        go_ret
        exact ⟨ret_bool' HX.out.symm, rfl⟩
  · have t1 : ((n : Int) != 71) = true := by rw [bne_iff_ne]; omega
    have HX := Lib.hid (show okC zs = false from okC_no_len (by rw [HN.out]; exact h71))
    clear h71
    go_enter Tryz.func39, Tryz.ntmps39
    go_wp2
    go_ret
    exact ⟨ret_bool' HX.out.symm, rfl⟩
theorem sOk_b (w : World) (v : Value) (zs : List Int) (h : Ints w v zs) (b : Bool) (hb : okC zs = b) :
    Calls Tryz.prog 30 #[v] w fun e w' => e = .returned (.bool b) ∧ w = w' := by
  subst hb; exact sOk_any w v zs h
theorem iOk_b (w : World) (v : Value) (zs : List Int) (h : Ints w v zs) (b : Bool) (hb : okC zs = b) :
    Calls Tryz.prog 39 #[v] w fun e w' => e = .returned (.bool b) ∧ w = w' := by
  subst hb; exact iOk_any w v zs h
end Go.Proofs.YtlnkjpacjbhncaaGreatDoor
/-
  Chapter 3, the model's: each function of a cell's number answers what the plain words say, and leaves the world alone.
-/
namespace Go.Proofs.YtlnkjpacjbhncaaGreatDoor
open Go.RowKit M
set_option linter.unusedVariables false
theorem sIn_any (x : Int) (w : World) : Calls Tryz.prog 35 #[.int .i64 x] w (Same w (.int .i64 (inV x))) := by
  by_cases h : 0 ≤ x ∧ x ≤ 1
  · have E := Lib.hid (inV_yes h)
    obtain ⟨h0, h1⟩ := h
    go_enter Tryz.func35, Tryz.ntmps35
    go_wp2_with (go_at_call 32; first | (refine (l1In_yes _ _ _ _ (by omega) (by omega)).mono ?_; rintro e w' ⟨rfl, rfl⟩) | (refine (l1In_no _ _ _ _ (by omega)).mono ?_; rintro e w' ⟨rfl, rfl⟩))
    go_ret
    exact ⟨ret_i (by rw [E.out]), rfl⟩
  · have E := Lib.hid (inV_no h)
    go_enter Tryz.func35, Tryz.ntmps35
    go_wp2_with (go_at_call 32; first | (refine (l1In_yes _ _ _ _ (by omega) (by omega)).mono ?_; rintro e w' ⟨rfl, rfl⟩) | (refine (l1In_no _ _ _ _ (by omega)).mono ?_; rintro e w' ⟨rfl, rfl⟩))
    go_ret
    exact ⟨ret_i (by rw [E.out]), rfl⟩
theorem sKey_any (x : Int) (w : World) : Calls Tryz.prog 14 #[.int .i64 x] w (Same w (.int .i64 (keyV x))) := by
  by_cases h : 0 ≤ x ∧ x ≤ 3
  · have E := Lib.hid (keyV_yes h)
    obtain ⟨h0, h1⟩ := h
    go_enter Tryz.func14, Tryz.ntmps14
    go_wp2_with (go_at_call 32; first | (refine (l1In_yes _ _ _ _ (by omega) (by omega)).mono ?_; rintro e w' ⟨rfl, rfl⟩) | (refine (l1In_no _ _ _ _ (by omega)).mono ?_; rintro e w' ⟨rfl, rfl⟩))
    go_ret
    exact ⟨ret_i (by rw [E.out]), rfl⟩
  · have E := Lib.hid (keyV_no h)
    go_enter Tryz.func14, Tryz.ntmps14
    go_wp2_with (go_at_call 32; first | (refine (l1In_yes _ _ _ _ (by omega) (by omega)).mono ?_; rintro e w' ⟨rfl, rfl⟩) | (refine (l1In_no _ _ _ _ (by omega)).mono ?_; rintro e w' ⟨rfl, rfl⟩))
    go_ret
    exact ⟨ret_i (by rw [E.out]), rfl⟩
theorem sBase_any (b s : Int) (w : World) : Calls Tryz.prog 54 #[.int .i64 b, .int .i64 s] w (Same w (.int .i64 (cellV b s 0))) := by
  by_cases h : 0 ≤ b ∧ b ≤ 1
  · by_cases h' : 0 ≤ s ∧ s ≤ 3
    · have E := Lib.hid (cellV_yes (k := 0) h h')
      obtain ⟨h0, h1⟩ := h
      obtain ⟨h2, h3⟩ := h'
      go_enter Tryz.func54, Tryz.ntmps54
      go_wp2_with (go_at_call 32; first | (refine (l1In_yes _ _ _ _ (by omega) (by omega)).mono ?_; rintro e w' ⟨rfl, rfl⟩) | (refine (l1In_no _ _ _ _ (by omega)).mono ?_; rintro e w' ⟨rfl, rfl⟩))
      go_ret
      exact ⟨ret_i (by rw [E.out, Int.add_zero]), rfl⟩
    · have E := Lib.hid (cellV_noS (b := b) (k := 0) h')
      obtain ⟨h0, h1⟩ := h
      go_enter Tryz.func54, Tryz.ntmps54
      go_wp2_with (go_at_call 32; first | (refine (l1In_yes _ _ _ _ (by omega) (by omega)).mono ?_; rintro e w' ⟨rfl, rfl⟩) | (refine (l1In_no _ _ _ _ (by omega)).mono ?_; rintro e w' ⟨rfl, rfl⟩))
      go_ret
      exact ⟨ret_i (by rw [E.out]), rfl⟩
  · have E := Lib.hid (cellV_noB (s := s) (k := 0) h)
    go_enter Tryz.func54, Tryz.ntmps54
    go_wp2_with (go_at_call 32; first | (refine (l1In_yes _ _ _ _ (by omega) (by omega)).mono ?_; rintro e w' ⟨rfl, rfl⟩) | (refine (l1In_no _ _ _ _ (by omega)).mono ?_; rintro e w' ⟨rfl, rfl⟩))
    go_ret
    exact ⟨ret_i (by rw [E.out]), rfl⟩
end Go.Proofs.YtlnkjpacjbhncaaGreatDoor
/-
  A number modulo the word, the model's way: from 0 to the word less one, whatever the number.
-/
namespace Go.Proofs.YtlnkjpacjbhncaaGreatDoor
open Go.RowKit
set_option linter.unusedVariables false
theorem tmod_all (x : Int) : (x.tmod 281474976710656 + 281474976710656) % 281474976710656 = x % 281474976710656 := by
  have h := Int.tmod_eq_emod (a := x) (b := 281474976710656)
  split at h <;> simp at h <;> omega
theorem tmod_word (x : Int) (h0 : -1000000000000000 ≤ x) (h1 : x ≤ 1000000000000000) : (x.tmod 281474976710656 + 281474976710656) % 281474976710656 = x % 281474976710656 := tmod_all x
theorem tmod_bd (x : Int) : -281474976710656 < x.tmod 281474976710656 ∧ x.tmod 281474976710656 < 281474976710656 := by
  have h := Int.tmod_eq_emod (a := x) (b := 281474976710656)
  split at h <;> simp at h <;> omega
theorem sMod_any (x : Int) (w : World) : Calls Tryz.prog 78 #[.int .i64 x] w (Same w (.int .i64 (x % 281474976710656))) := by
  have HT := Lib.hid (tmod_all x)
  obtain ⟨b0, b1⟩ := tmod_bd x
  go_enter Tryz.func78, Tryz.ntmps78
  go_wp2
  go_ret
  exact ⟨ret_i (by rw [← HT.out]), rfl⟩
theorem mod_any (x : Int) (w : World) (h0 : -1000000000000000 ≤ x) (h1 : x ≤ 1000000000000000) :
    Calls Tryz.prog 78 #[.int .i64 x] w (Same w (.int .i64 (x % 281474976710656))) := sMod_any x w
end Go.Proofs.YtlnkjpacjbhncaaGreatDoor
/-
  Chapter 8, the model's look at a slot's cells: a part of the row of cells; the row of a slot that is read.
-/
namespace Go.Proofs.YtlnkjpacjbhncaaGreatDoor
open Go.RowKit M
set_option linter.unusedVariables false
theorem slotRaw_len {zs : List Int} {b s : Int} (hl : zs.length = 71) (hb : 0 ≤ b ∧ b ≤ 1) (hs : 0 ≤ s ∧ s ≤ 3) : (slotRaw zs b s).length = 8 := by
  unfold slotRaw; simp only [List.length_take, List.length_drop]; omega
theorem slotRaw_at {zs : List Int} {b s : Int} (hl : zs.length = 71) (hb : 0 ≤ b ∧ b ≤ 1) (hs : 0 ≤ s ∧ s ≤ 3) (j : Nat) (hj : j < 8) : (slotRaw zs b s).getD j 0 = zs.getD ((7 + b * 32 + s * 8).toNat + j) 0 := by
  unfold slotRaw
  rw [List.getD_eq_getElem?_getD, List.getD_eq_getElem?_getD, List.getElem?_take_of_lt hj, List.getElem?_drop]
/-- A part of a row of ints. -/
theorem Ints.part {w : World} {b off n cap : Nat} {zs : List Int} (h : Ints w (.slice (some ⟨b, off, none⟩) n cap) zs) (k m : Nat) (hk : k + m ≤ n) : Ints w (.slice (some ⟨b, off + k, none⟩) m (cap - k)) ((zs.drop k).take m) := by
  obtain ⟨b', off', cap', e, h1, h2, h3, h4⟩ := h
  injection e with e1 e2 e3
  injection e1 with e1
  injection e1 with e1 e4 _
  subst e1; subst e4; subst e3
  have hlen : ((zs.drop k).take m).length = m := by simp only [List.length_take, List.length_drop]; omega
  refine ⟨b, off + k, cap - k, by rw [hlen], by rw [hlen]; omega, by omega, h3, fun j hj => ?_⟩
  rw [hlen] at hj
  rw [List.getD_eq_getElem?_getD, List.getElem?_take_of_lt hj, List.getElem?_drop, ← List.getD_eq_getElem?_getD, ← h4 (k + j) (by omega), Nat.add_assoc]
set_option maxRecDepth 100000 in
theorem sRaw_same (w : World) (g off n cap : Nat) (b s : Int) (m : Nat) (hm' : 7 + b * 32 + s * 8 = (m : Int)) (hn : n = 71) (hc : n ≤ cap) (hm : cap ≤ maxLen) (hb : 0 ≤ b ∧ b ≤ 1) (hs : 0 ≤ s ∧ s ≤ 3) :
    Calls Tryz.prog 56 #[.slice (some ⟨g, off, none⟩) n cap, .int .i64 b, .int .i64 s] w (Same w (.slice (some ⟨g, off + m, none⟩) 8 (cap - m))) := by
  have HC := fun W => Lib.hid (sBase_any b s W)
  rw [cellV_yes hb hs, Int.add_zero] at HC
  subst hn
  have hm71 : m + 8 ≤ 71 := by omega
  rw [hm'] at HC
  clear hm' hb hs
  unfold maxLen at hm
  have q1 : (m : Int) + 8 ≤ (cap : Int) := by omega
  go_enter Tryz.func56, Tryz.ntmps56
  go_wp2_with (go_at_call 54; refine (HC _).out.mono ?_; rintro e w' ⟨rfl, rfl⟩)
  go_ret
  exact ⟨by simp, rfl⟩
end Go.Proofs.YtlnkjpacjbhncaaGreatDoor
/-
  The model's copy of a row of ints hands back a new one.
-/
namespace Go.Proofs.YtlnkjpacjbhncaaGreatDoor
open Go.RowKit M
set_option linter.unusedVariables false
end Go.Proofs.YtlnkjpacjbhncaaGreatDoor
/-
  The program's Fixed: the last width bytes of n, most significant first, where width is from 1 to 7, n is not negative and fits; else the empty string. It turns nothing that was there.
-/
namespace Go.Proofs.YtlnkjpacjbhncaaGreatDoor
open Go.RowKit M
set_option linter.unusedVariables false
def fxOut (n k : Nat) : ByteArray := if 256 ^ k ≤ n then ⟨#[]⟩ else fxs n k
theorem fx_val (n m : Nat) : Value.int .u8 ((n : Int) / 2 ^ (8 * m) % 256) = b2v (UInt8.ofNat (dv n m)) := by
  rw [shr_dv]; unfold b2v; congr 1
set_option maxRecDepth 100000 in
theorem iFx_bad (n k : Int) (w : World) (h : k < 1 ∨ 7 < k ∨ n < 0) :
    Calls Tryz.prog 82 #[.int .i64 n, .int .i64 k] w fun e w' => e = .returned (.string ⟨#[]⟩) ∧ w = w' := by
  by_cases h1 : k < 1
  · go_enter Tryz.func82, Tryz.ntmps82
    go_wp2
    go_ret
    exact ⟨rfl, rfl⟩
  · by_cases h2 : 7 < k
    · go_enter Tryz.func82, Tryz.ntmps82
      go_wp2
      go_ret
      exact ⟨rfl, rfl⟩
    · have h3 : n < 0 := by omega
      go_enter Tryz.func82, Tryz.ntmps82
      go_wp2
      go_ret
      exact ⟨rfl, rfl⟩
set_option maxRecDepth 100000 in
theorem iFx_big (n k : Nat) (w : World) (hn : n ≤ 9223372036854775807) (h1 : 1 ≤ k) (h2 : k ≤ 7) (hb : 256 ^ k ≤ n) :
    Calls Tryz.prog 82 #[.int .i64 n, .int .i64 k] w fun e w' => e = .returned (.string ⟨#[]⟩) ∧ w = w' := by
  have hne := shr_dv_ne n k hb
  go_enter Tryz.func82, Tryz.ntmps82
  go_wp2
  all_goals first | (exfalso; omega) | (go_ret; exact ⟨rfl, rfl⟩)
set_option maxRecDepth 100000 in
theorem iFx_good (n k : Nat) (w : World) (hn : n ≤ 9223372036854775807) (h1 : 1 ≤ k) (h2 : k ≤ 7) (hb : ¬ 256 ^ k ≤ n) :
    Calls Tryz.prog 82 #[.int .i64 n, .int .i64 k] w fun e w' => e = .returned (.string (fxs n k)) ∧ Below w.heap.size w w' := by
  have hne := shr_dv_eq n k hb
  obtain ⟨i0, hi, hz0, hz1, hz2⟩ := info_parts info_u8
  go_enter Tryz.func82, Tryz.ntmps82
  go_wp2_with (refine wpList_make_full _ rfl _ _ 71 rfl w.heap.size 5 i0 (.int .u8 0) 1 Tryz.underlying71 hi hz0 hz1 .i64 .i64 _ _ k rfl rfl rfl rfl ?c1 ?c2 ?c3 ?_; rotate_left 3; intro w1 hown hg; have HO := Lib.hid hown; have HG := Lib.hid hg; clear hown hg)
  case c1 => omega
  case c2 => unfold maxLen; omega
  go_loopw [6, 28] (fun _ i wr => ∃ j : Nat, j ≤ k ∧ i = .int .i64 j ∧ OwnB wr w.heap.size (.slice (some ⟨w.heap.size, 0, none⟩) k k) (part (fx n k) j) ∧ Below w.heap.size w wr) (fun _ i _ => k - (intOf i).toNat)
  case atStart => exact ⟨0, Nat.zero_le _, rfl, OwnB.made HO.out _ (fx_length n k), (Below.refl _ _).grown HG.out (Nat.le_refl _) (by intro _ h; cases h)⟩
  case round =>
    obtain ⟨j, hj, rfl, ho, hbl⟩ := hrel
    by_cases hlt : j < k
    · obtain ⟨z, hc⟩ := ho.cellEx (by rw [part_length, fx_length]) hlt
      have hf := ho.frz (by rw [part_length, fx_length]) j
      have HO2 := Lib.hid ho
      clear ho
      go_wp2
      go_roundw
      case rel =>
        rw [fx_val]
        have hst := HO2.out.store (fx_length n k) _ (fx_get n k j hlt)
        exact ⟨j + 1, by omega, by go_num, hst.1, hbl.grown hst.2 hbl.size (by intro _ h; cases h; exact Nat.le_refl _)⟩
      case measure => simp [intOf]; omega
    · obtain rfl : j = k := by omega
      have hcv := conv_own ho
      have hp := Lib.hid (part_all (fx n j))
      rw [fx_length] at hp
      have HO2 := Lib.hid ho
      clear ho
      go_wp2
      go_ret
      exact ⟨ret_str (by rw [hp.out]; rfl), hbl⟩
end Go.Proofs.YtlnkjpacjbhncaaGreatDoor

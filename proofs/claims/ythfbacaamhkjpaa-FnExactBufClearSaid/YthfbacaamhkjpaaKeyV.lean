/-
  Chapter 4 in plain words: which bytes a key has, the number of a key, the key of a number, the hash.
-/
import Derived.Test.YthfbacaamhkjpaaMath
import Derived.Lib.Hide
namespace Go.Proofs.Ythfbacaamhkjpaa.M
open Go.RowKit
set_option linter.unusedVariables false
/-- May the byte stand in a key? -/
def keyB (c : Nat) : Bool := (decide (97 ≤ c) && decide (c ≤ 122)) || (decide (65 ≤ c) && decide (c ≤ 90)) || (decide (48 ≤ c) && decide (c ≤ 57)) || decide (c = 95)
theorem keyB_pos {c : Nat} (h : keyB c = true) : 48 ≤ c ∧ c ≤ 122 := by simp [keyB] at h; omega
/-- The first j bytes may stand in a key. -/
def AllB (s : ByteArray) (j : Nat) : Prop := ∀ m (h : m < s.size), m < j → keyB s[m].toNat = true
theorem AllB.zero (s : ByteArray) : AllB s 0 := fun m _ h => absurd h (Nat.not_lt_zero _)
theorem AllB.next {s : ByteArray} {j : Nat} (h : AllB s j) (hj : j < s.size) (k : keyB s[j].toNat = true) : AllB s (j + 1) := fun m hm hl => by
  by_cases e : m = j
  · subst e; exact k
  · exact h m hm (by omega)
def keyOkV (s : ByteArray) : Bool := (decide (1 ≤ s.size) && decide (s.size ≤ 4)) && s.data.toList.all fun c => keyB c.toNat
theorem all_iff {s : ByteArray} : (s.data.toList.all fun c => keyB c.toNat) = true ↔ AllB s s.size := by
  rw [List.all_eq_true]
  constructor
  · intro h m hm _
    exact h _ (by rw [show s[m] = s.data.toList[m]'(by simpa using hm) from rfl]; exact List.getElem_mem _)
  · intro h c hc
    obtain ⟨m, hm, rfl⟩ := List.getElem_of_mem hc
    have hm' : m < s.size := by simpa using hm
    exact h m hm' hm'
theorem keyOkV_iff {s : ByteArray} : keyOkV s = true ↔ (1 ≤ s.size ∧ s.size ≤ 4) ∧ AllB s s.size := by
  unfold keyOkV
  rw [Bool.and_eq_true, Bool.and_eq_true, decide_eq_true_eq, decide_eq_true_eq, all_iff]
theorem keyOkV_no {s : ByteArray} {j : Nat} (hj : j < s.size) (h : keyB s[j].toNat = false) : keyOkV s = false := by
  rw [← Bool.not_eq_true]
  intro k
  have := (keyOkV_iff.1 k).2 j hj hj
  rw [h] at this; cases this
theorem keyOkV_size {s : ByteArray} (h : ¬ (1 ≤ s.size ∧ s.size ≤ 4)) : keyOkV s = false := by
  rw [← Bool.not_eq_true]; intro k; exact h (keyOkV_iff.1 k).1
/-- The number of a key. -/
def packV (s : ByteArray) : Nat := if keyOkV s = true then be s.data.toList else 0
theorem be_lt4 {s : ByteArray} (h : s.size ≤ 4) : be s.data.toList < 4294967296 := by
  have h1 := be_lt s.data.toList
  have h2 : s.data.toList.length ≤ 4 := by simpa using h
  have h3 : 256 ^ s.data.toList.length ≤ 256 ^ 4 := Nat.pow_le_pow_right (by decide) h2
  omega
theorem packV_lt (s : ByteArray) : packV s < 4294967296 := by
  unfold packV
  split
  · rename_i h; exact be_lt4 (keyOkV_iff.1 h).1.2
  · decide
/-- How many bytes a number has. -/
def nbV (n : Nat) : Nat := if n = 0 then 0 else if n < 256 then 1 else if n < 65536 then 2 else if n < 16777216 then 3 else 4
/-- The bytes of a number, most significant first, no zero ahead. -/
def unb (n : Nat) : ByteArray := fxs n (nbV n)
theorem unb_size (n : Nat) : (unb n).size = nbV n := fxs_size _ _
/-- UnpackKey's answer. -/
def unV (n : Int) : Option ByteArray := if 1 ≤ n ∧ n ≤ 4294967295 then (if keyOkV (unb n.toNat) = true then some (unb n.toNat) else none) else none
def unT : Option ByteArray → Value
  | some s => .tuple #[.string s, .bool true]
  | none => .tuple #[.string ⟨#[]⟩, .bool false]
theorem unT_none : unT none = .tuple #[.string ⟨#[]⟩, .bool false] := rfl
theorem unT_some (s : ByteArray) : unT (some s) = .tuple #[.string s, .bool true] := rfl
/-- The hash of the first j bytes. -/
def hashS (h c : Nat) : Nat := (h ^^^ c) * 16777619 % 4294967296
def hashF (h : Nat) (c : UInt8) : Nat := hashS h c.toNat
def hash0 : Nat := 2166136261
def hashT (l : List UInt8) : Nat := l.foldl hashF hash0
theorem hashF_lt (h : Nat) (c : UInt8) : hashF h c < 4294967296 := Nat.mod_lt _ (by decide)
theorem hash_fold_lt : ∀ (l : List UInt8) (h : Nat), h < 4294967296 → l.foldl hashF h < 4294967296
  | [], _, hh => hh
  | c :: l, h, _ => hash_fold_lt l (hashF h c) (hashF_lt h c)
theorem hashT_lt (l : List UInt8) : hashT l < 4294967296 := hash_fold_lt l hash0 (by decide)
theorem hash_fold_snoc (h : Nat) (l : List UInt8) (c : UInt8) : (l ++ [c]).foldl hashF h = hashF (l.foldl hashF h) c := by
  rw [List.foldl_append, List.foldl_cons, List.foldl_nil]
theorem hashT_snoc (l : List UInt8) (c : UInt8) : hashT (l ++ [c]) = hashS (hashT l) c.toNat := hash_fold_snoc hash0 l c
theorem hashT_take (s : ByteArray) (k : Nat) (h : k < s.size) : hashT (s.data.toList.take (k + 1)) = hashS (hashT (s.data.toList.take k)) s[k].toNat := by
  rw [take_snoc s k h, hashT_snoc]
def hashV (s : ByteArray) : Nat := hashT s.data.toList
theorem xor_i64 {a b : Nat} (ha : a < 4294967296) (hb : b < 4294967296) : bits .xor .i64 (a : Int) (b : Int) = ((a ^^^ b : Nat) : Int) := by
  have hlt : a ^^^ b < 2 ^ 32 := Nat.xor_lt_two_pow (by omega) (by omega)
  have ka : (BitVec.ofInt 64 (a : Int)).toNat = a := by rw [BitVec.toNat_ofInt]; omega
  have kb : (BitVec.ofInt 64 (b : Int)).toNat = b := by rw [BitVec.toNat_ofInt]; omega
  show IntKind.i64.wrap ((BitVec.ofInt 64 (a : Int) ^^^ BitVec.ofInt 64 (b : Int)).toNat : Nat) = _
  rw [BitVec.toNat_xor, ka, kb, IntKind.wrap_i64]
  omega
theorem xor_lt32 {a b : Nat} (ha : a < 4294967296) (hb : b < 4294967296) : a ^^^ b < 4294967296 := Nat.xor_lt_two_pow (n := 32) (by omega) (by omega)
/-- Probe's answer. -/
def probeV (s : ByteArray) (n : Int) : Int := if keyOkV s = true ∧ 0 ≤ n ∧ n ≤ 3 then ((hashV s : Int) + n) % 4 else -1
theorem nbV_iff {m k : Nat} (hm : m ≤ 4294967295) (hk : k ≤ 4) : 0 < dv m k ↔ k < nbV m := by
  rw [dv_pos]
  unfold nbV
  have h : k = 0 ∨ k = 1 ∨ k = 2 ∨ k = 3 ∨ k = 4 := by omega
  rcases h with rfl | rfl | rfl | rfl | rfl <;> simp <;> (repeat' split) <;> omega
theorem nbV_le (m : Nat) : nbV m ≤ 4 := by unfold nbV; (repeat' split) <;> omega
theorem hash_next (h c : Nat) : (((h ^^^ c : Nat) : Int) * 16777619) % 4294967296 = (hashS h c : Nat) := by unfold hashS; omega
theorem u8_of (c : UInt8) (n : Nat) (h : n % 256 = c.toNat) : UInt8.ofNat n = c := by
  apply UInt8.toNat_inj.1; simp; exact h
theorem fx_four {l : List UInt8} (h : l.length ≤ 4) : fx (be l) l.length = l := by
  match l, h with
  | [], _ => rfl
  | [a], _ =>
    have ha := a.toNat_lt
    simp only [be, List.foldl, List.length, fx, dv]
    rw [u8_of a _ (by omega)]
  | [a, b], _ =>
    have ha := a.toNat_lt; have hb := b.toNat_lt
    simp only [be, List.foldl, List.length, fx, dv]
    rw [u8_of a _ (by omega), u8_of b _ (by omega)]
  | [a, b, c], _ =>
    have ha := a.toNat_lt; have hb := b.toNat_lt; have hc := c.toNat_lt
    simp only [be, List.foldl, List.length, fx, dv]
    rw [u8_of a _ (by omega), u8_of b _ (by omega), u8_of c _ (by omega)]
  | [a, b, c, d], _ =>
    have ha := a.toNat_lt; have hb := b.toNat_lt; have hc := c.toNat_lt; have hd := d.toNat_lt
    simp only [be, List.foldl, List.length, fx, dv]
    rw [u8_of a _ (by omega), u8_of b _ (by omega), u8_of c _ (by omega), u8_of d _ (by omega)]
  | _ :: _ :: _ :: _ :: _ :: _, h => simp at h
theorem nb_1 {n : Nat} (h : 1 ≤ n ∧ n < 256) : nbV n = 1 := by unfold nbV; rw [if_neg (by omega), if_pos (by omega)]
theorem nb_2 {n : Nat} (h : 256 ≤ n ∧ n < 65536) : nbV n = 2 := by unfold nbV; rw [if_neg (by omega), if_neg (by omega), if_pos (by omega)]
theorem nb_3 {n : Nat} (h : 65536 ≤ n ∧ n < 16777216) : nbV n = 3 := by unfold nbV; rw [if_neg (by omega), if_neg (by omega), if_neg (by omega), if_pos (by omega)]
theorem nb_4 {n : Nat} (h : 16777216 ≤ n) : nbV n = 4 := by unfold nbV; rw [if_neg (by omega), if_neg (by omega), if_neg (by omega), if_neg (by omega)]
theorem nb_four {l : List UInt8} (h : l.length ≤ 4) (h0 : ∀ c ∈ l.head?, 0 < c.toNat) : nbV (be l) = l.length := by
  match l, h with
  | [], _ => rfl
  | [a], _ =>
    have ha := a.toNat_lt
    have h1 := h0 a rfl
    exact nb_1 (by simp only [be, List.foldl]; omega)
  | [a, b], _ =>
    have ha := a.toNat_lt; have hb := b.toNat_lt
    have h1 := h0 a rfl
    exact nb_2 (by simp only [be, List.foldl]; omega)
  | [a, b, c], _ =>
    have ha := a.toNat_lt; have hb := b.toNat_lt; have hc := c.toNat_lt
    have h1 := h0 a rfl
    exact nb_3 (by simp only [be, List.foldl]; omega)
  | [a, b, c, d], _ =>
    have ha := a.toNat_lt; have hb := b.toNat_lt; have hc := c.toNat_lt; have hd := d.toNat_lt
    have h1 := h0 a rfl
    exact nb_4 (by simp only [be, List.foldl]; omega)
  | _ :: _ :: _ :: _ :: _ :: _, h => simp at h
theorem key_head {s : ByteArray} (h : keyOkV s = true) : ∀ c ∈ s.data.toList.head?, 0 < c.toNat := by
  intro c hc
  have hm : c ∈ s.data.toList := List.mem_of_mem_head? hc
  have := h
  unfold keyOkV at this
  rw [Bool.and_eq_true, List.all_eq_true] at this
  have := keyB_pos (this.2 c hm)
  omega
theorem unb_be {s : ByteArray} (h : keyOkV s = true) : unb (be s.data.toList) = s := by
  have h4 := (keyOkV_iff.1 h).1.2
  have hl : s.data.toList.length ≤ 4 := by simpa using h4
  unfold unb fxs
  rw [nb_four hl (key_head h), fx_four hl]
theorem be_some {s : ByteArray} (h : keyOkV s = true) : 1 ≤ be s.data.toList := by
  have h4 := (keyOkV_iff.1 h).1
  have hl : s.data.toList.length ≤ 4 := by simpa using h4.2
  have e := nb_four hl (key_head h)
  rcases Nat.eq_zero_or_pos (be s.data.toList) with h0 | h0
  · rw [h0] at e
    have : s.size = 0 := by have : s.data.toList.length = 0 := e.symm; simpa using this
    omega
  · exact h0
/-- A key is read from its number. -/
theorem unV_pack {s : ByteArray} (h : keyOkV s = true) : unV (packV s : Nat) = some s ∧ 1 ≤ packV s := by
  have e : packV s = be s.data.toList := if_pos h
  have hlt := packV_lt s
  have hp : 1 ≤ packV s := by rw [e]; exact be_some h
  refine ⟨?_, hp⟩
  unfold unV
  rw [if_pos (by omega), Int.toNat_natCast, e, unb_be h, if_pos h]
theorem be_fx4 {n : Nat} (h : n ≤ 4294967295) : be (fx n (nbV n)) = n := by
  unfold nbV
  (repeat' split) <;> simp only [fx, be, List.foldl, dv, UInt8.toNat_ofNat'] <;> omega
/-- A number that has a key is that key's number. -/
theorem pack_unV {n : Int} {s : ByteArray} (h : unV n = some s) : keyOkV s = true ∧ (packV s : Int) = n := by
  unfold unV at h
  split at h
  · split at h
    · rename_i h1 h2
      injection h with h
      subst h
      refine ⟨h2, ?_⟩
      have e : packV (unb n.toNat) = be (unb n.toNat).data.toList := if_pos h2
      rw [e]
      have : (unb n.toNat).data.toList = fx n.toNat (nbV n.toNat) := rfl
      rw [this, be_fx4 (by omega)]; omega
    · cases h
  · cases h
theorem packV_no {s : ByteArray} (h : keyOkV s = false) : packV s = 0 := by unfold packV; rw [h]; rfl
theorem unV_zero : unV 0 = none := if_neg (by decide)
/-- The first j slots on a key's way. -/
def probeL (s : ByteArray) (j : Nat) : List Int := (List.range j).map fun k : Nat => probeV s k
theorem probeL_len (s : ByteArray) (j : Nat) : (probeL s j).length = j := by simp [probeL]
theorem probeL_next (s : ByteArray) (j : Nat) : probeL s j ++ [probeV s (j : Nat)] = probeL s (j + 1) := by simp [probeL, List.range_succ]
theorem probeL_at (s : ByteArray) {j i : Nat} (h : i < j) : (probeL s j).getD i 0 = probeV s (i : Nat) := by
  rw [List.getD_eq_getElem?_getD, List.getElem?_eq_getElem (by rw [probeL_len]; exact h)]; simp [probeL]
theorem probeV_yes {s : ByteArray} (h : keyOkV s = true) {k : Nat} (hk : k < 4) : probeV s (k : Nat) = ((hashV s : Int) + k) % 4 := if_pos ⟨h, by omega, by omega⟩
theorem probeV_no {s : ByteArray} (h : keyOkV s = false) (n : Int) : probeV s n = -1 := if_neg fun x => by rw [h] at x; cases x.1
/-- A key's way meets no slot twice. -/
theorem probeL_new {s : ByteArray} (h : keyOkV s = true) {j : Nat} (hj : j < 4) : ∀ i, i < (probeL s j).length → (probeL s j).getD i 0 ≠ probeV s (j : Nat) := fun i hi => by
  rw [probeL_len] at hi
  rw [probeL_at s hi, probeV_yes h (by omega), probeV_yes h hj]
  omega
end Go.Proofs.Ythfbacaamhkjpaa.M

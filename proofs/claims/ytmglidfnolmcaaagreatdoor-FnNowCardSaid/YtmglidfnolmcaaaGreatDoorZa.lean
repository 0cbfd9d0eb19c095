/-
  Several small texts of this proof, one behind another: each says ahead of itself what it proves.
-/
import Derived.WalkKit
import Derived.Lib.Hide
import Derived.Test.YtmglidfnolmcaaaGreatDoorChecked
import Derived.KernelRfl
import Derived.Deep.QuietTactic
import Derived.BigQuiet
import Derived.OwnWalk
import Derived.ProofKit
import Derived.OpenShut
import Derived.Laws.Cover1
import Derived.BigGuardPart
import Derived.Deep.Cut
import Derived.Lib.SliceRun
import Derived.Shelf.Strings.Trim
import Derived.Shelf.Small.Utf8
import Derived.Shelf.Small.Strs
import Derived.Shelf.Strings.Search1
import Derived.Shelf.Strings.Runes
import Derived.Shelf.Strings.AsciiSet
import Derived.Shelf.Unicode.DecodeSlow
import Derived.Ground.Names2Prog
import Derived.Shelf.Slices.Clone
import Derived.Test.YtmglidfnolmcaaaGreatDoorProg
import Derived.Lib.Strings
import Derived.Deep.Fields
import Derived.Deep.Slices
import Derived.Lib.Bytealg
import Derived.Laws.Externs
/-
  Plain mathematics of bytes and digits, with no program in sight: the number that a row of bytes encodes, most significant byte first; what shifting and or-ing by eight bits comes to.
-/
namespace Go.Proofs.YtmglidfnolmcaaaGreatDoor.M
open Go.RowKit

theorem ret_int {k : IntKind} {a b : Int} (h : a = b) : Ending.returned (.int k a) = .returned (.int k b) := by rw [h]
theorem ret_str {a b : ByteArray} (h : a = b) : Ending.returned (.string a) = .returned (.string b) := by rw [h]
theorem ret_bool {a b : Bool} (h : a = b) : Ending.returned (.bool a) = .returned (.bool b) := by rw [h]
/-- The number that the bytes encode, most significant byte first. -/
def be (l : List UInt8) : Nat := l.foldl (fun n c => n * 256 + c.toNat) 0
theorem be_snoc (l : List UInt8) (c : UInt8) : be (l ++ [c]) = be l * 256 + c.toNat := by
  simp [be, List.foldl_append]
theorem be_lt_aux (l : List UInt8) : ∀ a : Nat, l.foldl (fun n c => n * 256 + c.toNat) a < (a + 1) * 256 ^ l.length := by
  induction l with
  | nil => intro a; simp
  | cons c l ih =>
    intro a
    have h := ih (a * 256 + c.toNat)
    have hc := c.toNat_lt
    have e : (a * 256 + c.toNat + 1) * 256 ^ l.length ≤ ((a + 1) * 256) * 256 ^ l.length := Nat.mul_le_mul_right _ (by omega)
    rw [List.foldl_cons, List.length_cons, Nat.pow_succ, Nat.mul_comm (256 ^ l.length) 256, ← Nat.mul_assoc]
    omega
theorem be_lt (l : List UInt8) : be l < 256 ^ l.length := by
  have h := be_lt_aux l 0
  simpa [be] using h
theorem take_snoc (s : ByteArray) (k : Nat) (h : k < s.size) : s.data.toList.take (k + 1) = s.data.toList.take k ++ [s[k]] := by
  rw [List.take_succ_eq_append_getElem (by simpa using h)]; rfl
theorem be_take (s : ByteArray) (k : Nat) (h : k < s.size) : be (s.data.toList.take (k + 1)) = be (s.data.toList.take k) * 256 + s[k].toNat := by
  rw [take_snoc s k h, be_snoc]
theorem be_take_lt (s : ByteArray) (k : Nat) (h : k < 7) : be (s.data.toList.take k) < 281474976710656 := by
  have h1 := be_lt (s.data.toList.take k)
  have h2 : (s.data.toList.take k).length ≤ k := List.length_take_le _ _
  have h3 : 256 ^ (s.data.toList.take k).length ≤ 256 ^ 6 := Nat.pow_le_pow_right (by decide) (by omega)
  have h4 : (256 : Nat) ^ 6 = 281474976710656 := by decide
  omega
theorem wraps_i64 (n : Int) (h0 : 0 ≤ n) (h1 : n < 2 ^ 63) : IntKind.i64.wrap n = n := by rw [IntKind.wrap_i64]; omega
/-- Or-ing a byte onto a number that was moved up by eight bits adds it. -/
theorem or256 (x c : Nat) (hx : x < 281474976710656) (hc : c < 256) : bits .or .i64 ((x : Int) * 256) (c : Int) = (x : Int) * 256 + c :=
  bits_join .i64 63 (by decide) wraps_i64 8 _ _ (by omega) (by omega) (by omega) (by omega) (by omega) (by omega)
/-- n without its last k bytes. -/
def dv (n k : Nat) : Nat := n / 256 ^ k
theorem dv_zero (n : Nat) : dv n 0 = n := by simp [dv]
theorem dv_succ (n k : Nat) : dv n (k + 1) = dv n k / 256 := by simp only [dv, Nat.pow_succ, Nat.div_div_eq_div_mul]
theorem dv_le (n k : Nat) : dv n k ≤ n := Nat.div_le_self _ _
theorem dv_pos (n k : Nat) : 0 < dv n k ↔ 256 ^ k ≤ n := by
  unfold dv
  exact Nat.div_pos_iff.trans ⟨fun h => h.2, fun h => ⟨Nat.pow_pos (by decide), h⟩⟩
/-- The last k bytes of n, most significant first. -/
def fx (n : Nat) : Nat → List UInt8
  | 0 => []
  | k + 1 => UInt8.ofNat (dv n k) :: fx n k
theorem fx_length (n k : Nat) : (fx n k).length = k := by
  induction k with
  | zero => rfl
  | succ k ih => simp [fx, ih]
def fxs (n k : Nat) : ByteArray := ⟨(fx n k).toArray⟩
theorem fxs_size (n k : Nat) : (fxs n k).size = k := by simp [fxs, ByteArray.size, fx_length]
theorem fxs_zero (n : Nat) : fxs n 0 = ⟨#[]⟩ := rfl
theorem fxs_succ (n k : Nat) : (⟨#[UInt8.ofNat (dv n k)]⟩ : ByteArray) ++ fxs n k = fxs n (k + 1) := by
  have h := ByteArray.mk_append_mk [UInt8.ofNat (dv n k)] (fx n k)
  simpa [fxs, fx] using h
theorem fx_get (n : Nat) : ∀ k i, i < k → (fx n k)[i]? = some (UInt8.ofNat (dv n (k - 1 - i))) := by
  intro k
  induction k with
  | zero => intro i h; omega
  | succ k ih =>
    intro i h
    cases i with
    | zero => simp [fx]
    | succ i =>
      simp only [fx, List.getElem?_cons_succ]
      rw [ih i (by omega)]
      congr 3
      omega
theorem ofNat_mod (m : Nat) : UInt8.ofNat (m % 256) = UInt8.ofNat m := by
  apply UInt8.toNat_inj.1
  simp
theorem shr_dv (n k : Nat) : (n : Int) / 2 ^ (8 * k) = (dv n k : Int) := by
  unfold dv
  rw [Int.natCast_ediv, Int.natCast_pow, Int.pow_mul]
  rfl
theorem shr_dv_ne (n k : Nat) (h : 256 ^ k ≤ n) : ((n : Int) / 2 ^ (8 * k) != 0) = true := by
  have := (dv_pos n k).2 h
  rw [shr_dv, bne_iff_ne]; omega
theorem shr_dv_eq (n k : Nat) (h : ¬ 256 ^ k ≤ n) : ((n : Int) / 2 ^ (8 * k) != 0) = false := by
  have := dv_pos n k
  rw [shr_dv, bne_eq_false_iff_eq]; omega
/-- The varint of n, least significant group first, with at most f bytes that have the high bit. -/
def vb : Nat → Nat → List UInt8
  | 0, n => [UInt8.ofNat n]
  | f + 1, n => if n < 128 then [UInt8.ofNat n] else UInt8.ofNat (128 + n % 128) :: vb f (n / 128)
theorem vb_small (f n : Nat) (h : n < 128) : vb f n = [UInt8.ofNat n] := by
  cases f with
  | zero => rfl
  | succ f => simp [vb, h]
theorem vb_big (f n : Nat) (h : ¬ n < 128) : vb (f + 1) n = UInt8.ofNat (128 + n % 128) :: vb f (n / 128) := by simp [vb, h]
theorem vb_le (f : Nat) : ∀ n, 1 ≤ (vb f n).length ∧ (vb f n).length ≤ f + 1 := by
  induction f with
  | zero => intro n; simp [vb]
  | succ f ih =>
    intro n
    by_cases h : n < 128
    · rw [vb_small _ _ h]; simp
    · rw [vb_big _ _ h]; have := ih (n / 128); simp only [List.length_cons]; omega
/-- What a call that writes the varint of n0 knows between two bytes: what lies already, what is left. -/
def VarAt (n0 f m : Nat) (acc : List UInt8) : Prop := acc ++ vb f m = vb 6 n0 ∧ acc.length + f = 6 ∧ m < 128 ^ (f + 1)
theorem VarAt.start (n : Nat) (h : n ≤ 562949953421311) : VarAt n 6 n [] := ⟨rfl, rfl, by show n < 128 ^ 7; omega⟩
theorem VarAt.step {n0 f m : Nat} {acc : List UInt8} (h : VarAt n0 f m acc) (hm : ¬ m < 128) : ∃ g, f = g + 1 ∧ VarAt n0 g (m / 128) (acc ++ [UInt8.ofNat (128 + m % 128)]) := by
  obtain ⟨h1, h2, h3⟩ := h
  cases f with
  | zero => simp at h3; omega
  | succ g =>
    refine ⟨g, rfl, ?_, ?_, ?_⟩
    · rw [vb_big _ _ hm] at h1
      rw [← h1]; simp
    · simp; omega
    · rw [Nat.pow_succ] at h3
      omega
theorem VarAt.stop {n0 f m : Nat} {acc : List UInt8} (h : VarAt n0 f m acc) (hm : m < 128) : acc ++ [UInt8.ofNat m] = vb 6 n0 := by
  rw [← vb_small f m hm]; exact h.1
theorem VarAt.len {n0 f m : Nat} {acc : List UInt8} (h : VarAt n0 f m acc) : acc.length ≤ 6 := by have := h.2.1; omega
def vbs (n : Nat) : ByteArray := ⟨(vb 6 n).toArray⟩
theorem i64_or128 (y : Int) (h0 : 0 ≤ y) (h1 : y < 128) : bits .or .i64 y 128 = 128 + y := by
  have hc : bits .or .i64 y 128 = bits .or .i64 128 y := by simp only [bits, BitVec.or_comm]
  rw [hc]
  exact bits_join .i64 63 (by decide) wraps_i64 7 _ _ (by decide) (by decide) (by decide) h0 h1 (by omega)
end Go.Proofs.YtmglidfnolmcaaaGreatDoor.M
/-
  Chapter 4 in plain words: which bytes a key has, the number of a key, the key of a number, the hash.
-/
namespace Go.Proofs.YtmglidfnolmcaaaGreatDoor.M
open Go.RowKit
set_option linter.unusedVariables false
/-- May the byte stand in a key? -/
def keyB (c : Nat) : Bool := (decide (97 ≤ c) && decide (c ≤ 122)) || (decide (65 ≤ c) && decide (c ≤ 90)) || (decide (48 ≤ c) && decide (c ≤ 57)) || decide (c = 95)
theorem keyB_pos {c : Nat} (h : keyB c = true) : 48 ≤ c ∧ c ≤ 122 := by simp [keyB] at h; omega
/-- The first j bytes may stand in a key. -/
def AllB (s : ByteArray) (j : Nat) : Prop := ∀ m (h : m < s.size), m < j → keyB s[m].toNat = true
theorem AllB.zero (s : ByteArray) : AllB s 0 := fun m _ h => absurd h (Nat.not_lt_zero _)
theorem AllB.next {s : ByteArray} {j : Nat} (h : AllB s j) (hj : j < s.size) (k : keyB s[j].toNat = true) : AllB s (j + 1) := fun m hm hl => by
  by_cases e : m = j
  · subst e; exact k
  · exact h m hm (by omega)
def keyOkV (s : ByteArray) : Bool := (decide (1 ≤ s.size) && decide (s.size ≤ 4)) && s.data.toList.all fun c => keyB c.toNat
theorem all_iff {s : ByteArray} : (s.data.toList.all fun c => keyB c.toNat) = true ↔ AllB s s.size := by
  rw [List.all_eq_true]
  constructor
  · intro h m hm _
    exact h _ (by rw [show s[m] = s.data.toList[m]'(by simpa using hm) from rfl]; exact List.getElem_mem _)
  · intro h c hc
    obtain ⟨m, hm, rfl⟩ := List.getElem_of_mem hc
    have hm' : m < s.size := by simpa using hm
    exact h m hm' hm'
theorem keyOkV_iff {s : ByteArray} : keyOkV s = true ↔ (1 ≤ s.size ∧ s.size ≤ 4) ∧ AllB s s.size := by
  unfold keyOkV
  rw [Bool.and_eq_true, Bool.and_eq_true, decide_eq_true_eq, decide_eq_true_eq, all_iff]
theorem keyOkV_no {s : ByteArray} {j : Nat} (hj : j < s.size) (h : keyB s[j].toNat = false) : keyOkV s = false := by
  rw [← Bool.not_eq_true]
  intro k
  have := (keyOkV_iff.1 k).2 j hj hj
  rw [h] at this; cases this
theorem keyOkV_size {s : ByteArray} (h : ¬ (1 ≤ s.size ∧ s.size ≤ 4)) : keyOkV s = false := by
  rw [← Bool.not_eq_true]; intro k; exact h (keyOkV_iff.1 k).1
/-- The number of a key. -/
def packV (s : ByteArray) : Nat := if keyOkV s = true then be s.data.toList else 0
theorem be_lt4 {s : ByteArray} (h : s.size ≤ 4) : be s.data.toList < 4294967296 := by
  have h1 := be_lt s.data.toList
  have h2 : s.data.toList.length ≤ 4 := by simpa using h
  have h3 : 256 ^ s.data.toList.length ≤ 256 ^ 4 := Nat.pow_le_pow_right (by decide) h2
  omega
theorem packV_lt (s : ByteArray) : packV s < 4294967296 := by
  unfold packV
  split
  · rename_i h; exact be_lt4 (keyOkV_iff.1 h).1.2
  · decide
/-- How many bytes a number has. -/
def nbV (n : Nat) : Nat := if n = 0 then 0 else if n < 256 then 1 else if n < 65536 then 2 else if n < 16777216 then 3 else 4
/-- The bytes of a number, most significant first, no zero ahead. -/
def unb (n : Nat) : ByteArray := fxs n (nbV n)
theorem unb_size (n : Nat) : (unb n).size = nbV n := fxs_size _ _
/-- UnpackKey's answer. -/
def unV (n : Int) : Option ByteArray := if 1 ≤ n ∧ n ≤ 4294967295 then (if keyOkV (unb n.toNat) = true then some (unb n.toNat) else none) else none
def unT : Option ByteArray → Value
  | some s => .tuple #[.string s, .bool true]
  | none => .tuple #[.string ⟨#[]⟩, .bool false]
theorem unT_none : unT none = .tuple #[.string ⟨#[]⟩, .bool false] := rfl
theorem unT_some (s : ByteArray) : unT (some s) = .tuple #[.string s, .bool true] := rfl
/-- The hash of the first j bytes. -/
def hashS (h c : Nat) : Nat := (h ^^^ c) * 16777619 % 4294967296
def hashF (h : Nat) (c : UInt8) : Nat := hashS h c.toNat
def hash0 : Nat := 2166136261
def hashT (l : List UInt8) : Nat := l.foldl hashF hash0
theorem hashF_lt (h : Nat) (c : UInt8) : hashF h c < 4294967296 := Nat.mod_lt _ (by decide)
theorem hash_fold_lt : ∀ (l : List UInt8) (h : Nat), h < 4294967296 → l.foldl hashF h < 4294967296
  | [], _, hh => hh
  | c :: l, h, _ => hash_fold_lt l (hashF h c) (hashF_lt h c)
theorem hashT_lt (l : List UInt8) : hashT l < 4294967296 := hash_fold_lt l hash0 (by decide)
theorem hash_fold_snoc (h : Nat) (l : List UInt8) (c : UInt8) : (l ++ [c]).foldl hashF h = hashF (l.foldl hashF h) c := by
  rw [List.foldl_append, List.foldl_cons, List.foldl_nil]
theorem hashT_snoc (l : List UInt8) (c : UInt8) : hashT (l ++ [c]) = hashS (hashT l) c.toNat := hash_fold_snoc hash0 l c
theorem hashT_take (s : ByteArray) (k : Nat) (h : k < s.size) : hashT (s.data.toList.take (k + 1)) = hashS (hashT (s.data.toList.take k)) s[k].toNat := by
  rw [take_snoc s k h, hashT_snoc]
def hashV (s : ByteArray) : Nat := hashT s.data.toList
theorem xor_i64 {a b : Nat} (ha : a < 4294967296) (hb : b < 4294967296) : bits .xor .i64 (a : Int) (b : Int) = ((a ^^^ b : Nat) : Int) := by
  have hlt : a ^^^ b < 2 ^ 32 := Nat.xor_lt_two_pow (by omega) (by omega)
  have ka : (BitVec.ofInt 64 (a : Int)).toNat = a := by rw [BitVec.toNat_ofInt]; omega
  have kb : (BitVec.ofInt 64 (b : Int)).toNat = b := by rw [BitVec.toNat_ofInt]; omega
  show IntKind.i64.wrap ((BitVec.ofInt 64 (a : Int) ^^^ BitVec.ofInt 64 (b : Int)).toNat : Nat) = _
  rw [BitVec.toNat_xor, ka, kb, IntKind.wrap_i64]
  omega
theorem xor_lt32 {a b : Nat} (ha : a < 4294967296) (hb : b < 4294967296) : a ^^^ b < 4294967296 := Nat.xor_lt_two_pow (n := 32) (by omega) (by omega)
/-- Probe's answer. -/
def probeV (s : ByteArray) (n : Int) : Int := if keyOkV s = true ∧ 0 ≤ n ∧ n ≤ 3 then ((hashV s : Int) + n) % 4 else -1
theorem nbV_iff {m k : Nat} (hm : m ≤ 4294967295) (hk : k ≤ 4) : 0 < dv m k ↔ k < nbV m := by
  rw [dv_pos]
  unfold nbV
  have h : k = 0 ∨ k = 1 ∨ k = 2 ∨ k = 3 ∨ k = 4 := by omega
  rcases h with rfl | rfl | rfl | rfl | rfl <;> simp <;> (repeat' split) <;> omega
theorem nbV_le (m : Nat) : nbV m ≤ 4 := by unfold nbV; (repeat' split) <;> omega
theorem hash_next (h c : Nat) : (((h ^^^ c : Nat) : Int) * 16777619) % 4294967296 = (hashS h c : Nat) := by unfold hashS; omega
theorem u8_of (c : UInt8) (n : Nat) (h : n % 256 = c.toNat) : UInt8.ofNat n = c := by
  apply UInt8.toNat_inj.1; simp; exact h
theorem fx_four {l : List UInt8} (h : l.length ≤ 4) : fx (be l) l.length = l := by
  match l, h with
  | [], _ => rfl
  | [a], _ =>
    have ha := a.toNat_lt
    simp only [be, List.foldl, List.length, fx, dv]
    rw [u8_of a _ (by omega)]
  | [a, b], _ =>
    have ha := a.toNat_lt; have hb := b.toNat_lt
    simp only [be, List.foldl, List.length, fx, dv]
    rw [u8_of a _ (by omega), u8_of b _ (by omega)]
  | [a, b, c], _ =>
    have ha := a.toNat_lt; have hb := b.toNat_lt; have hc := c.toNat_lt
    simp only [be, List.foldl, List.length, fx, dv]
    rw [u8_of a _ (by omega), u8_of b _ (by omega), u8_of c _ (by omega)]
  | [a, b, c, d], _ =>
    have ha := a.toNat_lt; have hb := b.toNat_lt; have hc := c.toNat_lt; have hd := d.toNat_lt
    simp only [be, List.foldl, List.length, fx, dv]
    rw [u8_of a _ (by omega), u8_of b _ (by omega), u8_of c _ (by omega), u8_of d _ (by omega)]
  | _ :: _ :: _ :: _ :: _ :: _, h => simp at h
theorem nb_1 {n : Nat} (h : 1 ≤ n ∧ n < 256) : nbV n = 1 := by unfold nbV; rw [if_neg (by omega), if_pos (by omega)]
theorem nb_2 {n : Nat} (h : 256 ≤ n ∧ n < 65536) : nbV n = 2 := by unfold nbV; rw [if_neg (by omega), if_neg (by omega), if_pos (by omega)]
theorem nb_3 {n : Nat} (h : 65536 ≤ n ∧ n < 16777216) : nbV n = 3 := by unfold nbV; rw [if_neg (by omega), if_neg (by omega), if_neg (by omega), if_pos (by omega)]
theorem nb_4 {n : Nat} (h : 16777216 ≤ n) : nbV n = 4 := by unfold nbV; rw [if_neg (by omega), if_neg (by omega), if_neg (by omega), if_neg (by omega)]
theorem nb_four {l : List UInt8} (h : l.length ≤ 4) (h0 : ∀ c ∈ l.head?, 0 < c.toNat) : nbV (be l) = l.length := by
  match l, h with
  | [], _ => rfl
  | [a], _ =>
    have ha := a.toNat_lt
    have h1 := h0 a rfl
    exact nb_1 (by simp only [be, List.foldl]; omega)
  | [a, b], _ =>
    have ha := a.toNat_lt; have hb := b.toNat_lt
    have h1 := h0 a rfl
    exact nb_2 (by simp only [be, List.foldl]; omega)
  | [a, b, c], _ =>
    have ha := a.toNat_lt; have hb := b.toNat_lt; have hc := c.toNat_lt
    have h1 := h0 a rfl
    exact nb_3 (by simp only [be, List.foldl]; omega)
  | [a, b, c, d], _ =>
    have ha := a.toNat_lt; have hb := b.toNat_lt; have hc := c.toNat_lt; have hd := d.toNat_lt
    have h1 := h0 a rfl
    exact nb_4 (by simp only [be, List.foldl]; omega)
  | _ :: _ :: _ :: _ :: _ :: _, h => simp at h
theorem key_head {s : ByteArray} (h : keyOkV s = true) : ∀ c ∈ s.data.toList.head?, 0 < c.toNat := by
  intro c hc
  have hm : c ∈ s.data.toList := List.mem_of_mem_head? hc
  have := h
  unfold keyOkV at this
  rw [Bool.and_eq_true, List.all_eq_true] at this
  have := keyB_pos (this.2 c hm)
  omega
theorem unb_be {s : ByteArray} (h : keyOkV s = true) : unb (be s.data.toList) = s := by
  have h4 := (keyOkV_iff.1 h).1.2
  have hl : s.data.toList.length ≤ 4 := by simpa using h4
  unfold unb fxs
  rw [nb_four hl (key_head h), fx_four hl]
theorem be_some {s : ByteArray} (h : keyOkV s = true) : 1 ≤ be s.data.toList := by
  have h4 := (keyOkV_iff.1 h).1
  have hl : s.data.toList.length ≤ 4 := by simpa using h4.2
  have e := nb_four hl (key_head h)
  rcases Nat.eq_zero_or_pos (be s.data.toList) with h0 | h0
  · rw [h0] at e
    have : s.size = 0 := by have : s.data.toList.length = 0 := e.symm; simpa using this
    omega
  · exact h0
/-- A key is read from its number. -/
theorem unV_pack {s : ByteArray} (h : keyOkV s = true) : unV (packV s : Nat) = some s ∧ 1 ≤ packV s := by
  have e : packV s = be s.data.toList := if_pos h
  have hlt := packV_lt s
  have hp : 1 ≤ packV s := by rw [e]; exact be_some h
  refine ⟨?_, hp⟩
  unfold unV
  rw [if_pos (by omega), Int.toNat_natCast, e, unb_be h, if_pos h]
theorem be_fx4 {n : Nat} (h : n ≤ 4294967295) : be (fx n (nbV n)) = n := by
  unfold nbV
  (repeat' split) <;> simp only [fx, be, List.foldl, dv, UInt8.toNat_ofNat'] <;> omega
/-- A number that has a key is that key's number. -/
theorem pack_unV {n : Int} {s : ByteArray} (h : unV n = some s) : keyOkV s = true ∧ (packV s : Int) = n := by
  unfold unV at h
  split at h
  · split at h
    · rename_i h1 h2
      injection h with h
      subst h
      refine ⟨h2, ?_⟩
      have e : packV (unb n.toNat) = be (unb n.toNat).data.toList := if_pos h2
      rw [e]
      have : (unb n.toNat).data.toList = fx n.toNat (nbV n.toNat) := rfl
      rw [this, be_fx4 (by omega)]; omega
    · cases h
  · cases h
theorem packV_no {s : ByteArray} (h : keyOkV s = false) : packV s = 0 := by unfold packV; rw [h]; rfl
theorem unV_zero : unV 0 = none := if_neg (by decide)
/-- The first j slots on a key's way. -/
def probeL (s : ByteArray) (j : Nat) : List Int := (List.range j).map fun k : Nat => probeV s k
theorem probeL_len (s : ByteArray) (j : Nat) : (probeL s j).length = j := by simp [probeL]
theorem probeL_next (s : ByteArray) (j : Nat) : probeL s j ++ [probeV s (j : Nat)] = probeL s (j + 1) := by simp [probeL, List.range_succ]
theorem probeL_at (s : ByteArray) {j i : Nat} (h : i < j) : (probeL s j).getD i 0 = probeV s (i : Nat) := by
  rw [List.getD_eq_getElem?_getD, List.getElem?_eq_getElem (by rw [probeL_len]; exact h)]; simp [probeL]
theorem probeV_yes {s : ByteArray} (h : keyOkV s = true) {k : Nat} (hk : k < 4) : probeV s (k : Nat) = ((hashV s : Int) + k) % 4 := if_pos ⟨h, by omega, by omega⟩
theorem probeV_no {s : ByteArray} (h : keyOkV s = false) (n : Int) : probeV s n = -1 := if_neg fun x => by rw [h] at x; cases x.1
/-- A key's way meets no slot twice. -/
theorem probeL_new {s : ByteArray} (h : keyOkV s = true) {j : Nat} (hj : j < 4) : ∀ i, i < (probeL s j).length → (probeL s j).getD i 0 ≠ probeV s (j : Nat) := fun i hi => by
  rw [probeL_len] at hi
  rw [probeL_at s hi, probeV_yes h (by omega), probeV_yes h hj]
  omega
end Go.Proofs.YtmglidfnolmcaaaGreatDoor.M
/-
  Chapter 7 in plain words: a row, when it is valid, when it tells of nothing; what a sample and a count make of it.
-/
namespace Go.Proofs.YtmglidfnolmcaaaGreatDoor.M
open Go.RowKit
set_option linter.unusedVariables false
structure R where
  key : ByteArray
  kind : Int
  sum : Int
  set : Bool
  last : Int
  n : Int
  mn : Int
  mx : Int
  total : Int
  dropped : Int
/-- The row as a value. -/
def R.v (r : R) : Value := .agg #[.string r.key, .int .i64 r.kind, .int .i64 r.sum, .bool r.set, .int .i64 r.last, .int .i64 r.n, .int .i64 r.mn, .int .i64 r.mx, .int .i64 r.total, .int .i64 r.dropped]
/-- The cells of a row. -/
def rowCells (r : R) : Array Value := #[.string r.key, .int .i64 r.kind, .int .i64 r.sum, .bool r.set, .int .i64 r.last, .int .i64 r.n, .int .i64 r.mn, .int .i64 r.mx, .int .i64 r.total, .int .i64 r.dropped]
/-- The row of zeros. -/
def zeroR : R := ⟨⟨#[]⟩, 0, 0, false, 0, 0, 0, 0, 0, 0⟩
def inW (x : Int) : Prop := -9223372036854775808 ≤ x ∧ x ≤ 9223372036854775807
/-- Each field fits its type. -/
structure R.Fit (r : R) : Prop where
  key : r.key.size ≤ maxLen
  kind : inW r.kind
  sum : inW r.sum
  last : inW r.last
  n : inW r.n
  mn : inW r.mn
  mx : inW r.mx
  total : inW r.total
  dropped : inW r.dropped
def quietV (r : R) : Bool := r.sum == 0 && (!r.set && r.n == 0)
def timerV (r : R) : Bool :=
  if r.n = 0 then decide (r.mn = 0 ∧ r.mx = 0 ∧ r.total = 0 ∧ r.dropped = 0)
  else decide ((1 ≤ r.n ∧ r.n ≤ 3) ∧ (0 ≤ r.mn ∧ r.mn ≤ r.mx) ∧ r.mx ≤ 65535 ∧ (r.mn * r.n ≤ r.total ∧ r.total ≤ r.mx * r.n) ∧ (0 ≤ r.dropped ∧ r.dropped ≤ 65535) ∧ (r.dropped = 0 ∨ r.n = 3))
def countV (r : R) : Bool := decide ((0 ≤ r.sum ∧ r.sum ≤ 281474976710655) ∧ r.set = false ∧ r.last = 0 ∧ r.n = 0 ∧ r.mn = 0 ∧ r.mx = 0 ∧ r.total = 0 ∧ r.dropped = 0)
def gaugeRV (r : R) : Bool := decide ((0 ≤ r.last ∧ r.last ≤ 65535) ∧ (r.set = true ∨ r.last = 0) ∧ r.sum = 0 ∧ r.n = 0 ∧ r.mn = 0 ∧ r.mx = 0 ∧ r.total = 0 ∧ r.dropped = 0)
def rowOkV (r : R) : Bool := keyOkV r.key && (if r.kind = 1 then countV r else if r.kind = 2 then gaugeRV r else if r.kind = 3 then decide (r.sum = 0 ∧ r.set = false ∧ r.last = 0) && timerV r else false)
/-- A row with one sample more. -/
def sampledV (r : R) (v : Int) : R :=
  if rowOkV r = true ∧ r.kind = 3 ∧ (0 ≤ v ∧ v ≤ 65535) then
    (if r.n = 3 then { r with dropped := if r.dropped < 65535 then r.dropped + 1 else 65535 }
     else if r.n = 0 then { r with mn := v, mx := v, total := r.total + v, n := 1 }
     else { r with mn := if r.mn ≤ v then r.mn else v, mx := if v ≤ r.mx then r.mx else v, total := r.total + v, n := r.n + 1 })
  else r
/-- A row with v counted. -/
def countedV (r : R) (v : Int) : R := if rowOkV r = true ∧ r.kind = 1 ∧ (0 ≤ v ∧ v ≤ 65535) then { r with sum := (r.sum + v) % 281474976710656 } else r
theorem timer_facts {r : R} (h : rowOkV r = true) (hk : r.kind = 3) : r.sum = 0 ∧ r.set = false ∧ r.last = 0 ∧ (0 ≤ r.n ∧ r.n ≤ 3) ∧ (0 ≤ r.mn ∧ r.mn ≤ r.mx) ∧ r.mx ≤ 65535 ∧ (0 ≤ r.total ∧ r.total ≤ 196605) ∧ (0 ≤ r.dropped ∧ r.dropped ≤ 65535) := by
  unfold rowOkV at h
  rw [if_neg (by omega), if_neg (by omega), if_pos hk, Bool.and_eq_true, Bool.and_eq_true, decide_eq_true_eq] at h
  obtain ⟨_, ⟨h1, h2, h3⟩, ht⟩ := h
  unfold timerV at ht
  split at ht
  · rename_i h0
    simp only [decide_eq_true_eq] at ht
    exact ⟨h1, h2, h3, by omega⟩
  · simp only [decide_eq_true_eq] at ht
    obtain ⟨⟨a1, a2⟩, ⟨b1, b2⟩, c, ⟨d1, d2⟩, e, _⟩ := ht
    have hn : r.n = 1 ∨ r.n = 2 ∨ r.n = 3 := by omega
    refine ⟨h1, h2, h3, ⟨by omega, a2⟩, ⟨b1, b2⟩, c, ?_, e⟩
    rcases hn with h | h | h <;> rw [h] at d1 d2 <;> omega
theorem count_facts {r : R} (h : rowOkV r = true) (hk : r.kind = 1) : 0 ≤ r.sum ∧ r.sum ≤ 281474976710655 := by
  unfold rowOkV at h
  rw [if_pos hk, Bool.and_eq_true] at h
  have := h.2
  unfold countV at this
  simp only [decide_eq_true_eq] at this
  exact this.1
end Go.Proofs.YtmglidfnolmcaaaGreatDoor.M
/-
  Chapter 5 in plain words: the words of the kinds and of the codes; a key with its kind in one number; a gauge's stamp and value in one number.
-/
namespace Go.Proofs.YtmglidfnolmcaaaGreatDoor.M
open Go.RowKit
set_option linter.unusedVariables false
def kindW (k : Int) : ByteArray := if k = 1 then ⟨#[99]⟩ else if k = 2 then ⟨#[103]⟩ else if k = 3 then ⟨#[109, 115]⟩ else ⟨#[]⟩
def kindOfV (s : ByteArray) : Int := if ⟨#[99]⟩ = s then 1 else if ⟨#[103]⟩ = s then 2 else if ⟨#[109, 115]⟩ = s then 3 else 0
def codeW (k : Int) : ByteArray := if k = 0 then ⟨#[111, 107]⟩ else if k = 1 then ⟨#[97, 114, 103, 115]⟩ else if k = 2 then ⟨#[110, 111, 110, 101]⟩ else if k = 3 then ⟨#[102, 117, 108, 108]⟩ else if k = 4 then ⟨#[99, 108, 97, 115, 104]⟩ else if k = 5 then ⟨#[100, 114, 111, 112, 112, 101, 100]⟩ else ⟨#[]⟩
theorem kindW_no {k : Int} (h : ¬ (1 ≤ k ∧ k ≤ 3)) : kindW k = ⟨#[]⟩ := by unfold kindW; rw [if_neg (by omega), if_neg (by omega), if_neg (by omega)]
theorem codeW_no {k : Int} (h : ¬ (0 ≤ k ∧ k ≤ 5)) : codeW k = ⟨#[]⟩ := by unfold codeW; rw [if_neg (by omega), if_neg (by omega), if_neg (by omega), if_neg (by omega), if_neg (by omega), if_neg (by omega)]
theorem kindW_some {k : Int} (h : 1 ≤ k ∧ k ≤ 3) : kindW k ≠ ⟨#[]⟩ := by
  have : k = 1 ∨ k = 2 ∨ k = 3 := by omega
  rcases this with rfl | rfl | rfl <;> decide
theorem kindW_size (k : Int) : (kindW k).size ≤ 2 := by
  unfold kindW; (repeat' split) <;> decide
theorem kindOf_word {k : Int} (h : 1 ≤ k ∧ k ≤ 3) : kindOfV (kindW k) = k := by
  have : k = 1 ∨ k = 2 ∨ k = 3 := by omega
  rcases this with rfl | rfl | rfl <;> decide
theorem kindOf_no {s : ByteArray} (h1 : kindW 1 ≠ s) (h2 : kindW 2 ≠ s) (h3 : kindW 3 ≠ s) : kindOfV s = 0 := by
  have e1 : kindW 1 = ⟨#[99]⟩ := by decide
  have e2 : kindW 2 = ⟨#[103]⟩ := by decide
  have e3 : kindW 3 = ⟨#[109, 115]⟩ := by decide
  rw [e1] at h1; rw [e2] at h2; rw [e3] at h3
  unfold kindOfV; rw [if_neg h1, if_neg h2, if_neg h3]
/-- A key and its kind in one number. -/
def tagV (s : ByteArray) (k : Int) : Int := if keyOkV s = true ∧ (1 ≤ k ∧ k ≤ 3) then (packV s : Int) * 4 + k else 0
/-- The key and the kind of a number. -/
def untagV (n : Int) : Option (ByteArray × Int) := if 1 ≤ n ∧ n ≤ 17179869183 then (match unV (n / 4) with | some s => if 1 ≤ n % 4 then some (s, n % 4) else none | none => none) else none
def untT : Option (ByteArray × Int) → Value
  | some x => .tuple #[.string x.1, .int .i64 x.2]
  | none => .tuple #[.string ⟨#[]⟩, .int .i64 0]
theorem untT_some (s : ByteArray) (k : Int) : untT (some (s, k)) = .tuple #[.string s, .int .i64 k] := rfl
theorem untT_none : untT none = .tuple #[.string ⟨#[]⟩, .int .i64 0] := rfl
theorem tagV_yes {s : ByteArray} {k : Int} (h : keyOkV s = true) (hk : 1 ≤ k ∧ k ≤ 3) : tagV s k = (packV s : Int) * 4 + k := if_pos ⟨h, hk⟩
theorem tagV_no {s : ByteArray} {k : Int} (h : ¬ (keyOkV s = true ∧ (1 ≤ k ∧ k ≤ 3))) : tagV s k = 0 := if_neg h
theorem tagV_bd (s : ByteArray) (k : Int) : 0 ≤ tagV s k ∧ tagV s k ≤ 17179869183 := by
  have := packV_lt s
  unfold tagV; split <;> omega
/-- A key and its kind are read from their number. -/
theorem untag_tag {s : ByteArray} {k : Int} (h : keyOkV s = true) (hk : 1 ≤ k ∧ k ≤ 3) : untagV (tagV s k) = some (s, k) := by
  have hp := packV_lt s
  obtain ⟨hu, h1⟩ := unV_pack h
  rw [tagV_yes h hk]
  unfold untagV
  have e4 : ((packV s : Int) * 4 + k) / 4 = (packV s : Nat) := by omega
  have m4 : ((packV s : Int) * 4 + k) % 4 = k := by omega
  rw [if_pos (by omega), e4, m4, hu]
  simp only
  rw [if_pos hk.1]
theorem untag_zero : untagV 0 = none := if_neg (by omega)
/-- A number that has a key and a kind is their number. -/
theorem tag_untag {n : Int} {s : ByteArray} {k : Int} (h : untagV n = some (s, k)) : tagV s k = n ∧ keyOkV s = true ∧ 1 ≤ k ∧ k ≤ 3 := by
  unfold untagV at h
  split at h
  · split at h
    · rename_i h1 _ s' hu
      split at h
      · injection h with h
        injection h with h2 h3
        subst h2; subst h3
        obtain ⟨a, b⟩ := pack_unV hu
        refine ⟨?_, a, by omega, by omega⟩
        rw [tagV_yes a (by omega), b]; omega
      · cases h
    · cases h
  · cases h
/-- A gauge's stamp and value in one number, and back. -/
def gaugeV (a v : Int) : Int := if (1 ≤ a ∧ a ≤ 65535) ∧ (0 ≤ v ∧ v ≤ 65535) then a * 65536 + v else 0
def ungA (n : Int) : Int := if 65536 ≤ n ∧ n ≤ 4294967295 then n / 65536 else 0
def ungV (n : Int) : Int := if 65536 ≤ n ∧ n ≤ 4294967295 then n % 65536 else 0
theorem gaugeV_yes {a v : Int} (h : (1 ≤ a ∧ a ≤ 65535) ∧ (0 ≤ v ∧ v ≤ 65535)) : gaugeV a v = a * 65536 + v := if_pos h
theorem gaugeV_no {a v : Int} (h : ¬ ((1 ≤ a ∧ a ≤ 65535) ∧ (0 ≤ v ∧ v ≤ 65535))) : gaugeV a v = 0 := if_neg h
theorem ung_gauge {a v : Int} (h : (1 ≤ a ∧ a ≤ 65535) ∧ (0 ≤ v ∧ v ≤ 65535)) : ungA (gaugeV a v) = a ∧ ungV (gaugeV a v) = v := by
  rw [gaugeV_yes h]; unfold ungA ungV; rw [if_pos (by omega), if_pos (by omega)]; omega
end Go.Proofs.YtmglidfnolmcaaaGreatDoor.M
/-
  Chapter 3 in plain words: the numbers of the cells.
-/
namespace Go.Proofs.YtmglidfnolmcaaaGreatDoor.M
/-- Buffer b's count of threads inside. -/
def inV (b : Int) : Int := if 0 ≤ b ∧ b ≤ 1 then 1 + b else -1
/-- The key cell of a slot. -/
def keyV (s : Int) : Int := if 0 ≤ s ∧ s ≤ 3 then 3 + s else -1
/-- Cell k of a slot of a buffer. -/
def cellV (b s k : Int) : Int := if (0 ≤ b ∧ b ≤ 1) ∧ (0 ≤ s ∧ s ≤ 3) then 7 + b * 32 + s * 8 + k else -1
/-- Cell k of n, behind the first 'at' of a slot of a buffer. -/
def partV (b s n at_ k : Int) : Int := if 0 ≤ k ∧ k < n then cellV b s (at_ + k) else -1
theorem inV_yes {b : Int} (h : 0 ≤ b ∧ b ≤ 1) : inV b = 1 + b := if_pos h
theorem inV_no {b : Int} (h : ¬ (0 ≤ b ∧ b ≤ 1)) : inV b = -1 := if_neg h
theorem keyV_yes {s : Int} (h : 0 ≤ s ∧ s ≤ 3) : keyV s = 3 + s := if_pos h
theorem keyV_no {s : Int} (h : ¬ (0 ≤ s ∧ s ≤ 3)) : keyV s = -1 := if_neg h
theorem cellV_yes {b s k : Int} (h : 0 ≤ b ∧ b ≤ 1) (h' : 0 ≤ s ∧ s ≤ 3) : cellV b s k = 7 + b * 32 + s * 8 + k := if_pos ⟨h, h'⟩
theorem cellV_noB {b s k : Int} (h : ¬ (0 ≤ b ∧ b ≤ 1)) : cellV b s k = -1 := if_neg fun x => h x.1
theorem cellV_noS {b s k : Int} (h : ¬ (0 ≤ s ∧ s ≤ 3)) : cellV b s k = -1 := if_neg fun x => h x.2
theorem partV_yes {b s n at_ k : Int} (h : 0 ≤ k ∧ k < n) : partV b s n at_ k = cellV b s (at_ + k) := if_pos h
theorem partV_no {b s n at_ k : Int} (h : ¬ (0 ≤ k ∧ k < n)) : partV b s n at_ k = -1 := if_neg h
end Go.Proofs.YtmglidfnolmcaaaGreatDoor.M
/-
  Rows of ints: reading one that came in or was made, making one, filling it; the law's own helpers that copy, compare, mark and check a row.
-/
namespace Go.Proofs.YtmglidfnolmcaaaGreatDoor
open Go.RowKit M
set_option linter.unusedVariables false
theorem info_int : (Tryz.prog.info? 3).map (fun i => (i.zero, i.size, i.bytes)) = some (some (.int .i64 0), 1, 8) := by kernel_rfl
/-- Each number fits an int. -/
def Fit (zs : List Int) : Prop := ∀ z ∈ zs, -9223372036854775808 ≤ z ∧ z ≤ 9223372036854775807
theorem Fit.at {zs : List Int} (h : Fit zs) (j : Nat) : -9223372036854775808 ≤ zs.getD j 0 ∧ zs.getD j 0 ≤ 9223372036854775807 := by
  rw [List.getD_eq_getElem?_getD]
  cases e : zs[j]? with
  | none => simp
  | some z => exact h z (List.mem_of_getElem? e)
/-- The slice value v reads as the ints zs, in a block that is there. -/
def Ints (w : World) (v : Value) (zs : List Int) : Prop :=
  ∃ b off cap, v = .slice (some ⟨b, off, none⟩) zs.length cap ∧ zs.length ≤ cap ∧ cap ≤ maxLen ∧ b < w.heap.size ∧ ∀ j, j < zs.length → w.cell? ⟨b, off + j, none⟩ = some (.int .i64 (zs.getD j 0))
/-- The like of any slice of ints that came in: nil, or of no length, or one whose cells are there. -/
def IntsArg (w : World) (v : Value) (zs : List Int) : Prop :=
  ∃ A cap, v = .slice A zs.length cap ∧ zs.length ≤ cap ∧ cap ≤ maxLen ∧ (0 < zs.length → ∃ b off, A = some ⟨b, off, none⟩ ∧ b < w.heap.size ∧ ∀ j, j < zs.length → w.cell? ⟨b, off + j, none⟩ = some (.int .i64 (zs.getD j 0)))
theorem Ints.arg {w : World} {v : Value} {zs : List Int} (h : Ints w v zs) : IntsArg w v zs := by
  obtain ⟨b, off, cap, e, h1, h2, h3, h4⟩ := h
  exact ⟨_, cap, e, h1, h2, fun _ => ⟨b, off, rfl, h3, h4⟩⟩
theorem IntsArg.nil (w : World) : IntsArg w (.slice none 0 0) [] := ⟨none, 0, rfl, Nat.zero_le _, Nat.zero_le _, fun h => absurd h (by simp)⟩
theorem Ints.below {w w' : World} {v : Value} {zs : List Int} (h : Ints w v zs) (hb : Below w.heap.size w w') : Ints w' v zs := by
  obtain ⟨b, off, cap, e, h1, h2, h3, h4⟩ := h
  exact ⟨b, off, cap, e, h1, h2, Nat.lt_of_lt_of_le h3 hb.size, fun j hj => (hb.cell (p := ⟨b, off + j, none⟩) h3).trans (h4 j hj)⟩
theorem IntsArg.below {w w' : World} {v : Value} {zs : List Int} (h : IntsArg w v zs) (hb : Below w.heap.size w w') : IntsArg w' v zs := by
  obtain ⟨A, cap, e, h1, h2, h3⟩ := h
  refine ⟨A, cap, e, h1, h2, fun hp => ?_⟩
  obtain ⟨b, off, ea, h4, h5⟩ := h3 hp
  exact ⟨b, off, ea, Nat.lt_of_lt_of_le h4 hb.size, fun j hj => (hb.cell (p := ⟨b, off + j, none⟩) h4).trans (h5 j hj)⟩
/-- The row is the call's own: in a block from base on. -/
def OwnI (w : World) (base : Nat) (v : Value) (zs : List Int) : Prop := w.ownsRow base 3 1 v zs.length (zs.map (Value.int .i64)) ∧ ∃ g cap, v = .slice (some ⟨g, 0, none⟩) zs.length cap
theorem OwnI.block {w : World} {base : Nat} {v : Value} {zs : List Int} (h : OwnI w base v zs) : ∃ g, v.ownBlock = some g ∧ base ≤ g ∧ g < w.heap.size := by
  obtain ⟨h1, g, cap, rfl⟩ := h
  have := World.ownsRow.lt h1 g rfl
  exact ⟨g, rfl, this⟩
theorem OwnI.ints {w : World} {base : Nat} {v : Value} {zs : List Int} (h : OwnI w base v zs) : Ints w v zs := by
  obtain ⟨h1, g, cap, rfl⟩ := h
  have hlt := World.ownsRow.lt h1 g rfl
  have hc : zs.length ≤ cap ∧ cap ≤ maxLen := by
    rcases h1.2 with ⟨h', _⟩ | ⟨g', cap', cur, h', _, _, hn, hm, _⟩
    · cases h'
    · injection h' with _ _ e; subst e; exact ⟨hn, hm⟩
  refine ⟨g, 0, cap, rfl, hc.1, hc.2, hlt.2, fun j hj => ?_⟩
  rw [Nat.zero_add, World.ownsRow.cellAt h1 j (by omega), List.getElem?_map, List.getElem?_eq_getElem hj, List.getD_eq_getElem?_getD, List.getElem?_eq_getElem hj]
  rfl
theorem OwnI.kept {w w' : World} {base : Nat} {v : Value} {zs : List Int} {row : Option Nat} (h : OwnI w base v zs) (hg : w.grownBy w' row) (hne : v.ownBlock ≠ row) : OwnI w' base v zs :=
  ⟨World.ownsRow.kept h.1 hg (Or.inr hne), h.2⟩
theorem OwnI.below {w w' : World} {base : Nat} {v : Value} {zs : List Int} (h : OwnI w base v zs) (hb : Below w.heap.size w w') : OwnI w' base v zs := by
  obtain ⟨g, hg, _, _⟩ := h.block
  exact h.kept (row := none) ⟨hb.os, hb.tape, hb.output, hb.size, fun i hi _ => hb.block i hi⟩ (by rw [hg]; intro h; cases h)
theorem OwnI.made {w : World} {base g n cap : Nat} (h : w.ownsRow base 3 1 (.slice (some ⟨g, 0, none⟩) n cap) n (madeCells (Value.int .i64 0).cells (n * 1)).toList) : OwnI w base (.slice (some ⟨g, 0, none⟩) n cap) (List.replicate n 0) := by
  refine ⟨?_, g, cap, by rw [List.length_replicate]⟩
  rw [List.length_replicate, List.map_replicate]
  have : (madeCells (Value.int .i64 0).cells (n * 1)).toList = List.replicate n (Value.int .i64 0) := by rw [Nat.mul_one]; exact toList_madeCells_one _ _
  rw [← this]; exact h
theorem OwnI.set {w : World} {base g n cap : Nat} {zs : List Int} (h : OwnI w base (.slice (some ⟨g, 0, none⟩) n cap) zs) (j : Nat) (z : Int) :
    OwnI (w.setCell ⟨g, j, none⟩ (.int .i64 z)) base (.slice (some ⟨g, 0, none⟩) n cap) (zs.set j z) ∧ w.grownBy (w.setCell ⟨g, j, none⟩ (.int .i64 z)) (some g) := by
  obtain ⟨h1, g', cap', e⟩ := h
  have hn : n = zs.length := by injection e
  subst hn
  have hs := World.ownsRow.stored h1 j (.int .i64 z)
  refine ⟨⟨?_, g, cap, by rw [List.length_set]⟩, hs.2⟩
  rw [List.length_set, List.map_set]
  exact hs.1
theorem OwnI.frz {w : World} {base g n cap : Nat} {zs : List Int} (h : OwnI w base (.slice (some ⟨g, 0, none⟩) n cap) zs) (j : Nat) : w.frozen? ⟨g, j, none⟩ = false := by
  obtain ⟨h1, g', cap', e⟩ := h
  have hn : n = zs.length := by injection e
  subst hn
  exact World.ownsRow.frozenAt h1 j
theorem OwnI.cell {w : World} {base g n cap : Nat} {zs : List Int} (h : OwnI w base (.slice (some ⟨g, 0, none⟩) n cap) zs) (j : Nat) (hj : j < n) : w.cell? ⟨g, j, none⟩ = some (.int .i64 (zs.getD j 0)) := by
  obtain ⟨h1, g', cap', e⟩ := h
  have hn : n = zs.length := by injection e
  subst hn
  rw [World.ownsRow.cellAt h1 j (by omega), List.getElem?_map, List.getElem?_eq_getElem hj, List.getD_eq_getElem?_getD, List.getElem?_eq_getElem hj]
  rfl
/-- Filling from the front: what is there after j stores. -/
def partI (zs : List Int) (j : Nat) : List Int := zs.take j ++ List.replicate (zs.length - j) 0
theorem partI_length (zs : List Int) (j : Nat) : (partI zs j).length = zs.length := by
  simp only [partI, List.length_append, List.length_take, List.length_replicate]; omega
theorem partI_all (zs : List Int) : partI zs zs.length = zs := by simp [partI]
theorem partI_set (zs : List Int) (j : Nat) (hj : j < zs.length) : (partI zs j).set j (zs.getD j 0) = partI zs (j + 1) := by
  apply List.ext_getElem?
  intro i
  unfold partI
  rcases Nat.lt_trichotomy i j with h | h | h
  · rw [List.getElem?_set_ne (by omega), List.getElem?_append_left (by simp; omega), List.getElem?_append_left (by simp; omega), List.getElem?_take_of_lt h, List.getElem?_take_of_lt (by omega)]
  · subst h
    rw [List.getElem?_set_self (by simp; omega), List.getElem?_append_left (by simp; omega), List.getElem?_take_of_lt (by omega), List.getD_eq_getElem?_getD, List.getElem?_eq_getElem hj]; rfl
  · rw [List.getElem?_set_ne (by omega), List.getElem?_append_right (by simp; omega), List.getElem?_append_right (by simp; omega)]
    simp only [List.length_take, List.getElem?_replicate]
    congr 1
    simp only [eq_iff_iff]
    omega
/-- What a row reads as in a later world. -/
theorem OwnI.apart {w w' : World} {b0 B : Nat} {v u : Value} {xs ys : List Int} (h : OwnI w b0 v xs) (k : OwnI w' B u ys) (hB : w.heap.size ≤ B) : v.ownBlock ≠ u.ownBlock := by
  obtain ⟨g, hg, _, h2⟩ := h.block
  obtain ⟨g', hg', h3, _⟩ := k.block
  rw [hg, hg']
  intro e
  injection e with e
  omega
theorem OwnI.of_row {w : World} {base n : Nat} {v : Value} {zs : List Int} (h : w.ownsRow base 3 1 v n (zs.map (Value.int .i64))) (hn : zs.length = n) (hv : v ≠ .slice none 0 0) : OwnI w base v zs := by
  subst hn
  refine ⟨h, ?_⟩
  rcases h.2 with ⟨h', _⟩ | ⟨g, cap, cur, h', _⟩
  · exact absurd h' hv
  · exact ⟨g, cap, h'⟩
/-- A call hands back a new row of its own that reads zs, and turns nothing that was there. -/
def MadeI (w : World) (zs : List Int) (e : Ending) (w' : World) : Prop := ∃ v, e = .returned v ∧ OwnI w' w.heap.size v zs ∧ Below w.heap.size w w'
end Go.Proofs.YtmglidfnolmcaaaGreatDoor
/-
  Contracts of the law's own helpers on rows of ints: the copy, the comparison, the marking, the check of the marks.
-/
namespace Go.Proofs.YtmglidfnolmcaaaGreatDoor
open Go.RowKit M
set_option linter.unusedVariables false
theorem grownI_trans {a b c : World} {g : Nat} (h : a.grownBy b (some g)) (k : b.grownBy c (some g)) : a.grownBy c (some g) :=
  ⟨k.os.trans h.os, k.tape.trans h.tape, k.output.trans h.output, Nat.le_trans h.size k.size, fun i hi hne => (k.block i (Nat.lt_of_lt_of_le hi h.size) hne).trans (h.block i hi hne)⟩
theorem ret_val {a b : Value} (h : a = b) : Ending.returned a = .returned b := by rw [h]
theorem below_made {w w1 : World} (hg : w.grownBy w1 none) : Below w.heap.size w w1 := (Below.refl _ _).grown hg (Nat.le_refl _) (by intro _ h; cases h)
def Quiet (w : World) (v : Value) (e : Ending) (w' : World) : Prop := e = .returned v ∧ ∃ q, w' = w.drewN q
theorem Quiet.below {w w' : World} {v : Value} {e : Ending} (h : Quiet w v e w') : e = .returned v ∧ Below w.heap.size w w' := by
  obtain ⟨rfl, q, rfl⟩ := h
  exact ⟨rfl, ⟨rfl, rfl, rfl, Nat.le_refl _, fun _ _ => rfl⟩⟩
theorem getD_eq_of_eq {xs ys : List Int} (h : xs = ys) (j : Nat) : xs.getD j 0 = ys.getD j 0 := by rw [h]
/-- Marks from k on. -/
def marks (k : Int) (n : Nat) : List Int := (List.range n).map fun (j : Nat) => k + (j : Int)
theorem marks_length (k : Int) (n : Nat) : (marks k n).length = n := by simp [marks]
theorem marks_getD (k : Int) (n j : Nat) (h : j < n) : (marks k n).getD j 0 = k + j := by simp [marks, List.getD_eq_getElem?_getD, h]
def mpart (zs : List Int) (k : Int) (j : Nat) : List Int := marks k j ++ zs.drop j
theorem mpart_length (zs : List Int) (k : Int) (j : Nat) (h : j ≤ zs.length) : (mpart zs k j).length = zs.length := by
  simp only [mpart, List.length_append, marks_length, List.length_drop]; omega
theorem mpart_zero (zs : List Int) (k : Int) : mpart zs k 0 = zs := by simp [mpart, marks]
theorem mpart_all (zs : List Int) (k : Int) : mpart zs k zs.length = marks k zs.length := by simp [mpart]
theorem mpart_set (zs : List Int) (k : Int) (j : Nat) (h : j < zs.length) : (mpart zs k j).set j (k + j) = mpart zs k (j + 1) := by
  unfold mpart
  rw [List.set_append_right _ _ (by rw [marks_length]; exact Nat.le_refl _), marks_length, Nat.sub_self, List.drop_eq_getElem_cons h]
  have : marks k (j + 1) = marks k j ++ [k + (j : Int)] := by simp [marks, List.range_succ]
  rw [this, List.set_cons_zero, List.append_assoc]; rfl
def Marked (w : World) (base : Nat) (v : Value) (k : Int) (n : Nat) (e : Ending) (w' : World) : Prop := e = .returned (.int .i64 (k + n)) ∧ OwnI w' base v (marks k n) ∧ w.grownBy w' v.ownBlock
/-- What the statement's opening of an argument gives, as a row of ints. -/
theorem IntsArg.of_cells {w : World} {x : Addr} {l c : Nat} {zs : List Int} (hl : l ≤ c) (hm : c ≤ maxLen) (hz : zs.length = c) (hc : ∀ i, i < zs.length → w.cell? (x.add i) = some (.int .i64 (zs.getD i 0))) :
    IntsArg w (.slice (some x) l c) (zs.take l) := by
  have e : (zs.take l).length = l := by rw [List.length_take]; omega
  refine ⟨some x, c, by rw [e], by rw [e]; exact hl, hm, fun hp => ?_⟩
  rw [e] at hp ⊢
  obtain ⟨b, off, spot⟩ := x
  have h0 := hc 0 (by omega)
  have hspot : spot = none := by simpa [Addr.add] using World.cell?_spot h0
  subst hspot
  have hlt : b < w.heap.size := by
    rcases Nat.lt_or_ge b w.heap.size with h1 | h1
    · exact h1
    · have e : w.heap[b]? = none := Array.getElem?_eq_none h1
      simp [Addr.add, World.cell?, e] at h0
  refine ⟨b, off, rfl, hlt, fun j hj => ?_⟩
  have hcj := hc j (by omega)
  have ea : (⟨b, off, none⟩ : Addr).add j = ⟨b, off + j, none⟩ := by unfold Addr.add; split <;> simp_all
  rw [ea] at hcj
  rw [hcj]
  simp [List.getD_eq_getElem?_getD, hj]
theorem Fit.of_wf {zs : List Int} {l : Nat} (h : ∀ n ∈ zs, (Lit.int .i64 n).wf = true) : Fit (zs.take l) := fun z hz => Go.bounds_i64 (h z (List.mem_of_mem_take hz))
end Go.Proofs.YtmglidfnolmcaaaGreatDoor
/-
  Chapter 2 in plain words: when a row of cells is valid, when a cell can be looked at; what each operation makes of the row.
-/
namespace Go.Proofs.YtmglidfnolmcaaaGreatDoor
open Go.RowKit M
set_option linter.unusedVariables false
/-- A number that a cell can hold. -/
def isW (z : Int) : Bool := decide (0 ≤ z) && decide (z ≤ 281474976710655)
theorem isW_iff {z : Int} : isW z = true ↔ 0 ≤ z ∧ z ≤ 281474976710655 := by simp [isW]
theorem isW_no {z : Int} : isW z = false ↔ z < 0 ∨ 281474976710655 < z := by
  rw [← Bool.not_eq_true, isW_iff]; omega
/-- The cells are valid. -/
def okC (zs : List Int) : Bool := decide (zs.length = 71) && zs.all isW
/-- Cell i can be looked at. -/
def atC (zs : List Int) (i : Int) : Bool := okC zs && (decide (0 ≤ i) && decide (i ≤ 70))
theorem okC_len {zs : List Int} (h : okC zs = true) : zs.length = 71 := by simp [okC] at h; exact h.1
theorem okC_at {zs : List Int} (h : okC zs = true) (j : Nat) (hj : j < 71) : 0 ≤ zs.getD j 0 ∧ zs.getD j 0 ≤ 281474976710655 := by
  have hl := okC_len h
  simp only [okC, Bool.and_eq_true, List.all_eq_true] at h
  have := h.2 (zs.getD j 0) (by rw [List.getD_eq_getElem?_getD, List.getElem?_eq_getElem (by omega)]; exact List.getElem_mem (by omega))
  exact isW_iff.1 this
theorem atC_iff {zs : List Int} {i : Int} : atC zs i = true ↔ okC zs = true ∧ 0 ≤ i ∧ i ≤ 70 := by simp [atC]
theorem atC_no {zs : List Int} {i : Int} : atC zs i = false ↔ okC zs = false ∨ i < 0 ∨ 70 < i := by
  rw [← Bool.not_eq_true, atC_iff, ← Bool.not_eq_true]
  by_cases h : okC zs = true
  · simp only [h, true_and, not_true_eq_false, false_or]; omega
  · simp [h]
theorem okC_set {zs : List Int} (h : okC zs = true) (j : Nat) (n : Int) (hn : isW n = true) : okC (zs.set j n) = true := by
  simp only [okC, Bool.and_eq_true, decide_eq_true_eq, List.all_eq_true, List.length_set] at h ⊢
  refine ⟨h.1, fun x hx => ?_⟩
  rcases List.mem_or_eq_of_mem_set hx with h' | rfl
  · exact h.2 x h'
  · exact hn
theorem all_getD {zs : List Int} {p : Int → Bool} (h : ∀ j, j < zs.length → p (zs.getD j 0) = true) : zs.all p = true := by
  rw [List.all_eq_true]
  intro x hx
  obtain ⟨j, hj, rfl⟩ := List.getElem_of_mem hx
  have := h j hj
  rw [List.getD_eq_getElem?_getD, List.getElem?_eq_getElem hj] at this
  exact this
theorem all_no {zs : List Int} {p : Int → Bool} {j : Nat} (hj : j < zs.length) (h : p (zs.getD j 0) = false) : zs.all p = false := by
  rw [← Bool.not_eq_true, List.all_eq_true]
  intro k
  have := k (zs.getD j 0) (by rw [List.getD_eq_getElem?_getD, List.getElem?_eq_getElem hj]; exact List.getElem_mem hj)
  rw [h] at this; cases this
end Go.Proofs.YtmglidfnolmcaaaGreatDoor
/-
  Chapter 6 in plain words: where a key's way ends; what registering makes of the cells; the keys of a table; when a table is right.
-/
namespace Go.Proofs.YtmglidfnolmcaaaGreatDoor
open Go.RowKit M
set_option linter.unusedVariables false
/-- What a slot's key cell holds. -/
def cellK (zs : List Int) (s : Int) : Int := zs.getD (3 + s).toNat 0
/-- Does a key's way end at its n-th slot: the slot, the kind, the free slot. -/
def stepF (zs : List Int) (key : ByteArray) (n : Int) : Option (Int × Int × Int) :=
  if cellK zs (probeV key n) = 0 then some (-1, 0, probeV key n)
  else match untagV (cellK zs (probeV key n)) with
    | some (k, kd) => if k = key then some (probeV key n, kd, -1) else none
    | none => none
/-- Where a key's way ends. -/
def findV (zs : List Int) (key : ByteArray) : Int × Int × Int :=
  (((stepF zs key 0).orElse fun _ => (stepF zs key 1).orElse fun _ => (stepF zs key 2).orElse fun _ => stepF zs key 3).getD (-1, 0, -1))
theorem findV_at {zs : List Int} {key : ByteArray} {n : Nat} (hn : n < 4) (h : ∀ m : Nat, m < n → stepF zs key m = none) {r : Int × Int × Int} (hr : stepF zs key n = some r) : findV zs key = r := by
  unfold findV
  have hn' : n = 0 ∨ n = 1 ∨ n = 2 ∨ n = 3 := by omega
  rcases hn' with rfl | rfl | rfl | rfl
  · have hr' : stepF zs key 0 = some r := hr
    rw [hr']; rfl
  · have h0 : stepF zs key 0 = none := h 0 (by omega)
    have hr' : stepF zs key 1 = some r := hr
    rw [h0, hr']; rfl
  · have h0 : stepF zs key 0 = none := h 0 (by omega)
    have h1 : stepF zs key 1 = none := h 1 (by omega)
    have hr' : stepF zs key 2 = some r := hr
    rw [h0, h1, hr']; rfl
  · have h0 : stepF zs key 0 = none := h 0 (by omega)
    have h1 : stepF zs key 1 = none := h 1 (by omega)
    have h2 : stepF zs key 2 = none := h 2 (by omega)
    have hr' : stepF zs key 3 = some r := hr
    rw [h0, h1, h2, hr']; rfl
theorem findV_none {zs : List Int} {key : ByteArray} (h : ∀ m : Nat, m < 4 → stepF zs key m = none) : findV zs key = (-1, 0, -1) := by
  unfold findV
  have h0 : stepF zs key 0 = none := h 0 (by omega)
  have h1 : stepF zs key 1 = none := h 1 (by omega)
  have h2 : stepF zs key 2 = none := h 2 (by omega)
  have h3 : stepF zs key 3 = none := h 3 (by omega)
  rw [h0, h1, h2, h3]; rfl
theorem none_next {zs : List Int} {key : ByteArray} {n : Nat} (h : ∀ m : Nat, m < n → stepF zs key m = none) (hn : stepF zs key n = none) : ∀ m : Nat, m < n + 1 → stepF zs key m = none := fun m hm => by
  by_cases e : m = n
  · subst e; exact hn
  · exact h m (by omega)
theorem probe_bd {key : ByteArray} (hk : keyOkV key = true) {n : Nat} (hn : n < 4) : 0 ≤ probeV key n ∧ probeV key n ≤ 3 := by
  rw [probeV_yes hk hn]; omega
theorem stepF_bd {zs : List Int} {key : ByteArray} (hk : keyOkV key = true) {n : Nat} (hn : n < 4) {r : Int × Int × Int} (h : stepF zs key n = some r) : (-1 ≤ r.1 ∧ r.1 ≤ 3) ∧ (0 ≤ r.2.1 ∧ r.2.1 ≤ 3) ∧ (-1 ≤ r.2.2 ∧ r.2.2 ≤ 3) ∧ (r.1 = -1 ∨ r.2.2 = -1) := by
  have hp := probe_bd hk hn
  unfold stepF at h
  split at h
  · injection h with h; subst h
    exact ⟨⟨show (-1 : Int) ≤ -1 by decide, show (-1 : Int) ≤ 3 by decide⟩, ⟨show (0 : Int) ≤ 0 by decide, show (0 : Int) ≤ 3 by decide⟩, ⟨show (-1 : Int) ≤ probeV key n by omega, hp.2⟩, Or.inl rfl⟩
  · split at h
    · split at h
      · rename_i k kd hu _
        injection h with h; subst h
        have := tag_untag hu
        exact ⟨⟨by show (-1 : Int) ≤ probeV key n; omega, hp.2⟩, ⟨by show (0 : Int) ≤ kd; omega, by show kd ≤ 3; omega⟩, ⟨show (-1 : Int) ≤ -1 by decide, show (-1 : Int) ≤ 3 by decide⟩, Or.inr rfl⟩
      · cases h
    · cases h
theorem findV_bd {zs : List Int} {key : ByteArray} (hk : keyOkV key = true) : (-1 ≤ (findV zs key).1 ∧ (findV zs key).1 ≤ 3) ∧ (0 ≤ (findV zs key).2.1 ∧ (findV zs key).2.1 ≤ 3) ∧ (-1 ≤ (findV zs key).2.2 ∧ (findV zs key).2.2 ≤ 3) ∧ ((findV zs key).1 = -1 ∨ (findV zs key).2.2 = -1) := by
  cases h0 : stepF zs key (0 : Nat) with
  | some r => rw [findV_at (n := 0) (by omega) (fun m hm => by omega) h0]; exact stepF_bd hk (by omega) h0
  | none =>
    have n1 := none_next (n := 0) (fun m hm => absurd hm (Nat.not_lt_zero _)) h0
    cases h1 : stepF zs key (1 : Nat) with
    | some r => rw [findV_at (n := 1) (by omega) n1 h1]; exact stepF_bd hk (by omega) h1
    | none =>
      have n2 := none_next n1 h1
      cases h2 : stepF zs key (2 : Nat) with
      | some r => rw [findV_at (n := 2) (by omega) n2 h2]; exact stepF_bd hk (by omega) h2
      | none =>
        have n3 := none_next n2 h2
        cases h3 : stepF zs key (3 : Nat) with
        | some r => rw [findV_at (n := 3) (by omega) n3 h3]; exact stepF_bd hk (by omega) h3
        | none => rw [findV_none (none_next n3 h3)]; decide
/-- FindKey's answers. -/
def fkS (zs : List Int) (key : ByteArray) : Int := if okC zs = true ∧ keyOkV key = true then (findV zs key).1 else -1
def fkK (zs : List Int) (key : ByteArray) : Int := if okC zs = true ∧ keyOkV key = true then (findV zs key).2.1 else 0
/-- Register's answers. -/
def regOk (zs : List Int) (key : ByteArray) (k : Int) : Bool := okC zs && (keyOkV key && (decide (1 ≤ k) && decide (k ≤ 3)))
def regC (zs : List Int) (key : ByteArray) (k : Int) : List Int := if regOk zs key k = true ∧ (findV zs key).1 < 0 ∧ 0 ≤ (findV zs key).2.2 then zs.set (3 + (findV zs key).2.2).toNat (tagV key k) else zs
def regS (zs : List Int) (key : ByteArray) (k : Int) : Int := if regOk zs key k = true then (if 0 ≤ (findV zs key).1 then (findV zs key).1 else (findV zs key).2.2) else -1
def regD (zs : List Int) (key : ByteArray) (k : Int) : Int :=
  if regOk zs key k = true then (if 0 ≤ (findV zs key).1 then (if (findV zs key).2.1 = k then 0 else 4) else (if (findV zs key).2.2 < 0 then 3 else 0)) else 1
theorem regC_length (zs : List Int) (key : ByteArray) (k : Int) : (regC zs key k).length = zs.length := by unfold regC; split <;> simp
/-- The keys of the first j slots. -/
def keysT (zs : List Int) (j : Nat) : List ByteArray := (List.range j).flatMap fun s : Nat => match untagV (cellK zs s) with | some x => [x.1] | none => []
theorem keysT_zero (zs : List Int) : keysT zs 0 = [] := rfl
theorem keysT_some {zs : List Int} {j : Nat} {x : ByteArray × Int} (h : untagV (cellK zs (j : Nat)) = some x) : keysT zs (j + 1) = keysT zs j ++ [x.1] := by
  unfold keysT; rw [List.range_succ, List.flatMap_append, List.flatMap_cons, List.flatMap_nil, List.append_nil, h]
theorem keysT_none {zs : List Int} {j : Nat} (h : untagV (cellK zs (j : Nat)) = none) : keysT zs (j + 1) = keysT zs j := by
  unfold keysT; rw [List.range_succ, List.flatMap_append, List.flatMap_cons, List.flatMap_nil, List.append_nil, h, List.append_nil]
theorem keysT_len (zs : List Int) (j : Nat) : (keysT zs j).length ≤ j := by
  induction j with
  | zero => exact Nat.le_refl _
  | succ j ih =>
    cases h : untagV (cellK zs (j : Nat)) with
    | none => rw [keysT_none h]; omega
    | some x => rw [keysT_some h, List.length_append]; simp; omega
def keysV (zs : List Int) : List ByteArray := if okC zs = true then keysT zs 4 else []
theorem keysV_len (zs : List Int) : (keysV zs).length ≤ 4 := by
  unfold keysV; split
  · exact keysT_len zs 4
  · simp
/-- Is slot s free, or its key found there? -/
def slotR (zs : List Int) (s : Int) : Bool := if cellK zs s = 0 then true else match untagV (cellK zs s) with | some (k, _) => decide ((findV zs k).1 = s) | none => false
def tableV (zs : List Int) : Bool := okC zs && (slotR zs 0 && (slotR zs 1 && (slotR zs 2 && slotR zs 3)))
theorem slotR_free {zs : List Int} {s : Int} (h : cellK zs s = 0) : slotR zs s = true := if_pos h
theorem slotR_none {zs : List Int} {s : Int} (h : cellK zs s ≠ 0) (hu : untagV (cellK zs s) = none) : slotR zs s = false := by unfold slotR; rw [if_neg h, hu]
theorem slotR_some {zs : List Int} {s : Int} {k : ByteArray} {kd : Int} (h : cellK zs s ≠ 0) (hu : untagV (cellK zs s) = some (k, kd)) : slotR zs s = decide ((findV zs k).1 = s) := by unfold slotR; rw [if_neg h, hu]
theorem tableV_all {zs : List Int} (h : okC zs = true) (hs : ∀ m : Nat, m < 4 → slotR zs m = true) : tableV zs = true := by
  have h0 : slotR zs 0 = true := hs 0 (by omega)
  have h1 : slotR zs 1 = true := hs 1 (by omega)
  have h2 : slotR zs 2 = true := hs 2 (by omega)
  have h3 : slotR zs 3 = true := hs 3 (by omega)
  unfold tableV; rw [h, h0, h1, h2, h3]; rfl
theorem tableV_no {zs : List Int} {m : Nat} (hm : m < 4) (h : slotR zs m = false) : tableV zs = false := by
  have hm' : m = 0 ∨ m = 1 ∨ m = 2 ∨ m = 3 := by omega
  unfold tableV
  rcases hm' with rfl | rfl | rfl | rfl
  · have h' : slotR zs 0 = false := h
    rw [h']; simp
  · have h' : slotR zs 1 = false := h
    rw [h']; simp
  · have h' : slotR zs 2 = false := h
    rw [h']; simp
  · have h' : slotR zs 3 = false := h
    rw [h']; simp
theorem tableV_cells {zs : List Int} (h : okC zs = false) : tableV zs = false := by unfold tableV; rw [h]; rfl
end Go.Proofs.YtmglidfnolmcaaaGreatDoor
/-
  Chapters 8 and 9 in plain words: the row of a slot's cells, the report of a buffer, a buffer cleared; recording and flushing at once.
-/
namespace Go.Proofs.YtmglidfnolmcaaaGreatDoor
open Go.RowKit M
set_option linter.unusedVariables false
/-- A number modulo the word. -/
def modW (x : Int) : Int := x % 281474976710656
/-- The first k samples of a slot's cells, as many as the ticket tells, put into r. -/
def ringV (r : R) (raw : List Int) : Nat → R
  | 0 => r
  | k + 1 => if (k : Int) < raw.getD 4 0 then sampledV (ringV r raw k) (raw.getD (5 + k) 0 - 1) else ringV r raw k
/-- The sum of a slot's first k stripes. -/
def sumT (raw : List Int) : Nat → Int
  | 0 => 0
  | k + 1 => modW (sumT raw k + modW (raw.getD k 0))
def countRow (key : ByteArray) (raw : List Int) : R := { zeroR with key := key, kind := 1, sum := sumT raw 2 }
def gaugeRow (key : ByteArray) (raw : List Int) : R := { zeroR with key := key, kind := 2, set := decide (0 < ungA (raw.getD 3 0)), last := ungV (raw.getD 3 0) }
def dropRow (r : R) (t : Int) : R := if r.n = 3 ∧ 3 < t then { r with dropped := if t - 3 < 65535 then t - 3 else 65535 } else r
def timerRow (key : ByteArray) (raw : List Int) : R := dropRow (ringV { zeroR with key := key, kind := 3 } raw 3) (raw.getD 4 0)
def kindRow (key : ByteArray) (kind : Int) (raw : List Int) : R := if kind = 1 then countRow key raw else if kind = 2 then gaugeRow key raw else timerRow key raw
/-- The row of a slot whose key cell holds tag and whose eight cells are raw. -/
def rowFromV (tag : Int) (raw : List Int) : R :=
  match untagV tag with
  | some (key, kind) => if raw.length = 8 then kindRow key kind raw else zeroR
  | none => zeroR
/-- The eight cells of a slot of a buffer. -/
def slotRaw (a : List Int) (b s : Int) : List Int := (a.drop (7 + b * 32 + s * 8).toNat).take 8
def bufOk (b : Int) : Bool := decide (0 ≤ b ∧ b ≤ 1)
def slotOk (s : Int) : Bool := decide (0 ≤ s ∧ s ≤ 3)
def rowInV (a : List Int) (b s : Int) : R := if okC a = true ∧ bufOk b = true ∧ slotOk s = true then rowFromV (cellK a s) (slotRaw a b s) else zeroR
/-- x comes ahead of y, byte by byte. -/
def strLt (x y : ByteArray) : Bool := Go.Op.bytesLess x.toList y.toList
/-- The row put into its place by its key, ahead of the first one with a greater key. -/
def insV (r : R) : List R → List R
  | [] => [r]
  | x :: l => if strLt r.key x.key = true then r :: x :: l else x :: insV r l
def putV (l : List R) (r : R) : List R := if l.any (fun x => decide (x.key = r.key)) = true then l else insV r l
/-- A row is left out of a report where it has no kind or tells of nothing. -/
def addV (l : List R) (r : R) : List R := if r.kind ≠ 0 ∧ quietV r = false then putV l r else l
def reportT (a : List Int) (b : Int) (n : Nat) : List R := (List.range n).foldl (fun l (s : Nat) => addV l (rowInV a b s)) []
def reportInV (a : List Int) (b : Int) : List R := if okC a = true ∧ bufOk b = true then reportT a b 4 else []
def clearT (a : List Int) (b : Int) (n : Nat) : List Int := (List.range n).foldl (fun l (i : Nat) => l.set (7 + b * 32 + i).toNat 0) a
def clearV (a : List Int) (b : Int) : List Int := if okC a = true ∧ bufOk b = true then clearT a b 32 else a
def bufClearV (a : List Int) (b : Int) : Bool := (okC a && bufOk b) && (List.range 32).all fun (i : Nat) => decide (a.getD (7 + b * 32 + i).toNat 0 = 0)
/-- A value put into a slot of a buffer by writer w; is a sample dropped? -/
def putCount (a : List Int) (b s w v : Int) : List Int := a.set (7 + b * 32 + s * 8 + w % 2).toNat (modW (a.getD (7 + b * 32 + s * 8 + w % 2).toNat 0 + v))
def putGauge (a : List Int) (b s v : Int) : List Int :=
  let a1 := a.set (7 + b * 32 + s * 8 + 2).toNat (modW (a.getD (7 + b * 32 + s * 8 + 2).toNat 0 + 1))
  if ungA (a1.getD (7 + b * 32 + s * 8 + 3).toNat 0) ≤ a1.getD (7 + b * 32 + s * 8 + 2).toNat 0 then a1.set (7 + b * 32 + s * 8 + 3).toNat (gaugeV (a1.getD (7 + b * 32 + s * 8 + 2).toNat 0) v) else a1
def putTimer (a : List Int) (b s v : Int) : List Int :=
  let t := a.getD (7 + b * 32 + s * 8 + 4).toNat 0
  let a1 := a.set (7 + b * 32 + s * 8 + 4).toNat (modW (t + 1))
  if 3 ≤ t then a1 else a1.set (7 + b * 32 + s * 8 + (5 + t)).toNat (v + 1)
def putCells (a : List Int) (b s kind w v : Int) : List Int := if kind = 1 then putCount a b s w v else if kind = 2 then putGauge a b s v else putTimer a b s v
def putDrop (a : List Int) (b s kind : Int) : Bool := decide (kind ≠ 1 ∧ kind ≠ 2) && decide (3 ≤ a.getD (7 + b * 32 + s * 8 + 4).toNat 0)
def recArgs (a : List Int) (w : Int) (key : ByteArray) (v : Int) : Bool := okC a && (decide (0 ≤ w ∧ w ≤ 2) && (keyOkV key && decide (0 ≤ v ∧ v ≤ 65535)))
def recC (a : List Int) (w : Int) (key : ByteArray) (v : Int) : List Int :=
  if recArgs a w key v = true ∧ 0 ≤ fkS a key then putCells a (a.getD 0 0 % 2) (fkS a key) (fkK a key) w v else a
def recD (a : List Int) (w : Int) (key : ByteArray) (v : Int) : Int :=
  if recArgs a w key v = true then (if 0 ≤ fkS a key then (if putDrop a (a.getD 0 0 % 2) (fkS a key) (fkK a key) = true then 5 else 0) else 2) else 1
def flushC (a : List Int) : List Int := if okC a = true then (clearV a (a.getD 0 0 % 2)).set 0 (modW (a.getD 0 0 + 1)) else a
def flushR (a : List Int) : List R := if okC a = true then reportInV a (a.getD 0 0 % 2) else []
end Go.Proofs.YtmglidfnolmcaaaGreatDoor
/-
  A function that answers a value and leaves the world alone; one that answers a value and turns nothing that was there.
-/
namespace Go.Proofs.YtmglidfnolmcaaaGreatDoor
open Go.RowKit
set_option linter.unusedVariables false
/-- A function answers v, and turns nothing that was there. -/
def Gives (v : Value) (w : World) (e : Ending) (w' : World) : Prop := e = .returned v ∧ Below w.heap.size w w'
theorem gives_same {v : Value} {w w' : World} {e : Ending} (h : e = .returned v ∧ w = w') : Gives v w e w' := ⟨h.1, by rw [h.2]; exact Below.refl _ _⟩
/-- A function answers v, and the world is as before. -/
def Same (w : World) (v : Value) (e : Ending) (w' : World) : Prop := e = .returned v ∧ w = w'
theorem ret_i {a b : Int} (h : a = b) : Ending.returned (.int .i64 a) = .returned (.int .i64 b) := by rw [h]
theorem ret_ii {a b c d : Int} (h : a = c) (k : b = d) : Ending.returned (.tuple #[.int .i64 a, .int .i64 b]) = .returned (.tuple #[.int .i64 c, .int .i64 d]) := by rw [h, k]
theorem below_drew (B : Nat) (w : World) : Below B w w.drew := ⟨rfl, rfl, rfl, Nat.le_refl _, fun _ _ => rfl⟩
end Go.Proofs.YtmglidfnolmcaaaGreatDoor
/-
  The range test of the model (is x from low to high?) as a contract: it returns the test's outcome and leaves the world alone.
-/
namespace Go.Proofs.YtmglidfnolmcaaaGreatDoor
open Go.RowKit
theorem l1In_yes (x a b : Int) (w : World) (h1 : a ≤ x) (h2 : x ≤ b) :
    Calls Tryz.prog 37 #[.int .i64 x, .int .i64 a, .int .i64 b] w fun e w' => e = .returned (.bool true) ∧ w = w' := by
  go_enter Tryz.func37, Tryz.ntmps37
  go_wp2
  go_ret
  exact ⟨rfl, rfl⟩
theorem l1In_no (x a b : Int) (w : World) (h : x < a ∨ b < x) :
    Calls Tryz.prog 37 #[.int .i64 x, .int .i64 a, .int .i64 b] w fun e w' => e = .returned (.bool false) ∧ w = w' := by
  by_cases h1 : a ≤ x
  · have h2 : decide (x ≤ b) = false := by simp; omega
    go_enter Tryz.func37, Tryz.ntmps37
    go_wp2
    go_ret
    exact ⟨rfl, rfl⟩
  · go_enter Tryz.func37, Tryz.ntmps37
    go_wp2
    go_ret
    exact ⟨rfl, rfl⟩
theorem l1In_any (x a b : Int) (w : World) :
    Calls Tryz.prog 37 #[.int .i64 x, .int .i64 a, .int .i64 b] w fun e w' => e = .returned (.bool (decide (a ≤ x ∧ x ≤ b))) ∧ w = w' := by
  by_cases h : a ≤ x ∧ x ≤ b
  · rw [decide_eq_true h]; exact l1In_yes x a b w h.1 h.2
  · rw [decide_eq_false h]; exact l1In_no x a b w (by omega)
end Go.Proofs.YtmglidfnolmcaaaGreatDoor
/-
  Chapter 3, the model's: each function of a cell's number answers what the plain words say, and leaves the world alone.
-/
namespace Go.Proofs.YtmglidfnolmcaaaGreatDoor
open Go.RowKit M
set_option linter.unusedVariables false
theorem sIn_any (x : Int) (w : World) : Calls Tryz.prog 50 #[.int .i64 x] w (Same w (.int .i64 (inV x))) := by
  by_cases h : 0 ≤ x ∧ x ≤ 1
  · have E := Lib.hid (inV_yes h)
    obtain ⟨h0, h1⟩ := h
    go_enter Tryz.func50, Tryz.ntmps50
    go_wp2_with (go_at_call 37; first | (refine (l1In_yes _ _ _ _ (by omega) (by omega)).mono ?_; rintro e w' ⟨rfl, rfl⟩) | (refine (l1In_no _ _ _ _ (by omega)).mono ?_; rintro e w' ⟨rfl, rfl⟩))
    go_ret
    exact ⟨ret_i (by rw [E.out]), rfl⟩
  · have E := Lib.hid (inV_no h)
    go_enter Tryz.func50, Tryz.ntmps50
    go_wp2_with (go_at_call 37; first | (refine (l1In_yes _ _ _ _ (by omega) (by omega)).mono ?_; rintro e w' ⟨rfl, rfl⟩) | (refine (l1In_no _ _ _ _ (by omega)).mono ?_; rintro e w' ⟨rfl, rfl⟩))
    go_ret
    exact ⟨ret_i (by rw [E.out]), rfl⟩
theorem sKey_any (x : Int) (w : World) : Calls Tryz.prog 46 #[.int .i64 x] w (Same w (.int .i64 (keyV x))) := by
  by_cases h : 0 ≤ x ∧ x ≤ 3
  · have E := Lib.hid (keyV_yes h)
    obtain ⟨h0, h1⟩ := h
    go_enter Tryz.func46, Tryz.ntmps46
    go_wp2_with (go_at_call 37; first | (refine (l1In_yes _ _ _ _ (by omega) (by omega)).mono ?_; rintro e w' ⟨rfl, rfl⟩) | (refine (l1In_no _ _ _ _ (by omega)).mono ?_; rintro e w' ⟨rfl, rfl⟩))
    go_ret
    exact ⟨ret_i (by rw [E.out]), rfl⟩
  · have E := Lib.hid (keyV_no h)
    go_enter Tryz.func46, Tryz.ntmps46
    go_wp2_with (go_at_call 37; first | (refine (l1In_yes _ _ _ _ (by omega) (by omega)).mono ?_; rintro e w' ⟨rfl, rfl⟩) | (refine (l1In_no _ _ _ _ (by omega)).mono ?_; rintro e w' ⟨rfl, rfl⟩))
    go_ret
    exact ⟨ret_i (by rw [E.out]), rfl⟩
theorem sBase_any (b s : Int) (w : World) : Calls Tryz.prog 44 #[.int .i64 b, .int .i64 s] w (Same w (.int .i64 (cellV b s 0))) := by
  by_cases h : 0 ≤ b ∧ b ≤ 1
  · by_cases h' : 0 ≤ s ∧ s ≤ 3
    · have E := Lib.hid (cellV_yes (k := 0) h h')
      obtain ⟨h0, h1⟩ := h
      obtain ⟨h2, h3⟩ := h'
      go_enter Tryz.func44, Tryz.ntmps44
      go_wp2_with (go_at_call 37; first | (refine (l1In_yes _ _ _ _ (by omega) (by omega)).mono ?_; rintro e w' ⟨rfl, rfl⟩) | (refine (l1In_no _ _ _ _ (by omega)).mono ?_; rintro e w' ⟨rfl, rfl⟩))
      go_ret
      exact ⟨ret_i (by rw [E.out, Int.add_zero]), rfl⟩
    · have E := Lib.hid (cellV_noS (b := b) (k := 0) h')
      obtain ⟨h0, h1⟩ := h
      go_enter Tryz.func44, Tryz.ntmps44
      go_wp2_with (go_at_call 37; first | (refine (l1In_yes _ _ _ _ (by omega) (by omega)).mono ?_; rintro e w' ⟨rfl, rfl⟩) | (refine (l1In_no _ _ _ _ (by omega)).mono ?_; rintro e w' ⟨rfl, rfl⟩))
      go_ret
      exact ⟨ret_i (by rw [E.out]), rfl⟩
  · have E := Lib.hid (cellV_noB (s := s) (k := 0) h)
    go_enter Tryz.func44, Tryz.ntmps44
    go_wp2_with (go_at_call 37; first | (refine (l1In_yes _ _ _ _ (by omega) (by omega)).mono ?_; rintro e w' ⟨rfl, rfl⟩) | (refine (l1In_no _ _ _ _ (by omega)).mono ?_; rintro e w' ⟨rfl, rfl⟩))
    go_ret
    exact ⟨ret_i (by rw [E.out]), rfl⟩
theorem sCell_any (b s k : Int) (w : World) (k0 : 0 ≤ k) (k1 : k ≤ 7) : Calls Tryz.prog 99 #[.int .i64 b, .int .i64 s, .int .i64 k] w (Same w (.int .i64 (cellV b s k))) := by
  have H := Lib.hid (sBase_any b s w)
  by_cases h : (0 ≤ b ∧ b ≤ 1) ∧ (0 ≤ s ∧ s ≤ 3)
  · have E := Lib.hid (cellV_yes (k := k) h.1 h.2)
    rw [cellV_yes h.1 h.2] at H
    obtain ⟨⟨h0, h1⟩, h2, h3⟩ := h
    have t : decide (7 + b * 32 + s * 8 + 0 < 0) = false := by simp; omega
    go_enter Tryz.func99, Tryz.ntmps99
    go_wp2_with (go_at_call 44; refine H.out.mono ?_; rintro e w' ⟨rfl, rfl⟩)
    go_ret
    exact ⟨ret_i (by rw [E.out]), rfl⟩
  · have e0 : ∀ k, cellV b s k = -1 := fun k => if_neg h
    have E := Lib.hid (e0 k)
    rw [e0] at H
    clear e0
    go_enter Tryz.func99, Tryz.ntmps99
    go_wp2_with (go_at_call 44; refine H.out.mono ?_; rintro e w' ⟨rfl, rfl⟩)
    go_ret
    exact ⟨ret_i (by rw [E.out]), rfl⟩
theorem sStamp_any (b s : Int) (w : World) : Calls Tryz.prog 78 #[.int .i64 b, .int .i64 s] w (Same w (.int .i64 (cellV b s 2))) := by
  have H := Lib.hid (sCell_any b s 2 w (by decide) (by decide))
  go_enter Tryz.func78, Tryz.ntmps78
  go_wp2_with (go_at_call 99; refine H.out.mono ?_; rintro e w' ⟨rfl, rfl⟩)
  go_ret
  exact ⟨rfl, rfl⟩
theorem sGauge_any (b s : Int) (w : World) : Calls Tryz.prog 80 #[.int .i64 b, .int .i64 s] w (Same w (.int .i64 (cellV b s 3))) := by
  have H := Lib.hid (sCell_any b s 3 w (by decide) (by decide))
  go_enter Tryz.func80, Tryz.ntmps80
  go_wp2_with (go_at_call 99; refine H.out.mono ?_; rintro e w' ⟨rfl, rfl⟩)
  go_ret
  exact ⟨rfl, rfl⟩
theorem sTicket_any (b s : Int) (w : World) : Calls Tryz.prog 82 #[.int .i64 b, .int .i64 s] w (Same w (.int .i64 (cellV b s 4))) := by
  have H := Lib.hid (sCell_any b s 4 w (by decide) (by decide))
  go_enter Tryz.func82, Tryz.ntmps82
  go_wp2_with (go_at_call 99; refine H.out.mono ?_; rintro e w' ⟨rfl, rfl⟩)
  go_ret
  exact ⟨rfl, rfl⟩
theorem sStripe_any (b s k : Int) (w : World) : Calls Tryz.prog 76 #[.int .i64 b, .int .i64 s, .int .i64 k] w (Same w (.int .i64 (partV b s 2 0 k))) := by
  by_cases h : 0 ≤ k ∧ k < 2
  · have E := Lib.hid (partV_yes (b := b) (s := s) (at_ := 0) h)
    obtain ⟨h0, h1⟩ := h
    have H := Lib.hid (sCell_any b s (k) w (by omega) (by omega))
    go_enter Tryz.func76, Tryz.ntmps76
    go_wp2_with (first | (go_at_call 37; first | (refine (l1In_yes _ _ _ _ (by omega) (by omega)).mono ?_; rintro e w' ⟨rfl, rfl⟩) | (refine (l1In_no _ _ _ _ (by omega)).mono ?_; rintro e w' ⟨rfl, rfl⟩)) | (go_at_call 99; refine H.out.mono ?_; rintro e w' ⟨rfl, rfl⟩))
    go_ret
    exact ⟨ret_i (by rw [E.out]; rw [Int.zero_add]), rfl⟩
  · have E := Lib.hid (partV_no (b := b) (s := s) (at_ := 0) h)
    go_enter Tryz.func76, Tryz.ntmps76
    go_wp2_with (go_at_call 37; first | (refine (l1In_yes _ _ _ _ (by omega) (by omega)).mono ?_; rintro e w' ⟨rfl, rfl⟩) | (refine (l1In_no _ _ _ _ (by omega)).mono ?_; rintro e w' ⟨rfl, rfl⟩))
    go_ret
    exact ⟨ret_i (by rw [E.out]), rfl⟩
theorem sRing_any (b s k : Int) (w : World) : Calls Tryz.prog 83 #[.int .i64 b, .int .i64 s, .int .i64 k] w (Same w (.int .i64 (partV b s 3 5 k))) := by
  by_cases h : 0 ≤ k ∧ k < 3
  · have E := Lib.hid (partV_yes (b := b) (s := s) (at_ := 5) h)
    obtain ⟨h0, h1⟩ := h
    have H := Lib.hid (sCell_any b s (5 + k) w (by omega) (by omega))
    go_enter Tryz.func83, Tryz.ntmps83
    go_wp2_with (first | (go_at_call 37; first | (refine (l1In_yes _ _ _ _ (by omega) (by omega)).mono ?_; rintro e w' ⟨rfl, rfl⟩) | (refine (l1In_no _ _ _ _ (by omega)).mono ?_; rintro e w' ⟨rfl, rfl⟩)) | (go_at_call 99; refine H.out.mono ?_; rintro e w' ⟨rfl, rfl⟩))
    go_ret
    exact ⟨ret_i (by rw [E.out]), rfl⟩
  · have E := Lib.hid (partV_no (b := b) (s := s) (at_ := 5) h)
    go_enter Tryz.func83, Tryz.ntmps83
    go_wp2_with (go_at_call 37; first | (refine (l1In_yes _ _ _ _ (by omega) (by omega)).mono ?_; rintro e w' ⟨rfl, rfl⟩) | (refine (l1In_no _ _ _ _ (by omega)).mono ?_; rintro e w' ⟨rfl, rfl⟩))
    go_ret
    exact ⟨ret_i (by rw [E.out]), rfl⟩
end Go.Proofs.YtmglidfnolmcaaaGreatDoor
/-
  Contracts of chapter 2, the model's and the program's: the check of the cells, looking at a cell.
-/
namespace Go.Proofs.YtmglidfnolmcaaaGreatDoor
open Go.RowKit M
set_option linter.unusedVariables false
/-- All of the first j numbers can be held by a cell. -/
def AllW (zs : List Int) (j : Nat) : Prop := ∀ m, m < j → isW (zs.getD m 0) = true
theorem AllW.zero (zs : List Int) : AllW zs 0 := fun m h => absurd h (Nat.not_lt_zero _)
theorem AllW.next {zs : List Int} {j : Nat} (h : AllW zs j) (k : isW (zs.getD j 0) = true) : AllW zs (j + 1) := fun m hm => by
  by_cases e : m = j
  · rw [e]; exact k
  · exact h m (by omega)
theorem AllW.yes {zs : List Int} (h : AllW zs zs.length) (hn : zs.length = 71) : okC zs = true := by
  unfold okC; rw [all_getD h, hn]; rfl
theorem okC_no_len {zs : List Int} (hn : ¬ zs.length = 71) : okC zs = false := by unfold okC; rw [decide_eq_false hn]; rfl
theorem okC_no_at {zs : List Int} {j : Nat} (hj : j < zs.length) (h : isW (zs.getD j 0) = false) : okC zs = false := by unfold okC; rw [all_no hj h, Bool.and_false]
theorem ret_bool' {a b : Bool} (h : a = b) : Ending.returned (.bool a) = .returned (.bool b) := by rw [h]
set_option maxRecDepth 100000 in
theorem sOk_any (w : World) (v : Value) (zs : List Int) (h : Ints w v zs) :
    Calls Tryz.prog 36 #[v] w fun e w' => e = .returned (.bool (okC zs)) ∧ w = w' := by
  obtain ⟨b, off, cap, rfl, h1, h2, h3, h4⟩ := h
  generalize hn : zs.length = n at *
  have HN := Lib.hid hn
  have H4 := Lib.hid h4
  clear hn h4
  unfold maxLen at h2
  go_enter Tryz.func36, Tryz.ntmps36
  go_wp2
  go_loop [3] (fun i => ∃ j : Nat, j ≤ n ∧ i = .int .i64 j ∧ AllW zs j) (fun i => n - (intOf i).toNat)
  case atStart => exact ⟨0, Nat.zero_le _, rfl, AllW.zero _⟩
  case round =>
    obtain ⟨j, hj, rfl, ha⟩ := hrel
    have HA := Lib.hid ha
    clear ha
    by_cases hlt : j < n
    · have g1 := H4.out j hlt
      cases hw : isW (zs.getD j 0) with
      | true =>
        have HW := Lib.hid hw
        obtain ⟨w0, w1⟩ := isW_iff.1 hw
        clear hw
        generalize hz : zs.getD j 0 = z at *
        have HZ := Lib.hid hz
        clear hz
        go_wp2_with (go_at_call 37; refine (l1In_yes _ _ _ _ (by omega) (by omega)).mono ?_; rintro e w' ⟨rfl, rfl⟩)
        go_round
        case rel => exact ⟨j + 1, by omega, by go_num, HA.out.next (by rw [HZ.out]; exact HW.out)⟩
        case measure => simp [intOf]; omega
      | false =>
        have HW := Lib.hid (okC_no_at (by rw [HN.out]; exact hlt) hw)
        have w0 := isW_no.1 hw
        clear hw
        generalize hz : zs.getD j 0 = z at *
        clear hz
        go_wp2_with (go_at_call 37; refine (l1In_no _ _ _ _ (by omega)).mono ?_; rintro e w' ⟨rfl, rfl⟩)
        go_ret
        exact ⟨ret_bool' HW.out.symm, rfl⟩
    · obtain rfl : j = n := by omega
      by_cases h71 : j = 71
      · have t1 : ((j : Int) == 71) = true := by rw [beq_iff_eq]; omega
        have HX := Lib.hid (show okC zs = true from AllW.yes (by rw [HN.out]; exact HA.out) (by rw [HN.out]; exact h71))
        clear h71
        go_wp2
        go_ret
        exact ⟨ret_bool' HX.out.symm, rfl⟩
      · have t1 : ((j : Int) == 71) = false := by rw [beq_eq_false_iff_ne]; omega
        have HX := Lib.hid (show okC zs = false from okC_no_len (by rw [HN.out]; exact h71))
        clear h71
        go_wp2
        go_ret
        exact ⟨ret_bool' HX.out.symm, rfl⟩
theorem isWord_yes (x : Int) (w : World) (h : isW x = true) :
    Calls Tryz.prog 62 #[.int .i64 x] w fun e w' => e = .returned (.bool true) ∧ w = w' := by
  obtain ⟨h1, h2⟩ := isW_iff.1 h
  clear h
  go_enter Tryz.func62, Tryz.ntmps62
  have h3 : x < 281474976710656 := by omega
  go_wp2
  go_ret
  exact ⟨rfl, rfl⟩
theorem isWord_no (x : Int) (w : World) (h : isW x = false) :
    Calls Tryz.prog 62 #[.int .i64 x] w fun e w' => e = .returned (.bool false) ∧ w = w' := by
  rcases isW_no.1 h with h1 | h1
  · have h2 : decide (0 ≤ x) = false := by simp; omega
    clear h
    go_enter Tryz.func62, Tryz.ntmps62
    go_wp2
    go_ret
    exact ⟨rfl, rfl⟩
  · have h2 : decide (0 ≤ x) = true := by simp; omega
    have h3 : decide (x < 281474976710656) = false := by simp; omega
    have h4 : 0 ≤ x := by omega
    clear h
    go_enter Tryz.func62, Tryz.ntmps62
    go_wp2
    go_ret
    exact ⟨rfl, rfl⟩
set_option maxRecDepth 100000 in
theorem iOk_any (w : World) (v : Value) (zs : List Int) (h : Ints w v zs) :
    Calls Tryz.prog 24 #[v] w fun e w' => e = .returned (.bool (okC zs)) ∧ w = w' := by
  obtain ⟨b, off, cap, rfl, h1, h2, h3, h4⟩ := h
  generalize hn : zs.length = n at *
  have HN := Lib.hid hn
  have H4 := Lib.hid h4
  clear hn h4
  unfold maxLen at h2
  by_cases h71 : n = 71
  · have t1 : ((n : Int) != 71) = false := by rw [bne_eq_false_iff_eq]; omega
    have H71 := Lib.hid h71
    clear h71
    go_enter Tryz.func24, Tryz.ntmps24
    go_wp2
    go_loop [10] (fun i => ∃ j : Nat, j ≤ n ∧ i = .int .i64 j ∧ AllW zs j) (fun i => n - (intOf i).toNat)
    case atStart => exact ⟨0, Nat.zero_le _, rfl, AllW.zero _⟩
    case round =>
      obtain ⟨j, hj, rfl, ha⟩ := hrel
      have HA := Lib.hid ha
      clear ha
      by_cases hlt : j < n
      · have g1 := H4.out j hlt
        cases hw : isW (zs.getD j 0) with
        | true =>
          have HW := Lib.hid hw
          clear hw
          generalize hz : zs.getD j 0 = z at *
          have HZ := Lib.hid hz
          clear hz
          go_wp2_with (go_at_call 62; refine (isWord_yes _ _ HW.out).mono ?_; rintro e w' ⟨rfl, rfl⟩)
          go_round
          case rel => exact ⟨j + 1, by omega, by go_num, HA.out.next (by rw [HZ.out]; exact HW.out)⟩
          case measure => simp [intOf]; omega
        | false =>
          have HX := Lib.hid (okC_no_at (by rw [HN.out]; exact hlt) hw)
          have HW := Lib.hid hw
          clear hw
          generalize hz : zs.getD j 0 = z at *
          clear hz
          go_wp2_with (go_at_call 62; refine (isWord_no _ _ HW.out).mono ?_; rintro e w' ⟨rfl, rfl⟩)
          go_ret
          exact ⟨ret_bool' HX.out.symm, rfl⟩
      · obtain rfl : j = n := by omega
        have HX := Lib.hid (show okC zs = true from AllW.yes (by rw [HN.out]; exact HA.out) (by rw [HN.out]; exact H71.out))
        go_wp2
        go_ret
        exact ⟨ret_bool' HX.out.symm, rfl⟩
  · have t1 : ((n : Int) != 71) = true := by rw [bne_iff_ne]; omega
    have HX := Lib.hid (show okC zs = false from okC_no_len (by rw [HN.out]; exact h71))
    clear h71
    go_enter Tryz.func24, Tryz.ntmps24
    go_wp2
    go_ret
    exact ⟨ret_bool' HX.out.symm, rfl⟩
theorem sOk_b (w : World) (v : Value) (zs : List Int) (h : Ints w v zs) (b : Bool) (hb : okC zs = b) :
    Calls Tryz.prog 36 #[v] w fun e w' => e = .returned (.bool b) ∧ w = w' := by
  subst hb; exact sOk_any w v zs h
theorem iOk_b (w : World) (v : Value) (zs : List Int) (h : Ints w v zs) (b : Bool) (hb : okC zs = b) :
    Calls Tryz.prog 24 #[v] w fun e w' => e = .returned (.bool b) ∧ w = w' := by
  subst hb; exact iOk_any w v zs h
end Go.Proofs.YtmglidfnolmcaaaGreatDoor
/-
  A number modulo the word, the model's way: from 0 to the word less one, whatever the number.
-/
namespace Go.Proofs.YtmglidfnolmcaaaGreatDoor
open Go.RowKit
set_option linter.unusedVariables false
theorem tmod_all (x : Int) : (x.tmod 281474976710656 + 281474976710656) % 281474976710656 = x % 281474976710656 := by
  have h := Int.tmod_eq_emod (a := x) (b := 281474976710656)
  split at h <;> simp at h <;> omega
theorem tmod_word (x : Int) (h0 : -1000000000000000 ≤ x) (h1 : x ≤ 1000000000000000) : (x.tmod 281474976710656 + 281474976710656) % 281474976710656 = x % 281474976710656 := tmod_all x
theorem tmod_bd (x : Int) : -281474976710656 < x.tmod 281474976710656 ∧ x.tmod 281474976710656 < 281474976710656 := by
  have h := Int.tmod_eq_emod (a := x) (b := 281474976710656)
  split at h <;> simp at h <;> omega
theorem sMod_any (x : Int) (w : World) : Calls Tryz.prog 77 #[.int .i64 x] w (Same w (.int .i64 (x % 281474976710656))) := by
  have HT := Lib.hid (tmod_all x)
  obtain ⟨b0, b1⟩ := tmod_bd x
  go_enter Tryz.func77, Tryz.ntmps77
  go_wp2
  go_ret
  exact ⟨ret_i (by rw [← HT.out]), rfl⟩
theorem mod_any (x : Int) (w : World) (h0 : -1000000000000000 ≤ x) (h1 : x ≤ 1000000000000000) :
    Calls Tryz.prog 77 #[.int .i64 x] w (Same w (.int .i64 (x % 281474976710656))) := sMod_any x w
end Go.Proofs.YtmglidfnolmcaaaGreatDoor
/-
  Chapter 8, the model's look at a slot's cells: a part of the row of cells; the row of a slot that is read.
-/
namespace Go.Proofs.YtmglidfnolmcaaaGreatDoor
open Go.RowKit M
set_option linter.unusedVariables false
theorem slotRaw_len {zs : List Int} {b s : Int} (hl : zs.length = 71) (hb : 0 ≤ b ∧ b ≤ 1) (hs : 0 ≤ s ∧ s ≤ 3) : (slotRaw zs b s).length = 8 := by
  unfold slotRaw; simp only [List.length_take, List.length_drop]; omega
theorem slotRaw_at {zs : List Int} {b s : Int} (hl : zs.length = 71) (hb : 0 ≤ b ∧ b ≤ 1) (hs : 0 ≤ s ∧ s ≤ 3) (j : Nat) (hj : j < 8) : (slotRaw zs b s).getD j 0 = zs.getD ((7 + b * 32 + s * 8).toNat + j) 0 := by
  unfold slotRaw
  rw [List.getD_eq_getElem?_getD, List.getD_eq_getElem?_getD, List.getElem?_take_of_lt hj, List.getElem?_drop]
/-- A part of a row of ints. -/
theorem Ints.part {w : World} {b off n cap : Nat} {zs : List Int} (h : Ints w (.slice (some ⟨b, off, none⟩) n cap) zs) (k m : Nat) (hk : k + m ≤ n) : Ints w (.slice (some ⟨b, off + k, none⟩) m (cap - k)) ((zs.drop k).take m) := by
  obtain ⟨b', off', cap', e, h1, h2, h3, h4⟩ := h
  injection e with e1 e2 e3
  injection e1 with e1
  injection e1 with e1 e4 _
  subst e1; subst e4; subst e3
  have hlen : ((zs.drop k).take m).length = m := by simp only [List.length_take, List.length_drop]; omega
  refine ⟨b, off + k, cap - k, by rw [hlen], by rw [hlen]; omega, by omega, h3, fun j hj => ?_⟩
  rw [hlen] at hj
  rw [List.getD_eq_getElem?_getD, List.getElem?_take_of_lt hj, List.getElem?_drop, ← List.getD_eq_getElem?_getD, ← h4 (k + j) (by omega), Nat.add_assoc]
set_option maxRecDepth 100000 in
theorem sRaw_same (w : World) (g off n cap : Nat) (b s : Int) (m : Nat) (hm' : 7 + b * 32 + s * 8 = (m : Int)) (hn : n = 71) (hc : n ≤ cap) (hm : cap ≤ maxLen) (hb : 0 ≤ b ∧ b ≤ 1) (hs : 0 ≤ s ∧ s ≤ 3) :
    Calls Tryz.prog 47 #[.slice (some ⟨g, off, none⟩) n cap, .int .i64 b, .int .i64 s] w (Same w (.slice (some ⟨g, off + m, none⟩) 8 (cap - m))) := by
  have HC := fun W => Lib.hid (sBase_any b s W)
  rw [cellV_yes hb hs, Int.add_zero] at HC
  subst hn
  have hm71 : m + 8 ≤ 71 := by omega
  rw [hm'] at HC
  clear hm' hb hs
  unfold maxLen at hm
  have q1 : (m : Int) + 8 ≤ (cap : Int) := by omega
  go_enter Tryz.func47, Tryz.ntmps47
  go_wp2_with (go_at_call 44; refine (HC _).out.mono ?_; rintro e w' ⟨rfl, rfl⟩)
  go_ret
  exact ⟨by simp, rfl⟩
end Go.Proofs.YtmglidfnolmcaaaGreatDoor
/-
  Chapter 4, the model's functions: each answers what the plain words say.
-/
namespace Go.Proofs.YtmglidfnolmcaaaGreatDoor
open Go.RowKit M
set_option linter.unusedVariables false
theorem l4Byte_any (c : Nat) (w : World) (hc : c < 256) : Calls Tryz.prog 75 #[.int .i64 c] w (Same w (.bool (keyB c))) := by
  have e95 : ((c : Int) == 95) = decide (c = 95) := by
    by_cases h : c = 95
    · subst h; rfl
    · rw [decide_eq_false h, beq_eq_false_iff_ne]; omega
  by_cases h1 : 97 ≤ c ∧ c ≤ 122
  · have E := Lib.hid (show keyB c = true by simp [keyB]; omega)
    clear e95
    go_enter Tryz.func75, Tryz.ntmps75
    go_wp2_with (go_at_call 37; first | (refine (l1In_yes _ _ _ _ (by omega) (by omega)).mono ?_; rintro e w' ⟨rfl, rfl⟩) | (refine (l1In_no _ _ _ _ (by omega)).mono ?_; rintro e w' ⟨rfl, rfl⟩))
    go_ret
    exact ⟨ret_bool E.out.symm, rfl⟩
  · by_cases h2 : 65 ≤ c ∧ c ≤ 90
    · have E := Lib.hid (show keyB c = true by simp [keyB]; omega)
      clear e95
      go_enter Tryz.func75, Tryz.ntmps75
      go_wp2_with (go_at_call 37; first | (refine (l1In_yes _ _ _ _ (by omega) (by omega)).mono ?_; rintro e w' ⟨rfl, rfl⟩) | (refine (l1In_no _ _ _ _ (by omega)).mono ?_; rintro e w' ⟨rfl, rfl⟩))
      go_ret
      exact ⟨ret_bool E.out.symm, rfl⟩
    · by_cases h3 : 48 ≤ c ∧ c ≤ 57
      · have E := Lib.hid (show keyB c = true by simp [keyB]; omega)
        clear e95
        go_enter Tryz.func75, Tryz.ntmps75
        go_wp2_with (go_at_call 37; first | (refine (l1In_yes _ _ _ _ (by omega) (by omega)).mono ?_; rintro e w' ⟨rfl, rfl⟩) | (refine (l1In_no _ _ _ _ (by omega)).mono ?_; rintro e w' ⟨rfl, rfl⟩))
        go_ret
        exact ⟨ret_bool E.out.symm, rfl⟩
      · have E := Lib.hid (show keyB c = decide (c = 95) by
          unfold keyB
          rw [show (decide (97 ≤ c) && decide (c ≤ 122)) = false by simp; omega, show (decide (65 ≤ c) && decide (c ≤ 90)) = false by simp; omega, show (decide (48 ≤ c) && decide (c ≤ 57)) = false by simp; omega]
          simp)
        generalize decide (c = 95) = r at *
        go_enter Tryz.func75, Tryz.ntmps75
        go_wp2_with (go_at_call 37; refine (l1In_no _ _ _ _ (by omega)).mono ?_; rintro e w' ⟨rfl, rfl⟩)
        go_ret
        exact ⟨ret_bool E.out.symm, rfl⟩
set_option maxRecDepth 100000 in
theorem sKeyOk_any (w : World) (s : ByteArray) (hs : s.size ≤ maxLen) : Calls Tryz.prog 38 #[.string s] w (Same w (.bool (keyOkV s))) := by
  unfold maxLen at hs
  go_enter Tryz.func38, Tryz.ntmps38
  go_wp2
  go_loop [3] (fun i => ∃ j : Nat, j ≤ s.size ∧ i = .int .i64 j ∧ AllB s j) (fun i => s.size - (intOf i).toNat)
  case atStart => exact ⟨0, Nat.zero_le _, rfl, AllB.zero _⟩
  case round =>
    obtain ⟨j, hj, rfl, ha⟩ := hrel
    have HA := Lib.hid ha
    clear ha
    by_cases hlt : j < s.size
    · have hc := s[j].toNat_lt
      have HB := Lib.hid (l4Byte_any s[j].toNat w (by omega))
      cases hk : keyB s[j].toNat with
      | true =>
        have HN := Lib.hid (HA.out.next hlt hk)
        rw [hk] at HB
        clear hk
        go_wp2_with (go_at_call 75; refine HB.out.mono ?_; rintro e w' ⟨rfl, rfl⟩)
        go_round
        case rel => exact ⟨j + 1, by omega, by go_num, HN.out⟩
        case measure => simp [intOf]; omega
      | false =>
        have HN := Lib.hid (keyOkV_no hlt hk)
        rw [hk] at HB
        clear hk
        go_wp2_with (go_at_call 75; refine HB.out.mono ?_; rintro e w' ⟨rfl, rfl⟩)
        go_ret
        exact ⟨ret_bool HN.out.symm, rfl⟩
    · obtain rfl : j = s.size := by omega
      by_cases h4 : 1 ≤ s.size ∧ s.size ≤ 4
      · have HN := Lib.hid (keyOkV_iff.2 ⟨h4, HA.out⟩)
        obtain ⟨h40, h41⟩ := h4
        go_wp2_with (go_at_call 37; refine (l1In_yes _ _ _ _ (by omega) (by omega)).mono ?_; rintro e w' ⟨rfl, rfl⟩)
        go_ret
        exact ⟨ret_bool HN.out.symm, rfl⟩
      · have HN := Lib.hid (keyOkV_size h4)
        go_wp2_with (go_at_call 37; refine (l1In_no _ _ _ _ (by omega)).mono ?_; rintro e w' ⟨rfl, rfl⟩)
        go_ret
        exact ⟨ret_bool HN.out.symm, rfl⟩
set_option maxRecDepth 100000 in
theorem sPack_any (w : World) (s : ByteArray) (hs : s.size ≤ maxLen) : Calls Tryz.prog 131 #[.string s] w (Same w (.int .i64 (packV s : Nat))) := by
  have HOK := Lib.hid (sKeyOk_any w s hs)
  cases hk : keyOkV s with
  | false =>
    have E := Lib.hid (show packV s = 0 by unfold packV; rw [hk]; rfl)
    rw [hk] at HOK
    clear hk
    go_enter Tryz.func131, Tryz.ntmps131
    go_wp2_with (go_at_call 38; refine HOK.out.mono ?_; rintro e w' ⟨rfl, rfl⟩)
    go_ret
    exact ⟨ret_i (by rw [E.out]; rfl), rfl⟩
  | true =>
    have E := Lib.hid (show packV s = be s.data.toList by unfold packV; rw [if_pos hk])
    have h4 := (keyOkV_iff.1 hk).1.2
    rw [hk] at HOK
    clear hk hs
    go_enter Tryz.func131, Tryz.ntmps131
    go_wp2_with (go_at_call 38; refine HOK.out.mono ?_; rintro e w' ⟨rfl, rfl⟩)
    go_loop [3, 4] (fun n i => ∃ j : Nat, j ≤ s.size ∧ i = .int .i64 j ∧ n = .int .i64 (be (s.data.toList.take j))) (fun _ i => s.size - (intOf i).toNat)
    case atStart => exact ⟨0, Nat.zero_le _, rfl, rfl⟩
    case round =>
      obtain ⟨j, hj, rfl, rfl⟩ := hrel
      by_cases hlt : j < s.size
      · have hb := be_take_lt s j (by omega)
        have hc := s[j].toNat_lt
        have HS : Hid (be (s.data.toList.take (j + 1)) = be (s.data.toList.take j) * 256 + s[j].toNat) := be_take s j hlt
        go_wp2
        go_round
        case rel => exact ⟨j + 1, by omega, by go_num, by rw [HS.out]; go_num⟩
        case measure => simp [intOf]; omega
      · obtain rfl : j = s.size := by omega
        go_wp2
        go_ret
        exact ⟨ret_i (by rw [E.out, List.take_of_length_le (by simp)]), rfl⟩
set_option maxRecDepth 100000 in
theorem sHash_any (w : World) (s : ByteArray) (hs : s.size ≤ maxLen) : Calls Tryz.prog 100 #[.string s] w (Same w (.int .i64 (hashV s : Nat))) := by
  unfold maxLen at hs
  go_enter Tryz.func100, Tryz.ntmps100
  go_wp2
  go_loop [3, 4] (fun h i => ∃ j : Nat, j ≤ s.size ∧ i = .int .i64 j ∧ h = .int .i64 (hashT (s.data.toList.take j) : Nat)) (fun _ i => s.size - (intOf i).toNat)
  case atStart => exact ⟨0, Nat.zero_le _, rfl, rfl⟩
  case round =>
    obtain ⟨j, hj, rfl, rfl⟩ := hrel
    by_cases hlt : j < s.size
    · have hb := hashT_lt (s.data.toList.take j)
      have hc := s[j].toNat_lt
      have HS := Lib.hid (hashT_take s j hlt)
      have HN := Lib.hid (hash_next (hashT (s.data.toList.take j)) s[j].toNat)
      generalize hashT (s.data.toList.take j) = h at *
      have hx := xor_i64 (a := h) (b := s[j].toNat) hb (by omega)
      have hx2 := xor_lt32 (a := h) (b := s[j].toNat) hb (by omega)
      generalize h ^^^ s[j].toNat = x at *
      go_wp2
      go_round
      case rel => exact ⟨j + 1, by omega, by go_num, by rw [HS.out, ← HN.out]⟩
      case measure => simp [intOf]; omega
    · obtain rfl : j = s.size := by omega
      have E := Lib.hid (show hashV s = hashT (s.data.toList.take s.size) by unfold hashV; rw [List.take_of_length_le (by simp)])
      go_wp2
      go_ret
      exact ⟨ret_i (by rw [E.out]), rfl⟩
set_option maxRecDepth 100000 in
theorem sProbe_any (w : World) (s : ByteArray) (n : Int) (hs : s.size ≤ maxLen) : Calls Tryz.prog 84 #[.string s, .int .i64 n] w (Same w (.int .i64 (probeV s n))) := by
  have HOK := Lib.hid (sKeyOk_any w s hs)
  have HH := Lib.hid (sHash_any w s hs)
  have hh := hashT_lt s.data.toList
  rw [show hashT s.data.toList = hashV s from rfl] at hh
  cases hk : keyOkV s with
  | false =>
    have E := Lib.hid (show probeV s n = -1 by unfold probeV; rw [if_neg (by rw [hk]; simp)])
    rw [hk] at HOK
    clear hk hh
    go_enter Tryz.func84, Tryz.ntmps84
    go_wp2_with (go_at_call 38; refine HOK.out.mono ?_; rintro e w' ⟨rfl, rfl⟩)
    go_ret
    exact ⟨ret_i E.out.symm, rfl⟩
  | true =>
    rw [hk] at HOK
    by_cases hn : 0 ≤ n ∧ n ≤ 3
    · have E := Lib.hid (show probeV s n = ((hashV s : Int) + n) % 4 by unfold probeV; rw [if_pos ⟨hk, hn⟩])
      obtain ⟨n0, n1⟩ := hn
      generalize hashV s = h at *
      clear hk
      go_enter Tryz.func84, Tryz.ntmps84
      go_wp2_with (first | (go_at_call 38; refine HOK.out.mono ?_; rintro e w' ⟨rfl, rfl⟩) | (go_at_call 37; refine (l1In_yes _ _ _ _ (by omega) (by omega)).mono ?_; rintro e w' ⟨rfl, rfl⟩) | (go_at_call 100; refine HH.out.mono ?_; rintro e w' ⟨rfl, rfl⟩))
      go_ret
      exact ⟨ret_i E.out.symm, rfl⟩
    · have E := Lib.hid (show probeV s n = -1 by unfold probeV; rw [if_neg (fun h => hn h.2)])
      clear hk hh
      go_enter Tryz.func84, Tryz.ntmps84
      go_wp2_with (first | (go_at_call 38; refine HOK.out.mono ?_; rintro e w' ⟨rfl, rfl⟩) | (go_at_call 37; refine (l1In_no _ _ _ _ (by omega)).mono ?_; rintro e w' ⟨rfl, rfl⟩))
      go_ret
      exact ⟨ret_i E.out.symm, rfl⟩
end Go.Proofs.YtmglidfnolmcaaaGreatDoor
/-
  Rows of bytes that a call made itself: the word 'OwnB w base v l' (the slice value v holds the bytes l, in a block from base on), and what making, storing, appending and turning into a string do to it.
-/
namespace Go.Proofs.YtmglidfnolmcaaaGreatDoor
open Go.RowKit M
set_option linter.unusedVariables false
theorem info_u8 : (Tryz.prog.info? 5).map (fun i => (i.zero, i.size, i.bytes)) = some (some (.int .u8 0), 1, 1) := by kernel_rfl
def b2v (c : UInt8) : Value := .int .u8 (c.toNat : Int)
theorem b2v_one (l : List UInt8) : ∀ u ∈ l.map b2v, u.oneCell' = true := by
  intro u hu
  obtain ⟨c, _, rfl⟩ := List.mem_map.1 hu
  rfl
def OwnB (w : World) (base : Nat) (v : Value) (l : List UInt8) : Prop := w.ownsRow base 5 1 v l.length (l.map b2v)
theorem OwnB.alloc {w : World} {base : Nat} {v : Value} {l : List UInt8} (h : OwnB w base v l) (o : Obj) : OwnB (w.alloc o) base v l := World.ownsRow.alloc h o
theorem OwnB.kept {w w' : World} {base : Nat} {v : Value} {l : List UInt8} {row : Option Nat} (h : OwnB w base v l) (hg : w.grownBy w' row) (hne : v.ownBlock = none ∨ v.ownBlock ≠ row) : OwnB w' base v l := World.ownsRow.kept h hg hne
theorem conv_own {W : World} {base : Nat} {v : Value} {l : List UInt8} (h : OwnB W base v l) :
    (convert 22 9 v).run Tryz.prog W = .ok (.string ⟨l.toArray⟩) W := by
  rcases h.2 with ⟨rfl, h0⟩ | ⟨g, cap, cur, rfl, hb, hg, hn, hm, hc, ht⟩
  · have : l = [] := List.eq_nil_of_length_eq_zero h0
    subst this
    exact run_convert_bytes_nil (P := Tryz.prog) W 22 5 Tryz.underlying22 Tryz.underlying5 0 0 9 Tryz.underlying9
  · have hx := run_convert_bytes_arg (P := Tryz.prog) W 22 5 Tryz.underlying22 Tryz.underlying5 g 0 l.length cap (l.map fun c => (c.toNat : Int)) (by simp) (by
      intro i hi
      rw [Nat.zero_add, World.ownsRow.cellAt h i (by omega), List.getElem?_map, List.getElem?_eq_getElem hi]
      simp [b2v, List.getD, List.getElem?_eq_getElem hi]) 9 Tryz.underlying9
    rw [hx]
    have : strOfNums (l.map fun c => (c.toNat : Int)) = ⟨l.toArray⟩ := by
      simp [strOfNums, Function.comp_def]
    rw [this]
theorem OwnB.cell {w : World} {base g n cap : Nat} {l : List UInt8} (h : OwnB w base (.slice (some ⟨g, 0, none⟩) n cap) l) (hn : l.length = n) {j : Nat} {c : UInt8} (hj : l[j]? = some c) : w.cell? ⟨g, j, none⟩ = some (b2v c) := by
  subst hn
  obtain ⟨hl, _⟩ := List.getElem?_eq_some_iff.1 hj
  rw [World.ownsRow.cellAt h j (by omega), List.getElem?_map, hj]; rfl
theorem OwnB.cellEx {w : World} {base g n cap : Nat} {l : List UInt8} (h : OwnB w base (.slice (some ⟨g, 0, none⟩) n cap) l) (hn : l.length = n) {j : Nat} (hj : j < n) : ∃ z : Int, w.cell? ⟨g, j, none⟩ = some (.int .u8 z) :=
  ⟨_, h.cell hn (List.getElem?_eq_getElem (by omega))⟩
theorem OwnB.frz {w : World} {base g n cap : Nat} {l : List UInt8} (h : OwnB w base (.slice (some ⟨g, 0, none⟩) n cap) l) (hn : l.length = n) (j : Nat) : w.frozen? ⟨g, j, none⟩ = false := by
  subst hn
  exact World.ownsRow.frozenAt h j
/-- A slice of one byte that was just built, as a string. -/
theorem conv_one (W : World) (n : Int) :
    (convert 22 9 (.slice (some ⟨W.heap.size, 0, none⟩) 1 1)).run Tryz.prog (W.alloc (.cells #[.int .u8 n] 5)) = .ok (.string ⟨#[UInt8.ofNat n.toNat]⟩) (W.alloc (.cells #[.int .u8 n] 5)) := by
  have h := run_convert_bytes_arg (P := Tryz.prog) (W.alloc (.cells #[.int .u8 n] 5)) 22 5 Tryz.underlying22 Tryz.underlying5 W.heap.size 0 1 1 [n] rfl (by
    intro i hi
    obtain rfl : i = 0 := by omega
    simp [go_sem]) 9 Tryz.underlying9
  simpa [strOfNums] using h
/-- Filling from the front: what is there after j stores. -/
def part (l : List UInt8) (j : Nat) : List UInt8 := l.take j ++ List.replicate (l.length - j) 0
theorem part_length (l : List UInt8) (j : Nat) : (part l j).length = l.length := by
  simp only [part, List.length_append, List.length_take, List.length_replicate]; omega
theorem part_zero (l : List UInt8) : part l 0 = List.replicate l.length 0 := by simp [part]
theorem part_all (l : List UInt8) : part l l.length = l := by simp [part]
theorem part_set (l : List UInt8) (j : Nat) (c : UInt8) (hc : l[j]? = some c) : (part l j).set j c = part l (j + 1) := by
  obtain ⟨hj, he⟩ := List.getElem?_eq_some_iff.1 hc
  apply List.ext_getElem?
  intro i
  unfold part
  rcases Nat.lt_trichotomy i j with h | h | h
  · rw [List.getElem?_set_ne (by omega), List.getElem?_append_left (by simp; omega), List.getElem?_append_left (by simp; omega), List.getElem?_take_of_lt h, List.getElem?_take_of_lt (by omega)]
  · subst h
    rw [List.getElem?_set_self (by simp; omega), List.getElem?_append_left (by simp; omega), List.getElem?_take_of_lt (by omega), hc]
  · rw [List.getElem?_set_ne (by omega), List.getElem?_append_right (by simp; omega), List.getElem?_append_right (by simp; omega)]
    simp only [List.length_take, List.getElem?_replicate]
    congr 1
    simp only [eq_iff_iff]
    omega
theorem OwnB.made {w : World} {base g n : Nat} {cap : Nat} (h : w.ownsRow base 5 1 (.slice (some ⟨g, 0, none⟩) n cap) n (madeCells (Value.int .u8 0).cells (n * 1)).toList) (l : List UInt8) (hl : l.length = n) :
    OwnB w base (.slice (some ⟨g, 0, none⟩) n cap) (part l 0) := by
  unfold OwnB
  rw [part_length, hl, part_zero, hl]
  have : (madeCells (Value.int .u8 0).cells (n * 1)).toList = (List.replicate n (0 : UInt8)).map b2v := by
    rw [Nat.mul_one, List.map_replicate]
    exact toList_madeCells_one _ _
  rw [← this]
  exact h
theorem OwnB.store {w : World} {base g n cap : Nat} {l : List UInt8} {j : Nat} (hn : l.length = n) (h : OwnB w base (.slice (some ⟨g, 0, none⟩) n cap) (part l j)) (c : UInt8) (hc : l[j]? = some c) :
    OwnB (w.setCell ⟨g, j, none⟩ (b2v c)) base (.slice (some ⟨g, 0, none⟩) n cap) (part l (j + 1)) ∧ w.grownBy (w.setCell ⟨g, j, none⟩ (b2v c)) (some g) := by
  subst hn
  unfold OwnB at h ⊢
  rw [part_length] at h ⊢
  have hs := World.ownsRow.stored h j (b2v c)
  rw [← List.map_set, part_set l j c hc] at hs
  exact hs
/-- append(v, x...) onto an own row of bytes, x being bytes that lie at 'ad'. -/
theorem wpB_append (w : World) {ops : Array Oper} {rest : List Oper} {o : Oper} {a : Act} {Q : Exit → Act → World → Prop} (hgd : o.guard = none) (s x : Operand)
    (ho : o.op = .call { callee := .builtin .append, args := #[s, x], argTypes := #[22, 22] })
    (base : Nat) (v : Value) (l : List UInt8) (hown : OwnB w base v l) (hs : a.eval s = v)
    (ad : Addr) (m c : Nat) (news : List UInt8) (hx : a.eval x = .slice (some ad) m c) (hm : news.length = m) (hnews : ∀ (j : Nat) (u : UInt8), news[j]? = some u → w.cell? (ad.add j) = some (b2v u))
    (hlen : l.length + m ≤ 140737488355328) (hbase : base ≤ w.heap.size)
    (h : ∀ v' w', OwnB w' base v' (l ++ news) → w.grownBy w' v.ownBlock → wpList Tryz.prog ops Q rest (a.put o.dst v') w') : wpList Tryz.prog ops Q (o :: rest) a w := by
  obtain ⟨i0, hi, hz0, hz1, hz2⟩ := info_parts info_u8
  refine wpList_append_own w hgd s x 22 ho base 5 i0 (.int .u8 0) 1 1 Tryz.underlying22 hi hz0 hz1 hz2 rfl (by decide) v l.length (l.map b2v) hs hown ad m c (news.map b2v) hx (by simp [hm]) ?_ (b2v_one _) (by unfold maxLen; omega) (by omega) hbase ?_
  · intro j u hu
    rw [List.getElem?_map] at hu
    cases hj : news[j]? with
    | none => rw [hj] at hu; cases hu
    | some y =>
      rw [hj] at hu
      obtain rfl : b2v y = u := by simpa using hu
      exact hnews j y hj
  · intro v' w' h1 h2 _
    refine h v' w' ?_ h2
    unfold OwnB
    rw [List.length_append, hm, List.map_append]
    exact h1
theorem OwnB.drew {w : World} {base : Nat} {v : Value} {l : List UInt8} (h : OwnB w base v l) : OwnB w.drew base v l := h
/-- The like as one step of a region that draws its order. -/
theorem stepB_append {w : World} {ops : Array Oper} {o : Oper} {a : Act} {K : Act → World → Prop} {Q : Exit → Act → World → Prop} {E : Prop} (hgd : o.guard = none) (s x : Operand)
    (ho : o.op = .call { callee := .builtin .append, args := #[s, x], argTypes := #[22, 22] })
    (base : Nat) (v : Value) (l : List UInt8) (hown : OwnB w base v l) (hs : a.eval s = v)
    (ad : Addr) (m c : Nat) (news : List UInt8) (hx : a.eval x = .slice (some ad) m c) (hm : news.length = m) (hnews : ∀ (j : Nat) (u : UInt8), news[j]? = some u → w.cell? (ad.add j) = some (b2v u))
    (hlen : l.length + m ≤ 140737488355328) (hbase : base ≤ w.heap.size)
    (h : ∀ v' w', OwnB w' base v' (l ++ news) → w.grownBy w' v.ownBlock → K (a.put o.dst v') w') :
    if Region.wanted o (yielded ops a.tmps) = true then Oper.wp Tryz.prog o a w K Q else E := by
  have hw : Region.wanted o (yielded ops a.tmps) = true := by simp [Region.wanted, hgd]
  rw [if_pos hw]
  obtain ⟨i0, hi, hz0, hz1, hz2⟩ := info_parts info_u8
  refine wp_append_own w s x 22 ho base 5 i0 (.int .u8 0) 1 1 Tryz.underlying22 hi hz0 hz1 hz2 rfl (by decide) v l.length (l.map b2v) hs hown ad m c (news.map b2v) hx (by simp [hm]) ?_ (b2v_one _) (by unfold maxLen; omega) (by omega) hbase ?_
  · intro j u hu
    rw [List.getElem?_map] at hu
    cases hj : news[j]? with
    | none => rw [hj] at hu; cases hu
    | some y =>
      rw [hj] at hu
      obtain rfl : b2v y = u := by simpa using hu
      exact hnews j y hj
  · intro v' w' h1 h2 _
    refine h v' w' ?_ h2
    unfold OwnB
    rw [List.length_append, hm, List.map_append]
    exact h1
theorem one_get (c : UInt8) : ∀ (j : Nat) (u : UInt8), [c][j]? = some u → [b2v c][j]? = some (b2v u) := by
  intro j u hu
  rw [show [b2v c] = [c].map b2v from rfl, List.getElem?_map, hu]; rfl
theorem le_alloc {w : World} {B : Nat} (h : B ≤ w.heap.size) (o : Obj) : B ≤ (w.alloc o).heap.size := by simp [go_sem]; omega
theorem new1 (w : World) (c : UInt8) : ∀ (j : Nat) (u : UInt8), [c][j]? = some u → (w.alloc (.cells #[b2v c] 5)).cell? ((⟨w.heap.size, 0, none⟩ : Addr).add j) = some (b2v u) := by
  intro j u hu
  cases j with
  | zero => obtain rfl : c = u := by simpa using hu
            simp [go_sem]
  | succ j => simp at hu
theorem new2 (w : World) (c d : UInt8) : ∀ (j : Nat) (u : UInt8), [c, d][j]? = some u → (w.alloc (.cells #[b2v c, b2v d] 5)).cell? ((⟨w.heap.size, 0, none⟩ : Addr).add j) = some (b2v u) := by
  intro j u hu
  rcases j with _ | _ | j
  · obtain rfl : c = u := by simpa using hu
    simp [go_sem]
  · obtain rfl : d = u := by simpa using hu
    simp [go_sem, Addr.add]
  · simp at hu
theorem OwnB.base_le {w : World} {base : Nat} {v : Value} {l : List UInt8} (h : OwnB w base v l) : ∀ k, v.ownBlock = some k → base ≤ k := fun k hk => (World.ownsRow.lt h k hk).1
/-- An empty row that was just built ([]byte{}). -/
theorem OwnB.empty (w : World) (base : Nat) (hb : base ≤ w.heap.size) : OwnB (w.alloc (.cells #[] 5)) base (.slice (some ⟨w.heap.size, 0, none⟩) 0 0) [] :=
  World.ownsRow_lit w #[] 0 hb (Nat.zero_le _) rfl
end Go.Proofs.YtmglidfnolmcaaaGreatDoor
/-
  Chapter 4, the model's UnpackKey: it answers what the plain words say and turns nothing that was there.
-/
namespace Go.Proofs.YtmglidfnolmcaaaGreatDoor
open Go.RowKit M
set_option linter.unusedVariables false
theorem OwnB.shape {w : World} {base : Nat} {v : Value} {l : List UInt8} (h : OwnB w base v l) (hl : l ≠ []) : ∃ g cap, v = .slice (some ⟨g, 0, none⟩) l.length cap := by
  rcases h.2 with ⟨_, h0⟩ | ⟨g, cap, cur, rfl, _⟩
  · exact absurd (List.eq_nil_of_length_eq_zero h0) hl
  · exact ⟨g, cap, rfl⟩
/-- A row of one byte that was just built. -/
theorem OwnB.one (w : World) (base : Nat) (hb : base ≤ w.heap.size) (c : UInt8) : OwnB (w.alloc (.cells #[b2v c] 5)) base (.slice (some ⟨w.heap.size, 0, none⟩) 1 1) [c] :=
  World.ownsRow_lit w #[b2v c] 1 hb (by unfold maxLen; omega) rfl
set_option maxRecDepth 100000 in
set_option maxHeartbeats 400000 in
theorem sUnpack_any (w : World) (n : Int) : Calls Tryz.prog 92 #[.int .i64 n] w (Gives (unT (unV n)) w) := by
  by_cases hn : 1 ≤ n ∧ n ≤ 4294967295
  · have E := Lib.hid (show unV n = if keyOkV (unb n.toNat) = true then some (unb n.toNat) else none by unfold unV; rw [if_pos hn])
    obtain ⟨m, rfl⟩ := Int.eq_ofNat_of_zero_le (show 0 ≤ n by omega)
    rw [Int.toNat_natCast] at E
    obtain ⟨n0, n1⟩ := hn
    have hm : m ≤ 4294967295 := by omega
    go_enter Tryz.func92, Tryz.ntmps92
    go_wp2_with (go_at_call 37; refine (l1In_yes _ _ _ _ (by omega) (by omega)).mono ?_; rintro e w' ⟨rfl, rfl⟩)
    go_loopw [0, 4] (fun x v wr => ∃ (k g cap : Nat), k ≤ nbV m ∧ x = .int .i64 (dv m k : Nat) ∧ v = .slice (some ⟨g, 0, none⟩) k cap ∧ OwnB wr w.heap.size v (fx m k) ∧ Below w.heap.size w wr) (fun x _ _ => (intOf x).toNat)
    case atStart => exact ⟨0, _, _, Nat.zero_le _, by rw [dv_zero], rfl, OwnB.empty w _ (Nat.le_refl _), (Below.refl _ _).alloc (Nat.le_refl _) _⟩
    case round =>
      obtain ⟨k, g, cap, hk, rfl, rfl, ho, hb⟩ := hrel
      have hk4 : k ≤ 4 := Nat.le_trans hk (nbV_le m)
      have hle := dv_le m k
      by_cases hp : k < nbV m
      · have hpos := (nbV_iff hm hk4).2 hp
        have hv : Value.int .u8 (((dv m k : Nat) : Int) % 256) = b2v (UInt8.ofNat (dv m k)) := by unfold b2v; congr 1
        have HO1 : Hid (OwnB (wr.alloc (.cells #[.int .u8 (((dv m k : Nat) : Int) % 256)] 5)) w.heap.size (.slice (some ⟨wr.heap.size, 0, none⟩) 1 1) [UInt8.ofNat (dv m k)]) := Lib.hid (by rw [hv]; exact OwnB.one wr _ hb.size _)
        have HC1 : Hid (∀ (j : Nat) (u : UInt8), (fx m k)[j]? = some u → (wr.alloc (.cells #[.int .u8 (((dv m k : Nat) : Int) % 256)] 5)).cell? ((⟨g, 0, none⟩ : Addr).add j) = some (b2v u)) := Lib.hid (fun j u hu => by
          have := (ho.alloc (.cells #[.int .u8 (((dv m k : Nat) : Int) % 256)] 5)).cell (fx_length m k) hu
          rw [show (⟨g, 0, none⟩ : Addr).add j = ⟨g, j, none⟩ by unfold Addr.add; split <;> simp_all]; exact this)
        have HB := Lib.hid hb
        have HS := Lib.hid (dv_succ m k)
        have HL := Lib.hid (fx_length m k)
        clear hv ho hb
        go_wp2_with (at_builtin; refine wpB_append _ rfl _ _ rfl w.heap.size _ [UInt8.ofNat (dv m k)] HO1.out rfl ⟨g, 0, none⟩ k cap (fx m k) rfl HL.out HC1.out ?c2 ?c3 ?_; rotate_left 2; intro v' w1 hown' hgrow'; have HO' := Lib.hid hown'; have HG := Lib.hid hgrow'; clear hown' hgrow')
        · obtain ⟨g', cap', rfl⟩ := HO'.out.shape (by simp)
          go_roundw
          case rel => exact ⟨k + 1, g', cap', by omega, by rw [HS.out]; go_num, by simp [HL.out], HO'.out, (HB.out.alloc HB.out.size _).grown HG.out (by simp [go_sem]; have := HB.out.size; omega) (fun i hi => by injection hi with hi; rw [← hi]; exact HB.out.size)⟩
          case measure => simp [intOf]; omega
        case c2 => simp; omega
        case c3 => have := HB.out.size; simp [go_sem]; omega
      · have hz : dv m k = 0 := by have := (nbV_iff hm hk4); omega
        obtain rfl : k = nbV m := by omega
        have hcv := conv_own ho
        have hun : (⟨(fx m (nbV m)).toArray⟩ : ByteArray) = unb m := rfl
        rw [hun] at hcv
        have hus : (unb m).size ≤ maxLen := by rw [unb_size]; unfold maxLen; omega
        have HOK := Lib.hid (sKeyOk_any wr (unb m) hus)
        have HB := Lib.hid hb
        clear ho hb hun
        rw [hz]
        cases hkk : keyOkV (unb m) with
        | true =>
          rw [hkk] at HOK
          rw [if_pos hkk] at E
          clear hkk
          generalize unb m = s at *
          go_wp2_with (go_at_call 38; refine HOK.out.mono ?_; rintro e w' ⟨rfl, rfl⟩)
          go_ret2
          exact ⟨by rw [E.out]; rfl, HB.out⟩
        | false =>
          rw [hkk] at HOK
          rw [if_neg (by rw [hkk]; simp)] at E
          clear hkk
          generalize unb m = s at *
          go_wp2_with (go_at_call 38; refine HOK.out.mono ?_; rintro e w' ⟨rfl, rfl⟩)
          go_ret2
          exact ⟨by rw [E.out]; rfl, HB.out⟩
  · have E := Lib.hid (show unV n = none from if_neg hn)
    go_enter Tryz.func92, Tryz.ntmps92
    go_wp2_with (go_at_call 37; refine (l1In_no _ _ _ _ (by omega)).mono ?_; rintro e w' ⟨rfl, rfl⟩)
    go_ret2
    exact ⟨by rw [E.out]; rfl, Below.refl _ _⟩
end Go.Proofs.YtmglidfnolmcaaaGreatDoor
/-
  Rows of strings: one that a call made itself and appends to; reading one; the law's helper that looks for a text in a row.
-/
namespace Go.Proofs.YtmglidfnolmcaaaGreatDoor
open Go.RowKit M
set_option linter.unusedVariables false
theorem info_txt : (Tryz.prog.info? 9).map (fun i => (i.zero, i.size, i.bytes)) = some (some (.string ⟨#[]⟩), 1, 16) := by kernel_rfl
theorem txt_ne {x y : ByteArray} (h : x ≠ y) : (x.toList == y.toList) = false := by
  rw [beq_eq_false_iff_ne]
  intro e
  rw [ByteArray.toList_eq, ByteArray.toList_eq] at e
  exact h (ByteArray.ext (Array.ext' e))
theorem txt_some {x : ByteArray} (h : x ≠ ⟨#[]⟩) : ¬ x.toList = [] := by
  intro e
  rw [ByteArray.toList_eq] at e
  exact h (ByteArray.ext (Array.ext' e))
theorem txt_full {x : ByteArray} (h : x ≠ ⟨#[]⟩) : x.toList.isEmpty = false := by
  cases e : x.toList with
  | nil => exact absurd e (txt_some h)
  | cons a l => rfl
theorem txt_nil_ne {x : ByteArray} (h : x ≠ ⟨#[]⟩) : ([] == x.toList) = false := by
  have := txt_some h
  rw [beq_eq_false_iff_ne]; exact fun e => this e.symm
theorem txt_self (x : ByteArray) : (x.toList == x.toList) = true := by simp
theorem txt_one (l : List ByteArray) : ∀ u ∈ l.map Value.string, u.oneCell' = true := by
  intro u hu
  obtain ⟨c, _, rfl⟩ := List.mem_map.1 hu
  rfl
/-- The slice value v reads as the strings l (nil, or of no length, or one whose cells are there). -/
def TxtArg (w : World) (v : Value) (l : List ByteArray) : Prop :=
  ∃ A cap, v = .slice A l.length cap ∧ l.length ≤ cap ∧ cap ≤ maxLen ∧ (0 < l.length → ∃ b off, A = some ⟨b, off, none⟩ ∧ b < w.heap.size ∧ ∀ j, j < l.length → w.cell? ⟨b, off + j, none⟩ = some (.string (l.getD j ⟨#[]⟩)))
theorem TxtArg.below {w w' : World} {v : Value} {l : List ByteArray} (h : TxtArg w v l) (hb : Below w.heap.size w w') : TxtArg w' v l := by
  obtain ⟨A, cap, e, h1, h2, h3⟩ := h
  refine ⟨A, cap, e, h1, h2, fun hp => ?_⟩
  obtain ⟨b, off, ea, h4, h5⟩ := h3 hp
  exact ⟨b, off, ea, Nat.lt_of_lt_of_le h4 hb.size, fun j hj => (hb.cell (p := ⟨b, off + j, none⟩) h4).trans (h5 j hj)⟩
/-- The row is the call's own: in a block from base on. -/
def OwnT (w : World) (base : Nat) (v : Value) (l : List ByteArray) : Prop := w.ownsRow base 9 1 v l.length (l.map Value.string)
theorem OwnT.alloc {w : World} {base : Nat} {v : Value} {l : List ByteArray} (h : OwnT w base v l) (o : Obj) : OwnT (w.alloc o) base v l := World.ownsRow.alloc h o
theorem OwnT.kept {w w' : World} {base : Nat} {v : Value} {l : List ByteArray} {row : Option Nat} (h : OwnT w base v l) (hg : w.grownBy w' row) (hne : v.ownBlock = none ∨ v.ownBlock ≠ row) : OwnT w' base v l := World.ownsRow.kept h hg hne
theorem OwnT.base_le {w : World} {base : Nat} {v : Value} {l : List ByteArray} (h : OwnT w base v l) : ∀ k, v.ownBlock = some k → base ≤ k := fun k hk => (World.ownsRow.lt h k hk).1
theorem OwnT.below {w w' : World} {base : Nat} {v : Value} {l : List ByteArray} (h : OwnT w base v l) (hb : Below w.heap.size w w') : OwnT w' base v l :=
  h.kept (row := none) ⟨hb.os, hb.tape, hb.output, hb.size, fun i hi _ => hb.block i hi⟩ (by cases v.ownBlock <;> simp)
theorem OwnT.arg {w : World} {base : Nat} {v : Value} {l : List ByteArray} (h : OwnT w base v l) : TxtArg w v l := by
  have h' := h
  rcases h.2 with ⟨rfl, h0⟩ | ⟨g, cap, cur, rfl, hb, hg, hn, hm, hc, ht⟩
  · exact ⟨none, 0, by rw [h0], by omega, Nat.zero_le _, fun h => by omega⟩
  · refine ⟨_, cap, rfl, hn, hm, fun _ => ⟨g, 0, rfl, (World.ownsRow.lt h' g rfl).2, fun j hj => ?_⟩⟩
    rw [Nat.zero_add, World.ownsRow.cellAt h' j (by omega), List.getElem?_map, List.getElem?_eq_getElem hj, List.getD_eq_getElem?_getD, List.getElem?_eq_getElem hj]
    rfl
/-- A call hands back a new row of its own that reads l, and turns nothing that was there. -/
def MadeT (w : World) (l : List ByteArray) (e : Ending) (w' : World) : Prop := ∃ v, e = .returned v ∧ OwnT w' w.heap.size v l ∧ Below w.heap.size w w'
/-- An empty row that was just built ([]string{}). -/
theorem OwnT.empty (w : World) (base : Nat) (hb : base ≤ w.heap.size) : OwnT (w.alloc (.cells #[] 9)) base (.slice (some ⟨w.heap.size, 0, none⟩) 0 0) [] :=
  World.ownsRow_lit w #[] 0 hb (Nat.zero_le _) rfl
/-- append(v, x) onto an own row of strings, x being a string that lies alone in a new block. -/
theorem wpT_append (w : World) {ops : Array Oper} {rest : List Oper} {o : Oper} {a : Act} {Q : Exit → Act → World → Prop} (hgd : o.guard = none) (s x : Operand)
    (ho : o.op = .call { callee := .builtin .append, args := #[s, x], argTypes := #[44, 44] })
    (base : Nat) (v : Value) (l : List ByteArray) (hown : OwnT w base v l) (hs : a.eval s = v)
    (c : ByteArray) (hx : a.eval x = .slice (some ⟨w.heap.size, 0, none⟩) 1 1)
    (hlen : l.length + 1 ≤ 8796093022208) (hbase : base ≤ w.heap.size)
    (h : ∀ v' w', OwnT w' base v' (l ++ [c]) → (w.alloc (.cells #[.string c] 9)).grownBy w' v.ownBlock → wpList Tryz.prog ops Q rest (a.put o.dst v') w') : wpList Tryz.prog ops Q (o :: rest) a (w.alloc (.cells #[.string c] 9)) := by
  obtain ⟨i0, hi, hz0, hz1, hz2⟩ := info_parts info_txt
  refine wpList_append_own (w.alloc (.cells #[.string c] 9)) hgd s x 44 ho base 9 i0 (.string ⟨#[]⟩) 1 16 Tryz.underlying44 hi hz0 hz1 hz2 rfl (by decide) v l.length (l.map Value.string) hs (hown.alloc _) ⟨w.heap.size, 0, none⟩ 1 1 [.string c] hx rfl ?_ (by intro u hu; simp at hu; subst hu; rfl) (by unfold maxLen; omega) (by omega) (by simp [go_sem]; omega) ?_
  · intro j u hu
    cases j with
    | zero => obtain rfl : Value.string c = u := by simpa using hu
              simp [go_sem]
    | succ j => simp at hu
  · intro v' w' h1 h2 _
    refine h v' w' ?_ h2
    unfold OwnT
    rw [List.length_append, List.map_append]
    exact h1
end Go.Proofs.YtmglidfnolmcaaaGreatDoor
/-
  Chapter 5, the model's functions: each answers what the plain words say. They turn nothing that was there.
-/
namespace Go.Proofs.YtmglidfnolmcaaaGreatDoor
open Go.RowKit M
set_option linter.unusedVariables false
theorem sKindWord_any (w : World) (k : Int) : Calls Tryz.prog 93 #[.int .i64 k] w (Gives (.string (kindW k)) w) := by
  by_cases h : 1 ≤ k ∧ k ≤ 3
  · have hk : k = 1 ∨ k = 2 ∨ k = 3 := by omega
    rcases hk with rfl | rfl | rfl
    · go_enter Tryz.func93, Tryz.ntmps93
      go_wp2_with (go_at_call 37; refine (l1In_yes _ _ _ _ (by omega) (by omega)).mono ?_; rintro e w' ⟨rfl, rfl⟩)
      go_ret
      exact ⟨rfl, (Below.refl _ _).alloc (Nat.le_refl _) _⟩
    · go_enter Tryz.func93, Tryz.ntmps93
      go_wp2_with (go_at_call 37; refine (l1In_yes _ _ _ _ (by omega) (by omega)).mono ?_; rintro e w' ⟨rfl, rfl⟩)
      go_ret
      exact ⟨rfl, (Below.refl _ _).alloc (Nat.le_refl _) _⟩
    · go_enter Tryz.func93, Tryz.ntmps93
      go_wp2_with (go_at_call 37; refine (l1In_yes _ _ _ _ (by omega) (by omega)).mono ?_; rintro e w' ⟨rfl, rfl⟩)
      go_ret
      exact ⟨rfl, (Below.refl _ _).alloc (Nat.le_refl _) _⟩
  · have E := Lib.hid (kindW_no h)
    go_enter Tryz.func93, Tryz.ntmps93
    go_wp2_with (go_at_call 37; refine (l1In_no _ _ _ _ (by omega)).mono ?_; rintro e w' ⟨rfl, rfl⟩)
    go_ret
    exact ⟨ret_str E.out.symm, Below.refl _ _⟩
set_option maxRecDepth 100000 in
theorem sTagged_any (w : World) (s : ByteArray) (k : Int) (hs : s.size ≤ maxLen) : Calls Tryz.prog 121 #[.string s, .int .i64 k] w (Gives (.int .i64 (tagV s k)) w) := by
  have HO := Lib.hid (sKeyOk_any w s hs)
  have HK := Lib.hid (sKindWord_any w k)
  have HP := fun W => Lib.hid (sPack_any W s hs)
  cases hk : keyOkV s with
  | false =>
    have E := Lib.hid (show tagV s k = 0 from tagV_no (by rw [hk]; simp))
    rw [hk] at HO
    clear hk
    go_enter Tryz.func121, Tryz.ntmps121
    go_wp2_with (go_at_call 38; refine HO.out.mono ?_; rintro e w' ⟨rfl, rfl⟩)
    go_ret
    exact ⟨ret_i E.out.symm, Below.refl _ _⟩
  | true =>
    rw [hk] at HO
    have hp := packV_lt s
    by_cases h : 1 ≤ k ∧ k ≤ 3
    · have E := Lib.hid (tagV_yes hk h)
      have hne := txt_some (kindW_some h)
      have hne2 := txt_full (kindW_some h)
      obtain ⟨h1, h3⟩ := h
      generalize kindW k = y at *
      generalize packV s = p at *
      clear hk
      go_enter Tryz.func121, Tryz.ntmps121
      go_wp2_with (first | (go_at_call 38; refine HO.out.mono ?_; rintro e w' ⟨rfl, rfl⟩) | (go_at_call 93; refine HK.out.mono ?_; rintro e w2 ⟨rfl, hb⟩))
      refine (HP w2).out.mono ?_
      rintro e w' ⟨rfl, rfl⟩
      go_wp2_with fail
      go_ret
      exact ⟨ret_i E.out.symm, hb⟩
    · have E := Lib.hid (show tagV s k = 0 from tagV_no (fun x => h x.2))
      rw [kindW_no h] at HK
      clear hk
      go_enter Tryz.func121, Tryz.ntmps121
      go_wp2_with (first | (go_at_call 38; refine HO.out.mono ?_; rintro e w' ⟨rfl, rfl⟩) | (go_at_call 93; refine HK.out.mono ?_; rintro e w2 ⟨rfl, hb⟩))
      go_ret
      exact ⟨ret_i E.out.symm, hb⟩
set_option maxRecDepth 100000 in
set_option maxHeartbeats 800000 in
theorem sUntag_any (w : World) (n : Int) : Calls Tryz.prog 58 #[.int .i64 n] w (Gives (untT (untagV n)) w) := by
  by_cases hn : 1 ≤ n ∧ n ≤ 17179869183
  · have E : untagV n = (match unV (n / 4) with | some s => if 1 ≤ n % 4 then some (s, n % 4) else none | none => none) := if_pos hn
    have HU := Lib.hid (sUnpack_any w (n / 4))
    have HK := fun W => Lib.hid (sKindWord_any W (n % 4))
    obtain ⟨n1, n2⟩ := hn
    have m0 : 0 ≤ n % 4 := by omega
    have m3 : n % 4 ≤ 3 := by omega
    cases hu : unV (n / 4) with
    | none =>
      rw [hu] at E
      rw [hu, unT_none] at HU
      have HE := Lib.hid E
      clear hu E
      go_enter Tryz.func58, Tryz.ntmps58
      go_wp2_with (first | (go_at_call 37; refine (l1In_yes _ _ _ _ (by omega) (by omega)).mono ?_; rintro e w' ⟨rfl, rfl⟩) | (go_at_call 92; refine HU.out.mono ?_; rintro e w2 ⟨rfl, hb⟩))
      go_ret2
      exact ⟨by rw [HE.out]; rfl, hb⟩
    | some s =>
      rw [hu] at E
      rw [hu, unT_some] at HU
      simp only at E
      by_cases hr : 1 ≤ n % 4
      · rw [if_pos hr] at E
        have hne := txt_some (kindW_some (k := n % 4) ⟨hr, m3⟩)
        have hne2 := txt_full (kindW_some (k := n % 4) ⟨hr, m3⟩)
        have HE := Lib.hid E
        clear hu E
        generalize kindW (n % 4) = y at *
        go_enter Tryz.func58, Tryz.ntmps58
        go_wp2_with (first | (go_at_call 37; refine (l1In_yes _ _ _ _ (by omega) (by omega)).mono ?_; rintro e w' ⟨rfl, rfl⟩) | (go_at_call 92; refine HU.out.mono ?_; rintro e w2 ⟨rfl, hb⟩))
        refine (HK w2).out.mono ?_
        rintro e w3 ⟨rfl, hb3⟩
        go_wp2_with fail
        go_ret2
        exact ⟨by rw [HE.out]; rfl, hb.trans (hb3.mono hb.size)⟩
      · rw [if_neg hr] at E
        have hk0 : kindW (n % 4) = ⟨#[]⟩ := kindW_no (by omega)
        rw [hk0] at HK
        have HE := Lib.hid E
        clear hu E hk0
        go_enter Tryz.func58, Tryz.ntmps58
        go_wp2_with (first | (go_at_call 37; refine (l1In_yes _ _ _ _ (by omega) (by omega)).mono ?_; rintro e w' ⟨rfl, rfl⟩) | (go_at_call 92; refine HU.out.mono ?_; rintro e w2 ⟨rfl, hb⟩))
        refine (HK w2).out.mono ?_
        rintro e w3 ⟨rfl, hb3⟩
        go_wp2_with fail
        go_ret2
        exact ⟨by rw [HE.out]; rfl, hb.trans (hb3.mono hb.size)⟩
  · have E := Lib.hid (show untagV n = none from if_neg hn)
    go_enter Tryz.func58, Tryz.ntmps58
    go_wp2_with (go_at_call 37; refine (l1In_no _ _ _ _ (by omega)).mono ?_; rintro e w' ⟨rfl, rfl⟩)
    go_ret2
    exact ⟨by rw [E.out]; rfl, Below.refl _ _⟩
theorem sPackGauge_any (w : World) (a v : Int) : Calls Tryz.prog 81 #[.int .i64 a, .int .i64 v] w (Same w (.int .i64 (gaugeV a v))) := by
  by_cases h : (1 ≤ a ∧ a ≤ 65535) ∧ (0 ≤ v ∧ v ≤ 65535)
  · have E := Lib.hid (gaugeV_yes h)
    obtain ⟨⟨a1, a2⟩, v1, v2⟩ := h
    go_enter Tryz.func81, Tryz.ntmps81
    go_wp2_with (go_at_call 37; refine (l1In_yes _ _ _ _ (by omega) (by omega)).mono ?_; rintro e w' ⟨rfl, rfl⟩)
    go_ret
    exact ⟨ret_i E.out.symm, rfl⟩
  · have E := Lib.hid (gaugeV_no h)
    by_cases ha : 1 ≤ a ∧ a ≤ 65535
    · go_enter Tryz.func81, Tryz.ntmps81
      go_wp2_with (go_at_call 37; first | (refine (l1In_yes _ _ _ _ (by omega) (by omega)).mono ?_; rintro e w' ⟨rfl, rfl⟩) | (refine (l1In_no _ _ _ _ (by omega)).mono ?_; rintro e w' ⟨rfl, rfl⟩))
      go_ret
      exact ⟨ret_i E.out.symm, rfl⟩
    · go_enter Tryz.func81, Tryz.ntmps81
      go_wp2_with (go_at_call 37; refine (l1In_no _ _ _ _ (by omega)).mono ?_; rintro e w' ⟨rfl, rfl⟩)
      go_ret
      exact ⟨ret_i E.out.symm, rfl⟩
theorem sUnpackGauge_any (w : World) (n : Int) : Calls Tryz.prog 79 #[.int .i64 n] w (Same w (.tuple #[.int .i64 (ungA n), .int .i64 (ungV n)])) := by
  by_cases h : 65536 ≤ n ∧ n ≤ 4294967295
  · have E := Lib.hid (show ungA n = n / 65536 from if_pos h)
    have E2 := Lib.hid (show ungV n = n % 65536 from if_pos h)
    obtain ⟨h1, h2⟩ := h
    go_enter Tryz.func79, Tryz.ntmps79
    go_wp2_with (go_at_call 37; refine (l1In_yes _ _ _ _ (by omega) (by omega)).mono ?_; rintro e w' ⟨rfl, rfl⟩)
    go_ret2
    exact ⟨ret_ii E.out.symm E2.out.symm, rfl⟩
  · have E := Lib.hid (show ungA n = 0 from if_neg h)
    have E2 := Lib.hid (show ungV n = 0 from if_neg h)
    go_enter Tryz.func79, Tryz.ntmps79
    go_wp2_with (go_at_call 37; refine (l1In_no _ _ _ _ (by omega)).mono ?_; rintro e w' ⟨rfl, rfl⟩)
    go_ret2
    exact ⟨ret_ii E.out.symm E2.out.symm, rfl⟩
end Go.Proofs.YtmglidfnolmcaaaGreatDoor
/-
  The exact laws' helpers on one row: its copy, its size, comparing two.
-/
namespace Go.Proofs.YtmglidfnolmcaaaGreatDoor
open Go.RowKit M
set_option linter.unusedVariables false
/-- Block g holds the row. -/
def RowAt (w : World) (g : Nat) (r : R) : Prop := w.heap[g]? = some (.cells (rowCells r) 33 (0, 0))
theorem RowAt.lt {w : World} {g : Nat} {r : R} (h : RowAt w g r) : g < w.heap.size := by
  rcases Nat.lt_or_ge g w.heap.size with h1 | h1
  · exact h1
  · unfold RowAt at h; rw [Array.getElem?_eq_none h1] at h; cases h
theorem RowAt.below {w w' : World} {g : Nat} {r : R} (h : RowAt w g r) (hb : Below w.heap.size w w') : RowAt w' g r := (hb.block g h.lt).trans h
theorem RowAt.get {w : World} {g : Nat} {r : R} (h : RowAt w g r) :
    w.cell? ⟨g, 0, none⟩ = some (.string r.key) ∧ w.cell? ⟨g, 1, none⟩ = some (.int .i64 r.kind) ∧ w.cell? ⟨g, 2, none⟩ = some (.int .i64 r.sum) ∧ w.cell? ⟨g, 3, none⟩ = some (.bool r.set) ∧ w.cell? ⟨g, 4, none⟩ = some (.int .i64 r.last) ∧
    w.cell? ⟨g, 5, none⟩ = some (.int .i64 r.n) ∧ w.cell? ⟨g, 6, none⟩ = some (.int .i64 r.mn) ∧ w.cell? ⟨g, 7, none⟩ = some (.int .i64 r.mx) ∧ w.cell? ⟨g, 8, none⟩ = some (.int .i64 r.total) ∧ w.cell? ⟨g, 9, none⟩ = some (.int .i64 r.dropped) ∧ (∀ k, w.frozen? ⟨g, k, none⟩ = false) := by
  unfold RowAt at h
  refine ⟨?_, ?_, ?_, ?_, ?_, ?_, ?_, ?_, ?_, ?_, fun k => by simp [World.frozen?, h]⟩ <;> (rw [cell_of_row w g _ _ _ _ h]; rfl)
theorem rowAt_new (w : World) (g : Nat) (r : R) (hg : g = w.heap.size) : RowAt (w.alloc (.cells (rowCells r) 33)) g r := by subst hg; exact heap_alloc_new w _
theorem RowAt.alloc {w : World} {g : Nat} {r : R} (h : RowAt w g r) (o : Obj) : RowAt (w.alloc o) g r := h.below ((Below.refl _ _).alloc (Nat.le_refl _) o)
/-- Ten stores into one block of the call's own. -/
theorem below_row {B : Nat} {w w2 : World} {g : Nat} (h : Below B w w2) (hg : B ≤ g) (v0 v1 v2 v3 v4 v5 v6 v7 v8 v9 : Value) :
    Below B w ((((((((((w2.setCell ⟨g, 0, none⟩ v0).setCell ⟨g, 1, none⟩ v1).setCell ⟨g, 2, none⟩ v2).setCell ⟨g, 3, none⟩ v3).setCell ⟨g, 4, none⟩ v4).setCell ⟨g, 5, none⟩ v5).setCell ⟨g, 6, none⟩ v6).setCell ⟨g, 7, none⟩ v7).setCell ⟨g, 8, none⟩ v8).setCell ⟨g, 9, none⟩ v9) :=
  (((((((((h.setCell hg _).setCell hg _).setCell hg _).setCell hg _).setCell hg _).setCell hg _).setCell hg _).setCell hg _).setCell hg _).setCell hg _
end Go.Proofs.YtmglidfnolmcaaaGreatDoor
/-
  A row in a block of the call's own: what one store into a field makes of it, with all else that is known of the world carried along.
-/
namespace Go.Proofs.YtmglidfnolmcaaaGreatDoor
open Go.RowKit M
set_option linter.unusedVariables false
theorem RowAt.store {w : World} {g : Nat} {r : R} (h : RowAt w g r) (i : Nat) (v : Value) (r' : R) (e : (rowCells r).setIfInBounds i v = rowCells r') : RowAt (w.setCell ⟨g, i, none⟩ v) g r' := by
  unfold RowAt
  rw [← e]
  exact heap_setCell_same w g i _ _ v h
theorem RowAt.far {w : World} {g : Nat} {r : R} (h : RowAt w g r) (k i : Nat) (v : Value) (hk : g ≠ k) : RowAt (w.setCell ⟨k, i, none⟩ v) g r :=
  (heap_setCell_other w ⟨k, i, none⟩ g v hk).trans h
/-- The walk stands behind a store into field i of the row in block g; block o holds another row. -/
theorem wp_row {C : Go.Code} {Q : Exit → Act → World → Prop} {a : Act} {w0 w : World} {B g o : Nat} {r z : R} {i : Nat} {v : Value} (r' : R) (hx : RowAt w g r) (hz : RowAt w o z) (hb : Below B w0 w) (hg : B ≤ g) (ho : o ≠ g)
    (e : (rowCells r).setIfInBounds i v = rowCells r') (k : ∀ w', RowAt w' g r' → RowAt w' o z → Below B w0 w' → Code.wp Tryz.prog C Q a w') : Code.wp Tryz.prog C Q a (w.setCell ⟨g, i, none⟩ v) :=
  k _ (hx.store i v r' e) (hz.far g i v ho) (hb.setCell hg v)
/-- The row that ten stores lay into a block. -/
theorem RowAt.all {w : World} {g : Nat} {z : R} (h : RowAt w g z) (r : R) :
    RowAt ((((((((((w.setCell ⟨g, 0, none⟩ (.string r.key)).setCell ⟨g, 1, none⟩ (.int .i64 r.kind)).setCell ⟨g, 2, none⟩ (.int .i64 r.sum)).setCell ⟨g, 3, none⟩ (.bool r.set)).setCell ⟨g, 4, none⟩ (.int .i64 r.last)).setCell ⟨g, 5, none⟩ (.int .i64 r.n)).setCell ⟨g, 6, none⟩ (.int .i64 r.mn)).setCell ⟨g, 7, none⟩ (.int .i64 r.mx)).setCell ⟨g, 8, none⟩ (.int .i64 r.total)).setCell ⟨g, 9, none⟩ (.int .i64 r.dropped)) g r := by
  obtain ⟨key, kind, sum, st, last, n, mn, mx, total, dropped⟩ := r
  obtain ⟨zkey, zkind, zsum, zst, zlast, zn, zmn, zmx, ztotal, zdropped⟩ := z
  exact (((((((((h.store 0 _ ⟨key, zkind, zsum, zst, zlast, zn, zmn, zmx, ztotal, zdropped⟩ rfl).store 1 _ ⟨key, kind, zsum, zst, zlast, zn, zmn, zmx, ztotal, zdropped⟩ rfl).store 2 _ ⟨key, kind, sum, zst, zlast, zn, zmn, zmx, ztotal, zdropped⟩ rfl).store 3 _ ⟨key, kind, sum, st, zlast, zn, zmn, zmx, ztotal, zdropped⟩ rfl).store 4 _ ⟨key, kind, sum, st, last, zn, zmn, zmx, ztotal, zdropped⟩ rfl).store 5 _ ⟨key, kind, sum, st, last, n, zmn, zmx, ztotal, zdropped⟩ rfl).store 6 _ ⟨key, kind, sum, st, last, n, mn, zmx, ztotal, zdropped⟩ rfl).store 7 _ ⟨key, kind, sum, st, last, n, mn, mx, ztotal, zdropped⟩ rfl).store 8 _ ⟨key, kind, sum, st, last, n, mn, mx, total, zdropped⟩ rfl).store 9 _ ⟨key, kind, sum, st, last, n, mn, mx, total, dropped⟩ rfl
end Go.Proofs.YtmglidfnolmcaaaGreatDoor
/-
  Rows of rows: reading one that came in or was made; one that a call made itself: storing a row, appending one.
-/
namespace Go.Proofs.YtmglidfnolmcaaaGreatDoor
open Go.RowKit M
set_option linter.unusedVariables false
/-- Row r lies in block b from cell o on. -/
def Row10 (w : World) (b o : Nat) (r : R) : Prop := ∀ k, k < 10 → w.cell? ⟨b, o + k, none⟩ = (rowCells r)[k]?
theorem Row10.get {w : World} {b o : Nat} {r : R} (h : Row10 w b o r) :
    w.cell? ⟨b, o, none⟩ = some (.string r.key) ∧ w.cell? ⟨b, o + 1, none⟩ = some (.int .i64 r.kind) ∧ w.cell? ⟨b, o + 2, none⟩ = some (.int .i64 r.sum) ∧ w.cell? ⟨b, o + 3, none⟩ = some (.bool r.set) ∧ w.cell? ⟨b, o + 4, none⟩ = some (.int .i64 r.last) ∧
    w.cell? ⟨b, o + 5, none⟩ = some (.int .i64 r.n) ∧ w.cell? ⟨b, o + 6, none⟩ = some (.int .i64 r.mn) ∧ w.cell? ⟨b, o + 7, none⟩ = some (.int .i64 r.mx) ∧ w.cell? ⟨b, o + 8, none⟩ = some (.int .i64 r.total) ∧ w.cell? ⟨b, o + 9, none⟩ = some (.int .i64 r.dropped) :=
  ⟨h 0 (by decide), h 1 (by decide), h 2 (by decide), h 3 (by decide), h 4 (by decide), h 5 (by decide), h 6 (by decide), h 7 (by decide), h 8 (by decide), h 9 (by decide)⟩
theorem Row10.below {w w' : World} {b o : Nat} {r : R} (h : Row10 w b o r) (hlt : b < w.heap.size) (hb : Below w.heap.size w w') : Row10 w' b o r :=
  fun k hk => (hb.cell (p := ⟨b, o + k, none⟩) hlt).trans (h k hk)
/-- The slice value v reads as the rows rs (nil, or of no length, or one whose cells are there). -/
def RowsArg (w : World) (v : Value) (rs : List R) : Prop :=
  ∃ A cap, v = .slice A rs.length cap ∧ rs.length ≤ cap ∧ cap ≤ maxLen ∧ (0 < rs.length → ∃ b off, A = some ⟨b, off, none⟩ ∧ b < w.heap.size ∧ ∀ j, j < rs.length → Row10 w b (off + j * 10) (rs.getD j zeroR))
theorem RowsArg.below {w w' : World} {v : Value} {rs : List R} (h : RowsArg w v rs) (hb : Below w.heap.size w w') : RowsArg w' v rs := by
  obtain ⟨A, cap, e, h1, h2, h3⟩ := h
  refine ⟨A, cap, e, h1, h2, fun hp => ?_⟩
  obtain ⟨b, off, ea, h4, h5⟩ := h3 hp
  exact ⟨b, off, ea, Nat.lt_of_lt_of_le h4 hb.size, fun j hj => (h5 j hj).below h4 hb⟩
theorem RowsArg.nil (w : World) : RowsArg w (.slice none 0 0) [] := ⟨none, 0, rfl, Nat.zero_le _, Nat.zero_le _, fun h => absurd h (by simp)⟩
/-- The cells of the rows. -/
def cellsR (rs : List R) : List Value := rs.flatMap fun r => (rowCells r).toList
theorem cells10 (r : R) : (rowCells r).toList.length = 10 := rfl
theorem cellsR_length (rs : List R) : (cellsR rs).length = rs.length * 10 := by
  induction rs with
  | nil => rfl
  | cons r rs ih => simp only [cellsR, List.flatMap_cons, List.length_append, List.length_cons] at *; rw [ih, cells10]; omega
theorem cellsR_append (xs ys : List R) : cellsR (xs ++ ys) = cellsR xs ++ cellsR ys := by simp [cellsR]
theorem cellsR_at (rs : List R) (j k : Nat) (hj : j < rs.length) (hk : k < 10) : (cellsR rs)[j * 10 + k]? = (rowCells (rs.getD j zeroR))[k]? := by
  induction rs generalizing j with
  | nil => simp at hj
  | cons r rs ih =>
    show ((rowCells r).toList ++ cellsR rs)[j * 10 + k]? = _
    cases j with
    | zero => rw [List.getElem?_append_left (by rw [cells10]; omega)]; simp
    | succ j =>
      rw [List.getElem?_append_right (by rw [cells10]; omega), cells10, show (j + 1) * 10 + k - 10 = j * 10 + k by omega, ih j (by simpa using hj)]
      simp
theorem cellsR_one (rs : List R) : ∀ u ∈ cellsR rs, u.oneCell' = true := by
  intro u hu
  obtain ⟨r, _, hr⟩ := List.mem_flatMap.1 hu
  simp [rowCells] at hr
  rcases hr with rfl | rfl | rfl | rfl | rfl | rfl | rfl | rfl | rfl | rfl <;> rfl
/-- The row of rows is the call's own: in a block from base on. -/
def OwnR (w : World) (base : Nat) (v : Value) (rs : List R) : Prop := w.ownsRow base 33 10 v rs.length (cellsR rs)
theorem OwnR.alloc {w : World} {base : Nat} {v : Value} {rs : List R} (h : OwnR w base v rs) (o : Obj) : OwnR (w.alloc o) base v rs := World.ownsRow.alloc h o
theorem OwnR.kept {w w' : World} {base : Nat} {v : Value} {rs : List R} {row : Option Nat} (h : OwnR w base v rs) (hg : w.grownBy w' row) (hne : v.ownBlock = none ∨ v.ownBlock ≠ row) : OwnR w' base v rs := World.ownsRow.kept h hg hne
theorem OwnR.base_le {w : World} {base : Nat} {v : Value} {rs : List R} (h : OwnR w base v rs) : ∀ k, v.ownBlock = some k → base ≤ k := fun k hk => (World.ownsRow.lt h k hk).1
theorem OwnR.below {w w' : World} {base : Nat} {v : Value} {rs : List R} (h : OwnR w base v rs) (hb : Below w.heap.size w w') : OwnR w' base v rs :=
  h.kept (row := none) ⟨hb.os, hb.tape, hb.output, hb.size, fun i hi _ => hb.block i hi⟩ (by cases v.ownBlock <;> simp)
theorem OwnR.arg {w : World} {base : Nat} {v : Value} {rs : List R} (h : OwnR w base v rs) : RowsArg w v rs := by
  have h' := h
  rcases h.2 with ⟨rfl, h0⟩ | ⟨g, cap, cur, rfl, hb, hg, hn, hm, hc, ht⟩
  · exact ⟨none, 0, by rw [h0], by omega, Nat.zero_le _, fun h => by omega⟩
  · refine ⟨_, cap, rfl, hn, hm, fun _ => ⟨g, 0, rfl, (World.ownsRow.lt h' g rfl).2, fun j hj k hk => ?_⟩⟩
    rw [Nat.zero_add, World.ownsRow.cellAt h' (j * 10 + k) (by omega), cellsR_at rs j k hj hk]
theorem OwnR.at {w : World} {base g n cap : Nat} {rs : List R} (h : OwnR w base (.slice (some ⟨g, 0, none⟩) n cap) rs) (hn : rs.length = n) (j : Nat) (hj : j < n) : Row10 w g (j * 10) (rs.getD j zeroR) := by
  subst hn
  exact fun k hk => by rw [World.ownsRow.cellAt h (j * 10 + k) (by omega), cellsR_at rs j k hj hk]
theorem OwnR.frz {w : World} {base g n cap : Nat} {rs : List R} (h : OwnR w base (.slice (some ⟨g, 0, none⟩) n cap) rs) (hn : rs.length = n) (j : Nat) : w.frozen? ⟨g, j, none⟩ = false := by
  subst hn
  exact World.ownsRow.frozenAt h j
/-- Ten stores: row r into block g from cell o on. -/
def put10 (w : World) (g o : Nat) (r : R) : World :=
  (((((((((w.setCell ⟨g, o, none⟩ (.string r.key)).setCell ⟨g, o + 1, none⟩ (.int .i64 r.kind)).setCell ⟨g, o + 2, none⟩ (.int .i64 r.sum)).setCell ⟨g, o + 3, none⟩ (.bool r.set)).setCell ⟨g, o + 4, none⟩ (.int .i64 r.last)).setCell ⟨g, o + 5, none⟩ (.int .i64 r.n)).setCell ⟨g, o + 6, none⟩ (.int .i64 r.mn)).setCell ⟨g, o + 7, none⟩ (.int .i64 r.mx)).setCell ⟨g, o + 8, none⟩ (.int .i64 r.total)).setCell ⟨g, o + 9, none⟩ (.int .i64 r.dropped)
theorem set_append {α : Type} (la bs cs : List α) (i : Nat) (x : α) (hi : i < bs.length) : (la ++ (bs ++ cs)).set (la.length + i) x = la ++ (bs.set i x ++ cs) := by
  rw [List.set_append_right _ _ (by omega), Nat.add_sub_cancel_left, List.set_append_left _ _ hi]
theorem cellsR_set (rs : List R) (j : Nat) (r : R) (hj : j < rs.length) :
    (((((((((((cellsR rs).set (j * 10) (.string r.key)).set (j * 10 + 1) (.int .i64 r.kind)).set (j * 10 + 2) (.int .i64 r.sum)).set (j * 10 + 3) (.bool r.set)).set (j * 10 + 4) (.int .i64 r.last)).set (j * 10 + 5) (.int .i64 r.n)).set (j * 10 + 6) (.int .i64 r.mn)).set (j * 10 + 7) (.int .i64 r.mx)).set (j * 10 + 8) (.int .i64 r.total)).set (j * 10 + 9) (.int .i64 r.dropped)) = cellsR (rs.set j r) := by
  have e : rs = rs.take j ++ (rs.getD j zeroR :: rs.drop (j + 1)) := by
    rw [List.getD_eq_getElem?_getD, List.getElem?_eq_getElem hj, Option.getD_some, ← List.drop_eq_getElem_cons hj, List.take_append_drop]
  generalize rs.getD j zeroR = z at e
  have e2 : rs.set j r = rs.take j ++ (r :: rs.drop (j + 1)) := by
    conv => lhs; rw [e]
    rw [List.set_append_right _ _ (by rw [List.length_take]; omega), List.length_take, show j - min j rs.length = 0 by omega, List.set_cons_zero]
  have e3 : cellsR rs = cellsR (rs.take j) ++ ((rowCells z).toList ++ cellsR (rs.drop (j + 1))) := by
    conv => lhs; rw [e]
    rw [cellsR_append]; rfl
  have e4 : cellsR (rs.set j r) = cellsR (rs.take j) ++ ((rowCells r).toList ++ cellsR (rs.drop (j + 1))) := by rw [e2, cellsR_append]; rfl
  have e5 : (cellsR (rs.take j)).length = j * 10 := by rw [cellsR_length, List.length_take]; omega
  rw [e3, e4, ← e5]
  have S := fun (bs : List Value) (i : Nat) (x : Value) (hi : i < bs.length) => set_append (cellsR (rs.take j)) bs (cellsR (rs.drop (j + 1))) i x hi
  have S0 := fun (bs : List Value) (x : Value) (hi : 0 < bs.length) => S bs 0 x hi
  simp only [Nat.add_zero] at S0
  rw [S0 _ _ (by simp [rowCells]), S _ 1 _ (by simp [rowCells]), S _ 2 _ (by simp [rowCells]), S _ 3 _ (by simp [rowCells]), S _ 4 _ (by simp [rowCells]), S _ 5 _ (by simp [rowCells]), S _ 6 _ (by simp [rowCells]), S _ 7 _ (by simp [rowCells]), S _ 8 _ (by simp [rowCells]), S _ 9 _ (by simp [rowCells])]
  rfl
theorem grownR_trans {a b c : World} {o : Option Nat} (h : a.grownBy b o) (k : b.grownBy c o) : a.grownBy c o :=
  ⟨k.os.trans h.os, k.tape.trans h.tape, k.output.trans h.output, Nat.le_trans h.size k.size, fun i hi hne => (k.block i (Nat.lt_of_lt_of_le hi h.size) hne).trans (h.block i hi hne)⟩
theorem OwnR.put {w : World} {base g n cap : Nat} {rs : List R} (h : OwnR w base (.slice (some ⟨g, 0, none⟩) n cap) rs) (hn : rs.length = n) (j : Nat) (hj : j < n) (r : R) :
    OwnR (put10 w g (j * 10) r) base (.slice (some ⟨g, 0, none⟩) n cap) (rs.set j r) ∧ w.grownBy (put10 w g (j * 10) r) (some g) := by
  subst hn
  have h0 := World.ownsRow.stored h (j * 10) (.string r.key)
  have h1 := World.ownsRow.stored h0.1 (j * 10 + 1) (.int .i64 r.kind)
  have h2 := World.ownsRow.stored h1.1 (j * 10 + 2) (.int .i64 r.sum)
  have h3 := World.ownsRow.stored h2.1 (j * 10 + 3) (.bool r.set)
  have h4 := World.ownsRow.stored h3.1 (j * 10 + 4) (.int .i64 r.last)
  have h5 := World.ownsRow.stored h4.1 (j * 10 + 5) (.int .i64 r.n)
  have h6 := World.ownsRow.stored h5.1 (j * 10 + 6) (.int .i64 r.mn)
  have h7 := World.ownsRow.stored h6.1 (j * 10 + 7) (.int .i64 r.mx)
  have h8 := World.ownsRow.stored h7.1 (j * 10 + 8) (.int .i64 r.total)
  have h9 := World.ownsRow.stored h8.1 (j * 10 + 9) (.int .i64 r.dropped)
  refine ⟨?_, grownR_trans (grownR_trans (grownR_trans (grownR_trans (grownR_trans (grownR_trans (grownR_trans (grownR_trans (grownR_trans h0.2 h1.2) h2.2) h3.2) h4.2) h5.2) h6.2) h7.2) h8.2) h9.2⟩
  unfold OwnR
  rw [List.length_set, ← cellsR_set rs j r hj]
  exact h9.1
/-- A call hands back a new row of rows of its own, and turns nothing that was there. -/
def MadeR (w : World) (rs : List R) (e : Ending) (w' : World) : Prop := ∃ v, e = .returned v ∧ OwnR w' w.heap.size v rs ∧ Below w.heap.size w w'
/-- An empty one that was just built. -/
theorem OwnR.empty (w : World) (base : Nat) (hb : base ≤ w.heap.size) : OwnR (w.alloc (.cells #[] 33)) base (.slice (some ⟨w.heap.size, 0, none⟩) 0 0) [] :=
  World.ownsRow_lit w #[] 0 hb (Nat.zero_le _) rfl
theorem info_row : (Tryz.prog.info? 33).map (fun i => (i.zero, i.size, i.bytes)) = some (some zeroR.v, 10, 88) := by kernel_rfl
/-- append(v, x) onto an own row of rows, x being a row that lies alone in a new block. -/
theorem wpR_append (w : World) {ops : Array Oper} {rest : List Oper} {o : Oper} {a : Act} {Q : Exit → Act → World → Prop} (hgd : o.guard = none) (s x : Operand)
    (ho : o.op = .call { callee := .builtin .append, args := #[s, x], argTypes := #[35, 35] })
    (base : Nat) (v : Value) (l : List R) (hown : OwnR w base v l) (hs : a.eval s = v)
    (c : R) (cs : Array Value) (hcs : cs = rowCells c) (hx : a.eval x = .slice (some ⟨w.heap.size, 0, none⟩) 1 1)
    (hlen : l.length + 1 ≤ 8796093022) (hbase : base ≤ w.heap.size)
    (h : ∀ v' w', OwnR w' base v' (l ++ [c]) → (w.alloc (.cells cs 33)).grownBy w' v.ownBlock → wpList Tryz.prog ops Q rest (a.put o.dst v') w') : wpList Tryz.prog ops Q (o :: rest) a (w.alloc (.cells cs 33)) := by
  subst hcs
  obtain ⟨i0, hi, hz0, hz1, hz2⟩ := info_parts info_row
  refine wpList_append_own (w.alloc (.cells (rowCells c) 33)) hgd s x 35 ho base 33 i0 zeroR.v 10 88 Tryz.underlying35 hi hz0 hz1 hz2 rfl (by decide) v l.length (cellsR l) hs (hown.alloc _) ⟨w.heap.size, 0, none⟩ 1 1 (rowCells c).toList hx rfl ?_ ?_ (by unfold maxLen; omega) (by omega) (by simp [go_sem]; omega) ?_
  · intro j u hu
    have hj : j < 10 := by have := (List.getElem?_eq_some_iff.1 hu).1; simpa [rowCells] using this
    rw [Addr.add_lit, Nat.zero_add, cell_of_row _ _ _ _ _ _ (heap_alloc_new w _)]
    rw [Array.getElem?_toList] at hu
    exact hu
  · intro u hu
    exact cellsR_one [c] u (by simpa [cellsR] using hu)
  · intro v' w' h1 h2 _
    refine h v' w' ?_ h2
    unfold OwnR
    rw [List.length_append, cellsR_append]
    simpa [cellsR] using h1
end Go.Proofs.YtmglidfnolmcaaaGreatDoor
/-
  A statement that draws its order, whose own operations only read while its calls may make memory: walked once, in the text's order, over a class of worlds (Derived/Deep/Quiet's theorem), each step behind a structure, so that no step lays the whole walk open.
-/
namespace Go.Proofs.YtmglidfnolmcaaaGreatDoor
open Go.RowKit
set_option linter.unusedVariables false
structure WQ (P : Program) (ops : Array Oper) (C : World → Prop) (Q : Act → Prop) (l : List Oper) (a : Act) : Prop where
  run : wpQuiet P ops C Q l a
theorem WQ.nil {P : Program} {ops : Array Oper} {C : World → Prop} {Q : Act → Prop} {a : Act} (h : Q a) : WQ P ops C Q [] a := ⟨wpQuiet_nil h⟩
theorem WQ.step {P : Program} {ops : Array Oper} {C : World → Prop} {Q : Act → Prop} {a : Act} {o : Oper} {rest : List Oper}
    (h : ∀ K : Act → Prop, (∀ a, WQ P ops C Q rest a → K a) → if Region.wanted o (yielded ops a.tmps) then o.quiet P a C K else K (a.put o.dst undef)) : WQ P ops C Q (o :: rest) a :=
  ⟨wpQuiet_step (fun K hK => h K (fun a ha => hK a ha.run))⟩
theorem wp_region_wq {P : Program} {C : World → Prop} {id : Nat} {Q : Exit → Act → World → Prop} {a : Act} {w : World} {l : List Oper} (hm : P.follows .mixedOrders = true) (hB : Region.lexB .any l.toArray = true) (hC : C w.drew)
    (h : WQ P l.toArray C (fun a' => ∀ w', C w' → Q .normal a' w') l a) : (Code.region id l.toArray true).wp P Q a w :=
  wp_region_quiet (C := C) hm hB hC (by simpa using h.run)
end Go.Proofs.YtmglidfnolmcaaaGreatDoor
/-
  A statement that draws its order, whose last operation (a store) waits for all others, while those only read (their calls may make memory): walked once, in the text's order, over a class of worlds; then the last one.
-/
namespace Go.Proofs.YtmglidfnolmcaaaGreatDoor
open Go.RowKit
set_option linter.unusedVariables false
/-- A class of worlds, behind a structure. -/
structure HoldsC (F : World → Prop) (w : World) : Prop where
  out : F w
section
variable {P : Program} {md : Region.Mode} {ops : Array Oper} {C : World → Prop}
/-- Whatever order is picked, till the first n are listed. -/
def wpPre (P : Program) (md : Region.Mode) (ops : Array Oper) (C : World → Prop) (n : Nat) (Q : Array Bool → Act → Prop) : Nat → Array Bool → Act → Prop
  | 0, listed, a => (∀ k, k < n → listed.getD k true = true) ∧ Q listed a
  | fuel + 1, listed, a => Region.ready md ops listed ≠ [] ∧ ∀ i ∈ Region.ready md ops listed, qOp P ops C i (wpPre P md ops C n Q fuel (listed.setIfInBounds i true)) a
theorem wpAny_of_pre {n m : Nat} {Q : Array Bool → Act → Prop} {Q' : Exit → Act → World → Prop} (hQ : ∀ listed a w, C w → Q listed a → wpAny P md ops Q' m listed a w) : ∀ (fuel : Nat) (listed : Array Bool) (a : Act) (w : World), C w →
    wpPre P md ops C n Q fuel listed a → wpAny P md ops Q' (fuel + m) listed a w
  | 0, _, _, _, hw, h => by rw [Nat.zero_add]; exact hQ _ _ _ hw h.2
  | fuel + 1, _, _, _, hw, h => by
    rw [show fuel + 1 + m = (fuel + m) + 1 by omega]
    exact ⟨fun h0 => absurd h0 h.1, fun i hi => wpOp_of_qOp hw (fun a' w' hw' => wpAny_of_pre hQ fuel _ a' w' hw') (h.2 i hi)⟩
theorem getD_set_self {listed : Array Bool} {i : Nat} : (listed.setIfInBounds i true).getD i true = true := by
  simp only [Array.getD_eq_getD_getElem?, Array.getElem?_setIfInBounds]
  split
  · split <;> rfl
  · contradiction
theorem wpPre_first {n : Nat} {Q : Array Bool → Act → Prop} {i : Nat} {oi : Oper} {v : Value} (hi : ops[i]? = some oi) (hin : i < n) (hsel : ∀ (j : Nat) (o : Oper) cs b, ops[j]? = some o → o.op ≠ .select cs b)
    (hpost : ∀ j oj, ops[j]? = some oj → n ≤ j → ∀ k, k < n → ∃ e ∈ oj.after, Region.binds md e = true ∧ e.on = k) :
    ∀ (fuel : Nat) (listed : Array Bool) (a : Act),
      (∀ j oj, ops[j]? = some oj → j ≠ i → listed.getD j true = false → (∀ e ∈ oj.after, Region.binds md e = true → e.on ≠ i) → oi.apart ops oj = true) →
      i ∈ Region.ready md ops listed → YieldsIn P ops C oi v a →
      wpPre P md ops C n Q fuel (listed.setIfInBounds i true) (a.put oi.dst v) → wpPre P md ops C n Q (fuel + 1) listed a := by
  have hun : ∀ {listed : Array Bool} {j : Nat}, i ∈ Region.ready md ops listed → j ∈ Region.ready md ops listed → n ≤ j → False := by
    intro listed j hr hj hnj
    obtain ⟨_, oj, hoj, hall⟩ := mem_ready.1 hj
    obtain ⟨e, he, hb, rfl⟩ := hpost j oj hoj hnj i hin
    have h1 := hall e he hb
    have h0 := (mem_ready.1 hr).1
    rcases Nat.lt_or_ge e.on listed.size with h' | h'
    · simp [h'] at h0 h1; rw [h0] at h1; cases h1
    · simp [Array.getElem?_eq_none h'] at h1
  intro fuel
  induction fuel with
  | zero =>
    intro listed a _ hr hy H
    refine ⟨fun h => (by rw [h] at hr; cases hr), fun j hj => ?_⟩
    by_cases hji : j = i
    · subst hji; exact hy.qOp hi H
    · exfalso
      rcases Nat.lt_or_ge j n with h1 | h1
      · have h2 := H.1 j h1
        rw [getD_set_ne true (Ne.symm hji), (mem_ready.1 hj).1] at h2
        cases h2
      · exact hun hr hj h1
  | succ fuel ih =>
    intro listed a hfree hr hy H
    refine ⟨fun h => (by rw [h] at hr; cases hr), fun j hj => ?_⟩
    by_cases hji : j = i
    · subst hji; exact hy.qOp hi H
    · have h1 := H.2 j (ready_mono hj hji)
      obtain ⟨hjun, oj, hoj, hall⟩ := mem_ready.1 hj
      have hnot : ∀ e ∈ oj.after, Region.binds md e = true → e.on ≠ i := fun e he hb heq => by
        have h1 := hall e he hb
        have h0 := (mem_ready.1 hr).1
        rw [heq] at h1
        rcases Nat.lt_or_ge i listed.size with h' | h'
        · simp [h'] at h0 h1; rw [h0] at h1; cases h1
        · simp [Array.getElem?_eq_none h'] at h1
      have h2 := qOp_put hoj (hfree j oj hoj hji hjun hnot) (fun cs b => hsel i oi cs b hi) (fun cs b => hsel j oj cs b hoj) hy h1
      have hfree' : ∀ k ok, ops[k]? = some ok → k ≠ i → (listed.setIfInBounds j true).getD k true = false →
          (∀ e ∈ ok.after, Region.binds md e = true → e.on ≠ i) → oi.apart ops ok = true := fun k ok hk hki hun hno => by
        refine hfree k ok hk hki ?_ hno
        by_cases hjk : j = k
        · subst hjk; exact hjun
        · rw [getD_set_ne true hjk] at hun; exact hun
      refine qOp_mono (fun a' h3 => ih (listed.setIfInBounds j true) a' hfree' (ready_mono hr (Ne.symm hji)) h3.1 ?_) h2
      rw [Array.setIfInBounds_comm _ _ hji]
      exact h3.2
/-- The first so many may be taken in the text's order; when they are listed, what is ready is the last one. -/
def preB (md : Region.Mode) (ops : Array Oper) (n : Nat) : Nat → Nat → Array Bool → Bool
  | 0, k, listed => ((List.range n).all fun j => listed.getD j true) && (Region.ready md ops listed == [n]) && (Region.ready md ops (listed.setIfInBounds n true)).isEmpty
  | fuel + 1, k, listed => decide (k < n) && ((Region.ready md ops listed).contains k && Region.free md ops listed k && preB md ops n fuel (k + 1) (listed.setIfInBounds k true))
def postB (md : Region.Mode) (ops : Array Oper) (n : Nat) : Bool := (List.range ops.size).all fun j => decide (j < n) || match ops[j]? with
  | some o => (List.range n).all fun k => o.after.any fun e => Region.binds md e && e.on == k
  | none => true
def tailB (md : Region.Mode) (ops : Array Oper) (n : Nat) : Bool := Region.noSelect ops && (postB md ops n && (decide (ops.size = n + 1) && preB md ops n n 0 (Array.replicate ops.size false)))
theorem post_spec {n : Nat} (h : postB md ops n = true) (j : Nat) (oj : Oper) (hj : ops[j]? = some oj) (hn : n ≤ j) (k : Nat) (hk : k < n) : ∃ e ∈ oj.after, Region.binds md e = true ∧ e.on = k := by
  unfold postB at h
  rw [List.all_eq_true] at h
  have h1 := h j (List.mem_range.2 (Array.getElem?_eq_some_iff.1 hj).1)
  rw [hj, decide_eq_false (by omega), Bool.false_or] at h1
  simp only [List.all_eq_true] at h1
  have h2 := h1 k (List.mem_range.2 hk)
  rw [Array.any_eq_true] at h2
  obtain ⟨i, hi, h3⟩ := h2
  rw [Bool.and_eq_true, beq_iff_eq] at h3
  exact ⟨oj.after[i], Array.getElem_mem hi, h3.1, h3.2⟩
theorem wpPre_lex {n : Nat} {Q : Act → Prop} (hs : Region.noSelect ops = true) (hp : postB md ops n = true) : ∀ (l : List Oper) (k : Nat) (listed : Array Bool) (a : Act), (∀ j, j < l.length → l[j]? = ops[k + j]?) →
    preB md ops n l.length k listed = true → wpQuiet P ops C Q l a → wpPre P md ops C n (fun listed a => (Region.ready md ops listed = [n] ∧ Region.ready md ops (listed.setIfInBounds n true) = []) ∧ Q a) l.length listed a
  | [], _, _, _, _, hB, h => by
    simp only [List.length_nil, preB, Bool.and_eq_true, List.all_eq_true, List.mem_range, beq_iff_eq, List.isEmpty_iff] at hB
    exact ⟨hB.1.1, ⟨hB.1.2, hB.2⟩, h⟩
  | o :: l, k, listed, a, hl, hB, h => by
    have h0 : ops[k]? = some o := by simpa using (hl 0 (by simp)).symm
    simp only [List.length_cons, preB, Bool.and_eq_true, decide_eq_true_eq] at hB
    obtain ⟨hk, ⟨hr, hf⟩, hB'⟩ := hB
    have hst : qOp P ops C k (wpQuiet P ops C Q l) a := by unfold qOp; simp only [h0]; exact h
    obtain ⟨v, hy, hK⟩ := yieldsIn_of_qOp h0 hst
    exact wpPre_first h0 hk (Region.noSelect_spec hs) (post_spec hp) l.length listed a (Region.free_spec h0 hf) (by simpa using hr) hy
      (wpPre_lex hs hp l (k + 1) _ _ (fun j hj => by have := hl (j + 1) (by simpa using hj); simpa [Nat.add_assoc, Nat.add_comm 1 j] using this) hB' hK)
end
/-- The walk of all but the last operation, then the last one in whatever world of the class. -/
theorem wp_region_tail {P : Program} {C : World → Prop} {id : Nat} {Q : Exit → Act → World → Prop} {a : Act} {w : World} {l : List Oper} {o : Oper} (hm : P.follows .mixedOrders = true) (hB : tailB .any (l ++ [o]).toArray l.length = true) (hC : C w.drew)
    (h : WQ P (l ++ [o]).toArray C (fun a' => ∀ w', C w' → (Region.wanted o (yielded (l ++ [o]).toArray a'.tmps) = true ∧ o.wp P a' w' (fun a'' w'' => Q .normal a'' w'') Q)) l a) : (Code.region id (l ++ [o]).toArray true).wp P Q a w := by
  simp only [tailB, Bool.and_eq_true, decide_eq_true_eq] at hB
  obtain ⟨hs, hp, hz, hpre⟩ := hB
  refine wp_region_any hm ?_
  rw [hz]
  rw [hz] at hpre
  refine wpAny_of_pre (C := C) (m := 1) (Q := fun listed a' => (Region.ready .any (l ++ [o]).toArray listed = [l.length] ∧ Region.ready .any (l ++ [o]).toArray (listed.setIfInBounds l.length true) = []) ∧ ∀ w', C w' → (Region.wanted o (yielded (l ++ [o]).toArray a'.tmps) = true ∧ o.wp P a' w' (fun a'' w'' => Q .normal a'' w'') Q)) ?_ l.length _ _ _ hC
    (wpPre_lex hs hp l 0 _ a (fun j hj => by rw [Nat.zero_add]; simp [List.getElem?_append_left hj]) hpre h.run)
  intro listed a' w' hw ⟨⟨hr, hr2⟩, hq⟩
  obtain ⟨h1, h2⟩ := hq w' hw
  refine ⟨fun h0 => (by rw [hr] at h0; cases h0), fun i hi => ?_⟩
  rw [hr] at hi
  obtain rfl : i = l.length := by simpa using hi
  unfold wpOp
  have ho : (l ++ [o]).toArray[l.length]? = some o := by simp
  simp only [ho, h1, if_true]
  refine .inl ?_
  have hK : (wpAny P .any (l ++ [o]).toArray Q 0 (listed.setIfInBounds l.length true)) = fun a'' w'' => Q .normal a'' w'' := by
    funext a'' w''
    unfold wpAny
    simp only [hr2, true_and]
  rw [hK]
  exact h2
/-- The same at a region written out. -/
theorem wp_region_tail_lit {P : Program} {C : World → Prop} {id : Nat} {Q : Exit → Act → World → Prop} {a : Act} {w : World} {L : List Oper} {o : Oper} (hm : P.follows .mixedOrders = true) (hB : tailB .any L.toArray (L.length - 1) = true) (ho : L.getLast? = some o) (hC : C w.drew)
    (h : WQ P L.toArray C (fun a' => ∀ w', C w' → (Region.wanted o (yielded L.toArray a'.tmps) = true ∧ o.wp P a' w' (fun a'' w'' => Q .normal a'' w'') Q)) L.dropLast a) : (Code.region id L.toArray true).wp P Q a w := by
  have e : L = L.dropLast ++ [o] := by
    cases L with
    | nil => cases ho
    | cons x l =>
      rw [List.getLast?_eq_some_getLast (by simp)] at ho
      injection ho with ho
      rw [← ho]; exact (List.dropLast_concat_getLast (by simp)).symm
  have hn : L.length - 1 = L.dropLast.length := by rw [List.length_dropLast]
  rw [hn] at hB
  generalize L.dropLast = l at *
  subst e
  exact wp_region_tail hm hB hC h
end Go.Proofs.YtmglidfnolmcaaaGreatDoor
/-
  Rows of records, whatever the record: its cells one behind the other; setting a record's cells one after another.
-/
namespace Go.Proofs.YtmglidfnolmcaaaGreatDoor
open Go.RowKit M
set_option linter.unusedVariables false
section
variable {α : Type} {F : Nat} {c : α → Array Value}
def cellsF (c : α → Array Value) (l : List α) : List Value := l.flatMap fun r => (c r).toList
theorem cellsF_length (hF : ∀ r, (c r).size = F) (l : List α) : (cellsF c l).length = l.length * F := by
  induction l with
  | nil => simp [cellsF]
  | cons r l ih => simp only [cellsF, List.flatMap_cons, List.length_append, List.length_cons, Array.length_toList, hF] at *; rw [ih, Nat.add_mul, Nat.one_mul, Nat.add_comm]
theorem cellsF_append (xs ys : List α) : cellsF c (xs ++ ys) = cellsF c xs ++ cellsF c ys := by simp [cellsF]
theorem cellsF_at (hF : ∀ r, (c r).size = F) (z : α) (l : List α) (j k : Nat) (hj : j < l.length) (hk : k < F) : (cellsF c l)[j * F + k]? = (c (l.getD j z))[k]? := by
  induction l generalizing j with
  | nil => simp at hj
  | cons r l ih =>
    show ((c r).toList ++ cellsF c l)[j * F + k]? = _
    cases j with
    | zero => rw [List.getElem?_append_left (by simp [hF]; omega)]; simp
    | succ j =>
      rw [List.getElem?_append_right (by simp [hF, Nat.add_mul]; omega), show (j + 1) * F + k - (c r).toList.length = j * F + k by simp [hF, Nat.add_mul]; omega, ih j (by simpa using hj)]
      simp
/-- Cells set one after another, from place o on. -/
def setN (cs : List Value) (o : Nat) : List Value → List Value
  | [] => cs
  | u :: us => setN (cs.set o u) (o + 1) us
theorem setN_mid (us bs as_ cs : List Value) (h : us.length = bs.length) : setN (as_ ++ (bs ++ cs)) as_.length us = as_ ++ (us ++ cs) := by
  induction us generalizing bs as_ with
  | nil =>
    have : bs = [] := List.eq_nil_of_length_eq_zero (by simpa using h.symm)
    subst this; rfl
  | cons u us ih =>
    cases bs with
    | nil => simp at h
    | cons b bs =>
      show setN ((as_ ++ (b :: bs ++ cs)).set as_.length u) (as_.length + 1) us = _
      rw [List.set_append_right _ _ (Nat.le_refl _), Nat.sub_self]
      show setN (as_ ++ (u :: (bs ++ cs))) (as_.length + 1) us = _
      have e : as_ ++ (u :: (bs ++ cs)) = (as_ ++ [u]) ++ (bs ++ cs) := by simp
      rw [e, show as_.length + 1 = (as_ ++ [u]).length by simp, ih bs (as_ ++ [u]) (by simpa using h)]
      simp
theorem cellsF_set (hF : ∀ r, (c r).size = F) (l : List α) (j : Nat) (hj : j < l.length) (r : α) : setN (cellsF c l) (j * F) (c r).toList = cellsF c (l.set j r) := by
  have e : l = l.take j ++ (l[j] :: l.drop (j + 1)) := by rw [← List.drop_eq_getElem_cons hj, List.take_append_drop]
  have e2 : l.set j r = l.take j ++ (r :: l.drop (j + 1)) := by
    conv => lhs; rw [e]
    rw [List.set_append_right _ _ (by rw [List.length_take]; omega), List.length_take, show j - min j l.length = 0 by omega, List.set_cons_zero]
  have e3 : cellsF c l = cellsF c (l.take j) ++ ((c l[j]).toList ++ cellsF c (l.drop (j + 1))) := by
    conv => lhs; rw [e]
    rw [cellsF_append]; rfl
  have e4 : cellsF c (l.set j r) = cellsF c (l.take j) ++ ((c r).toList ++ cellsF c (l.drop (j + 1))) := by rw [e2, cellsF_append]; rfl
  have e5 : (cellsF c (l.take j)).length = j * F := by rw [cellsF_length hF, List.length_take]; congr 1; omega
  rw [e3, e4, ← e5]
  exact setN_mid _ _ _ _ (by simp [hF])
/-- Marked from the front: what is there after j records. -/
def mpartF (m : Nat → α) (l : List α) (j : Nat) : List α := (List.range j).map m ++ l.drop j
theorem mpartF_length (m : Nat → α) (l : List α) (j : Nat) (h : j ≤ l.length) : (mpartF m l j).length = l.length := by
  simp only [mpartF, List.length_append, List.length_map, List.length_range, List.length_drop]; omega
theorem mpartF_zero (m : Nat → α) (l : List α) : mpartF m l 0 = l := by simp [mpartF]
theorem mpartF_all (m : Nat → α) (l : List α) : mpartF m l l.length = (List.range l.length).map m := by simp [mpartF]
theorem mpartF_set (m : Nat → α) (l : List α) (j : Nat) (h : j < l.length) : (mpartF m l j).set j (m j) = mpartF m l (j + 1) := by
  unfold mpartF
  rw [List.set_append_right _ _ (by simp), List.length_map, List.length_range, Nat.sub_self, List.drop_eq_getElem_cons h, List.range_succ, List.map_append, List.set_cons_zero, List.append_assoc]
  rfl
end
/-- The walk goes on over any world of which P is known. -/
theorem wp_gen {C : Go.Code} {Q : Exit → Act → World → Prop} {a : Act} {w : World} (P : World → Prop) (h : P w) (k : ∀ w', P w' → Code.wp Tryz.prog C Q a w') : Code.wp Tryz.prog C Q a w := k w h
theorem ownsRow_some {w : World} {base g n cap F : Nat} {t : TypeId} {xs : List Value} (h : w.ownsRow base t F (.slice (some ⟨g, 0, none⟩) n cap) n xs) (j : Nat) (hj : j < n * F) : ∃ z, w.cell? ⟨g, j, none⟩ = some z := by
  refine ⟨xs[j]'(by rw [h.1]; exact hj), ?_⟩
  rw [World.ownsRow.cellAt h j hj, List.getElem?_eq_getElem]
theorem grownF {a b c : World} {o : Option Nat} (h : a.grownBy b o) (k : b.grownBy c o) : a.grownBy c o :=
  ⟨k.os.trans h.os, k.tape.trans h.tape, k.output.trans h.output, Nat.le_trans h.size k.size, fun i hi hne => (k.block i (Nat.lt_of_lt_of_le hi h.size) hne).trans (h.block i hi hne)⟩
end Go.Proofs.YtmglidfnolmcaaaGreatDoor
/-
  The model's copy of a row of ints hands back a new one.
-/
namespace Go.Proofs.YtmglidfnolmcaaaGreatDoor
open Go.RowKit M
set_option linter.unusedVariables false
set_option maxRecDepth 100000 in
theorem copy_any (w : World) (v : Value) (zs : List Int) (h : Ints w v zs) (hl : zs.length ≤ 1048576) :
    Calls Tryz.prog 35 #[v] w (MadeI w zs) := by
  obtain ⟨i0, hi, hz0, hz1, hz2⟩ := info_parts info_int
  obtain ⟨b, off, cap, rfl, h1, h2, h3, h4⟩ := h
  have H4 := Lib.hid h4
  clear h4
  go_enter Tryz.func35, Tryz.ntmps35
  go_wp2_with (at_builtin; refine wpList_append_own _ rfl _ _ 24 rfl w.heap.size 3 i0 (.int .i64 0) 1 8 Tryz.underlying24 hi hz0 hz1 hz2 rfl (by decide) _ _ _ rfl (World.ownsRow_made w #[] 0 (Nat.le_refl _) (Nat.zero_le _) rfl) ⟨b, off, none⟩ zs.length cap (zs.map (Value.int .i64)) rfl ?qc1 ?qc2 ?qc3 ?qc4 ?qc5 ?qc6 ?_)
  case qc1 => simp
  case qc2 =>
    intro j u hj
    have hjn : j < zs.length := by
      have := (List.getElem?_eq_some_iff.1 hj).1
      simpa using this
    rw [Addr.add_lit]
    refine Lib.cell?_alloc_some _ ?_
    rw [H4.out j hjn]
    have e : (zs.map (Value.int .i64))[j]? = some (Value.int .i64 (zs.getD j 0)) := by simp [List.getD, List.getElem?_eq_getElem hjn]
    rw [e] at hj
    exact hj
  case qc3 => intro u hu; obtain ⟨x, _, rfl⟩ := List.mem_map.1 hu; rfl
  case qc4 => unfold maxLen; omega
  case qc5 => omega
  case qc6 => simp
  intro v' w1 hown hgrow hnil
  have HO := Lib.hid hown
  have HG := Lib.hid hgrow
  have HN := Lib.hid hnil
  clear hown hgrow hnil
  go_wp2
  go_ret
  refine ⟨v', rfl, OwnI.of_row (n := zs.length) (by simpa using HO.out) rfl ?_, ((Below.refl _ w).alloc (Nat.le_refl _) _).grown HG.out (by simp) (by intro k hk; simp [Value.ownBlock] at hk; omega)⟩
  exact HN.out
end Go.Proofs.YtmglidfnolmcaaaGreatDoor
/-
  Chapter 6, the model's functions: each answers what the plain words say. They turn nothing that was there.
-/
namespace Go.Proofs.YtmglidfnolmcaaaGreatDoor
open Go.RowKit M
set_option linter.unusedVariables false
theorem key_ne {key : ByteArray} (h : keyOkV key = true) : key ≠ ⟨#[]⟩ := fun e => by subst e; exact absurd h (by decide)
theorem cellK_at {w : World} {b off : Nat} {zs : List Int} {s : Int} (h4 : ∀ j, j < zs.length → w.cell? ⟨b, off + j, none⟩ = some (.int .i64 (zs.getD j 0))) (hl : zs.length = 71) (h0 : 0 ≤ s) (h3 : s ≤ 3) : w.cell? ⟨b, off + (3 + s).toNat, none⟩ = some (.int .i64 (cellK zs s)) :=
  h4 _ (by omega)
/-- Three numbers. -/
def find3 (r : Int × Int × Int) : Value := .tuple #[.int .i64 r.1, .int .i64 r.2.1, .int .i64 r.2.2]
theorem ret_find {a b c : Int} {r : Int × Int × Int} (h : r = (a, b, c)) : Ending.returned (.tuple #[.int .i64 a, .int .i64 b, .int .i64 c]) = .returned (find3 r) := by subst h; rfl
set_option maxRecDepth 100000 in
set_option maxHeartbeats 1600000 in
theorem sFind_any (w : World) (v : Value) (zs : List Int) (key : ByteArray) (hz : Ints w v zs) (hc : okC zs = true) (hk : keyOkV key = true) :
    Calls Tryz.prog 40 #[v, .string key] w (Gives (find3 (findV zs key)) w) := by
  have hks : key.size ≤ maxLen := by have := (keyOkV_iff.1 hk).1; unfold maxLen; omega
  have hl := okC_len hc
  have HZ := Lib.hid hz
  have HC := Lib.hid hc
  have HK := Lib.hid hk
  have HKN := Lib.hid (key_ne hk)
  obtain ⟨b, off, cap, rfl, hcl, hcm, _, _⟩ := hz
  rw [hl] at *
  clear hc hk
  go_enter Tryz.func40, Tryz.ntmps40
  go_wp2
  go_loopw [7] (fun x wr => ∃ n : Nat, n ≤ 4 ∧ x = .int .i64 n ∧ (∀ m : Nat, m < n → stepF zs key m = none) ∧ Below w.heap.size w wr) (fun x _ => 4 - (intOf x).toNat)
  case atStart => exact ⟨0, Nat.zero_le _, rfl, fun m hm => absurd hm (Nat.not_lt_zero _), Below.refl _ _⟩
  case round =>
    obtain ⟨n, hn, rfl, hd, hb⟩ := hrel
    have HD := Lib.hid hd
    have HB := Lib.hid hb
    clear hd hb
    by_cases hlt : n < 4
    · obtain ⟨p0, p3⟩ := probe_bd HK.out hlt
      have HP := Lib.hid (sProbe_any wr key n hks)
      have HKC := Lib.hid (sKey_any (probeV key n) wr)
      rw [keyV_yes ⟨p0, p3⟩] at HKC
      have hcell : ∀ W, Below w.heap.size w W → W.cell? ⟨b, off + (3 + probeV key n).toNat, none⟩ = some (.int .i64 (cellK zs (probeV key n))) := fun W hW => by
        obtain ⟨b', off', cap', e, _, _, _, h4⟩ := HZ.out.below hW
        injection e with e1 _ _
        injection e1 with e1
        injection e1 with e1 e2 _
        subst e1; subst e2
        exact cellK_at h4 (okC_len HC.out) p0 p3
      have hcr := hcell wr HB.out
      have hp71 : 3 + probeV key n < 71 := by omega
      have HS := Lib.hid (show stepF zs key n = if cellK zs (probeV key n) = 0 then some (-1, 0, probeV key n) else match untagV (cellK zs (probeV key n)) with | some (k, kd) => if k = key then some (probeV key n, kd, -1) else none | none => none from rfl)
      by_cases hx : cellK zs (probeV key n) = 0
      · have HF := Lib.hid (findV_at hlt HD.out (HS.out.trans (if_pos hx)))
        rw [hx] at hcr
        clear hcell hx HS
        generalize probeV key n = p at *
        go_wp2_with (first | (go_at_call 84; refine HP.out.mono ?_; rintro e w' ⟨rfl, rfl⟩) | (go_at_call 46; refine HKC.out.mono ?_; rintro e w' ⟨rfl, rfl⟩))
        go_ret3
        exact ⟨ret_find HF.out, HB.out⟩
      · have hxne : (cellK zs (probeV key n) == 0) = false := by rw [beq_eq_false_iff_ne]; exact hx
        have HU := Lib.hid (sUntag_any wr (cellK zs (probeV key n)))
        have HS2 := Lib.hid (HS.out.trans (if_neg hx))
        clear HS hx hcell
        cases hu : untagV (cellK zs (probeV key n)) with
        | none =>
          rw [hu] at HS2
          rw [hu, untT_none] at HU
          have HN := Lib.hid (none_next HD.out HS2.out)
          have hkn := txt_ne (Ne.symm HKN.out)
          have hkn2 := txt_full HKN.out
          clear hu HS2
          generalize cellK zs (probeV key n) = x at *
          generalize probeV key n = p at *
          go_wp2_with (first | (go_at_call 84; refine HP.out.mono ?_; rintro e w' ⟨rfl, rfl⟩) | (go_at_call 46; refine HKC.out.mono ?_; rintro e w' ⟨rfl, rfl⟩) | (go_at_call 58; refine HU.out.mono ?_; rintro e w2 ⟨rfl, hb2⟩))
          go_roundw
          case rel => exact ⟨n + 1, by omega, by go_num, HN.out, HB.out.trans (hb2.mono HB.out.size)⟩
          case measure => simp [intOf]; omega
        | some u =>
          obtain ⟨k, kd⟩ := u
          rw [hu] at HS2
          rw [hu, untT_some] at HU
          by_cases he : k = key
          · have HF := Lib.hid (findV_at hlt HD.out (HS2.out.trans (if_pos he)))
            subst he
            clear hu HS2
            generalize cellK zs (probeV k n) = x at *
            generalize probeV k n = p at *
            go_wp2_with (first | (go_at_call 84; refine HP.out.mono ?_; rintro e w' ⟨rfl, rfl⟩) | (go_at_call 46; refine HKC.out.mono ?_; rintro e w' ⟨rfl, rfl⟩) | (go_at_call 58; refine HU.out.mono ?_; rintro e w2 ⟨rfl, hb2⟩))
            go_ret3
            exact ⟨ret_find HF.out, HB.out.trans (hb2.mono HB.out.size)⟩
          · have HN := Lib.hid (none_next HD.out (HS2.out.trans (if_neg he)))
            have hkn := txt_ne he
            clear hu HS2 he
            generalize cellK zs (probeV key n) = x at *
            generalize probeV key n = p at *
            go_wp2_with (first | (go_at_call 84; refine HP.out.mono ?_; rintro e w' ⟨rfl, rfl⟩) | (go_at_call 46; refine HKC.out.mono ?_; rintro e w' ⟨rfl, rfl⟩) | (go_at_call 58; refine HU.out.mono ?_; rintro e w2 ⟨rfl, hb2⟩))
            go_roundw
            case rel => exact ⟨n + 1, by omega, by go_num, HN.out, HB.out.trans (hb2.mono HB.out.size)⟩
            case measure => simp [intOf]; omega
    · have hge : decide ((n : Int) < 4) = false := by simp; omega
      have HF := Lib.hid (findV_none (fun m hm => HD.out m (by omega)))
      go_wp2
      go_ret3
      exact ⟨ret_find HF.out, HB.out⟩
set_option maxRecDepth 100000 in
theorem sFindKey_any (w : World) (v : Value) (zs : List Int) (key : ByteArray) (hz : Ints w v zs) (hs : key.size ≤ maxLen) :
    Calls Tryz.prog 9 #[v, .string key] w (Gives (.tuple #[.int .i64 (fkS zs key), .int .i64 (fkK zs key)]) w) := by
  have HC := Lib.hid (sOk_any w v zs hz)
  have HO := Lib.hid (sKeyOk_any w key hs)
  have HZ := Lib.hid hz
  obtain ⟨b, off, cap, rfl, _, _, _, _⟩ := hz
  cases hc : okC zs with
  | false =>
    have E1 := Lib.hid (show fkS zs key = -1 from if_neg (by rw [hc]; simp))
    have E2 := Lib.hid (show fkK zs key = 0 from if_neg (by rw [hc]; simp))
    rw [hc] at HC
    clear hc
    go_enter Tryz.func9, Tryz.ntmps9
    go_wp2_with (go_at_call 36; refine HC.out.mono ?_; rintro e w' ⟨rfl, rfl⟩)
    go_ret2
    exact ⟨ret_ii E1.out.symm E2.out.symm, Below.refl _ _⟩
  | true =>
    cases hk : keyOkV key with
    | false =>
      have E1 := Lib.hid (show fkS zs key = -1 from if_neg (by rw [hk]; simp))
      have E2 := Lib.hid (show fkK zs key = 0 from if_neg (by rw [hk]; simp))
      rw [hc] at HC
      rw [hk] at HO
      clear hc hk
      go_enter Tryz.func9, Tryz.ntmps9
      go_wp2_with (first | (go_at_call 36; refine HC.out.mono ?_; rintro e w' ⟨rfl, rfl⟩) | (go_at_call 38; refine HO.out.mono ?_; rintro e w' ⟨rfl, rfl⟩))
      go_ret2
      exact ⟨ret_ii E1.out.symm E2.out.symm, Below.refl _ _⟩
    | true =>
      have E1 := Lib.hid (show fkS zs key = (findV zs key).1 from if_pos ⟨hc, hk⟩)
      have E2 := Lib.hid (show fkK zs key = (findV zs key).2.1 from if_pos ⟨hc, hk⟩)
      have HF := Lib.hid (sFind_any w _ zs key HZ.out hc hk)
      rw [hc] at HC
      rw [hk] at HO
      unfold find3 at HF
      generalize findV zs key = r at *
      clear hc hk
      go_enter Tryz.func9, Tryz.ntmps9
      go_wp2_with (first | (go_at_call 36; refine HC.out.mono ?_; rintro e w' ⟨rfl, rfl⟩) | (go_at_call 38; refine HO.out.mono ?_; rintro e w' ⟨rfl, rfl⟩) | (go_at_call 40; refine HF.out.mono ?_; rintro e w2 ⟨rfl, hb⟩))
      go_ret2
      exact ⟨ret_ii E1.out.symm E2.out.symm, hb⟩
end Go.Proofs.YtmglidfnolmcaaaGreatDoor
/-
  Rows of ints of the call's own: one that was just built, appending one; the law's helper that looks for a number in a row.
-/
namespace Go.Proofs.YtmglidfnolmcaaaGreatDoor
open Go.RowKit M
set_option linter.unusedVariables false
theorem OwnI.alloc {w : World} {base : Nat} {v : Value} {zs : List Int} (h : OwnI w base v zs) (o : Obj) : OwnI (w.alloc o) base v zs := ⟨World.ownsRow.alloc h.1 o, h.2⟩
theorem OwnI.base_le {w : World} {base : Nat} {v : Value} {zs : List Int} (h : OwnI w base v zs) : ∀ k, v.ownBlock = some k → base ≤ k := fun k hk => (World.ownsRow.lt h.1 k hk).1
/-- An empty row that was just built ([]int{}). -/
theorem OwnI.empty (w : World) (base : Nat) (hb : base ≤ w.heap.size) : OwnI (w.alloc (.cells #[] 3)) base (.slice (some ⟨w.heap.size, 0, none⟩) 0 0) [] :=
  ⟨World.ownsRow_lit w #[] 0 hb (Nat.zero_le _) rfl, _, _, rfl⟩
/-- append(v, x) onto an own row of ints, x being a number that lies alone in a new block. -/
theorem wpI_append (w : World) {ops : Array Oper} {rest : List Oper} {o : Oper} {a : Act} {Q : Exit → Act → World → Prop} (hgd : o.guard = none) (s x : Operand)
    (ho : o.op = .call { callee := .builtin .append, args := #[s, x], argTypes := #[24, 24] })
    (base : Nat) (v : Value) (l : List Int) (hown : OwnI w base v l) (hs : a.eval s = v)
    (c : Int) (hx : a.eval x = .slice (some ⟨w.heap.size, 0, none⟩) 1 1)
    (hlen : l.length + 1 ≤ 8796093022208) (hbase : base ≤ w.heap.size)
    (h : ∀ v' w', OwnI w' base v' (l ++ [c]) → (w.alloc (.cells #[.int .i64 c] 3)).grownBy w' v.ownBlock → wpList Tryz.prog ops Q rest (a.put o.dst v') w') : wpList Tryz.prog ops Q (o :: rest) a (w.alloc (.cells #[.int .i64 c] 3)) := by
  obtain ⟨i0, hi, hz0, hz1, hz2⟩ := info_parts info_int
  refine wpList_append_own (w.alloc (.cells #[.int .i64 c] 3)) hgd s x 24 ho base 3 i0 (.int .i64 0) 1 8 Tryz.underlying24 hi hz0 hz1 hz2 rfl (by decide) v l.length (l.map (Value.int .i64)) hs (hown.alloc _).1 ⟨w.heap.size, 0, none⟩ 1 1 [.int .i64 c] hx rfl ?_ (by intro u hu; simp at hu; subst hu; rfl) (by unfold maxLen; omega) (by omega) (by simp [go_sem]; omega) ?_
  · intro j u hu
    cases j with
    | zero => obtain rfl : Value.int .i64 c = u := by simpa using hu
              simp [go_sem]
    | succ j => simp at hu
  · intro v' w' h1 h2 _
    have h1' : w'.ownsRow base 3 1 v' (l.length + 1) ((l ++ [c]).map (Value.int .i64)) := by rw [List.map_append]; exact h1
    refine h v' w' (OwnI.of_row h1' (by simp) ?_) h2
    intro e
    subst e
    rcases h1'.2 with ⟨_, h0⟩ | ⟨g, cap, cur, e, _⟩
    · omega
    · cases e
theorem own_set {w w0 : World} {base g n cap : Nat} {zs : List Int} (h : OwnI w base (.slice (some ⟨g, 0, none⟩) n cap) zs) (j : Nat) (z : Int) (hb : Below base w0 w) (hg : base ≤ w.heap.size) :
    OwnI (w.setCell ⟨g, j, none⟩ (.int .i64 z)) base (.slice (some ⟨g, 0, none⟩) n cap) (zs.set j z) ∧ Below base w0 (w.setCell ⟨g, j, none⟩ (.int .i64 z)) := by
  have hs := h.set j z
  obtain ⟨g', e, h2, _⟩ := h.block
  cases e
  exact ⟨hs.1, hb.grown hs.2 hg (by intro k hk; cases hk; exact h2)⟩
end Go.Proofs.YtmglidfnolmcaaaGreatDoor
/-
  Chapter 8, the model's ClearBuf and BufClear: each answers what the plain words say. They turn nothing that was there.
-/
namespace Go.Proofs.YtmglidfnolmcaaaGreatDoor
open Go.RowKit M
set_option linter.unusedVariables false
set_option linter.unusedSimpArgs false
theorem bufOk_iff {b : Int} : bufOk b = true ↔ 0 ≤ b ∧ b ≤ 1 := by simp [bufOk]
theorem slotOk_iff {b : Int} : slotOk b = true ↔ 0 ≤ b ∧ b ≤ 3 := by simp [slotOk]
theorem bufOk_no {b : Int} (h : bufOk b = false) : ¬ (0 ≤ b ∧ b ≤ 1) := by simpa [bufOk] using h
theorem slotOk_no {b : Int} (h : slotOk b = false) : ¬ (0 ≤ b ∧ b ≤ 3) := by simpa [slotOk] using h
theorem okC_fit {zs : List Int} (h : okC zs = true) : Fit zs := by
  intro z hz
  simp only [okC, Bool.and_eq_true, List.all_eq_true] at h
  have := isW_iff.1 (h.2 z hz)
  omega
theorem clearT_zero (a : List Int) (b : Int) : clearT a b 0 = a := rfl
theorem clearT_succ (a : List Int) (b : Int) (n : Nat) : clearT a b (n + 1) = (clearT a b n).set (7 + b * 32 + n).toNat 0 := by
  unfold clearT; rw [List.range_succ, List.foldl_append]; rfl
theorem clearT_len (a : List Int) (b : Int) (n : Nat) : (clearT a b n).length = a.length := by
  induction n with
  | zero => rfl
  | succ n ih => rw [clearT_succ, List.length_set, ih]
theorem clearV_len (a : List Int) (b : Int) : (clearV a b).length = a.length := by unfold clearV; split; exact clearT_len _ _ _; rfl
theorem clearV_no {a : List Int} {b : Int} (h : ¬ (okC a = true ∧ bufOk b = true)) : clearV a b = a := if_neg h
set_option maxRecDepth 100000 in
set_option maxHeartbeats 4000000 in
theorem sClearBuf_any (w : World) (v : Value) (zs : List Int) (b : Int) (h : Ints w v zs) (hl : zs.length ≤ 1048576) : Calls Tryz.prog 112 #[v, .int .i64 b] w (MadeI w (clearV zs b)) := by
  have HCP := Lib.hid (copy_any w v zs h hl)
  have HOK := fun W h => Lib.hid (sOk_any W v zs h)
  have HIC := fun W => Lib.hid (sIn_any b W)
  have HZ := Lib.hid h
  obtain ⟨g0, off0, cap0, rfl, _, _, _, _⟩ := h
  by_cases hok : okC zs = true ∧ bufOk b = true
  case neg =>
    have HE := Lib.hid (clearV_no hok)
    cases hc : okC zs with
    | false =>
      rw [hc] at HOK
      clear hc hok
      go_enter Tryz.func112, Tryz.ntmps112
      go_wp2_with fail
      refine HCP.out.mono ?_
      rintro e w1 ⟨x, rfl, ho, hb⟩
      have HO := Lib.hid ho
      have HB := Lib.hid hb
      have HZ1 := Lib.hid (HZ.out.below hb)
      clear ho hb
      go_wp2_with ((go_at_call 36; (with_reducible refine Calls.mono (Hid.out (HOK _ HZ1.out)) ?_); rintro e w' ⟨rfl, rfl⟩))
      go_ret
      exact ⟨_, rfl, by rw [HE.out]; exact HO.out, HB.out⟩
    | true =>
      have hbn : ¬ (0 ≤ b ∧ b ≤ 1) := fun x => hok ⟨hc, bufOk_iff.2 x⟩
      rw [inV_no hbn] at HIC
      rw [hc] at HOK
      clear hc hok hbn
      go_enter Tryz.func112, Tryz.ntmps112
      go_wp2_with fail
      refine HCP.out.mono ?_
      rintro e w1 ⟨x, rfl, ho, hb⟩
      have HO := Lib.hid ho
      have HB := Lib.hid hb
      have HZ1 := Lib.hid (HZ.out.below hb)
      clear ho hb
      go_wp2_with (first | (go_at_call 36; (with_reducible refine Calls.mono (Hid.out (HOK _ HZ1.out)) ?_); rintro e w' ⟨rfl, rfl⟩) | (go_at_call 50; (with_reducible refine Calls.mono (Hid.out (HIC _)) ?_); rintro e w' ⟨rfl, rfl⟩))
      go_ret
      exact ⟨_, rfl, by rw [HE.out]; exact HO.out, HB.out⟩
  case pos =>
    have HE := Lib.hid (show clearV zs b = clearT zs b 32 from if_pos hok)
    obtain ⟨hc, hb⟩ := hok
    rw [bufOk_iff] at hb
    obtain ⟨b0, b1⟩ := hb
    have HL71 := Lib.hid (okC_len hc)
    rw [inV_yes ⟨b0, b1⟩] at HIC
    rw [hc] at HOK
    clear hc
    go_enter Tryz.func112, Tryz.ntmps112
    go_wp2_with fail
    refine HCP.out.mono ?_
    rintro e w1 ⟨x, rfl, ho, hb⟩
    have HO := Lib.hid ho
    have HB := Lib.hid hb
    have HZ1 := Lib.hid (HZ.out.below hb)
    clear ho hb
    have i0 : decide (1 + b < 0) = false := by rw [decide_eq_false]; omega
    go_wp2_with (first | (go_at_call 36; (with_reducible refine Calls.mono (Hid.out (HOK _ HZ1.out)) ?_); rintro e w' ⟨rfl, rfl⟩) | (go_at_call 50; (with_reducible refine Calls.mono (Hid.out (HIC _)) ?_); rintro e w' ⟨rfl, rfl⟩))
    have HL := Lib.hid (fun n => clearT_len zs b n)
    obtain ⟨g, cap, rfl⟩ := HO.out.2
    rw [HL71.out] at HO ⊢
    go_loopw [6] (fun i wr => ∃ k : Nat, k ≤ 32 ∧ i = .int .i64 k ∧ OwnI wr w.heap.size (.slice (some ⟨g, 0, none⟩) 71 cap) (clearT zs b k) ∧ Below w.heap.size w wr) (fun i _ => 32 - (intOf i).toNat)
    case atStart => exact ⟨0, Nat.zero_le _, rfl, HO.out, HB.out⟩
    case round =>
      obtain ⟨k, hk, rfl, ho, hb⟩ := hrel
      clear HO HB HZ1
      by_cases hlt : k < 32
      · have d1 : (k : Int) < 32 := by omega
        obtain ⟨m, hm⟩ := Int.eq_ofNat_of_zero_le (show 0 ≤ 7 + b * 32 + (k : Int) by omega)
        have hm71 : m < 71 := by omega
        have HS := Lib.hid (show clearT zs b (k + 1) = (clearT zs b k).set m 0 by rw [clearT_succ, hm]; rfl)
        have hfz := ho.frz m
        obtain ⟨z, hzc⟩ : ∃ z, wr.cell? ⟨g, m, none⟩ = some z := ⟨_, ho.cell m hm71⟩
        have HO := Lib.hid (own_set ho m 0 hb hb.size)
        clear ho hb
        have hwm : IntKind.i64.wrap (7 + b * 32) = 7 + b * 32 := by rw [IntKind.wrap_i64]; omega
        have i1 : (m : Int) < 71 := by omega
        go_wp2_with fail
        go_roundw
        case rel => exact ⟨k + 1, by omega, by go_num, by rw [HS.out]; exact HO.out.1, HO.out.2⟩
        case measure => simp [intOf]; omega
      · have hk32 : k = 32 := by omega
        subst hk32
        have HO := Lib.hid ho
        have HB := Lib.hid hb
        clear ho hb
        go_wp2_with fail
        go_ret
        exact ⟨_, rfl, by rw [HE.out]; exact HO.out, HB.out⟩
theorem list_getD_ext {x y : List Int} (hl : x.length = y.length) (h : ∀ j, j < x.length → x.getD j 0 = y.getD j 0) : x = y := by
  apply List.ext_getElem hl
  intro j h1 h2
  have := h j h1
  rw [List.getD_eq_getElem?_getD, List.getD_eq_getElem?_getD, List.getElem?_eq_getElem h1, List.getElem?_eq_getElem h2] at this
  exact this
theorem getD_setZ (zs : List Int) (i j : Nat) (h : i ≠ j) (z : Int) : (zs.set i z).getD j 0 = zs.getD j 0 := by
  rw [List.getD_eq_getElem?_getD, List.getElem?_set_ne h, List.getD_eq_getElem?_getD]
theorem getD_setZ0 (zs : List Int) (i : Nat) : (zs.set i 0).getD i 0 = 0 := by
  rw [List.getD_eq_getElem?_getD]
  by_cases h : i < zs.length
  · rw [List.getElem?_set_self h]; rfl
  · rw [List.getElem?_eq_none (by rw [List.length_set]; omega)]; rfl
/-- What clearing the first n cells of a buffer leaves. -/
theorem clearT_get {a : List Int} {b : Int} (hb : 0 ≤ b ∧ b ≤ 1) (n : Nat) (hn : n ≤ 32) (j : Nat) :
    (clearT a b n).getD j 0 = if 7 + b * 32 ≤ (j : Int) ∧ (j : Int) < 7 + b * 32 + n then 0 else a.getD j 0 := by
  induction n with
  | zero => rw [clearT_zero, if_neg (by omega)]
  | succ n ih =>
    rw [clearT_succ]
    by_cases e : (7 + b * 32 + (n : Int)).toNat = j
    · rw [← e, getD_setZ0, if_pos (by omega)]
    · rw [getD_setZ _ _ _ e, ih (by omega)]
      by_cases hin : 7 + b * 32 ≤ (j : Int) ∧ (j : Int) < 7 + b * 32 + (n : Int)
      · rw [if_pos hin, if_pos (by omega)]
      · rw [if_neg hin, if_neg (by omega)]
theorem clearV_yes {a : List Int} {b : Int} (h : okC a = true) (hb : 0 ≤ b ∧ b ≤ 1) : clearV a b = clearT a b 32 := if_pos ⟨h, bufOk_iff.2 hb⟩
end Go.Proofs.YtmglidfnolmcaaaGreatDoor
/-
  Is x an index below n? The program's test, as a contract: it returns the outcome and leaves the world alone.
-/
namespace Go.Proofs.YtmglidfnolmcaaaGreatDoor
open Go.RowKit M
set_option linter.unusedVariables false
theorem isIdx_yes (x n : Int) (w : World) (h1 : 0 ≤ x) (h2 : x < n) :
    Calls Tryz.prog 25 #[.int .i64 x, .int .i64 n] w fun e w' => e = .returned (.bool true) ∧ w = w' := by
  go_enter Tryz.func25, Tryz.ntmps25
  go_wp2
  go_ret
  exact ⟨rfl, rfl⟩
theorem isIdx_no (x n : Int) (w : World) (h : x < 0 ∨ n ≤ x) :
    Calls Tryz.prog 25 #[.int .i64 x, .int .i64 n] w fun e w' => e = .returned (.bool false) ∧ w = w' := by
  by_cases h1 : 0 ≤ x
  · have h2 : decide (x < n) = false := by simp; omega
    go_enter Tryz.func25, Tryz.ntmps25
    go_wp2
    go_ret
    exact ⟨rfl, rfl⟩
  · go_enter Tryz.func25, Tryz.ntmps25
    go_wp2
    go_ret
    exact ⟨rfl, rfl⟩
end Go.Proofs.YtmglidfnolmcaaaGreatDoor
/-
  Chapter 3, the program's: each function of a cell's number answers what the plain words say, and leaves the world alone.
-/
namespace Go.Proofs.YtmglidfnolmcaaaGreatDoor
open Go.RowKit M
set_option linter.unusedVariables false
theorem iKey_any (x : Int) (w : World) : Calls Tryz.prog 43 #[.int .i64 x] w (Same w (.int .i64 (keyV x))) := by
  by_cases h : 0 ≤ x ∧ x ≤ 3
  · have E := Lib.hid (keyV_yes h)
    obtain ⟨h0, h1⟩ := h
    go_enter Tryz.func43, Tryz.ntmps43
    go_wp2_with (go_at_call 25; first | (refine (isIdx_yes _ _ _ (by omega) (by omega)).mono ?_; rintro e w' ⟨rfl, rfl⟩) | (refine (isIdx_no _ _ _ (by omega)).mono ?_; rintro e w' ⟨rfl, rfl⟩))
    go_ret
    exact ⟨ret_i (by rw [E.out]), rfl⟩
  · have E := Lib.hid (keyV_no h)
    go_enter Tryz.func43, Tryz.ntmps43
    go_wp2_with (go_at_call 25; first | (refine (isIdx_yes _ _ _ (by omega) (by omega)).mono ?_; rintro e w' ⟨rfl, rfl⟩) | (refine (isIdx_no _ _ _ (by omega)).mono ?_; rintro e w' ⟨rfl, rfl⟩))
    go_ret
    exact ⟨ret_i (by rw [E.out]), rfl⟩
theorem iBase_any (b s : Int) (w : World) : Calls Tryz.prog 41 #[.int .i64 b, .int .i64 s] w (Same w (.int .i64 (cellV b s 0))) := by
  by_cases h : 0 ≤ b ∧ b ≤ 1
  · by_cases h' : 0 ≤ s ∧ s ≤ 3
    · have E := Lib.hid (cellV_yes (k := 0) h h')
      obtain ⟨h0, h1⟩ := h
      obtain ⟨h2, h3⟩ := h'
      go_enter Tryz.func41, Tryz.ntmps41
      go_wp2_with (go_at_call 25; first | (refine (isIdx_yes _ _ _ (by omega) (by omega)).mono ?_; rintro e w' ⟨rfl, rfl⟩) | (refine (isIdx_no _ _ _ (by omega)).mono ?_; rintro e w' ⟨rfl, rfl⟩))
      go_ret
      exact ⟨ret_i (by rw [E.out, Int.add_zero]), rfl⟩
    · have E := Lib.hid (cellV_noS (b := b) (k := 0) h')
      obtain ⟨h0, h1⟩ := h
      go_enter Tryz.func41, Tryz.ntmps41
      go_wp2_with (go_at_call 25; first | (refine (isIdx_yes _ _ _ (by omega) (by omega)).mono ?_; rintro e w' ⟨rfl, rfl⟩) | (refine (isIdx_no _ _ _ (by omega)).mono ?_; rintro e w' ⟨rfl, rfl⟩))
      go_ret
      exact ⟨ret_i (by rw [E.out]), rfl⟩
  · have E := Lib.hid (cellV_noB (s := s) (k := 0) h)
    go_enter Tryz.func41, Tryz.ntmps41
    go_wp2_with (go_at_call 25; first | (refine (isIdx_yes _ _ _ (by omega) (by omega)).mono ?_; rintro e w' ⟨rfl, rfl⟩) | (refine (isIdx_no _ _ _ (by omega)).mono ?_; rintro e w' ⟨rfl, rfl⟩))
    go_ret
    exact ⟨ret_i (by rw [E.out]), rfl⟩
theorem iCell_any (b s k : Int) (w : World) (k0 : 0 ≤ k) (k1 : k ≤ 7) : Calls Tryz.prog 68 #[.int .i64 b, .int .i64 s, .int .i64 k] w (Same w (.int .i64 (cellV b s k))) := by
  have H := Lib.hid (iBase_any b s w)
  by_cases h : (0 ≤ b ∧ b ≤ 1) ∧ (0 ≤ s ∧ s ≤ 3)
  · have E := Lib.hid (cellV_yes (k := k) h.1 h.2)
    rw [cellV_yes h.1 h.2] at H
    obtain ⟨⟨h0, h1⟩, h2, h3⟩ := h
    have t : decide (7 + b * 32 + s * 8 + 0 < 0) = false := by simp; omega
    go_enter Tryz.func68, Tryz.ntmps68
    go_wp2_with (go_at_call 41; refine H.out.mono ?_; rintro e w' ⟨rfl, rfl⟩)
    go_ret
    exact ⟨ret_i (by rw [E.out]), rfl⟩
  · have e0 : ∀ k, cellV b s k = -1 := fun k => if_neg h
    have E := Lib.hid (e0 k)
    rw [e0] at H
    clear e0
    go_enter Tryz.func68, Tryz.ntmps68
    go_wp2_with (go_at_call 41; refine H.out.mono ?_; rintro e w' ⟨rfl, rfl⟩)
    go_ret
    exact ⟨ret_i (by rw [E.out]), rfl⟩
theorem iStamp_any (b s : Int) (w : World) : Calls Tryz.prog 69 #[.int .i64 b, .int .i64 s] w (Same w (.int .i64 (cellV b s 2))) := by
  have H := Lib.hid (iCell_any b s 2 w (by decide) (by decide))
  go_enter Tryz.func69, Tryz.ntmps69
  go_wp2_with (go_at_call 68; refine H.out.mono ?_; rintro e w' ⟨rfl, rfl⟩)
  go_ret
  exact ⟨rfl, rfl⟩
theorem iGauge_any (b s : Int) (w : World) : Calls Tryz.prog 70 #[.int .i64 b, .int .i64 s] w (Same w (.int .i64 (cellV b s 3))) := by
  have H := Lib.hid (iCell_any b s 3 w (by decide) (by decide))
  go_enter Tryz.func70, Tryz.ntmps70
  go_wp2_with (go_at_call 68; refine H.out.mono ?_; rintro e w' ⟨rfl, rfl⟩)
  go_ret
  exact ⟨rfl, rfl⟩
theorem iTicket_any (b s : Int) (w : World) : Calls Tryz.prog 73 #[.int .i64 b, .int .i64 s] w (Same w (.int .i64 (cellV b s 4))) := by
  have H := Lib.hid (iCell_any b s 4 w (by decide) (by decide))
  go_enter Tryz.func73, Tryz.ntmps73
  go_wp2_with (go_at_call 68; refine H.out.mono ?_; rintro e w' ⟨rfl, rfl⟩)
  go_ret
  exact ⟨rfl, rfl⟩
theorem iStripe_any (b s k : Int) (w : World) : Calls Tryz.prog 32 #[.int .i64 b, .int .i64 s, .int .i64 k] w (Same w (.int .i64 (partV b s 2 0 k))) := by
  by_cases h : 0 ≤ k ∧ k < 2
  · have E := Lib.hid (partV_yes (b := b) (s := s) (at_ := 0) h)
    obtain ⟨h0, h1⟩ := h
    have H := Lib.hid (iCell_any b s (k) w (by omega) (by omega))
    go_enter Tryz.func32, Tryz.ntmps32
    go_wp2_with (first | (go_at_call 25; first | (refine (isIdx_yes _ _ _ (by omega) (by omega)).mono ?_; rintro e w' ⟨rfl, rfl⟩) | (refine (isIdx_no _ _ _ (by omega)).mono ?_; rintro e w' ⟨rfl, rfl⟩)) | (go_at_call 68; refine H.out.mono ?_; rintro e w' ⟨rfl, rfl⟩))
    go_ret
    exact ⟨ret_i (by rw [E.out]; rw [Int.zero_add]), rfl⟩
  · have E := Lib.hid (partV_no (b := b) (s := s) (at_ := 0) h)
    go_enter Tryz.func32, Tryz.ntmps32
    go_wp2_with (go_at_call 25; first | (refine (isIdx_yes _ _ _ (by omega) (by omega)).mono ?_; rintro e w' ⟨rfl, rfl⟩) | (refine (isIdx_no _ _ _ (by omega)).mono ?_; rintro e w' ⟨rfl, rfl⟩))
    go_ret
    exact ⟨ret_i (by rw [E.out]), rfl⟩
theorem iRing_any (b s k : Int) (w : World) : Calls Tryz.prog 74 #[.int .i64 b, .int .i64 s, .int .i64 k] w (Same w (.int .i64 (partV b s 3 5 k))) := by
  by_cases h : 0 ≤ k ∧ k < 3
  · have E := Lib.hid (partV_yes (b := b) (s := s) (at_ := 5) h)
    obtain ⟨h0, h1⟩ := h
    have H := Lib.hid (iCell_any b s (5 + k) w (by omega) (by omega))
    go_enter Tryz.func74, Tryz.ntmps74
    go_wp2_with (first | (go_at_call 25; first | (refine (isIdx_yes _ _ _ (by omega) (by omega)).mono ?_; rintro e w' ⟨rfl, rfl⟩) | (refine (isIdx_no _ _ _ (by omega)).mono ?_; rintro e w' ⟨rfl, rfl⟩)) | (go_at_call 68; refine H.out.mono ?_; rintro e w' ⟨rfl, rfl⟩))
    go_ret
    exact ⟨ret_i (by rw [E.out]), rfl⟩
  · have E := Lib.hid (partV_no (b := b) (s := s) (at_ := 5) h)
    go_enter Tryz.func74, Tryz.ntmps74
    go_wp2_with (go_at_call 25; first | (refine (isIdx_yes _ _ _ (by omega) (by omega)).mono ?_; rintro e w' ⟨rfl, rfl⟩) | (refine (isIdx_no _ _ _ (by omega)).mono ?_; rintro e w' ⟨rfl, rfl⟩))
    go_ret
    exact ⟨ret_i (by rw [E.out]), rfl⟩
end Go.Proofs.YtmglidfnolmcaaaGreatDoor
/-
  What Go's library functions answer, at this program's numbers: contracts of the library, laid by its own tool, in plain words.
-/
namespace Go.Proofs
open Go.Shelf
def Tryz.lays231_ren : Go.Shelf.Ren := ⟨fun | 231 => 122 | n => n, fun | 9 => 9 | 5 => 5 | 3 => 3 | 4 => 4 | n => n, fun | n => n⟩
theorem Tryz.lays231 : Go.Proofs.Lays.n231 Tryz.prog Tryz.lays231_ren := {
  mixed := by kernel_rfl
  f231 := Tryz.func122.trans (congrArg some (by kernel_rfl))
  t3 := Tryz.underlying3
  a3 := Tryz.isAgg3
  z3 := Tryz.sizeOf3
  v3 := Tryz.zeroValue3
  t4 := Tryz.underlying4
  a4 := Tryz.isAgg4
  z4 := Tryz.sizeOf4
  v4 := Tryz.zeroValue4
  t5 := Tryz.underlying5
  a5 := Tryz.isAgg5
  z5 := Tryz.sizeOf5
  v5 := Tryz.zeroValue5
  t9 := Tryz.underlying9
  a9 := Tryz.isAgg9
  z9 := Tryz.sizeOf9
  v9 := Tryz.zeroValue9 }
open Go.RowKit in
/-- strings.trimLeftByte (no doc; what TrimLeft and Trim call at a cutset of one ASCII byte): the leading bytes that are c are cut off. The world is as it was. (LAID: no walk: one application.) -/
theorem Tryz.strings_trimLeftByte (s : ByteArray) (c : UInt8) (w : World) :
    Calls Tryz.prog 122 #[.string s, .int .u8 c.toNat] w fun e w' => e = .returned (.string ⟨(Lib.trimLeftB s.data.toList c).toArray⟩) ∧ w' = w := Any.strings_trimLeftByte Tryz.lays231 s c w
def Tryz.lays161_ren : Go.Shelf.Ren := ⟨fun | 161 => 114 | 231 => 122 | 227 => 123 | 233 => 124 | 235 => 125 | 228 => 132 | 197 => 133 | 151 => 134 | 260 => 136 | 152 => 137 | 137 => 139 | 119 => 140 | 224 => 141 | 225 => 142 | 217 => 143 | 266 => 144 | n => n, fun | 9 => 9 | 4 => 4 | 3 => 3 | 5 => 5 | 117 => 113 | 116 => 112 | 0 => 0 | 124 => 116 | 105 => 120 | 21 => 21 | 119 => 124 | 46 => 94 | 139 => 127 | 138 => 126 | n => n, fun | 3 => 1 | 4 => 2 | n => n⟩
theorem Tryz.lays161 : Go.Proofs.Lays.n161 Tryz.prog Tryz.lays161_ren := {
  mixed := by kernel_rfl
  f119 := Tryz.func140.trans (congrArg some (by kernel_rfl))
  f137 := Tryz.func139.trans (congrArg some (by kernel_rfl))
  f151 := Tryz.func134.trans (congrArg some (by kernel_rfl))
  f152 := Tryz.func137.trans (congrArg some (by kernel_rfl))
  f161 := Tryz.func114.trans (congrArg some (by kernel_rfl))
  f197 := Tryz.func133.trans (congrArg some (by kernel_rfl))
  f217 := Tryz.func143.trans (congrArg some (by kernel_rfl))
  f224 := Tryz.func141.trans (congrArg some (by kernel_rfl))
  f225 := Tryz.func142.trans (congrArg some (by kernel_rfl))
  f227 := Tryz.func123.trans (congrArg some (by kernel_rfl))
  f228 := Tryz.func132.trans (congrArg some (by kernel_rfl))
  f231 := Tryz.func122.trans (congrArg some (by kernel_rfl))
  f233 := Tryz.func124.trans (congrArg some (by kernel_rfl))
  f235 := Tryz.func125.trans (congrArg some (by kernel_rfl))
  f260 := Tryz.func136.trans (congrArg some (by kernel_rfl))
  f266 := Tryz.func144.trans (congrArg some (by kernel_rfl))
  t0 := Tryz.underlying0
  a0 := Tryz.isAgg0
  z0 := Tryz.sizeOf0
  v0 := Tryz.zeroValue0
  t3 := Tryz.underlying3
  a3 := Tryz.isAgg3
  z3 := Tryz.sizeOf3
  v3 := Tryz.zeroValue3
  t4 := Tryz.underlying4
  a4 := Tryz.isAgg4
  z4 := Tryz.sizeOf4
  v4 := Tryz.zeroValue4
  t5 := Tryz.underlying5
  a5 := Tryz.isAgg5
  z5 := Tryz.sizeOf5
  v5 := Tryz.zeroValue5
  t9 := Tryz.underlying9
  a9 := Tryz.isAgg9
  z9 := Tryz.sizeOf9
  v9 := Tryz.zeroValue9
  t21 := Tryz.underlying21
  a21 := Tryz.isAgg21
  z21 := Tryz.sizeOf21
  v21 := Tryz.zeroValue21
  t46 := Tryz.underlying94
  a46 := Tryz.isAgg94
  z46 := Tryz.sizeOf94
  v46 := Tryz.zeroValue94
  t105 := Tryz.underlying120
  a105 := Tryz.isAgg120
  z105 := Tryz.sizeOf120
  v105 := Tryz.zeroValue120
  t116 := Tryz.underlying112
  a116 := Tryz.isAgg112
  z116 := Tryz.sizeOf112
  t117 := Tryz.underlying113
  a117 := Tryz.isAgg113
  z117 := Tryz.sizeOf113
  v117 := Tryz.zeroValue113
  t119 := Tryz.underlying124
  a119 := Tryz.isAgg124
  z119 := Tryz.sizeOf124
  t124 := Tryz.underlying116
  a124 := Tryz.isAgg116
  z124 := Tryz.sizeOf116
  v124 := Tryz.zeroValue116
  t138 := Tryz.underlying126
  a138 := Tryz.isAgg126
  z138 := Tryz.sizeOf126
  v138 := Tryz.zeroValue126
  t139 := Tryz.underlying127
  a139 := Tryz.isAgg127
  z139 := Tryz.sizeOf127
  v139 := Tryz.zeroValue127
  g3 := by kernel_rfl
  g4 := by kernel_rfl }
open Go.RowKit in
/-- strings.TrimLeft: "TrimLeft returns a slice of the string s with all leading Unicode code points contained in cutset removed.": AT A cutset OF ONE ASCII BYTE. The world is as it was. (LAID: no walk: one application.) -/
theorem Tryz.strings_TrimLeft_one (s : ByteArray) (c : UInt8) (hc : c.toNat < 128) (w : World) :
    Calls Tryz.prog 114 #[.string s, .string ⟨#[c]⟩] w fun e w' => e = .returned (.string ⟨(Lib.trimLeftB s.data.toList c).toArray⟩) ∧ w' = w := Any.strings_TrimLeft_one Tryz.lays161 s c hc w
def Tryz.lays119_ren : Go.Shelf.Ren := ⟨fun | 119 => 140 | n => n, fun | 21 => 21 | 4 => 4 | n => n, fun | n => n⟩
theorem Tryz.lays119 : Go.Proofs.Lays.n119 Tryz.prog Tryz.lays119_ren := {
  mixed := by kernel_rfl
  f119 := Tryz.func140.trans (congrArg some (by kernel_rfl))
  t4 := Tryz.underlying4
  a4 := Tryz.isAgg4
  z4 := Tryz.sizeOf4
  v4 := Tryz.zeroValue4
  t21 := Tryz.underlying21
  a21 := Tryz.isAgg21
  z21 := Tryz.sizeOf21
  v21 := Tryz.zeroValue21 }
/-- utf8.ValidRune: "ValidRune reports whether r can be legally encoded as UTF-8. Code points that are out of range or a surrogate half are illegal.": IT RETURNS 'Lib.validRune r'; the world is as it was. (LAID: no walk: one application.) -/
theorem Tryz.utf8_ValidRune (r : Int) (w : World) :
    Calls Tryz.prog 140 #[.int .i32 r] w fun e w' => e = .returned (.bool (Lib.validRune r)) ∧ w' = w := Any.utf8_ValidRune Tryz.lays119 r w
def Tryz.lays213_ren : Go.Shelf.Ren := ⟨fun | 213 => 120 | 265 => 130 | n => n, fun | 9 => 9 | 3 => 3 | n => n, fun | n => n⟩
theorem Tryz.lays213 : Go.Proofs.Lays.n213 Tryz.prog Tryz.lays213_ren := {
  mixed := by kernel_rfl
  f213 := Tryz.func120.trans (congrArg some (by kernel_rfl))
  f265 := Tryz.func130.trans (congrArg some (by kernel_rfl))
  t3 := Tryz.underlying3
  a3 := Tryz.isAgg3
  z3 := Tryz.sizeOf3
  v3 := Tryz.zeroValue3
  t9 := Tryz.underlying9
  a9 := Tryz.isAgg9
  z9 := Tryz.sizeOf9
  v9 := Tryz.zeroValue9 }
open Go.RowKit in
/-- internal/bytealg.CompareString (what strings.Compare calls): IT RETURNS 'Lib.compareBytes a b'; the world is as it was. (LAID: no walk: one application.) -/
theorem Tryz.bytealg_CompareString (a b : ByteArray) (w : World) :
    Calls Tryz.prog 120 #[.string a, .string b] w fun e w' => e = .returned (.int .i64 (Lib.compareBytes a.data.toList b.data.toList)) ∧ w' = w := Any.bytealg_CompareString Tryz.lays213 a b w
def Tryz.lays106_ren : Go.Shelf.Ren := ⟨fun | 106 => 108 | 213 => 120 | 265 => 130 | n => n, fun | 9 => 9 | 3 => 3 | n => n, fun | n => n⟩
theorem Tryz.lays106 : Go.Proofs.Lays.n106 Tryz.prog Tryz.lays106_ren := {
  mixed := by kernel_rfl
  f106 := Tryz.func108.trans (congrArg some (by kernel_rfl))
  f213 := Tryz.func120.trans (congrArg some (by kernel_rfl))
  f265 := Tryz.func130.trans (congrArg some (by kernel_rfl))
  t3 := Tryz.underlying3
  a3 := Tryz.isAgg3
  z3 := Tryz.sizeOf3
  v3 := Tryz.zeroValue3
  t9 := Tryz.underlying9
  a9 := Tryz.isAgg9
  z9 := Tryz.sizeOf9
  v9 := Tryz.zeroValue9 }
open Go.RowKit in
/-- strings.Compare: "Compare returns an integer comparing two strings lexicographically. The result will be 0 if a == b, -1 if a < b, and +1 if a > b.": IT RETURNS 'Lib.compareBytes a b'; the world is as it was. (LAID: no walk: one application.) -/
theorem Tryz.strings_Compare (a b : ByteArray) (w : World) :
    Calls Tryz.prog 108 #[.string a, .string b] w fun e w' => e = .returned (.int .i64 (Lib.compareBytes a.data.toList b.data.toList)) ∧ w' = w := Any.strings_Compare Tryz.lays106 a b w
def Tryz.lays137_ren : Go.Shelf.Ren := ⟨fun | 137 => 139 | 217 => 143 | 266 => 144 | n => n, fun | 9 => 9 | 5 => 5 | 3 => 3 | n => n, fun | n => n⟩
theorem Tryz.lays137 : Go.Proofs.Lays.n137 Tryz.prog Tryz.lays137_ren := {
  mixed := by kernel_rfl
  f137 := Tryz.func139.trans (congrArg some (by kernel_rfl))
  f217 := Tryz.func143.trans (congrArg some (by kernel_rfl))
  f266 := Tryz.func144.trans (congrArg some (by kernel_rfl))
  t3 := Tryz.underlying3
  a3 := Tryz.isAgg3
  z3 := Tryz.sizeOf3
  v3 := Tryz.zeroValue3
  t5 := Tryz.underlying5
  a5 := Tryz.isAgg5
  z5 := Tryz.sizeOf5
  v5 := Tryz.zeroValue5
  t9 := Tryz.underlying9
  a9 := Tryz.isAgg9
  z9 := Tryz.sizeOf9
  v9 := Tryz.zeroValue9 }
open Go.RowKit in
/-- strings.IndexByte: "IndexByte returns the index of the first instance of c in s, or -1 if c is not present in s.": IT RETURNS 'Lib.indexByte s c'; the world is as it was. (LAID: no walk: one application.) -/
theorem Tryz.strings_IndexByte (s : ByteArray) (c : Int) (w : World) :
    Calls Tryz.prog 139 #[.string s, .int .u8 c] w fun e w' => e = .returned (.int .i64 (Lib.indexByte s.data.toList c.toNat.toUInt8)) ∧ w' = w := Any.strings_IndexByte Tryz.lays137 s c w
def Tryz.lays217_ren : Go.Shelf.Ren := ⟨fun | 217 => 143 | 266 => 144 | n => n, fun | 9 => 9 | 5 => 5 | 3 => 3 | n => n, fun | n => n⟩
theorem Tryz.lays217 : Go.Proofs.Lays.n217 Tryz.prog Tryz.lays217_ren := {
  mixed := by kernel_rfl
  f217 := Tryz.func143.trans (congrArg some (by kernel_rfl))
  f266 := Tryz.func144.trans (congrArg some (by kernel_rfl))
  t3 := Tryz.underlying3
  a3 := Tryz.isAgg3
  z3 := Tryz.sizeOf3
  v3 := Tryz.zeroValue3
  t5 := Tryz.underlying5
  a5 := Tryz.isAgg5
  z5 := Tryz.sizeOf5
  v5 := Tryz.zeroValue5
  t9 := Tryz.underlying9
  a9 := Tryz.isAgg9
  z9 := Tryz.sizeOf9
  v9 := Tryz.zeroValue9 }
open Go.RowKit Go.Lib in
/-- internal/stringslite.IndexByte (what strings.IndexByte calls): IT RETURNS 'Lib.indexByte s c'; the world is as it was. (LAID: no walk: one application.) -/
theorem Tryz.stringslite_IndexByte (s : ByteArray) (c : Int) (w : World) :
    Calls Tryz.prog 143 #[.string s, .int .u8 c] w fun e w' => e = .returned (.int .i64 (Lib.indexByte s.data.toList c.toNat.toUInt8)) ∧ w' = w := Any.stringslite_IndexByte Tryz.lays217 s c w
def Tryz.lays224_ren : Go.Shelf.Ren := ⟨fun | 224 => 141 | n => n, fun | 3 => 3 | n => n, fun | n => n⟩
theorem Tryz.lays224 : Go.Proofs.Lays.n224 Tryz.prog Tryz.lays224_ren := {
  mixed := by kernel_rfl
  f224 := Tryz.func141.trans (congrArg some (by kernel_rfl))
  t3 := Tryz.underlying3
  a3 := Tryz.isAgg3
  z3 := Tryz.sizeOf3
  v3 := Tryz.zeroValue3 }
open Go.RowKit Go.Lib in
/-- internal/bytealg.Cutover: "Cutover reports the number of failures of IndexByte we should tolerate before switching over to Index. n is the number of bytes processed so far.": on amd64: (n + 16) / 8. (LAID: no walk: one application.) -/
theorem Tryz.bytealg_Cutover (n : Int) (h0 : 0 ≤ n) (h1 : n < 4611686018427387904) (w : World) :
    Calls Tryz.prog 141 #[.int .i64 n] w fun e w' => e = .returned (.int .i64 ((n + 16) / 8)) ∧ w' = w := Any.bytealg_Cutover Tryz.lays224 n h0 h1 w
def Tryz.lays152_ren : Go.Shelf.Ren := ⟨fun | 152 => 137 | 137 => 139 | 119 => 140 | 224 => 141 | 225 => 142 | 217 => 143 | 266 => 144 | n => n, fun | 9 => 9 | 21 => 21 | 3 => 3 | 4 => 4 | 5 => 5 | 0 => 0 | 46 => 94 | n => n, fun | n => n⟩
theorem Tryz.lays152 : Go.Proofs.Lays.n152 Tryz.prog Tryz.lays152_ren := {
  mixed := by kernel_rfl
  f119 := Tryz.func140.trans (congrArg some (by kernel_rfl))
  f137 := Tryz.func139.trans (congrArg some (by kernel_rfl))
  f152 := Tryz.func137.trans (congrArg some (by kernel_rfl))
  f217 := Tryz.func143.trans (congrArg some (by kernel_rfl))
  f224 := Tryz.func141.trans (congrArg some (by kernel_rfl))
  f225 := Tryz.func142.trans (congrArg some (by kernel_rfl))
  f266 := Tryz.func144.trans (congrArg some (by kernel_rfl))
  t0 := Tryz.underlying0
  a0 := Tryz.isAgg0
  z0 := Tryz.sizeOf0
  v0 := Tryz.zeroValue0
  t3 := Tryz.underlying3
  a3 := Tryz.isAgg3
  z3 := Tryz.sizeOf3
  v3 := Tryz.zeroValue3
  t4 := Tryz.underlying4
  a4 := Tryz.isAgg4
  z4 := Tryz.sizeOf4
  v4 := Tryz.zeroValue4
  t5 := Tryz.underlying5
  a5 := Tryz.isAgg5
  z5 := Tryz.sizeOf5
  v5 := Tryz.zeroValue5
  t9 := Tryz.underlying9
  a9 := Tryz.isAgg9
  z9 := Tryz.sizeOf9
  v9 := Tryz.zeroValue9
  t21 := Tryz.underlying21
  a21 := Tryz.isAgg21
  z21 := Tryz.sizeOf21
  v21 := Tryz.zeroValue21
  t46 := Tryz.underlying94
  a46 := Tryz.isAgg94
  z46 := Tryz.sizeOf94
  v46 := Tryz.zeroValue94 }
open Go.RowKit Go.Lib in
theorem Tryz.strings_IndexRune_ascii (s : ByteArray) (r : Int) (w : World) (h0 : 0 ≤ r) (h1 : r < 128) :
    Calls Tryz.prog 137 #[.string s, .int .i32 r] w fun e w' => e = .returned (.int .i64 (Lib.indexByte s.data.toList r.toNat.toUInt8)) ∧ w' = w := Any.strings_IndexRune_ascii Tryz.lays152 s r w h0 h1
def Tryz.lays151_ren : Go.Shelf.Ren := ⟨fun | 151 => 134 | 152 => 137 | 137 => 139 | 119 => 140 | 224 => 141 | 225 => 142 | 217 => 143 | 266 => 144 | n => n, fun | 9 => 9 | 21 => 21 | 4 => 4 | 3 => 3 | 5 => 5 | 0 => 0 | 46 => 94 | n => n, fun | n => n⟩
theorem Tryz.lays151 : Go.Proofs.Lays.n151 Tryz.prog Tryz.lays151_ren := {
  mixed := by kernel_rfl
  f119 := Tryz.func140.trans (congrArg some (by kernel_rfl))
  f137 := Tryz.func139.trans (congrArg some (by kernel_rfl))
  f151 := Tryz.func134.trans (congrArg some (by kernel_rfl))
  f152 := Tryz.func137.trans (congrArg some (by kernel_rfl))
  f217 := Tryz.func143.trans (congrArg some (by kernel_rfl))
  f224 := Tryz.func141.trans (congrArg some (by kernel_rfl))
  f225 := Tryz.func142.trans (congrArg some (by kernel_rfl))
  f266 := Tryz.func144.trans (congrArg some (by kernel_rfl))
  t0 := Tryz.underlying0
  a0 := Tryz.isAgg0
  z0 := Tryz.sizeOf0
  v0 := Tryz.zeroValue0
  t3 := Tryz.underlying3
  a3 := Tryz.isAgg3
  z3 := Tryz.sizeOf3
  v3 := Tryz.zeroValue3
  t4 := Tryz.underlying4
  a4 := Tryz.isAgg4
  z4 := Tryz.sizeOf4
  v4 := Tryz.zeroValue4
  t5 := Tryz.underlying5
  a5 := Tryz.isAgg5
  z5 := Tryz.sizeOf5
  v5 := Tryz.zeroValue5
  t9 := Tryz.underlying9
  a9 := Tryz.isAgg9
  z9 := Tryz.sizeOf9
  v9 := Tryz.zeroValue9
  t21 := Tryz.underlying21
  a21 := Tryz.isAgg21
  z21 := Tryz.sizeOf21
  v21 := Tryz.zeroValue21
  t46 := Tryz.underlying94
  a46 := Tryz.isAgg94
  z46 := Tryz.sizeOf94
  v46 := Tryz.zeroValue94 }
open Go.RowKit Go.Lib in
theorem Tryz.strings_ContainsRune_ascii (s : ByteArray) (r : Int) (w : World) (h0 : 0 ≤ r) (h1 : r < 128) :
    Calls Tryz.prog 134 #[.string s, .int .i32 r] w fun e w' => e = .returned (.bool (decide (0 ≤ Lib.indexByte s.data.toList r.toNat.toUInt8))) ∧ w' = w := Any.strings_ContainsRune_ascii Tryz.lays151 s r w h0 h1
def Tryz.lays227_ren : Go.Shelf.Ren := ⟨fun | 227 => 123 | n => n, fun | 9 => 9 | 116 => 112 | 4 => 4 | 0 => 0 | 3 => 3 | 5 => 5 | n => n, fun | n => n⟩
theorem Tryz.lays227 : Go.Proofs.Lays.n227 Tryz.prog Tryz.lays227_ren := {
  mixed := by kernel_rfl
  f227 := Tryz.func123.trans (congrArg some (by kernel_rfl))
  t0 := Tryz.underlying0
  a0 := Tryz.isAgg0
  z0 := Tryz.sizeOf0
  v0 := Tryz.zeroValue0
  t3 := Tryz.underlying3
  a3 := Tryz.isAgg3
  z3 := Tryz.sizeOf3
  v3 := Tryz.zeroValue3
  t4 := Tryz.underlying4
  a4 := Tryz.isAgg4
  z4 := Tryz.sizeOf4
  v4 := Tryz.zeroValue4
  t5 := Tryz.underlying5
  a5 := Tryz.isAgg5
  z5 := Tryz.sizeOf5
  v5 := Tryz.zeroValue5
  t9 := Tryz.underlying9
  a9 := Tryz.isAgg9
  z9 := Tryz.sizeOf9
  v9 := Tryz.zeroValue9
  t116 := Tryz.underlying112
  a116 := Tryz.isAgg112
  z116 := Tryz.sizeOf112 }
open Go.RowKit Go.Lib in
theorem Tryz.strings_makeASCIISet (hv116 : ∀ w, (zeroValue 112).run Tryz.prog w = .ok (.agg (Array.replicate 256 (.bool false))) w) (chars : ByteArray) (w : World) (hs : chars.size < 4294967281) (hascii : ∀ (j : Nat) b, chars.data.toList[j]? = some b → b.toNat < 128) :
    Calls Tryz.prog 123 #[.string chars] w fun e w' => e = .returned (.tuple #[.agg (Lib.setCells chars.data.toList), .bool true]) ∧ w' = w.alloc (.cells (Lib.setCells chars.data.toList) 112) := Any.strings_makeASCIISet Tryz.lays227 hv116 (by kernel_rfl) chars w hs hascii
def Tryz.lays228_ren : Go.Shelf.Ren := ⟨fun | 228 => 132 | n => n, fun | 124 => 116 | 5 => 5 | 4 => 4 | 0 => 0 | 116 => 112 | n => n, fun | n => n⟩
theorem Tryz.lays228 : Go.Proofs.Lays.n228 Tryz.prog Tryz.lays228_ren := {
  mixed := by kernel_rfl
  f228 := Tryz.func132.trans (congrArg some (by kernel_rfl))
  t0 := Tryz.underlying0
  a0 := Tryz.isAgg0
  z0 := Tryz.sizeOf0
  v0 := Tryz.zeroValue0
  t4 := Tryz.underlying4
  a4 := Tryz.isAgg4
  z4 := Tryz.sizeOf4
  v4 := Tryz.zeroValue4
  t5 := Tryz.underlying5
  a5 := Tryz.isAgg5
  z5 := Tryz.sizeOf5
  v5 := Tryz.zeroValue5
  t116 := Tryz.underlying112
  a116 := Tryz.isAgg112
  z116 := Tryz.sizeOf112
  t124 := Tryz.underlying116
  a124 := Tryz.isAgg116
  z124 := Tryz.sizeOf116
  v124 := Tryz.zeroValue116 }
open Go.RowKit Go.Lib in
/-- '(as *asciiSet) contains(c)': 'as[c]': the set lies at block b, whole. (LAID: no walk: one application.) -/
theorem Tryz.asciiSet_contains (b : Nat) (x : UInt8) (v : Bool) (w : World) (hc : w.cell? ⟨b, x.toNat, none⟩ = some (.bool v)) :
    Calls Tryz.prog 132 #[.pointer (some ⟨b, 0, none⟩), .int .u8 x.toNat] w fun e w' => e = .returned (.bool v) ∧ w' = w := Any.asciiSet_contains Tryz.lays228 b x v w hc
def Tryz.lays260_ren : Go.Shelf.Ren := ⟨fun | 260 => 136 | n => n, fun | 9 => 9 | 21 => 21 | 3 => 3 | 4 => 4 | 5 => 5 | 119 => 124 | 0 => 0 | 46 => 94 | 139 => 127 | 138 => 126 | n => n, fun | 3 => 1 | 4 => 2 | n => n⟩
theorem Tryz.lays260 : Go.Proofs.Lays.n260 Tryz.prog Tryz.lays260_ren := {
  mixed := by kernel_rfl
  f260 := Tryz.func136.trans (congrArg some (by kernel_rfl))
  t0 := Tryz.underlying0
  a0 := Tryz.isAgg0
  z0 := Tryz.sizeOf0
  v0 := Tryz.zeroValue0
  t3 := Tryz.underlying3
  a3 := Tryz.isAgg3
  z3 := Tryz.sizeOf3
  v3 := Tryz.zeroValue3
  t4 := Tryz.underlying4
  a4 := Tryz.isAgg4
  z4 := Tryz.sizeOf4
  v4 := Tryz.zeroValue4
  t5 := Tryz.underlying5
  a5 := Tryz.isAgg5
  z5 := Tryz.sizeOf5
  v5 := Tryz.zeroValue5
  t9 := Tryz.underlying9
  a9 := Tryz.isAgg9
  z9 := Tryz.sizeOf9
  v9 := Tryz.zeroValue9
  t21 := Tryz.underlying21
  a21 := Tryz.isAgg21
  z21 := Tryz.sizeOf21
  v21 := Tryz.zeroValue21
  t46 := Tryz.underlying94
  a46 := Tryz.isAgg94
  z46 := Tryz.sizeOf94
  v46 := Tryz.zeroValue94
  t119 := Tryz.underlying124
  a119 := Tryz.isAgg124
  z119 := Tryz.sizeOf124
  t138 := Tryz.underlying126
  a138 := Tryz.isAgg126
  z138 := Tryz.sizeOf126
  v138 := Tryz.zeroValue126
  t139 := Tryz.underlying127
  a139 := Tryz.isAgg127
  z139 := Tryz.sizeOf127
  v139 := Tryz.zeroValue127
  g3 := by kernel_rfl
  g4 := by kernel_rfl }
open Go.RowKit Go.Lib in
theorem Tryz.utf8_decodeRuneInStringSlow (s : ByteArray) (w : World) (hT : Lib.Utf8Tabs 1 2 w) :
    Calls Tryz.prog 136 #[.string s] w fun e w' => e = .returned (.tuple #[.int .i32 (Lib.decodeGo s).1, .int .i64 (Lib.decodeGo s).2]) ∧ Below w.heap.size w w' := Any.utf8_decodeRuneInStringSlow Tryz.lays260 s w hT
def Tryz.laysNm215_ren : Go.Shelf.Ren := ⟨fun | 15 => 28 | n => n, fun | 22 => 24 | 3 => 3 | 4 => 4 | n => n, fun | n => n⟩
theorem Tryz.laysNm215 : Go.Proofs.Lays2.n15 Tryz.prog Tryz.laysNm215_ren := {
  mixed := by kernel_rfl
  f15 := Tryz.func28.trans (congrArg some (by kernel_rfl))
  t3 := Tryz.underlying3
  a3 := Tryz.isAgg3
  z3 := Tryz.sizeOf3
  v3 := Tryz.zeroValue3
  t4 := Tryz.underlying4
  a4 := Tryz.isAgg4
  z4 := Tryz.sizeOf4
  v4 := Tryz.zeroValue4
  t22 := Tryz.underlying24
  a22 := Tryz.isAgg24
  z22 := Tryz.sizeOf24
  v22 := Tryz.zeroValue24
  i3 := by kernel_rfl }
open Go.RowKit Go.Lib in
/-- slices.Clone at []int: "Clone returns a copy of the slice. The elements are copied using assignment, so this is a shallow clone. The result may have additional unused capacity. The result preserves the nilness of s.": OF A SLICE THAT IS NOT nil IT RETURNS A SLICE THAT IS NOT nil, OF THE SAME ELEMENTS, IN MEMORY OF THE CALL's OWN: in the how-to's words (6f): 'w'.ownsRow B e 1 v' n cells': v' begins at the head of a row among the blocks from B on (B: the heap's size at the call), not frozen, whose first cells are the elements · 'Below B w w'': below B all is as it was. The capacity is whatever the run-time gives. 'zs': what the cells behind the slice's address hold; 'zs.take n': its elements. (LAID: no walk: one application.) -/
theorem Tryz.slices_Clone_int (b off n c : Nat) (zs : List Int) (w : World) (hz : n ≤ zs.length) (hbig : n * 8 ≤ 140737488355328) (hc : ∀ j, j < zs.length → w.cell? ⟨b, off + j, none⟩ = some (.int .i64 (zs.getD j 0))) :
    Calls Tryz.prog 28 #[.slice (some ⟨b, off, none⟩) n c] w fun e w' => ∃ v', e = .returned v' ∧ w'.ownsRow w.heap.size 3 1 v' n ((zs.take n).map (Value.int .i64)) ∧ v' ≠ .slice none 0 0 ∧ Below w.heap.size w w' := Any.slices_Clone_int Tryz.laysNm215 b off n c zs w hz hbig hc
open Go.RowKit Go.Lib in
/-- The same at nil: nil comes back; the world is as it was. (LAID: no walk: one application.) -/
theorem Tryz.slices_Clone_int_nil (n c : Nat) (w : World) :
    Calls Tryz.prog 28 #[.slice none n c] w fun e w' => e = .returned (.slice none 0 0) ∧ w' = w := Any.slices_Clone_int_nil Tryz.laysNm215 n c w
open Go.RowKit Go.Lib in
/-- The same at a slice of length 0 that is not nil, WHATEVER ITS ADDRESS (no cell is asked for): a slice that is not nil and owns nothing comes back. (LAID: no walk: one application.) -/
theorem Tryz.slices_Clone_int_zero (a : Addr) (c : Nat) (w : World) :
    Calls Tryz.prog 28 #[.slice (some a) 0 c] w fun e w' => ∃ v', e = .returned v' ∧ w'.ownsRow w.heap.size 3 1 v' 0 [] ∧ v' ≠ .slice none 0 0 ∧ Below w.heap.size w w' := Any.slices_Clone_int_zero Tryz.laysNm215 a c w
end Go.Proofs
/-
  Contracts of chapter 2, the model's and the program's: looking at a cell; copying the row.
-/
namespace Go.Proofs.YtmglidfnolmcaaaGreatDoor
open Go.RowKit M
set_option linter.unusedVariables false
theorem iLoad_yes (w : World) (v : Value) (zs : List Int) (i : Int) (h : Ints w v zs) (ha : atC zs i = true) :
    Calls Tryz.prog 66 #[v, .int .i64 i] w (Same w (.tuple #[.int .i64 (zs.getD i.toNat 0), .bool true])) := by
  obtain ⟨h0, i0, i1⟩ := atC_iff.1 ha
  have H := Lib.hid (iOk_b w v zs h true h0)
  obtain ⟨b, off, cap, rfl, h1, h2, h3, h4⟩ := h
  have hl := okC_len h0
  obtain ⟨j, rfl⟩ := Int.eq_ofNat_of_zero_le i0
  rw [Int.toNat_natCast]
  have g1 := h4 j (by omega)
  generalize zs.getD j 0 = z at *
  have hj : j < zs.length := by omega
  generalize zs.length = n at *
  unfold maxLen at h2
  have t1 : decide (n ≤ j) = false := by simp; omega
  have t2 : decide ((j : Int) < 0) = false := by simp
  clear h4 h0 hl ha
  go_enter Tryz.func66, Tryz.ntmps66
  go_wp2_with (first | (go_at_call 24; refine H.out.mono ?_; rintro e w' ⟨rfl, rfl⟩))
  go_ret2
  exact ⟨rfl, rfl⟩
theorem iLoad_no (w : World) (v : Value) (zs : List Int) (i : Int) (h : Ints w v zs) (ha : atC zs i = false) :
    Calls Tryz.prog 66 #[v, .int .i64 i] w (Same w (.tuple #[.int .i64 0, .bool false])) := by
  by_cases i0 : i < 0
  · obtain ⟨b, off, cap, rfl, h1, h2, h3, h4⟩ := h
    have t1 : decide (i < 0) = true := by simp; omega
    clear h4 ha
    go_enter Tryz.func66, Tryz.ntmps66
    go_wp2
    go_ret2
    exact ⟨rfl, rfl⟩
  · have t1 : decide (i < 0) = false := by simp; omega
    by_cases i1 : (zs.length : Int) ≤ i
    · have t2 : decide ((zs.length : Int) ≤ i) = true := by simp; omega
      obtain ⟨b, off, cap, rfl, h1, h2, h3, h4⟩ := h
      generalize zs.length = n at *
      clear h4 ha
      go_enter Tryz.func66, Tryz.ntmps66
      go_wp2
      go_ret2
      exact ⟨rfl, rfl⟩
    · have t2 : decide ((zs.length : Int) ≤ i) = false := by simp; omega
      have hok : okC zs = false := by
        cases hok : okC zs with
        | false => rfl
        | true =>
          have := okC_len hok
          rcases atC_no.1 ha with h | h
          · rw [hok] at h; cases h
          · omega
      have H := Lib.hid (iOk_b w v zs h false hok)
      obtain ⟨b, off, cap, rfl, h1, h2, h3, h4⟩ := h
      generalize zs.length = n at *
      clear h4 ha hok
      go_enter Tryz.func66, Tryz.ntmps66
      go_wp2_with (first | (go_at_call 24; refine H.out.mono ?_; rintro e w' ⟨rfl, rfl⟩))
      go_ret2
      exact ⟨rfl, rfl⟩
/-- slices.Clone of a row hands back a new one. -/
theorem clone_any (w : World) (v : Value) (zs : List Int) (h : Ints w v zs) (hl : zs.length ≤ 1048576) :
    Calls Tryz.prog 28 #[v] w (MadeI w zs) := by
  obtain ⟨b, off, cap, rfl, h1, h2, h3, h4⟩ := h
  refine (Tryz.slices_Clone_int b off zs.length cap zs w (Nat.le_refl _) (by omega) h4).mono ?_
  rintro e w' ⟨v', rfl, ho, hne, hb⟩
  rw [List.take_length] at ho
  exact ⟨v', rfl, OwnI.of_row ho rfl hne, hb⟩
end Go.Proofs.YtmglidfnolmcaaaGreatDoor
/-
  The program's ReadFixed: the number that the first width bytes encode, and true; or 0 and false where width is not from 1 to 7 or the string is shorter. It does not turn the world.
-/
namespace Go.Proofs.YtmglidfnolmcaaaGreatDoor
open Go.RowKit M
end Go.Proofs.YtmglidfnolmcaaaGreatDoor
/-
  Two rows compared by the program: they are alike exactly if each field is.
-/
namespace Go.Proofs.YtmglidfnolmcaaaGreatDoor
open Go.RowKit M
set_option linter.unusedVariables false
instance decR : DecidableEq R := fun a b =>
  if h : (a.key = b.key ∧ a.kind = b.kind ∧ a.sum = b.sum ∧ a.set = b.set ∧ a.last = b.last) ∧ a.n = b.n ∧ a.mn = b.mn ∧ a.mx = b.mx ∧ a.total = b.total ∧ a.dropped = b.dropped then
    .isTrue (by
      obtain ⟨⟨h0, h1, h2, h3, h4⟩, h5, h6, h7, h8, h9⟩ := h
      cases a; cases b
      simp only at *
      subst h0; subst h1; subst h2; subst h3; subst h4; subst h5; subst h6; subst h7; subst h8; subst h9
      rfl)
  else .isFalse (fun e => h (by subst e; exact ⟨⟨rfl, rfl, rfl, rfl, rfl⟩, rfl, rfl, rfl, rfl, rfl⟩))
theorem stood_row : Tryz.prog.stoodInHeld 33 = false := by kernel_rfl
set_option maxRecDepth 100000 in
set_option maxHeartbeats 4000000 in
theorem neq_row (w : World) (r s : R) (h : r ≠ s) : (binOp .neq 33 r.v s.v).run Tryz.prog w = .ok (.bool true) w := by
  obtain ⟨key, kind, sum, st, last, n', mn, mx, total, dropped⟩ := r
  obtain ⟨key', kind', sum', st', last', n'', mn', mx', total', dropped'⟩ := s
  unfold R.v
  simp only at *
  rw [run_neq_struct, run_equalIn_struct _ _ _ _ _ (by kernel_rfl) stood_row]
  by_cases e0 : key = key'
  · subst e0
    by_cases e1 : kind = kind'
    · subst e1
      simp [go_sem]
      rintro rfl rfl rfl rfl rfl rfl rfl rfl
      exact h rfl
    · simp [go_sem, e1]
  · have e := txt_ne e0
    simp [go_sem, e]
end Go.Proofs.YtmglidfnolmcaaaGreatDoor
/-
  The program's Fixed: the last width bytes of n, most significant first, where width is from 1 to 7, n is not negative and fits; else the empty string. It turns nothing that was there.
-/
namespace Go.Proofs.YtmglidfnolmcaaaGreatDoor
open Go.RowKit M
set_option linter.unusedVariables false
def fxOut (n k : Nat) : ByteArray := if 256 ^ k ≤ n then ⟨#[]⟩ else fxs n k
theorem fx_val (n m : Nat) : Value.int .u8 ((n : Int) / 2 ^ (8 * m) % 256) = b2v (UInt8.ofNat (dv n m)) := by
  rw [shr_dv]; unfold b2v; congr 1
set_option maxRecDepth 100000 in
theorem iFx_bad (n k : Int) (w : World) (h : k < 1 ∨ 7 < k ∨ n < 0) :
    Calls Tryz.prog 115 #[.int .i64 n, .int .i64 k] w fun e w' => e = .returned (.string ⟨#[]⟩) ∧ w = w' := by
  by_cases h1 : k < 1
  · go_enter Tryz.func115, Tryz.ntmps115
    go_wp2
    go_ret
    exact ⟨rfl, rfl⟩
  · by_cases h2 : 7 < k
    · go_enter Tryz.func115, Tryz.ntmps115
      go_wp2
      go_ret
      exact ⟨rfl, rfl⟩
    · have h3 : n < 0 := by omega
      go_enter Tryz.func115, Tryz.ntmps115
      go_wp2
      go_ret
      exact ⟨rfl, rfl⟩
set_option maxRecDepth 100000 in
theorem iFx_big (n k : Nat) (w : World) (hn : n ≤ 9223372036854775807) (h1 : 1 ≤ k) (h2 : k ≤ 7) (hb : 256 ^ k ≤ n) :
    Calls Tryz.prog 115 #[.int .i64 n, .int .i64 k] w fun e w' => e = .returned (.string ⟨#[]⟩) ∧ w = w' := by
  have hne := shr_dv_ne n k hb
  go_enter Tryz.func115, Tryz.ntmps115
  go_wp2
  go_ret
  exact ⟨rfl, rfl⟩
set_option maxRecDepth 100000 in
theorem iFx_good (n k : Nat) (w : World) (hn : n ≤ 9223372036854775807) (h1 : 1 ≤ k) (h2 : k ≤ 7) (hb : ¬ 256 ^ k ≤ n) :
    Calls Tryz.prog 115 #[.int .i64 n, .int .i64 k] w fun e w' => e = .returned (.string (fxs n k)) ∧ Below w.heap.size w w' := by
  have hne := shr_dv_eq n k hb
  obtain ⟨i0, hi, hz0, hz1, hz2⟩ := info_parts info_u8
  go_enter Tryz.func115, Tryz.ntmps115
  go_wp2_with (refine wpList_make_full _ rfl _ _ 22 rfl w.heap.size 5 i0 (.int .u8 0) 1 Tryz.underlying22 hi hz0 hz1 .i64 .i64 _ _ k rfl rfl rfl rfl ?c1 ?c2 ?c3 ?_; rotate_left 3; intro w1 hown hg; have HO := Lib.hid hown; have HG := Lib.hid hg; clear hown hg)
  case c1 => omega
  case c2 => unfold maxLen; omega
  go_loopw [6, 28] (fun _ i wr => ∃ j : Nat, j ≤ k ∧ i = .int .i64 j ∧ OwnB wr w.heap.size (.slice (some ⟨w.heap.size, 0, none⟩) k k) (part (fx n k) j) ∧ Below w.heap.size w wr) (fun _ i _ => k - (intOf i).toNat)
  case atStart => exact ⟨0, Nat.zero_le _, rfl, OwnB.made HO.out _ (fx_length n k), (Below.refl _ _).grown HG.out (Nat.le_refl _) (by intro _ h; cases h)⟩
  case round =>
    obtain ⟨j, hj, rfl, ho, hbl⟩ := hrel
    by_cases hlt : j < k
    · obtain ⟨z, hc⟩ := ho.cellEx (by rw [part_length, fx_length]) hlt
      have hf := ho.frz (by rw [part_length, fx_length]) j
      have HO2 := Lib.hid ho
      clear ho
      go_wp2
      go_roundw
      case rel =>
        rw [fx_val]
        have hst := HO2.out.store (fx_length n k) _ (fx_get n k j hlt)
        exact ⟨j + 1, by omega, by go_num, hst.1, hbl.grown hst.2 hbl.size (by intro _ h; cases h; exact Nat.le_refl _)⟩
      case measure => simp [intOf]; omega
    · obtain rfl : j = k := by omega
      have hcv := conv_own ho
      have hp := Lib.hid (part_all (fx n j))
      rw [fx_length] at hp
      have HO2 := Lib.hid ho
      clear ho
      go_wp2
      go_ret
      exact ⟨ret_str (by rw [hp.out]; rfl), hbl⟩
end Go.Proofs.YtmglidfnolmcaaaGreatDoor
/-
  Chapter 8 in plain words: the rows of the slots that are not quiet, sorted by their keys, the first of each key: the report built row by row.
-/
namespace Go.Proofs.YtmglidfnolmcaaaGreatDoor
open Go.RowKit M
set_option linter.unusedVariables false
theorem bl_irrefl (x : List UInt8) : Go.Op.bytesLess x x = false := by
  induction x with
  | nil => rfl
  | cons a x ih =>
    have : ¬ a < a := fun k => by have : a.toNat < a.toNat := k; omega
    simp [Go.Op.bytesLess, ih, this]
theorem bl_trans (x y z : List UInt8) (h1 : Go.Op.bytesLess x y = true) (h2 : Go.Op.bytesLess y z = true) : Go.Op.bytesLess x z = true := by
  induction x generalizing y z with
  | nil =>
    cases z with
    | nil => cases y <;> simp [Go.Op.bytesLess] at h2
    | cons c z => rfl
  | cons a x ih =>
    cases y with
    | nil => simp [Go.Op.bytesLess] at h1
    | cons b y =>
      cases z with
      | nil => simp [Go.Op.bytesLess] at h2
      | cons c z =>
        simp only [Go.Op.bytesLess, Bool.or_eq_true, Bool.and_eq_true, decide_eq_true_eq, beq_iff_eq] at h1 h2 ⊢
        rcases h1 with h1 | ⟨rfl, h1⟩
        · rcases h2 with h2 | ⟨rfl, h2⟩
          · exact .inl (by have a1 : a.toNat < b.toNat := h1; have a2 : b.toNat < c.toNat := h2; show a.toNat < c.toNat; omega)
          · exact .inl h1
        · rcases h2 with h2 | ⟨rfl, h2⟩
          · exact .inl h2
          · exact .inr ⟨rfl, ih _ _ h1 h2⟩
theorem bl_total (x y : List UInt8) (h1 : Go.Op.bytesLess x y = false) (h2 : Go.Op.bytesLess y x = false) : x = y := by
  induction x generalizing y with
  | nil => cases y with
    | nil => rfl
    | cons b y => simp [Go.Op.bytesLess] at h1
  | cons a x ih =>
    cases y with
    | nil => simp [Go.Op.bytesLess] at h2
    | cons b y =>
      simp only [Go.Op.bytesLess, Bool.or_eq_false_iff, decide_eq_false_iff_not, Bool.and_eq_false_iff, beq_eq_false_iff_ne] at h1 h2
      have e : a = b := by
        have a1 : ¬ a.toNat < b.toNat := h1.1
        have a2 : ¬ b.toNat < a.toNat := h2.1
        exact UInt8.toNat_inj.1 (by omega)
      subst e
      rw [ih y (by rcases h1.2 with k | k; exact absurd rfl k; exact k) (by rcases h2.2 with k | k; exact absurd rfl k; exact k)]
theorem strLt_irrefl (x : ByteArray) : strLt x x = false := bl_irrefl _
theorem strLt_trans {x y z : ByteArray} (h1 : strLt x y = true) (h2 : strLt y z = true) : strLt x z = true := bl_trans _ _ _ h1 h2
theorem strLt_total {x y : ByteArray} (h1 : strLt x y = false) (h2 : strLt y x = false) : x = y := by
  have := bl_total _ _ h1 h2
  have e : ∀ b : ByteArray, b.toList = b.data.toList := Go.Lib.toList_data
  rw [e, e] at this
  cases x; cases y
  simp only [ByteArray.mk.injEq]
  exact Array.ext' this
theorem strLt_le_trans {x y z : ByteArray} (h1 : strLt x y = true) (h2 : strLt z y = false) : strLt x z = true := by
  cases h : strLt x z with
  | true => rfl
  | false =>
    by_cases e : strLt z x = true
    · rw [strLt_trans e h1] at h2; cases h2
    · have := strLt_total h (by simpa using e)
      subst this; rw [h1] at h2; cases h2
theorem strLe_lt_trans {x y z : ByteArray} (h1 : strLt y x = false) (h2 : strLt y z = true) : strLt x z = true := by
  cases h : strLt x z with
  | true => rfl
  | false =>
    by_cases e : strLt z x = true
    · rw [strLt_trans h2 e] at h1; cases h1
    · have := strLt_total h (by simpa using e)
      subst this; rw [h2] at h1; cases h1
theorem strLe_trans {x y z : ByteArray} (h1 : strLt y x = false) (h2 : strLt z y = false) : strLt z x = false := by
  cases h : strLt z x with
  | false => rfl
  | true => rw [strLt_le_trans h h1] at h2; cases h2
/-- The rows in the order of their keys, alike ones in the order in which they came. -/
def sortV (l : List R) : List R := l.foldl (fun s r => insV r s) []
/-- No row lies ahead of one with a smaller key, none is smaller than k. -/
def UpV (k : ByteArray) : List R → Prop
  | [] => True
  | x :: l => strLt x.key k = false ∧ UpV x.key l
def AscV : List R → Prop
  | [] => True
  | x :: l => UpV x.key l
theorem UpV.ins {k : ByteArray} {l : List R} (h : UpV k l) (r : R) (hr : strLt r.key k = false) : UpV k (insV r l) := by
  induction l generalizing k with
  | nil => exact ⟨hr, trivial⟩
  | cons x l ih =>
    simp only [insV]
    cases e : strLt r.key x.key with
    | true =>
      refine ⟨hr, ?_, h.2⟩
      cases e2 : strLt x.key r.key with
      | false => rfl
      | true => have := strLt_trans e e2; rw [strLt_irrefl] at this; cases this
    | false => exact ⟨h.1, ih h.2 e⟩
theorem AscV.ins {l : List R} (h : AscV l) (r : R) : AscV (insV r l) := by
  cases l with
  | nil => exact trivial
  | cons x l =>
    simp only [insV]
    cases e : strLt r.key x.key with
    | true =>
      refine ⟨?_, h⟩
      cases e2 : strLt x.key r.key with
      | false => rfl
      | true => have := strLt_trans e e2; rw [strLt_irrefl] at this; cases this
    | false => exact UpV.ins h r e
theorem asc_sort (l : List R) : AscV (sortV l) := by
  have : ∀ (l s : List R), AscV s → AscV (l.foldl (fun s r => insV r s) s) := by
    intro l
    induction l with
    | nil => exact fun s h => h
    | cons x l ih => exact fun s h => ih _ (h.ins x)
  exact this l [] trivial
theorem UpV.all {k : ByteArray} {l : List R} (h : UpV k l) : ∀ x ∈ l, strLt x.key k = false := by
  induction l generalizing k with
  | nil => intro x hx; cases hx
  | cons y l ih =>
    intro x hx
    rcases List.mem_cons.1 hx with rfl | hx
    · exact h.1
    · exact strLe_trans h.1 (ih h.2 x hx)
/-- Where r is put into rows in order: behind A, ahead of B. -/
theorem ins_at (r : R) (A B : List R) (hA : AscV (A ++ B)) (h1 : A = [] ∨ ∃ A' a, A = A' ++ [a] ∧ strLt r.key a.key = false) (h2 : B = [] ∨ ∃ b B', B = b :: B' ∧ strLt r.key b.key = true) : insV r (A ++ B) = A ++ r :: B := by
  have base : insV r B = r :: B := by
    rcases h2 with rfl | ⟨b, B', rfl, hb⟩
    · rfl
    · simp [insV, hb]
  have main : ∀ A : List R, (∀ x ∈ A, strLt r.key x.key = false) → insV r (A ++ B) = A ++ r :: B := by
    intro A hA
    induction A with
    | nil => exact base
    | cons x A ih =>
      simp only [List.cons_append, insV, hA x List.mem_cons_self, Bool.false_eq_true, if_false]
      rw [ih (fun y hy => hA y (List.mem_cons_of_mem _ hy))]
  apply main
  rcases h1 with rfl | ⟨A', a, rfl, ha⟩
  · intro x hx; cases hx
  · have up : ∀ (A' : List R) (k : ByteArray) (B : List R), UpV k (A' ++ [a] ++ B) → ∀ x ∈ A', strLt a.key x.key = false := by
      intro A'
      induction A' with
      | nil => intro k B _ x hx; cases hx
      | cons y A' ih =>
        intro k B h x hx
        rcases List.mem_cons.1 hx with rfl | hx
        · exact UpV.all h.2 a (by simp)
        · exact ih _ B h.2 x hx
    intro x hx
    rcases List.mem_append.1 hx with hx | hx
    · refine strLe_trans ?_ ha
      cases A' with
      | nil => cases hx
      | cons y A' =>
        rcases List.mem_cons.1 hx with rfl | hx
        · exact UpV.all (show UpV x.key (A' ++ [a] ++ B) from hA) a (by simp)
        · exact up A' y.key B hA x hx
    · rw [List.mem_singleton] at hx; subst hx; exact ha
/-- Of rows with one key, side by side, the first. -/
def oneFrom (k : ByteArray) : List R → List R
  | [] => []
  | x :: l => if x.key = k then oneFrom k l else x :: oneFrom x.key l
def oneV : List R → List R
  | [] => []
  | x :: l => x :: oneFrom x.key l
theorem one_mem (k : ByteArray) (l : List R) (c : ByteArray) : c = k ∨ (∃ y ∈ oneFrom k l, y.key = c) ↔ c = k ∨ ∃ y ∈ l, y.key = c := by
  induction l generalizing k with
  | nil => rfl
  | cons x l ih =>
    simp only [oneFrom]
    by_cases e : x.key = k
    · rw [if_pos e, ih]
      constructor
      · rintro (h | ⟨y, hy, h⟩)
        · exact .inl h
        · exact .inr ⟨y, List.mem_cons_of_mem _ hy, h⟩
      · rintro (h | ⟨y, hy, h⟩)
        · exact .inl h
        · rcases List.mem_cons.1 hy with rfl | hy
          · exact .inl (h.symm.trans e)
          · exact .inr ⟨y, hy, h⟩
    · rw [if_neg e]
      have := ih x.key
      constructor
      · rintro (h | ⟨y, hy, h⟩)
        · exact .inl h
        · rcases List.mem_cons.1 hy with rfl | hy
          · exact .inr ⟨y, List.mem_cons_self, h⟩
          · rcases this.1 (.inr ⟨y, hy, h⟩) with h | ⟨y, hy, h⟩
            · exact .inr ⟨x, List.mem_cons_self, h.symm⟩
            · exact .inr ⟨y, List.mem_cons_of_mem _ hy, h⟩
      · rintro (h | ⟨y, hy, h⟩)
        · exact .inl h
        · rcases List.mem_cons.1 hy with rfl | hy
          · exact .inr ⟨y, List.mem_cons_self, h⟩
          · rcases this.2 (.inr ⟨y, hy, h⟩) with h | ⟨y, hy, h⟩
            · exact .inr ⟨x, List.mem_cons_self, h.symm⟩
            · exact .inr ⟨y, List.mem_cons_of_mem _ hy, h⟩
theorem strLt_ne {x y : ByteArray} (h : strLt x y = true) : x ≠ y := fun e => by subst e; rw [strLt_irrefl] at h; cases h
theorem oneFrom_ins (r : R) (k : ByteArray) (l : List R) (h : UpV k l) (hr : strLt r.key k = false) :
    oneFrom k (insV r l) = if r.key = k ∨ ∃ y ∈ l, y.key = r.key then oneFrom k l else insV r (oneFrom k l) := by
  classical
  induction l generalizing k with
  | nil => simp [insV, oneFrom]
  | cons x l ih =>
    simp only [insV]
    cases e : strLt r.key x.key with
    | true =>
      have hxr : x.key ≠ r.key := fun k => strLt_ne e k.symm
      have hall : ¬ ∃ y ∈ x :: l, y.key = r.key := by
        rintro ⟨y, hy, e2⟩
        rcases List.mem_cons.1 hy with rfl | hy
        · exact hxr e2
        · have := UpV.all h.2 y hy
          rw [e2, e] at this; cases this
      have hxk : x.key ≠ k := fun e2 => by rw [e2, hr] at e; cases e
      rw [if_pos rfl]
      by_cases hk : r.key = k
      · rw [if_pos (.inl hk)]
        show (if r.key = k then _ else _) = _
        rw [if_pos hk]
      · rw [if_neg (by rintro (h9 | h9); exact hk h9; exact hall h9)]
        simp only [oneFrom, if_neg hk, if_neg hxr, if_neg hxk, insV, e, if_true]
    | false =>
      rw [if_neg (by simp)]
      by_cases hxk : x.key = k
      · simp only [oneFrom, if_pos hxk]
        rw [ih k (hxk ▸ h.2) hr]
        have hiff : (r.key = k ∨ ∃ y ∈ l, y.key = r.key) ↔ (r.key = k ∨ ∃ y ∈ x :: l, y.key = r.key) := by
          constructor
          · rintro (h9 | ⟨y, hy, h9⟩)
            · exact .inl h9
            · exact .inr ⟨y, List.mem_cons_of_mem _ hy, h9⟩
          · rintro (h9 | ⟨y, hy, h9⟩)
            · exact .inl h9
            · rcases List.mem_cons.1 hy with rfl | hy
              · exact .inl (h9.symm.trans hxk)
              · exact .inr ⟨y, hy, h9⟩
        by_cases c : r.key = k ∨ ∃ y ∈ l, y.key = r.key
        · rw [if_pos c, if_pos (hiff.1 c)]
        · rw [if_neg c, if_neg (fun d => c (hiff.2 d))]
      · simp only [oneFrom, if_neg hxk]
        rw [ih x.key h.2 e]
        have hrk : r.key ≠ k := fun e2 => hxk (strLt_total h.1 (by rw [← e2]; exact e))
        have hiff : (r.key = x.key ∨ ∃ y ∈ l, y.key = r.key) ↔ (r.key = k ∨ ∃ y ∈ x :: l, y.key = r.key) := by
          constructor
          · rintro (h9 | ⟨y, hy, h9⟩)
            · exact .inr ⟨x, List.mem_cons_self, h9.symm⟩
            · exact .inr ⟨y, List.mem_cons_of_mem _ hy, h9⟩
          · rintro (h9 | ⟨y, hy, h9⟩)
            · exact absurd h9 hrk
            · rcases List.mem_cons.1 hy with rfl | hy
              · exact .inl h9.symm
              · exact .inr ⟨y, hy, h9⟩
        by_cases c : r.key = x.key ∨ ∃ y ∈ l, y.key = r.key
        · rw [if_pos c, if_pos (hiff.1 c)]
        · rw [if_neg c, if_neg (fun d => c (hiff.2 d))]
          simp only [insV, e, Bool.false_eq_true, if_false]
theorem oneV_ins (r : R) (l : List R) (h : AscV l) : oneV (insV r l) = putV (oneV l) r := by
  classical
  cases l with
  | nil => rfl
  | cons x l =>
    have hany : ((oneV (x :: l)).any fun y => decide (y.key = r.key)) = true ↔ r.key = x.key ∨ ∃ y ∈ l, y.key = r.key := by
      rw [← one_mem]
      simp only [oneV, List.any_cons, Bool.or_eq_true, decide_eq_true_eq, List.any_eq_true]
      constructor
      · rintro (h | h)
        · exact .inl h.symm
        · exact .inr h
      · rintro (h | h)
        · exact .inl h.symm
        · exact .inr h
    unfold putV
    simp only [insV]
    cases e : strLt r.key x.key with
    | true =>
      have hxr : x.key ≠ r.key := fun k => strLt_ne e k.symm
      have hall : ¬ (r.key = x.key ∨ ∃ y ∈ l, y.key = r.key) := by
        rintro (h1 | ⟨y, hy, e2⟩)
        · exact hxr h1.symm
        · have := UpV.all h y hy
          rw [e2, e] at this; cases this
      rw [if_pos rfl, if_neg (fun k => hall (hany.1 k))]
      simp only [oneV, oneFrom, if_neg hxr, insV, e, if_true]
    | false =>
      rw [if_neg (by simp)]
      show x :: oneFrom x.key (insV r l) = _
      rw [oneFrom_ins r x.key l h e]
      by_cases c : r.key = x.key ∨ ∃ y ∈ l, y.key = r.key
      · rw [if_pos c, if_pos (hany.2 c)]; rfl
      · rw [if_neg c, if_neg (fun k => c (hany.1 k))]
        simp only [oneV, insV, e, Bool.false_eq_true, if_false]
theorem sortV_snoc (l : List R) (r : R) : sortV (l ++ [r]) = insV r (sortV l) := by simp [sortV]
/-- The rows that are not quiet, sorted, one of each key: a report built row by row. -/
theorem report_sorted (l : List R) (h : ∀ r ∈ l, quietV r = false → r.kind ≠ 0) : oneV (sortV (l.filter fun r => !quietV r)) = l.foldl addV [] := by
  have main : ∀ (n : Nat) (l : List R), l.length = n → (∀ r ∈ l, quietV r = false → r.kind ≠ 0) → oneV (sortV (l.filter fun r => !quietV r)) = l.foldl addV [] := by
    intro n
    induction n with
    | zero => intro l hl _; rw [List.length_eq_zero_iff.1 hl]; rfl
    | succ n ih =>
      intro l hl h
      have hne : l ≠ [] := fun e => by rw [e] at hl; cases hl
      rw [← List.dropLast_concat_getLast hne] at h ⊢
      generalize hx : l.getLast hne = x at h ⊢
      have hl2 : l.dropLast.length = n := by rw [List.length_dropLast, hl]; omega
      generalize l.dropLast = m at h hl2 ⊢
      rw [List.filter_append, List.foldl_append, ← ih m hl2 (fun r hr => h r (List.mem_append_left _ hr))]
      simp only [List.foldl_cons, List.foldl_nil, addV]
      cases q : quietV x with
      | true => simp [q]
      | false =>
        rw [if_pos ⟨h x (by simp) q, rfl⟩, show [x].filter (fun r => !quietV r) = [x] by simp [q], sortV_snoc, oneV_ins _ _ (asc_sort _)]
  exact main _ l rfl h
/-- Of the first m rows those whose place is kept. -/
def keptL (kp : Nat → Bool) (l : List R) (m : Nat) : List R := ((List.range m).filter kp).map fun j => l.getD j zeroR
theorem keptL_succ (kp : Nat → Bool) (l : List R) (m : Nat) : keptL kp l (m + 1) = keptL kp l m ++ (if kp m = true then [l.getD m zeroR] else []) := by
  unfold keptL
  rw [List.range_succ, List.filter_append, List.map_append]
  congr 1
  cases h : kp m <;> simp [h]
theorem take_next (l : List R) (m : Nat) (h : m < l.length) : l.take (m + 1) = l.take m ++ [l.getD m zeroR] := by
  rw [List.take_add_one, List.getD_eq_getElem?_getD, List.getElem?_eq_getElem h]
  rfl
theorem keptL_all {kp : Nat → Bool} {l : List R} {m : Nat} (hm : m ≤ l.length) (h : ∀ j, j < m → kp j = true) : keptL kp l m = l.take m := by
  induction m with
  | zero => rfl
  | succ m ih => rw [keptL_succ, ih (by omega) (fun j hj => h j (by omega)), h m (by omega), if_pos rfl, ← take_next l m (by omega)]
theorem keptL_le (kp : Nat → Bool) (l : List R) (m : Nat) : (keptL kp l m).length ≤ m := by
  unfold keptL
  rw [List.length_map]
  exact Nat.le_trans (List.length_filter_le _ _) (by simp)
/-- The rows as the loop that strikes some of them leaves them: what is kept at the head, then what was there. -/
def strikeV (kp : Nat → Bool) (l : List R) (m : Nat) : List R := keptL kp l m ++ l.drop (keptL kp l m).length
theorem strikeV_length {kp : Nat → Bool} {l : List R} {m : Nat} (hm : m ≤ l.length) : (strikeV kp l m).length = l.length := by
  have := keptL_le kp l m
  rw [strikeV, List.length_append, List.length_drop]; omega
theorem strikeV_start {kp : Nat → Bool} {l : List R} {k : Nat} (hk : k < l.length) (hall : ∀ j, j < k → kp j = true) (hno : kp k = false) : keptL kp l (k + 1) = l.take k ∧ strikeV kp l (k + 1) = l := by
  have e : keptL kp l (k + 1) = l.take k := by rw [keptL_succ, hno, keptL_all (by omega) hall]; simp
  refine ⟨e, ?_⟩
  rw [strikeV, e, List.length_take, Nat.min_eq_left (by omega), List.take_append_drop]
theorem strikeV_high {kp : Nat → Bool} {l : List R} {m : Nat} (j : Nat) (hj : (keptL kp l m).length ≤ j) : (strikeV kp l m).getD j zeroR = l.getD j zeroR := by
  rw [strikeV, List.getD_eq_getElem?_getD, List.getElem?_append_right hj, List.getElem?_drop, List.getD_eq_getElem?_getD]
  congr 2; omega
theorem strikeV_skip {kp : Nat → Bool} {l : List R} {m : Nat} (h : kp m = false) : keptL kp l (m + 1) = keptL kp l m ∧ strikeV kp l (m + 1) = strikeV kp l m := by
  have e : keptL kp l (m + 1) = keptL kp l m := by rw [keptL_succ, h]; simp
  exact ⟨e, by rw [strikeV, e]; rfl⟩
theorem strikeV_keep {kp : Nat → Bool} {l : List R} {m : Nat} (hm : m < l.length) (h : kp m = true) :
    (keptL kp l (m + 1)).length = (keptL kp l m).length + 1 ∧ strikeV kp l (m + 1) = (strikeV kp l m).set (keptL kp l m).length (l.getD m zeroR) := by
  have e : keptL kp l (m + 1) = keptL kp l m ++ [l.getD m zeroR] := by rw [keptL_succ, h]; simp
  have hle := keptL_le kp l m
  refine ⟨by rw [e]; simp, ?_⟩
  unfold strikeV
  rw [List.set_append_right _ _ (Nat.le_refl _), Nat.sub_self, e, List.append_assoc]
  congr 1
  rw [List.length_append, List.length_singleton, List.drop_eq_getElem_cons (by omega : (keptL kp l m).length < l.length), List.set_cons_zero]
  rfl
theorem strikeV_done (kp : Nat → Bool) (l : List R) (m : Nat) : (strikeV kp l m).take (keptL kp l m).length = keptL kp l m := by
  rw [strikeV, List.take_left]
theorem keptL_filter (f : R → Bool) (l : List R) : keptL (fun j => f (l.getD j zeroR)) l l.length = l.filter f := by
  have : ∀ m, m ≤ l.length → keptL (fun j => f (l.getD j zeroR)) l m = (l.take m).filter f := by
    intro m
    induction m with
    | zero => intro _; rfl
    | succ m ih =>
      intro hm
      rw [keptL_succ, ih (by omega), take_next l m (by omega), List.filter_append]
      congr 1
      generalize l.getD m zeroR = x
      cases h : f x <;> simp [h]
  rw [this _ (Nat.le_refl _), List.take_length]
def lastKey (k : ByteArray) : List R → ByteArray
  | [] => k
  | x :: l => lastKey x.key l
theorem lastKey_snoc (k : ByteArray) (l : List R) (x : R) : lastKey k (l ++ [x]) = x.key := by
  induction l generalizing k with
  | nil => rfl
  | cons y l ih => exact ih y.key
theorem oneFrom_snoc (k : ByteArray) (l : List R) (x : R) : oneFrom k (l ++ [x]) = oneFrom k l ++ (if x.key = lastKey k l then [] else [x]) := by
  induction l generalizing k with
  | nil =>
    show (if x.key = k then oneFrom k [] else x :: oneFrom x.key []) = [] ++ (if x.key = k then [] else [x])
    by_cases c : x.key = k
    · rw [if_pos c, if_pos c]; rfl
    · rw [if_neg c, if_neg c]; rfl
  | cons y l ih =>
    simp only [List.cons_append, oneFrom, lastKey]
    by_cases e : y.key = k
    · rw [if_pos e, if_pos e, ih, ← e]
      congr 1
    · rw [if_neg e, if_neg e, ih]; rfl
/-- Is the row at place j another key's than the one ahead of it? -/
def newKey (l : List R) (j : Nat) : Bool := decide (j = 0) || !decide ((l.getD j zeroR).key = (l.getD (j - 1) zeroR).key)
theorem keptL_one (l : List R) : keptL (newKey l) l l.length = oneV l := by
  have : ∀ m, m ≤ l.length → keptL (newKey l) l m = oneV (l.take m) := by
    intro m
    induction m with
    | zero => intro _; rfl
    | succ m ih =>
      intro hm
      rw [keptL_succ, ih (by omega), take_next l m (by omega)]
      cases m with
      | zero => simp [newKey, oneV, oneFrom]
      | succ m =>
        obtain ⟨x, t, e⟩ : ∃ x t, l.take (m + 1) = x :: t := by
          cases hl : l with
          | nil => rw [hl] at hm; simp at hm
          | cons x t => exact ⟨x, _, List.take_succ_cons⟩
        have hlast : lastKey x.key t = (l.getD m zeroR).key := by
          have e2 := take_next l m (by omega)
          rw [e] at e2
          have : lastKey x.key (x :: t) = (l.getD m zeroR).key := by rw [e2]; exact lastKey_snoc _ _ _
          exact this
        rw [e]
        show oneV (x :: t) ++ _ = x :: oneFrom x.key (t ++ [_])
        rw [oneFrom_snoc, hlast]
        show x :: (oneFrom x.key t ++ _) = x :: (oneFrom x.key t ++ _)
        congr 2
        by_cases c : (l.getD (m + 1) zeroR).key = (l.getD m zeroR).key
        · simp only [newKey, Nat.add_sub_cancel, c, if_true]; simp
        · simp only [newKey, Nat.add_sub_cancel, c, if_false]; simp
  rw [this _ (Nat.le_refl _), List.take_length]
end Go.Proofs.YtmglidfnolmcaaaGreatDoor
/-
  An argument that is a row (a struct of ten one-cell fields, by value), opened: it is some row each of whose fields fits its type.
-/
namespace Go.Proofs.YtmglidfnolmcaaaGreatDoor
open Go.ChangeShapes Go.WideShapes Go.Deep Go.RowKit M
set_option linter.unusedVariables false
section
variable {H : Type} {enc : TypeId × Value → H} {P : Program} {w : World} {base : Nat} {spare : Nat → Bool} {held : Bool}
/-- The reading of a struct gives the reading of each of its one-cell fields. -/
theorem field_read {fs : Array Field} {cs : List Value} {xs : List (DataW H × List MemPlace)} {n : Nat}
    (hg : ∀ (i : Nat) (f : Field), fs[i]? = some f → DataW.trod enc P w base spare held n f.type ((cs.drop f.offset).take (P.cellsOf f.type)) = xs[i]?)
    (hone : oneCellFields P fs = true) {i : Nat} {f : Field} {c : Value} (hf : fs[i]? = some f) (hc : cs[i]? = some c) (hx : i < xs.length) : ∃ y, DataW.trod enc P w base spare held n f.type [c] = some y := by
  have h := hg i f hf
  rw [(hone_of hone i f hf).1, (hone_of hone i f hf).2] at h
  obtain ⟨hl, he⟩ := List.getElem?_eq_some_iff.1 hc
  rw [List.drop_eq_getElem_cons hl, he, List.getElem?_eq_getElem hx] at h
  exact ⟨_, by simpa using h⟩
end
theorem fit_of {n : Int} (h : (Lit.int .i64 n).wf = true) : inW n := bounds_i64 h
end Go.Proofs.YtmglidfnolmcaaaGreatDoor
/-
  An argument that is a row of rows, opened: some rows each of whose fields fits its type.
-/
namespace Go.Proofs.YtmglidfnolmcaaaGreatDoor
open Go.ChangeShapes Go.WideShapes Go.Deep Go.RowKit M
set_option linter.unusedVariables false
def FitR (rs : List R) : Prop := ∀ j, j < rs.length → (rs.getD j zeroR).Fit
theorem FitR.key {rs : List R} (h : FitR rs) : ∀ j, j < rs.length → (rs.getD j zeroR).key.size ≤ maxLen := fun j hj => (h j hj).key
instance : Inhabited R := ⟨zeroR⟩
end Go.Proofs.YtmglidfnolmcaaaGreatDoor
/-
  Two rows compared by their keys, as the program hands it to the library.
-/
namespace Go.Proofs.YtmglidfnolmcaaaGreatDoor
open Go.RowKit M
set_option linter.unusedVariables false
set_option linter.unusedSimpArgs false
/-- Which of two strings comes first: -1, 0 or 1. -/
def cmpV (a b : ByteArray) : Int := Lib.compareBytes a.data.toList b.data.toList
theorem compare_less : ∀ (a b : List UInt8), decide (Lib.compareBytes a b < 0) = Go.Op.bytesLess a b
  | [], [] => rfl
  | [], _ :: _ => rfl
  | _ :: _, [] => rfl
  | a :: x, b :: y => by
    have ih := compare_less x y
    simp only [Lib.compareBytes, Go.Op.bytesLess]
    by_cases h : a < b
    · simp [h]
    · by_cases h2 : b < a
      · have hne : (a == b) = false := by rw [beq_eq_false_iff_ne]; intro e; subst e; exact h h2
        simp [h, h2, hne]
      · have e : a = b := by
          have a1 : ¬ a.toNat < b.toNat := h
          have a2 : ¬ b.toNat < a.toNat := h2
          exact UInt8.toNat_inj.1 (by omega)
        subst e
        simp [h, ih]
theorem cmpV_less (a b : ByteArray) : decide (cmpV a b < 0) = strLt a b := by
  unfold cmpV strLt
  rw [compare_less, Lib.toList_data, Lib.toList_data]
set_option maxRecDepth 100000 in
theorem iCompareString (w : World) (a b : ByteArray) : Calls Tryz.prog 120 #[.string a, .string b] w (Same w (.int .i64 (cmpV a b))) := by
  go_enter Tryz.func120, Tryz.ntmps120
  go_wp2
  rw [run_callFunc_extern Tryz.func130 (by kernel_rfl) (by kernel_rfl) (by kernel_rfl) (e := Extern.BytealgCompare.compare) (by kernel_rfl), Lib.run_compareString]
  simp only [Result.andThen]
  rw [Oper.upon_value]
  have HC := Lib.hid (show Ending.returned (.int .i64 (Lib.compareBytes a.data.toList b.data.toList)) = .returned (.int .i64 (cmpV a b)) from rfl)
  generalize cmpV a b = c at *
  generalize Lib.compareBytes a.data.toList b.data.toList = d at *
  go_wp2
  go_ret
  exact ⟨HC.out, rfl⟩
set_option maxRecDepth 100000 in
theorem iCompare (w : World) (a b : ByteArray) : Calls Tryz.prog 108 #[.string a, .string b] w (Same w (.int .i64 (cmpV a b))) := by
  have HC := fun W => Lib.hid (iCompareString W a b)
  generalize cmpV a b = c at *
  go_enter Tryz.func108, Tryz.ntmps108
  go_wp2_with fail
  refine (HC _).out.mono ?_
  rintro e w2 ⟨rfl, rfl⟩
  go_wp2_with fail
  go_ret
  exact ⟨rfl, rfl⟩
set_option maxRecDepth 100000 in
set_option maxHeartbeats 4000000 in
theorem iCmp_any (w : World) (r s : R) : Calls Tryz.prog 107 #[r.v, s.v] w (Gives (.int .i64 (cmpV r.key s.key)) w) := by
  obtain ⟨key, kind, sum, st, last, n, mn, mx, total, dropped⟩ := r
  obtain ⟨key', kind', sum', st', last', n', mn', mx', total', dropped'⟩ := s
  have HC := fun W => Lib.hid (iCompare W key key')
  unfold R.v
  simp only
  generalize cmpV key key' = c at *
  go_enter Tryz.func107, Tryz.ntmps107
  go_wp2_with fail
  refine (HC _).out.mono ?_
  rintro e w2 ⟨rfl, rfl⟩
  go_wp2_with fail
  go_ret
  exact ⟨rfl, ((Below.refl _ _).alloc (Nat.le_refl _) _).alloc (by simp [go_sem]) _⟩
set_option maxRecDepth 100000 in
set_option maxHeartbeats 4000000 in
theorem iEq_any (w : World) (r s : R) : Calls Tryz.prog 110 #[r.v, s.v] w (Gives (.bool (decide (r.key = s.key))) w) := by
  obtain ⟨key, kind, sum, st, last, n, mn, mx, total, dropped⟩ := r
  obtain ⟨key', kind', sum', st', last', n', mn', mx', total', dropped'⟩ := s
  unfold R.v
  simp only
  by_cases h : key = key'
  · subst h
    have hd : decide (key = key) = true := by simp
    rw [hd]
    have hs := txt_self key
    go_enter Tryz.func110, Tryz.ntmps110
    go_wp2_with fail
    go_ret
    exact ⟨rfl, ((Below.refl _ _).alloc (Nat.le_refl _) _).alloc (by simp [go_sem]) _⟩
  · have hd : decide (key = key') = false := by simp [h]
    rw [hd]
    have hs := txt_ne h
    clear h hd
    go_enter Tryz.func110, Tryz.ntmps110
    go_wp2_with fail
    go_ret
    exact ⟨rfl, ((Below.refl _ _).alloc (Nat.le_refl _) _).alloc (by simp [go_sem]) _⟩
end Go.Proofs.YtmglidfnolmcaaaGreatDoor
/-
  Chapter 6 in plain words, once more: the slot at which a key's way ends, and what is there.
-/
namespace Go.Proofs.YtmglidfnolmcaaaGreatDoor
open Go.RowKit M
set_option linter.unusedVariables false
/-- What a slot at which the way ends says. -/
def Ends (zs : List Int) (key : ByteArray) (r : Int × Int × Int) : Prop :=
  ∃ p, 0 ≤ p ∧ p ≤ 3 ∧ ((r = (-1, 0, p) ∧ cellK zs p = 0) ∨ ∃ kd, r = (p, kd, -1) ∧ cellK zs p ≠ 0 ∧ untagV (cellK zs p) = some (key, kd))
theorem stepF_ends {zs : List Int} {key : ByteArray} (hk : keyOkV key = true) {n : Nat} (hn : n < 4) {r : Int × Int × Int} (h : stepF zs key n = some r) : Ends zs key r := by
  have hp := probe_bd hk hn
  unfold stepF at h
  split at h
  · rename_i hx
    injection h with h; subst h
    exact ⟨_, hp.1, hp.2, Or.inl ⟨rfl, hx⟩⟩
  · rename_i hx
    split at h
    · split at h
      · rename_i k kd hu he
        injection h with h; subst h; subst he
        exact ⟨_, hp.1, hp.2, Or.inr ⟨kd, rfl, hx, hu⟩⟩
      · cases h
    · cases h
theorem findV_ends (zs : List Int) {key : ByteArray} (hk : keyOkV key = true) : findV zs key = (-1, 0, -1) ∨ Ends zs key (findV zs key) := by
  cases h0 : stepF zs key (0 : Nat) with
  | some r => exact Or.inr (by rw [findV_at (n := 0) (by omega) (fun m hm => by omega) h0]; exact stepF_ends hk (by omega) h0)
  | none =>
    have n1 := none_next (n := 0) (fun m hm => absurd hm (Nat.not_lt_zero _)) h0
    cases h1 : stepF zs key (1 : Nat) with
    | some r => exact Or.inr (by rw [findV_at (n := 1) (by omega) n1 h1]; exact stepF_ends hk (by omega) h1)
    | none =>
      have n2 := none_next n1 h1
      cases h2 : stepF zs key (2 : Nat) with
      | some r => exact Or.inr (by rw [findV_at (n := 2) (by omega) n2 h2]; exact stepF_ends hk (by omega) h2)
      | none =>
        have n3 := none_next n2 h2
        cases h3 : stepF zs key (3 : Nat) with
        | some r => exact Or.inr (by rw [findV_at (n := 3) (by omega) n3 h3]; exact stepF_ends hk (by omega) h3)
        | none => exact Or.inl (findV_none (none_next n3 h3))
/-- The slot of such an answer: the key's, or the free one; -1 for none. -/
def slotE (r : Int × Int × Int) : Int := if 0 ≤ r.1 then r.1 else r.2.2
theorem slotE_free (p : Int) : slotE (-1, 0, p) = p := rfl
theorem slotE_found {p : Int} (h : 0 ≤ p) (kd e : Int) : slotE (p, kd, e) = p := if_pos h
theorem untagV_zero : untagV 0 = none := rfl
/-- A valid table's cell that is found again carries the very tag. -/
theorem tag_same {zs : List Int} {p : Int} {key : ByteArray} {kd k : Int} (hu : untagV (cellK zs p) = some (key, kd)) (hk : 1 ≤ k ∧ k ≤ 3) : (cellK zs p != tagV key k) = !decide (kd = k) := by
  obtain ⟨e, hkey, hd⟩ := tag_untag hu
  rw [← e, tagV_yes hkey hd, tagV_yes hkey hk]
  by_cases h : kd = k
  · subst h; simp
  · rw [decide_eq_false h, Bool.not_false, bne_iff_ne]; omega
end Go.Proofs.YtmglidfnolmcaaaGreatDoor
/-
  The test of a code's length.
-/
namespace Go.Proofs.YtmglidfnolmcaaaGreatDoor
open Go.RowKit
set_option linter.unusedVariables false
theorem nBig (A : Option Addr) (len cap : Nat) (W : World) : Calls Tryz.prog 4 #[.slice A len cap] W (Gives (.bool (decide ((1048576 : Int) < (len : Int)))) W) := by
  go_enter Tryz.func4, Tryz.ntmps4
  go_wp2
  go_ret
  exact ⟨rfl, Below.refl _ _⟩
end Go.Proofs.YtmglidfnolmcaaaGreatDoor

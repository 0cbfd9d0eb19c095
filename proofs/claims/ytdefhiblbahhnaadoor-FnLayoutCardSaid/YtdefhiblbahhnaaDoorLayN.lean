/-
  The names of the cells in plain words: a word and numbers, each behind a space; all 71 names differ, none is empty.
-/
import Derived.Test.YtdefhiblbahhnaaDoorMathE
import Derived.Test.YtdefhiblbahhnaaDoorLay
namespace Go.Proofs.YtdefhiblbahhnaaDoor.M
open Go.RowKit
def sp : ByteArray := ⟨#[32]⟩
/-- A word, and each number behind a space. -/
def num (s : ByteArray) (zs : List Int) : ByteArray := zs.foldl (fun a n => a ++ (sp ++ decs n)) s
theorem num_step (s : ByteArray) (zs : List Int) (j : Nat) (h : j < zs.length) : num s (zs.take (j + 1)) = num s (zs.take j) ++ (sp ++ decs (zs.getD j 0)) := by
  unfold num
  rw [List.take_succ_eq_append_getElem h, List.foldl_append, List.getD_eq_getElem?_getD, List.getElem?_eq_getElem h]
  rfl
theorem decs_size {k : Int} (h0 : 0 ≤ k) (h1 : k < 10) : (decs k).size = 1 := by
  unfold decs Lib.itoa
  rw [if_neg (by omega), dec_small (by omega)]
  rfl
theorem num_size (s : ByteArray) (zs : List Int) (h : ∀ z ∈ zs, 0 ≤ z ∧ z < 10) : (num s zs).size = s.size + 2 * zs.length := by
  induction zs generalizing s with
  | nil => simp [num]
  | cons z zs ih =>
    have e : num s (z :: zs) = num (s ++ (sp ++ decs z)) zs := rfl
    rw [e, ih _ fun x hx => h x (List.mem_cons_of_mem _ hx), ByteArray.size_append, ByteArray.size_append, decs_size (h z List.mem_cons_self).1 (h z List.mem_cons_self).2]
    have : sp.size = 1 := rfl
    rw [this, List.length_cons]; omega
def wStripe : ByteArray := ⟨#[115, 116, 114, 105, 112, 101]⟩
def wStamp : ByteArray := ⟨#[115, 116, 97, 109, 112]⟩
def wGauge : ByteArray := ⟨#[103, 97, 117, 103, 101]⟩
def wTicket : ByteArray := ⟨#[116, 105, 99, 107, 101, 116]⟩
def wRing : ByteArray := ⟨#[114, 105, 110, 103]⟩
def wIn : ByteArray := ⟨#[105, 110]⟩
def wKey : ByteArray := ⟨#[107, 101, 121]⟩
def wEpoch : ByteArray := ⟨#[101, 112, 111, 99, 104]⟩
/-- The name of cell k of slot s of buffer b. -/
def partN (b s k : Int) : ByteArray :=
  if k < 2 then num wStripe [b, s, k] else if k = 2 then num wStamp [b, s] else if k = 3 then num wGauge [b, s] else if k = 4 then num wTicket [b, s] else num wRing [b, s, k - 5]
/-- The name of cell i. -/
def nameV (i : Int) : ByteArray :=
  if i < 0 ∨ 70 < i then ⟨#[]⟩ else if i = 0 then wEpoch else if i < 3 then num wIn [i - 1] else if i < 7 then num wKey [i - 3] else partN ((i - 7) / 32) ((i - 7) % 32 / 8) ((i - 7) % 8)
theorem names_nodup : ((List.range 71).map fun n : Nat => nameV n).Nodup := by decide +kernel
theorem names_some : ∀ n : Nat, n < 71 → (nameV n == (⟨#[]⟩ : ByteArray)) = false := by decide +kernel
theorem names_ne {i j : Nat} (hi : i < j) (hj : j < 71) : nameV i ≠ nameV j := by
  have := List.pairwise_iff_getElem.1 names_nodup i j (by simp; omega) (by simp; omega) hi
  simpa using this
theorem names_inj {i j : Nat} (hi : i < 71) (hj : j < 71) (h : nameV i = nameV j) : i = j := by
  rcases Nat.lt_trichotomy i j with h1 | h1 | h1
  · exact absurd h (names_ne h1 hj)
  · exact h1
  · exact absurd h.symm (names_ne h1 hi)
end Go.Proofs.YtdefhiblbahhnaaDoor.M

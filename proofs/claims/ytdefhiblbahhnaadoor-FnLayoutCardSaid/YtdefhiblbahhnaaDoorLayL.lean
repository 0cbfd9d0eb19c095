/-
  The ten cells that the law on the layout names, in plain words: they differ, each is a cell, and two of their names are spelt out.
-/
import Derived.Test.YtdefhiblbahhnaaDoorLayN
namespace Go.Proofs.YtdefhiblbahhnaaDoor.M
open Go.RowKit
/-- The cells that the law names for buffer b, slot s, sample k. -/
def layL (b s k : Nat) : List Nat := [0, 1, 2, 3 + s, 7 + 32 * b + 8 * s, 8 + 32 * b + 8 * s, 9 + 32 * b + 8 * s, 10 + 32 * b + 8 * s, 11 + 32 * b + 8 * s, 12 + 32 * b + 8 * s + k]
theorem layL_fine : ∀ b, b < 2 → ∀ s, s < 4 → ∀ k, k < 3 → (layL b s k).Nodup ∧ ∀ x ∈ layL b s k, x < 71 := by decide +kernel
theorem lay_bd {b s k : Nat} (hb : b < 2) (hs : s < 4) (hk : k < 3) {j : Nat} (hj : j < 10) : (layL b s k).getD j 0 < 71 := by
  have hl : j < (layL b s k).length := hj
  rw [List.getD_eq_getElem?_getD, List.getElem?_eq_getElem hl]
  exact (layL_fine b hb s hs k hk).2 _ (List.getElem_mem _)
theorem lay_ne {b s k : Nat} (hb : b < 2) (hs : s < 4) (hk : k < 3) {i j : Nat} (hi : i < j) (hj : j < 10) : nameV ((layL b s k).getD i 0 : Nat) ≠ nameV ((layL b s k).getD j 0 : Nat) := by
  intro h
  have e := names_inj (lay_bd hb hs hk (by omega)) (lay_bd hb hs hk hj) h
  have hl : j < (layL b s k).length := hj
  have hl' : i < (layL b s k).length := by omega
  rw [List.getD_eq_getElem?_getD, List.getD_eq_getElem?_getD, List.getElem?_eq_getElem hl, List.getElem?_eq_getElem hl'] at e
  exact List.pairwise_iff_getElem.1 (layL_fine b hb s hs k hk).1 i j hl' hl hi e
/-- "buffer slot". -/
def twoN (b s : Int) : ByteArray := (decs b ++ (⟨#[32]⟩ : ByteArray)) ++ decs s
theorem name9 : ∀ b, b < 2 → ∀ s, s < 4 → ∀ k, k < 3 → nameV ((12 + 32 * b + 8 * s + k : Nat) : Int) = (((⟨#[114, 105, 110, 103, 32]⟩ : ByteArray) ++ twoN (b : Nat) (s : Nat)) ++ (⟨#[32]⟩ : ByteArray)) ++ decs (k : Nat) := by decide +kernel
theorem name7 : ∀ b, b < 2 → ∀ s, s < 4 → nameV ((10 + 32 * b + 8 * s : Nat) : Int) = (⟨#[103, 97, 117, 103, 101, 32]⟩ : ByteArray) ++ twoN (b : Nat) (s : Nat) := by decide +kernel
theorem name71 : nameV 71 = ⟨#[]⟩ := by decide +kernel
theorem name_some {n : Nat} (h : n < 71) : nameV n ≠ ⟨#[]⟩ := fun e => by
  have := names_some n h
  rw [e] at this
  exact absurd this (by decide)
theorem twoN_size {b s : Int} (h0 : 0 ≤ b) (h1 : b < 10) (h2 : 0 ≤ s) (h3 : s < 10) : (twoN b s).size = 3 := by
  unfold twoN
  rw [ByteArray.size_append, ByteArray.size_append, decs_size h0 h1, decs_size h2 h3]; rfl
end Go.Proofs.YtdefhiblbahhnaaDoor.M

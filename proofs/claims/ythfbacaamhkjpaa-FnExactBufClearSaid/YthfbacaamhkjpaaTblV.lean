/-
  Chapter 6 in plain words: where a key's way ends; what registering makes of the cells; the keys of a table; when a table is right.
-/
import Derived.Test.YthfbacaamhkjpaaKdV
import Derived.Test.YthfbacaamhkjpaaCells
namespace Go.Proofs.Ythfbacaamhkjpaa
open Go.RowKit M
set_option linter.unusedVariables false
/-- What a slot's key cell holds. -/
def cellK (zs : List Int) (s : Int) : Int := zs.getD (3 + s).toNat 0
/-- Does a key's way end at its n-th slot: the slot, the kind, the free slot. -/
def stepF (zs : List Int) (key : ByteArray) (n : Int) : Option (Int × Int × Int) :=
  if cellK zs (probeV key n) = 0 then some (-1, 0, probeV key n)
  else match untagV (cellK zs (probeV key n)) with
    | some (k, kd) => if k = key then some (probeV key n, kd, -1) else none
    | none => none
/-- Where a key's way ends. -/
def findV (zs : List Int) (key : ByteArray) : Int × Int × Int :=
  (((stepF zs key 0).orElse fun _ => (stepF zs key 1).orElse fun _ => (stepF zs key 2).orElse fun _ => stepF zs key 3).getD (-1, 0, -1))
theorem findV_at {zs : List Int} {key : ByteArray} {n : Nat} (hn : n < 4) (h : ∀ m : Nat, m < n → stepF zs key m = none) {r : Int × Int × Int} (hr : stepF zs key n = some r) : findV zs key = r := by
  unfold findV
  have hn' : n = 0 ∨ n = 1 ∨ n = 2 ∨ n = 3 := by omega
  rcases hn' with rfl | rfl | rfl | rfl
  · have hr' : stepF zs key 0 = some r := hr
    rw [hr']; rfl
  · have h0 : stepF zs key 0 = none := h 0 (by omega)
    have hr' : stepF zs key 1 = some r := hr
    rw [h0, hr']; rfl
  · have h0 : stepF zs key 0 = none := h 0 (by omega)
    have h1 : stepF zs key 1 = none := h 1 (by omega)
    have hr' : stepF zs key 2 = some r := hr
    rw [h0, h1, hr']; rfl
  · have h0 : stepF zs key 0 = none := h 0 (by omega)
    have h1 : stepF zs key 1 = none := h 1 (by omega)
    have h2 : stepF zs key 2 = none := h 2 (by omega)
    have hr' : stepF zs key 3 = some r := hr
    rw [h0, h1, h2, hr']; rfl
theorem findV_none {zs : List Int} {key : ByteArray} (h : ∀ m : Nat, m < 4 → stepF zs key m = none) : findV zs key = (-1, 0, -1) := by
  unfold findV
  have h0 : stepF zs key 0 = none := h 0 (by omega)
  have h1 : stepF zs key 1 = none := h 1 (by omega)
  have h2 : stepF zs key 2 = none := h 2 (by omega)
  have h3 : stepF zs key 3 = none := h 3 (by omega)
  rw [h0, h1, h2, h3]; rfl
theorem none_next {zs : List Int} {key : ByteArray} {n : Nat} (h : ∀ m : Nat, m < n → stepF zs key m = none) (hn : stepF zs key n = none) : ∀ m : Nat, m < n + 1 → stepF zs key m = none := fun m hm => by
  by_cases e : m = n
  · subst e; exact hn
  · exact h m (by omega)
theorem probe_bd {key : ByteArray} (hk : keyOkV key = true) {n : Nat} (hn : n < 4) : 0 ≤ probeV key n ∧ probeV key n ≤ 3 := by
  rw [probeV_yes hk hn]; omega
theorem stepF_bd {zs : List Int} {key : ByteArray} (hk : keyOkV key = true) {n : Nat} (hn : n < 4) {r : Int × Int × Int} (h : stepF zs key n = some r) : (-1 ≤ r.1 ∧ r.1 ≤ 3) ∧ (0 ≤ r.2.1 ∧ r.2.1 ≤ 3) ∧ (-1 ≤ r.2.2 ∧ r.2.2 ≤ 3) ∧ (r.1 = -1 ∨ r.2.2 = -1) := by
  have hp := probe_bd hk hn
  unfold stepF at h
  split at h
  · injection h with h; subst h
    exact ⟨⟨show (-1 : Int) ≤ -1 by decide, show (-1 : Int) ≤ 3 by decide⟩, ⟨show (0 : Int) ≤ 0 by decide, show (0 : Int) ≤ 3 by decide⟩, ⟨show (-1 : Int) ≤ probeV key n by omega, hp.2⟩, Or.inl rfl⟩
  · split at h
    · split at h
      · rename_i k kd hu _
        injection h with h; subst h
        have := tag_untag hu
        exact ⟨⟨by show (-1 : Int) ≤ probeV key n; omega, hp.2⟩, ⟨by show (0 : Int) ≤ kd; omega, by show kd ≤ 3; omega⟩, ⟨show (-1 : Int) ≤ -1 by decide, show (-1 : Int) ≤ 3 by decide⟩, Or.inr rfl⟩
      · cases h
    · cases h
theorem findV_bd {zs : List Int} {key : ByteArray} (hk : keyOkV key = true) : (-1 ≤ (findV zs key).1 ∧ (findV zs key).1 ≤ 3) ∧ (0 ≤ (findV zs key).2.1 ∧ (findV zs key).2.1 ≤ 3) ∧ (-1 ≤ (findV zs key).2.2 ∧ (findV zs key).2.2 ≤ 3) ∧ ((findV zs key).1 = -1 ∨ (findV zs key).2.2 = -1) := by
  cases h0 : stepF zs key (0 : Nat) with
  | some r => rw [findV_at (n := 0) (by omega) (fun m hm => by omega) h0]; exact stepF_bd hk (by omega) h0
  | none =>
    have n1 := none_next (n := 0) (fun m hm => absurd hm (Nat.not_lt_zero _)) h0
    cases h1 : stepF zs key (1 : Nat) with
    | some r => rw [findV_at (n := 1) (by omega) n1 h1]; exact stepF_bd hk (by omega) h1
    | none =>
      have n2 := none_next n1 h1
      cases h2 : stepF zs key (2 : Nat) with
      | some r => rw [findV_at (n := 2) (by omega) n2 h2]; exact stepF_bd hk (by omega) h2
      | none =>
        have n3 := none_next n2 h2
        cases h3 : stepF zs key (3 : Nat) with
        | some r => rw [findV_at (n := 3) (by omega) n3 h3]; exact stepF_bd hk (by omega) h3
        | none => rw [findV_none (none_next n3 h3)]; decide
/-- FindKey's answers. -/
def fkS (zs : List Int) (key : ByteArray) : Int := if okC zs = true ∧ keyOkV key = true then (findV zs key).1 else -1
def fkK (zs : List Int) (key : ByteArray) : Int := if okC zs = true ∧ keyOkV key = true then (findV zs key).2.1 else 0
/-- Register's answers. -/
def regOk (zs : List Int) (key : ByteArray) (k : Int) : Bool := okC zs && (keyOkV key && (decide (1 ≤ k) && decide (k ≤ 3)))
def regC (zs : List Int) (key : ByteArray) (k : Int) : List Int := if regOk zs key k = true ∧ (findV zs key).1 < 0 ∧ 0 ≤ (findV zs key).2.2 then zs.set (3 + (findV zs key).2.2).toNat (tagV key k) else zs
def regS (zs : List Int) (key : ByteArray) (k : Int) : Int := if regOk zs key k = true then (if 0 ≤ (findV zs key).1 then (findV zs key).1 else (findV zs key).2.2) else -1
def regD (zs : List Int) (key : ByteArray) (k : Int) : Int :=
  if regOk zs key k = true then (if 0 ≤ (findV zs key).1 then (if (findV zs key).2.1 = k then 0 else 4) else (if (findV zs key).2.2 < 0 then 3 else 0)) else 1
theorem regC_length (zs : List Int) (key : ByteArray) (k : Int) : (regC zs key k).length = zs.length := by unfold regC; split <;> simp
/-- The keys of the first j slots. -/
def keysT (zs : List Int) (j : Nat) : List ByteArray := (List.range j).flatMap fun s : Nat => match untagV (cellK zs s) with | some x => [x.1] | none => []
theorem keysT_zero (zs : List Int) : keysT zs 0 = [] := rfl
theorem keysT_some {zs : List Int} {j : Nat} {x : ByteArray × Int} (h : untagV (cellK zs (j : Nat)) = some x) : keysT zs (j + 1) = keysT zs j ++ [x.1] := by
  unfold keysT; rw [List.range_succ, List.flatMap_append, List.flatMap_cons, List.flatMap_nil, List.append_nil, h]
theorem keysT_none {zs : List Int} {j : Nat} (h : untagV (cellK zs (j : Nat)) = none) : keysT zs (j + 1) = keysT zs j := by
  unfold keysT; rw [List.range_succ, List.flatMap_append, List.flatMap_cons, List.flatMap_nil, List.append_nil, h, List.append_nil]
theorem keysT_len (zs : List Int) (j : Nat) : (keysT zs j).length ≤ j := by
  induction j with
  | zero => exact Nat.le_refl _
  | succ j ih =>
    cases h : untagV (cellK zs (j : Nat)) with
    | none => rw [keysT_none h]; omega
    | some x => rw [keysT_some h, List.length_append]; simp; omega
def keysV (zs : List Int) : List ByteArray := if okC zs = true then keysT zs 4 else []
theorem keysV_len (zs : List Int) : (keysV zs).length ≤ 4 := by
  unfold keysV; split
  · exact keysT_len zs 4
  · simp
/-- Is slot s free, or its key found there? -/
def slotR (zs : List Int) (s : Int) : Bool := if cellK zs s = 0 then true else match untagV (cellK zs s) with | some (k, _) => decide ((findV zs k).1 = s) | none => false
def tableV (zs : List Int) : Bool := okC zs && (slotR zs 0 && (slotR zs 1 && (slotR zs 2 && slotR zs 3)))
theorem slotR_free {zs : List Int} {s : Int} (h : cellK zs s = 0) : slotR zs s = true := if_pos h
theorem slotR_none {zs : List Int} {s : Int} (h : cellK zs s ≠ 0) (hu : untagV (cellK zs s) = none) : slotR zs s = false := by unfold slotR; rw [if_neg h, hu]
theorem slotR_some {zs : List Int} {s : Int} {k : ByteArray} {kd : Int} (h : cellK zs s ≠ 0) (hu : untagV (cellK zs s) = some (k, kd)) : slotR zs s = decide ((findV zs k).1 = s) := by unfold slotR; rw [if_neg h, hu]
theorem tableV_all {zs : List Int} (h : okC zs = true) (hs : ∀ m : Nat, m < 4 → slotR zs m = true) : tableV zs = true := by
  have h0 : slotR zs 0 = true := hs 0 (by omega)
  have h1 : slotR zs 1 = true := hs 1 (by omega)
  have h2 : slotR zs 2 = true := hs 2 (by omega)
  have h3 : slotR zs 3 = true := hs 3 (by omega)
  unfold tableV; rw [h, h0, h1, h2, h3]; rfl
theorem tableV_no {zs : List Int} {m : Nat} (hm : m < 4) (h : slotR zs m = false) : tableV zs = false := by
  have hm' : m = 0 ∨ m = 1 ∨ m = 2 ∨ m = 3 := by omega
  unfold tableV
  rcases hm' with rfl | rfl | rfl | rfl
  · have h' : slotR zs 0 = false := h
    rw [h']; simp
  · have h' : slotR zs 1 = false := h
    rw [h']; simp
  · have h' : slotR zs 2 = false := h
    rw [h']; simp
  · have h' : slotR zs 3 = false := h
    rw [h']; simp
theorem tableV_cells {zs : List Int} (h : okC zs = false) : tableV zs = false := by unfold tableV; rw [h]; rfl
end Go.Proofs.Ythfbacaamhkjpaa

/-
  Chapter 15 in plain words: the model of cells in which nobody works; its keys, put in one by one, are its names sorted.
-/
import Derived.Test.YtlnkjpacjbhncaaGreatDoorZb
import Derived.Test.YtlnkjpacjbhncaaGreatDoorZa
import Derived.Sort.Walk0
import Derived.Sort.EncStr
import Derived.Lib.Strings
namespace Go.Proofs.YtlnkjpacjbhncaaGreatDoor
open Go.RowKit M
set_option linter.unusedVariables false
/-- The keys of the first j slots with their kinds, in order. -/
def krT (zs : List Int) : Nat → List KR
  | 0 => []
  | j + 1 => match untagV (cellK zs (j : Nat)) with | some x => insK ⟨x.1, x.2⟩ (krT zs j) | none => krT zs j
theorem krT_some {zs : List Int} {j : Nat} {x : ByteArray × Int} (h : untagV (cellK zs (j : Nat)) = some x) : krT zs (j + 1) = insK ⟨x.1, x.2⟩ (krT zs j) := by
  show (match untagV (cellK zs (j : Nat)) with | some x => insK ⟨x.1, x.2⟩ (krT zs j) | none => krT zs j) = _
  rw [h]
theorem krT_none {zs : List Int} {j : Nat} (h : untagV (cellK zs (j : Nat)) = none) : krT zs (j + 1) = krT zs j := by
  show (match untagV (cellK zs (j : Nat)) with | some x => insK ⟨x.1, x.2⟩ (krT zs j) | none => krT zs j) = _
  rw [h]
/-- The model of cells in which nobody works. -/
def moV (zs : List Int) : Mo := if tableV zs = true then ⟨krT zs 4, reportInV zs (zs.getD 0 0 % 2)⟩ else ⟨[], []⟩
/-- Names sorted. -/
def srtV (ks : List ByteArray) : List ByteArray := ((ks.map fun k => k.data.toList).mergeSort fun x y => decide (x ≤ y)).map fun l => ⟨l.toArray⟩
theorem krT_len (zs : List Int) (j : Nat) : (krT zs j).length = (keysT zs j).length := by
  induction j with
  | zero => rfl
  | succ j ih =>
    cases h : untagV (cellK zs (j : Nat)) with
    | none => rw [krT_none h, keysT_none h, ih]
    | some x => rw [krT_some h, keysT_some h, insK_len, List.length_append, ih]; rfl
theorem insK_perm (k : KR) (l : List KR) : (insK k l).Perm (k :: l) := by
  induction l with
  | nil => exact List.Perm.refl _
  | cons x l ih =>
    unfold insK
    split
    · exact List.Perm.refl _
    · exact (List.Perm.cons x ih).trans (List.Perm.swap k x l)
theorem krT_perm (zs : List Int) (j : Nat) : ((krT zs j).map fun r => r.key.data.toList).Perm ((keysT zs j).map fun k => k.data.toList) := by
  induction j with
  | zero => exact List.Perm.refl _
  | succ j ih =>
    cases h : untagV (cellK zs (j : Nat)) with
    | none => rw [krT_none h, keysT_none h]; exact ih
    | some x =>
      rw [krT_some h, keysT_some h]
      refine ((insK_perm ⟨x.1, x.2⟩ (krT zs j)).map _).trans ?_
      rw [List.map_cons, List.map_append]
      exact (List.Perm.cons _ ih).trans (List.perm_append_singleton _ _).symm
/-- The names in order, one like another allowed. -/
def Asce (l : List KR) : Prop := l.Pairwise fun a b => a.key.data.toList ≤ b.key.data.toList
theorem strLt_iff (a b : ByteArray) : strLt a b = true ↔ a.data.toList < b.data.toList := by
  unfold strLt
  rw [Go.Lib.toList_data, Go.Lib.toList_data, Go.Proofs.bytesLess_eq, decide_eq_true_eq]
theorem insK_asce {k : KR} {l : List KR} (h : Asce l) : Asce (insK k l) := by
  induction l with
  | nil => exact List.pairwise_singleton _ _
  | cons x l ih =>
    obtain ⟨h1, h2⟩ := List.pairwise_cons.1 h
    unfold insK
    split
    · rename_i hlt
      have hlt' := (strLt_iff _ _).1 hlt
      refine List.pairwise_cons.2 ⟨fun y hy => ?_, h⟩
      have hle := List.le_of_lt hlt'
      rcases List.mem_cons.1 hy with rfl | hy
      · exact hle
      · exact List.le_trans hle (h1 y hy)
    · rename_i hge
      have hle : x.key.data.toList ≤ k.key.data.toList := List.not_lt.1 fun q => hge ((strLt_iff _ _).2 q)
      refine List.pairwise_cons.2 ⟨fun y hy => ?_, ih h2⟩
      have hy' := (insK_perm k l).mem_iff.1 hy
      rcases List.mem_cons.1 hy' with rfl | hy'
      · exact hle
      · exact h1 y hy'
theorem krT_asce (zs : List Int) (j : Nat) : Asce (krT zs j) := by
  induction j with
  | zero => exact List.Pairwise.nil
  | succ j ih =>
    cases h : untagV (cellK zs (j : Nat)) with
    | none => rw [krT_none h]; exact ih
    | some x => rw [krT_some h]; exact insK_asce ih
theorem srt_eq (zs : List Int) (j : Nat) : ((keysT zs j).map fun k => k.data.toList).mergeSort (fun x y => decide (x ≤ y)) = (krT zs j).map fun r => r.key.data.toList := by
  have tr : ∀ a b c : List UInt8, decide (a ≤ b) = true → decide (b ≤ c) = true → decide (a ≤ c) = true := fun a b c h1 h2 => by simp only [decide_eq_true_eq] at *; exact List.le_trans h1 h2
  have to : ∀ a b : List UInt8, (decide (a ≤ b) || decide (b ≤ a)) = true := fun a b => by simp only [Bool.or_eq_true, decide_eq_true_eq]; exact List.le_total a b
  refine List.Perm.eq_of_pairwise (le := fun a b => decide (a ≤ b) = true) (fun a b _ _ h1 h2 => ?_) (List.pairwise_mergeSort tr to _) ?_ ((List.mergeSort_perm _ _).trans (krT_perm zs j).symm)
  · simp only [decide_eq_true_eq] at h1 h2
    exact List.le_antisymm h1 h2
  · rw [List.pairwise_map]
    exact (krT_asce zs j).imp fun h => by rw [decide_eq_true_eq]; exact h
theorem slot_all {zs : List Int} (h : tableV zs = true) : ∀ m : Nat, m < 4 → slotR zs m = true := fun m hm => by
  cases hs : slotR zs (m : Nat) with
  | true => rfl
  | false => rw [tableV_no hm hs] at h; cases h
theorem krT_kind {zs : List Int} (h : tableV zs = true) (hc : okC zs = true) (j : Nat) (hj : j ≤ 4) : ∀ r ∈ krT zs j, r.kind = fkK zs r.key ∧ keyOkV r.key = true := by
  induction j with
  | zero => intro r hr; cases hr
  | succ j ih =>
    cases hu : untagV (cellK zs (j : Nat)) with
    | none => rw [krT_none hu]; exact ih (by omega)
    | some x =>
      obtain ⟨k, kd⟩ := x
      rw [krT_some hu]
      intro r hr
      rcases List.mem_cons.1 ((insK_perm _ _).mem_iff.1 hr) with rfl | hr
      · have hk := (tag_untag hu).2.1
        refine ⟨?_, hk⟩
        have h0 : cellK zs (j : Nat) ≠ 0 := fun e => by rw [e, untagV_zero] at hu; cases hu
        have hs := slot_all h j (by omega)
        rw [slotR_some h0 hu] at hs
        have hs' : (findV zs k).1 = (j : Nat) := of_decide_eq_true hs
        show kd = fkK zs k
        unfold fkK
        rw [if_pos ⟨hc, hk⟩]
        rcases findV_ends zs hk with e | ⟨p, hp0, hp3, ⟨e, _⟩ | ⟨kd', e, _, hu'⟩⟩
        · rw [e] at hs'; have : (-1 : Int) = (j : Nat) := hs'; omega
        · rw [e] at hs'; have : (-1 : Int) = (j : Nat) := hs'; omega
        · rw [e] at hs'
          have hpj : p = (j : Nat) := hs'
          subst hpj
          rw [hu] at hu'
          injection hu' with hu'
          injection hu' with _ hu'
          rw [e, hu']
      · exact ih (by omega) r hr
theorem keysV_table {zs : List Int} (h : okC zs = true) : keysV zs = keysT zs 4 := if_pos h
theorem table_cells {zs : List Int} (h : tableV zs = true) : okC zs = true := by
  cases hc : okC zs with
  | true => rfl
  | false => rw [tableV_cells hc] at h; cases h
theorem ba_eta (b : ByteArray) : (⟨b.data.toList.toArray⟩ : ByteArray) = b := by cases b; rfl
/-- The names sorted, each with its kind, are the keys put in one by one. -/
theorem srt_keys {zs : List Int} (h : tableV zs = true) : (srtV (keysV zs)).map (fun k => (⟨k, fkK zs k⟩ : KR)) = krT zs 4 := by
  have hc := table_cells h
  unfold srtV
  rw [keysV_table hc, srt_eq, List.map_map, List.map_map]
  have : ∀ l : List KR, (∀ r ∈ l, r.kind = fkK zs r.key) → l.map ((fun k => (⟨k, fkK zs k⟩ : KR)) ∘ (fun l : List UInt8 => (⟨l.toArray⟩ : ByteArray)) ∘ fun r : KR => r.key.data.toList) = l := fun l hl => by
    induction l with
    | nil => rfl
    | cons r l ih =>
      rw [List.map_cons, ih fun x hx => hl x (List.mem_cons_of_mem _ hx)]
      congr 1
      show (⟨⟨r.key.data.toList.toArray⟩, fkK zs ⟨r.key.data.toList.toArray⟩⟩ : KR) = r
      rw [ba_eta, ← hl r List.mem_cons_self]
  exact this _ fun r hr => (krT_kind h hc 4 (Nat.le_refl _) r hr).1
theorem srt_len (zs : List Int) : (srtV (keysV zs)).length = (keysV zs).length := by
  unfold srtV
  rw [List.length_map, List.length_mergeSort, List.length_map]
theorem srt_ok {zs : List Int} (h : tableV zs = true) : ∀ k ∈ srtV (keysV zs), keyOkV k = true := fun k hk => by
  have : (⟨k, fkK zs k⟩ : KR) ∈ krT zs 4 := by rw [← srt_keys h]; exact List.mem_map_of_mem hk
  exact (krT_kind h (table_cells h) 4 (Nat.le_refl _) _ this).2
end Go.Proofs.YtlnkjpacjbhncaaGreatDoor

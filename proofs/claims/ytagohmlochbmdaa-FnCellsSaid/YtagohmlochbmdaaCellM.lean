/-
  Chapter 2 in plain words: what is stored is loaded, no other cell changes, sums go round the word.
-/
import Derived.Test.YtagohmlochbmdaaCellZ
namespace Go.Proofs.Ytagohmlochbmdaa
open Go.RowKit M
set_option linter.unusedVariables false
theorem getD_set {zs : List Int} {j : Nat} (n : Int) (hj : j < zs.length) : (zs.set j n).getD j 0 = n := by
  rw [List.getD_eq_getElem?_getD, List.getElem?_set_self hj]; rfl
theorem at_set {zs : List Int} {i n : Int} (h : atC zs i = true) (hn : isW n = true) : atC (zs.set i.toNat n) i = true := by
  obtain ⟨h0, h1, h2⟩ := atC_iff.1 h
  exact atC_iff.2 ⟨okC_set h0 _ _ hn, h1, h2⟩
theorem at_lt {zs : List Int} {i : Int} (h : atC zs i = true) : i.toNat < zs.length := by
  obtain ⟨h0, h1, h2⟩ := atC_iff.1 h
  have := okC_len h0
  omega
/-- All that the law of chapter 2 asks of a cell that was stored. -/
structure Chain (zs : List Int) (i n : Int) (xs zz dd : List Int) : Prop where
  at_ : atC xs i = true
  load : xs.getD i.toNat 0 = n
  swap : storeC xs i 7 = zz
  old : swapR xs i 7 = n
  cas : casC zz i 7 n = xs
  good : casR zz i 7 n = true
  bad : casR zz i 8 n = false
  add : addC xs i 281474976710655 = dd
  was : addR xs i 281474976710655 = n
  back : addC dd i 1 = xs
  fine : okC dd = true
  len : xs.length = 71 ∧ zz.length = 71 ∧ dd.length = 71
theorem chain_of {zs : List Int} {i n : Int} (h : storeOk zs i n = true) : Chain zs i n (storeC zs i n) ((storeC zs i n).set i.toNat 7) ((storeC zs i n).set i.toNat (addV n 281474976710655)) := by
  rw [store_yes h]
  simp only [storeOk, Bool.and_eq_true] at h
  obtain ⟨ha, hn⟩ := h
  have hlt := at_lt ha
  have hx := at_set ha hn
  have hl := okC_len (atC_iff.1 hx).1
  have hg := getD_set n hlt
  generalize hxs : zs.set i.toNat n = xs at *
  have hlt2 : i.toNat < xs.length := by rw [← hxs]; simpa using hlt
  have s7 : storeOk xs i 7 = true := by unfold storeOk; rw [hx]; rfl
  have h7 := at_set hx (n := 7) rfl
  have g7 := getD_set 7 hlt2
  have l7 : i.toNat < (xs.set i.toNat 7).length := by simpa using hlt2
  have back : (xs.set i.toNat 7).set i.toNat n = xs := by rw [← hxs]; simp
  have b7 : addOk xs i 281474976710655 = true := by unfold addOk; rw [hx]; rfl
  have hd := at_set hx (addV_isW n 281474976710655)
  have gd := getD_set (addV n 281474976710655) hlt2
  have b1 : addOk (xs.set i.toNat (addV n 281474976710655)) i 1 = true := by unfold addOk; rw [hd]; rfl
  have hm : addV (addV n 281474976710655) 1 = n := by have := isW_iff.1 hn; unfold addV; omega
  refine ⟨hx, hg, store_yes s7, by rw [swapR, if_pos s7, hg], ?_, ?_, ?_, ?_, ?_, ?_, (atC_iff.1 hd).1, by simp [hl]⟩
  · have c : casOk (xs.set i.toNat 7) i 7 = true := by unfold casOk; rw [h7, g7]; rfl
    have s : storeOk (xs.set i.toNat 7) i n = true := by unfold storeOk; rw [h7, hn]; rfl
    rw [casC, if_pos c, store_yes s, back]
  · have s : storeOk (xs.set i.toNat 7) i n = true := by unfold storeOk; rw [h7, hn]; rfl
    unfold casR casOk; rw [h7, g7, s]; rfl
  · unfold casR casOk; rw [h7, g7]; rfl
  · rw [addC, if_pos b7, hg]
  · rw [addR, if_pos b7, hg]
  · rw [addC, if_pos b1, gd, hm, List.set_set, ← hxs, List.set_set]
theorem same_yes (w : World) (v u : Value) (xs : List Int) (h : Ints w v xs) (k : Ints w u xs) :
    Calls Try.prog 15 #[v, u] w (Quiet w (.bool true)) := by
  have h := sSame_any w v u xs xs h k
  rwa [beq_self_eq_true] at h
theorem isame_yes (w : World) (v u : Value) (xs : List Int) (h : Ints w v xs) (k : Ints w u xs) :
    Calls Try.prog 20 #[v, u] w (Quiet w (.bool true)) := by
  have h := iSame_any w v u xs xs h k
  rwa [beq_self_eq_true] at h
end Go.Proofs.Ytagohmlochbmdaa

/-
  Contracts of chapter 2, the model's and the program's: storing into a cell, at once, by comparison, by exchange, by a sum; comparing two rows.
-/
import Derived.Test.YtmnkjjgfebfgmaaDoorCellB
import Derived.Test.YtmnkjjgfebfgmaaDoorIntA
namespace Go.Proofs.YtmnkjjgfebfgmaaDoor
open Go.RowKit M
set_option linter.unusedVariables false
/-- A call hands back a new row that reads zs, and r beside it; it turns nothing that was there. -/
def TupI (w : World) (zs : List Int) (r : Value) (e : Ending) (w' : World) : Prop := ∃ v, e = .returned (.tuple #[v, r]) ∧ OwnI w' w.heap.size v zs ∧ Below w.heap.size w w'
/-- What a store makes of the row. -/
def storeC (zs : List Int) (i n : Int) : List Int := if atC zs i && isW n then zs.set i.toNat n else zs
def storeOk (zs : List Int) (i n : Int) : Bool := atC zs i && isW n
theorem store_yes {zs : List Int} {i n : Int} (h : storeOk zs i n = true) : storeC zs i n = zs.set i.toNat n := if_pos h
theorem store_no {zs : List Int} {i n : Int} (h : storeOk zs i n = false) : storeC zs i n = zs := if_neg (by unfold storeOk at h; rw [h]; decide)
theorem storeC_length (zs : List Int) (i n : Int) : (storeC zs i n).length = zs.length := by unfold storeC; split <;> simp
set_option maxRecDepth 100000 in
theorem iStore_yes (w : World) (v : Value) (zs : List Int) (i n : Int) (h : Ints w v zs) (hl : zs.length ≤ 1048576) (hs : storeOk zs i n = true) :
    Calls Tryd.prog 51 #[v, .int .i64 i, .int .i64 n] w (TupI w (storeC zs i n) (.bool true)) := by
  rw [store_yes hs]
  have hs' := hs
  simp only [storeOk, Bool.and_eq_true] at hs'
  obtain ⟨ha, hn⟩ := hs'
  obtain ⟨h0, i0, i1⟩ := atC_iff.1 ha
  have hlen := okC_len h0
  obtain ⟨j, rfl⟩ := Int.eq_ofNat_of_zero_le i0
  have hj : j < zs.length := by omega
  have HC := Lib.hid (clone_any w v zs h hl)
  have HI := Lib.hid h
  have HA := Lib.hid ha
  have HN := Lib.hid hn
  clear hs ha hn h0 h hlen
  go_enter Tryd.func51, Tryd.ntmps51
  go_wp2_with fail
  refine HC.out.mono ?_
  rintro e w1 ⟨u, rfl, ho, hb⟩
  obtain ⟨g, cap, rfl⟩ := ho.2
  have HS := Lib.hid (iLoad_yes w1 v zs _ (HI.out.below hb) HA.out)
  have hf := ho.frz j
  obtain ⟨z, hz⟩ : ∃ z, w1.cell? ⟨g, j, none⟩ = some z := ⟨_, ho.cell j hj⟩
  have HO := Lib.hid (own_set ho j n hb hb.size)
  generalize hm : zs.length = m at *
  have HM := Lib.hid hm
  have hm2 : m ≤ 9223372036854775807 := by omega
  clear hm ho hb
  go_wp2_with (first | (go_at_call 50; refine HS.out.mono ?_; rintro e w' ⟨rfl, rfl⟩) | (go_at_call 41; refine (isWord_yes _ _ HN.out).mono ?_; rintro e w' ⟨rfl, rfl⟩))
  go_ret2
  exact ⟨_, rfl, by rw [Int.toNat_natCast]; exact HO.out.1, HO.out.2⟩
set_option maxRecDepth 100000 in
theorem iStore_no (w : World) (v : Value) (zs : List Int) (i n : Int) (h : Ints w v zs) (hl : zs.length ≤ 1048576) (hs : storeOk zs i n = false) :
    Calls Tryd.prog 51 #[v, .int .i64 i, .int .i64 n] w (TupI w (storeC zs i n) (.bool false)) := by
  rw [store_no hs]
  have HC := Lib.hid (clone_any w v zs h hl)
  have HI := Lib.hid h
  cases ha : atC zs i with
  | false =>
    have HA := Lib.hid ha
    clear hs ha h
    go_enter Tryd.func51, Tryd.ntmps51
    go_wp2_with fail
    refine HC.out.mono ?_
    rintro e w1 ⟨u, rfl, ho, hb⟩
    have HS := Lib.hid (iLoad_no w1 v zs _ (HI.out.below hb) HA.out)
    have HO := Lib.hid ho
    have HB := Lib.hid hb
    clear ho hb
    go_wp2_with (first | (go_at_call 50; refine HS.out.mono ?_; rintro e w' ⟨rfl, rfl⟩))
    go_ret2
    exact ⟨_, rfl, HO.out, HB.out⟩
  | true =>
    have HA := Lib.hid ha
    have HN : Hid (isW n = false) := by
      simp only [storeOk, ha, Bool.true_and] at hs
      exact hs
    clear hs ha h
    go_enter Tryd.func51, Tryd.ntmps51
    go_wp2_with fail
    refine HC.out.mono ?_
    rintro e w1 ⟨u, rfl, ho, hb⟩
    have HS := Lib.hid (iLoad_yes w1 v zs _ (HI.out.below hb) HA.out)
    have HO := Lib.hid ho
    have HB := Lib.hid hb
    clear ho hb
    go_wp2_with (first | (go_at_call 50; refine HS.out.mono ?_; rintro e w' ⟨rfl, rfl⟩) | (go_at_call 41; refine (isWord_no _ _ HN.out).mono ?_; rintro e w' ⟨rfl, rfl⟩))
    go_ret2
    exact ⟨_, rfl, HO.out, HB.out⟩
theorem iStore_any (w : World) (v : Value) (zs : List Int) (i n : Int) (h : Ints w v zs) (hl : zs.length ≤ 1048576) (b : Bool) (hs : storeOk zs i n = b) :
    Calls Tryd.prog 51 #[v, .int .i64 i, .int .i64 n] w (TupI w (storeC zs i n) (.bool b)) := by
  cases b
  · exact iStore_no w v zs i n h hl hs
  · exact iStore_yes w v zs i n h hl hs
end Go.Proofs.YtmnkjjgfebfgmaaDoor

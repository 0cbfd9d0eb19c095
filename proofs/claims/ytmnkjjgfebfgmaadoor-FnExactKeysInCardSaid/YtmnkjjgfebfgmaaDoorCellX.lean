/-
  Contracts of chapter 2, the model's and the program's: exchange, comparison and exchange, sum; comparing two rows.
-/
import Derived.Test.YtmnkjjgfebfgmaaDoorCellS
namespace Go.Proofs.YtmnkjjgfebfgmaaDoor
open Go.RowKit M
set_option linter.unusedVariables false
theorem below_drewN {B : Nat} {a w : World} (h : Below B a w) (n : Nat) : Below B a (w.drewN n) := ⟨h.os, h.tape, h.output, h.size, h.block⟩
theorem OwnI.drewN {w : World} {base : Nat} {v : Value} {zs : List Int} (h : OwnI w base v zs) (n : Nat) : OwnI (w.drewN n) base v zs := h
/-- What an exchange answers beside the row. -/
def swapR (zs : List Int) (i n : Int) : Int := if storeOk zs i n then zs.getD i.toNat 0 else -1
/-- What comparison and exchange makes of the row, and answers beside it. -/
def casOk (zs : List Int) (i old : Int) : Bool := atC zs i && (zs.getD i.toNat 0 == old)
def casC (zs : List Int) (i old to : Int) : List Int := if casOk zs i old then storeC zs i to else zs
def casR (zs : List Int) (i old to : Int) : Bool := casOk zs i old && storeOk zs i to
theorem casC_length (zs : List Int) (i o n : Int) : (casC zs i o n).length = zs.length := by unfold casC; split <;> simp [storeC_length]
set_option maxRecDepth 100000 in
theorem iCas_any (w : World) (v : Value) (zs : List Int) (i old to : Int) (h : Ints w v zs) (hl : zs.length ≤ 1048576) :
    Calls Tryd.prog 35 #[v, .int .i64 i, .int .i64 old, .int .i64 to] w (TupI w (casC zs i old to) (.bool (casR zs i old to))) := by
  have HC := Lib.hid (clone_any w v zs h hl)
  cases ha : atC zs i with
  | false =>
    have HX := Lib.hid (show casC zs i old to = zs from if_neg (by simp [casOk, ha]))
    have HY := Lib.hid (show casR zs i old to = false by simp [casR, casOk, ha])
    have HA := Lib.hid (iLoad_no w v zs i h ha)
    clear ha h
    generalize casR zs i old to = r at *
    obtain rfl : r = false := HY.out
    rw [HX.out]
    clear HX HY
    go_enter Tryd.func35, Tryd.ntmps35
    go_wp2_with fail
    refine HA.out.mono ?_
    rintro e w1 ⟨rfl, rfl⟩
    go_wp2_with fail
    refine HC.out.mono ?_
    rintro e w1 ⟨u, rfl, ho, hb⟩
    have HO := Lib.hid ho
    have HB := Lib.hid hb
    clear ho hb
    go_wp2_with fail
    go_ret2
    exact ⟨_, rfl, HO.out, HB.out⟩
  | true =>
    have HA := Lib.hid (iLoad_yes w v zs i h ha)
    by_cases hz : zs.getD i.toNat 0 = old
    · have HX := Lib.hid (show casC zs i old to = storeC zs i to from if_pos (by simp only [casOk, ha, hz]; simp))
      have HY := Lib.hid (show casR zs i old to = storeOk zs i to by simp only [casR, casOk, ha, hz]; simp)
      have HS := Lib.hid (iStore_any w v zs i to h hl _ rfl)
      generalize casR zs i old to = r at *
      obtain rfl : r = storeOk zs i to := HY.out
      rw [HX.out]
      generalize storeOk zs i to = r at *
      generalize zs.getD i.toNat 0 = z at *
      subst hz
      clear HX HY h ha
      go_enter Tryd.func35, Tryd.ntmps35
      go_wp2_with fail
      refine HA.out.mono ?_
      rintro e w1 ⟨rfl, rfl⟩
      go_wp2_with fail
      refine HS.out.mono ?_
      rintro e w1 ⟨u, rfl, ho, hb⟩
      have HO := Lib.hid ho
      have HB := Lib.hid hb
      clear ho hb
      go_wp2_with fail
      go_ret2
      exact ⟨_, rfl, HO.out, HB.out⟩
    · have HX := Lib.hid (show casC zs i old to = zs from if_neg (by simp only [casOk, ha]; simpa using hz))
      have HY := Lib.hid (show casR zs i old to = false by simp only [casR, casOk, ha]; simp; intro h; exact absurd h hz)
      generalize casR zs i old to = r at *
      obtain rfl : r = false := HY.out
      rw [HX.out]
      generalize zs.getD i.toNat 0 = z at *
      have t1 : (z != old) = true := by rw [bne_iff_ne]; exact hz
      clear HX HY h ha hz
      go_enter Tryd.func35, Tryd.ntmps35
      go_wp2_with fail
      refine HA.out.mono ?_
      rintro e w1 ⟨rfl, rfl⟩
      go_wp2_with fail
      refine HC.out.mono ?_
      rintro e w1 ⟨u, rfl, ho, hb⟩
      have HO := Lib.hid ho
      have HB := Lib.hid hb
      clear ho hb
      go_wp2_with fail
      go_ret2
      exact ⟨_, rfl, HO.out, HB.out⟩
end Go.Proofs.YtmnkjjgfebfgmaaDoor

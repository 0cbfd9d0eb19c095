/-
  The cursor of a draw: what its block holds, and what drawing one byte does to it: the next state of the mixed number, the next place, and a byte that follows from both and from the code.
-/
import Derived.Test.YtfmmhfipibaghaaOwn
import Derived.Deep.QuietTactic
import Derived.BigQuiet
import Derived.OwnWalk
namespace Go.Proofs.Ytfmmhfipibaghaa
open Go.RowKit M
set_option linter.unusedVariables false
/-- The mixed number behind h. -/
def nextH (h : Int) : Int := wrap64 (wrap64 (h * 6364136223846793005) + 1442695040888963407)
/-- The code's bytes lie at A, in another block than g. -/
def CodeAt (w : World) (g : Nat) (A : Option Addr) (len : Nat) (zs : List Int) : Prop :=
  len ≤ maxLen ∧ (0 < len → ∃ b off, A = some ⟨b, off, none⟩ ∧ b ≠ g ∧ ∀ j, j < len → w.cell? ⟨b, off + j, none⟩ = some (.int .u8 (zs.getD j 0)) ∧ 0 ≤ zs.getD j 0 ∧ zs.getD j 0 ≤ 255)
/-- Block g is a cursor over the code, at place i, with the mixed number h. -/
def CurAt (w : World) (g : Nat) (A : Option Addr) (len cap : Nat) (zs : List Int) (i : Nat) (h : Int) : Prop :=
  w.heap[g]? = some (.cells #[.slice A len cap, .int .i64 i, .int .i64 h] 58 (0, 0)) ∧ CodeAt w g A len zs ∧ i ≤ len
theorem CurAt.cells {w : World} {g len cap i : Nat} {A : Option Addr} {zs : List Int} {h : Int} (c : CurAt w g A len cap zs i h) :
    w.cell? ⟨g, 0, none⟩ = some (.slice A len cap) ∧ w.cell? ⟨g, 1, none⟩ = some (.int .i64 i) ∧ w.cell? ⟨g, 2, none⟩ = some (.int .i64 h) ∧ (∀ k, w.frozen? ⟨g, k, none⟩ = false) := by
  have e := c.1
  refine ⟨?_, ?_, ?_, ?_⟩
  · rw [cell_of_row w g 0 _ _ _ e]; rfl
  · rw [cell_of_row w g 1 _ _ _ e]; rfl
  · rw [cell_of_row w g 2 _ _ _ e]; rfl
  · intro k; simp [World.frozen?, e]
/-- The number that the mixed number gives. -/
def mixX (h : Int) : Int := bits .and .i64 (bits .xor .i64 (h / 8589934592) (h / 35184372088832)) 255
theorem i64_and255 (n : Int) : bits .and .i64 n 255 = n % 256 := by
  have h255 : (BitVec.ofInt 64 255).toNat = 2 ^ 8 - 1 := by decide
  have key : (BitVec.ofInt 64 n &&& BitVec.ofInt 64 255).toNat = (n % ((2 ^ 64 : Nat) : Int)).toNat % 2 ^ 8 := by
    rw [BitVec.toNat_and, BitVec.toNat_ofInt, h255, Nat.and_two_pow_sub_one_eq_mod]
  show IntKind.i64.wrap ((BitVec.ofInt 64 n &&& BitVec.ofInt 64 255).toNat : Nat) = n % 256
  rw [key, IntKind.wrap_i64]
  omega
theorem mixX_bd (h : Int) : 0 ≤ mixX h ∧ mixX h ≤ 255 := by unfold mixX; rw [i64_and255]; omega
/-- The byte that is drawn at place i behind the mixed number h. -/
def drawB (len : Nat) (zs : List Int) (i : Nat) (h : Int) : Int := if i < len then (mixX (nextH h) + zs.getD i 0) % 256 else mixX (nextH h)
def drawI (len i : Nat) : Nat := if i < len then i + 1 else i
theorem drawB_bd (len : Nat) (zs : List Int) (i : Nat) (h : Int) : 0 ≤ drawB len zs i h ∧ drawB len zs i h ≤ 255 := by
  unfold drawB
  have := mixX_bd (nextH h)
  split <;> omega
theorem CodeAt.grown {w w' : World} {g len : Nat} {A : Option Addr} {zs : List Int} (c : CodeAt w g A len zs) (hg : w.grownBy w' (some g)) : CodeAt w' g A len zs := by
  refine ⟨c.1, fun h => ?_⟩
  obtain ⟨b, off, e, hb, hc⟩ := c.2 h
  exact ⟨b, off, e, hb, fun j hj => ⟨hg.cell (hc j hj).1 (by intro h; exact hb (by injection h)), (hc j hj).2⟩⟩
theorem heap_set (w : World) (g k : Nat) (cs : Array Value) (t : TypeId) (v : Value) (h : w.heap[g]? = some (.cells cs t (0, 0))) : (w.setCell ⟨g, k, none⟩ v).heap[g]? = some (.cells (cs.setIfInBounds k v) t (0, 0)) := by
  simp [World.setCell, Array.getElem?_modify, h]
theorem grown_set (w : World) (g k : Nat) (v : Value) : w.grownBy (w.setCell ⟨g, k, none⟩ v) (some g) :=
  ⟨rfl, rfl, rfl, by simp [World.setCell], fun i _ hne => Below.heap_setCell w ⟨g, k, none⟩ v i (fun e => hne (by rw [e]))⟩
theorem grown_trans {a b c : World} {g : Nat} (h : a.grownBy b (some g)) (k : b.grownBy c (some g)) : a.grownBy c (some g) :=
  ⟨k.os.trans h.os, k.tape.trans h.tape, k.output.trans h.output, Nat.le_trans h.size k.size, fun i hi hne => (k.block i (Nat.lt_of_lt_of_le hi h.size) hne).trans (h.block i hi hne)⟩
theorem grown_drewN {a b : World} {row : Option Nat} (h : a.grownBy b row) (n : Nat) : a.grownBy (b.drewN n) row := ⟨h.os, h.tape, h.output, h.size, h.block⟩
theorem CurAt.set2 {w : World} {g len cap i : Nat} {A : Option Addr} {zs : List Int} {h : Int} (c : CurAt w g A len cap zs i h) (h1 : Int) : CurAt (w.setCell ⟨g, 2, none⟩ (.int .i64 h1)) g A len cap zs i h1 :=
  ⟨heap_set w g 2 _ _ _ c.1, c.2.1.grown (grown_set w g 2 _), c.2.2⟩
theorem CurAt.set1 {w : World} {g len cap i : Nat} {A : Option Addr} {zs : List Int} {h : Int} (c : CurAt w g A len cap zs i h) (i1 : Nat) (hi : i1 ≤ len) (v : Int) (hv : v = (i1 : Int)) : CurAt (w.setCell ⟨g, 1, none⟩ (.int .i64 v)) g A len cap zs i1 h := by
  subst hv
  exact ⟨heap_set w g 1 _ _ _ c.1, c.2.1.grown (grown_set w g 1 _), hi⟩
def BytePost (w : World) (g : Nat) (A : Option Addr) (len cap : Nat) (zs : List Int) (i : Nat) (h : Int) (e : Ending) (w' : World) : Prop :=
  e = .returned (.int .i64 (drawB len zs i h)) ∧ CurAt w' g A len cap zs (drawI len i) (nextH h) ∧ w.grownBy w' (some g)
set_option maxRecDepth 100000 in
theorem l1Byte_any (w : World) (g len cap i : Nat) (A : Option Addr) (zs : List Int) (h : Int) (c : CurAt w g A len cap zs i h) :
    Calls Try.prog 50 #[.pointer (some ⟨g, 0, none⟩)] w (BytePost w g A len cap zs i h) := by
  have C := Lib.hid c
  obtain ⟨c0, c1, c2, cf⟩ := c.cells
  have f2 := cf 2
  have f1 := cf 1
  have hm : wrap64 (wrap64 (h * 6364136223846793005) + 1442695040888963407) = nextH h := rfl
  have hx : bits .and .i64 (bits .xor .i64 (nextH h / 8589934592) (nextH h / 35184372088832)) 255 = mixX (nextH h) := rfl
  have hlen : len ≤ 9223372036854775807 := by have := c.2.1.1; unfold maxLen at this; omega
  by_cases hlt : i < len
  · obtain ⟨b, off, hA, hbg, hcell⟩ := c.2.1.2 (by omega)
    obtain ⟨hz, hz0, hz1⟩ := hcell i hlt
    subst hA
    have hzz : (w.setCell ⟨g, 2, none⟩ (.int .i64 (nextH h))).cell? ⟨b, off + i, none⟩ = some (.int .u8 (zs.getD i 0)) := (grown_set w g 2 (.int .i64 (nextH h))).cell hz (by intro h; exact hbg (by injection h))
    have hd : decide (i < len) = true := by simp; omega
    have hB : drawB len zs i h = (mixX (nextH h) + zs.getD i 0) % 256 := if_pos hlt
    have hI : drawI len i = i + 1 := if_pos hlt
    have HB := Lib.hid hB
    have HI := Lib.hid hI
    have hlt' : (i : Int) < (len : Int) := by omega
    have hi0 : (0 : Int) ≤ (i : Int) := by omega
    have hA255 := i64_and255 (mixX (nextH h) + zs.getD i 0)
    have HM := mixX_bd (nextH h)
    generalize zs.getD i 0 = z at *
    generalize hh : nextH h = h1 at *
    generalize mixX h1 = x1 at *
    have HH := Lib.hid hh
    obtain ⟨m0, m1⟩ := HM
    clear c cf hcell hbg hB hI hz hh
    go_enter Try.func50, Try.ntmps50
    go_wp2
    go_quiet (fail)
    go_wp2
    go_quiet (fail)
    go_wp2
    go_quiet (fail)
    go_wp2
    go_ret
    refine ⟨ret_int HB.out.symm, ?_, ?_⟩
    · rw [HI.out, HH.out]
      exact (C.out.set2 h1).set1 (i + 1) (by omega) ((i : Int) + 1) (by omega)
    · exact grown_trans (grown_drewN (grown_set w g 2 _) _) (grown_set _ g 1 _)
  · have hd : decide (i < len) = false := by simp; omega
    have hB : drawB len zs i h = mixX (nextH h) := if_neg hlt
    have hI : drawI len i = i := if_neg hlt
    have HB := Lib.hid hB
    have HI := Lib.hid hI
    have hlt' : ¬ (i : Int) < (len : Int) := by omega
    generalize hh : nextH h = h1 at *
    generalize mixX h1 = x1 at *
    have HH := Lib.hid hh
    clear c cf hB hI hh
    go_enter Try.func50, Try.ntmps50
    go_wp2
    go_quiet (fail)
    go_wp2
    go_quiet (fail)
    go_wp2
    go_ret
    refine ⟨ret_int HB.out.symm, ?_, ?_⟩
    · rw [HI.out, HH.out]
      exact C.out.set2 h1
    · exact grown_drewN (grown_drewN (grown_set w g 2 _) _) _
end Go.Proofs.Ytfmmhfipibaghaa

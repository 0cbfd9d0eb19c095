/-
  Several small texts of this proof, one behind another: each says ahead of itself what it proves.
-/
import Derived.Test.YtbhhhakfjmaglaaGreatZa
import Derived.ChangeOld
import Derived.Deep.QuietTactic
import Derived.BigQuiet
import Derived.OwnWalk
import Derived.WalkKit
import Derived.Lib.Hide
/-
  A law's code as it lies: where, how long, its bytes; what a walk is told of it; a law's look into it.
-/
namespace Go.Proofs.YtbhhhakfjmaglaaGreat
open Go.RowKit M
set_option linter.unusedVariables false
/-- A code as it lies: where, how long, its bytes. -/
structure Code where
  A : Option Addr
  len : Nat
  cap : Nat
  zs : List Int
/-- What a walk is told of a slice of bytes that came in. -/
def IsRow (w : World) (a : Option Addr) (len cap : Nat) (zs : List Int) : Prop :=
  (a = none ∧ len = 0 ∧ cap = 0 ∧ zs = []) ∨
  ∃ x, a = some x ∧ len ≤ cap ∧ cap ≤ maxLen ∧ zs.length = cap ∧ (∀ i, i < zs.length → w.cell? (x.add i) = some (.int .u8 (zs.getD i 0))) ∧ ∀ n ∈ zs, (Lit.int .u8 n).wf = true
/-- A code can be read: its bytes lie in a block that is there. -/
def CodeIn (w : World) (K : Code) : Prop :=
  K.len ≤ maxLen ∧ (0 < K.len → ∃ b off, K.A = some ⟨b, off, none⟩ ∧ b < w.heap.size ∧ ∀ j, j < K.len → w.cell? ⟨b, off + j, none⟩ = some (.int .u8 (K.zs.getD j 0)) ∧ 0 ≤ K.zs.getD j 0 ∧ K.zs.getD j 0 ≤ 255)
theorem CodeIn.of_row {w : World} {a : Option Addr} {len cap : Nat} {zs : List Int} (h : IsRow w a len cap zs) : CodeIn w ⟨a, len, cap, zs⟩ := by
  rcases h with ⟨rfl, rfl, rfl, rfl⟩ | ⟨x, rfl, hl, hm, hz, hc, hw⟩
  · exact ⟨Nat.zero_le _, fun h => absurd h (by simp)⟩
  · refine ⟨Nat.le_trans hl hm, fun h => ?_⟩
    simp only at h
    obtain ⟨b, off, spot⟩ := x
    have h0 := hc 0 (by omega)
    have hspot : spot = none := by simpa [Addr.add] using World.cell?_spot h0
    subst hspot
    have hlt : b < w.heap.size := by
      rcases Nat.lt_or_ge b w.heap.size with h1 | h1
      · exact h1
      · have e : w.heap[b]? = none := Array.getElem?_eq_none h1
        simp [Addr.add, World.cell?, e] at h0
    refine ⟨b, off, rfl, hlt, fun j hj => ?_⟩
    simp only at hj
    have hj' : j < zs.length := by omega
    have hcj := hc j hj'
    have e : (⟨b, off, none⟩ : Addr).add j = ⟨b, off + j, none⟩ := by unfold Addr.add; split <;> simp_all
    rw [e] at hcj
    have hwf := hw (zs.getD j 0) (by rw [List.getD_eq_getElem?_getD, List.getElem?_eq_getElem hj']; exact List.getElem_mem hj')
    have hb : 0 ≤ zs.getD j 0 ∧ zs.getD j 0 ≤ 255 := by
      generalize zs.getD j 0 = z at hwf
      simp [Lit.wf] at hwf
      exact hwf
    exact ⟨hcj, hb⟩
theorem CodeIn.below {w w' : World} {K : Code} (h : CodeIn w K) (hb : Below w.heap.size w w') : CodeIn w' K := by
  refine ⟨h.1, fun hp => ?_⟩
  obtain ⟨b, off, e, hlt, hc⟩ := h.2 hp
  exact ⟨b, off, e, Nat.lt_of_lt_of_le hlt hb.size, fun j hj => ⟨(hb.cell (p := ⟨b, off + j, none⟩) hlt).trans (hc j hj).1, (hc j hj).2⟩⟩
/-- The byte of a code at a place, or one that follows from it. -/
def atV (K : Code) (i : Nat) : Nat := if i < K.len then (K.zs.getD i 0).toNat else (i * 37 + K.len * 11) % 256
theorem atV_bd {w : World} {K : Code} (k : CodeIn w K) (i : Nat) : atV K i ≤ 255 := by
  unfold atV
  split
  · rename_i h
    obtain ⟨b, off, hA, hb, hc⟩ := k.2 (by omega)
    have := hc i h
    omega
  · omega
set_option maxRecDepth 100000 in
/-- A law's look into its code: the byte there, or one that follows; the world is as before. -/
theorem at_any (w : World) (K : Code) (k : CodeIn w K) (hl : K.len ≤ 1048576) (i : Nat) (hi : i ≤ 1000) :
    Calls Tryz.prog 18 #[.slice K.A K.len K.cap, .int .i64 i] w (Same w (.int .i64 (atV K i : Nat))) := by
  have hm := k.1
  unfold maxLen at hm
  by_cases h : i < K.len
  · obtain ⟨b, off, hA, hb, hc⟩ := k.2 (by omega)
    obtain ⟨c0, c1, c2⟩ := hc i h
    have E := Lib.hid (show atV K i = (K.zs.getD i 0).toNat from if_pos h)
    obtain ⟨x, hx⟩ := Int.eq_ofNat_of_zero_le c1
    generalize K.zs.getD i 0 = z at *
    subst hx
    have h' : (i : Int) < (K.len : Int) := by omega
    generalize atV K i = y at *
    obtain ⟨A, len, cap, zs⟩ := K
    subst hA
    clear k hc
    go_enter Tryz.func18, Tryz.ntmps18
    go_wp2
    go_ret
    exact ⟨ret_i (by have := E.out; omega), rfl⟩
  · have h' : decide ((i : Int) < (K.len : Int)) = false := by simp; omega
    have e0 : 0 ≤ (i : Int) * 37 + (K.len : Int) * 11 := by omega
    have E := Lib.hid (show atV K i = (i * 37 + K.len * 11) % 256 from if_neg h)
    generalize atV K i = y at *
    obtain ⟨A, len, cap, zs⟩ := K
    simp only at *
    clear k
    go_enter Tryz.func18, Tryz.ntmps18
    go_wp2
    go_ret
    exact ⟨ret_i (by have := E.out; omega), rfl⟩
theorem at_some (w : World) (K : Code) (k : CodeIn w K) (hl : K.len ≤ 1048576) (i : Nat) (hi : i ≤ 1000) :
    Calls Tryz.prog 18 #[.slice K.A K.len K.cap, .int .i64 i] w fun e w' => ∃ x : Nat, x ≤ 255 ∧ e = .returned (.int .i64 x) ∧ w = w' :=
  (at_any w K k hl i hi).mono fun _ _ ⟨a, b⟩ => ⟨_, atV_bd k i, a, b⟩
end Go.Proofs.YtbhhhakfjmaglaaGreat
/-
  The cursor of a draw: what its block holds, and what drawing one byte does to it: the next state of the mixed number, the next place, and a byte that follows from both and from the code.
-/
namespace Go.Proofs.YtbhhhakfjmaglaaGreat
open Go.RowKit M
set_option linter.unusedVariables false
/-- The mixed number behind h. -/
def nextH (h : Int) : Int := wrap64 (wrap64 (h * 6364136223846793005) + 1442695040888963407)
/-- The code's bytes lie at A, in another block than g. -/
def CodeAt (w : World) (g : Nat) (A : Option Addr) (len : Nat) (zs : List Int) : Prop :=
  len ≤ maxLen ∧ (0 < len → ∃ b off, A = some ⟨b, off, none⟩ ∧ b ≠ g ∧ ∀ j, j < len → w.cell? ⟨b, off + j, none⟩ = some (.int .u8 (zs.getD j 0)) ∧ 0 ≤ zs.getD j 0 ∧ zs.getD j 0 ≤ 255)
/-- Block g is a cursor over the code, at place i, with the mixed number h. -/
def CurAt (w : World) (g : Nat) (A : Option Addr) (len cap : Nat) (zs : List Int) (i : Nat) (h : Int) : Prop :=
  w.heap[g]? = some (.cells #[.slice A len cap, .int .i64 i, .int .i64 h] 84 (0, 0)) ∧ CodeAt w g A len zs ∧ i ≤ len
theorem CurAt.cells {w : World} {g len cap i : Nat} {A : Option Addr} {zs : List Int} {h : Int} (c : CurAt w g A len cap zs i h) :
    w.cell? ⟨g, 0, none⟩ = some (.slice A len cap) ∧ w.cell? ⟨g, 1, none⟩ = some (.int .i64 i) ∧ w.cell? ⟨g, 2, none⟩ = some (.int .i64 h) ∧ (∀ k, w.frozen? ⟨g, k, none⟩ = false) := by
  have e := c.1
  refine ⟨?_, ?_, ?_, ?_⟩
  · rw [cell_of_row w g 0 _ _ _ e]; rfl
  · rw [cell_of_row w g 1 _ _ _ e]; rfl
  · rw [cell_of_row w g 2 _ _ _ e]; rfl
  · intro k; simp [World.frozen?, e]
/-- The number that the mixed number gives. -/
def mixX (h : Int) : Int := bits .and .i64 (bits .xor .i64 (h / 8589934592) (h / 35184372088832)) 255
theorem i64_and255 (n : Int) : bits .and .i64 n 255 = n % 256 := by
  have h255 : (BitVec.ofInt 64 255).toNat = 2 ^ 8 - 1 := by decide
  have key : (BitVec.ofInt 64 n &&& BitVec.ofInt 64 255).toNat = (n % ((2 ^ 64 : Nat) : Int)).toNat % 2 ^ 8 := by
    rw [BitVec.toNat_and, BitVec.toNat_ofInt, h255, Nat.and_two_pow_sub_one_eq_mod]
  show IntKind.i64.wrap ((BitVec.ofInt 64 n &&& BitVec.ofInt 64 255).toNat : Nat) = n % 256
  rw [key, IntKind.wrap_i64]
  omega
theorem mixX_bd (h : Int) : 0 ≤ mixX h ∧ mixX h ≤ 255 := by unfold mixX; rw [i64_and255]; omega
/-- The byte that is drawn at place i behind the mixed number h. -/
def drawB (len : Nat) (zs : List Int) (i : Nat) (h : Int) : Int := if i < len then (mixX (nextH h) + zs.getD i 0) % 256 else mixX (nextH h)
def drawI (len i : Nat) : Nat := if i < len then i + 1 else i
theorem drawB_bd (len : Nat) (zs : List Int) (i : Nat) (h : Int) : 0 ≤ drawB len zs i h ∧ drawB len zs i h ≤ 255 := by
  unfold drawB
  have := mixX_bd (nextH h)
  split <;> omega
theorem CodeAt.grown {w w' : World} {g len : Nat} {A : Option Addr} {zs : List Int} (c : CodeAt w g A len zs) (hg : w.grownBy w' (some g)) : CodeAt w' g A len zs := by
  refine ⟨c.1, fun h => ?_⟩
  obtain ⟨b, off, e, hb, hc⟩ := c.2 h
  exact ⟨b, off, e, hb, fun j hj => ⟨hg.cell (hc j hj).1 (by intro h; exact hb (by injection h)), (hc j hj).2⟩⟩
theorem heap_set (w : World) (g k : Nat) (cs : Array Value) (t : TypeId) (v : Value) (h : w.heap[g]? = some (.cells cs t (0, 0))) : (w.setCell ⟨g, k, none⟩ v).heap[g]? = some (.cells (cs.setIfInBounds k v) t (0, 0)) := by
  simp [World.setCell, Array.getElem?_modify, h]
theorem grown_set (w : World) (g k : Nat) (v : Value) : w.grownBy (w.setCell ⟨g, k, none⟩ v) (some g) :=
  ⟨rfl, rfl, rfl, by simp [World.setCell], fun i _ hne => Below.heap_setCell w ⟨g, k, none⟩ v i (fun e => hne (by rw [e]))⟩
theorem grown_trans {a b c : World} {g : Nat} (h : a.grownBy b (some g)) (k : b.grownBy c (some g)) : a.grownBy c (some g) :=
  ⟨k.os.trans h.os, k.tape.trans h.tape, k.output.trans h.output, Nat.le_trans h.size k.size, fun i hi hne => (k.block i (Nat.lt_of_lt_of_le hi h.size) hne).trans (h.block i hi hne)⟩
theorem grown_drewN {a b : World} {row : Option Nat} (h : a.grownBy b row) (n : Nat) : a.grownBy (b.drewN n) row := ⟨h.os, h.tape, h.output, h.size, h.block⟩
theorem CurAt.set2 {w : World} {g len cap i : Nat} {A : Option Addr} {zs : List Int} {h : Int} (c : CurAt w g A len cap zs i h) (h1 : Int) : CurAt (w.setCell ⟨g, 2, none⟩ (.int .i64 h1)) g A len cap zs i h1 :=
  ⟨heap_set w g 2 _ _ _ c.1, c.2.1.grown (grown_set w g 2 _), c.2.2⟩
theorem CurAt.set1 {w : World} {g len cap i : Nat} {A : Option Addr} {zs : List Int} {h : Int} (c : CurAt w g A len cap zs i h) (i1 : Nat) (hi : i1 ≤ len) (v : Int) (hv : v = (i1 : Int)) : CurAt (w.setCell ⟨g, 1, none⟩ (.int .i64 v)) g A len cap zs i1 h := by
  subst hv
  exact ⟨heap_set w g 1 _ _ _ c.1, c.2.1.grown (grown_set w g 1 _), hi⟩
def BytePost (w : World) (g : Nat) (A : Option Addr) (len cap : Nat) (zs : List Int) (i : Nat) (h : Int) (e : Ending) (w' : World) : Prop :=
  e = .returned (.int .i64 (drawB len zs i h)) ∧ CurAt w' g A len cap zs (drawI len i) (nextH h) ∧ w.grownBy w' (some g)
set_option maxRecDepth 100000 in
theorem l1Byte_any (w : World) (g len cap i : Nat) (A : Option Addr) (zs : List Int) (h : Int) (c : CurAt w g A len cap zs i h) :
    Calls Tryz.prog 67 #[.pointer (some ⟨g, 0, none⟩)] w (BytePost w g A len cap zs i h) := by
  have C := Lib.hid c
  obtain ⟨c0, c1, c2, cf⟩ := c.cells
  have f2 := cf 2
  have f1 := cf 1
  have hm : wrap64 (wrap64 (h * 6364136223846793005) + 1442695040888963407) = nextH h := rfl
  have hx : bits .and .i64 (bits .xor .i64 (nextH h / 8589934592) (nextH h / 35184372088832)) 255 = mixX (nextH h) := rfl
  have hlen : len ≤ 9223372036854775807 := by have := c.2.1.1; unfold maxLen at this; omega
  by_cases hlt : i < len
  · obtain ⟨b, off, hA, hbg, hcell⟩ := c.2.1.2 (by omega)
    obtain ⟨hz, hz0, hz1⟩ := hcell i hlt
    subst hA
    have hzz : (w.setCell ⟨g, 2, none⟩ (.int .i64 (nextH h))).cell? ⟨b, off + i, none⟩ = some (.int .u8 (zs.getD i 0)) := (grown_set w g 2 (.int .i64 (nextH h))).cell hz (by intro h; exact hbg (by injection h))
    have hd : decide (i < len) = true := by simp; omega
    have hB : drawB len zs i h = (mixX (nextH h) + zs.getD i 0) % 256 := if_pos hlt
    have hI : drawI len i = i + 1 := if_pos hlt
    have HB := Lib.hid hB
    have HI := Lib.hid hI
    have hlt' : (i : Int) < (len : Int) := by omega
    have hi0 : (0 : Int) ≤ (i : Int) := by omega
    have hA255 := i64_and255 (mixX (nextH h) + zs.getD i 0)
    have HM := mixX_bd (nextH h)
    generalize zs.getD i 0 = z at *
    generalize hh : nextH h = h1 at *
    generalize mixX h1 = x1 at *
    have HH := Lib.hid hh
    obtain ⟨m0, m1⟩ := HM
    clear c cf hcell hbg hB hI hz hh
    go_enter Tryz.func67, Tryz.ntmps67
    go_wp2
    go_quiet (fail)
    go_wp2
    go_quiet (fail)
    go_wp2
    go_quiet (fail)
    go_wp2
    go_ret
    refine ⟨ret_int HB.out.symm, ?_, ?_⟩
    · rw [HI.out, HH.out]
      exact (C.out.set2 h1).set1 (i + 1) (by omega) ((i : Int) + 1) (by omega)
    · exact grown_trans (grown_drewN (grown_set w g 2 _) _) (grown_set _ g 1 _)
  · have hd : decide (i < len) = false := by simp; omega
    have hB : drawB len zs i h = mixX (nextH h) := if_neg hlt
    have hI : drawI len i = i := if_neg hlt
    have HB := Lib.hid hB
    have HI := Lib.hid hI
    have hlt' : ¬ (i : Int) < (len : Int) := by omega
    generalize hh : nextH h = h1 at *
    generalize mixX h1 = x1 at *
    have HH := Lib.hid hh
    clear c cf hB hI hh
    go_enter Tryz.func67, Tryz.ntmps67
    go_wp2
    go_quiet (fail)
    go_wp2
    go_quiet (fail)
    go_wp2
    go_ret
    refine ⟨ret_int HB.out.symm, ?_, ?_⟩
    · rw [HI.out, HH.out]
      exact C.out.set2 h1
    · exact grown_drewN (grown_drewN (grown_set w g 2 _) _) _
end Go.Proofs.YtbhhhakfjmaglaaGreat
/-
  Drawing from a code: each function answers by its cursor's state and the code alone, and turns nothing but its cursor's block.
-/
namespace Go.Proofs.YtbhhhakfjmaglaaGreat
open Go.RowKit M
set_option linter.unusedVariables false
/-- A cursor's state: the place and the mixed number. -/
abbrev St := Nat × Int
def Cur (w : World) (g : Nat) (K : Code) (s : St) : Prop := CurAt w g K.A K.len K.cap K.zs s.1 s.2
/-- What a draw leaves: the answer, the cursor in its next state, and all else that was there. -/
def Drawn (w : World) (g : Nat) (K : Code) (v : Value) (s : St) (e : Ending) (w' : World) : Prop := e = .returned v ∧ Cur w' g K s ∧ w.grownBy w' (some g)
def byteS (K : Code) (s : St) : St := (drawI K.len s.1, nextH s.2)
def byteV (K : Code) (s : St) : Int := drawB K.len K.zs s.1 s.2
theorem byteV_bd (K : Code) (s : St) : 0 ≤ byteV K s ∧ byteV K s ≤ 255 := drawB_bd _ _ _ _
theorem byte_any (w : World) (g : Nat) (K : Code) (s : St) (c : Cur w g K s) :
    Calls Tryz.prog 67 #[.pointer (some ⟨g, 0, none⟩)] w (Drawn w g K (.int .i64 (byteV K s)) (byteS K s)) := l1Byte_any w g K.len K.cap s.1 K.A K.zs s.2 c
def belowV (K : Code) (n : Int) (s : St) : Int :=
  if n ≤ 0 then 0 else if n ≤ 256 then byteV K s % n
  else (byteV K s * 16777216 + byteV K (byteS K s) * 65536 + byteV K (byteS K (byteS K s)) * 256 + byteV K (byteS K (byteS K (byteS K s)))) % n
def belowS (K : Code) (n : Int) (s : St) : St := if n ≤ 0 then s else if n ≤ 256 then byteS K s else byteS K (byteS K (byteS K (byteS K s)))
theorem belowV_bd (K : Code) (n : Int) (s : St) (h : 0 < n) : 0 ≤ belowV K n s ∧ belowV K n s < n := by
  unfold belowV
  rw [if_neg (by omega)]
  split
  · exact ⟨Int.emod_nonneg _ (by omega), Int.emod_lt_of_pos _ h⟩
  · exact ⟨Int.emod_nonneg _ (by omega), Int.emod_lt_of_pos _ h⟩
theorem Drawn.mono {w w1 w2 : World} {g : Nat} {K : Code} {s : St} (h1 : w.grownBy w1 (some g)) (h2 : w1.grownBy w2 (some g)) : w.grownBy w2 (some g) := grown_trans h1 h2
set_option maxRecDepth 100000 in
theorem below_any (w : World) (g : Nat) (K : Code) (n : Int) (s : St) (c : Cur w g K s) (h1 : n ≤ 4611686018427387904) :
    Calls Tryz.prog 32 #[.pointer (some ⟨g, 0, none⟩), .int .i64 n] w (Drawn w g K (.int .i64 (belowV K n s)) (belowS K n s)) := by
  by_cases n0 : n ≤ 0
  · have HV := Lib.hid (show belowV K n s = 0 from if_pos n0)
    have HS := Lib.hid (show belowS K n s = s from if_pos n0)
    have C := Lib.hid c
    clear c
    go_enter Tryz.func32, Tryz.ntmps32
    go_wp2
    go_ret
    exact ⟨ret_int HV.out.symm, by rw [HS.out]; exact C.out, World.grownBy.refl _ _⟩
  · by_cases n1 : n ≤ 256
    · have HV := Lib.hid (show belowV K n s = byteV K s % n by unfold belowV; rw [if_neg n0, if_pos n1])
      have HS := Lib.hid (show belowS K n s = byteS K s by unfold belowS; rw [if_neg n0, if_pos n1])
      obtain ⟨b0, b1⟩ := byteV_bd K s
      have HB := Lib.hid (byte_any w g K s c)
      clear c
      go_enter Tryz.func32, Tryz.ntmps32
      go_wp2_with (go_at_call 67; refine HB.out.mono ?_; rintro e w1 ⟨rfl, hc1, hg1⟩; have C1 := Lib.hid hc1; have G1 := Lib.hid hg1; clear hc1 hg1)
      go_ret
      exact ⟨ret_int HV.out.symm, by rw [HS.out]; exact C1.out, G1.out⟩
    · have HV := Lib.hid (show belowV K n s = (byteV K s * 16777216 + byteV K (byteS K s) * 65536 + byteV K (byteS K (byteS K s)) * 256 + byteV K (byteS K (byteS K (byteS K s)))) % n by unfold belowV; rw [if_neg n0, if_neg n1])
      have HS := Lib.hid (show belowS K n s = byteS K (byteS K (byteS K (byteS K s))) by unfold belowS; rw [if_neg n0, if_neg n1])
      obtain ⟨b0, b1⟩ := byteV_bd K s
      obtain ⟨b2, b3⟩ := byteV_bd K (byteS K s)
      obtain ⟨b4, b5⟩ := byteV_bd K (byteS K (byteS K s))
      obtain ⟨b6, b7⟩ := byteV_bd K (byteS K (byteS K (byteS K s)))
      have HB := Lib.hid (byte_any w g K s c)
      clear c
      go_enter Tryz.func32, Tryz.ntmps32
      go_wp2_with fail
      refine HB.out.mono ?_
      rintro e w1 ⟨rfl, hc1, hg1⟩
      have HB1 := Lib.hid (byte_any w1 g K _ hc1)
      have G1 := Lib.hid hg1
      clear hc1 hg1
      go_wp2_with fail
      refine HB1.out.mono ?_
      rintro e w2 ⟨rfl, hc2, hg2⟩
      have HB2 := Lib.hid (byte_any w2 g K _ hc2)
      have G2 := Lib.hid hg2
      clear hc2 hg2
      go_wp2_with fail
      refine HB2.out.mono ?_
      rintro e w3 ⟨rfl, hc3, hg3⟩
      have HB3 := Lib.hid (byte_any w3 g K _ hc3)
      have G3 := Lib.hid hg3
      clear hc3 hg3
      go_wp2_with fail
      refine HB3.out.mono ?_
      rintro e w4 ⟨rfl, hc4, hg4⟩
      have C4 := Lib.hid hc4
      have G4 := Lib.hid hg4
      clear hc4 hg4
      go_wp2_with fail
      go_ret
      exact ⟨ret_int HV.out.symm, by rw [HS.out]; exact C4.out, grown_trans (grown_trans (grown_trans G1.out G2.out) G3.out) G4.out⟩
end Go.Proofs.YtbhhhakfjmaglaaGreat
/-
  Drawing a yes or no, and a number of a list: by the cursor's state and the code alone.
-/
namespace Go.Proofs.YtbhhhakfjmaglaaGreat
open Go.RowKit M
set_option linter.unusedVariables false
theorem Cur.kept {w w' : World} {g : Nat} {K : Code} {s : St} (c : Cur w g K s) (hg : w.grownBy w' none) : Cur w' g K s := by
  obtain ⟨h1, h2, h3⟩ := c
  have hlt : g < w.heap.size := by
    rcases Nat.lt_or_ge g w.heap.size with h | h
    · exact h
    · rw [Array.getElem?_eq_none h] at h1; cases h1
  refine ⟨(hg.block g hlt (by intro h; cases h)).trans h1, ⟨h2.1, fun h => ?_⟩, h3⟩
  obtain ⟨b, off, e, hb, hc⟩ := h2.2 h
  exact ⟨b, off, e, hb, fun j hj => ⟨hg.cell (hc j hj).1 (by intro h; cases h), (hc j hj).2⟩⟩
theorem Cur.alloc {w : World} {g : Nat} {K : Code} {s : St} (c : Cur w g K s) (o : Obj) : Cur (w.alloc o) g K s := c.kept (World.grownBy_alloc w o none)
theorem Cur.lt {w : World} {g : Nat} {K : Code} {s : St} (c : Cur w g K s) : g < w.heap.size := by
  rcases Nat.lt_or_ge g w.heap.size with h | h
  · exact h
  · have h1 := c.1; rw [Array.getElem?_eq_none h] at h1; cases h1
theorem once_any (w : World) (g : Nat) (K : Code) (n : Int) (s : St) (c : Cur w g K s) (h1 : n ≤ 4611686018427387904) :
    Calls Tryz.prog 64 #[.pointer (some ⟨g, 0, none⟩), .int .i64 n] w (Drawn w g K (.bool (belowV K n s == 0)) (belowS K n s)) := by
  have HB := Lib.hid (below_any w g K n s c h1)
  clear c h1
  go_enter Tryz.func64, Tryz.ntmps64
  go_wp2_with fail
  refine HB.out.mono ?_
  rintro e w1 ⟨rfl, hc1, hg1⟩
  have C1 := Lib.hid hc1
  have G1 := Lib.hid hg1
  clear hc1 hg1
  go_wp2_with fail
  go_ret
  exact ⟨rfl, C1.out, G1.out⟩
theorem pick_any (w : World) (g : Nat) (K : Code) (s : St) (c : Cur w g K s) (b : Nat) (hb : b ≠ g) (ls : List Int) (n : Nat) (hn : ls.length = n) (hn0 : 0 < n) (hn1 : n ≤ 1000000)
    (hc : ∀ j, j < n → w.cell? ⟨b, j, none⟩ = some (.int .i64 (ls.getD j 0))) :
    Calls Tryz.prog 65 #[.pointer (some ⟨g, 0, none⟩), .slice (some ⟨b, 0, none⟩) n n] w (Drawn w g K (.int .i64 (ls.getD (belowV K n s).toNat 0)) (belowS K n s)) := by
  have HB := Lib.hid (below_any w g K n s c (by omega))
  obtain ⟨v0, v1⟩ := belowV_bd K n s (by omega)
  generalize hv : belowV K n s = v at *
  have HV := Lib.hid hv
  clear hv
  obtain ⟨m, rfl⟩ := Int.eq_ofNat_of_zero_le v0
  have hm : m < n := by omega
  have HC := Lib.hid (hc m hm)
  have hne : some (Addr.mk b m none).block ≠ some g := by intro h; exact hb (by injection h)
  clear c hc
  go_enter Tryz.func65, Tryz.ntmps65
  go_wp2_with fail
  refine HB.out.mono ?_
  rintro e w1 ⟨rfl, hc1, hg1⟩
  have hcell := hg1.cell HC.out hne
  have C1 := Lib.hid hc1
  have G1 := Lib.hid hg1
  clear hc1 hg1
  go_wp2_with fail
  go_ret
  exact ⟨ret_int (by simp [List.getElem?_eq_getElem (show m < ls.length by omega)]), C1.out, G1.out⟩
end Go.Proofs.YtbhhhakfjmaglaaGreat
/-
  A cursor made new over a code: its first state follows from the code alone; nothing that was there is turned.
-/
namespace Go.Proofs.YtbhhhakfjmaglaaGreat
open Go.RowKit M
set_option linter.unusedVariables false
def newHto (K : Code) : Nat → Int
  | 0 => 10101 + (K.len : Int)
  | j + 1 => (newHto K j * 131 + K.zs.getD j 0 + 7) % 1073741824
def newS (K : Code) : St := (0, newHto K (min K.len 4000))
theorem newHto_bd (K : Code) (h : K.len ≤ 1048576) (j : Nat) : 0 ≤ newHto K j ∧ newHto K j < 1073741824 := by
  cases j with
  | zero => simp only [newHto]; omega
  | succ j => simp only [newHto]; omega
theorem i64_and30 (n : Int) : bits .and .i64 n 1073741823 = n % 1073741824 := by
  have h30 : (BitVec.ofInt 64 1073741823).toNat = 2 ^ 30 - 1 := by decide
  have key : (BitVec.ofInt 64 n &&& BitVec.ofInt 64 1073741823).toNat = (n % ((2 ^ 64 : Nat) : Int)).toNat % 2 ^ 30 := by
    rw [BitVec.toNat_and, BitVec.toNat_ofInt, h30, Nat.and_two_pow_sub_one_eq_mod]
  show IntKind.i64.wrap ((BitVec.ofInt 64 n &&& BitVec.ofInt 64 1073741823).toNat : Nat) = n % 1073741824
  rw [key, IntKind.wrap_i64]
  omega
def NewPost (w : World) (K : Code) (e : Ending) (w' : World) : Prop := ∃ g, e = .returned (.pointer (some ⟨g, 0, none⟩)) ∧ w.heap.size ≤ g ∧ Cur w' g K (newS K) ∧ Below w.heap.size w w'
theorem new_done (w : World) (K : Code) (hk : CodeIn w K) (j : Nat) (hj : j = min K.len 4000) :
    NewPost w K (.returned (.pointer (some ⟨w.heap.size, 0, none⟩))) (w.alloc (.cells #[.slice K.A K.len K.cap, .int .i64 0, .int .i64 (newHto K j)] 84)) := by
  subst hj
  refine ⟨w.heap.size, rfl, Nat.le_refl _, ⟨heap_alloc_new w _, ⟨hk.1, fun hp => ?_⟩, Nat.zero_le _⟩, (Below.refl _ _).alloc (Nat.le_refl _) _⟩
  obtain ⟨b, off, e, hb, hc⟩ := hk.2 hp
  exact ⟨b, off, e, by omega, fun j hj => ⟨(((Below.refl w.heap.size w).alloc (Nat.le_refl _) _).cell (p := ⟨b, off + j, none⟩) hb).trans (hc j hj).1, (hc j hj).2⟩⟩
set_option maxRecDepth 100000 in
theorem new_any (w : World) (K : Code) (hk : CodeIn w K) (hl : K.len ≤ 1048576) :
    Calls Tryz.prog 29 #[.slice K.A K.len K.cap] w (NewPost w K) := by
  have HK := Lib.hid hk
  clear hk
  go_enter Tryz.func29, Tryz.ntmps29
  go_wp2
  go_loop [3, 4] (fun h i => ∃ j : Nat, j ≤ K.len ∧ j ≤ 4000 ∧ i = .int .i64 j ∧ h = .int .i64 (newHto K j)) (fun _ i => 4000 - (intOf i).toNat)
  case atStart => exact ⟨0, Nat.zero_le _, Nat.zero_le _, rfl, rfl⟩
  case round =>
    obtain ⟨j, hj, hj4, rfl, rfl⟩ := hrel
    by_cases hlt : j < K.len
    · have hd : decide (j < K.len) = true := by simp; omega
      by_cases h4 : j < 4000
      · have hd4 : decide ((j : Int) < 4000) = true := by simp; omega
        obtain ⟨b, off, hA, hb, hcell⟩ := HK.out.2 (by omega)
        obtain ⟨hz, hz0, hz1⟩ := hcell j hlt
        obtain ⟨n0, n1⟩ := newHto_bd K hl j
        have HN := Lib.hid (show newHto K (j + 1) = (newHto K j * 131 + K.zs.getD j 0 + 7) % 1073741824 from rfl)
        have ha := i64_and30 (newHto K j * 131 + K.zs.getD j 0 + 7)
        rw [hA]
        generalize K.zs.getD j 0 = z at *
        clear hcell
        go_wp2
        go_round
        case rel => exact ⟨j + 1, by omega, by omega, by go_num, by rw [HN.out]⟩
        case measure => simp [intOf]; omega
      · have hd4 : decide ((j : Int) < 4000) = false := by simp; omega
        have HE := Lib.hid (show j = min K.len 4000 by omega)
        go_wp2
        go_ret
        exact new_done w K HK.out j HE.out
    · have hd : decide (j < K.len) = false := by simp; omega
      have HE := Lib.hid (show j = min K.len 4000 by omega)
      go_wp2
      go_ret
      exact new_done w K HK.out j HE.out
end Go.Proofs.YtbhhhakfjmaglaaGreat
/-
  Drawing, told in less: some number within its bounds, some truth value; nothing but the cursor's block is turned.
-/
namespace Go.Proofs.YtbhhhakfjmaglaaGreat
open Go.RowKit M
set_option linter.unusedVariables false
def SomeI (w : World) (g : Nat) (K : Code) (P : Int → Prop) (e : Ending) (w' : World) : Prop := ∃ x s, P x ∧ e = .returned (.int .i64 x) ∧ Cur w' g K s ∧ w.grownBy w' (some g)
def SomeB (w : World) (g : Nat) (K : Code) (e : Ending) (w' : World) : Prop := ∃ b s, e = .returned (.bool b) ∧ Cur w' g K s ∧ w.grownBy w' (some g)
theorem below_some (w : World) (g : Nat) (K : Code) (n : Int) (s : St) (c : Cur w g K s) (h0 : 0 < n) (h1 : n ≤ 4611686018427387904) :
    Calls Tryz.prog 32 #[.pointer (some ⟨g, 0, none⟩), .int .i64 n] w (SomeI w g K fun x => 0 ≤ x ∧ x < n) :=
  (below_any w g K n s c h1).mono fun _ _ ⟨a, b, d⟩ => ⟨_, _, belowV_bd K n s h0, a, b, d⟩
theorem once_some (w : World) (g : Nat) (K : Code) (n : Int) (s : St) (c : Cur w g K s) (h1 : n ≤ 4611686018427387904) :
    Calls Tryz.prog 64 #[.pointer (some ⟨g, 0, none⟩), .int .i64 n] w (SomeB w g K) :=
  (once_any w g K n s c h1).mono fun _ _ ⟨a, b, d⟩ => ⟨_, _, a, b, d⟩
theorem row_cells (w : World) (ls : List Int) (cs : Array Value) (h : cs = (ls.map (Value.int .i64)).toArray) : ∀ j, j < ls.length → (w.alloc (.cells cs 3)).cell? ⟨w.heap.size, j, none⟩ = some (.int .i64 (ls.getD j 0)) := by
  subst h
  intro j hj
  have e := heap_alloc_new w (.cells (ls.map (Value.int .i64)).toArray 3)
  rw [cell_of_row _ _ j _ _ _ e, List.getElem?_toArray, List.getElem?_map, List.getElem?_eq_getElem hj, List.getD_eq_getElem?_getD, List.getElem?_eq_getElem hj]
  rfl
theorem pick_some (w : World) (g : Nat) (K : Code) (s : St) (c : Cur w g K s) (ls : List Int) (n : Nat) (hn : ls.length = n) (hn0 : 0 < n) (hn1 : n ≤ 1000000) (cs : Array Value) (hcs : cs = (ls.map (Value.int .i64)).toArray) :
    Calls Tryz.prog 65 #[.pointer (some ⟨g, 0, none⟩), .slice (some ⟨w.heap.size, 0, none⟩) n n] (w.alloc (.cells cs 3)) (SomeI w g K fun x => x ∈ ls) := by
  refine (pick_any (w.alloc (.cells cs 3)) g K s (c.alloc _) w.heap.size (by have := c.lt; omega) ls n hn hn0 hn1 (by rw [← hn]; exact row_cells w ls cs hcs)).mono ?_
  rintro e w' ⟨rfl, h1, h2⟩
  have hb := belowV_bd K n s (by omega)
  refine ⟨_, _, ?_, rfl, h1, grown_trans (World.grownBy_alloc _ _ _) h2⟩
  rw [List.getD_eq_getElem?_getD, List.getElem?_eq_getElem (by omega)]
  exact List.getElem_mem _
/-- The code lies below base. -/
def CodeB (K : Code) (base : Nat) : Prop := ∀ a, 0 < K.len → K.A = some a → a.block < base
theorem CodeB.of_in {w : World} {K : Code} (h : CodeIn w K) : CodeB K w.heap.size := by
  intro a hp ha
  obtain ⟨b, off, e, hb, _⟩ := h.2 hp
  rw [e] at ha
  cases ha
  exact hb
theorem CodeB.mono {K : Code} {b b' : Nat} (h : CodeB K b) (hb : b ≤ b') : CodeB K b' := fun a hp ha => Nat.lt_of_lt_of_le (h a hp ha) hb
theorem Cur.setNew {w : World} {g base ga : Nat} {K : Code} {s : St} (c : Cur w g K s) (hK : CodeB K base) (hg : g < base) (hga : base ≤ ga) (j : Nat) (x : Value) : Cur (w.setCell ⟨ga, j, none⟩ x) g K s := by
  obtain ⟨h1, h2, h3⟩ := c
  refine ⟨(Below.heap_setCell w ⟨ga, j, none⟩ x g (show g ≠ ga by omega)).trans h1, ⟨h2.1, fun hp => ?_⟩, h3⟩
  obtain ⟨b, off, e, hb, hc⟩ := h2.2 hp
  have hlt := hK _ hp e
  exact ⟨b, off, e, hb, fun i hi => ⟨(World.cell?_of_block (w := w) (a := ⟨b, off + i, none⟩) (Below.heap_setCell w ⟨ga, j, none⟩ x b (show b ≠ ga by simp at hlt; omega))).trans (hc i hi).1, (hc i hi).2⟩⟩
theorem grown_setNew {w u : World} {g ga : Nat} (h : w.grownBy u (some g)) (hga : w.heap.size ≤ ga) (j : Nat) (x : Value) : w.grownBy (u.setCell ⟨ga, j, none⟩ x) (some g) :=
  ⟨h.os, h.tape, h.output, by simp [World.setCell]; exact h.size, fun k hk hne => (Below.heap_setCell u ⟨ga, j, none⟩ x k (show k ≠ ga by omega)).trans (h.block k hk hne)⟩
/-- A row in a block from base on. -/
def RowN (w : World) (base : Nat) (v : Value) (zs : List Int) : Prop := Ints w v zs ∧ ∃ b, v.ownBlock = some b ∧ base ≤ b
theorem OwnI.rowN {w : World} {base : Nat} {v : Value} {zs : List Int} (h : OwnI w base v zs) : RowN w base v zs := by
  obtain ⟨g, e, h1, _⟩ := h.block
  exact ⟨h.ints, g, e, h1⟩
theorem Ints.kept {w w' : World} {v : Value} {zs : List Int} {g : Nat} (h : Ints w v zs) (hg : w.grownBy w' (some g)) (hne : v.ownBlock ≠ some g) : Ints w' v zs := by
  obtain ⟨b, off, cap, rfl, h1, h2, h3, h4⟩ := h
  exact ⟨b, off, cap, rfl, h1, h2, Nat.lt_of_lt_of_le h3 hg.size, fun j hj => hg.cell (h4 j hj) (fun e => hne e)⟩
theorem RowN.kept {w w' : World} {base : Nat} {v : Value} {zs : List Int} {g : Nat} (h : RowN w base v zs) (hg : w.grownBy w' (some g)) (hb : g < base) : RowN w' base v zs := by
  obtain ⟨h1, b, e, h2⟩ := h
  refine ⟨h1.kept hg (by rw [e]; intro h; injection h with h; omega), b, e, h2⟩
end Go.Proofs.YtbhhhakfjmaglaaGreat
/-
  Drawing a text of a list, told in less: some text of the list; nothing but the cursor's block is turned. A draw behind a new cursor, told of the world ahead of it.
-/
namespace Go.Proofs.YtbhhhakfjmaglaaGreat
open Go.RowKit M
set_option linter.unusedVariables false
def SomeT (w : World) (g : Nat) (K : Code) (P : ByteArray → Prop) (e : Ending) (w' : World) : Prop := ∃ x s, P x ∧ e = .returned (.string x) ∧ Cur w' g K s ∧ w.grownBy w' (some g)
theorem rowT_cells (w : World) (ls : List ByteArray) (cs : Array Value) (h : cs = (ls.map Value.string).toArray) : ∀ j, j < ls.length → (w.alloc (.cells cs 9)).cell? ⟨w.heap.size, j, none⟩ = some (.string (ls.getD j ⟨#[]⟩)) := by
  subst h
  intro j hj
  have e := heap_alloc_new w (.cells (ls.map Value.string).toArray 9)
  rw [cell_of_row _ _ j _ _ _ e, List.getElem?_toArray, List.getElem?_map, List.getElem?_eq_getElem hj, List.getD_eq_getElem?_getD, List.getElem?_eq_getElem hj]
  rfl
theorem pickT_at (w : World) (g : Nat) (K : Code) (s : St) (c : Cur w g K s) (b : Nat) (hb : b ≠ g) (ls : List ByteArray) (n : Nat) (hn : ls.length = n) (hn0 : 0 < n) (hn1 : n ≤ 1000000)
    (hc : ∀ j, j < n → w.cell? ⟨b, j, none⟩ = some (.string (ls.getD j ⟨#[]⟩))) :
    Calls Tryz.prog 63 #[.pointer (some ⟨g, 0, none⟩), .slice (some ⟨b, 0, none⟩) n n] w (SomeT w g K fun x => x ∈ ls) := by
  have HB := Lib.hid (below_any w g K n s c (by omega))
  obtain ⟨v0, v1⟩ := belowV_bd K n s (by omega)
  generalize belowV K n s = v at *
  obtain ⟨m, rfl⟩ := Int.eq_ofNat_of_zero_le v0
  have hm : m < n := by omega
  have HC := Lib.hid (hc m hm)
  have HM := Lib.hid (show ls.getD m ⟨#[]⟩ ∈ ls by rw [List.getD_eq_getElem?_getD, List.getElem?_eq_getElem (by omega)]; exact List.getElem_mem _)
  have hne : some (Addr.mk b m none).block ≠ some g := by intro h; exact hb (by injection h)
  generalize ls.getD m ⟨#[]⟩ = x at *
  clear c hc
  go_enter Tryz.func63, Tryz.ntmps63
  go_wp2_with fail
  refine HB.out.mono ?_
  rintro e w1 ⟨rfl, hc1, hg1⟩
  have hcell := hg1.cell HC.out hne
  have C1 := Lib.hid hc1
  have G1 := Lib.hid hg1
  clear hc1 hg1
  go_wp2_with fail
  go_ret
  exact ⟨x, _, HM.out, rfl, C1.out, G1.out⟩
theorem pickT_some (w : World) (g : Nat) (K : Code) (s : St) (c : Cur w g K s) (ls : List ByteArray) (n : Nat) (hn : ls.length = n) (hn0 : 0 < n) (hn1 : n ≤ 1000000) (cs : Array Value) (hcs : cs = (ls.map Value.string).toArray) :
    Calls Tryz.prog 63 #[.pointer (some ⟨g, 0, none⟩), .slice (some ⟨w.heap.size, 0, none⟩) n n] (w.alloc (.cells cs 9)) (SomeT w g K fun x => x ∈ ls) := by
  refine (pickT_at (w.alloc (.cells cs 9)) g K s (c.alloc _) w.heap.size (by have := c.lt; omega) ls n hn hn0 hn1 (by rw [← hn]; exact rowT_cells w ls cs hcs)).mono ?_
  rintro e w' ⟨x, s', h1, h2, h3, h4⟩
  exact ⟨x, s', h1, h2, h3, grown_trans (World.grownBy_alloc _ _ _) h4⟩
theorem behind {w w1 w2 : World} {g : Nat} (hg : w.heap.size ≤ g) (h1 : Below w.heap.size w w1) (h2 : w1.grownBy w2 (some g)) : Below w.heap.size w w2 :=
  h1.grown h2 h1.size (by intro k hk; injection hk with hk; omega)
end Go.Proofs.YtbhhhakfjmaglaaGreat
/-
  Drawing keys, told in less: some text of at most four (five) bytes, some number.
-/
namespace Go.Proofs.YtbhhhakfjmaglaaGreat
open Go.RowKit M
set_option linter.unusedVariables false
theorem all_size {ls : List ByteArray} {n : Nat} (h : (ls.all fun x => decide (x.size ≤ n)) = true) {x : ByteArray} (hx : x ∈ ls) : x.size ≤ n := by
  have := List.all_eq_true.1 h x hx
  simpa using this
theorem l4Key_some (w : World) (g : Nat) (K : Code) (s : St) (c : Cur w g K s) : Calls Tryz.prog 95 #[.pointer (some ⟨g, 0, none⟩)] w (SomeT w g K fun x => x.size ≤ 4) := by
  have HC := Lib.hid c
  clear c
  go_enter Tryz.func95, Tryz.ntmps95
  go_wp2_with fail
  refine (pickT_some w g K s HC.out [⟨#[97]⟩, ⟨#[98]⟩, ⟨#[99, 112, 117]⟩, ⟨#[114, 101, 113]⟩, ⟨#[120, 95, 49]⟩, ⟨#[90, 57]⟩, ⟨#[109, 101, 109]⟩, ⟨#[113]⟩] 8 rfl (by decide) (by decide) _ rfl).mono ?_
  rintro e w1 ⟨x, s1, hx, rfl, hc1, hg1⟩
  have X := Lib.hid (all_size (n := 4) (by decide) hx)
  have C1 := Lib.hid hc1
  have G1 := Lib.hid hg1
  clear hx hc1 hg1
  go_wp2_with fail
  go_ret
  exact ⟨x, s1, X.out, rfl, C1.out, G1.out⟩
theorem l4Any_some (w : World) (g : Nat) (K : Code) (s : St) (c : Cur w g K s) : Calls Tryz.prog 61 #[.pointer (some ⟨g, 0, none⟩)] w (SomeT w g K fun x => x.size ≤ 5) := by
  have HC := Lib.hid c
  clear c
  go_enter Tryz.func61, Tryz.ntmps61
  go_wp2_with fail
  refine (once_some w g K _ s HC.out (by decide)).mono ?_
  rintro e w1 ⟨b, s1, rfl, hc1, hg1⟩
  have C1 := Lib.hid hc1
  have G1 := Lib.hid hg1
  clear hc1 hg1
  cases b with
  | true =>
    go_wp2_with fail
    refine (pickT_some w1 g K s1 C1.out [⟨#[]⟩, ⟨#[97, 98, 99, 100, 101]⟩, ⟨#[97, 32, 98]⟩, ⟨#[97, 58]⟩, ⟨#[0]⟩, ⟨#[97, 98, 99, 100]⟩, ⟨#[255]⟩] 7 rfl (by decide) (by decide) _ rfl).mono ?_
    rintro e w2 ⟨x, s2, hx, rfl, hc2, hg2⟩
    have X := Lib.hid (all_size (n := 5) (by decide) hx)
    have C2 := Lib.hid hc2
    have G2 := Lib.hid (grown_trans G1.out hg2)
    clear hx hc2 hg2
    go_wp2_with fail
    go_ret
    exact ⟨x, s2, X.out, rfl, C2.out, G2.out⟩
  | false =>
    go_wp2_with fail
    refine (l4Key_some w1 g K s1 C1.out).mono ?_
    rintro e w2 ⟨x, s2, hx, rfl, hc2, hg2⟩
    have C2 := Lib.hid hc2
    have G2 := Lib.hid (grown_trans G1.out hg2)
    have X := Lib.hid hx
    clear hx hc2 hg2
    go_wp2_with fail
    go_ret
    exact ⟨x, s2, Nat.le_trans X.out (by decide), rfl, C2.out, G2.out⟩
end Go.Proofs.YtbhhhakfjmaglaaGreat
/-
  Chapter 5's draws, told in less: some text and some kind; two numbers.
-/
namespace Go.Proofs.YtbhhhakfjmaglaaGreat
open Go.RowKit M
set_option linter.unusedVariables false
theorem l5Kind_some (w : World) (g : Nat) (K : Code) (s : St) (c : Cur w g K s) : Calls Tryz.prog 62 #[.pointer (some ⟨g, 0, none⟩)] w (SomeI w g K fun x => 0 ≤ x ∧ x ≤ 4) := by
  have HC := Lib.hid c
  clear c
  go_enter Tryz.func62, Tryz.ntmps62
  go_wp2_with fail
  refine (pick_some w g K s HC.out [1, 2, 3, 1, 2, 3, 1, 2, 3, 0, 4] 11 rfl (by decide) (by decide) _ rfl).mono ?_
  rintro e w1 ⟨x, s1, hx, rfl, hc1, hg1⟩
  have X : 0 ≤ x ∧ x ≤ 4 := by simp at hx; omega
  have C1 := Lib.hid hc1
  have G1 := Lib.hid hg1
  clear hx hc1 hg1
  go_wp2_with fail
  go_ret
  exact ⟨x, s1, X, rfl, C1.out, G1.out⟩
/-- Some text and some kind; nothing that was there is turned. -/
def GivesTI (w : World) (e : Ending) (w' : World) : Prop := ∃ (x : ByteArray) (k : Int), x.size ≤ 5 ∧ (0 ≤ k ∧ k ≤ 4) ∧ e = .returned (.tuple #[.string x, .int .i64 k]) ∧ Below w.heap.size w w'
/-- Two numbers; nothing that was there is turned. -/
def GivesII (w : World) (e : Ending) (w' : World) : Prop := ∃ a b : Int, (-1 ≤ a ∧ a ≤ 65536) ∧ (-1 ≤ b ∧ b ≤ 65536) ∧ e = .returned (.tuple #[.int .i64 a, .int .i64 b]) ∧ Below w.heap.size w w'
end Go.Proofs.YtbhhhakfjmaglaaGreat
/-
  The test of a code's length.
-/
namespace Go.Proofs.YtbhhhakfjmaglaaGreat
open Go.RowKit
set_option linter.unusedVariables false
theorem nBig (A : Option Addr) (len cap : Nat) (W : World) : Calls Tryz.prog 6 #[.slice A len cap] W (Gives (.bool (decide ((1048576 : Int) < (len : Int)))) W) := by
  go_enter Tryz.func6, Tryz.ntmps6
  go_wp2
  go_ret
  exact ⟨rfl, Below.refl _ _⟩
end Go.Proofs.YtbhhhakfjmaglaaGreat

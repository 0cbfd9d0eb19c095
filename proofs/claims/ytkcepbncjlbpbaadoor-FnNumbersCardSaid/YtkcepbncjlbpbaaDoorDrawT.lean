/-
  Drawing a text of at most so many bytes: by the cursor's state and the code alone.
-/
import Derived.Test.YtkcepbncjlbpbaaDoorDrawN
namespace Go.Proofs.YtkcepbncjlbpbaaDoor
open Go.RowKit M
set_option linter.unusedVariables false
def textB (st b : Int) : Int := if st = 1 then b % 2 else if st = 2 then 97 + b % 4 else b
theorem textB_bd (st b : Int) (h0 : 0 ≤ b) (h1 : b ≤ 255) : 0 ≤ textB st b ∧ textB st b ≤ 255 := by
  unfold textB
  split
  · omega
  · split <;> omega
def textL (K : Code) (st : Int) : Nat → St → List UInt8
  | 0, _ => []
  | n + 1, s => UInt8.ofNat (textB st (byteV K s)).toNat :: textL K st n (byteS K s)
def iterS (K : Code) : Nat → St → St
  | 0, s => s
  | n + 1, s => iterS K n (byteS K s)
theorem textL_length (K : Code) (st : Int) : ∀ n s, (textL K st n s).length = n := by
  intro n
  induction n with
  | zero => intro s; rfl
  | succ n ih => intro s; simp [textL, ih]
def textN (K : Code) (most : Int) (s : St) : Nat := (belowV K (most + 1) (belowS K 4 s)).toNat
def textV (K : Code) (most : Int) (s : St) : ByteArray := ⟨(textL K (belowV K 4 s) (textN K most s) (belowS K (most + 1) (belowS K 4 s))).toArray⟩
def textS (K : Code) (most : Int) (s : St) : St := iterS K (textN K most s) (belowS K (most + 1) (belowS K 4 s))
theorem textN_le (K : Code) (most : Int) (s : St) (h : 0 ≤ most) : (textN K most s : Int) ≤ most := by
  have := belowV_bd K (most + 1) (belowS K 4 s) (by omega)
  unfold textN; omega
theorem textV_size (K : Code) (most : Int) (s : St) : (textV K most s).size = textN K most s := by simp [textV, ByteArray.size, textL_length]
/-- What a call that writes the text knows between two bytes. -/
def TextAt (K : Code) (st : Int) (n0 : Nat) (s0 : St) (r : Nat) (s : St) (acc : List UInt8) : Prop := acc ++ textL K st r s = textL K st n0 s0 ∧ iterS K r s = iterS K n0 s0 ∧ acc.length + r = n0
theorem TextAt.step {K : Code} {st : Int} {n0 r : Nat} {s0 s : St} {acc : List UInt8} (h : TextAt K st n0 s0 (r + 1) s acc) : TextAt K st n0 s0 r (byteS K s) (acc ++ [UInt8.ofNat (textB st (byteV K s)).toNat]) := by
  obtain ⟨h1, h2, h3⟩ := h
  refine ⟨?_, h2, by simp; omega⟩
  rw [← h1, textL]; simp
theorem TextAt.stop {K : Code} {st : Int} {n0 : Nat} {s0 s : St} {acc : List UInt8} (h : TextAt K st n0 s0 0 s acc) : acc = textL K st n0 s0 ∧ s = iterS K n0 s0 := by
  obtain ⟨h1, h2, _⟩ := h
  exact ⟨by rw [← h1, textL]; simp, h2⟩
theorem grown_own {w w1 w2 : World} {g : Nat} {row : Option Nat} (h : w.grownBy w1 (some g)) (k : w1.grownBy w2 row) (hr : ∀ j, row = some j → w.heap.size ≤ j) : w.grownBy w2 (some g) :=
  ⟨k.os.trans h.os, k.tape.trans h.tape, k.output.trans h.output, Nat.le_trans h.size k.size, fun i hi hne => (k.block i (Nat.lt_of_lt_of_le hi h.size) (by
    intro e
    have := hr i e.symm
    omega)).trans (h.block i hi hne)⟩
theorem Cur.own {w w1 w2 : World} {g : Nat} {K : Code} {s0 s : St} {row : Option Nat} (c0 : Cur w g K s0) (c1 : Cur w1 g K s) (h : w.grownBy w1 (some g)) (k : w1.grownBy w2 row) (hr : ∀ j, row = some j → w.heap.size ≤ j) : Cur w2 g K s := by
  have hlt := c0.lt
  refine ⟨(k.block g c1.lt ?_).trans c1.1, c0.2.1.grown (grown_own h k hr), c1.2.2⟩
  intro e
  have := hr g e.symm
  omega
theorem OwnB.keptG {w w' : World} {B g : Nat} {v : Value} {l : List UInt8} (h : OwnB w B v l) (hB : g < B) (hg : w.grownBy w' (some g)) : OwnB w' B v l :=
  h.kept hg (Or.inr (fun e => by have := h.base_le g e; omega))
theorem text_byte (st b : Int) (h0 : 0 ≤ b) (h1 : b ≤ 255) : Value.int .u8 (textB st b) = b2v (UInt8.ofNat (textB st b).toNat) := by
  have := textB_bd st b h0 h1
  unfold b2v; congr 1; simp; omega
set_option maxRecDepth 100000 in
set_option maxHeartbeats 400000 in
theorem text_any (w : World) (g : Nat) (K : Code) (most : Int) (s : St) (c : Cur w g K s) (h0 : 0 ≤ most) (h1 : most ≤ 1000000) :
    Calls Tryd.prog 22 #[.pointer (some ⟨g, 0, none⟩), .int .i64 most] w (Drawn w g K (.string (textV K most s)) (textS K most s)) := by
  have HB := fun W hc => Lib.hid (below_any W g K 4 s hc (by decide))
  have HB2 := fun W hc => Lib.hid (below_any W g K (most + 1) (belowS K 4 s) hc (by omega))
  obtain ⟨u0, u1⟩ := belowV_bd K (most + 1) (belowS K 4 s) (by omega)
  have C0 := Lib.hid c
  have hglt := c.lt
  have HN := Lib.hid (show textN K most s = (belowV K (most + 1) (belowS K 4 s)).toNat from rfl)
  clear c
  go_enter Tryd.func22, Tryd.ntmps22
  go_wp2_with fail
  refine (HB _ (C0.out.alloc _)).out.mono ?_
  rintro e w1 ⟨rfl, hc1, hg1⟩
  have HB3 := HB2 w1 hc1
  have G1 := Lib.hid hg1
  clear hc1 hg1 HB HB2
  go_wp2_with fail
  refine HB3.out.mono ?_
  rintro e w2 ⟨rfl, hc2, hg2⟩
  have hG : w.grownBy w2 (some g) := grown_trans (grown_trans (World.grownBy_alloc w _ _) G1.out) hg2
  have hO : OwnB w2 w.heap.size (.slice (some ⟨w.heap.size, 0, none⟩) 0 0) [] :=
    ((OwnB.empty w w.heap.size (Nat.le_refl _)).kept G1.out (Or.inr (fun h => by have h2 : w.heap.size = g := (by injection h); omega))).kept hg2 (Or.inr (fun h => by have h2 : w.heap.size = g := (by injection h); omega))
  have G2 := Lib.hid hG
  have O2 := Lib.hid hO
  have C2 := Lib.hid hc2
  clear hc2 hg2 hG hO HB3 G1
  generalize hst : belowV K 4 s = st at *
  have HST := Lib.hid hst
  obtain ⟨n0, hn0⟩ := Int.eq_ofNat_of_zero_le u0
  have HN2 := Lib.hid (show textN K most s = n0 by rw [HN.out, hn0, Int.toNat_natCast])
  clear hst HN
  rw [hn0] at u1 ⊢
  have hn1 : n0 ≤ 1000000 := by omega
  clear hn0 u0 u1
  go_wp2_with fail
  go_loopw [5, 7, 8] (fun v n _ wr => ∃ (r : Nat) (s' : St) (acc : List UInt8), n = .int .i64 r ∧ TextAt K st n0 (belowS K (most + 1) (belowS K 4 s)) r s' acc ∧ OwnB wr w.heap.size v acc ∧ Cur wr g K s' ∧ w.grownBy wr (some g)) (fun _ n _ _ => (intOf n).toNat)
  case atStart => exact ⟨n0, _, [], rfl, ⟨rfl, rfl, by simp⟩, O2.out, C2.out, G2.out⟩
  case round =>
    obtain ⟨r, s', acc, rfl, ht, ho, hc, hG⟩ := hrel
    have hrl : acc.length + r = n0 := ht.2.2
    cases r with
    | zero =>
      have hcv := conv_own ho
      have hs := ht.stop
      have HA := Lib.hid hs.1
      have HS := Lib.hid hs.2
      have C3 := Lib.hid hc
      have G3 := Lib.hid hG
      clear ho hc hG ht hs
      go_wp2_with fail
      go_ret
      refine ⟨ret_str ?_, ?_, G3.out⟩
      · unfold textV; rw [HA.out, HN2.out, HST.out]
      · have := C3.out
        rw [HS.out] at this
        unfold textS
        rw [HN2.out]
        exact this
    | succ r =>
      have HT := Lib.hid ht.step
      have HBY := Lib.hid (byte_any wr g K s' hc)
      have hG' := Lib.hid hG
      obtain ⟨b0, b1⟩ := byteV_bd K s'
      by_cases e1 : st = 1
      · have t1 : (st == 1) = true := by simpa using e1
        have t2 : (st == 2) = false := by rw [beq_eq_false_iff_ne]; omega
        have HX := Lib.hid (show Value.int .u8 (byteV K s' % 2) = b2v (UInt8.ofNat (textB st (byteV K s')).toNat) by rw [← text_byte st _ b0 b1]; unfold textB; rw [if_pos e1])
        clear e1 ht hc hG
        go_wp2_with fail
        refine HBY.out.mono ?_
        rintro e w3 ⟨rfl, hc3, hg3⟩
        have C3 := Lib.hid hc3
        have G3 := Lib.hid (grown_trans hG'.out hg3)
        have ho3 := ho.keptG hglt hg3
        have hz3 : w.heap.size ≤ w3.heap.size := G3.out.size
        have hb3 := Lib.hid ho3.base_le
        clear hc3 hg3
        go_wp2_with (at_builtin; refine wpB_append _ rfl _ _ rfl w.heap.size _ acc (ho3.alloc _) rfl ⟨w3.heap.size, 0, none⟩ 1 1 [UInt8.ofNat (textB st (byteV K s')).toNat] rfl rfl ?c1 ?c2 ?c3 ?_; rotate_left 3; intro v' w4 hown' hgrow'; have HO' := Lib.hid hown'; have HG := Lib.hid hgrow'; clear hown' hgrow')
        · go_roundw
          case rel => exact ⟨r, byteS K s', _, by go_num, HT.out, HO'.out, C0.out.own (C3.out.alloc _) (grown_trans G3.out (World.grownBy_alloc _ _ _)) HG.out hb3.out, grown_own (grown_trans G3.out (World.grownBy_alloc _ _ _)) HG.out hb3.out⟩
          case measure => simp [intOf]
        case c1 => first | (rw [HX.out]; exact new1 w3 _) | (rw [HX.out]; exact one_get _)
        case c2 => omega
        case c3 => exact le_alloc hz3 _
      · have t1 : (st == 1) = false := by simpa using e1
        by_cases e2 : st = 2
        · have t2 : (st == 2) = true := by simpa using e2
          have HX := Lib.hid (show Value.int .u8 (97 + byteV K s' % 4) = b2v (UInt8.ofNat (textB st (byteV K s')).toNat) by rw [← text_byte st _ b0 b1]; unfold textB; rw [if_neg e1, if_pos e2])
          clear e1 e2 ht hc hG
          go_wp2_with fail
          refine HBY.out.mono ?_
          rintro e w3 ⟨rfl, hc3, hg3⟩
          have C3 := Lib.hid hc3
          have G3 := Lib.hid (grown_trans hG'.out hg3)
          have ho3 := ho.keptG hglt hg3
          have hz3 : w.heap.size ≤ w3.heap.size := G3.out.size
          have hb3 := Lib.hid ho3.base_le
          clear hc3 hg3
          go_wp2_with (at_builtin; refine wpB_append _ rfl _ _ rfl w.heap.size _ acc (ho3.alloc _) rfl ⟨w3.heap.size, 0, none⟩ 1 1 [UInt8.ofNat (textB st (byteV K s')).toNat] rfl rfl ?c1 ?c2 ?c3 ?_; rotate_left 3; intro v' w4 hown' hgrow'; have HO' := Lib.hid hown'; have HG := Lib.hid hgrow'; clear hown' hgrow')
          · go_roundw
            case rel => exact ⟨r, byteS K s', _, by go_num, HT.out, HO'.out, C0.out.own (C3.out.alloc _) (grown_trans G3.out (World.grownBy_alloc _ _ _)) HG.out hb3.out, grown_own (grown_trans G3.out (World.grownBy_alloc _ _ _)) HG.out hb3.out⟩
            case measure => simp [intOf]
          case c1 => first | (rw [HX.out]; exact new1 w3 _) | (rw [HX.out]; exact one_get _)
          case c2 => omega
          case c3 => exact le_alloc hz3 _
        · have t2 : (st == 2) = false := by simpa using e2
          have HX := Lib.hid (show Value.int .u8 (byteV K s') = b2v (UInt8.ofNat (textB st (byteV K s')).toNat) by rw [← text_byte st _ b0 b1]; unfold textB; rw [if_neg e1, if_neg e2])
          clear e1 e2 ht hc hG
          go_wp2_with fail
          refine HBY.out.mono ?_
          rintro e w3 ⟨rfl, hc3, hg3⟩
          have C3 := Lib.hid hc3
          have G3 := Lib.hid (grown_trans hG'.out hg3)
          have ho3 := ho.keptG hglt hg3
          have hz3 : w.heap.size ≤ w3.heap.size := G3.out.size
          have hb3 := Lib.hid ho3.base_le
          clear hc3 hg3
          go_wp2_with (at_builtin; refine wpB_append _ rfl _ _ rfl w.heap.size _ acc (ho3.alloc _) rfl ⟨w3.heap.size, 0, none⟩ 1 1 [UInt8.ofNat (textB st (byteV K s')).toNat] rfl rfl ?c1 ?c2 ?c3 ?_; rotate_left 3; intro v' w4 hown' hgrow'; have HO' := Lib.hid hown'; have HG := Lib.hid hgrow'; clear hown' hgrow')
          · go_roundw
            case rel => exact ⟨r, byteS K s', _, by go_num, HT.out, HO'.out, C0.out.own (C3.out.alloc _) (grown_trans G3.out (World.grownBy_alloc _ _ _)) HG.out hb3.out, grown_own (grown_trans G3.out (World.grownBy_alloc _ _ _)) HG.out hb3.out⟩
            case measure => simp [intOf]
          case c1 => first | (rw [HX.out]; exact new1 w3 _) | (rw [HX.out]; exact one_get _)
          case c2 => omega
          case c3 => exact le_alloc hz3 _
end Go.Proofs.YtkcepbncjlbpbaaDoor

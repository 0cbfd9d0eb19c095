/-
  Drawing cells, a place in them and a number: some cells, some place, some number; nothing that was there is turned but the cursor.
-/
import Derived.Test.YtagohmlochbmdaaSome
import Derived.Test.YtagohmlochbmdaaInts
namespace Go.Proofs.Ytagohmlochbmdaa
open Go.RowKit M
set_option linter.unusedVariables false
def CellsAt (w : World) (g : Nat) (K : Code) (i : Value) (wr : World) : Prop :=
  ∃ (m : Nat) (s : St) (zs : List Int), m ≤ 11 ∧ i = .int .i64 m ∧ zs.length = 71 ∧ OwnI wr w.heap.size (.slice (some ⟨w.heap.size, 0, none⟩) 71 71) zs ∧ Cur wr g K s ∧ w.grownBy wr (some g)
def CellsD (w : World) (g : Nat) (K : Code) (e : Ending) (w' : World) : Prop := ∃ v zs s, e = .returned v ∧ RowN w' w.heap.size v zs ∧ zs.length ≤ 71 ∧ Cur w' g K s ∧ w.grownBy w' (some g)
theorem own_new {w u u' : World} {g : Nat} {zs : List Int} (h : OwnI u w.heap.size (.slice (some ⟨w.heap.size, 0, none⟩) 71 71) zs) (hg : u.grownBy u' (some g)) (hlt : g < w.heap.size) : OwnI u' w.heap.size (.slice (some ⟨w.heap.size, 0, none⟩) 71 71) zs :=
  h.kept hg (by show some w.heap.size ≠ some g; intro e; injection e with e; omega)
theorem cells_set {w u : World} {g : Nat} {K : Code} {s : St} {zs : List Int} (hl : zs.length = 71) (ho : OwnI u w.heap.size (.slice (some ⟨w.heap.size, 0, none⟩) 71 71) zs) (hc : Cur u g K s) (hg : w.grownBy u (some g)) (hK : CodeB K w.heap.size) (hlt : g < w.heap.size) (j : Nat) (z : Int) :
    (zs.set j z).length = 71 ∧ OwnI (u.setCell ⟨w.heap.size, j, none⟩ (.int .i64 z)) w.heap.size (.slice (some ⟨w.heap.size, 0, none⟩) 71 71) (zs.set j z) ∧ Cur (u.setCell ⟨w.heap.size, j, none⟩ (.int .i64 z)) g K s ∧ w.grownBy (u.setCell ⟨w.heap.size, j, none⟩ (.int .i64 z)) (some g) :=
  ⟨by simpa using hl, (ho.set j z).1, hc.setNew hK hlt (Nat.le_refl _) j _, grown_setNew hg (Nat.le_refl _) j _⟩
theorem cells_cut {w u : World} {zs : List Int} (hl : zs.length = 71) (ho : OwnI u w.heap.size (.slice (some ⟨w.heap.size, 0, none⟩) 71 71) zs) : RowN u w.heap.size (.slice (some ⟨w.heap.size, 0, none⟩) 70 71) (zs.take 70) := by
  obtain ⟨b, off, cap, e, h1, h2, h3, h4⟩ := ho.ints
  injection e with ea en ec
  injection ea with ea
  injection ea with eb eo
  subst eb eo ec
  refine ⟨⟨w.heap.size, 0, 71, by simp [hl], by simp; omega, h2, h3, fun j hj => ?_⟩, w.heap.size, rfl, Nat.le_refl _⟩
  have hj' : j < 70 := by simp at hj; omega
  rw [h4 j (by omega)]
  simp [List.getD_eq_getElem?_getD, hj']
set_option maxRecDepth 100000 in
set_option maxHeartbeats 1000000 in
theorem cells_some (w : World) (g : Nat) (K : Code) (s : St) (c : Cur w g K s) (hK : CodeB K w.heap.size) :
    Calls Try.prog 32 #[.pointer (some ⟨g, 0, none⟩)] w (CellsD w g K) := by
  obtain ⟨i0, hi, hz0, hz1, hz2⟩ := info_parts info_int
  have hlt := c.lt
  have HC := Lib.hid c
  clear c
  go_enter Try.func32, Try.ntmps32
  go_wp2_with (refine wpList_make_full _ rfl _ _ 24 rfl w.heap.size 3 i0 (.int .i64 0) 1 Try.underlying24 hi hz0 hz1 .i64 .i64 _ _ 71 rfl rfl rfl rfl ?m1 ?m2 ?m3 ?_; rotate_left 3; intro w1 hown hg; have HO := Lib.hid (OwnI.made hown); have HG := Lib.hid hg; clear hown hg)
  case m1 => rw [hz2]; omega
  case m2 => unfold maxLen; omega
  case m3 => exact Nat.le_refl _
  clear hi hz0 hz1 hz2
  refine (below_some w1 g K _ s (HC.out.kept HG.out) (by decide) (by decide)).mono ?_
  rintro e w2 ⟨x, s1, ⟨x0, x1⟩, rfl, hc1, hg1⟩
  obtain ⟨m0, rfl⟩ := Int.eq_ofNat_of_zero_le x0
  have HS : Hid (CellsAt w g K (.int .i64 m0) w2) := Lib.hid ⟨m0, s1, _, by omega, rfl, List.length_replicate, own_new HO.out hg1 hlt, hc1, grown_trans ⟨HG.out.os, HG.out.tape, HG.out.output, HG.out.size, fun k hk _ => HG.out.block k hk (by intro h; cases h)⟩ hg1⟩
  clear hc1 hg1 x0
  go_wp2_with fail
  go_loopw [4] (fun i wr => CellsAt w g K i wr) (fun i _ => (intOf i).toNat)
  case atStart => exact HS.out
  case round =>
    obtain ⟨m, s, zs, hm, rfl, hl, ho, hc, hg⟩ := hrel
    have HL := Lib.hid hl
    clear hl
    by_cases hp : 0 < m
    · obtain ⟨k, rfl⟩ : ∃ k, m = k + 1 := ⟨m - 1, by omega⟩
      have O := Lib.hid ho
      have G := Lib.hid hg
      have C := Lib.hid hc
      clear ho hg hc
      go_wp2_with fail
      refine (below_some wr g K _ s C.out (by decide) (by decide)).mono ?_
      rintro e u1 ⟨x, s1, ⟨y0, y1⟩, rfl, hc1, hg1⟩
      obtain ⟨j, rfl⟩ := Int.eq_ofNat_of_zero_le y0
      have hj : j < 71 := by omega
      have O1 := Lib.hid (own_new O.out hg1 hlt)
      have G1 := Lib.hid (grown_trans G.out hg1)
      have C1 := Lib.hid hc1
      clear hc1 hg1 y0 y1
      go_wp2_with fail
      refine (below_some u1 g K _ s1 C1.out (by decide) (by decide)).mono ?_
      rintro e u2 ⟨y, s2, ⟨y0, y1⟩, rfl, hc2, hg2⟩
      have O2 := Lib.hid (own_new O1.out hg2 hlt)
      have G2 := Lib.hid (grown_trans G1.out hg2)
      have C2 := Lib.hid hc2
      clear hc2 hg2
      go_wp2_with fail
      refine (pick_some u2 g K s2 C2.out [1, 2, 281474976710655, y] 4 rfl (by decide) (by decide) _ rfl).mono ?_
      rintro e u3 ⟨z, s3, hz, rfl, hc3, hg3⟩
      have o3 := own_new O2.out hg3 hlt
      have hf := o3.frz j
      obtain ⟨q, hq⟩ : ∃ q, u3.cell? ⟨w.heap.size, j, none⟩ = some q := ⟨_, o3.cell j hj⟩
      have HX := Lib.hid (cells_set HL.out o3 hc3 (grown_trans G2.out hg3) hK hlt j z)
      clear o3 hc3 hg3 hz
      go_wp2
      go_roundw
      case rel => exact ⟨k, s3, _, by omega, by go_num, HX.out.1, HX.out.2.1, HX.out.2.2.1, HX.out.2.2.2⟩
      case measure => simp [intOf]
    · obtain rfl : m = 0 := by omega
      have O := Lib.hid ho
      have G := Lib.hid hg
      have C := Lib.hid hc
      clear ho hg hc
      go_wp2_with fail
      refine (below_some wr g K _ s C.out (by decide) (by decide)).mono ?_
      rintro e u1 ⟨x, s1, ⟨y0, y1⟩, rfl, hc1, hg1⟩
      have O1 := Lib.hid (own_new O.out hg1 hlt)
      have G1 := Lib.hid (grown_trans G.out hg1)
      have C1 := Lib.hid hc1
      clear hc1 hg1
      by_cases e0 : x = 0
      · have t0 : (x == 0) = true := by rw [beq_iff_eq]; exact e0
        clear e0
        go_wp2_with fail
        go_ret
        exact ⟨_, _, s1, rfl, cells_cut HL.out O1.out, by simp; omega, C1.out, G1.out⟩
      · have t0 : (x == 0) = false := by rw [beq_eq_false_iff_ne]; exact e0
        by_cases e1 : x = 1
        · have t1 : (x == 1) = true := by rw [beq_iff_eq]; exact e1
          clear e0 e1
          go_wp2_with fail
          refine (below_some u1 g K _ s1 C1.out (by decide) (by decide)).mono ?_
          rintro e u2 ⟨y, s2, ⟨z0, z1⟩, rfl, hc2, hg2⟩
          obtain ⟨j, rfl⟩ := Int.eq_ofNat_of_zero_le z0
          have hj : j < 71 := by omega
          have O2 := Lib.hid (own_new O1.out hg2 hlt)
          have G2 := Lib.hid (grown_trans G1.out hg2)
          have C2 := Lib.hid hc2
          clear hc2 hg2 z0 z1
          go_wp2_with fail
          refine (pick_some u2 g K s2 C2.out [-1, 281474976710656] 2 rfl (by decide) (by decide) _ rfl).mono ?_
          rintro e u3 ⟨z, s3, hz, rfl, hc3, hg3⟩
          have o3 := own_new O2.out hg3 hlt
          have hf := o3.frz j
          obtain ⟨q, hq⟩ : ∃ q, u3.cell? ⟨w.heap.size, j, none⟩ = some q := ⟨_, o3.cell j hj⟩
          have HX := Lib.hid (cells_set HL.out o3 hc3 (grown_trans G2.out hg3) hK hlt j z)
          clear o3 hc3 hg3 hz
          go_wp2_with fail
          go_ret
          exact ⟨_, _, s3, rfl, HX.out.2.1.rowN, by have := HX.out.1; omega, HX.out.2.2.1, HX.out.2.2.2⟩
        · have t1 : (x == 1) = false := by rw [beq_eq_false_iff_ne]; exact e1
          clear e0 e1
          go_wp2_with fail
          go_ret
          exact ⟨_, _, s1, rfl, O1.out.rowN, by have := HL.out; omega, C1.out, G1.out⟩
set_option maxRecDepth 100000 in
set_option maxHeartbeats 1000000 in
theorem spot_some (w : World) (g base : Nat) (K : Code) (s : St) (c : Cur w g K s) (v : Value) (zs : List Int) (hv : RowN w base v zs) (hgb : g < base) :
    Calls Try.prog 33 #[.pointer (some ⟨g, 0, none⟩), v] w (SomeI w g K fun _ => True) := by
  have HC := Lib.hid c
  have HV := Lib.hid hv
  obtain ⟨⟨b, off, cap, rfl, h1, h2, h3, h4⟩, _⟩ := hv
  generalize hn : zs.length = n at *
  unfold maxLen at h2
  have HN := Lib.hid hn
  clear c h4 hn
  go_enter Try.func33, Try.ntmps33
  go_wp2_with fail
  refine (once_some w g K _ s HC.out (by decide)).mono ?_
  rintro e w1 ⟨y, s1, rfl, hc1, hg1⟩
  have C1 := Lib.hid hc1
  have G1 := Lib.hid hg1
  clear hc1 hg1
  cases y with
  | true =>
    go_wp2_with fail
    refine (pick_some w1 g K s1 C1.out [-1, 71] 2 rfl (by decide) (by decide) _ rfl).mono ?_
    rintro e w2 ⟨z, s2, _, rfl, hc2, hg2⟩
    have C2 := Lib.hid hc2
    have G2 := Lib.hid (grown_trans G1.out hg2)
    clear hc2 hg2
    go_wp2_with fail
    go_ret
    exact ⟨z, s2, trivial, rfl, C2.out, G2.out⟩
  | false =>
    go_wp2_with fail
    refine (once_some w1 g K _ s1 C1.out (by decide)).mono ?_
    rintro e w2 ⟨y, s2, rfl, hc2, hg2⟩
    have C2 := Lib.hid hc2
    have G2 := Lib.hid (grown_trans G1.out hg2)
    clear hc2 hg2 C1 G1
    cases y with
    | false =>
      go_wp2_with fail
      refine (below_some w2 g K _ s2 C2.out (by decide) (by decide)).mono ?_
      rintro e w3 ⟨z, s3, _, rfl, hc3, hg3⟩
      have C3 := Lib.hid hc3
      have G3 := Lib.hid (grown_trans G2.out hg3)
      clear hc3 hg3
      go_wp2_with fail
      go_ret
      exact ⟨z, s3, trivial, rfl, C3.out, G3.out⟩
    | true =>
      go_wp2_with fail
      go_loopw [5] (fun i wr => ∃ (j : Nat) (s' : St), j ≤ n ∧ i = .int .i64 j ∧ Cur wr g K s' ∧ w.grownBy wr (some g)) (fun i _ => n - (intOf i).toNat)
      case atStart => exact ⟨0, s2, Nat.zero_le _, rfl, C2.out, G2.out⟩
      case round =>
        obtain ⟨j, s', hj, rfl, hc, hg⟩ := hrel
        have C := Lib.hid hc
        have G := Lib.hid hg
        clear hc hg
        by_cases hlt : j < n
        · obtain ⟨⟨b', off', cap', e', _, _, _, h4⟩, _⟩ := HV.out.kept G.out hgb
          injection e' with ea en ec
          injection ea with ea
          injection ea with eb eo
          subst eb eo ec
          have g1 := h4 j (by rw [HN.out]; exact hlt)
          clear h4 en
          generalize zs.getD j 0 = z at *
          by_cases hz : z = 0
          · subst hz
            go_wp2_with fail
            go_roundw
            case rel => exact ⟨j + 1, s', by omega, by go_num, C.out, G.out⟩
            case measure => simp [intOf]; omega
          · have t1 : (z != 0) = true := by rw [bne_iff_ne]; exact hz
            clear hz
            go_wp2_with fail
            refine (once_some _ g K _ s' C.out (by decide)).mono ?_
            rintro e w3 ⟨y, s3, rfl, hc3, hg3⟩
            have C3 := Lib.hid hc3
            have G3 := Lib.hid (grown_trans G.out hg3)
            clear hc3 hg3
            cases y with
            | true =>
              go_wp2_with fail
              go_ret
              exact ⟨_, s3, trivial, rfl, C3.out, G3.out⟩
            | false =>
              go_wp2_with fail
              go_roundw
              case rel => exact ⟨j + 1, s3, by omega, by go_num, C3.out, G3.out⟩
              case measure => simp [intOf]; omega
        · obtain rfl : j = n := by omega
          go_wp2_with fail
          refine (below_some _ g K _ s' C.out (by decide) (by decide)).mono ?_
          rintro e w3 ⟨z, s3, _, rfl, hc3, hg3⟩
          have C3 := Lib.hid hc3
          have G3 := Lib.hid (grown_trans G.out hg3)
          clear hc3 hg3
          go_wp2_with fail
          go_ret
          exact ⟨z, s3, trivial, rfl, C3.out, G3.out⟩
theorem cellnum_some (w : World) (g : Nat) (K : Code) (s : St) (c : Cur w g K s) :
    Calls Try.prog 34 #[.pointer (some ⟨g, 0, none⟩)] w (SomeI w g K fun _ => True) := by
  have HC := Lib.hid c
  clear c
  go_enter Try.func34, Try.ntmps34
  go_wp2_with fail
  refine (below_some w g K _ s HC.out (by decide) (by decide)).mono ?_
  rintro e w1 ⟨x, s1, _, rfl, hc1, hg1⟩
  have C1 := Lib.hid hc1
  have G1 := Lib.hid hg1
  clear hc1 hg1
  go_wp2_with fail
  refine (pick_some w1 g K s1 C1.out [0, 1, 5, 281474976710655, 281474976710656, -1, x] 7 rfl (by decide) (by decide) _ rfl).mono ?_
  rintro e w2 ⟨z, s2, _, rfl, hc2, hg2⟩
  have C2 := Lib.hid hc2
  have G2 := Lib.hid (grown_trans G1.out hg2)
  clear hc2 hg2
  go_wp2_with fail
  go_ret
  exact ⟨z, s2, trivial, rfl, C2.out, G2.out⟩
/-- Some row, some place, some number. -/
def DrawnRow (w : World) (e : Ending) (w' : World) : Prop := ∃ v zs i n, e = .returned (.tuple #[v, .int .i64 i, .int .i64 n]) ∧ RowN w' w.heap.size v zs ∧ zs.length ≤ 71 ∧ Below w.heap.size w w'
theorem new_then' {w w1 w2 : World} {g : Nat} (hg : w.heap.size ≤ g) (h1 : Below w.heap.size w w1) (h2 : w1.grownBy w2 (some g)) : Below w.heap.size w w2 :=
  h1.grown h2 h1.size (by intro k hk; injection hk with hk; omega)
theorem RowN.mono {w : World} {b b' : Nat} {v : Value} {zs : List Int} (h : RowN w b v zs) (hb : b' ≤ b) : RowN w b' v zs := by
  obtain ⟨h1, x, h2, h3⟩ := h
  exact ⟨h1, x, h2, Nat.le_trans hb h3⟩
set_option maxRecDepth 100000 in
theorem drawStore_some (w : World) (K : Code) (hk : CodeIn w K) (hl : K.len ≤ 1048576) :
    Calls Try.prog 12 #[.slice K.A K.len K.cap] w (DrawnRow w) := by
  have HN := Lib.hid (new_any w K hk hl)
  have HK := Lib.hid (CodeB.of_in hk)
  clear hk hl
  go_enter Try.func12, Try.ntmps12
  go_wp2_with fail
  refine HN.out.mono ?_
  rintro e w1 ⟨g, rfl, hg, hc, hb⟩
  have hlt := hc.lt
  have H1 := Lib.hid (cells_some w1 g K _ hc (HK.out.mono hb.size))
  have HB := Lib.hid (fun w2 h2 => new_then' (w2 := w2) hg hb h2)
  have HS := Lib.hid hb.size
  clear hc hb hg
  go_wp2_with fail
  refine H1.out.mono ?_
  rintro e w2 ⟨v, zs, s2, rfl, hv, hl, hc2, hg2⟩
  have HV := Lib.hid hv
  have HL := Lib.hid hl
  have C2 := Lib.hid hc2
  have G2 := Lib.hid hg2
  clear hv hl hc2 hg2
  go_wp2_with fail
  refine (spot_some w2 g _ K s2 C2.out v zs HV.out hlt).mono ?_
  rintro e w3 ⟨i, s3, _, rfl, hc3, hg3⟩
  have HV3 := Lib.hid (HV.out.kept hg3 hlt)
  have C3 := Lib.hid hc3
  have G3 := Lib.hid (grown_trans G2.out hg3)
  clear hc3 hg3 HV C2 G2
  go_wp2_with fail
  refine (cellnum_some w3 g K s3 C3.out).mono ?_
  rintro e w4 ⟨n, s4, _, rfl, hc4, hg4⟩
  have HV4 := Lib.hid (HV3.out.kept hg4 hlt)
  have G4 := Lib.hid (grown_trans G3.out hg4)
  clear hc4 hg4 HV3 C3 G3
  go_wp2_with fail
  go_ret3
  exact ⟨v, zs, i, n, rfl, HV4.out.mono HS.out, HL.out, HB.out w4 G4.out⟩
end Go.Proofs.Ytagohmlochbmdaa

/-
  Drawing cells with keys and records in them: some cells; nothing that was there is turned but the cursor.
-/
import Derived.Test.YtmglidfnolmcaaaGreatDoorZb
import Derived.Test.YtmglidfnolmcaaaGreatDoorNowS
import Derived.Deep.CutRange
import Derived.Deep.RegionWith
namespace Go.Proofs.YtmglidfnolmcaaaGreatDoor
open Go.RowKit M
set_option linter.unusedVariables false
/-- A row of 71 cells of the draw's own beside the cursor. -/
structure ArD (w : World) (g : Nat) (K : Code) (v : Value) (zs : List Int) (u : World) : Prop where
  own : OwnI u w.heap.size v zs
  len : zs.length = 71
  cur : ∃ s, Cur u g K s
  grown : w.grownBy u (some g)
theorem ArD.ints {w u : World} {g : Nat} {K : Code} {v : Value} {zs : List Int} (h : ArD w g K v zs u) : Ints u v zs := h.own.ints
theorem ArD.call {w u u' : World} {g : Nat} {K : Code} {v : Value} {zs : List Int} (h : ArD w g K v zs u) (hlt : g < w.heap.size) (s : St) (hc : Cur u' g K s) (hg : u.grownBy u' (some g)) : ArD w g K v zs u' := by
  refine ⟨h.own.kept hg ?_, h.len, ⟨s, hc⟩, grown_trans h.grown hg⟩
  obtain ⟨k, e, h1, _⟩ := h.own.block
  rw [e]; intro x; injection x with x; omega
theorem below_grown {u u' : World} (hb : Below u.heap.size u u') (r : Option Nat) : u.grownBy u' r := ⟨hb.os, hb.tape, hb.output, hb.size, fun i hi _ => hb.block i hi⟩
theorem ArD.below {w u u' : World} {g : Nat} {K : Code} {v : Value} {zs : List Int} (h : ArD w g K v zs u) (hb : Below u.heap.size u u') : ArD w g K v zs u' := by
  obtain ⟨s, hc⟩ := h.cur
  exact ⟨h.own.below hb, h.len, ⟨s, hc.kept (below_grown hb none)⟩, grown_trans h.grown (below_grown hb _)⟩
theorem ArD.new {w u u' : World} {g : Nat} {K : Code} {v v' : Value} {zs ys : List Int} (h : ArD w g K v zs u) (ho : OwnI u' u.heap.size v' ys) (hb : Below u.heap.size u u') (hl : ys.length = zs.length) : ArD w g K v' ys u' := by
  have h' := h.below hb
  exact ⟨ho.base h.grown.size, by rw [hl, h.len], h'.cur, h'.grown⟩
theorem ArD.store {w u : World} {g : Nat} {K : Code} {v : Value} {zs : List Int} (h : ArD w g K v zs u) (hlt : g < w.heap.size) (hK : CodeB K w.heap.size) (j : Nat) (z : Int) :
    ∃ b cap, v = .slice (some ⟨b, 0, none⟩) 71 cap ∧ 71 ≤ cap ∧ cap ≤ maxLen ∧ b < u.heap.size ∧ (j < 71 → ∃ y, u.cell? ⟨b, j, none⟩ = some (.int .i64 y)) ∧ u.frozen? ⟨b, j, none⟩ = false ∧ ArD w g K v (zs.set j z) (u.setCell ⟨b, j, none⟩ (.int .i64 z)) := by
  obtain ⟨ho, hl, ⟨s, hc⟩, hg⟩ := h
  obtain ⟨b, off, cap, e, h1, h2, h3, h4⟩ := ho.ints
  obtain ⟨b', cap', e'⟩ := ho.2
  rw [e'] at e
  injection e with e1 e2 e3
  injection e1 with e1
  injection e1 with e1 e4 _
  subst e1; subst e4; subst e3
  rw [hl] at e'
  subst e'
  have hb : w.heap.size ≤ b' := by
    obtain ⟨k, e, hk, _⟩ := ho.block
    have e : b' = k := Option.some.inj e
    omega
  refine ⟨b', cap', rfl, by omega, h2, h3, fun hj => ⟨_, ho.cell j (by omega)⟩, ho.frz j, (ho.set j z).1, by simpa using hl, ⟨s, hc.setNew hK hlt hb j _⟩, grown_setNew hg hb j _⟩
/-- Some row of 71 cells. -/
def SomeA (w : World) (g : Nat) (K : Code) (e : Ending) (w' : World) : Prop := ∃ v zs, e = .returned v ∧ ArD w g K v zs w'
theorem keysT_key {zs : List Int} (j : Nat) {x : ByteArray} (h : x ∈ keysT zs j) : keyOkV x = true := by
  unfold keysT at h
  obtain ⟨s, _, hx⟩ := List.mem_flatMap.1 h
  split at hx
  · rename_i u hu
    simp at hx
    obtain ⟨k, kd⟩ := u
    subst hx
    exact (tag_untag hu).2.1
  · cases hx
theorem keysV_size (zs : List Int) (i : Nat) (h : i < (keysV zs).length) : ((keysV zs).getD i ⟨#[]⟩).size ≤ 4 := by
  have hm : (keysV zs).getD i ⟨#[]⟩ ∈ keysV zs := by rw [List.getD_eq_getElem?_getD, List.getElem?_eq_getElem h]; exact List.getElem_mem h
  generalize (keysV zs).getD i ⟨#[]⟩ = x at *
  unfold keysV at hm
  split at hm
  · exact (keyOkV_iff.1 (keysT_key 4 hm)).1.2
  · cases hm
set_option maxRecDepth 100000 in
set_option maxHeartbeats 1000000 in
theorem l6Arena_some (w : World) (g : Nat) (K : Code) (s : St) (most : Int) (c : Cur w g K s) (h0 : 0 ≤ most) (h1 : most ≤ 100) :
    Calls Tryz.prog 90 #[.pointer (some ⟨g, 0, none⟩), .int .i64 most] w (SomeA w g K) := by
  obtain ⟨i0, hi, hz0, hz1, hz2⟩ := info_parts info_int
  have hlt := c.lt
  have HC := Lib.hid c
  clear c
  go_enter Tryz.func90, Tryz.ntmps90
  go_wp2_with (refine wpList_make_full _ rfl _ _ 24 rfl w.heap.size 3 i0 (.int .i64 0) 1 Tryz.underlying24 hi hz0 hz1 .i64 .i64 _ _ 71 rfl rfl rfl rfl ?m1 ?m2 ?m3 ?_; rotate_left 3; intro w1 hown hg; have HO := Lib.hid (OwnI.made hown); have HG := Lib.hid hg; clear hown hg)
  case m1 => rw [hz2]; omega
  case m2 => unfold maxLen; omega
  case m3 => exact Nat.le_refl _
  clear hi hz0 hz1 hz2
  refine (below_some w1 g K _ s (HC.out.kept HG.out) (by omega) (by omega)).mono ?_
  rintro e w2 ⟨x, s1, ⟨x0, x1⟩, rfl, hc1, hg1⟩
  obtain ⟨m0, rfl⟩ := Int.eq_ofNat_of_zero_le x0
  have HD := Lib.hid (ArD.call ⟨HO.out, List.length_replicate, ⟨s, HC.out.kept HG.out⟩, ⟨HG.out.os, HG.out.tape, HG.out.output, HG.out.size, fun k hk _ => HG.out.block k hk (by intro h; cases h)⟩⟩ hlt s1 hc1 hg1)
  have hm0 : m0 ≤ 100 := by omega
  clear hc1 hg1 x0 x1 HO HG HC
  go_wp2_with fail
  go_loopw [5, 6] (fun v i wr => ∃ (m : Nat) (zs : List Int), m ≤ 100 ∧ i = .int .i64 m ∧ ArD w g K v zs wr) (fun _ i _ => (intOf i).toNat)
  case atStart => exact ⟨m0, _, hm0, rfl, HD.out⟩
  case round =>
    clear HD hm0
    obtain ⟨m, zs, hm, rfl, hd⟩ := hrel
    have HD := Lib.hid hd
    clear hd
    by_cases hp : 0 < m
    · obtain ⟨k, rfl⟩ : ∃ k, m = k + 1 := ⟨m - 1, by omega⟩
      have hl := HD.out.len
      go_wp2_with fail
      refine (l4Key_some wr g K _ HD.out.cur.choose_spec).mono ?_
      rintro e u1 ⟨x, s1, hx, rfl, hc1, hg1⟩
      have HD1 := Lib.hid (HD.out.call hlt s1 hc1 hg1)
      have HX := Lib.hid hx
      clear hc1 hg1 hx
      go_wp2_with fail
      refine (below_some u1 g K _ _ HD1.out.cur.choose_spec (by decide) (by decide)).mono ?_
      rintro e u2 ⟨y, s2, ⟨y0, y1⟩, rfl, hc2, hg2⟩
      have HD2 := Lib.hid (HD1.out.call hlt s2 hc2 hg2)
      clear hc2 hg2
      go_wp2_with fail
      refine (sRegister_any u2 _ zs x (1 + y) HD2.out.ints (by have := HD2.out.len; omega) (by have := HX.out; unfold maxLen; omega)).mono ?_
      rintro e u3 ⟨v3, rfl, ho, hb⟩
      have HD3 := Lib.hid (HD2.out.new ho hb (regC_length _ _ _))
      clear ho hb hl
      go_wp2_with fail
      go_roundw
      case rel => exact ⟨k, _, by omega, by go_num, HD3.out⟩
      case measure => simp [intOf]
    · obtain rfl : m = 0 := by omega
      go_wp2_with fail
      go_ret
      exact ⟨_, _, rfl, HD.out⟩
set_option maxRecDepth 100000 in
set_option maxHeartbeats 8000000 in
theorem l8Arena_some (w : World) (g : Nat) (K : Code) (s : St) (c : Cur w g K s) : Calls Tryz.prog 56 #[.pointer (some ⟨g, 0, none⟩)] w (SomeA w g K) := by
  have hlt := c.lt
  have HC := Lib.hid c
  clear c
  go_enter Tryz.func56, Tryz.ntmps56
  go_wp2_with fail
  refine (l6Arena_some w g K s 5 HC.out (by decide) (by decide)).mono ?_
  rintro e w1 ⟨v0, zs0, rfl, hd⟩
  have HD := Lib.hid hd
  clear hd HC
  go_wp2_with fail
  refine (below_some w1 g K _ _ HD.out.cur.choose_spec (by decide) (by decide)).mono ?_
  rintro e w2 ⟨x, s1, ⟨x0, x1⟩, rfl, hc1, hg1⟩
  obtain ⟨m0, rfl⟩ := Int.eq_ofNat_of_zero_le x0
  have HD2 := Lib.hid (HD.out.call hlt s1 hc1 hg1)
  have hm0 : m0 ≤ 14 := by omega
  clear hc1 hg1 x0 x1 HD
  go_wp2_with fail
  go_loopw [3, 4] (fun v i wr => ∃ (m : Nat) (zs : List Int), m ≤ 14 ∧ i = .int .i64 m ∧ ArD w g K v zs wr) (fun _ i _ => (intOf i).toNat)
  case atStart => exact ⟨m0, _, hm0, rfl, HD2.out⟩
  case round =>
    clear HD2 hm0
    obtain ⟨m, zs, hm, rfl, hd⟩ := hrel
    have HD := Lib.hid hd
    clear hd
    by_cases hp : 0 < m
    · obtain ⟨k, rfl⟩ : ∃ k, m = k + 1 := ⟨m - 1, by omega⟩
      go_wp2_with fail
      refine (once_some wr g K _ _ HD.out.cur.choose_spec (by decide)).mono ?_
      rintro e u1 ⟨b, s1, rfl, hc1, hg1⟩
      have HD1 := Lib.hid (HD.out.call hlt s1 hc1 hg1)
      clear hc1 hg1 HD
      go_upto_if 15 with fail
      go_cut [3] from 16 to 20 (fun v wx => ∃ zs, ArD w g K v zs wx)
      case first =>
        cases b with
        | false =>
          go_wp2_with fail
          go_meet
          exact ⟨_, HD1.out⟩
        | true =>
          go_wp2_with fail
          refine (sFlushNow_any u1 _ zs HD1.out.ints (by have := HD1.out.len; omega)).mono ?_
          rintro e u2 ⟨v2, r2, rfl, ho, _, _, hb⟩
          have HD2 := Lib.hid (HD1.out.new ho hb (flushC_len _))
          clear ho hb
          go_wp2_with fail
          go_meet
          exact ⟨_, HD2.out⟩
      case rest =>
        clear HD1
        obtain ⟨zs1, hd⟩ := hcut
        have HD := Lib.hid hd
        clear hd
        go_wp2_with fail
        refine (sKeysIn_any _ _ zs1 HD.out.ints).mono ?_
        rintro e u3 ⟨v3, rfl, ho, hb⟩
        have HT := Lib.hid ho.arg
        have HKL := Lib.hid (fun k hk => Nat.le_trans HD.out.grown.size (ho.base_le k hk))
        have HD3 := Lib.hid (HD.out.below hb)
        have HSZ := Lib.hid (keysV_size zs1)
        have hl4 := keysV_len zs1
        clear ho hb HD
        generalize keysV zs1 = l at *
        obtain ⟨A, cap, e, hA1, hA2, hA3⟩ := HT.out
        subst e
        by_cases hl0 : 0 < l.length
        · obtain ⟨kb, ko, rfl, hkb, hcells⟩ := hA3 hl0
          have HCE := Lib.hid (show ∀ j, j < l.length → u3.drew.cell? ⟨kb, ko + j, none⟩ = some (.string (l.getD j ⟨#[]⟩)) from hcells)
          have HD3d := Lib.hid (HD3.out.below (u' := u3.drew) ⟨rfl, rfl, rfl, Nat.le_refl _, fun _ _ => rfl⟩)
          have hkb2 : w.heap.size ≤ kb := HKL.out kb rfl
          clear hcells hA3 HT
          go_upto_region 9 with fail
          have HN1 := Lib.hid (show (0 : Int) < (l.length : Int) by omega)
          have HN2 := Lib.hid (show (l.length : Int) ≤ 4611686018427387904 by omega)
          go_region_with (first
            | (go_at_call 21; (with_reducible refine Calls.mono (below_some _ g K 3 _ HD3d.out.cur.choose_spec (by decide) (by decide)) ?_); rintro e u4 ⟨x, s4, ⟨x0, x1⟩, rfl, hc4, hg4⟩; have HD4 := Lib.hid (HD3d.out.call hlt s4 hc4 hg4); have HK4 := Lib.hid (fun j hj => hg4.cell (HCE.out j hj) (fun e => by have e' : kb = g := Option.some.inj e; omega)); clear hc4 hg4)
            | (go_at_call 21; (with_reducible refine Calls.mono (below_some _ g K (l.length : Int) _ HD4.out.cur.choose_spec HN1.out HN2.out) ?_); rintro e u5 ⟨y, s5, ⟨y0, y1⟩, rfl, hc5, hg5⟩; obtain ⟨i, rfl⟩ := Int.eq_ofNat_of_zero_le y0; have HD5 := Lib.hid (HD4.out.call hlt s5 hc5 hg5); have hil : i < l.length := Int.ofNat_lt.1 y1; have hk5 := hg5.cell (HK4.out i hil) (fun e => by have e' : kb = g := Option.some.inj e; omega); have HSK := Lib.hid (show (l.getD i ⟨#[]⟩).size ≤ maxLen by have := HSZ.out i hil; unfold maxLen; omega); generalize l.getD i ⟨#[]⟩ = kx at hk5 HSK; clear hc5)
            | (go_at_call 22; (with_reducible refine Calls.mono (l5Val_some _ g K _ HD5.out.cur.choose_spec) ?_); rintro e u6 ⟨z, s6, ⟨z0, z1⟩, rfl, hc6, hg6⟩; have HD6 := Lib.hid (HD5.out.call hlt s6 hc6 hg6); have HL6 := Lib.hid (show zs1.length ≤ 1048576 by have := HD6.out.len; omega); have hk6 := hg6.cell hk5 (fun e => by have e' : kb = g := Option.some.inj e; omega); clear hc6 hg6)
            | (go_at_call 7; (with_reducible refine Calls.mono (sRecordNow_any _ _ zs1 x kx z HD6.out.ints HL6.out HSK.out) ?_); rintro e u7 ⟨v7, rfl, ho7, hb7⟩; have HD7 := Lib.hid (HD6.out.new ho7 hb7 (recC_len _ _ _ _)); clear ho7 hb7))
          all_goals
            go_wp2_with fail
            go_roundw
            case rel => exact ⟨k, _, by omega, by go_num, HD7.out⟩
            case measure => simp [intOf]
        · have hl1 : l.length = 0 := by omega
          have hz : decide ((0 : Int) < (l.length : Int)) = false := by rw [decide_eq_false]; omega
          go_wp2_with fail
          go_roundw
          case rel => exact ⟨k, _, by omega, by go_num, HD3.out⟩
          case measure => simp [intOf]
    · obtain rfl : m = 0 := by omega
      go_wp2_with fail
      go_ret
      exact ⟨_, _, rfl, HD.out⟩
end Go.Proofs.YtmglidfnolmcaaaGreatDoor

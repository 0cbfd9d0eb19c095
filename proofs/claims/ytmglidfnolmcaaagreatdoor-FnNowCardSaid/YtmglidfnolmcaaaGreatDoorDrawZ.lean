/-
  Drawing any cells, with a buffer, and what a record takes: some cells, some numbers; nothing that was there is turned.
-/
import Derived.Test.YtmglidfnolmcaaaGreatDoorDrawA
namespace Go.Proofs.YtmglidfnolmcaaaGreatDoor
open Go.RowKit M
set_option linter.unusedVariables false
theorem ArD.cells {w u : World} {g : Nat} {K : Code} {v : Value} {zs : List Int} (h : ArD w g K v zs u) : CellsD w g K (.returned v) u := by
  obtain ⟨s, hc⟩ := h.cur
  exact ⟨v, zs, s, rfl, h.own.rowN, by rw [h.len]; exact Nat.le_refl _, hc, h.grown⟩
set_option maxRecDepth 100000 in
set_option maxHeartbeats 4000000 in
theorem l8Any_some (w : World) (g : Nat) (K : Code) (s : St) (c : Cur w g K s) (hB : CodeB K w.heap.size) : Calls Tryz.prog 17 #[.pointer (some ⟨g, 0, none⟩)] w (CellsD w g K) := by
  have hlt := c.lt
  have HC := Lib.hid c
  clear c
  go_enter Tryz.func17, Tryz.ntmps17
  go_wp2_with fail
  refine (l8Arena_some w g K s HC.out).mono ?_
  rintro e w1 ⟨v0, zs0, rfl, hd⟩
  have HD := Lib.hid hd
  clear hd HC
  go_wp2_with fail
  refine (below_some w1 g K _ _ HD.out.cur.choose_spec (by decide) (by decide)).mono ?_
  rintro e w2 ⟨x, s1, ⟨x0, x1⟩, rfl, hc1, hg1⟩
  have HD2 := Lib.hid (HD.out.call hlt s1 hc1 hg1)
  clear hc1 hg1 HD
  by_cases e0 : x = 0
  · have t0 : (x == 0) = true := by rw [beq_iff_eq]; exact e0
    clear e0 x0 x1
    obtain ⟨b, cap, rfl, hcap, hcm, hblt, hcl, hfz, _⟩ := HD2.out.store hlt hB 0 0
    clear hcl hfz
    go_wp2_with fail
    refine (below_some w2 g K 71 _ HD2.out.cur.choose_spec (by decide) (by decide)).mono ?_
    rintro e w3 ⟨y, s3, ⟨y0, y1⟩, rfl, hc3, hg3⟩
    have HD3 := Lib.hid (HD2.out.call hlt s3 hc3 hg3)
    obtain ⟨j, rfl⟩ := Int.eq_ofNat_of_zero_le y0
    have hj : j < 71 := by omega
    clear hc3 hg3 y0 y1 HD2 hblt
    go_wp2_with fail
    refine (pick_some w3 g K _ HD3.out.cur.choose_spec [1, 9, 281474976710655, 65537] 4 rfl (by decide) (by decide) _ rfl).mono ?_
    rintro e w4 ⟨z, s4, hz, rfl, hc4, hg4⟩
    have HD4 := Lib.hid (HD3.out.call hlt s4 hc4 hg4)
    clear hz hc4 hg4 HD3
    obtain ⟨b', cap', he, _, _, hb4, hq, hf, hst⟩ := HD4.out.store hlt hB j z
    injection he with he1 _ he2
    injection he1 with he1
    injection he1 with he1 _ _
    subst he1; subst he2
    obtain ⟨y, hy⟩ := hq hj
    have HE := Lib.hid hst
    clear hst hq
    go_wp2_with fail
    go_ret
    exact HE.out.cells
  · have t0 : (x == 0) = false := by rw [beq_eq_false_iff_ne]; exact e0
    by_cases e1 : x = 1
    · have t1 : (x == 1) = true := by rw [beq_iff_eq]; exact e1
      clear e0 e1 x0 x1
      go_wp2_with fail
      refine (cells_some w2 g K _ HD2.out.cur.choose_spec (hB.mono HD2.out.grown.size)).mono ?_
      rintro e w3 ⟨v3, zs3, s3, rfl, hr, hl, hc, hg⟩
      have HR := Lib.hid (hr.mono HD2.out.grown.size)
      have HL := Lib.hid hl
      have HC := Lib.hid hc
      have HG := Lib.hid (grown_trans HD2.out.grown hg)
      clear hr hl hc hg
      go_wp2_with fail
      go_ret
      exact ⟨_, zs3, s3, rfl, HR.out, HL.out, HC.out, HG.out⟩
    · have t1 : (x == 1) = false := by rw [beq_eq_false_iff_ne]; exact e1
      by_cases e2 : x = 2
      · have t2 : (x == 2) = true := by rw [beq_iff_eq]; exact e2
        clear e0 e1 e2 x0 x1
        obtain ⟨b, cap, rfl, hcap, hcm, hblt, hcl, hfz, _⟩ := HD2.out.store hlt hB 0 0
        clear hcl hfz hblt
        go_wp2_with fail
        refine (pick_some w2 g K _ HD2.out.cur.choose_spec [1, 5, 281474976710655] 3 rfl (by decide) (by decide) _ rfl).mono ?_
        rintro e w4 ⟨z, s4, hz, rfl, hc4, hg4⟩
        have HD4 := Lib.hid (HD2.out.call hlt s4 hc4 hg4)
        clear hz hc4 hg4 HD2
        obtain ⟨b', cap', he, _, _, hb4, hq, hf, hst⟩ := HD4.out.store hlt hB 0 z
        injection he with he1 _ he2
        injection he1 with he1
        injection he1 with he1 _ _
        subst he1; subst he2
        obtain ⟨y, hy⟩ := hq (by decide)
        have HE := Lib.hid hst
        clear hst hq
        go_wp2_with fail
        go_ret
        exact HE.out.cells
      · have t2 : (x == 2) = false := by rw [beq_eq_false_iff_ne]; exact e2
        clear e0 e1 e2 x0 x1
        go_wp2_with fail
        go_ret
        exact HD2.out.cells
/-- Some cells and some number, of the draw's own. -/
def SomeCB (w : World) (e : Ending) (w' : World) : Prop := ∃ v zs b, e = .returned (.tuple #[v, .int .i64 b]) ∧ RowN w' w.heap.size v zs ∧ zs.length ≤ 71 ∧ (-1 ≤ b ∧ b ≤ 2) ∧ Below w.heap.size w w'
/-- Cells of the draw's own beside the cursor. -/
structure RcD (w : World) (g : Nat) (K : Code) (v : Value) (zs : List Int) (u : World) : Prop where
  row : RowN u w.heap.size v zs
  len : zs.length ≤ 71
  cur : ∃ s, Cur u g K s
  grown : w.grownBy u (some g)
theorem RcD.call {w u u' : World} {g : Nat} {K : Code} {v : Value} {zs : List Int} (h : RcD w g K v zs u) (hlt : g < w.heap.size) (s : St) (hc : Cur u' g K s) (hg : u.grownBy u' (some g)) : RcD w g K v zs u' :=
  ⟨h.row.kept hg hlt, h.len, ⟨s, hc⟩, grown_trans h.grown hg⟩
theorem RcD.below {w u u' : World} {g : Nat} {K : Code} {v : Value} {zs : List Int} (h : RcD w g K v zs u) (hb : Below u.heap.size u u') : RcD w g K v zs u' := by
  obtain ⟨s, hc⟩ := h.cur
  obtain ⟨h1, b, e, h2⟩ := h.row
  exact ⟨⟨h1.below hb, b, e, h2⟩, h.len, ⟨s, hc.kept (below_grown hb none)⟩, grown_trans h.grown (below_grown hb _)⟩
theorem results_tmp4 {fn : Func} {t u v x : Tmp} (h : fn.results = #[.tmp t, .tmp u, .tmp v, .tmp x]) (tmps : Array Value) (P : Program) (w : World) :
    (results fn tmps).run P w = .ok (.tuple #[tmps.getD t undef, tmps.getD u undef, tmps.getD v undef, tmps.getD x undef]) w := by
  simp [results, h]
/-- Some cells, a number, a text and a number, of the draw's own. -/
def SomeRec (w : World) (e : Ending) (w' : World) : Prop :=
  ∃ v zs t key x, e = .returned (.tuple #[v, .int .i64 t, .string key, .int .i64 x]) ∧ RowN w' w.heap.size v zs ∧ zs.length ≤ 71 ∧ (-1 ≤ t ∧ t ≤ 3) ∧ key.size ≤ 5 ∧ (-1 ≤ x ∧ x ≤ 65536) ∧ Below w.heap.size w w'
set_option maxRecDepth 100000 in
set_option maxHeartbeats 8000000 in
theorem drawRecord_some (w : World) (K : Code) (hk : CodeIn w K) (hl : K.len ≤ 1048576) :
    Calls Tryz.prog 5 #[.slice K.A K.len K.cap] w (SomeRec w) := by
  have HK := Lib.hid hk
  clear hk
  go_enter Tryz.func5, Tryz.ntmps5
  go_wp2_with fail
  refine (new_any w K HK.out hl).mono ?_
  rintro e w1 ⟨g, rfl, hg0, hc, hb⟩
  have HB := Lib.hid hb
  have HC := Lib.hid hc
  have HKB := Lib.hid ((CodeB.of_in HK.out).mono hb.size)
  have HG0 := Lib.hid hg0
  have hlt := hc.lt
  clear hb hc hg0
  go_wp2_with fail
  refine (l8Any_some w1 g K _ HC.out HKB.out).mono ?_
  rintro e w2 ⟨v, zs, s2, rfl, hr, hzl, hc2, hg2⟩
  have HD := Lib.hid (RcD.mk hr hzl ⟨s2, hc2⟩ hg2)
  clear hr hc2 hg2 HC hzl
  go_wp2_with fail
  refine (sKeysIn_any w2 _ zs HD.out.row.1).mono ?_
  rintro e w3 ⟨v3, rfl, ho, hb⟩
  have HT := Lib.hid ho.arg
  have HKL := Lib.hid (fun k hk => Nat.le_trans HD.out.grown.size (ho.base_le k hk))
  have HD3 := Lib.hid (HD.out.below hb)
  have HSZ := Lib.hid (keysV_size zs)
  have hl4 := keysV_len zs
  clear ho hb HD
  generalize keysV zs = l at *
  obtain ⟨A, cap, e, hA1, hA2, hA3⟩ := HT.out
  subst e
  have HA3 := Lib.hid hA3
  clear hA3 HT
  go_wp2_with fail
  refine (l4Any_some w3 g K _ HD3.out.cur.choose_spec).mono ?_
  rintro e w4 ⟨key, s4, hks, rfl, hc4, hg4⟩
  have HD4 := Lib.hid (HD3.out.call hlt s4 hc4 hg4)
  have HG4 := Lib.hid hg4
  have HKS := Lib.hid hks
  clear hc4 hg4 hks
  go_upto_region 5 with fail
  go_cut [27] from 20 to 27 (fun c wx => ∃ b : Bool, c = .bool b ∧ (b = true → 0 < l.length) ∧ w3.grownBy wx (some g) ∧ RcD w1 g K v zs wx)
  case first =>
    by_cases hl0 : 0 < l.length
    · have hg0' := Int.ofNat_lt.2 hl0
      go_wp2_with fail
      refine (once_some w4 g K _ _ HD4.out.cur.choose_spec (by decide)).mono ?_
      rintro e w5 ⟨b, s5, rfl, hc5, hg5⟩
      have HD5 := Lib.hid (HD4.out.call hlt s5 hc5 hg5)
      have HG5 := Lib.hid (grown_trans HG4.out hg5)
      clear hc5 hg5
      go_wp2_with fail
      go_meet
      exact ⟨!b, rfl, fun _ => hl0, HG5.out, HD5.out⟩
    · have hz : decide ((0 : Int) < (l.length : Int)) = false := by rw [decide_eq_false]; omega
      go_wp2_with fail
      go_meet
      exact ⟨false, rfl, fun h => (by cases h), HG4.out, HD4.out⟩
  case rest =>
  obtain ⟨b, rfl, hb0, hg, hd⟩ := hcut
  have HD5 := Lib.hid hd
  have HG5 := Lib.hid hg
  have HB0 := Lib.hid hb0
  clear hb0 hg hd HD4 HG4
  go_upto_if 27 with fail
  go_cut [9] from 28 to 34 (fun q wx => ∃ key : ByteArray, q = .string key ∧ key.size ≤ 5 ∧ RcD w1 g K v zs wx)
  case first =>
    cases b with
    | false =>
      go_wp2_with fail
      go_meet
      exact ⟨key, rfl, HKS.out, HD5.out⟩
    | true =>
      have hl0 := HB0.out rfl
      obtain ⟨kb, ko, rfl, hkb, hcells⟩ := HA3.out hl0
      have HCE := Lib.hid hcells
      have hkb2 : w1.heap.size ≤ kb := HKL.out kb rfl
      have hg0' := Int.ofNat_lt.2 hl0
      clear hcells
      go_wp2_with fail
      refine (below_some _ g K (l.length : Int) _ HD5.out.cur.choose_spec (by omega) (by omega)).mono ?_
      rintro e w6 ⟨y, s6, ⟨y0, y1⟩, rfl, hc6, hg6⟩
      obtain ⟨i, rfl⟩ := Int.eq_ofNat_of_zero_le y0
      have hil : i < l.length := Int.ofNat_lt.1 y1
      have HD6 := Lib.hid (HD5.out.call hlt s6 hc6 hg6)
      have hk6 := (grown_trans HG5.out hg6).cell (HCE.out i hil) (fun e => by have e' : kb = g := Option.some.inj e; omega)
      have HSK := Lib.hid (show (l.getD i ⟨#[]⟩).size ≤ 5 by have := HSZ.out i hil; omega)
      generalize l.getD i ⟨#[]⟩ = kx at hk6 HSK
      clear hc6 hg6
      go_wp2_with fail
      go_meet
      exact ⟨kx, rfl, HSK.out, HD6.out⟩
  case rest =>
    clear HD5 HG5
    obtain ⟨key2, rfl, hk2, hd⟩ := hcut
    have HD := Lib.hid hd
    have HKS2 := Lib.hid hk2
    clear hd hk2 HKS HD3 HSZ HA3 HKL HB0
    go_wp2_with fail
    refine (below_some _ g K 3 _ HD.out.cur.choose_spec (by decide) (by decide)).mono ?_
    rintro e w5 ⟨t, s5, ht, rfl, hc5, hg5⟩
    have HD5 := Lib.hid (HD.out.call hlt s5 hc5 hg5)
    have HT := Lib.hid ht
    clear hc5 hg5 ht
    go_wp2_with fail
    refine (l5Val_some _ g K _ HD5.out.cur.choose_spec).mono ?_
    rintro e w6 ⟨x, s6, hx, rfl, hc6, hg6⟩
    have HD6 := Lib.hid (HD5.out.call hlt s6 hc6 hg6)
    have HX := Lib.hid hx
    clear hc6 hg6 hx
    go_wp2_with fail
    refine (below_some _ g K 14 _ HD6.out.cur.choose_spec (by decide) (by decide)).mono ?_
    rintro e w7 ⟨q, s7, hq, rfl, hc7, hg7⟩
    have HD7 := Lib.hid (HD6.out.call hlt s7 hc7 hg7)
    clear hc7 hg7 hq
    have HEND := Lib.hid (fun u (h : RcD w1 g K v zs u) => (⟨h.row.mono HB.out.size, new_then' HG0.out HB.out h.grown⟩ : RowN u w.heap.size v zs ∧ Below w.heap.size w u))
    by_cases e0 : q = 0
    · have t0 : (q == 0) = true := by rw [beq_iff_eq]; exact e0
      clear e0
      go_wp2_with fail
      refine (pick_some w7 g K _ HD7.out.cur.choose_spec [-1, 3] 2 rfl (by decide) (by decide) _ rfl).mono ?_
      rintro e w8 ⟨z, s8, hz, rfl, hc8, hg8⟩
      have HD8 := Lib.hid (HD7.out.call hlt s8 hc8 hg8)
      have HZ := Lib.hid (show -1 ≤ z ∧ z ≤ 3 by simp at hz; omega)
      clear hz hc8 hg8
      go_wp2_with fail
      (try simp only [Exit.inBlock, Exit.then])
      refine bodyPost_ret (results_tmp4 rfl _ _ _) rfl ?_
      exact ⟨v, zs, z, key2, x, rfl, (HEND.out _ HD8.out).1, HD8.out.len, HZ.out, HKS2.out, by have := HX.out; omega, (HEND.out _ HD8.out).2⟩
    · have t0 : (q == 0) = false := by rw [beq_eq_false_iff_ne]; exact e0
      by_cases e1 : q = 1
      · have t1 : (q == 1) = true := by rw [beq_iff_eq]; exact e1
        clear e0 e1
        go_wp2_with fail
        refine (pick_some w7 g K _ HD7.out.cur.choose_spec [-1, 65536] 2 rfl (by decide) (by decide) _ rfl).mono ?_
        rintro e w8 ⟨z, s8, hz, rfl, hc8, hg8⟩
        have HD8 := Lib.hid (HD7.out.call hlt s8 hc8 hg8)
        have HZ := Lib.hid (show -1 ≤ z ∧ z ≤ 65536 by simp at hz; omega)
        clear hz hc8 hg8
        go_wp2_with fail
        (try simp only [Exit.inBlock, Exit.then])
        refine bodyPost_ret (results_tmp4 rfl _ _ _) rfl ?_
        exact ⟨v, zs, t, key2, z, rfl, (HEND.out _ HD8.out).1, HD8.out.len, by have := HT.out; omega, HKS2.out, HZ.out, (HEND.out _ HD8.out).2⟩
      · have t1 : (q == 1) = false := by rw [beq_eq_false_iff_ne]; exact e1
        clear e0 e1
        go_wp2_with fail
        (try simp only [Exit.inBlock, Exit.then])
        refine bodyPost_ret (results_tmp4 rfl _ _ _) rfl ?_
        exact ⟨v, zs, t, key2, x, rfl, (HEND.out _ HD7.out).1, HD7.out.len, by have := HT.out; omega, HKS2.out, by have := HX.out; omega, (HEND.out _ HD7.out).2⟩
end Go.Proofs.YtmglidfnolmcaaaGreatDoor

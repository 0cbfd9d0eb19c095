/-
  Texts of this seat, laid together.
-/
import Derived.Test.YtnlepnfdgdbkoaaGreatDoorYStepB
namespace Go.Proofs.YtnlepnfdgdbkoaaGreatDoor
open Go.RowKit M
set_option linter.unusedVariables false
set_option linter.unusedSimpArgs false
theorem nil_rows {w : World} : HeapS w (fun _ => False) [⟨.slice none 0 0, 55, 10, 0, []⟩] :=
  ⟨Heap.one (r := ⟨.slice none 0 0, 55, 10, 0, []⟩) ⟨rfl, .inl ⟨rfl, rfl⟩⟩, fun r hr k hk => by rw [List.mem_singleton.1 hr] at hk; cases hk⟩
set_option maxRecDepth 100000 in
set_option maxHeartbeats 1600000 in
theorem iTake_any (w : World) (κ : Nat → Nat) (g b cap : Nat) (vt : Value) (t : Nat) (s : S) (r : J) (vc vl : Value) (h : PJ w κ g b cap vt t s r vc vl) (hlen : s.log.length ≤ 1048576) (code win : Int) :
    Calls Tryz.prog 105 #[.pointer (some ⟨g, 0, none⟩), .int .i64 (t : Int), .int .i64 code, .int .i64 win] w (PX w κ g b cap vt t (pointV s t r code win)) := by
  obtain ⟨vk, vr, hrg, hvk, hvr, hfz, hb2, hk1, hk2⟩ := h.cells
  have ht4 : (t : Int) < 4 := by have := h.tl; omega
  have p1 : w.cell? ⟨g, 1, none⟩ = some (.slice (some ⟨b, 0, none⟩) 4 cap) := h.blk.get 1
  have c15 : w.cell? ⟨b, t * 18 + 15, none⟩ = some (.int .i64 r.code) := hrg 15 _ rfl
  have f15 : w.frozen? ⟨b, t * 18 + 15, none⟩ = false := hfz _
  have hf := h.fld 15 (by decide) (r' := { r with code := code }) (.int .i64 code) rfl rfl
  have HN := Lib.hid (iNote_any _ κ g b cap vt t s { r with code := code } vc vl hf.1 hlen ⟨2, 0, 0, 0, zeroO, code, win, 0, 0, []⟩ none 0 (fun _ => False) nil_rows (fun _ h => h.elim))
  have HM := Lib.hid hf.2
  clear hf h hrg hvk hvr hfz hk1 hk2
  go_enter Tryz.func105, Tryz.ntmps105
  go_wp2_with fail
  refine HN.out.mono ?_
  rintro e w2 ⟨rfl, κ', vl', hp, hm⟩
  go_wp2_with fail
  go_end0
  exact ⟨rfl, κ', vc, vl', hp, HM.out.trans hm.mv⟩
set_option maxRecDepth 100000 in
set_option maxHeartbeats 1600000 in
theorem iFinish_any (w : World) (κ : Nat → Nat) (g b cap : Nat) (vt : Value) (t : Nat) (s : S) (r : J) (vc vl : Value) (h : PJ w κ g b cap vt t s r vc vl) (hlen : s.log.length ≤ 1048576) (code : Int) :
    Calls Tryz.prog 98 #[.pointer (some ⟨g, 0, none⟩), .int .i64 (t : Int), .int .i64 code] w (PX w κ g b cap vt t (endV s t r code)) := by
  have HT := Lib.hid (iTake_any w κ g b cap vt t s r vc vl h hlen code (-1))
  have ht4 : (t : Int) < 4 := by have := h.tl; omega
  clear h
  go_enter Tryz.func98, Tryz.ntmps98
  go_wp2_with fail
  refine HT.out.mono ?_
  rintro e w1 ⟨rfl, κ1, vc1, vl1, hp, hm⟩
  obtain ⟨vk, vr, hrg, hvk, hvr, hfz, hb2, hk1, hk2⟩ := hp.cells
  have p1 : w1.cell? ⟨g, 1, none⟩ = some (.slice (some ⟨b, 0, none⟩) 4 cap) := hp.blk.get 1
  have c6 : w1.cell? ⟨b, t * 18 + 6, none⟩ = some (.int .i64 (pointV s t r code (-1)).2.pc) := hrg 6 _ rfl
  have f6 : w1.frozen? ⟨b, t * 18 + 6, none⟩ = false := hfz _
  have hf := hp.fld 6 (by decide) (r' := (endV s t r code).2) (.int .i64 11) rfl rfl
  have HF := Lib.hid hf
  have HM := Lib.hid hm
  clear hf hp hm hrg hvk hvr hfz hk1 hk2
  go_wp2_with fail
  go_end0
  exact ⟨rfl, κ1, vc1, vl1, HF.out.1, HM.out.trans HF.out.2⟩
set_option maxRecDepth 100000 in
set_option maxHeartbeats 1600000 in
theorem iReadEpoch_any (w : World) (κ : Nat → Nat) (g b cap : Nat) (vt : Value) (t : Nat) (s : S) (r : J) (vc vl : Value) (h : PJ w κ g b cap vt t s r vc vl) (hok : okC s.cells = true) :
    Calls Tryz.prog 78 #[.pointer (some ⟨g, 0, none⟩), .int .i64 (t : Int), .pointer (some ⟨b, t * 18, none⟩)] w (PX w κ g b cap vt t (s, { r with e := cellV' s 0, pc := 3 })) := by
  obtain ⟨vk, vr, hrg, hvk, hvr, hfz, hb2, hk1, hk2⟩ := h.cells
  have ht4 : (t : Int) < 4 := by have := h.tl; omega
  obtain ⟨cb, cc, rfl, hc71, hcm, hcb, hcc, hcf⟩ := h.wt.cells (okC_len hok)
  have p0 : w.cell? ⟨g, 0, none⟩ = some (.slice (some ⟨cb, 0, none⟩) 71 cc) := h.blk.get 0
  have c10 : w.cell? ⟨b, t * 18 + 10, none⟩ = some (.int .i64 r.e) := hrg 10 _ rfl
  have c6 : w.cell? ⟨b, t * 18 + 6, none⟩ = some (.int .i64 r.pc) := hrg 6 _ rfl
  have f10 : w.frozen? ⟨b, t * 18 + 10, none⟩ = false := hfz _
  have f6 : w.frozen? ⟨b, t * 18 + 6, none⟩ = false := hfz _
  have ce := hcc 0 (by decide)
  have h1 := h.fld 10 (by decide) (r' := { r with e := s.cells.getD 0 0 }) (.int .i64 (s.cells.getD 0 0)) rfl rfl
  have h2 := h1.1.fld 6 (by decide) (r' := { r with e := s.cells.getD 0 0, pc := 3 }) (.int .i64 3) rfl rfl
  have HF := Lib.hid h2.1
  have HM := Lib.hid (h1.2.trans h2.2)
  have HS := Lib.hid (show (s, { r with e := cellV' s 0, pc := 3 }) = (s, { r with e := s.cells.getD 0 0, pc := 3 }) from rfl)
  rw [HS.out]
  generalize s.cells.getD 0 0 = ep at *
  clear h1 h2 h hrg hvk hvr hfz hk1 hk2 hcc hcf
  go_enter Tryz.func78, Tryz.ntmps78
  go_wp2_with fail
  go_end0
  exact ⟨rfl, κ, _, vl, HF.out, HM.out⟩
set_option maxRecDepth 100000 in
set_option maxHeartbeats 1600000 in
theorem iEnterBuf_any (w : World) (κ : Nat → Nat) (g b cap : Nat) (vt : Value) (t : Nat) (s : S) (r : J) (vc vl : Value) (h : PJ w κ g b cap vt t s r vc vl) (hok : okC s.cells = true) (he : 0 ≤ r.e ∧ r.e ≤ 281474976710655) :
    Calls Tryz.prog 79 #[.pointer (some ⟨g, 0, none⟩), .int .i64 (t : Int), .pointer (some ⟨b, t * 18, none⟩)] w (PX w κ g b cap vt t (addCV s (inCell r) 1, { r with pc := 4 })) := by
  obtain ⟨vk, vr, hrg, hvk, hvr, hfz, hb2, hk1, hk2⟩ := h.cells
  have ht4 : (t : Int) < 4 := by have := h.tl; omega
  have c10 : w.cell? ⟨b, t * 18 + 10, none⟩ = some (.int .i64 r.e) := hrg 10 _ rfl
  obtain ⟨k, hk, hk71⟩ : ∃ k : Nat, (k : Int) = 1 + r.e % 2 ∧ k < 71 := ⟨(1 + r.e % 2).toNat, by omega, by omega⟩
  have HB := fun W => Lib.hid (iBufOf_any W r.e he.1 he.2)
  have HI := fun W => Lib.hid (iIn_any (r.e % 2) W)
  rw [inV_yes (by omega), ← hk] at HI
  have HA := Lib.hid (iAddW_any w κ g b cap vt t s r vc vl h hok k (1) hk71 (by omega) (by omega))
  have HC := Lib.hid (show inCell r = (k : Int) from hk.symm)
  rw [HC.out]
  clear h hrg hvk hvr hfz hk1 hk2 hk
  go_enter Tryz.func79, Tryz.ntmps79
  go_wp2_with (first | (go_at_call 103; refine (HB _).out.mono ?_; rintro e w' ⟨rfl, rfl⟩) | (go_at_call 102; refine (HI _).out.mono ?_; rintro e w' ⟨rfl, rfl⟩))
  refine HA.out.mono ?_
  rintro e w1 ⟨rfl, κ1, vc1, vl1, hp, hm⟩
  obtain ⟨vk, vr, hrg, hvk, hvr, hfz, hb2, hk1, hk2⟩ := hp.cells
  have c6 : w1.cell? ⟨b, t * 18 + 6, none⟩ = some (.int .i64 r.pc) := hrg 6 _ rfl
  have f6 : w1.frozen? ⟨b, t * 18 + 6, none⟩ = false := hfz _
  have h1 := hp.fld 6 (by decide) (r' := { r with pc := 4 }) (.int .i64 (4)) rfl rfl
  have HF := Lib.hid h1.1
  have HM := Lib.hid (hm.trans h1.2)
  clear h1 hp hm hrg hvk hvr hfz hk1 hk2
  go_wp2_with fail
  go_end0
  exact ⟨rfl, κ1, vc1, vl1, HF.out, HM.out⟩
set_option maxRecDepth 100000 in
set_option maxHeartbeats 1600000 in
theorem iExitBuf_any (w : World) (κ : Nat → Nat) (g b cap : Nat) (vt : Value) (t : Nat) (s : S) (r : J) (vc vl : Value) (h : PJ w κ g b cap vt t s r vc vl) (hok : okC s.cells = true) (he : 0 ≤ r.e ∧ r.e ≤ 281474976710655) :
    Calls Tryz.prog 85 #[.pointer (some ⟨g, 0, none⟩), .int .i64 (t : Int), .pointer (some ⟨b, t * 18, none⟩)] w (PX w κ g b cap vt t (addCV s (inCell r) (-1), { r with pc := 11 })) := by
  obtain ⟨vk, vr, hrg, hvk, hvr, hfz, hb2, hk1, hk2⟩ := h.cells
  have ht4 : (t : Int) < 4 := by have := h.tl; omega
  have c10 : w.cell? ⟨b, t * 18 + 10, none⟩ = some (.int .i64 r.e) := hrg 10 _ rfl
  obtain ⟨k, hk, hk71⟩ : ∃ k : Nat, (k : Int) = 1 + r.e % 2 ∧ k < 71 := ⟨(1 + r.e % 2).toNat, by omega, by omega⟩
  have HB := fun W => Lib.hid (iBufOf_any W r.e he.1 he.2)
  have HI := fun W => Lib.hid (iIn_any (r.e % 2) W)
  rw [inV_yes (by omega), ← hk] at HI
  have HA := Lib.hid (iAddW_any w κ g b cap vt t s r vc vl h hok k (-1) hk71 (by omega) (by omega))
  have HC := Lib.hid (show inCell r = (k : Int) from hk.symm)
  rw [HC.out]
  clear h hrg hvk hvr hfz hk1 hk2 hk
  go_enter Tryz.func85, Tryz.ntmps85
  go_wp2_with (first | (go_at_call 103; refine (HB _).out.mono ?_; rintro e w' ⟨rfl, rfl⟩) | (go_at_call 102; refine (HI _).out.mono ?_; rintro e w' ⟨rfl, rfl⟩))
  refine HA.out.mono ?_
  rintro e w1 ⟨rfl, κ1, vc1, vl1, hp, hm⟩
  obtain ⟨vk, vr, hrg, hvk, hvr, hfz, hb2, hk1, hk2⟩ := hp.cells
  have c6 : w1.cell? ⟨b, t * 18 + 6, none⟩ = some (.int .i64 r.pc) := hrg 6 _ rfl
  have f6 : w1.frozen? ⟨b, t * 18 + 6, none⟩ = false := hfz _
  have h1 := hp.fld 6 (by decide) (r' := { r with pc := 11 }) (.int .i64 (11)) rfl rfl
  have HF := Lib.hid h1.1
  have HM := Lib.hid (hm.trans h1.2)
  clear h1 hp hm hrg hvk hvr hfz hk1 hk2
  go_wp2_with fail
  go_end0
  exact ⟨rfl, κ1, vc1, vl1, HF.out, HM.out⟩
set_option maxRecDepth 100000 in
set_option maxHeartbeats 1600000 in
theorem iLeaveBuf_any (w : World) (κ : Nat → Nat) (g b cap : Nat) (vt : Value) (t : Nat) (s : S) (r : J) (vc vl : Value) (h : PJ w κ g b cap vt t s r vc vl) (hok : okC s.cells = true) (he : 0 ≤ r.e ∧ r.e ≤ 281474976710655) :
    Calls Tryz.prog 86 #[.pointer (some ⟨g, 0, none⟩), .int .i64 (t : Int), .pointer (some ⟨b, t * 18, none⟩)] w (PX w κ g b cap vt t (addCV s (inCell r) (-1), { r with flips := bump r.flips, pc := 2 })) := by
  obtain ⟨vk, vr, hrg, hvk, hvr, hfz, hb2, hk1, hk2⟩ := h.cells
  have ht4 : (t : Int) < 4 := by have := h.tl; omega
  have c10 : w.cell? ⟨b, t * 18 + 10, none⟩ = some (.int .i64 r.e) := hrg 10 _ rfl
  obtain ⟨k, hk, hk71⟩ : ∃ k : Nat, (k : Int) = 1 + r.e % 2 ∧ k < 71 := ⟨(1 + r.e % 2).toNat, by omega, by omega⟩
  have HB := fun W => Lib.hid (iBufOf_any W r.e he.1 he.2)
  have HI := fun W => Lib.hid (iIn_any (r.e % 2) W)
  rw [inV_yes (by omega), ← hk] at HI
  have HA := Lib.hid (iAddW_any w κ g b cap vt t s r vc vl h hok k (-1) hk71 (by omega) (by omega))
  have HC := Lib.hid (show inCell r = (k : Int) from hk.symm)
  rw [HC.out]
  have HE := Lib.hid (show IntKind.i64.wrap (r.flips + 1) = bump r.flips from rfl)
  clear h hrg hvk hvr hfz hk1 hk2 hk
  go_enter Tryz.func86, Tryz.ntmps86
  go_wp2_with (first | (go_at_call 103; refine (HB _).out.mono ?_; rintro e w' ⟨rfl, rfl⟩) | (go_at_call 102; refine (HI _).out.mono ?_; rintro e w' ⟨rfl, rfl⟩))
  refine HA.out.mono ?_
  rintro e w1 ⟨rfl, κ1, vc1, vl1, hp, hm⟩
  obtain ⟨vk, vr, hrg, hvk, hvr, hfz, hb2, hk1, hk2⟩ := hp.cells
  have c13 : w1.cell? ⟨b, t * 18 + 13, none⟩ = some (.int .i64 r.flips) := hrg 13 _ rfl
  have c6 : w1.cell? ⟨b, t * 18 + 6, none⟩ = some (.int .i64 r.pc) := hrg 6 _ rfl
  have f13 : w1.frozen? ⟨b, t * 18 + 13, none⟩ = false := hfz _
  have f6 : w1.frozen? ⟨b, t * 18 + 6, none⟩ = false := hfz _
  have h1 := hp.fld 13 (by decide) (r' := { r with flips := bump r.flips }) (.int .i64 (bump r.flips)) rfl rfl
  have h2 := h1.1.fld 6 (by decide) (r' := { r with flips := bump r.flips, pc := 2 }) (.int .i64 (2)) rfl rfl
  have HF := Lib.hid h2.1
  have HM := Lib.hid ((hm.trans h1.2).trans h2.2)
  generalize bump r.flips = fl at *
  clear h1 h2 hp hm hrg hvk hvr hfz hk1 hk2
  have he1 := HE.out
  go_wp2_with fail
  go_end0
  exact ⟨rfl, κ1, vc1, vl1, HF.out, HM.out⟩
set_option maxRecDepth 100000 in
set_option maxHeartbeats 1600000 in
theorem iSwapBufs_any (w : World) (κ : Nat → Nat) (g b cap : Nat) (vt : Value) (t : Nat) (s : S) (r : J) (vc vl : Value) (h : PJ w κ g b cap vt t s r vc vl) (hok : okC s.cells = true) (hlen : s.log.length ≤ 1048576) :
    Calls Tryz.prog 88 #[.pointer (some ⟨g, 0, none⟩), .int .i64 (t : Int), .pointer (some ⟨b, t * 18, none⟩)] w (PX w κ g b cap vt t ((pointV (addCV s 0 1) t { r with e := cellV' s 0 } 0 (cellV' s 0)).1, { (pointV (addCV s 0 1) t { r with e := cellV' s 0 } 0 (cellV' s 0)).2 with pc := 13 })) := by
  have HA := Lib.hid (iAddW_any w κ g b cap vt t s r vc vl h hok 0 1 (by decide) (by omega) (by omega))
  have ht4 : (t : Int) < 4 := by have := h.tl; omega
  clear h
  have HZ := Lib.hid (show (((0 : Nat) : Int)) = 0 from rfl)
  rw [HZ.out] at HA
  generalize cellV' s 0 = ep at *
  have hl2 : (addCV s 0 1).log.length ≤ 1048576 := hlen
  generalize addCV s 0 1 = s1 at *
  go_enter Tryz.func88, Tryz.ntmps88
  go_wp2_with fail
  refine HA.out.mono ?_
  rintro e w1 ⟨rfl, κ1, vc1, vl1, hp, hm⟩
  obtain ⟨vk, vr, hrg, hvk, hvr, hfz, hb2, hk1, hk2⟩ := hp.cells
  have c10 : w1.cell? ⟨b, t * 18 + 10, none⟩ = some (.int .i64 r.e) := hrg 10 _ rfl
  have f10 : w1.frozen? ⟨b, t * 18 + 10, none⟩ = false := hfz _
  have h1 := hp.fld 10 (by decide) (r' := { r with e := ep }) (.int .i64 ep) rfl rfl
  have HM := Lib.hid (hm.trans h1.2)
  have HP := Lib.hid h1.1
  clear h1 hp hm hrg hvk hvr hfz hk1 hk2
  go_upto_region 1 with fail
  refine wp_gen (fun X => PJ X κ1 g b cap vt t s1 { r with e := ep } vc1 vl1 ∧ Mv κ κ1 w X) ⟨HP.out, HM.out⟩ ?_
  clear HP HM c10 f10
  clear w1
  rintro w1 ⟨hp, hm⟩
  obtain ⟨vk, vr, hrg, hvk, hvr, hfz, hb2, hk1, hk2⟩ := hp.cells
  have c10 : w1.cell? ⟨b, t * 18 + 10, none⟩ = some (.int .i64 ({ r with e := ep } : J).e) := hrg 10 _ rfl
  have HT := Lib.hid (iTake_any w1 κ1 g b cap vt t s1 { r with e := ep } vc1 vl1 hp hl2 0 ep)
  have HM := Lib.hid hm
  clear hp hm hrg hvk hvr hfz hk1 hk2
  go_wp2_with fail
  refine HT.out.mono ?_
  rintro e w2 ⟨rfl, κ2, vc2, vl2, hp, hm⟩
  clear c10
  generalize (pointV s1 t { r with e := ep } 0 ep).1 = s2 at *
  generalize (pointV s1 t { r with e := ep } 0 ep).2 = r2 at *
  obtain ⟨vk, vr, hrg, hvk, hvr, hfz, hb2, hk1, hk2⟩ := hp.cells
  have c6 : w2.cell? ⟨b, t * 18 + 6, none⟩ = some (.int .i64 r2.pc) := hrg 6 _ rfl
  have f6 : w2.frozen? ⟨b, t * 18 + 6, none⟩ = false := hfz _
  have h1 := hp.fld 6 (by decide) (r' := { r2 with pc := 13 }) (.int .i64 13) rfl rfl
  have HM2 := Lib.hid ((HM.out.trans hm).trans h1.2)
  have HP := Lib.hid h1.1
  clear h1 hp hm hrg hvk hvr hfz hk1 hk2
  go_wp2_with fail
  go_end0
  exact ⟨rfl, κ2, vc2, vl2, HP.out, HM2.out⟩
set_option maxRecDepth 100000 in
set_option maxHeartbeats 1600000 in
theorem iProbedFree_any (w : World) (κ : Nat → Nat) (g b cap : Nat) (vt : Value) (t : Nat) (s : S) (r : J) (vc vl : Value) (h : PJ w κ g b cap vt t s r vc vl) (hlen : s.log.length ≤ 1048576) :
    Calls Tryz.prog 96 #[.pointer (some ⟨g, 0, none⟩), .int .i64 (t : Int), .pointer (some ⟨b, t * 18, none⟩)] w (PX w κ g b cap vt t (if r.op.kind = 1 then (s, { r with pc := 1 }) else endV s t r 2)) := by
  obtain ⟨vk, vr, hrg, hvk, hvr, hfz, hb2, hk1, hk2⟩ := h.cells
  have ht4 : (t : Int) < 4 := by have := h.tl; omega
  have c1 : w.cell? ⟨b, t * 18 + 1, none⟩ = some (.int .i64 r.op.kind) := hrg 1 _ rfl
  have c6 : w.cell? ⟨b, t * 18 + 6, none⟩ = some (.int .i64 r.pc) := hrg 6 _ rfl
  have f6 : w.frozen? ⟨b, t * 18 + 6, none⟩ = false := hfz _
  have h1 := h.fld 6 (by decide) (r' := { r with pc := 1 }) (.int .i64 1) rfl rfl
  have HT := Lib.hid (iFinish_any w κ g b cap vt t s r vc vl h hlen 2)
  have HF := Lib.hid h1
  clear h1 h hrg hvk hvr hfz hk1 hk2
  go_enter Tryz.func96, Tryz.ntmps96
  by_cases hk : r.op.kind = 1
  · have d1 : (r.op.kind == 1) = true := by rw [beq_iff_eq]; exact hk
    rw [if_pos hk]
    clear hk
    go_wp2_with fail
    go_end0
    exact ⟨rfl, κ, vc, vl, HF.out.1, HF.out.2⟩
  · have d1 : (r.op.kind == 1) = false := by rw [beq_eq_false_iff_ne]; exact hk
    rw [if_neg hk]
    clear hk
    go_wp2_with fail
    refine HT.out.mono ?_
    rintro e w1 ⟨rfl, κ1, vc1, vl1, hp, hm⟩
    go_wp2_with fail
    go_end0
    exact ⟨rfl, κ1, vc1, vl1, hp, hm⟩
set_option maxRecDepth 100000 in
set_option maxHeartbeats 1600000 in
theorem iProbedKey_any (w : World) (κ : Nat → Nat) (g b cap : Nat) (vt : Value) (t : Nat) (s : S) (r : J) (vc vl : Value) (h : PJ w κ g b cap vt t s r vc vl) (hlen : s.log.length ≤ 1048576) (slot kd : Int) :
    Calls Tryz.prog 97 #[.pointer (some ⟨g, 0, none⟩), .int .i64 (t : Int), .pointer (some ⟨b, t * 18, none⟩), .int .i64 slot, .int .i64 kd] w (PX w κ g b cap vt t (if r.op.kind = 2 then (s, { r with slot := slot, what := kd, pc := 2 }) else if kd = r.op.what then endV s t r 0 else endV s t r 4)) := by
  obtain ⟨vk, vr, hrg, hvk, hvr, hfz, hb2, hk1, hk2⟩ := h.cells
  have ht4 : (t : Int) < 4 := by have := h.tl; omega
  have c1 : w.cell? ⟨b, t * 18 + 1, none⟩ = some (.int .i64 r.op.kind) := hrg 1 _ rfl
  have c3 : w.cell? ⟨b, t * 18 + 3, none⟩ = some (.int .i64 r.op.what) := hrg 3 _ rfl
  have c6 : w.cell? ⟨b, t * 18 + 6, none⟩ = some (.int .i64 r.pc) := hrg 6 _ rfl
  have c8 : w.cell? ⟨b, t * 18 + 8, none⟩ = some (.int .i64 r.slot) := hrg 8 _ rfl
  have c9 : w.cell? ⟨b, t * 18 + 9, none⟩ = some (.int .i64 r.what) := hrg 9 _ rfl
  have f6 : w.frozen? ⟨b, t * 18 + 6, none⟩ = false := hfz _
  have f8 : w.frozen? ⟨b, t * 18 + 8, none⟩ = false := hfz _
  have f9 : w.frozen? ⟨b, t * 18 + 9, none⟩ = false := hfz _
  have h1 := h.fld 8 (by decide) (r' := { r with slot := slot }) (.int .i64 slot) rfl rfl
  have h2 := h1.1.fld 9 (by decide) (r' := { r with slot := slot, what := kd }) (.int .i64 kd) rfl rfl
  have h3 := h2.1.fld 6 (by decide) (r' := { r with slot := slot, what := kd, pc := 2 }) (.int .i64 2) rfl rfl
  have HF := Lib.hid h3.1
  have HM := Lib.hid ((h1.2.trans h2.2).trans h3.2)
  have HT0 := Lib.hid (iFinish_any w κ g b cap vt t s r vc vl h hlen 0)
  have HT4 := Lib.hid (iFinish_any w κ g b cap vt t s r vc vl h hlen 4)
  clear h1 h2 h3 h hrg hvk hvr hfz hk1 hk2
  go_enter Tryz.func97, Tryz.ntmps97
  by_cases hk : r.op.kind = 2
  · have d1 : (r.op.kind == 2) = true := by rw [beq_iff_eq]; exact hk
    rw [if_pos hk]
    clear hk
    go_wp2_with fail
    go_end0
    exact ⟨rfl, κ, vc, vl, HF.out, HM.out⟩
  · have d1 : (r.op.kind == 2) = false := by rw [beq_eq_false_iff_ne]; exact hk
    rw [if_neg hk]
    clear hk
    by_cases hw : kd = r.op.what
    · have d2 : (r.op.what == kd) = true := by rw [beq_iff_eq]; exact hw.symm
      rw [if_pos hw]
      clear hw
      go_wp2_with fail
      refine HT0.out.mono ?_
      rintro e w1 ⟨rfl, κ1, vc1, vl1, hp, hm⟩
      go_wp2_with fail
      go_end0
      exact ⟨rfl, κ1, vc1, vl1, hp, hm⟩
    · have d2 : (r.op.what == kd) = false := by rw [beq_eq_false_iff_ne]; exact fun e => hw e.symm
      rw [if_neg hw]
      clear hw
      go_wp2_with fail
      refine HT4.out.mono ?_
      rintro e w1 ⟨rfl, κ1, vc1, vl1, hp, hm⟩
      go_wp2_with fail
      go_end0
      exact ⟨rfl, κ1, vc1, vl1, hp, hm⟩
end Go.Proofs.YtnlepnfdgdbkoaaGreatDoor

/-
  Chapter 9, the program's functions: a value recorded at once, a window flushed at once; each answers what the plain words say, in new rows.
-/
import Derived.Test.YtmglidfnolmcaaaGreatDoorNowS
import Derived.Test.YtmglidfnolmcaaaGreatDoorDrE
import Derived.Test.YtmglidfnolmcaaaGreatDoorZc
import Derived.Test.YtmglidfnolmcaaaGreatDoorZb
import Derived.Test.YtmglidfnolmcaaaGreatDoorZa
import Derived.Test.YtmglidfnolmcaaaGreatDoorKeyI
namespace Go.Proofs.YtmglidfnolmcaaaGreatDoor
open Go.RowKit M
set_option linter.unusedVariables false
set_option linter.unusedSimpArgs false
theorem add_at {zs : List Int} {i n : Int} {k : Nat} (hok : okC zs = true) (hi : i = (k : Int)) (hk : k < 71) (h0 : -281474976710655 ≤ n) (h1 : n ≤ 281474976710655) : addC zs i n = zs.set k (modW (zs.getD k 0 + n)) ∧ addR zs i n = zs.getD k 0 := by
  subst hi
  have h : addOk zs (k : Int) n = true := by
    unfold addOk
    rw [atC_iff.2 ⟨hok, by omega, by omega⟩, decide_eq_true h0, decide_eq_true h1]; rfl
  constructor
  · rw [addC, if_pos h, Int.toNat_natCast]; rfl
  · rw [addR, if_pos h, Int.toNat_natCast]
theorem OwnI.base' {w : World} {b b' : Nat} {v : Value} {l : List Int} (h : OwnI w b v l) (hb : b' ≤ b) : OwnI w b' v l := OwnI.base h hb
theorem iBufOf_any (w : World) (x : Int) (h0 : 0 ≤ x) (h1 : x ≤ 281474976710655) : Calls Tryz.prog 30 #[.int .i64 x] w (Same w (.int .i64 (x % 2))) := by
  go_enter Tryz.func30, Tryz.ntmps30
  go_wp2
  go_ret
  exact ⟨rfl, rfl⟩
set_option maxRecDepth 100000 in
set_option maxHeartbeats 4000000 in
theorem iSetNow_any (w : World) (u : Value) (zs : List Int) (b s v : Int) (h : Ints w u zs) (hok : okC zs = true) (hb : 0 ≤ b ∧ b ≤ 1) (hs : 0 ≤ s ∧ s ≤ 3) (hv : 0 ≤ v ∧ v ≤ 65535) : Calls Tryz.prog 33 #[u, .int .i64 b, .int .i64 s, .int .i64 v] w (MadeI w (putGauge zs b s v)) := by
  obtain ⟨m, hm, hm8⟩ := slot_idx hb hs
  obtain ⟨v0, v1⟩ := hv
  have HST := fun W => Lib.hid (iStamp_any b s W)
  have HGA := fun W => Lib.hid (iGauge_any b s W)
  rw [cellV_yes hb hs, hm] at HST HGA
  have hl := okC_len hok
  have HA := Lib.hid (iAdd_any w u zs ((m : Int) + 2) 1 h (by omega) (by omega) (by omega))
  have HN := Lib.hid (add_at (n := 1) hok (show (m : Int) + 2 = ((m + 2 : Nat) : Int) by omega) (by omega) (by omega) (by omega))
  have hm2 : m + 2 < 71 := by omega
  have hm3 : m + 3 < 71 := by omega
  have i2 : (m : Int) + 2 < 71 := by omega
  have i3 : (m : Int) + 3 < 71 := by omega
  have j2 : ((m : Int) + 2).toNat = m + 2 := by omega
  have k2 : (0 : Int) ≤ (m : Int) + 2 := by omega
  have k3 : (0 : Int) ≤ (m : Int) + 3 := by omega
  have j3 : ((m : Int) + 3).toNat = m + 3 := by omega
  obtain ⟨z0, z1⟩ := okC_at hok (m + 2) hm2
  have HP := Lib.hid (show putGauge zs b s v = if ungA ((zs.set (m + 2) (modW (zs.getD (m + 2) 0 + 1))).getD (m + 3) 0) ≤ (zs.set (m + 2) (modW (zs.getD (m + 2) 0 + 1))).getD (m + 2) 0 then (zs.set (m + 2) (modW (zs.getD (m + 2) 0 + 1))).set (m + 3) (gaugeV ((zs.set (m + 2) (modW (zs.getD (m + 2) 0 + 1))).getD (m + 2) 0) v) else zs.set (m + 2) (modW (zs.getD (m + 2) 0 + 1)) by
    unfold putGauge; rw [hm, j2, j3])
  have HN2 := Lib.hid (show (zs.set (m + 2) (modW (zs.getD (m + 2) 0 + 1))).getD (m + 2) 0 = modW (zs.getD (m + 2) 0 + 1) by
    rw [List.getD_eq_getElem?_getD, List.getElem?_set_self (by omega)]; rfl)
  rw [HN2.out] at HP
  have HLN := Lib.hid (show (zs.set (m + 2) (modW (zs.getD (m + 2) 0 + 1))).length = 71 by rw [List.length_set]; exact hl)
  have HOK1 := Lib.hid (okC_set hok (m + 2) (modW (zs.getD (m + 2) 0 + 1)) (isW_iff.2 (by unfold modW; omega)))
  have HXB := Lib.hid (show 0 ≤ modW (zs.getD (m + 2) 0 + 1) ∧ modW (zs.getD (m + 2) 0 + 1) ≤ 281474976710655 by unfold modW; omega)
  have HCP := Lib.hid h
  clear h hm hb hs hok hl z0 z1
  generalize zs.getD (m + 2) 0 = z at *
  generalize modW (z + 1) = x at *
  generalize zs.set (m + 2) x = zs1 at *
  go_enter Tryz.func33, Tryz.ntmps33
  go_wp2_with (go_at_call 69; refine (HST _).out.mono ?_; rintro e w' ⟨rfl, rfl⟩)
  refine HA.out.mono ?_
  rintro e w1 ⟨x, rfl, ho, hb1⟩
  rw [HN.out.1] at ho
  rw [HN.out.2]
  obtain ⟨g, cap, rfl⟩ := ho.2
  rw [HLN.out] at ho ⊢
  have hoc : OwnC w1 w.heap.size g cap zs1 := ho
  have HGL := Lib.hid (World.ownsRow.lt ho.1 g rfl).1
  have c2 := hoc.get (m + 2) hm2
  rw [HN2.out] at c2
  have c3 := hoc.get (m + 3) hm3
  have f3 := hoc.frz (m + 3)
  obtain ⟨y0, y1⟩ := okC_at HOK1.out (m + 3) hm3
  obtain ⟨x0, x1⟩ := HXB.out
  have HO := Lib.hid hoc
  have HB := Lib.hid hb1
  have HUG := fun W => Lib.hid (iUnpackGauge_same W (zs1.getD (m + 3) 0) (by omega) (by omega))
  have HPG := fun W => Lib.hid (iPackGauge_same W x v)
  have HSE := Lib.hid (hoc.put (m + 3) (gaugeV x v))
  clear hoc ho hb1 HOK1 HA HN HN2 HXB HLN HCP
  generalize zs1.getD (m + 3) 0 = y at *
  by_cases hle : ungA y ≤ x
  · have HE := Lib.hid (HP.out.trans (if_pos hle))
    have d1 : decide (ungA y ≤ x) = true := by rw [decide_eq_true]; exact hle
    clear HP hle
    generalize ungA y = ya at *
    generalize ungV y = yv at *
    generalize gaugeV x v = gv at *
    go_wp2_with fail
    have HSD := Lib.hid (show w1.drew.cell? ⟨g, m + 2, none⟩ = some (.int .i64 x) ∧ w1.drew.frozen? ⟨g, m + 3, none⟩ = false ∧ w1.drew.cell? ⟨g, m + 3, none⟩ = some (.int .i64 y) ∧ OwnC w1.drew w.heap.size g cap zs1 ∧ Below w.heap.size w w1.drew from ⟨c2, f3, c3, HO.out.below (below_drew _ _), HB.out.trans (below_drew _ _)⟩)
    have HCL := (⟨HSD.out⟩ : HoldsC (fun W => W.cell? ⟨g, m + 2, none⟩ = some (.int .i64 x) ∧ W.frozen? ⟨g, m + 3, none⟩ = false ∧ W.cell? ⟨g, m + 3, none⟩ = some (.int .i64 y) ∧ OwnC W w.heap.size g cap zs1 ∧ Below w.heap.size w W) _)
    have hall : ∀ p : Prop, (∀ W, HoldsC (fun W => W.cell? ⟨g, m + 2, none⟩ = some (.int .i64 x) ∧ W.frozen? ⟨g, m + 3, none⟩ = false ∧ W.cell? ⟨g, m + 3, none⟩ = some (.int .i64 y) ∧ OwnC W w.heap.size g cap zs1 ∧ Below w.heap.size w W) W → p) ↔ p := fun p => ⟨fun h => h _ HCL, fun h _ _ => h⟩
    refine wp_region_wq (C := HoldsC (fun W => W.cell? ⟨g, m + 2, none⟩ = some (.int .i64 x) ∧ W.frozen? ⟨g, m + 3, none⟩ = false ∧ W.cell? ⟨g, m + 3, none⟩ = some (.int .i64 y) ∧ OwnC W w.heap.size g cap zs1 ∧ Below w.heap.size w W)) (by kernel_rfl) (by kernel_rfl) HCL ?_
    repeat (refine WQ.step (fun K hK => ?_); go_simp; first | (refine hK _ ?_; clear hK K) | (apply Exists.intro; refine ⟨fun W hW => ?_, hK _ ?_⟩; (focus (first | (go_at_call 69; (with_reducible refine Calls.mono (Hid.out (HST _)) ?_); rintro e w' ⟨rfl, rfl⟩; exact ⟨rfl, hW⟩) | (go_at_call 70; (with_reducible refine Calls.mono (Hid.out (HGA _)) ?_); rintro e w' ⟨rfl, rfl⟩; exact ⟨rfl, hW⟩) | exact rfl | (obtain ⟨e2, g3, e3, ho, hb⟩ := hW.out; go_simp; rfl))); clear hK K))
    refine WQ.nil ?_
    intro W hW
    obtain ⟨e2, g3, e3, ho, hb⟩ := hW.out
    clear hall HCL
    have HSE2 := Lib.hid (ho.put (m + 3) gv)
    have HB2 := Lib.hid hb
    clear ho hb hW c2 c3 f3 HO HB HSE
    go_wp2_with (first | (go_at_call 71; refine (HUG _).out.mono ?_; rintro e w' ⟨rfl, rfl⟩) | (go_at_call 72; refine (HPG _).out.mono ?_; rintro e w' ⟨rfl, rfl⟩))
    go_ret
    exact ⟨_, rfl, by rw [HE.out]; exact HSE2.out.1, HB2.out.grown HSE2.out.2 HB2.out.size (fun k hk => by cases hk; exact HGL.out)⟩
  · have HE := Lib.hid (HP.out.trans (if_neg hle))
    have d1 : decide (ungA y ≤ x) = false := by rw [decide_eq_false]; exact hle
    clear HP hle
    generalize ungA y = ya at *
    generalize ungV y = yv at *
    go_wp2_with fail
    have HSD := Lib.hid (show w1.drew.cell? ⟨g, m + 2, none⟩ = some (.int .i64 x) ∧ w1.drew.frozen? ⟨g, m + 3, none⟩ = false ∧ w1.drew.cell? ⟨g, m + 3, none⟩ = some (.int .i64 y) ∧ OwnC w1.drew w.heap.size g cap zs1 ∧ Below w.heap.size w w1.drew from ⟨c2, f3, c3, HO.out.below (below_drew _ _), HB.out.trans (below_drew _ _)⟩)
    have HCL := (⟨HSD.out⟩ : HoldsC (fun W => W.cell? ⟨g, m + 2, none⟩ = some (.int .i64 x) ∧ W.frozen? ⟨g, m + 3, none⟩ = false ∧ W.cell? ⟨g, m + 3, none⟩ = some (.int .i64 y) ∧ OwnC W w.heap.size g cap zs1 ∧ Below w.heap.size w W) _)
    have hall : ∀ p : Prop, (∀ W, HoldsC (fun W => W.cell? ⟨g, m + 2, none⟩ = some (.int .i64 x) ∧ W.frozen? ⟨g, m + 3, none⟩ = false ∧ W.cell? ⟨g, m + 3, none⟩ = some (.int .i64 y) ∧ OwnC W w.heap.size g cap zs1 ∧ Below w.heap.size w W) W → p) ↔ p := fun p => ⟨fun h => h _ HCL, fun h _ _ => h⟩
    refine wp_region_wq (C := HoldsC (fun W => W.cell? ⟨g, m + 2, none⟩ = some (.int .i64 x) ∧ W.frozen? ⟨g, m + 3, none⟩ = false ∧ W.cell? ⟨g, m + 3, none⟩ = some (.int .i64 y) ∧ OwnC W w.heap.size g cap zs1 ∧ Below w.heap.size w W)) (by kernel_rfl) (by kernel_rfl) HCL ?_
    repeat (refine WQ.step (fun K hK => ?_); go_simp; first | (refine hK _ ?_; clear hK K) | (apply Exists.intro; refine ⟨fun W hW => ?_, hK _ ?_⟩; (focus (first | (go_at_call 69; (with_reducible refine Calls.mono (Hid.out (HST _)) ?_); rintro e w' ⟨rfl, rfl⟩; exact ⟨rfl, hW⟩) | (go_at_call 70; (with_reducible refine Calls.mono (Hid.out (HGA _)) ?_); rintro e w' ⟨rfl, rfl⟩; exact ⟨rfl, hW⟩) | exact rfl | (obtain ⟨e2, g3, e3, ho, hb⟩ := hW.out; go_simp; rfl))); clear hK K))
    refine WQ.nil ?_
    intro W hW
    obtain ⟨e2, g3, e3, ho, hb⟩ := hW.out
    clear hall HCL
    have HO2 := Lib.hid ho
    have HB2 := Lib.hid hb
    clear ho hb hW c2 c3 f3 HO HB HSE
    go_wp2_with (first | (go_at_call 71; refine (HUG _).out.mono ?_; rintro e w' ⟨rfl, rfl⟩))
    go_ret
    exact ⟨_, rfl, by rw [HE.out]; exact HO2.out, HB2.out⟩
def dropD (b : Bool) : Int := if b = true then 5 else 0
set_option maxRecDepth 100000 in
set_option maxHeartbeats 4000000 in
theorem iSampleNow_any (w : World) (u : Value) (zs : List Int) (b s v : Int) (h : Ints w u zs) (hok : okC zs = true) (hb : 0 ≤ b ∧ b ≤ 1) (hs : 0 ≤ s ∧ s ≤ 3) (hv : 0 ≤ v ∧ v ≤ 65535) : Calls Tryz.prog 34 #[u, .int .i64 b, .int .i64 s, .int .i64 v] w (TupI w (putTimer zs b s v) (.int .i64 (dropD (decide (3 ≤ zs.getD (7 + b * 32 + s * 8 + 4).toNat 0))))) := by
  obtain ⟨m, hm, hm8⟩ := slot_idx hb hs
  obtain ⟨v0, v1⟩ := hv
  have HTK := fun W => Lib.hid (iTicket_any b s W)
  rw [cellV_yes hb hs, hm] at HTK
  have hl := okC_len hok
  have HA := Lib.hid (iAdd_any w u zs ((m : Int) + 4) 1 h (by omega) (by omega) (by omega))
  have HN := Lib.hid (add_at (n := 1) hok (show (m : Int) + 4 = ((m + 4 : Nat) : Int) by omega) (by omega) (by omega) (by omega))
  have j4 : ((m : Int) + 4).toNat = m + 4 := by omega
  obtain ⟨z0, z1⟩ := okC_at hok (m + 4) (by omega)
  have HP := Lib.hid (show putTimer zs b s v = if 3 ≤ zs.getD (m + 4) 0 then zs.set (m + 4) (modW (zs.getD (m + 4) 0 + 1)) else (zs.set (m + 4) (modW (zs.getD (m + 4) 0 + 1))).set ((m : Int) + (5 + zs.getD (m + 4) 0)).toNat (v + 1) by
    unfold putTimer; rw [hm, j4])
  rw [hm, j4]
  have HLN := Lib.hid (show (zs.set (m + 4) (modW (zs.getD (m + 4) 0 + 1))).length = 71 by rw [List.length_set]; exact hl)
  have HRG := fun W => Lib.hid (iRing_any b s (zs.getD (m + 4) 0) W)
  generalize modW (zs.getD (m + 4) 0 + 1) = x at *
  generalize zs.set (m + 4) x = zs1 at *
  generalize zs.getD (m + 4) 0 = z at *
  by_cases h3 : 3 ≤ z
  · have HE := Lib.hid (HP.out.trans (if_pos h3))
    have d1 : decide (3 ≤ z) = true := by rw [decide_eq_true]; exact h3
    rw [d1, show dropD true = 5 from rfl]
    clear h hok hb hs HP hm HRG hl
    go_enter Tryz.func34, Tryz.ntmps34
    go_wp2_with (go_at_call 73; refine (HTK _).out.mono ?_; rintro e w' ⟨rfl, rfl⟩)
    refine HA.out.mono ?_
    rintro e w1 ⟨x, rfl, ho, hb1⟩
    rw [HN.out.1] at ho
    rw [HN.out.2]
    have HO := Lib.hid ho
    have HB := Lib.hid hb1
    clear ho hb1 HA HN HLN
    go_wp2_with fail
    go_ret2
    exact ⟨_, rfl, by rw [HE.out]; exact HO.out, HB.out⟩
  · obtain ⟨q, rfl⟩ := Int.eq_ofNat_of_zero_le z0
    have hq : q < 3 := by omega
    have d1 : decide ((3 : Int) ≤ (q : Int)) = false := by rw [decide_eq_false]; exact h3
    rw [d1, show dropD false = 0 from rfl]
    rw [partV_yes ⟨by omega, by omega⟩, cellV_yes hb hs, hm, show (m : Int) + (5 + (q : Int)) = ((m + (5 + q) : Nat) : Int) by omega] at HRG
    have hmq : m + (5 + q) < 71 := by omega
    have HE := Lib.hid (HP.out.trans (if_neg h3))
    rw [show ((m : Int) + (5 + (q : Int))).toNat = m + (5 + q) by omega] at HE
    have hv1 : v + 1 ≤ 65536 := by omega
    clear h hok hb hs HP hm hl
    generalize m + (5 + q) = k at *
    have ik : (k : Int) < 71 := by omega
    go_enter Tryz.func34, Tryz.ntmps34
    go_wp2_with (go_at_call 73; refine (HTK _).out.mono ?_; rintro e w' ⟨rfl, rfl⟩)
    refine HA.out.mono ?_
    rintro e w1 ⟨x, rfl, ho, hb1⟩
    rw [HN.out.1] at ho
    rw [HN.out.2]
    obtain ⟨g, cap, rfl⟩ := ho.2
    rw [HLN.out] at ho ⊢
    have hoc : OwnC w1 w.heap.size g cap zs1 := ho
    have HGL := Lib.hid (World.ownsRow.lt ho.1 g rfl).1
    have c5 := hoc.get k hmq
    have f5 := hoc.frz k
    have HSE := Lib.hid (hoc.put k (v + 1))
    have HB := Lib.hid hb1
    clear ho hoc hb1 HA HN HLN
    go_wp2_with (go_at_call 74; refine (HRG _).out.mono ?_; rintro e w' ⟨rfl, rfl⟩)
    go_ret2
    exact ⟨_, rfl, by rw [HE.out]; exact HSE.out.1, HB.out.grown HSE.out.2 HB.out.size (fun k hk => by cases hk; exact HGL.out)⟩
set_option maxRecDepth 100000 in
set_option maxHeartbeats 4000000 in
theorem iRecordNow_any (w : World) (u : Value) (zs : List Int) (t : Int) (key : ByteArray) (v : Int) (h : Ints w u zs) (hl : zs.length ≤ 1048576) (hks : key.size ≤ maxLen) (h0 : -9223372036854775808 ≤ t) (h1 : t ≤ 9223372036854775807) (h2 : -9223372036854775808 ≤ v) (h3 : v ≤ 9223372036854775807) :
    Calls Tryz.prog 6 #[u, .int .i64 t, .string key, .int .i64 v] w (RecI w (recC zs t key v) (recD zs t key v)) := by
  have HCP := fun W h => Lib.hid (clone_any W u zs h hl)
  have HOK := fun W h => Lib.hid (iOk_any W u zs h)
  have HKO := fun W => Lib.hid (iKeyOk_same W key hks)
  have HZ := Lib.hid h
  obtain ⟨g0, off0, cap0, rfl, _, _, hg0, h4⟩ := h
  cases hc : okC zs with
  | false =>
    have hra : recArgs zs t key v = false := by rw [← Bool.not_eq_true, recArgs_iff]; rintro ⟨h, _⟩; rw [hc] at h; cases h
    have HE := Lib.hid (recC_no (v := v) (t := t) (key := key) (zs := zs) (fun x => by rw [hra] at x; cases x.1))
    have HD := Lib.hid (recD_args hra)
    rw [hc] at HOK
    clear hc hra h4
    go_enter Tryz.func6, Tryz.ntmps6
    go_wp2_with (first | (go_at_call 24; refine (HOK _ HZ.out).out.mono ?_; rintro e w' ⟨rfl, rfl⟩))
    refine (HCP _ HZ.out).out.mono ?_
    rintro e wz ⟨x, rfl, ho, hb⟩
    have HO := Lib.hid ho
    have HB := Lib.hid hb
    clear ho hb
    go_wp2_with fail
    go_ret2
    exact recI HO.out HB.out HE.out HD.out
  | true =>
    by_cases ht : 0 ≤ t ∧ t ≤ 2
    case neg =>
      have hra : recArgs zs t key v = false := by rw [← Bool.not_eq_true, recArgs_iff]; rintro ⟨_, h, _⟩; exact ht h
      have HE := Lib.hid (recC_no (v := v) (t := t) (key := key) (zs := zs) (fun x => by rw [hra] at x; cases x.1))
      have HD := Lib.hid (recD_args hra)
      rw [hc] at HOK
      have HIT := fun W => Lib.hid (isIdx_no t 3 W (by omega))
      clear hc hra h4 ht
      go_enter Tryz.func6, Tryz.ntmps6
      go_wp2_with (first | (go_at_call 24; refine (HOK _ HZ.out).out.mono ?_; rintro e w' ⟨rfl, rfl⟩) | (go_at_call 25; refine (HIT _).out.mono ?_; rintro e w' ⟨rfl, rfl⟩))
      refine (HCP _ HZ.out).out.mono ?_
      rintro e wz ⟨x, rfl, ho, hb⟩
      have HO := Lib.hid ho
      have HB := Lib.hid hb
      clear ho hb
      go_wp2_with fail
      go_ret2
      exact recI HO.out HB.out HE.out HD.out
    case pos =>
      have HIT := fun W => Lib.hid (isIdx_yes t 3 W ht.1 (by omega))
      cases hk : keyOkV key with
      | false =>
        have hra : recArgs zs t key v = false := by rw [← Bool.not_eq_true, recArgs_iff]; rintro ⟨_, _, h, _⟩; rw [hk] at h; cases h
        have HE := Lib.hid (recC_no (v := v) (t := t) (key := key) (zs := zs) (fun x => by rw [hra] at x; cases x.1))
        have HD := Lib.hid (recD_args hra)
        rw [hc] at HOK
        rw [hk] at HKO
        clear hc hra h4 ht hk
        go_enter Tryz.func6, Tryz.ntmps6
        go_wp2_with (first | (go_at_call 24; refine (HOK _ HZ.out).out.mono ?_; rintro e w' ⟨rfl, rfl⟩) | (go_at_call 25; refine (HIT _).out.mono ?_; rintro e w' ⟨rfl, rfl⟩) | (go_at_call 26; refine (HKO _).out.mono ?_; rintro e w' ⟨rfl, rfl⟩))
        refine (HCP _ HZ.out).out.mono ?_
        rintro e wz ⟨x, rfl, ho, hb⟩
        have HO := Lib.hid ho
        have HB := Lib.hid hb
        clear ho hb
        go_wp2_with fail
        go_ret2
        exact recI HO.out HB.out HE.out HD.out
      | true =>
        by_cases hv : 0 ≤ v ∧ v ≤ 65535
        case neg =>
          have hra : recArgs zs t key v = false := by rw [← Bool.not_eq_true, recArgs_iff]; rintro ⟨_, _, _, h⟩; exact hv h
          have HE := Lib.hid (recC_no (v := v) (t := t) (key := key) (zs := zs) (fun x => by rw [hra] at x; cases x.1))
          have HD := Lib.hid (recD_args hra)
          rw [hc] at HOK
          rw [hk] at HKO
          have HIV := fun W => Lib.hid (isValue_no v W hv)
          clear hc hra h4 ht hk hv
          go_enter Tryz.func6, Tryz.ntmps6
          go_wp2_with (first | (go_at_call 24; refine (HOK _ HZ.out).out.mono ?_; rintro e w' ⟨rfl, rfl⟩) | (go_at_call 25; refine (HIT _).out.mono ?_; rintro e w' ⟨rfl, rfl⟩) | (go_at_call 26; refine (HKO _).out.mono ?_; rintro e w' ⟨rfl, rfl⟩) | (go_at_call 27; refine (HIV _).out.mono ?_; rintro e w' ⟨rfl, rfl⟩))
          refine (HCP _ HZ.out).out.mono ?_
          rintro e wz ⟨x, rfl, ho, hb⟩
          have HO := Lib.hid ho
          have HB := Lib.hid hb
          clear ho hb
          go_wp2_with fail
          go_ret2
          exact recI HO.out HB.out HE.out HD.out
        case pos =>
          have hra : recArgs zs t key v = true := recArgs_iff.2 ⟨hc, ht, hk, hv⟩
          have HIV := fun W => Lib.hid (isValue_yes v W hv.1 hv.2)
          have HFK := fun W h => Lib.hid (iFindKey_any W (.slice (some ⟨g0, off0, none⟩) zs.length cap0) zs key h hks)
          have hl71 := okC_len hc
          have HOKC := Lib.hid hc
          have HT := Lib.hid ht
          have HV := Lib.hid hv
          rw [hc] at HOK
          rw [hk] at HKO
          obtain ⟨e0, e1⟩ := okC_at hc 0 (by omega)
          have HC0 := Lib.hid (h4 0 (by omega))
          clear hc ht hk hv h4
          have HSN := fun W h b s hb hs hv => Lib.hid (iSetNow_any W (.slice (some ⟨g0, off0, none⟩) zs.length cap0) zs b s v h HOKC.out hb hs hv)
          have HSA := fun W h b s hb hs hv => Lib.hid (iSampleNow_any W (.slice (some ⟨g0, off0, none⟩) zs.length cap0) zs b s v h HOKC.out hb hs hv)
          have HAD := fun W h i h0 h1 => Lib.hid (iAdd_any W (.slice (some ⟨g0, off0, none⟩) zs.length cap0) zs i v h hl h0 h1)
          rw [hl71] at HOK HCP HZ HFK HSN HSA HAD ⊢
          clear hl71
          by_cases h0 : 0 ≤ fkS zs key
          case neg =>
            have HE := Lib.hid (recC_no (v := v) (t := t) (key := key) (zs := zs) (fun x => h0 x.2))
            have HD := Lib.hid (recD_none hra h0)
            have d1 : decide (fkS zs key < 0) = true := by rw [decide_eq_true]; omega
            clear hra h0 HSN HSA HAD
            generalize fkS zs key = fs at *
            generalize fkK zs key = fk at *
            go_enter Tryz.func6, Tryz.ntmps6
            go_wp2_with (first | (go_at_call 24; refine (HOK _ HZ.out).out.mono ?_; rintro e w' ⟨rfl, rfl⟩) | (go_at_call 25; refine (HIT _).out.mono ?_; rintro e w' ⟨rfl, rfl⟩) | (go_at_call 26; refine (HKO _).out.mono ?_; rintro e w' ⟨rfl, rfl⟩) | (go_at_call 27; refine (HIV _).out.mono ?_; rintro e w' ⟨rfl, rfl⟩))
            refine (HFK _ HZ.out).out.mono ?_
            rintro e w2 ⟨rfl, hb2⟩
            have HB2 := Lib.hid hb2
            have HZ2 := Lib.hid (HZ.out.below hb2)
            clear hb2
            go_wp2_with fail
            refine (HCP w2 HZ2.out).out.mono ?_
            rintro e wz ⟨x, rfl, ho, hb⟩
            have HO := Lib.hid ho
            have HB := Lib.hid hb
            clear ho hb
            go_wp2_with fail
            go_ret2
            exact recI (HO.out.base' HB2.out.size) (HB2.out.trans (HB.out.mono HB2.out.size)) HE.out HD.out
          case pos =>
            have HE := Lib.hid (show recC zs t key v = putCells zs (zs.getD 0 0 % 2) (fkS zs key) (fkK zs key) t v from if_pos ⟨hra, h0⟩)
            have HD := Lib.hid (recD_yes hra h0)
            obtain ⟨s3, ⟨k1, k3⟩, _⟩ := fk_found h0
            have d1 : decide (fkS zs key < 0) = false := by rw [decide_eq_false]; omega
            clear hra
            generalize fkS zs key = fs at *
            generalize fkK zs key = fk at *
            have HBO := fun W => Lib.hid (iBufOf_any W (zs.getD 0 0) e0 e1)
            have hb2 : 0 ≤ zs.getD 0 0 % 2 ∧ zs.getD 0 0 % 2 ≤ 1 := by omega
            have hk3 : fk = 1 ∨ fk = 2 ∨ fk = 3 := by omega
            generalize hep : zs.getD 0 0 = ep at *
            rcases hk3 with rfl | rfl | rfl
            · have HD2 := Lib.hid (show recD zs t key v = 0 by rw [HD.out]; rfl)
              have HE2 := Lib.hid (show recC zs t key v = putCount zs (ep % 2) fs t v by rw [HE.out]; rfl)
              obtain ⟨m, hm, hm8⟩ := slot_idx hb2 ⟨h0, s3⟩
              have ht2 := HT.out
              obtain ⟨v0, v1⟩ := HV.out
              obtain ⟨q, hq, hq2⟩ : ∃ q : Nat, t % 2 = (q : Int) ∧ q < 2 := ⟨(t % 2).toNat, by omega, by omega⟩
              have HST := fun W => Lib.hid (iStripe_any (ep % 2) fs (t % 2) W)
              rw [partV_yes ⟨by omega, by omega⟩, cellV_yes hb2 ⟨h0, s3⟩, hm, hq, show (m : Int) + (0 + (q : Int)) = ((m + q : Nat) : Int) by omega] at HST
              have HN := Lib.hid (add_at (i := ((m + q : Nat) : Int)) (n := v) HOKC.out rfl (by omega) (by omega) (by omega))
              have HEN := Lib.hid (show putCount zs (ep % 2) fs t v = zs.set (m + q) (modW (zs.getD (m + q) 0 + v)) by unfold putCount; rw [hm, hq, show ((m : Int) + (q : Int)).toNat = m + q by omega])
              have HA := fun W h => Lib.hid (HAD W h ((m + q : Nat) : Int) (by omega) (by omega)).out
              rw [HN.out.1, HN.out.2] at HA
              have t0 : 0 ≤ t := ht2.1
              have t1 : t ≤ 2 := ht2.2
              clear HSN HSA HAD hep ht2 HN hm
              generalize zs.set (m + q) (modW (zs.getD (m + q) 0 + v)) = ys at *
              generalize zs.getD (m + q) 0 = z at *
              generalize ((m + q : Nat) : Int) = k at *
              generalize ep % 2 = eb at *
              go_enter Tryz.func6, Tryz.ntmps6
              go_wp2_with (first | (go_at_call 24; refine (HOK _ HZ.out).out.mono ?_; rintro e w' ⟨rfl, rfl⟩) | (go_at_call 25; refine (HIT _).out.mono ?_; rintro e w' ⟨rfl, rfl⟩) | (go_at_call 26; refine (HKO _).out.mono ?_; rintro e w' ⟨rfl, rfl⟩) | (go_at_call 27; refine (HIV _).out.mono ?_; rintro e w' ⟨rfl, rfl⟩))
              refine (HFK _ HZ.out).out.mono ?_
              rintro e w2 ⟨rfl, hbf⟩
              have HB2 := Lib.hid hbf
              have HZ2 := Lib.hid (HZ.out.below hbf)
              have c0 : w2.cell? ⟨g0, off0, none⟩ = some (.int .i64 ep) := (HB2.out.cell (p := ⟨g0, off0 + 0, none⟩) hg0).trans HC0.out
              clear hbf
              go_wp2_with (first | (go_at_call 30; refine (HBO _).out.mono ?_; rintro e w' ⟨rfl, rfl⟩) | (go_at_call 32; refine (HST _).out.mono ?_; rintro e w' ⟨rfl, rfl⟩))
              refine (HA w2 HZ2.out).out.mono ?_
              rintro e w3 ⟨x, rfl, ho, hb3⟩
              have HO := Lib.hid (ho.base' HB2.out.size)
              have HB := Lib.hid (HB2.out.trans (hb3.mono HB2.out.size))
              clear ho hb3
              go_wp2_with fail
              go_ret2
              exact recI HO.out HB.out (HE2.out.trans HEN.out) HD2.out
            · have HD2 := Lib.hid (show recD zs t key v = 0 by rw [HD.out]; rfl)
              have HE2 := Lib.hid (show recC zs t key v = putGauge zs (ep % 2) fs v by rw [HE.out]; rfl)
              have HS := fun W h => HSN W h (ep % 2) fs hb2 ⟨h0, s3⟩ HV.out
              clear HSN HSA HAD hep
              generalize ep % 2 = eb at *
              go_enter Tryz.func6, Tryz.ntmps6
              go_wp2_with (first | (go_at_call 24; refine (HOK _ HZ.out).out.mono ?_; rintro e w' ⟨rfl, rfl⟩) | (go_at_call 25; refine (HIT _).out.mono ?_; rintro e w' ⟨rfl, rfl⟩) | (go_at_call 26; refine (HKO _).out.mono ?_; rintro e w' ⟨rfl, rfl⟩) | (go_at_call 27; refine (HIV _).out.mono ?_; rintro e w' ⟨rfl, rfl⟩))
              refine (HFK _ HZ.out).out.mono ?_
              rintro e w2 ⟨rfl, hbf⟩
              have HB2 := Lib.hid hbf
              have HZ2 := Lib.hid (HZ.out.below hbf)
              have c0 : w2.cell? ⟨g0, off0, none⟩ = some (.int .i64 ep) := (HB2.out.cell (p := ⟨g0, off0 + 0, none⟩) hg0).trans HC0.out
              clear hbf
              go_wp2_with (first | (go_at_call 30; refine (HBO _).out.mono ?_; rintro e w' ⟨rfl, rfl⟩))
              refine (HS w2 HZ2.out).out.mono ?_
              rintro e w3 ⟨x, rfl, ho, hb3⟩
              have HO := Lib.hid (ho.base' HB2.out.size)
              have HB := Lib.hid (HB2.out.trans (hb3.mono HB2.out.size))
              clear ho hb3
              go_wp2_with fail
              go_ret2
              exact recI HO.out HB.out HE2.out HD2.out
            · have HD2 := Lib.hid (show recD zs t key v = dropD (decide (3 ≤ zs.getD (7 + (ep % 2) * 32 + fs * 8 + 4).toNat 0)) by rw [HD.out]; rfl)
              have HE2 := Lib.hid (show recC zs t key v = putTimer zs (ep % 2) fs v by rw [HE.out]; rfl)
              have HS := fun W h => HSA W h (ep % 2) fs hb2 ⟨h0, s3⟩ HV.out
              clear HSN HSA HAD hep
              generalize dropD (decide (3 ≤ zs.getD (7 + (ep % 2) * 32 + fs * 8 + 4).toNat 0)) = dd at *
              generalize ep % 2 = eb at *
              go_enter Tryz.func6, Tryz.ntmps6
              go_wp2_with (first | (go_at_call 24; refine (HOK _ HZ.out).out.mono ?_; rintro e w' ⟨rfl, rfl⟩) | (go_at_call 25; refine (HIT _).out.mono ?_; rintro e w' ⟨rfl, rfl⟩) | (go_at_call 26; refine (HKO _).out.mono ?_; rintro e w' ⟨rfl, rfl⟩) | (go_at_call 27; refine (HIV _).out.mono ?_; rintro e w' ⟨rfl, rfl⟩))
              refine (HFK _ HZ.out).out.mono ?_
              rintro e w2 ⟨rfl, hbf⟩
              have HB2 := Lib.hid hbf
              have HZ2 := Lib.hid (HZ.out.below hbf)
              have c0 : w2.cell? ⟨g0, off0, none⟩ = some (.int .i64 ep) := (HB2.out.cell (p := ⟨g0, off0 + 0, none⟩) hg0).trans HC0.out
              clear hbf
              go_wp2_with (first | (go_at_call 30; refine (HBO _).out.mono ?_; rintro e w' ⟨rfl, rfl⟩))
              refine (HS w2 HZ2.out).out.mono ?_
              rintro e w3 ⟨x, rfl, ho, hb3⟩
              have HO := Lib.hid (ho.base' HB2.out.size)
              have HB := Lib.hid (HB2.out.trans (hb3.mono HB2.out.size))
              clear ho hb3
              go_wp2_with fail
              go_ret2
              exact recI HO.out HB.out HE2.out HD2.out
theorem clear_zero {zs : List Int} {b : Int} (h : okC zs = true) (hb : 0 ≤ b ∧ b ≤ 1) : (clearV zs b).getD 0 0 = zs.getD 0 0 := by
  rw [clearV_get h hb 0, if_neg (by omega)]
theorem OwnR.none {w : World} {base : Nat} : OwnR w base (.slice none 0 0) [] := by
  unfold OwnR
  exact ⟨rfl, .inl ⟨rfl, rfl⟩⟩
set_option maxRecDepth 100000 in
set_option maxHeartbeats 4000000 in
theorem iFlushNow_any (w : World) (u : Value) (zs : List Int) (h : Ints w u zs) (hl : zs.length ≤ 1048576) : Calls Tryz.prog 12 #[u] w (FluI w (flushC zs) (flushR zs)) := by
  have HCP := fun W h => Lib.hid (clone_any W u zs h hl)
  have HOK := fun W h => Lib.hid (iOk_any W u zs h)
  have HZ := Lib.hid h
  obtain ⟨g0, off0, cap0, rfl, _, _, hg0, h4⟩ := h
  cases hc : okC zs with
  | false =>
    have HE := Lib.hid (show flushC zs = zs from if_neg (by rw [hc]; simp))
    have HR := Lib.hid (show flushR zs = [] from if_neg (by rw [hc]; simp))
    rw [hc] at HOK
    clear hc h4
    go_enter Tryz.func12, Tryz.ntmps12
    go_wp2_with (go_at_call 24; refine (HOK _ HZ.out).out.mono ?_; rintro e w' ⟨rfl, rfl⟩)
    refine (HCP _ HZ.out).out.mono ?_
    rintro e wz ⟨x, rfl, ho, hb⟩
    have HO := Lib.hid ho
    have HB := Lib.hid hb
    clear ho hb
    go_wp2_with fail
    go_ret2
    exact fluI HO.out OwnR.none (.inl rfl) HB.out HE.out HR.out
  | true =>
    obtain ⟨e0, e1⟩ := okC_at hc 0 (by omega)
    have hb2 : 0 ≤ zs.getD 0 0 % 2 ∧ zs.getD 0 0 % 2 ≤ 1 := by omega
    have HE := Lib.hid (show flushC zs = (clearV zs (zs.getD 0 0 % 2)).set 0 (modW (zs.getD 0 0 + 1)) from if_pos hc)
    have HR := Lib.hid (show flushR zs = reportInV zs (zs.getD 0 0 % 2) from if_pos hc)
    have HL71 := okC_len hc
    have HRP := fun W h => Lib.hid (iReportIn_any W (.slice (some ⟨g0, off0, none⟩) zs.length cap0) zs (zs.getD 0 0 % 2) h (by omega) (by omega))
    have HCL := fun W h => Lib.hid (iClearBuf_any W (.slice (some ⟨g0, off0, none⟩) zs.length cap0) zs (zs.getD 0 0 % 2) h hl (by omega) (by omega))
    have HN := add_at (i := 0) (n := 1) (clearV_ok hc hb2) (k := 0) rfl (by omega) (by omega) (by omega)
    rw [clear_zero hc hb2] at HN
    have HA := fun W x h => Lib.hid (iAdd_any W x (clearV zs (zs.getD 0 0 % 2)) 0 1 h (by rw [clearV_len]; exact hl) (by omega) (by omega))
    rw [HN.1, ← HE.out] at HA
    have HBO := fun W => Lib.hid (iBufOf_any W (zs.getD 0 0) e0 e1)
    have HC0 := Lib.hid (h4 0 (by omega))
    rw [hc] at HOK
    rw [HR.out]
    clear hc h4 HN HE HR hb2
    rw [HL71] at HOK HCP HZ HRP HCL ⊢
    clear HL71
    generalize clearV zs (zs.getD 0 0 % 2) = cs at *
    generalize reportInV zs (zs.getD 0 0 % 2) = rs at *
    generalize flushC zs = fs at *
    generalize zs.getD 0 0 = ep at *
    have c0 : w.cell? ⟨g0, off0, none⟩ = some (.int .i64 ep) := HC0.out
    generalize addR cs 0 1 = ar at *
    generalize ep % 2 = eb at *
    go_enter Tryz.func12, Tryz.ntmps12
    go_wp2_with (first | (go_at_call 24; refine (HOK _ HZ.out).out.mono ?_; rintro e w' ⟨rfl, rfl⟩) | (go_at_call 30; refine (HBO _).out.mono ?_; rintro e w' ⟨rfl, rfl⟩))
    refine (HCL _ HZ.out).out.mono ?_
    rintro e w1 ⟨x, rfl, hx, hb1⟩
    have HX := Lib.hid hx
    have HB1 := Lib.hid hb1
    have HZ1 := Lib.hid (HZ.out.below hb1)
    clear hx hb1
    go_wp2_with fail
    refine (HA w1 x HX.out.ints).out.mono ?_
    rintro e w2 ⟨y, rfl, hy, hb2⟩
    have HY := Lib.hid (hy.base' HB1.out.size)
    have HB2 := Lib.hid (HB1.out.trans (hb2.mono HB1.out.size))
    have HZ2 := Lib.hid (HZ1.out.below hb2)
    clear hy hb2 HX HB1 HZ1
    go_wp2_with fail
    refine (HRP w2 HZ2.out).out.mono ?_
    rintro e w3 ⟨r, rfl, hr, hb3⟩
    have HR3 := Lib.hid hr
    have HB3 := Lib.hid (HB2.out.trans (hb3.mono HB2.out.size))
    have HY3 := Lib.hid (HY.out.below hb3)
    obtain ⟨k, hk, hk1, hk2⟩ := HY.out.block
    have hd : r.ownBlock = none ∨ r.ownBlock ≠ y.ownBlock := by
      rcases OwnR.block_lt hr with h | ⟨j, h, h1, h2⟩
      · exact .inl h
      · exact .inr (by rw [h, hk]; intro e; have e2 : j = k := Option.some.inj e; omega)
    have HD := Lib.hid hd
    clear hr hb3 hd hk hk1 hk2
    go_wp2_with fail
    go_ret2
    exact fluI HY3.out (OwnR.lower HR3.out HB2.out.size) HD.out HB3.out rfl rfl
end Go.Proofs.YtmglidfnolmcaaaGreatDoor

/-
  Chapter 9, the model's functions: a value recorded at once, a window flushed at once; each answers what the plain words say, in new rows.
-/
import Derived.Test.YtmglidfnolmcaaaGreatDoorDrD
import Derived.Test.YtmglidfnolmcaaaGreatDoorTblR
namespace Go.Proofs.YtmglidfnolmcaaaGreatDoor
open Go.RowKit M
set_option linter.unusedVariables false
set_option linter.unusedSimpArgs false
/-- The cells in block g, of the call's own. -/
def OwnC (w : World) (base g cap : Nat) (zs : List Int) : Prop := OwnI w base (.slice (some ⟨g, 0, none⟩) 71 cap) zs
theorem OwnC.put {w : World} {base g cap : Nat} {zs : List Int} (h : OwnC w base g cap zs) (j : Nat) (z : Int) : OwnC (w.setCell ⟨g, j, none⟩ (.int .i64 z)) base g cap (zs.set j z) ∧ w.grownBy (w.setCell ⟨g, j, none⟩ (.int .i64 z)) (some g) := OwnI.set h j z
theorem OwnC.get {w : World} {base g cap : Nat} {zs : List Int} (h : OwnC w base g cap zs) (j : Nat) (hj : j < 71) : w.cell? ⟨g, j, none⟩ = some (.int .i64 (zs.getD j 0)) := OwnI.cell h j hj
theorem OwnC.frz {w : World} {base g cap : Nat} {zs : List Int} (h : OwnC w base g cap zs) (j : Nat) : w.frozen? ⟨g, j, none⟩ = false := OwnI.frz h j
/-- The cells in block g are now zs; a truth value is told beside them. -/
def PutC (w : World) (base g cap : Nat) (zs : List Int) (d : Bool) (e : Ending) (w' : World) : Prop := e = .returned (.tuple #[.slice (some ⟨g, 0, none⟩) 71 cap, .bool d]) ∧ OwnC w' base g cap zs ∧ w.grownBy w' (some g)
theorem ret_tb {v : Value} {a b : Bool} (h : a = b) : Ending.returned (.tuple #[v, .bool a]) = .returned (.tuple #[v, .bool b]) := by rw [h]
theorem slot_idx {b s : Int} (hb : 0 ≤ b ∧ b ≤ 1) (hs : 0 ≤ s ∧ s ≤ 3) : ∃ m : Nat, 7 + b * 32 + s * 8 = (m : Int) ∧ m + 8 ≤ 71 := by
  obtain ⟨m, hm⟩ := Int.eq_ofNat_of_zero_le (show 0 ≤ 7 + b * 32 + s * 8 by omega)
  exact ⟨m, hm, by omega⟩
set_option maxRecDepth 100000 in
set_option maxHeartbeats 4000000 in
theorem sPutC_count (w : World) (base g cap : Nat) (zs : List Int) (b s t v : Int) (h : OwnC w base g cap zs) (hok : okC zs = true) (hb : 0 ≤ b ∧ b ≤ 1) (hs : 0 ≤ s ∧ s ≤ 3) (ht : 0 ≤ t ∧ t ≤ 2) (hv : 0 ≤ v ∧ v ≤ 65535) :
    Calls Tryz.prog 39 #[.slice (some ⟨g, 0, none⟩) 71 cap, .int .i64 b, .int .i64 s, .int .i64 1, .int .i64 t, .int .i64 v] w (PutC w base g cap (putCount zs b s t v) false) := by
  obtain ⟨m, hm, hm8⟩ := slot_idx hb hs
  obtain ⟨v0, v1⟩ := hv
  obtain ⟨q, hq, hq2⟩ : ∃ q : Nat, t % 2 = (q : Int) ∧ q < 2 := ⟨(t % 2).toNat, by omega, by omega⟩
  have hqs : q < 71 := by omega
  have HST := fun W => Lib.hid (sStripe_any b s (t % 2) W)
  rw [partV_yes ⟨by omega, by omega⟩, cellV_yes hb hs, hm, hq, show (m : Int) + (0 + (q : Int)) = ((m + q : Nat) : Int) by omega] at HST
  have HE := Lib.hid (show putCount zs b s t v = zs.set (m + q) (modW (zs.getD (m + q) 0 + v)) by unfold putCount; rw [hm, hq, show ((m : Int) + (q : Int)).toNat = m + q by omega])
  have hmq : m + q < 71 := by omega
  obtain ⟨z0, z1⟩ := okC_at hok (m + q) hmq
  have c1 := h.get (m + q) hmq
  have f1 := h.frz (m + q)
  have HS := Lib.hid (h.put (m + q) (modW (zs.getD (m + q) 0 + v)))
  unfold modW at HS
  clear h hm hb hs hok
  generalize zs.getD (m + q) 0 = z at *
  generalize m + q = k at *
  have i1 : (k : Int) < 71 := by omega
  go_enter Tryz.func39, Tryz.ntmps39
  go_wp2_with (first | (go_at_call 76; refine (HST _).out.mono ?_; rintro e w' ⟨rfl, rfl⟩) | (go_at_call 77; refine (sMod_any _ _).mono ?_; rintro e w' ⟨rfl, rfl⟩))
  go_ret2
  exact ⟨rfl, by rw [HE.out]; exact HS.out.1, HS.out.2⟩
set_option maxRecDepth 100000 in
set_option maxHeartbeats 4000000 in
theorem sPutC_gauge (w : World) (base g cap : Nat) (zs : List Int) (b s t v : Int) (h : OwnC w base g cap zs) (hok : okC zs = true) (hb : 0 ≤ b ∧ b ≤ 1) (hs : 0 ≤ s ∧ s ≤ 3) (ht : 0 ≤ t ∧ t ≤ 2) (hv : 0 ≤ v ∧ v ≤ 65535) :
    Calls Tryz.prog 39 #[.slice (some ⟨g, 0, none⟩) 71 cap, .int .i64 b, .int .i64 s, .int .i64 2, .int .i64 t, .int .i64 v] w (PutC w base g cap (putGauge zs b s v) false) := by
  obtain ⟨m, hm, hm8⟩ := slot_idx hb hs
  obtain ⟨v0, v1⟩ := hv
  have HST := fun W => Lib.hid (sStamp_any b s W)
  have HGA := fun W => Lib.hid (sGauge_any b s W)
  rw [cellV_yes hb hs, hm] at HST HGA
  have hm2 : m + 2 < 71 := by omega
  have hm3 : m + 3 < 71 := by omega
  have i2 : (m : Int) + 2 < 71 := by omega
  have i3 : (m : Int) + 3 < 71 := by omega
  have j2 : ((m : Int) + 2).toNat = m + 2 := by omega
  have k2 : (0 : Int) ≤ (m : Int) + 2 := by omega
  have k3 : (0 : Int) ≤ (m : Int) + 3 := by omega
  have j3 : ((m : Int) + 3).toNat = m + 3 := by omega
  obtain ⟨z0, z1⟩ := okC_at hok (m + 2) hm2
  have hlen := okC_len hok
  have c2 := h.get (m + 2) hm2
  have f2 := h.frz (m + 2)
  have HS := Lib.hid (h.put (m + 2) (modW (zs.getD (m + 2) 0 + 1)))
  have HP := Lib.hid (show putGauge zs b s v = if ungA ((zs.set (m + 2) (modW (zs.getD (m + 2) 0 + 1))).getD (m + 3) 0) ≤ (zs.set (m + 2) (modW (zs.getD (m + 2) 0 + 1))).getD (m + 2) 0 then (zs.set (m + 2) (modW (zs.getD (m + 2) 0 + 1))).set (m + 3) (gaugeV ((zs.set (m + 2) (modW (zs.getD (m + 2) 0 + 1))).getD (m + 2) 0) v) else zs.set (m + 2) (modW (zs.getD (m + 2) 0 + 1)) by
    unfold putGauge; rw [hm, j2, j3])
  have HN := Lib.hid (show (zs.set (m + 2) (modW (zs.getD (m + 2) 0 + 1))).getD (m + 2) 0 = modW (zs.getD (m + 2) 0 + 1) by
    rw [List.getD_eq_getElem?_getD, List.getElem?_set_self (by omega)]; rfl)
  rw [HN.out] at HP
  have HL2 := Lib.hid (HS.out.1.get (m + 2) hm2)
  rw [HN.out] at HL2
  have HL3 := Lib.hid (HS.out.1.get (m + 3) hm3)
  have HF3 := Lib.hid (HS.out.1.frz (m + 3))
  have HB0 := Lib.hid h
  clear h hm hb hs hok hlen HN
  generalize zs.getD (m + 2) 0 = z at *
  generalize (zs.set (m + 2) (modW (z + 1))).getD (m + 3) 0 = y at *
  generalize zs.set (m + 2) (modW (z + 1)) = zs1 at *
  unfold modW at HS HP HL2 HL3 HF3
  go_enter Tryz.func39, Tryz.ntmps39
  go_upto_region 14 with (first | (go_at_call 78; refine (HST _).out.mono ?_; rintro e w' ⟨rfl, rfl⟩) | (go_at_call 77; refine (sMod_any _ _).mono ?_; rintro e w' ⟨rfl, rfl⟩))
  refine wp_gen (fun w' => OwnC w' base g cap zs1 ∧ w.grownBy w' (some g) ∧ w'.cell? ⟨g, m + 2, none⟩ = some (.int .i64 ((z + 1) % 281474976710656)) ∧ w'.cell? ⟨g, m + 3, none⟩ = some (.int .i64 y) ∧ w'.frozen? ⟨g, m + 3, none⟩ = false) ⟨HS.out.1, HS.out.2, HL2.out, HL3.out, HF3.out⟩ ?_
  clear HS HL2 HL3 HF3 c2 f2 HST
  generalize (z + 1) % 281474976710656 = x at *
  rintro w2 ⟨ho, hg, c2, c3, f3⟩
  have HUG := fun W => Lib.hid (sUnpackGauge_any W y)
  have HPG := fun W => Lib.hid (sPackGauge_any W x v)
  have HSE := Lib.hid (ho.put (m + 3) (gaugeV x v))
  have HO := Lib.hid ho
  have HG := Lib.hid hg
  have HS := Lib.hid (show w2.drew.cell? ⟨g, m + 2, none⟩ = some (.int .i64 x) ∧ w2.drew.frozen? ⟨g, m + 3, none⟩ = false ∧ w2.drew.cell? ⟨g, m + 3, none⟩ = some (.int .i64 y) ∧ OwnC w2.drew base g cap zs1 ∧ w.grownBy w2.drew (some g) from ⟨c2, f3, c3, ho.below (below_drew _ _), grownR_trans hg ⟨rfl, rfl, rfl, Nat.le_refl _, fun _ _ _ => rfl⟩⟩)
  clear ho hg
  by_cases hle : ungA y ≤ x
  · have HE := Lib.hid (HP.out.trans (if_pos hle))
    have d1 : decide (ungA y ≤ x) = true := by rw [decide_eq_true]; exact hle
    clear HP
    generalize ungA y = ya at *
    generalize ungV y = yv at *
    generalize gaugeV x v = gv at *
    go_wp2_with (first | (go_at_call 80; refine (HGA _).out.mono ?_; rintro e w' ⟨rfl, rfl⟩) | (go_at_call 79; refine (HUG _).out.mono ?_; rintro e w' ⟨rfl, rfl⟩))
    clear c2 c3 f3
    have HCL := (⟨HS.out⟩ : HoldsC (fun W => W.cell? ⟨g, m + 2, none⟩ = some (.int .i64 x) ∧ W.frozen? ⟨g, m + 3, none⟩ = false ∧ W.cell? ⟨g, m + 3, none⟩ = some (.int .i64 y) ∧ OwnC W base g cap zs1 ∧ w.grownBy W (some g)) _)
    have hall : ∀ p : Prop, (∀ W, HoldsC (fun W => W.cell? ⟨g, m + 2, none⟩ = some (.int .i64 x) ∧ W.frozen? ⟨g, m + 3, none⟩ = false ∧ W.cell? ⟨g, m + 3, none⟩ = some (.int .i64 y) ∧ OwnC W base g cap zs1 ∧ w.grownBy W (some g)) W → p) ↔ p := fun p => ⟨fun h => h _ HCL, fun h _ _ => h⟩
    refine wp_region_tail_lit (C := HoldsC (fun W => W.cell? ⟨g, m + 2, none⟩ = some (.int .i64 x) ∧ W.frozen? ⟨g, m + 3, none⟩ = false ∧ W.cell? ⟨g, m + 3, none⟩ = some (.int .i64 y) ∧ OwnC W base g cap zs1 ∧ w.grownBy W (some g))) (by kernel_rfl) (by kernel_rfl) rfl HCL ?_
    repeat (refine WQ.step (fun K hK => ?_); go_simp; first | (refine hK _ ?_; clear hK K) | (apply Exists.intro; refine ⟨fun W hW => ?_, hK _ ?_⟩; (focus (first | (go_at_call 80; (with_reducible refine Calls.mono (Hid.out (HGA _)) ?_); rintro e w' ⟨rfl, rfl⟩; exact ⟨rfl, hW⟩) | (go_at_call 81; (with_reducible refine Calls.mono (Hid.out (HPG _)) ?_); rintro e w' ⟨rfl, rfl⟩; exact ⟨rfl, hW⟩) | exact rfl | (obtain ⟨c2, f3, c3, ho, hg⟩ := hW.out; go_simp; rfl))); clear hK K))
    refine WQ.nil ?_
    intro W hW
    obtain ⟨c2, f3, c3, ho, hg⟩ := hW.out
    refine ⟨rfl, ?_⟩
    clear hall HCL
    go_simp
    have HSE2 := Lib.hid (ho.put (m + 3) gv)
    have HG2 := Lib.hid hg
    clear ho hg hW
    go_wp2_with fail
    go_ret2
    exact ⟨rfl, by rw [HE.out]; exact HSE2.out.1, grownR_trans HG2.out HSE2.out.2⟩
  · have HE := Lib.hid (HP.out.trans (if_neg hle))
    have d1 : decide (ungA y ≤ x) = false := by rw [decide_eq_false]; exact hle
    clear HP
    generalize ungA y = ya at *
    generalize ungV y = yv at *
    go_wp2_with (first | (go_at_call 80; refine (HGA _).out.mono ?_; rintro e w' ⟨rfl, rfl⟩) | (go_at_call 79; refine (HUG _).out.mono ?_; rintro e w' ⟨rfl, rfl⟩))
    go_ret2
    exact ⟨rfl, by rw [HE.out]; exact HO.out, HG.out⟩

set_option maxRecDepth 100000 in
set_option maxHeartbeats 4000000 in
theorem sPutC_timer (w : World) (base g cap : Nat) (zs : List Int) (b s t v : Int) (h : OwnC w base g cap zs) (hok : okC zs = true) (hb : 0 ≤ b ∧ b ≤ 1) (hs : 0 ≤ s ∧ s ≤ 3) (ht : 0 ≤ t ∧ t ≤ 2) (hv : 0 ≤ v ∧ v ≤ 65535) :
    Calls Tryz.prog 39 #[.slice (some ⟨g, 0, none⟩) 71 cap, .int .i64 b, .int .i64 s, .int .i64 3, .int .i64 t, .int .i64 v] w (PutC w base g cap (putTimer zs b s v) (decide (3 ≤ zs.getD (7 + b * 32 + s * 8 + 4).toNat 0))) := by
  obtain ⟨m, hm, hm8⟩ := slot_idx hb hs
  obtain ⟨v0, v1⟩ := hv
  have HTK := fun W => Lib.hid (sTicket_any b s W)
  rw [cellV_yes hb hs, hm] at HTK
  have hm4 : m + 4 < 71 := by omega
  have i4 : (m : Int) + 4 < 71 := by omega
  have j4 : ((m : Int) + 4).toNat = m + 4 := by omega
  rw [hm, j4]
  obtain ⟨z0, z1⟩ := okC_at hok (m + 4) hm4
  have c4 := h.get (m + 4) hm4
  have f4 := h.frz (m + 4)
  have HS := Lib.hid (h.put (m + 4) (modW (zs.getD (m + 4) 0 + 1)))
  have HP := Lib.hid (show putTimer zs b s v = if 3 ≤ zs.getD (m + 4) 0 then zs.set (m + 4) (modW (zs.getD (m + 4) 0 + 1)) else (zs.set (m + 4) (modW (zs.getD (m + 4) 0 + 1))).set ((m : Int) + (5 + zs.getD (m + 4) 0)).toNat (v + 1) by
    unfold putTimer; rw [hm, j4])
  have HRG := fun W => Lib.hid (sRing_any b s (zs.getD (m + 4) 0) W)
  unfold modW at HS HP
  generalize zs.set (m + 4) ((zs.getD (m + 4) 0 + 1) % 281474976710656) = zs1 at *
  generalize zs.getD (m + 4) 0 = z at *
  by_cases h3 : 3 ≤ z
  · have HE := Lib.hid (HP.out.trans (if_pos h3))
    have d1 : decide (3 ≤ z) = true := by rw [decide_eq_true]; exact h3
    clear h hok hb hs HP hm HRG
    go_enter Tryz.func39, Tryz.ntmps39
    go_wp2_with (first | (go_at_call 82; refine (HTK _).out.mono ?_; rintro e w' ⟨rfl, rfl⟩) | (go_at_call 77; refine (sMod_any _ _).mono ?_; rintro e w' ⟨rfl, rfl⟩))
    go_ret2
    exact ⟨ret_tb d1.symm, by rw [HE.out]; exact HS.out.1, HS.out.2⟩
  · obtain ⟨q, rfl⟩ := Int.eq_ofNat_of_zero_le z0
    have hq : q < 3 := by omega
    have d1 : decide ((3 : Int) ≤ (q : Int)) = false := by rw [decide_eq_false]; exact h3
    rw [partV_yes ⟨by omega, by omega⟩, cellV_yes hb hs, hm, show (m : Int) + (5 + (q : Int)) = ((m + (5 + q) : Nat) : Int) by omega] at HRG
    have hmq : m + (5 + q) < 71 := by omega
    have HE := Lib.hid (HP.out.trans (if_neg h3))
    rw [show ((m : Int) + (5 + (q : Int))).toNat = m + (5 + q) by omega] at HE
    have hv1 : v + 1 ≤ 65536 := by omega
    clear h hok hb hs HP hm
    generalize m + (5 + q) = k at *
    have ik : (k : Int) < 71 := by omega
    go_enter Tryz.func39, Tryz.ntmps39
    go_upto_region 5 with (first | (go_at_call 82; refine (HTK _).out.mono ?_; rintro e w' ⟨rfl, rfl⟩) | (go_at_call 77; refine (sMod_any _ _).mono ?_; rintro e w' ⟨rfl, rfl⟩))
    refine wp_gen (fun w' => OwnC w' base g cap zs1 ∧ w.grownBy w' (some g)) ⟨HS.out.1, HS.out.2⟩ ?_
    clear HS c4 f4
    rintro w2 ⟨ho, hg⟩
    have c5 := ho.get k hmq
    have f5 := ho.frz k
    have HSE := Lib.hid (ho.put k (v + 1))
    have HG := Lib.hid hg
    clear ho hg
    go_wp2_with (go_at_call 83; refine (HRG _).out.mono ?_; rintro e w' ⟨rfl, rfl⟩)
    go_ret2
    exact ⟨ret_tb d1.symm, by rw [HE.out]; exact HSE.out.1, grownR_trans HG.out HSE.out.2⟩
theorem sPutC_any (w : World) (base g cap : Nat) (zs : List Int) (b s kind t v : Int) (h : OwnC w base g cap zs) (hok : okC zs = true) (hb : 0 ≤ b ∧ b ≤ 1) (hs : 0 ≤ s ∧ s ≤ 3) (hk : 1 ≤ kind ∧ kind ≤ 3) (ht : 0 ≤ t ∧ t ≤ 2) (hv : 0 ≤ v ∧ v ≤ 65535) :
    Calls Tryz.prog 39 #[.slice (some ⟨g, 0, none⟩) 71 cap, .int .i64 b, .int .i64 s, .int .i64 kind, .int .i64 t, .int .i64 v] w (PutC w base g cap (putCells zs b s kind t v) (putDrop zs b s kind)) := by
  have hk3 : kind = 1 ∨ kind = 2 ∨ kind = 3 := by omega
  rcases hk3 with rfl | rfl | rfl
  · exact sPutC_count w base g cap zs b s t v h hok hb hs ht hv
  · exact sPutC_gauge w base g cap zs b s t v h hok hb hs ht hv
  · exact sPutC_timer w base g cap zs b s t v h hok hb hs ht hv
theorem stepF_hit {zs : List Int} {key : ByteArray} {n : Int} {r : Int × Int × Int} (h : stepF zs key n = some r) (h0 : 0 ≤ r.1) : untagV (cellK zs r.1) = some (key, r.2.1) ∧ r.1 = probeV key n := by
  unfold stepF at h
  split at h
  · injection h with h; subst h; exact absurd (show (0 : Int) ≤ -1 from h0) (by decide)
  · split at h
    · split at h
      · rename_i k kd hu hk
        injection h with h; subst h; subst hk
        exact ⟨hu, rfl⟩
      · cases h
    · cases h
theorem findV_hit {zs : List Int} {key : ByteArray} (h0 : 0 ≤ (findV zs key).1) : ∃ n : Nat, n < 4 ∧ stepF zs key n = some (findV zs key) := by
  cases e0 : stepF zs key (0 : Nat) with
  | some r => exact ⟨0, by omega, by rw [findV_at (n := 0) (by omega) (fun m hm => by omega) e0]; exact e0⟩
  | none =>
    have n1 := none_next (n := 0) (fun m hm => absurd hm (Nat.not_lt_zero _)) e0
    cases e1 : stepF zs key (1 : Nat) with
    | some r => exact ⟨1, by omega, by rw [findV_at (n := 1) (by omega) n1 e1]; exact e1⟩
    | none =>
      have n2 := none_next n1 e1
      cases e2 : stepF zs key (2 : Nat) with
      | some r => exact ⟨2, by omega, by rw [findV_at (n := 2) (by omega) n2 e2]; exact e2⟩
      | none =>
        have n3 := none_next n2 e2
        cases e3 : stepF zs key (3 : Nat) with
        | some r => exact ⟨3, by omega, by rw [findV_at (n := 3) (by omega) n3 e3]; exact e3⟩
        | none => rw [findV_none (none_next n3 e3)] at h0; exact absurd h0 (by decide)
/-- A key that is found: its slot's cell holds it with its kind. -/
theorem fk_found {zs : List Int} {key : ByteArray} (h0 : 0 ≤ fkS zs key) : fkS zs key ≤ 3 ∧ (1 ≤ fkK zs key ∧ fkK zs key ≤ 3) ∧ untagV (cellK zs (fkS zs key)) = some (key, fkK zs key) := by
  by_cases h : okC zs = true ∧ keyOkV key = true
  · have e1 : fkS zs key = (findV zs key).1 := if_pos h
    have e2 : fkK zs key = (findV zs key).2.1 := if_pos h
    rw [e1] at h0
    rw [e1, e2]
    obtain ⟨n, hn, hs⟩ := findV_hit h0
    obtain ⟨hu, _⟩ := stepF_hit hs h0
    have := tag_untag hu
    exact ⟨(findV_bd h.2).1.2, ⟨this.2.2.1, this.2.2.2⟩, hu⟩
  · have e1 : fkS zs key = -1 := if_neg h
    omega
theorem recC_no {zs : List Int} {t : Int} {key : ByteArray} {v : Int} (h : ¬ (recArgs zs t key v = true ∧ 0 ≤ fkS zs key)) : recC zs t key v = zs := if_neg h
theorem recD_args {zs : List Int} {t : Int} {key : ByteArray} {v : Int} (h : recArgs zs t key v = false) : recD zs t key v = 1 := if_neg (by rw [h]; simp)
theorem recD_none {zs : List Int} {t : Int} {key : ByteArray} {v : Int} (h : recArgs zs t key v = true) (h0 : ¬ 0 ≤ fkS zs key) : recD zs t key v = 2 := (if_pos h).trans (if_neg h0)
theorem recD_yes {zs : List Int} {t : Int} {key : ByteArray} {v : Int} (h : recArgs zs t key v = true) (h0 : 0 ≤ fkS zs key) : recD zs t key v = if putDrop zs (zs.getD 0 0 % 2) (fkS zs key) (fkK zs key) = true then 5 else 0 := (if_pos h).trans (if_pos h0)
theorem putCount_len (a : List Int) (b s w v : Int) : (putCount a b s w v).length = a.length := by unfold putCount; rw [List.length_set]
theorem putGauge_len (a : List Int) (b s v : Int) : (putGauge a b s v).length = a.length := by unfold putGauge; simp only; split <;> simp
theorem putTimer_len (a : List Int) (b s v : Int) : (putTimer a b s v).length = a.length := by unfold putTimer; simp only; split <;> simp
theorem putCells_len (a : List Int) (b s k w v : Int) : (putCells a b s k w v).length = a.length := by unfold putCells; split; exact putCount_len _ _ _ _ _; split; exact putGauge_len _ _ _ _; exact putTimer_len _ _ _ _
theorem recC_len (a : List Int) (t : Int) (key : ByteArray) (v : Int) : (recC a t key v).length = a.length := by unfold recC; split; exact putCells_len _ _ _ _ _ _; rfl
theorem recArgs_iff {zs : List Int} {t : Int} {key : ByteArray} {v : Int} : recArgs zs t key v = true ↔ okC zs = true ∧ (0 ≤ t ∧ t ≤ 2) ∧ keyOkV key = true ∧ (0 ≤ v ∧ v ≤ 65535) := by simp [recArgs]
/-- A call hands back a new row of cells and a number beside it. -/
def RecI (w : World) (zs : List Int) (d : Int) (e : Ending) (w' : World) : Prop := ∃ v, e = .returned (.tuple #[v, .int .i64 d]) ∧ OwnI w' w.heap.size v zs ∧ Below w.heap.size w w'
theorem recI {w w' : World} {zs ys : List Int} {a c : Int} {v : Value} (ho : OwnI w' w.heap.size v zs) (hb : Below w.heap.size w w') (h1 : ys = zs) (h2 : c = a) : RecI w ys c (.returned (.tuple #[v, .int .i64 a])) w' := by
  subst h1; subst h2; exact ⟨v, rfl, ho, hb⟩
set_option maxRecDepth 100000 in
set_option maxHeartbeats 4000000 in
theorem sRecordNow_any (w : World) (u : Value) (zs : List Int) (t : Int) (key : ByteArray) (v : Int) (h : Ints w u zs) (hl : zs.length ≤ 1048576) (hks : key.size ≤ maxLen) :
    Calls Tryz.prog 7 #[u, .int .i64 t, .string key, .int .i64 v] w (RecI w (recC zs t key v) (recD zs t key v)) := by
  have HCP := Lib.hid (copy_any w u zs h hl)
  have HOK := fun W h => Lib.hid (sOk_any W u zs h)
  have HKO := fun W => Lib.hid (sKeyOk_any W key hks)
  have HZ := Lib.hid h
  obtain ⟨g0, off0, cap0, rfl, _, _, hg0, h4⟩ := h
  cases hc : okC zs with
  | false =>
    have hra : recArgs zs t key v = false := by rw [← Bool.not_eq_true, recArgs_iff]; rintro ⟨h, _⟩; rw [hc] at h; cases h
    have HE := Lib.hid (recC_no (v := v) (t := t) (key := key) (zs := zs) (fun x => by rw [hra] at x; cases x.1))
    have HD := Lib.hid (recD_args hra)
    rw [hc] at HOK
    clear hc hra h4
    go_enter Tryz.func7, Tryz.ntmps7
    go_wp2_with fail
    refine HCP.out.mono ?_
    rintro e w1 ⟨x, rfl, ho, hb⟩
    have HO := Lib.hid ho
    have HB := Lib.hid hb
    have HZ1 := Lib.hid (HZ.out.below hb)
    clear ho hb
    go_wp2_with (first | (go_at_call 36; (with_reducible refine Calls.mono (Hid.out (HOK _ HZ1.out)) ?_); rintro e w' ⟨rfl, rfl⟩))
    go_ret2
    exact recI HO.out HB.out HE.out HD.out
  | true =>
    by_cases ht : 0 ≤ t ∧ t ≤ 2
    case neg =>
      have hra : recArgs zs t key v = false := by rw [← Bool.not_eq_true, recArgs_iff]; rintro ⟨_, h, _⟩; exact ht h
      have HE := Lib.hid (recC_no (v := v) (t := t) (key := key) (zs := zs) (fun x => by rw [hra] at x; cases x.1))
      have HD := Lib.hid (recD_args hra)
      rw [hc] at HOK
      have HIT := fun W => Lib.hid (l1In_no t 0 2 W (by omega))
      clear hc hra h4 ht
      go_enter Tryz.func7, Tryz.ntmps7
      go_wp2_with fail
      refine HCP.out.mono ?_
      rintro e w1 ⟨x, rfl, ho, hb⟩
      have HO := Lib.hid ho
      have HB := Lib.hid hb
      have HZ1 := Lib.hid (HZ.out.below hb)
      clear ho hb
      go_wp2_with (first | (go_at_call 36; (with_reducible refine Calls.mono (Hid.out (HOK _ HZ1.out)) ?_); rintro e w' ⟨rfl, rfl⟩) | (go_at_call 37; refine (HIT _).out.mono ?_; rintro e w' ⟨rfl, rfl⟩))
      go_ret2
      exact recI HO.out HB.out HE.out HD.out
    case pos =>
      have HIT := fun W => Lib.hid (l1In_yes t 0 2 W ht.1 ht.2)
      cases hk : keyOkV key with
      | false =>
        have hra : recArgs zs t key v = false := by rw [← Bool.not_eq_true, recArgs_iff]; rintro ⟨_, _, h, _⟩; rw [hk] at h; cases h
        have HE := Lib.hid (recC_no (v := v) (t := t) (key := key) (zs := zs) (fun x => by rw [hra] at x; cases x.1))
        have HD := Lib.hid (recD_args hra)
        rw [hc] at HOK
        rw [hk] at HKO
        clear hc hra h4 ht hk
        go_enter Tryz.func7, Tryz.ntmps7
        go_wp2_with fail
        refine HCP.out.mono ?_
        rintro e w1 ⟨x, rfl, ho, hb⟩
        have HO := Lib.hid ho
        have HB := Lib.hid hb
        have HZ1 := Lib.hid (HZ.out.below hb)
        clear ho hb
        go_wp2_with (first | (go_at_call 36; (with_reducible refine Calls.mono (Hid.out (HOK _ HZ1.out)) ?_); rintro e w' ⟨rfl, rfl⟩) | (go_at_call 37; refine (HIT _).out.mono ?_; rintro e w' ⟨rfl, rfl⟩) | (go_at_call 38; (with_reducible refine Calls.mono (Hid.out (HKO _)) ?_); rintro e w' ⟨rfl, rfl⟩))
        go_ret2
        exact recI HO.out HB.out HE.out HD.out
      | true =>
        by_cases hv : 0 ≤ v ∧ v ≤ 65535
        case neg =>
          have hra : recArgs zs t key v = false := by rw [← Bool.not_eq_true, recArgs_iff]; rintro ⟨_, _, _, h⟩; exact hv h
          have HE := Lib.hid (recC_no (v := v) (t := t) (key := key) (zs := zs) (fun x => by rw [hra] at x; cases x.1))
          have HD := Lib.hid (recD_args hra)
          rw [hc] at HOK
          rw [hk] at HKO
          have HIV := fun W => Lib.hid (l1In_no v 0 65535 W (by omega))
          clear hc hra h4 ht hk hv
          go_enter Tryz.func7, Tryz.ntmps7
          go_wp2_with fail
          refine HCP.out.mono ?_
          rintro e w1 ⟨x, rfl, ho, hb⟩
          have HO := Lib.hid ho
          have HB := Lib.hid hb
          have HZ1 := Lib.hid (HZ.out.below hb)
          clear ho hb
          go_wp2_with (first | (go_at_call 36; (with_reducible refine Calls.mono (Hid.out (HOK _ HZ1.out)) ?_); rintro e w' ⟨rfl, rfl⟩) | (go_at_call 38; (with_reducible refine Calls.mono (Hid.out (HKO _)) ?_); rintro e w' ⟨rfl, rfl⟩) | (go_at_call 37; (first | (with_reducible refine Calls.mono (Hid.out (HIT _)) ?_) | (with_reducible refine Calls.mono (Hid.out (HIV _)) ?_)); rintro e w' ⟨rfl, rfl⟩))
          go_ret2
          exact recI HO.out HB.out HE.out HD.out
        case pos =>
          have hra : recArgs zs t key v = true := recArgs_iff.2 ⟨hc, ht, hk, hv⟩
          have HIV := fun W => Lib.hid (l1In_yes v 0 65535 W hv.1 hv.2)
          have HFK := fun W h => Lib.hid (sFindKey_any W (.slice (some ⟨g0, off0, none⟩) zs.length cap0) zs key h hks)
          have hl71 := okC_len hc
          have HOKC := Lib.hid hc
          have HT := Lib.hid ht
          have HV := Lib.hid hv
          rw [hc] at HOK
          rw [hk] at HKO
          obtain ⟨e0, e1⟩ := okC_at hc 0 (by omega)
          have HC0 := Lib.hid (h4 0 (by omega))
          clear hc ht hk hv h4
          rw [hl71] at HOK HCP HZ HFK ⊢
          clear hl71
          by_cases h0 : 0 ≤ fkS zs key
          case neg =>
            have HE := Lib.hid (recC_no (v := v) (t := t) (key := key) (zs := zs) (fun x => h0 x.2))
            have HD := Lib.hid (recD_none hra h0)
            have d1 : decide (fkS zs key < 0) = true := by rw [decide_eq_true]; omega
            clear hra h0
            generalize fkS zs key = fs at *
            generalize fkK zs key = fk at *
            go_enter Tryz.func7, Tryz.ntmps7
            go_wp2_with fail
            refine HCP.out.mono ?_
            rintro e w1 ⟨x, rfl, ho, hb⟩
            have HO := Lib.hid ho
            have HB := Lib.hid hb
            have HZ1 := Lib.hid (HZ.out.below hb)
            clear ho hb
            go_wp2_with (first | (go_at_call 36; (with_reducible refine Calls.mono (Hid.out (HOK _ HZ1.out)) ?_); rintro e w' ⟨rfl, rfl⟩) | (go_at_call 38; (with_reducible refine Calls.mono (Hid.out (HKO _)) ?_); rintro e w' ⟨rfl, rfl⟩) | (go_at_call 37; (first | (with_reducible refine Calls.mono (Hid.out (HIT _)) ?_) | (with_reducible refine Calls.mono (Hid.out (HIV _)) ?_)); rintro e w' ⟨rfl, rfl⟩))
            refine (HFK w1 HZ1.out).out.mono ?_
            rintro e w2 ⟨rfl, hb2⟩
            have HO2 := Lib.hid (HO.out.below hb2)
            have HB2 := Lib.hid (HB.out.trans (hb2.mono HB.out.size))
            clear hb2
            go_wp2_with fail
            go_ret2
            exact recI HO2.out HB2.out HE.out HD.out
          case pos =>
            have HE := Lib.hid (show recC zs t key v = putCells zs (zs.getD 0 0 % 2) (fkS zs key) (fkK zs key) t v from if_pos ⟨hra, h0⟩)
            have HD := Lib.hid (recD_yes hra h0)
            obtain ⟨s3, ⟨k1, k3⟩, _⟩ := fk_found h0
            have d1 : decide (fkS zs key < 0) = false := by rw [decide_eq_false]; omega
            clear hra
            generalize fkS zs key = fs at *
            generalize fkK zs key = fk at *
            generalize hep : zs.getD 0 0 = ep at *
            have hb2 : 0 ≤ ep % 2 ∧ ep % 2 ≤ 1 := by omega
            have HPC := fun W g cap h => Lib.hid (sPutC_any W w.heap.size g cap zs (ep % 2) fs fk t v h HOKC.out hb2 ⟨h0, s3⟩ ⟨k1, k3⟩ HT.out HV.out)
            clear hep hb2
            go_enter Tryz.func7, Tryz.ntmps7
            go_wp2_with fail
            refine HCP.out.mono ?_
            rintro e w1 ⟨x, rfl, ho, hb⟩
            have HO := Lib.hid ho
            have HB := Lib.hid hb
            have HZ1 := Lib.hid (HZ.out.below hb)
            clear ho hb
            go_wp2_with (first | (go_at_call 36; (with_reducible refine Calls.mono (Hid.out (HOK _ HZ1.out)) ?_); rintro e w' ⟨rfl, rfl⟩) | (go_at_call 38; (with_reducible refine Calls.mono (Hid.out (HKO _)) ?_); rintro e w' ⟨rfl, rfl⟩) | (go_at_call 37; (first | (with_reducible refine Calls.mono (Hid.out (HIT _)) ?_) | (with_reducible refine Calls.mono (Hid.out (HIV _)) ?_)); rintro e w' ⟨rfl, rfl⟩))
            refine (HFK w1 HZ1.out).out.mono ?_
            rintro e w2 ⟨rfl, hb2⟩
            have HO2 := Lib.hid (HO.out.below hb2)
            have HB2 := Lib.hid (HB.out.trans (hb2.mono HB.out.size))
            clear hb2 HO HB HZ1
            have c0 : w2.cell? ⟨g0, off0, none⟩ = some (.int .i64 ep) := (HB2.out.cell (p := ⟨g0, off0 + 0, none⟩) hg0).trans HC0.out
            obtain ⟨g, cap, rfl⟩ := HO2.out.2
            rw [okC_len HOKC.out] at HO2 ⊢
            have hcp : OwnC w2 w.heap.size g cap zs := HO2.out
            have HPG := Lib.hid (HPC w2 g cap hcp)
            have HGL := Lib.hid (show w.heap.size ≤ g from (World.ownsRow.lt hcp.1 g rfl).1)
            clear hcp
            cases hd : putDrop zs (ep % 2) fs fk with
            | true =>
              rw [hd] at HPG
              have HD2 := Lib.hid (HD.out.trans (if_pos hd))
              clear hd HPC
              go_wp2_with fail
              refine HPG.out.mono ?_
              rintro e w3 ⟨rfl, ho3, hg3⟩
              have HO3 := Lib.hid ho3
              have HB3 := Lib.hid (HB2.out.grown hg3 HB2.out.size (fun k hk => by cases hk; exact HGL.out))
              clear ho3 hg3
              go_wp2_with fail
              go_ret2
              exact recI HO3.out HB3.out HE.out HD2.out
            | false =>
              rw [hd] at HPG
              have HD2 := Lib.hid (HD.out.trans (if_neg (by rw [hd]; simp)))
              clear hd HPC
              go_wp2_with fail
              refine HPG.out.mono ?_
              rintro e w3 ⟨rfl, ho3, hg3⟩
              have HO3 := Lib.hid ho3
              have HB3 := Lib.hid (HB2.out.grown hg3 HB2.out.size (fun k hk => by cases hk; exact HGL.out))
              clear ho3 hg3
              go_wp2_with fail
              go_ret2
              exact recI HO3.out HB3.out HE.out HD2.out
/-- A call hands back a new row of cells and a new row of rows, apart from each other. -/
def FluI (w : World) (zs : List Int) (rs : List R) (e : Ending) (w' : World) : Prop :=
  ∃ v u, e = .returned (.tuple #[v, u]) ∧ OwnI w' w.heap.size v zs ∧ OwnR w' w.heap.size u rs ∧ (u.ownBlock = none ∨ u.ownBlock ≠ v.ownBlock) ∧ Below w.heap.size w w'
theorem OwnR.block_lt {w : World} {base : Nat} {v : Value} {l : List R} (h : OwnR w base v l) : v.ownBlock = none ∨ ∃ k, v.ownBlock = some k ∧ base ≤ k ∧ k < w.heap.size := by
  cases e : v.ownBlock with
  | none => exact .inl rfl
  | some k => exact .inr ⟨k, rfl, World.ownsRow.lt h k e⟩
theorem OwnI.base {w : World} {b b' : Nat} {v : Value} {l : List Int} (h : OwnI w b v l) (hb : b' ≤ b) : OwnI w b' v l := by
  refine ⟨?_, h.2⟩
  rcases h.1.2 with ⟨h1, h2⟩ | ⟨g, cap, cur, h1, h2, h3⟩
  · exact ⟨h.1.1, .inl ⟨h1, h2⟩⟩
  · exact ⟨h.1.1, .inr ⟨g, cap, cur, h1, Nat.le_trans hb h2, h3⟩⟩
theorem fluI {w w' : World} {zs ys : List Int} {rs qs : List R} {v u : Value} (ho : OwnI w' w.heap.size v zs) (hr : OwnR w' w.heap.size u rs) (hd : u.ownBlock = none ∨ u.ownBlock ≠ v.ownBlock) (hb : Below w.heap.size w w') (h1 : ys = zs) (h2 : qs = rs) : FluI w ys qs (.returned (.tuple #[v, u])) w' := by
  subst h1; subst h2; exact ⟨v, u, rfl, ho, hr, hd, hb⟩
set_option maxRecDepth 100000 in
set_option maxHeartbeats 4000000 in
theorem sFlushNow_any (w : World) (u : Value) (zs : List Int) (h : Ints w u zs) (hl : zs.length ≤ 1048576) : Calls Tryz.prog 91 #[u] w (FluI w (flushC zs) (flushR zs)) := by
  have HCP := Lib.hid (copy_any w u zs h hl)
  have HOK := fun W h => Lib.hid (sOk_any W u zs h)
  have HZ := Lib.hid h
  obtain ⟨g0, off0, cap0, rfl, _, _, hg0, h4⟩ := h
  cases hc : okC zs with
  | false =>
    have HE := Lib.hid (show flushC zs = zs from if_neg (by rw [hc]; simp))
    have HR := Lib.hid (show flushR zs = [] from if_neg (by rw [hc]; simp))
    rw [hc] at HOK
    clear hc h4
    go_enter Tryz.func91, Tryz.ntmps91
    go_wp2_with fail
    refine HCP.out.mono ?_
    rintro e w1 ⟨x, rfl, ho, hb⟩
    have HO := Lib.hid ho
    have HB := Lib.hid hb
    have HZ1 := Lib.hid (HZ.out.below hb)
    clear ho hb
    go_wp2_with ((go_at_call 36; (with_reducible refine Calls.mono (Hid.out (HOK _ HZ1.out)) ?_); rintro e w' ⟨rfl, rfl⟩))
    go_ret2
    have hr := OwnR.empty w1 w.heap.size HB.out.size
    obtain ⟨k, hk, _, hk2⟩ := HO.out.block
    have hd : (Value.slice (some ⟨w1.heap.size, 0, none⟩) 0 0).ownBlock = none ∨ (Value.slice (some ⟨w1.heap.size, 0, none⟩) 0 0).ownBlock ≠ x.ownBlock := .inr (by rw [hk]; intro e; have e2 : w1.heap.size = k := Option.some.inj e; omega)
    exact fluI (HO.out.alloc _) hr hd (HB.out.alloc HB.out.size _) HE.out HR.out
  | true =>
    have HE := Lib.hid (show flushC zs = (clearV zs (zs.getD 0 0 % 2)).set 0 (modW (zs.getD 0 0 + 1)) from if_pos hc)
    have HR := Lib.hid (show flushR zs = reportInV zs (zs.getD 0 0 % 2) from if_pos hc)
    have HL71 := Lib.hid (okC_len hc)
    have HRP := fun W h => Lib.hid (sReportIn_any W (.slice (some ⟨g0, off0, none⟩) 71 cap0) zs (zs.getD 0 0 % 2) h)
    have HCL := fun W x h => Lib.hid (sClearBuf_any W x zs (zs.getD 0 0 % 2) h hl)
    have HCN := Lib.hid (clearV_len zs (zs.getD 0 0 % 2))
    obtain ⟨e0, e1⟩ := okC_at hc 0 (by omega)
    have HC0 := Lib.hid (h4 0 (by have := HL71.out; omega))
    rw [hc] at HOK
    clear hc h4
    rw [HL71.out] at HOK HCP HZ HCN ⊢
    generalize clearV zs (zs.getD 0 0 % 2) = cs at *
    generalize reportInV zs (zs.getD 0 0 % 2) = rs at *
    generalize zs.getD 0 0 = ep at *
    unfold modW at HE
    go_enter Tryz.func91, Tryz.ntmps91
    go_wp2_with fail
    refine HCP.out.mono ?_
    rintro e w1 ⟨x, rfl, ho, hb⟩
    have HO := Lib.hid ho
    have HB := Lib.hid hb
    have HZ1 := Lib.hid (HZ.out.below hb)
    clear ho hb
    have c0 : w1.cell? ⟨g0, off0, none⟩ = some (.int .i64 ep) := (HB.out.cell (p := ⟨g0, off0 + 0, none⟩) hg0).trans HC0.out
    go_wp2_with ((go_at_call 36; (with_reducible refine Calls.mono (Hid.out (HOK _ HZ1.out)) ?_); rintro e w' ⟨rfl, rfl⟩))
    refine (HRP w1 HZ1.out).out.mono ?_
    rintro e w2 ⟨y, rfl, hr2, hb2⟩
    have HO2 := Lib.hid (HO.out.below hb2)
    have HR2 := Lib.hid (hr2.base HB.out.size)
    have HD2 := Lib.hid hr2.block_lt
    have HB2 := Lib.hid (HB.out.trans (hb2.mono HB.out.size))
    clear hr2 hb2 HO HB HZ1 c0
    have c0 : w2.cell? ⟨g0, off0, none⟩ = some (.int .i64 ep) := (HB2.out.cell (p := ⟨g0, off0 + 0, none⟩) hg0).trans HC0.out
    go_wp2_with fail
    refine (HCL w2 x HO2.out.ints).out.mono ?_
    rintro e w3 ⟨z, rfl, ho3, hb3⟩
    have HS2 := Lib.hid HB2.out.size
    have HO3 := Lib.hid ho3
    have HR3 := Lib.hid (HR2.out.below hb3)
    have HB3 := Lib.hid (HB2.out.trans (hb3.mono HB2.out.size))
    clear ho3 hb3 HO2 HR2 HB2 c0
    have c0 : w3.cell? ⟨g0, off0, none⟩ = some (.int .i64 ep) := (HB3.out.cell (p := ⟨g0, off0 + 0, none⟩) hg0).trans HC0.out
    obtain ⟨g, cap, rfl⟩ := HO3.out.2
    rw [HCN.out] at HO3 ⊢
    have cz := HO3.out.cell 0 (by omega)
    have fz := HO3.out.frz 0
    have HP := Lib.hid (HO3.out.set 0 ((ep + 1) % 281474976710656))
    have HGE := Lib.hid (World.ownsRow.lt HO3.out.1 g rfl)
    go_wp2_with (go_at_call 77; refine (sMod_any _ _).mono ?_; rintro e w' ⟨rfl, rfl⟩)
    go_ret2
    have hge := HGE.out
    have hs2 := HS2.out
    have hdd : y.ownBlock = none ∨ y.ownBlock ≠ some g := by
      rcases HD2.out with h | ⟨k, hk, _, hk2⟩
      · exact .inl h
      · exact .inr (by rw [hk]; intro e; injection e with e; omega)
    exact fluI (HP.out.1.base hs2) (HR3.out.kept HP.out.2 hdd) hdd (HB3.out.grown HP.out.2 HB3.out.size (fun k hk => by cases hk; omega)) HE.out HR.out
theorem flushC_len (zs : List Int) : (flushC zs).length = zs.length := by
  unfold flushC; split
  · rw [List.length_set, clearV_len]
  · rfl
theorem flushR_len (zs : List Int) : (flushR zs).length ≤ 4 := by
  unfold flushR; split
  · exact reportIn_len _ _
  · simp
end Go.Proofs.YtmglidfnolmcaaaGreatDoor

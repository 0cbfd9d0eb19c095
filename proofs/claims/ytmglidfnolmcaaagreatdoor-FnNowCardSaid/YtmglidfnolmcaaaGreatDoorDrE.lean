/-
  Chapter 8, the program's ClearBuf and BufClear: each answers what the plain words say. They turn nothing that was there.
-/
import Derived.Test.YtmglidfnolmcaaaGreatDoorZa
import Derived.Lib.SliceRun
namespace Go.Proofs.YtmglidfnolmcaaaGreatDoor
open Go.RowKit M
set_option linter.unusedVariables false
set_option linter.unusedSimpArgs false
set_option maxRecDepth 100000 in
theorem iNz_any (w : World) (x : Int) : Calls Tryz.prog 55 #[.int .i64 x] w (Same w (.bool (x != 0))) := by
  go_enter Tryz.func55, Tryz.ntmps55
  cases h : (x != 0) with
  | true =>
    go_wp2
    go_ret
    exact ⟨rfl, rfl⟩
  | false =>
    go_wp2
    go_ret
    exact ⟨rfl, rfl⟩
def ZeroTo (zs : List Int) (k : Nat) : Prop := ∀ j, j < k → (zs.getD j 0 != 0) = false
def IdxZ (w : World) (zs : List Int) (e : Ending) (w' : World) : Prop := ((e = .returned (.int .i64 (-1)) ∧ ZeroTo zs zs.length) ∨ ∃ k : Nat, k < zs.length ∧ e = .returned (.int .i64 k) ∧ (zs.getD k 0 != 0) = true) ∧ Below w.heap.size w w'
set_option maxRecDepth 100000 in
set_option maxHeartbeats 1000000 in
theorem iIdxZ_any (w : World) (v : Value) (zs : List Int) (h : IntsArg w v zs) : Calls Tryz.prog 89 #[v, .func (.func 55) #[] #[]] w (IdxZ w zs) := by
  obtain ⟨A, cap, rfl, h1, h2, h3⟩ := h
  unfold maxLen at h2
  have HI := Lib.hid (fun (e : Ending) (w' : World) (h : ((e = .returned (.int .i64 (-1)) ∧ ZeroTo zs zs.length) ∨ ∃ k : Nat, k < zs.length ∧ e = .returned (.int .i64 k) ∧ (zs.getD k 0 != 0) = true)) (hb : Below w.heap.size w w') => show IdxZ w zs e w' from ⟨h, hb⟩)
  generalize hn : zs.length = n at *
  clear hn
  have H3 := Lib.hid h3
  clear h3
  go_enter Tryz.func89, Tryz.ntmps89
  go_wp2_with fail
  go_loopw [8] (fun i wr => ∃ j : Nat, j ≤ n ∧ i = .int .i64 j ∧ ZeroTo zs j ∧ Below w.heap.size w wr) (fun i _ => n - (intOf i).toNat)
  case atStart => exact ⟨0, Nat.zero_le _, rfl, fun j hj => absurd hj (Nat.not_lt_zero _), Below.refl _ _⟩
  case round =>
    obtain ⟨j, hj, rfl, hq, hbl⟩ := hrel
    have HQ := Lib.hid hq
    clear hq
    by_cases hlt : j < n
    · obtain ⟨b, off, rfl, hb, hc⟩ := H3.out (by omega)
      have c1 := (hbl.cell (p := ⟨b, off + j, none⟩) hb).trans (hc j hlt)
      have HC := fun W => Lib.hid (iNz_any W (zs.getD j 0))
      have HB := Lib.hid hbl
      have HQ2 := Lib.hid (fun (q : (zs.getD j 0 != 0) = false) => (show ZeroTo zs (j + 1) from fun i hi => by
        by_cases e : i = j
        · subst e; exact q
        · exact HQ.out i (by omega)))
      have HQ3 := Lib.hid (fun (q : (zs.getD j 0 != 0) = true) => HI.out (.returned (.int .i64 (j : Int))) wr (.inr ⟨j, hlt, rfl, q⟩) HB.out)
      clear hc hbl
      have hltz : (j : Int) < (n : Int) := by omega
      generalize zs.getD j 0 = z at *
      generalize (z != 0) = q at *
      cases q with
      | true =>
        have HT := Lib.hid (HQ3.out rfl)
        clear HI HQ2 HQ3
        go_wp2_with fail
        refine (HC _).out.mono ?_
        rintro e w2 ⟨rfl, rfl⟩
        go_wp2_with fail
        go_ret
        exact HT.out
      | false =>
        have HQN := Lib.hid (HQ2.out rfl)
        clear HQ2 HQ3
        go_wp2_with fail
        refine (HC _).out.mono ?_
        rintro e w2 ⟨rfl, rfl⟩
        go_wp2_with fail
        go_roundw
        case rel => exact ⟨j + 1, by omega, by go_num, HQN.out, HB.out⟩
        case measure => simp [intOf]; omega
    · have hjn : j = n := by omega
      subst hjn
      have HB := Lib.hid hbl
      have hltz : ¬ (j : Int) < (j : Int) := by omega
      clear hbl
      go_wp2_with fail
      go_ret
      exact HI.out _ _ (.inl ⟨rfl, HQ.out⟩) HB.out
theorem any_nz {zs : List Int} {k : Nat} (hk : k < zs.length) (h : (zs.getD k 0 != 0) = true) : (zs.any fun x => x != 0) = true := by
  rw [List.any_eq_true]
  refine ⟨zs[k], List.getElem_mem hk, ?_⟩
  rw [List.getD_eq_getElem?_getD, List.getElem?_eq_getElem hk] at h
  exact h
theorem any_z {zs : List Int} (h : ZeroTo zs zs.length) : (zs.any fun x => x != 0) = false := by
  rw [List.any_eq_false]
  intro x hx
  obtain ⟨k, hk, rfl⟩ := List.getElem_of_mem hx
  have := h k hk
  rw [List.getD_eq_getElem?_getD, List.getElem?_eq_getElem hk, Option.getD_some] at this
  rw [this]; simp
set_option maxRecDepth 100000 in
theorem iHasNz_any (w : World) (v : Value) (zs : List Int) (h : IntsArg w v zs) : Calls Tryz.prog 54 #[v, .func (.func 55) #[] #[]] w (Gives (.bool (zs.any fun x => x != 0)) w) := by
  have HX := Lib.hid (iIdxZ_any w v zs h)
  clear h
  go_enter Tryz.func54, Tryz.ntmps54
  go_wp2_with fail
  refine HX.out.mono ?_
  rintro e w2 ⟨hcase, hb⟩
  have HB := Lib.hid hb
  clear hb HX
  rcases hcase with ⟨rfl, hq⟩ | ⟨k, hk, rfl, hq⟩
  · have HE := Lib.hid (any_z hq)
    clear hq
    go_wp2_with fail
    go_ret
    exact ⟨by rw [HE.out]; rfl, HB.out⟩
  · have HE := Lib.hid (any_nz hk hq)
    clear hk hq
    have hk0 : (0 : Int) ≤ (k : Int) := by omega
    go_wp2_with fail
    go_ret
    exact ⟨by rw [HE.out]; simp, HB.out⟩
/-- The buffer's part of the cells, or none. -/
def partB (g off cap : Nat) (zs : List Int) (b : Int) : Value := if okC zs = true ∧ bufOk b = true then .tuple #[.slice (some ⟨g, off + (7 + b * 32).toNat, none⟩) 32 (cap - (7 + b * 32).toNat), .bool true] else .tuple #[.slice none 0 0, .bool false]
set_option maxRecDepth 100000 in
set_option maxHeartbeats 1000000 in
theorem iPart_any (w : World) (g off n cap : Nat) (zs : List Int) (b : Int) (h : Ints w (.slice (some ⟨g, off, none⟩) n cap) zs) (hn : zs.length = n) : Calls Tryz.prog 53 #[.slice (some ⟨g, off, none⟩) n cap, .int .i64 b] w (Same w (partB g off cap zs b)) := by
  have HOK := Lib.hid (iOk_any w _ zs h)
  have HC := Lib.hid (iBase_any b 0 w)
  have hcap : n ≤ cap ∧ cap ≤ maxLen := by
    obtain ⟨g', off', cap', e, h1, h2, _⟩ := h
    injection e with e1 e2 e3
    subst e2; subst e3
    exact ⟨h1, h2⟩
  unfold maxLen at hcap
  clear h
  by_cases hok : okC zs = true ∧ bufOk b = true
  case neg =>
    have HE := Lib.hid (show partB g off cap zs b = .tuple #[.slice none 0 0, .bool false] from if_neg hok)
    generalize partB g off cap zs b = out at *
    have hbad : okC zs = false ∨ (okC zs = true ∧ cellV b 0 0 = -1) := by
      cases hc : okC zs with
      | false => exact .inl rfl
      | true => exact .inr ⟨rfl, if_neg (fun x => hok ⟨hc, bufOk_iff.2 x.1⟩)⟩
    rcases hbad with hc | ⟨hc, hbs⟩
    · rw [hc] at HOK
      clear hc hok hn
      generalize cellV b 0 0 = base at *
      go_enter Tryz.func53, Tryz.ntmps53
      go_wp2_with (first | (go_at_call 24; (with_reducible refine Calls.mono HOK.out ?_); rintro e w' ⟨rfl, rfl⟩) | (go_at_call 41; (with_reducible refine Calls.mono HC.out ?_); rintro e w' ⟨rfl, rfl⟩))
      go_ret2
      exact ⟨by rw [HE.out]; rfl, rfl⟩
    · rw [hbs] at HC
      rw [hc] at HOK
      clear hc hok hbs hn
      go_enter Tryz.func53, Tryz.ntmps53
      go_wp2_with (first | (go_at_call 24; (with_reducible refine Calls.mono HOK.out ?_); rintro e w' ⟨rfl, rfl⟩) | (go_at_call 41; (with_reducible refine Calls.mono HC.out ?_); rintro e w' ⟨rfl, rfl⟩))
      go_ret2
      exact ⟨by rw [HE.out]; rfl, rfl⟩
  case pos =>
    have HE := Lib.hid (show partB g off cap zs b = .tuple #[.slice (some ⟨g, off + (7 + b * 32).toNat, none⟩) 32 (cap - (7 + b * 32).toNat), .bool true] from if_pos hok)
    generalize partB g off cap zs b = out at *
    obtain ⟨hc, hb⟩ := hok
    rw [bufOk_iff] at hb
    have hl := okC_len hc
    rw [hl] at hn
    subst hn
    obtain ⟨m, hm'⟩ := Int.eq_ofNat_of_zero_le (show 0 ≤ 7 + b * 32 by omega)
    have hm63 : m + 32 ≤ 71 := by omega
    rw [cellV_yes hb (by omega), Int.zero_mul, Int.add_zero, Int.add_zero, hm'] at HC
    rw [hm', Int.toNat_natCast] at HE
    rw [hc] at HOK
    clear hc hb hm' hl
    have i4 : decide ((m : Int) < 0) = false := by rw [decide_eq_false]; omega
    have i5 : ¬ (m : Int) < 0 := by omega
    have m1 : IntKind.i64.wrap ((m : Int) + 32) = (m : Int) + 32 := by rw [IntKind.wrap_i64]; omega
    have m2 : (0 : Int) ≤ (m : Int) + 32 := by omega
    have m3 : (m : Int) + 32 ≤ (cap : Int) := by omega
    have m4 : (m : Int) ≤ (m : Int) + 32 := by omega
    have m5 : ((m : Int) + 32).toNat = m + 32 := by omega
    have m6 : ¬ cap = m := by omega
    have m7 : m + 32 - m = 32 := by omega
    have m8 : m ≤ m + 32 := by omega
    go_enter Tryz.func53, Tryz.ntmps53
    go_wp2_with (first | (go_at_call 24; (with_reducible refine Calls.mono HOK.out ?_); rintro e w' ⟨rfl, rfl⟩) | (go_at_call 41; (with_reducible refine Calls.mono HC.out ?_); rintro e w' ⟨rfl, rfl⟩))
    go_ret2
    exact ⟨by rw [HE.out]; rfl, rfl⟩
/-- Zeros laid one behind another from place o on. -/
def zerosV (zs : List Int) (o : Nat) : Nat → List Int
  | 0 => zs
  | k + 1 => zerosV (zs.set o 0) (o + 1) k
theorem zerosV_len (zs : List Int) (o k : Nat) : (zerosV zs o k).length = zs.length := by
  induction k generalizing zs o with
  | zero => rfl
  | succ k ih => unfold zerosV; rw [ih, List.length_set]
theorem zerosV_get (zs : List Int) (o k j : Nat) : (zerosV zs o k).getD j 0 = if o ≤ j ∧ j < o + k then 0 else zs.getD j 0 := by
  induction k generalizing zs o with
  | zero => rw [if_neg (by omega)]; rfl
  | succ k ih =>
    unfold zerosV
    rw [ih]
    by_cases e : o = j
    · subst e
      rw [if_neg (by omega), if_pos (by omega), getD_setZ0]
    · rw [getD_setZ _ _ _ e]
      by_cases hin : o + 1 ≤ j ∧ j < o + 1 + k
      · rw [if_pos hin, if_pos (by omega)]
      · rw [if_neg hin, if_neg (by omega)]
set_option maxRecDepth 100000 in
theorem zeros_clear {zs : List Int} {b : Int} (h : okC zs = true) (hb : 0 ≤ b ∧ b ≤ 1) : zerosV zs (7 + b * 32).toNat 32 = clearV zs b := by
  rw [clearV_yes h hb]
  refine list_getD_ext (by rw [zerosV_len, clearT_len]) fun j hj => ?_
  rw [zerosV_get, clearT_get hb 32 (Nat.le_refl _)]
  by_cases hin : (7 + b * 32).toNat ≤ j ∧ j < (7 + b * 32).toNat + 32
  · rw [if_pos hin, if_pos (by omega)]
  · rw [if_neg hin, if_neg (by omega)]
set_option maxRecDepth 100000 in
theorem own_zeros {base g n cap : Nat} : ∀ (k o : Nat) (w : World) (zs : List Int), OwnI w base (.slice (some ⟨g, 0, none⟩) n cap) zs →
    OwnI (w.setCells g o (List.replicate k (.int .i64 0))) base (.slice (some ⟨g, 0, none⟩) n cap) (zerosV zs o k) ∧ w.grownBy (w.setCells g o (List.replicate k (.int .i64 0))) (some g)
  | 0, o, w, zs, h => ⟨h, ⟨rfl, rfl, rfl, Nat.le_refl _, fun _ _ _ => rfl⟩⟩
  | k + 1, o, w, zs, h => by
    have h1 := h.set o 0
    have h2 := own_zeros k (o + 1) _ _ h1.1
    rw [List.replicate_succ]
    exact ⟨h2.1, ⟨h2.2.os.trans h1.2.os, h2.2.tape.trans h1.2.tape, h2.2.output.trans h1.2.output, Nat.le_trans h1.2.size h2.2.size, fun i hi hne => (h2.2.block i (Nat.lt_of_lt_of_le hi h1.2.size) hne).trans (h1.2.block i hi hne)⟩⟩
set_option maxRecDepth 100000 in
theorem zero_int (w : World) : (zeroValue 3).run Tryz.prog w = .ok (.int .i64 0) w := Tryz.zeroValue3 w
set_option maxRecDepth 100000 in
theorem clear_ints {w : World} {base g n cap L : Nat} {zs : List Int} (h : OwnI w base (.slice (some ⟨g, 0, none⟩) n cap) zs) (hn : zs.length = L) (m k : Nat) (hk : 0 < k) (hmk : m + k ≤ L) (ty : TypeId) (c : Nat) :
    (Builtin.clear_ #[24] ty #[.slice (some ⟨g, m, none⟩) k c]).run Tryz.prog w = .ok (.tuple #[]) (w.setCells g m (List.replicate k (.int .i64 0))) := by
  subst hn
  have h1 := h.1
  obtain ⟨_, g', cap', e⟩ := h
  injection e with e1 e2 e3
  subst e2
  refine Lib.run_clear_slice w 24 3 ty (.int .i64 0) Tryz.underlying24 zero_int rfl rfl g m k c hk (fun j hj => ?_) (fun j hj => World.ownsRow.frozenAt h1 (m + j))
  rw [World.ownsRow.cellAt h1 (m + j) (by omega)]
  rw [List.getElem?_map, List.getElem?_eq_getElem (by omega : m + j < zs.length)]
  rfl
set_option maxRecDepth 100000 in
set_option maxHeartbeats 1000000 in
theorem iClearBuf_any (w : World) (v : Value) (zs : List Int) (b : Int) (h : Ints w v zs) (hl : zs.length ≤ 1048576) (h0 : -9223372036854775808 ≤ b) (h1 : b ≤ 9223372036854775807) : Calls Tryz.prog 48 #[v, .int .i64 b] w (MadeI w (clearV zs b)) := by
  have HCP := Lib.hid (clone_any w v zs h hl)
  obtain ⟨g0, off0, cap0, rfl, _, _, _, _⟩ := h
  clear hl h0 h1
  go_enter Tryz.func48, Tryz.ntmps48
  go_wp2_with fail
  refine HCP.out.mono ?_
  rintro e w1 ⟨v1, rfl, ho, hb1⟩
  have hoo := ho
  obtain ⟨_, g, cap, rfl⟩ := hoo
  have hge : w.heap.size ≤ g := (World.ownsRow.lt ho.1 g rfl).1
  have HP := Lib.hid (iPart_any w1 g 0 zs.length cap zs b ho.ints rfl)
  have HO := Lib.hid ho
  have HB := Lib.hid hb1
  clear hb1 HCP
  by_cases hok : okC zs = true ∧ bufOk b = true
  case neg =>
    rw [show partB g 0 cap zs b = .tuple #[.slice none 0 0, .bool false] from if_neg hok] at HP
    have HE := Lib.hid (clearV_no hok)
    clear hok ho
    have hcl : ∀ ty (w : World), (Builtin.clear_ #[24] ty #[.slice none 0 0]).run Tryz.prog w = .ok (.tuple #[]) w := fun ty w => by simp [Builtin.clear_, run_underlying Tryz.underlying24]
    generalize zs.length = n at *
    go_wp2_with fail
    refine HP.out.mono ?_
    rintro e w2 ⟨rfl, rfl⟩
    go_wp2_with fail
    go_ret
    exact ⟨_, rfl, by rw [HE.out]; exact HO.out, HB.out⟩
  case pos =>
    rw [show partB g 0 cap zs b = .tuple #[.slice (some ⟨g, 0 + (7 + b * 32).toNat, none⟩) 32 (cap - (7 + b * 32).toNat), .bool true] from if_pos hok, Nat.zero_add] at HP
    obtain ⟨hc, hb⟩ := hok
    rw [bufOk_iff] at hb
    have hl := okC_len hc
    have HE := Lib.hid (zeros_clear hc hb)
    obtain ⟨m, hm'⟩ := Int.eq_ofNat_of_zero_le (show 0 ≤ 7 + b * 32 by omega)
    have hm63 : m + 32 ≤ 71 := by omega
    rw [hm', Int.toNat_natCast] at HP HE
    have hcl := fun ty c => clear_ints ho hl m 32 (by omega) (by omega) ty c
    have HZ := Lib.hid (own_zeros 32 m w1 zs ho)
    rw [HE.out] at HZ
    clear ho hc hb hm' hl
    generalize List.replicate 32 (Value.int .i64 0) = cs at *
    generalize zs.length = n at *
    go_wp2_with fail
    refine HP.out.mono ?_
    rintro e w2 ⟨rfl, rfl⟩
    go_wp2_with fail
    go_ret
    exact ⟨_, rfl, HZ.out.1, HB.out.grown HZ.out.2 HB.out.size (by intro _ h; cases h; exact hge)⟩
theorem ints_part {w : World} {b off n cap : Nat} {zs : List Int} (h : Ints w (.slice (some ⟨b, off, none⟩) n cap) zs) (k m : Nat) (hk : k + m ≤ n) : Ints w (.slice (some ⟨b, off + k, none⟩) m (cap - k)) ((zs.drop k).take m) := by
  obtain ⟨b', off', cap', e, h1, h2, h3, h4⟩ := h
  injection e with e1 e2 e3
  injection e1 with e1
  injection e1 with e1 e4 _
  subst e1; subst e4; subst e3
  have hlen : ((zs.drop k).take m).length = m := by simp only [List.length_take, List.length_drop]; omega
  refine ⟨b, off + k, cap - k, by rw [hlen], by rw [hlen]; omega, by omega, h3, fun j hj => ?_⟩
  rw [hlen] at hj
  rw [List.getD_eq_getElem?_getD, List.getElem?_take_of_lt hj, List.getElem?_drop, ← List.getD_eq_getElem?_getD, ← h4 (k + j) (by omega), Nat.add_assoc]
set_option maxRecDepth 100000 in
theorem bufClear_nz {zs : List Int} {b : Int} (h : okC zs = true) (hb : 0 ≤ b ∧ b ≤ 1) : (!(((zs.drop (7 + b * 32).toNat).take 32).any fun x => x != 0)) = bufClearV zs b := by
  have hl := okC_len h
  unfold bufClearV
  rw [h, bufOk_iff.2 hb]
  simp only [Bool.true_and]
  have hlen : ((zs.drop (7 + b * 32).toNat).take 32).length = 32 := by rw [List.length_take, List.length_drop]; omega
  have hat : ∀ i, i < 32 → ((zs.drop (7 + b * 32).toNat).take 32).getD i 0 = zs.getD (7 + b * 32 + (i : Int)).toNat 0 := fun i hi => by
    rw [List.getD_eq_getElem?_getD, List.getElem?_take_of_lt hi, List.getElem?_drop, List.getD_eq_getElem?_getD]
    congr 2; omega
  generalize ((zs.drop (7 + b * 32).toNat).take 32) = l at *
  rw [Bool.eq_iff_iff]
  simp only [Bool.not_eq_true', List.any_eq_false, List.all_eq_true, List.mem_range, decide_eq_true_eq, bne_iff_ne, ne_eq, Decidable.not_not]
  constructor
  · intro hall i hi
    rw [← hat i hi, List.getD_eq_getElem?_getD, List.getElem?_eq_getElem (by omega : i < l.length)]
    exact hall _ (List.getElem_mem _)
  · intro hall x hx
    obtain ⟨i, hi, rfl⟩ := List.getElem_of_mem hx
    have := hat i (by omega)
    rw [List.getD_eq_getElem?_getD, List.getElem?_eq_getElem hi, hall i (by omega)] at this
    exact this
set_option maxRecDepth 100000 in
set_option maxHeartbeats 1000000 in
theorem iBufClear_any (w : World) (v : Value) (zs : List Int) (b : Int) (h : Ints w v zs) (h0 : -9223372036854775808 ≤ b) (h1 : b ≤ 9223372036854775807) : Calls Tryz.prog 15 #[v, .int .i64 b] w (Gives (.bool (bufClearV zs b)) w) := by
  have HI := Lib.hid h
  obtain ⟨g, off, cap, rfl, _, _, _, _⟩ := h
  have HP := Lib.hid (iPart_any w g off zs.length cap zs b HI.out rfl)
  clear h0 h1
  by_cases hok : okC zs = true ∧ bufOk b = true
  case neg =>
    rw [show partB g off cap zs b = .tuple #[.slice none 0 0, .bool false] from if_neg hok] at HP
    have HE := Lib.hid (show bufClearV zs b = false by
      unfold bufClearV
      have : (okC zs && bufOk b) = false := by
        cases h1 : okC zs <;> cases h2 : bufOk b <;> first | rfl | exact absurd ⟨h1, h2⟩ hok
      rw [this]; rfl)
    clear hok
    generalize zs.length = n at *
    go_enter Tryz.func15, Tryz.ntmps15
    go_wp2_with fail
    refine HP.out.mono ?_
    rintro e w2 ⟨rfl, rfl⟩
    go_wp2_with fail
    go_ret
    exact ⟨by rw [HE.out]; rfl, Below.refl _ _⟩
  case pos =>
    rw [show partB g off cap zs b = .tuple #[.slice (some ⟨g, off + (7 + b * 32).toNat, none⟩) 32 (cap - (7 + b * 32).toNat), .bool true] from if_pos hok] at HP
    obtain ⟨hc, hb⟩ := hok
    rw [bufOk_iff] at hb
    have hl := okC_len hc
    have HE := Lib.hid (bufClear_nz hc hb)
    have HPA := ints_part HI.out (7 + b * 32).toNat 32 (by rw [hl]; omega)
    have HH := Lib.hid (iHasNz_any w _ _ HPA.arg)
    clear HPA
    generalize (((zs.drop (7 + b * 32).toNat).take 32).any fun x => x != 0) = q at *
    generalize (7 + b * 32).toNat = m at *
    clear hc hb HI hl
    generalize zs.length = n at *
    go_enter Tryz.func15, Tryz.ntmps15
    go_wp2_with fail
    refine HP.out.mono ?_
    rintro e w2 ⟨rfl, rfl⟩
    go_wp2_with fail
    refine HH.out.mono ?_
    rintro e w2 ⟨rfl, hb2⟩
    have HB := Lib.hid hb2
    clear hb2
    go_wp2_with fail
    go_ret
    exact ⟨by rw [← HE.out]; rfl, HB.out⟩
end Go.Proofs.YtmglidfnolmcaaaGreatDoor

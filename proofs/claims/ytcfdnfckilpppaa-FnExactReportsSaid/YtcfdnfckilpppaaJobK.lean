/-
  The exact laws' marks on rows of the record Job, and the look whether they are held.
-/
import Derived.Test.YtcfdnfckilpppaaZb
import Derived.Test.YtcfdnfckilpppaaZd
import Derived.Test.YtcfdnfckilpppaaZa
import Derived.Test.YtcfdnfckilpppaaRowK
namespace Go.Proofs.Ytcfdnfckilpppaa
open Go.RowKit M
set_option linter.unusedVariables false
set_option linter.unusedSimpArgs false
/-- A record marked from k on; where the count stands behind it. -/
def markJob (k : Int) (r : J) : J := ⟨((k) % 3 == 0), ⟨k + 1, markV (k + 2), k + 3, k + 4⟩, k + 5, k + 6, k + 7, k + 8, k + 9, k + 10, k + 11, k + 12, k + 13, k + 14, k + 15, marks (k + 16) r.keys.length, marks (k + 16 + ((r.keys.length : Int) : Int)) r.raw.length⟩
def endJob (k : Int) (r : J) : Int := k + 16 + ((r.keys.length : Int) : Int) + ((r.raw.length : Int) : Int)
def markJobL : Int → List J → List J
  | _, [] => []
  | k, r :: rs => markJob k r :: markJobL (endJob k r) rs
def endJobL : Int → List J → Int
  | k, [] => k
  | k, r :: rs => endJobL (endJob k r) rs
theorem markJobL_length (k : Int) (l : List J) : (markJobL k l).length = l.length := by
  induction l generalizing k with
  | nil => rfl
  | cons r rs ih => simp [markJobL, ih]
theorem markJobL_snoc (k : Int) (l : List J) (r : J) : markJobL k (l ++ [r]) = markJobL k l ++ [markJob (endJobL k l) r] := by
  induction l generalizing k with
  | nil => rfl
  | cons q rs ih => simp [markJobL, endJobL, ih]
theorem endJobL_snoc (k : Int) (l : List J) (r : J) : endJobL k (l ++ [r]) = endJob (endJobL k l) r := by
  induction l generalizing k with
  | nil => rfl
  | cons q rs ih => simp [endJobL, ih]
theorem endJob_le (k : Int) (r : J) : k ≤ endJob k r := by unfold endJob; omega
theorem endJobL_le (k : Int) (l : List J) : k ≤ endJobL k l := by
  induction l generalizing k with
  | nil => exact Int.le_refl _
  | cons q rs ih => exact Int.le_trans (endJob_le k q) (ih _)
theorem endJobL_append (k : Int) (l m : List J) : endJobL k (l ++ m) = endJobL (endJobL k l) m := by
  induction l generalizing k with
  | nil => rfl
  | cons q rs ih => exact ih _
theorem endJobL_take (k : Int) (l : List J) (j : Nat) : k ≤ endJobL k (l.take j) ∧ endJobL k (l.take j) ≤ endJobL k l := by
  refine ⟨endJobL_le _ _, ?_⟩
  have e : endJobL k l = endJobL (endJobL k (l.take j)) (l.drop j) := by rw [← endJobL_append, List.take_append_drop]
  rw [e]
  exact endJobL_le _ _
theorem take_snocJob (l : List J) (j : Nat) (hj : j < l.length) : l.take (j + 1) = l.take j ++ [l.getD j zeroJ] := by
  rw [List.take_add_one, List.getD_eq_getElem?_getD, List.getElem?_eq_getElem hj]; rfl
theorem drop_consJob (l : List J) (j : Nat) (hj : j < l.length) : l.drop j = l.getD j zeroJ :: l.drop (j + 1) := by
  rw [List.drop_eq_getElem_cons hj, List.getD_eq_getElem?_getD, List.getElem?_eq_getElem hj]; rfl
/-- The cells while j records are marked. -/
def partJob (k : Int) (l : List J) (j : Nat) : List Dat := datL jobDat (markJobL k (l.take j)) ++ datL jobDat (l.drop j)
theorem partJob_now (k : Int) (l : List J) (j : Nat) (hj : j < l.length) : partJob k l j = datL jobDat (markJobL k (l.take j)) ++ (jobDat (l.getD j zeroJ) ++ datL jobDat (l.drop (j + 1))) := by
  unfold partJob
  rw [drop_consJob l j hj]; rfl
theorem partJob_next (k : Int) (l : List J) (j : Nat) (hj : j < l.length) : partJob k l (j + 1) = datL jobDat (markJobL k (l.take j)) ++ (jobDat (markJob (endJobL k (l.take j)) (l.getD j zeroJ)) ++ datL jobDat (l.drop (j + 1))) := by
  unfold partJob
  rw [take_snocJob l j hj, markJobL_snoc, datL_append, List.append_assoc]
  congr 1
theorem partJob_len (k : Int) (l : List J) (j : Nat) (hj : j ≤ l.length) : (datL jobDat (markJobL k (l.take j))).length = j * 18 := by
  rw [datL_length jobDat_len, markJobL_length, List.length_take, Nat.min_eq_left hj]
theorem partJob_zero (k : Int) (l : List J) : partJob k l 0 = datL jobDat l := rfl
theorem partJob_all (k : Int) (l : List J) : partJob k l l.length = datL jobDat (markJobL k l) := by
  unfold partJob
  rw [List.take_length, List.drop_length]
  simp [datL]
def MarkedJobS (w : World) (B Eb : Nat) (v : Value) (k : Int) (l : List J) (e : Ending) (w' : World) : Prop := e = .returned (.int .i64 (endJobL k l)) ∧ OwnY 86 18 jobDat w' B Eb v (markJobL k l) ∧ Chg (Within B Eb) w w'
set_option maxRecDepth 100000 in
set_option maxHeartbeats 16000000 in
theorem markJobS_any (w : World) (B Eb : Nat) (v : Value) (l : List J) (k : Int) (h : OwnY 86 18 jobDat w B Eb v l) (hl : l.length ≤ 1048576) (hs : ∀ j, j < l.length → (l.getD j zeroJ).keys.length ≤ 1048576 ∧ (l.getD j zeroJ).raw.length ≤ 1048576) (hk0 : 1 ≤ k) (hk1 : endJobL k l ≤ 900000000000) :
    Calls Try.prog 37 #[v, .int .i64 k] w (MarkedJobS w B Eb v k l) := by
  have h' : OwnX 86 18 l.length w B Eb v (datL jobDat l) := h
  rcases h'.shape with ⟨rfl, h0⟩ | ⟨g, cap, rfl, hcn, hcm, _, _⟩
  · have hz : l = [] := List.length_eq_zero_iff.1 h0
    subst hz
    have HO := Lib.hid h
    clear h h' h0 hs
    go_enter Try.func37, Try.ntmps37
    go_wp2_with fail
    go_loopw [1, 5] (fun c i wr => i = .int .i64 0 ∧ c = .int .i64 k ∧ wr = w) (fun _ i _ => 0)
    case atStart => exact ⟨rfl, rfl, rfl⟩
    case round =>
      obtain ⟨rfl, rfl, rfl⟩ := hrel
      go_wp2_with fail
      go_ret
      exact ⟨rfl, HO.out, Chg.refl _ _⟩
  · have HNOW := Lib.hid (fun j (hj : j < l.length) => partJob_now k l j hj)
    have HNX := Lib.hid (fun j (hj : j < l.length) => partJob_next k l j hj)
    have HLN := Lib.hid (fun j (hj : j ≤ l.length) => partJob_len k l j hj)
    have HKS := Lib.hid (fun j => endJobL_take k l j)
    have HEN := Lib.hid (fun j (hj : j < l.length) => show endJobL k (l.take (j + 1)) = endJob (endJobL k (l.take j)) (l.getD j zeroJ) by rw [take_snocJob l j hj, endJobL_snoc])
    have HIS := Lib.hid hs
    have HFI := Lib.hid (partJob_all k l)
    have HFL := Lib.hid (markJobL_length k l)
    have HEA := Lib.hid (show endJobL k (l.take l.length) = endJobL k l by rw [List.take_length])
    have HZ := Lib.hid (show OwnX 86 18 l.length w B Eb (.slice (some ⟨g, 0, none⟩) l.length cap) (partJob k l 0) from by rw [partJob_zero]; exact h')
    generalize l.length = n at *
    unfold maxLen at hcm
    clear h h' hs
    go_enter Try.func37, Try.ntmps37
    go_wp2_with fail
    go_loopw [1, 5] (fun c i wr => ∃ j : Nat, j ≤ n ∧ i = .int .i64 j ∧ c = .int .i64 (endJobL k (l.take j)) ∧ OwnX 86 18 n wr B Eb (.slice (some ⟨g, 0, none⟩) n cap) (partJob k l j) ∧ Chg (Within B Eb) w wr) (fun _ i _ => n - (intOf i).toNat)
    case atStart => exact ⟨0, Nat.zero_le _, rfl, rfl, HZ.out, Chg.refl _ _⟩
    case round =>
      obtain ⟨j, hj, rfl, rfl, ho, hg⟩ := hrel
      clear HZ
      by_cases hlt : j < n
      · have HND := Lib.hid (HNX.out j hlt)
        have HED := Lib.hid (HEN.out j hlt)
        have HL := Lib.hid (HLN.out j (Nat.le_of_lt hlt))
        have hkb := HKS.out j
        have his := HIS.out j hlt
        rw [HNOW.out j hlt] at ho
        generalize datL jobDat (markJobL k (l.take j)) = D1 at *
        generalize datL jobDat (l.drop (j + 1)) = D2 at *
        generalize endJobL k (l.take j) = kk at *
        generalize l.getD j zeroJ = r at *
        clear HNOW HNX HLN HKS HEN HIS HFI HFL HEA
        obtain ⟨busy, ⟨okind, okey, owhat, oval⟩, serial, pc, k, slot, what, e, stamp, old, flips, steps, code, keys, raw⟩ := r
        unfold jobDat at ho
        simp only at ho his
        have b0 : 1 ≤ kk := by omega
        have b1 : kk ≤ 900000000000 := by omega
        clear hkb
        have hjn : (j : Int) < (n : Int) := by omega
        have c0 : wr.cell? ⟨g, j * 18, none⟩ = some (.bool busy) := ho.mval HL.out 0 rfl (by omega)
        have f0 : wr.frozen? ⟨g, j * 18, none⟩ = false := ho.mfrz _
        have HO := Lib.hid ho
        have HG := Lib.hid hg
        clear ho hg
        go_upto_region 5 with fail
        refine wp_gen (fun w' => OwnX 86 18 n w' B Eb (.slice (some ⟨g, 0, none⟩) n cap) (D1 ++ ([.val (.bool (((kk) % 3 == 0))), .val (.int .i64 okind), .val (.string okey), .val (.int .i64 owhat), .val (.int .i64 oval), .val (.int .i64 serial), .val (.int .i64 pc), .val (.int .i64 k), .val (.int .i64 slot), .val (.int .i64 what), .val (.int .i64 e), .val (.int .i64 stamp), .val (.int .i64 old), .val (.int .i64 flips), .val (.int .i64 steps), .val (.int .i64 code), .row 3 1 keys.length (keys.map (Value.int .i64)), .row 3 1 raw.length (raw.map (Value.int .i64))] ++ D2)) ∧ Chg (Within B Eb) w w') ⟨(HO.out.mset HL.out 0 (x := .bool busy) rfl _).1, HG.out.trans (HO.out.mset HL.out 0 (x := .bool busy) rfl _).2⟩ ?_
        clear HO HG
        clear c0 f0
        rintro w10 ⟨ho, hg⟩
        have c1 : w10.cell? ⟨g, j * 18 + 1, none⟩ = some (.int .i64 okind) := ho.mval HL.out 1 rfl (by omega)
        have f1 : w10.frozen? ⟨g, j * 18 + 1, none⟩ = false := ho.mfrz _
        have HO := Lib.hid ho
        have HG := Lib.hid hg
        clear ho hg
        go_upto_region 7 with fail
        refine wp_gen (fun w' => OwnX 86 18 n w' B Eb (.slice (some ⟨g, 0, none⟩) n cap) (D1 ++ ([.val (.bool (((kk) % 3 == 0))), .val (.int .i64 (kk + 1)), .val (.string okey), .val (.int .i64 owhat), .val (.int .i64 oval), .val (.int .i64 serial), .val (.int .i64 pc), .val (.int .i64 k), .val (.int .i64 slot), .val (.int .i64 what), .val (.int .i64 e), .val (.int .i64 stamp), .val (.int .i64 old), .val (.int .i64 flips), .val (.int .i64 steps), .val (.int .i64 code), .row 3 1 keys.length (keys.map (Value.int .i64)), .row 3 1 raw.length (raw.map (Value.int .i64))] ++ D2)) ∧ Chg (Within B Eb) w w') ⟨(HO.out.mset HL.out 1 (x := .int .i64 okind) rfl _).1, HG.out.trans (HO.out.mset HL.out 1 (x := .int .i64 okind) rfl _).2⟩ ?_
        clear HO HG
        clear c1 f1
        rintro w11 ⟨ho, hg⟩
        have HM2 := fun W => Lib.hid (markText_any (kk + 1 + 1) W (by omega) (by omega))
        have c2 : w11.cell? ⟨g, j * 18 + 2, none⟩ = some (.string okey) := ho.mval HL.out 2 rfl (by omega)
        have f2 : w11.frozen? ⟨g, j * 18 + 2, none⟩ = false := ho.mfrz _
        have HO := Lib.hid ho
        have HG := Lib.hid hg
        clear ho hg
        go_upto_region 9 with (go_at_call 39; (with_reducible refine Calls.mono (Hid.out (HM2 _)) ?_); rintro e w5 ⟨rfl, hb5⟩; have HB5 := Lib.hid hb5; clear hb5; have c2 : w5.cell? ⟨g, j * 18 + 2, none⟩ = some (.string okey) := (HO.out.below HB5.out).mval HL.out 2 rfl (by omega); have f2 : w5.frozen? ⟨g, j * 18 + 2, none⟩ = false := (HO.out.below HB5.out).mfrz _)
        have ho5 := HO.out.below HB5.out
        refine wp_gen (fun w' => OwnX 86 18 n w' B Eb (.slice (some ⟨g, 0, none⟩) n cap) (D1 ++ ([.val (.bool (((kk) % 3 == 0))), .val (.int .i64 (kk + 1)), .val (.string (markV (kk + 1 + 1))), .val (.int .i64 owhat), .val (.int .i64 oval), .val (.int .i64 serial), .val (.int .i64 pc), .val (.int .i64 k), .val (.int .i64 slot), .val (.int .i64 what), .val (.int .i64 e), .val (.int .i64 stamp), .val (.int .i64 old), .val (.int .i64 flips), .val (.int .i64 steps), .val (.int .i64 code), .row 3 1 keys.length (keys.map (Value.int .i64)), .row 3 1 raw.length (raw.map (Value.int .i64))] ++ D2)) ∧ Chg (Within B Eb) w w') ⟨(ho5.mset HL.out 2 (x := .string okey) rfl _).1, (chg_below HG.out HB5.out).trans (ho5.mset HL.out 2 (x := .string okey) rfl _).2⟩ ?_
        clear ho5 HB5 HO HG HM2
        rintro w12 ⟨ho, hg⟩
        have c3 : w12.cell? ⟨g, j * 18 + 3, none⟩ = some (.int .i64 owhat) := ho.mval HL.out 3 rfl (by omega)
        have f3 : w12.frozen? ⟨g, j * 18 + 3, none⟩ = false := ho.mfrz _
        have HO := Lib.hid ho
        have HG := Lib.hid hg
        clear ho hg
        go_upto_region 11 with fail
        refine wp_gen (fun w' => OwnX 86 18 n w' B Eb (.slice (some ⟨g, 0, none⟩) n cap) (D1 ++ ([.val (.bool (((kk) % 3 == 0))), .val (.int .i64 (kk + 1)), .val (.string (markV (kk + 1 + 1))), .val (.int .i64 (kk + 1 + 1 + 1)), .val (.int .i64 oval), .val (.int .i64 serial), .val (.int .i64 pc), .val (.int .i64 k), .val (.int .i64 slot), .val (.int .i64 what), .val (.int .i64 e), .val (.int .i64 stamp), .val (.int .i64 old), .val (.int .i64 flips), .val (.int .i64 steps), .val (.int .i64 code), .row 3 1 keys.length (keys.map (Value.int .i64)), .row 3 1 raw.length (raw.map (Value.int .i64))] ++ D2)) ∧ Chg (Within B Eb) w w') ⟨(HO.out.mset HL.out 3 (x := .int .i64 owhat) rfl _).1, HG.out.trans (HO.out.mset HL.out 3 (x := .int .i64 owhat) rfl _).2⟩ ?_
        clear HO HG
        clear c3 f3
        rintro w13 ⟨ho, hg⟩
        have c4 : w13.cell? ⟨g, j * 18 + 4, none⟩ = some (.int .i64 oval) := ho.mval HL.out 4 rfl (by omega)
        have f4 : w13.frozen? ⟨g, j * 18 + 4, none⟩ = false := ho.mfrz _
        have HO := Lib.hid ho
        have HG := Lib.hid hg
        clear ho hg
        go_upto_region 13 with fail
        refine wp_gen (fun w' => OwnX 86 18 n w' B Eb (.slice (some ⟨g, 0, none⟩) n cap) (D1 ++ ([.val (.bool (((kk) % 3 == 0))), .val (.int .i64 (kk + 1)), .val (.string (markV (kk + 1 + 1))), .val (.int .i64 (kk + 1 + 1 + 1)), .val (.int .i64 (kk + 1 + 1 + 1 + 1)), .val (.int .i64 serial), .val (.int .i64 pc), .val (.int .i64 k), .val (.int .i64 slot), .val (.int .i64 what), .val (.int .i64 e), .val (.int .i64 stamp), .val (.int .i64 old), .val (.int .i64 flips), .val (.int .i64 steps), .val (.int .i64 code), .row 3 1 keys.length (keys.map (Value.int .i64)), .row 3 1 raw.length (raw.map (Value.int .i64))] ++ D2)) ∧ Chg (Within B Eb) w w') ⟨(HO.out.mset HL.out 4 (x := .int .i64 oval) rfl _).1, HG.out.trans (HO.out.mset HL.out 4 (x := .int .i64 oval) rfl _).2⟩ ?_
        clear HO HG
        clear c4 f4
        rintro w14 ⟨ho, hg⟩
        have c5 : w14.cell? ⟨g, j * 18 + 5, none⟩ = some (.int .i64 serial) := ho.mval HL.out 5 rfl (by omega)
        have f5 : w14.frozen? ⟨g, j * 18 + 5, none⟩ = false := ho.mfrz _
        have HO := Lib.hid ho
        have HG := Lib.hid hg
        clear ho hg
        go_upto_region 15 with fail
        refine wp_gen (fun w' => OwnX 86 18 n w' B Eb (.slice (some ⟨g, 0, none⟩) n cap) (D1 ++ ([.val (.bool (((kk) % 3 == 0))), .val (.int .i64 (kk + 1)), .val (.string (markV (kk + 1 + 1))), .val (.int .i64 (kk + 1 + 1 + 1)), .val (.int .i64 (kk + 1 + 1 + 1 + 1)), .val (.int .i64 (kk + 1 + 1 + 1 + 1 + 1)), .val (.int .i64 pc), .val (.int .i64 k), .val (.int .i64 slot), .val (.int .i64 what), .val (.int .i64 e), .val (.int .i64 stamp), .val (.int .i64 old), .val (.int .i64 flips), .val (.int .i64 steps), .val (.int .i64 code), .row 3 1 keys.length (keys.map (Value.int .i64)), .row 3 1 raw.length (raw.map (Value.int .i64))] ++ D2)) ∧ Chg (Within B Eb) w w') ⟨(HO.out.mset HL.out 5 (x := .int .i64 serial) rfl _).1, HG.out.trans (HO.out.mset HL.out 5 (x := .int .i64 serial) rfl _).2⟩ ?_
        clear HO HG
        clear c5 f5
        rintro w15 ⟨ho, hg⟩
        have c6 : w15.cell? ⟨g, j * 18 + 6, none⟩ = some (.int .i64 pc) := ho.mval HL.out 6 rfl (by omega)
        have f6 : w15.frozen? ⟨g, j * 18 + 6, none⟩ = false := ho.mfrz _
        have HO := Lib.hid ho
        have HG := Lib.hid hg
        clear ho hg
        go_upto_region 17 with fail
        refine wp_gen (fun w' => OwnX 86 18 n w' B Eb (.slice (some ⟨g, 0, none⟩) n cap) (D1 ++ ([.val (.bool (((kk) % 3 == 0))), .val (.int .i64 (kk + 1)), .val (.string (markV (kk + 1 + 1))), .val (.int .i64 (kk + 1 + 1 + 1)), .val (.int .i64 (kk + 1 + 1 + 1 + 1)), .val (.int .i64 (kk + 1 + 1 + 1 + 1 + 1)), .val (.int .i64 (kk + 1 + 1 + 1 + 1 + 1 + 1)), .val (.int .i64 k), .val (.int .i64 slot), .val (.int .i64 what), .val (.int .i64 e), .val (.int .i64 stamp), .val (.int .i64 old), .val (.int .i64 flips), .val (.int .i64 steps), .val (.int .i64 code), .row 3 1 keys.length (keys.map (Value.int .i64)), .row 3 1 raw.length (raw.map (Value.int .i64))] ++ D2)) ∧ Chg (Within B Eb) w w') ⟨(HO.out.mset HL.out 6 (x := .int .i64 pc) rfl _).1, HG.out.trans (HO.out.mset HL.out 6 (x := .int .i64 pc) rfl _).2⟩ ?_
        clear HO HG
        clear c6 f6
        rintro w16 ⟨ho, hg⟩
        have c7 : w16.cell? ⟨g, j * 18 + 7, none⟩ = some (.int .i64 k) := ho.mval HL.out 7 rfl (by omega)
        have f7 : w16.frozen? ⟨g, j * 18 + 7, none⟩ = false := ho.mfrz _
        have HO := Lib.hid ho
        have HG := Lib.hid hg
        clear ho hg
        go_upto_region 19 with fail
        refine wp_gen (fun w' => OwnX 86 18 n w' B Eb (.slice (some ⟨g, 0, none⟩) n cap) (D1 ++ ([.val (.bool (((kk) % 3 == 0))), .val (.int .i64 (kk + 1)), .val (.string (markV (kk + 1 + 1))), .val (.int .i64 (kk + 1 + 1 + 1)), .val (.int .i64 (kk + 1 + 1 + 1 + 1)), .val (.int .i64 (kk + 1 + 1 + 1 + 1 + 1)), .val (.int .i64 (kk + 1 + 1 + 1 + 1 + 1 + 1)), .val (.int .i64 (kk + 1 + 1 + 1 + 1 + 1 + 1 + 1)), .val (.int .i64 slot), .val (.int .i64 what), .val (.int .i64 e), .val (.int .i64 stamp), .val (.int .i64 old), .val (.int .i64 flips), .val (.int .i64 steps), .val (.int .i64 code), .row 3 1 keys.length (keys.map (Value.int .i64)), .row 3 1 raw.length (raw.map (Value.int .i64))] ++ D2)) ∧ Chg (Within B Eb) w w') ⟨(HO.out.mset HL.out 7 (x := .int .i64 k) rfl _).1, HG.out.trans (HO.out.mset HL.out 7 (x := .int .i64 k) rfl _).2⟩ ?_
        clear HO HG
        clear c7 f7
        rintro w17 ⟨ho, hg⟩
        have c8 : w17.cell? ⟨g, j * 18 + 8, none⟩ = some (.int .i64 slot) := ho.mval HL.out 8 rfl (by omega)
        have f8 : w17.frozen? ⟨g, j * 18 + 8, none⟩ = false := ho.mfrz _
        have HO := Lib.hid ho
        have HG := Lib.hid hg
        clear ho hg
        go_upto_region 21 with fail
        refine wp_gen (fun w' => OwnX 86 18 n w' B Eb (.slice (some ⟨g, 0, none⟩) n cap) (D1 ++ ([.val (.bool (((kk) % 3 == 0))), .val (.int .i64 (kk + 1)), .val (.string (markV (kk + 1 + 1))), .val (.int .i64 (kk + 1 + 1 + 1)), .val (.int .i64 (kk + 1 + 1 + 1 + 1)), .val (.int .i64 (kk + 1 + 1 + 1 + 1 + 1)), .val (.int .i64 (kk + 1 + 1 + 1 + 1 + 1 + 1)), .val (.int .i64 (kk + 1 + 1 + 1 + 1 + 1 + 1 + 1)), .val (.int .i64 (kk + 1 + 1 + 1 + 1 + 1 + 1 + 1 + 1)), .val (.int .i64 what), .val (.int .i64 e), .val (.int .i64 stamp), .val (.int .i64 old), .val (.int .i64 flips), .val (.int .i64 steps), .val (.int .i64 code), .row 3 1 keys.length (keys.map (Value.int .i64)), .row 3 1 raw.length (raw.map (Value.int .i64))] ++ D2)) ∧ Chg (Within B Eb) w w') ⟨(HO.out.mset HL.out 8 (x := .int .i64 slot) rfl _).1, HG.out.trans (HO.out.mset HL.out 8 (x := .int .i64 slot) rfl _).2⟩ ?_
        clear HO HG
        clear c8 f8
        rintro w18 ⟨ho, hg⟩
        have c9 : w18.cell? ⟨g, j * 18 + 9, none⟩ = some (.int .i64 what) := ho.mval HL.out 9 rfl (by omega)
        have f9 : w18.frozen? ⟨g, j * 18 + 9, none⟩ = false := ho.mfrz _
        have HO := Lib.hid ho
        have HG := Lib.hid hg
        clear ho hg
        go_upto_region 23 with fail
        refine wp_gen (fun w' => OwnX 86 18 n w' B Eb (.slice (some ⟨g, 0, none⟩) n cap) (D1 ++ ([.val (.bool (((kk) % 3 == 0))), .val (.int .i64 (kk + 1)), .val (.string (markV (kk + 1 + 1))), .val (.int .i64 (kk + 1 + 1 + 1)), .val (.int .i64 (kk + 1 + 1 + 1 + 1)), .val (.int .i64 (kk + 1 + 1 + 1 + 1 + 1)), .val (.int .i64 (kk + 1 + 1 + 1 + 1 + 1 + 1)), .val (.int .i64 (kk + 1 + 1 + 1 + 1 + 1 + 1 + 1)), .val (.int .i64 (kk + 1 + 1 + 1 + 1 + 1 + 1 + 1 + 1)), .val (.int .i64 (kk + 1 + 1 + 1 + 1 + 1 + 1 + 1 + 1 + 1)), .val (.int .i64 e), .val (.int .i64 stamp), .val (.int .i64 old), .val (.int .i64 flips), .val (.int .i64 steps), .val (.int .i64 code), .row 3 1 keys.length (keys.map (Value.int .i64)), .row 3 1 raw.length (raw.map (Value.int .i64))] ++ D2)) ∧ Chg (Within B Eb) w w') ⟨(HO.out.mset HL.out 9 (x := .int .i64 what) rfl _).1, HG.out.trans (HO.out.mset HL.out 9 (x := .int .i64 what) rfl _).2⟩ ?_
        clear HO HG
        clear c9 f9
        rintro w19 ⟨ho, hg⟩
        have c10 : w19.cell? ⟨g, j * 18 + 10, none⟩ = some (.int .i64 e) := ho.mval HL.out 10 rfl (by omega)
        have f10 : w19.frozen? ⟨g, j * 18 + 10, none⟩ = false := ho.mfrz _
        have HO := Lib.hid ho
        have HG := Lib.hid hg
        clear ho hg
        go_upto_region 25 with fail
        refine wp_gen (fun w' => OwnX 86 18 n w' B Eb (.slice (some ⟨g, 0, none⟩) n cap) (D1 ++ ([.val (.bool (((kk) % 3 == 0))), .val (.int .i64 (kk + 1)), .val (.string (markV (kk + 1 + 1))), .val (.int .i64 (kk + 1 + 1 + 1)), .val (.int .i64 (kk + 1 + 1 + 1 + 1)), .val (.int .i64 (kk + 1 + 1 + 1 + 1 + 1)), .val (.int .i64 (kk + 1 + 1 + 1 + 1 + 1 + 1)), .val (.int .i64 (kk + 1 + 1 + 1 + 1 + 1 + 1 + 1)), .val (.int .i64 (kk + 1 + 1 + 1 + 1 + 1 + 1 + 1 + 1)), .val (.int .i64 (kk + 1 + 1 + 1 + 1 + 1 + 1 + 1 + 1 + 1)), .val (.int .i64 (kk + 1 + 1 + 1 + 1 + 1 + 1 + 1 + 1 + 1 + 1)), .val (.int .i64 stamp), .val (.int .i64 old), .val (.int .i64 flips), .val (.int .i64 steps), .val (.int .i64 code), .row 3 1 keys.length (keys.map (Value.int .i64)), .row 3 1 raw.length (raw.map (Value.int .i64))] ++ D2)) ∧ Chg (Within B Eb) w w') ⟨(HO.out.mset HL.out 10 (x := .int .i64 e) rfl _).1, HG.out.trans (HO.out.mset HL.out 10 (x := .int .i64 e) rfl _).2⟩ ?_
        clear HO HG
        clear c10 f10
        rintro w20 ⟨ho, hg⟩
        have c11 : w20.cell? ⟨g, j * 18 + 11, none⟩ = some (.int .i64 stamp) := ho.mval HL.out 11 rfl (by omega)
        have f11 : w20.frozen? ⟨g, j * 18 + 11, none⟩ = false := ho.mfrz _
        have HO := Lib.hid ho
        have HG := Lib.hid hg
        clear ho hg
        go_upto_region 27 with fail
        refine wp_gen (fun w' => OwnX 86 18 n w' B Eb (.slice (some ⟨g, 0, none⟩) n cap) (D1 ++ ([.val (.bool (((kk) % 3 == 0))), .val (.int .i64 (kk + 1)), .val (.string (markV (kk + 1 + 1))), .val (.int .i64 (kk + 1 + 1 + 1)), .val (.int .i64 (kk + 1 + 1 + 1 + 1)), .val (.int .i64 (kk + 1 + 1 + 1 + 1 + 1)), .val (.int .i64 (kk + 1 + 1 + 1 + 1 + 1 + 1)), .val (.int .i64 (kk + 1 + 1 + 1 + 1 + 1 + 1 + 1)), .val (.int .i64 (kk + 1 + 1 + 1 + 1 + 1 + 1 + 1 + 1)), .val (.int .i64 (kk + 1 + 1 + 1 + 1 + 1 + 1 + 1 + 1 + 1)), .val (.int .i64 (kk + 1 + 1 + 1 + 1 + 1 + 1 + 1 + 1 + 1 + 1)), .val (.int .i64 (kk + 1 + 1 + 1 + 1 + 1 + 1 + 1 + 1 + 1 + 1 + 1)), .val (.int .i64 old), .val (.int .i64 flips), .val (.int .i64 steps), .val (.int .i64 code), .row 3 1 keys.length (keys.map (Value.int .i64)), .row 3 1 raw.length (raw.map (Value.int .i64))] ++ D2)) ∧ Chg (Within B Eb) w w') ⟨(HO.out.mset HL.out 11 (x := .int .i64 stamp) rfl _).1, HG.out.trans (HO.out.mset HL.out 11 (x := .int .i64 stamp) rfl _).2⟩ ?_
        clear HO HG
        clear c11 f11
        rintro w21 ⟨ho, hg⟩
        have c12 : w21.cell? ⟨g, j * 18 + 12, none⟩ = some (.int .i64 old) := ho.mval HL.out 12 rfl (by omega)
        have f12 : w21.frozen? ⟨g, j * 18 + 12, none⟩ = false := ho.mfrz _
        have HO := Lib.hid ho
        have HG := Lib.hid hg
        clear ho hg
        go_upto_region 29 with fail
        refine wp_gen (fun w' => OwnX 86 18 n w' B Eb (.slice (some ⟨g, 0, none⟩) n cap) (D1 ++ ([.val (.bool (((kk) % 3 == 0))), .val (.int .i64 (kk + 1)), .val (.string (markV (kk + 1 + 1))), .val (.int .i64 (kk + 1 + 1 + 1)), .val (.int .i64 (kk + 1 + 1 + 1 + 1)), .val (.int .i64 (kk + 1 + 1 + 1 + 1 + 1)), .val (.int .i64 (kk + 1 + 1 + 1 + 1 + 1 + 1)), .val (.int .i64 (kk + 1 + 1 + 1 + 1 + 1 + 1 + 1)), .val (.int .i64 (kk + 1 + 1 + 1 + 1 + 1 + 1 + 1 + 1)), .val (.int .i64 (kk + 1 + 1 + 1 + 1 + 1 + 1 + 1 + 1 + 1)), .val (.int .i64 (kk + 1 + 1 + 1 + 1 + 1 + 1 + 1 + 1 + 1 + 1)), .val (.int .i64 (kk + 1 + 1 + 1 + 1 + 1 + 1 + 1 + 1 + 1 + 1 + 1)), .val (.int .i64 (kk + 1 + 1 + 1 + 1 + 1 + 1 + 1 + 1 + 1 + 1 + 1 + 1)), .val (.int .i64 flips), .val (.int .i64 steps), .val (.int .i64 code), .row 3 1 keys.length (keys.map (Value.int .i64)), .row 3 1 raw.length (raw.map (Value.int .i64))] ++ D2)) ∧ Chg (Within B Eb) w w') ⟨(HO.out.mset HL.out 12 (x := .int .i64 old) rfl _).1, HG.out.trans (HO.out.mset HL.out 12 (x := .int .i64 old) rfl _).2⟩ ?_
        clear HO HG
        clear c12 f12
        rintro w22 ⟨ho, hg⟩
        have c13 : w22.cell? ⟨g, j * 18 + 13, none⟩ = some (.int .i64 flips) := ho.mval HL.out 13 rfl (by omega)
        have f13 : w22.frozen? ⟨g, j * 18 + 13, none⟩ = false := ho.mfrz _
        have HO := Lib.hid ho
        have HG := Lib.hid hg
        clear ho hg
        go_upto_region 31 with fail
        refine wp_gen (fun w' => OwnX 86 18 n w' B Eb (.slice (some ⟨g, 0, none⟩) n cap) (D1 ++ ([.val (.bool (((kk) % 3 == 0))), .val (.int .i64 (kk + 1)), .val (.string (markV (kk + 1 + 1))), .val (.int .i64 (kk + 1 + 1 + 1)), .val (.int .i64 (kk + 1 + 1 + 1 + 1)), .val (.int .i64 (kk + 1 + 1 + 1 + 1 + 1)), .val (.int .i64 (kk + 1 + 1 + 1 + 1 + 1 + 1)), .val (.int .i64 (kk + 1 + 1 + 1 + 1 + 1 + 1 + 1)), .val (.int .i64 (kk + 1 + 1 + 1 + 1 + 1 + 1 + 1 + 1)), .val (.int .i64 (kk + 1 + 1 + 1 + 1 + 1 + 1 + 1 + 1 + 1)), .val (.int .i64 (kk + 1 + 1 + 1 + 1 + 1 + 1 + 1 + 1 + 1 + 1)), .val (.int .i64 (kk + 1 + 1 + 1 + 1 + 1 + 1 + 1 + 1 + 1 + 1 + 1)), .val (.int .i64 (kk + 1 + 1 + 1 + 1 + 1 + 1 + 1 + 1 + 1 + 1 + 1 + 1)), .val (.int .i64 (kk + 1 + 1 + 1 + 1 + 1 + 1 + 1 + 1 + 1 + 1 + 1 + 1 + 1)), .val (.int .i64 steps), .val (.int .i64 code), .row 3 1 keys.length (keys.map (Value.int .i64)), .row 3 1 raw.length (raw.map (Value.int .i64))] ++ D2)) ∧ Chg (Within B Eb) w w') ⟨(HO.out.mset HL.out 13 (x := .int .i64 flips) rfl _).1, HG.out.trans (HO.out.mset HL.out 13 (x := .int .i64 flips) rfl _).2⟩ ?_
        clear HO HG
        clear c13 f13
        rintro w23 ⟨ho, hg⟩
        have c14 : w23.cell? ⟨g, j * 18 + 14, none⟩ = some (.int .i64 steps) := ho.mval HL.out 14 rfl (by omega)
        have f14 : w23.frozen? ⟨g, j * 18 + 14, none⟩ = false := ho.mfrz _
        have HO := Lib.hid ho
        have HG := Lib.hid hg
        clear ho hg
        go_upto_region 33 with fail
        refine wp_gen (fun w' => OwnX 86 18 n w' B Eb (.slice (some ⟨g, 0, none⟩) n cap) (D1 ++ ([.val (.bool (((kk) % 3 == 0))), .val (.int .i64 (kk + 1)), .val (.string (markV (kk + 1 + 1))), .val (.int .i64 (kk + 1 + 1 + 1)), .val (.int .i64 (kk + 1 + 1 + 1 + 1)), .val (.int .i64 (kk + 1 + 1 + 1 + 1 + 1)), .val (.int .i64 (kk + 1 + 1 + 1 + 1 + 1 + 1)), .val (.int .i64 (kk + 1 + 1 + 1 + 1 + 1 + 1 + 1)), .val (.int .i64 (kk + 1 + 1 + 1 + 1 + 1 + 1 + 1 + 1)), .val (.int .i64 (kk + 1 + 1 + 1 + 1 + 1 + 1 + 1 + 1 + 1)), .val (.int .i64 (kk + 1 + 1 + 1 + 1 + 1 + 1 + 1 + 1 + 1 + 1)), .val (.int .i64 (kk + 1 + 1 + 1 + 1 + 1 + 1 + 1 + 1 + 1 + 1 + 1)), .val (.int .i64 (kk + 1 + 1 + 1 + 1 + 1 + 1 + 1 + 1 + 1 + 1 + 1 + 1)), .val (.int .i64 (kk + 1 + 1 + 1 + 1 + 1 + 1 + 1 + 1 + 1 + 1 + 1 + 1 + 1)), .val (.int .i64 (kk + 1 + 1 + 1 + 1 + 1 + 1 + 1 + 1 + 1 + 1 + 1 + 1 + 1 + 1)), .val (.int .i64 code), .row 3 1 keys.length (keys.map (Value.int .i64)), .row 3 1 raw.length (raw.map (Value.int .i64))] ++ D2)) ∧ Chg (Within B Eb) w w') ⟨(HO.out.mset HL.out 14 (x := .int .i64 steps) rfl _).1, HG.out.trans (HO.out.mset HL.out 14 (x := .int .i64 steps) rfl _).2⟩ ?_
        clear HO HG
        clear c14 f14
        rintro w24 ⟨ho, hg⟩
        have c15 : w24.cell? ⟨g, j * 18 + 15, none⟩ = some (.int .i64 code) := ho.mval HL.out 15 rfl (by omega)
        have f15 : w24.frozen? ⟨g, j * 18 + 15, none⟩ = false := ho.mfrz _
        have HO := Lib.hid ho
        have HG := Lib.hid hg
        clear ho hg
        go_upto_region 35 with fail
        refine wp_gen (fun w' => OwnX 86 18 n w' B Eb (.slice (some ⟨g, 0, none⟩) n cap) (D1 ++ ([.val (.bool (((kk) % 3 == 0))), .val (.int .i64 (kk + 1)), .val (.string (markV (kk + 1 + 1))), .val (.int .i64 (kk + 1 + 1 + 1)), .val (.int .i64 (kk + 1 + 1 + 1 + 1)), .val (.int .i64 (kk + 1 + 1 + 1 + 1 + 1)), .val (.int .i64 (kk + 1 + 1 + 1 + 1 + 1 + 1)), .val (.int .i64 (kk + 1 + 1 + 1 + 1 + 1 + 1 + 1)), .val (.int .i64 (kk + 1 + 1 + 1 + 1 + 1 + 1 + 1 + 1)), .val (.int .i64 (kk + 1 + 1 + 1 + 1 + 1 + 1 + 1 + 1 + 1)), .val (.int .i64 (kk + 1 + 1 + 1 + 1 + 1 + 1 + 1 + 1 + 1 + 1)), .val (.int .i64 (kk + 1 + 1 + 1 + 1 + 1 + 1 + 1 + 1 + 1 + 1 + 1)), .val (.int .i64 (kk + 1 + 1 + 1 + 1 + 1 + 1 + 1 + 1 + 1 + 1 + 1 + 1)), .val (.int .i64 (kk + 1 + 1 + 1 + 1 + 1 + 1 + 1 + 1 + 1 + 1 + 1 + 1 + 1)), .val (.int .i64 (kk + 1 + 1 + 1 + 1 + 1 + 1 + 1 + 1 + 1 + 1 + 1 + 1 + 1 + 1)), .val (.int .i64 (kk + 1 + 1 + 1 + 1 + 1 + 1 + 1 + 1 + 1 + 1 + 1 + 1 + 1 + 1 + 1)), .row 3 1 keys.length (keys.map (Value.int .i64)), .row 3 1 raw.length (raw.map (Value.int .i64))] ++ D2)) ∧ Chg (Within B Eb) w w') ⟨(HO.out.mset HL.out 15 (x := .int .i64 code) rfl _).1, HG.out.trans (HO.out.mset HL.out 15 (x := .int .i64 code) rfl _).2⟩ ?_
        clear HO HG
        clear c15 f15
        rintro w25 ⟨ho, hg⟩
        obtain ⟨ukeys, hckeys, hrkeys, hkkeys⟩ := ho.mrow HL.out 16 rfl (by omega)
        have c16 : w25.cell? ⟨g, j * 18 + 16, none⟩ = some ukeys := hckeys
        have HO := Lib.hid ho
        have HG := Lib.hid hg
        have HC0 := Lib.hid hckeys
        have HK0 := Lib.hid hkkeys
        have HMI := Lib.hid (markIntN_any w25 B ukeys keys (kk + 1 + 1 + 1 + 1 + 1 + 1 + 1 + 1 + 1 + 1 + 1 + 1 + 1 + 1 + 1 + 1) hrkeys (by omega) (by omega) (by omega))
        clear ho hg hrkeys hckeys hkkeys
        go_wp2_with fail
        refine HMI.out.mono ?_
        rintro e v0 ⟨rfl, hm, hgr⟩
        have ho : OwnX 86 18 n v0 B Eb (.slice (some ⟨g, 0, none⟩) n cap) (D1 ++ ([.val (.bool (((kk) % 3 == 0))), .val (.int .i64 (kk + 1)), .val (.string (markV (kk + 1 + 1))), .val (.int .i64 (kk + 1 + 1 + 1)), .val (.int .i64 (kk + 1 + 1 + 1 + 1)), .val (.int .i64 (kk + 1 + 1 + 1 + 1 + 1)), .val (.int .i64 (kk + 1 + 1 + 1 + 1 + 1 + 1)), .val (.int .i64 (kk + 1 + 1 + 1 + 1 + 1 + 1 + 1)), .val (.int .i64 (kk + 1 + 1 + 1 + 1 + 1 + 1 + 1 + 1)), .val (.int .i64 (kk + 1 + 1 + 1 + 1 + 1 + 1 + 1 + 1 + 1)), .val (.int .i64 (kk + 1 + 1 + 1 + 1 + 1 + 1 + 1 + 1 + 1 + 1)), .val (.int .i64 (kk + 1 + 1 + 1 + 1 + 1 + 1 + 1 + 1 + 1 + 1 + 1)), .val (.int .i64 (kk + 1 + 1 + 1 + 1 + 1 + 1 + 1 + 1 + 1 + 1 + 1 + 1)), .val (.int .i64 (kk + 1 + 1 + 1 + 1 + 1 + 1 + 1 + 1 + 1 + 1 + 1 + 1 + 1)), .val (.int .i64 (kk + 1 + 1 + 1 + 1 + 1 + 1 + 1 + 1 + 1 + 1 + 1 + 1 + 1 + 1)), .val (.int .i64 (kk + 1 + 1 + 1 + 1 + 1 + 1 + 1 + 1 + 1 + 1 + 1 + 1 + 1 + 1 + 1)), .row 3 1 keys.length ((marks (kk + 1 + 1 + 1 + 1 + 1 + 1 + 1 + 1 + 1 + 1 + 1 + 1 + 1 + 1 + 1 + 1) keys.length).map (Value.int .i64)), .row 3 1 raw.length (raw.map (Value.int .i64))] ++ D2)) := (HO.out.mturn HL.out 16 rfl (by omega) HC0.out hgr hm HK0.out).1
        have hg := HG.out.trans (HO.out.mturn HL.out 16 rfl (by omega) HC0.out hgr hm HK0.out).2
        clear HO HG HC0 HK0 HMI hm hgr c16
        obtain ⟨uraw, hcraw, hrraw, hkraw⟩ := ho.mrow HL.out 17 rfl (by omega)
        have c17 : v0.cell? ⟨g, j * 18 + 17, none⟩ = some uraw := hcraw
        have HO := Lib.hid ho
        have HG := Lib.hid hg
        have HC1 := Lib.hid hcraw
        have HK1 := Lib.hid hkraw
        have HMI := Lib.hid (markIntN_any v0 B uraw raw (kk + 1 + 1 + 1 + 1 + 1 + 1 + 1 + 1 + 1 + 1 + 1 + 1 + 1 + 1 + 1 + 1 + (keys.length : Int)) hrraw (by omega) (by omega) (by omega))
        clear ho hg hrraw hcraw hkraw
        go_wp2_with fail
        refine HMI.out.mono ?_
        rintro e v1 ⟨rfl, hm, hgr⟩
        have ho : OwnX 86 18 n v1 B Eb (.slice (some ⟨g, 0, none⟩) n cap) (D1 ++ ([.val (.bool (((kk) % 3 == 0))), .val (.int .i64 (kk + 1)), .val (.string (markV (kk + 1 + 1))), .val (.int .i64 (kk + 1 + 1 + 1)), .val (.int .i64 (kk + 1 + 1 + 1 + 1)), .val (.int .i64 (kk + 1 + 1 + 1 + 1 + 1)), .val (.int .i64 (kk + 1 + 1 + 1 + 1 + 1 + 1)), .val (.int .i64 (kk + 1 + 1 + 1 + 1 + 1 + 1 + 1)), .val (.int .i64 (kk + 1 + 1 + 1 + 1 + 1 + 1 + 1 + 1)), .val (.int .i64 (kk + 1 + 1 + 1 + 1 + 1 + 1 + 1 + 1 + 1)), .val (.int .i64 (kk + 1 + 1 + 1 + 1 + 1 + 1 + 1 + 1 + 1 + 1)), .val (.int .i64 (kk + 1 + 1 + 1 + 1 + 1 + 1 + 1 + 1 + 1 + 1 + 1)), .val (.int .i64 (kk + 1 + 1 + 1 + 1 + 1 + 1 + 1 + 1 + 1 + 1 + 1 + 1)), .val (.int .i64 (kk + 1 + 1 + 1 + 1 + 1 + 1 + 1 + 1 + 1 + 1 + 1 + 1 + 1)), .val (.int .i64 (kk + 1 + 1 + 1 + 1 + 1 + 1 + 1 + 1 + 1 + 1 + 1 + 1 + 1 + 1)), .val (.int .i64 (kk + 1 + 1 + 1 + 1 + 1 + 1 + 1 + 1 + 1 + 1 + 1 + 1 + 1 + 1 + 1)), .row 3 1 keys.length ((marks (kk + 1 + 1 + 1 + 1 + 1 + 1 + 1 + 1 + 1 + 1 + 1 + 1 + 1 + 1 + 1 + 1) keys.length).map (Value.int .i64)), .row 3 1 raw.length ((marks (kk + 1 + 1 + 1 + 1 + 1 + 1 + 1 + 1 + 1 + 1 + 1 + 1 + 1 + 1 + 1 + 1 + (keys.length : Int)) raw.length).map (Value.int .i64))] ++ D2)) := (HO.out.mturn HL.out 17 rfl (by omega) HC1.out hgr hm HK1.out).1
        have hg := HG.out.trans (HO.out.mturn HL.out 17 rfl (by omega) HC1.out hgr hm HK1.out).2
        clear HO HG HC1 HK1 HMI hm hgr c17
        have HO := Lib.hid ho
        have HG := Lib.hid hg
        clear ho hg his
        go_wp2_with fail
        go_roundw
        case rel =>
          refine ⟨j + 1, by omega, by go_num, ?_, ?_, HG.out⟩
          · rw [HED.out]
            unfold endJob
            go_num
          · rw [HND.out]
            have h2 := HO.out
            unfold jobDat markJob
            simp only [Int.add_assoc, Int.reduceAdd, marks_length] at h2 ⊢
            exact h2
        case measure => simp [intOf]; omega
      · have hjn : j = n := by omega
        subst hjn
        have HO := Lib.hid ho
        have HG := Lib.hid hg
        clear ho hg
        go_wp2_with fail
        go_ret
        refine ⟨by rw [HEA.out]; rfl, ?_, HG.out⟩
        unfold OwnY
        rw [HFL.out, ← HFI.out]
        exact HO.out
theorem markJobL_getD (k : Int) (l : List J) (j : Nat) (hj : j < l.length) : (markJobL k l).getD j zeroJ = markJob (endJobL k (l.take j)) (l.getD j zeroJ) := by
  have e : markJobL k l = markJobL k (l.take (j + 1)) ++ markJobL (endJobL k (l.take (j + 1))) (l.drop (j + 1)) := by
    have : ∀ (k : Int) (a b : List J), markJobL k (a ++ b) = markJobL k a ++ markJobL (endJobL k a) b := by
      intro k a b
      induction a generalizing k with
      | nil => rfl
      | cons q rs ih => simp [markJobL, endJobL, ih]
    rw [← this, List.take_append_drop]
  have hl : (markJobL k (l.take j)).length = j := by rw [markJobL_length, List.length_take]; omega
  rw [e, take_snocJob l j hj, markJobL_snoc, List.getD_eq_getElem?_getD, List.append_assoc, List.getElem?_append_right (by omega), hl, Nat.sub_self]
  rfl
end Go.Proofs.Ytcfdnfckilpppaa

/-
  The exact laws' marks on rows of the record Ev, and the look whether they are held.
-/
import Derived.Test.YtcfdnfckilpppaaZb
import Derived.Test.YtcfdnfckilpppaaZd
import Derived.Test.YtcfdnfckilpppaaZa
import Derived.Test.YtcfdnfckilpppaaRowK
namespace Go.Proofs.Ytcfdnfckilpppaa
open Go.RowKit M
set_option linter.unusedVariables false
set_option linter.unusedSimpArgs false
/-- A record marked from k on; where the count stands behind it. -/
def markEv (k : Int) (r : E) : E := ⟨k, k + 1, k + 2, k + 3, ⟨k + 4, markV (k + 5), k + 6, k + 7⟩, k + 8, k + 9, k + 10, k + 11, marksRow (k + 12) r.rows.length⟩
def endEv (k : Int) (r : E) : Int := k + 12 + (10 * (r.rows.length : Int) : Int)
def markEvL : Int → List E → List E
  | _, [] => []
  | k, r :: rs => markEv k r :: markEvL (endEv k r) rs
def endEvL : Int → List E → Int
  | k, [] => k
  | k, r :: rs => endEvL (endEv k r) rs
theorem markEvL_length (k : Int) (l : List E) : (markEvL k l).length = l.length := by
  induction l generalizing k with
  | nil => rfl
  | cons r rs ih => simp [markEvL, ih]
theorem markEvL_snoc (k : Int) (l : List E) (r : E) : markEvL k (l ++ [r]) = markEvL k l ++ [markEv (endEvL k l) r] := by
  induction l generalizing k with
  | nil => rfl
  | cons q rs ih => simp [markEvL, endEvL, ih]
theorem endEvL_snoc (k : Int) (l : List E) (r : E) : endEvL k (l ++ [r]) = endEv (endEvL k l) r := by
  induction l generalizing k with
  | nil => rfl
  | cons q rs ih => simp [endEvL, ih]
theorem endEv_le (k : Int) (r : E) : k ≤ endEv k r := by unfold endEv; omega
theorem endEvL_le (k : Int) (l : List E) : k ≤ endEvL k l := by
  induction l generalizing k with
  | nil => exact Int.le_refl _
  | cons q rs ih => exact Int.le_trans (endEv_le k q) (ih _)
theorem endEvL_append (k : Int) (l m : List E) : endEvL k (l ++ m) = endEvL (endEvL k l) m := by
  induction l generalizing k with
  | nil => rfl
  | cons q rs ih => exact ih _
theorem endEvL_take (k : Int) (l : List E) (j : Nat) : k ≤ endEvL k (l.take j) ∧ endEvL k (l.take j) ≤ endEvL k l := by
  refine ⟨endEvL_le _ _, ?_⟩
  have e : endEvL k l = endEvL (endEvL k (l.take j)) (l.drop j) := by rw [← endEvL_append, List.take_append_drop]
  rw [e]
  exact endEvL_le _ _
theorem take_snocEv (l : List E) (j : Nat) (hj : j < l.length) : l.take (j + 1) = l.take j ++ [l.getD j zeroE] := by
  rw [List.take_add_one, List.getD_eq_getElem?_getD, List.getElem?_eq_getElem hj]; rfl
theorem drop_consEv (l : List E) (j : Nat) (hj : j < l.length) : l.drop j = l.getD j zeroE :: l.drop (j + 1) := by
  rw [List.drop_eq_getElem_cons hj, List.getD_eq_getElem?_getD, List.getElem?_eq_getElem hj]; rfl
/-- The cells while j records are marked. -/
def partEv (k : Int) (l : List E) (j : Nat) : List Dat := datL evDat (markEvL k (l.take j)) ++ datL evDat (l.drop j)
theorem partEv_now (k : Int) (l : List E) (j : Nat) (hj : j < l.length) : partEv k l j = datL evDat (markEvL k (l.take j)) ++ (evDat (l.getD j zeroE) ++ datL evDat (l.drop (j + 1))) := by
  unfold partEv
  rw [drop_consEv l j hj]; rfl
theorem partEv_next (k : Int) (l : List E) (j : Nat) (hj : j < l.length) : partEv k l (j + 1) = datL evDat (markEvL k (l.take j)) ++ (evDat (markEv (endEvL k (l.take j)) (l.getD j zeroE)) ++ datL evDat (l.drop (j + 1))) := by
  unfold partEv
  rw [take_snocEv l j hj, markEvL_snoc, datL_append, List.append_assoc]
  congr 1
theorem partEv_len (k : Int) (l : List E) (j : Nat) (hj : j ≤ l.length) : (datL evDat (markEvL k (l.take j))).length = j * 13 := by
  rw [datL_length evDat_len, markEvL_length, List.length_take, Nat.min_eq_left hj]
theorem partEv_zero (k : Int) (l : List E) : partEv k l 0 = datL evDat l := rfl
theorem partEv_all (k : Int) (l : List E) : partEv k l l.length = datL evDat (markEvL k l) := by
  unfold partEv
  rw [List.take_length, List.drop_length]
  simp [datL]
def MarkedEvS (w : World) (B Eb : Nat) (v : Value) (k : Int) (l : List E) (e : Ending) (w' : World) : Prop := e = .returned (.int .i64 (endEvL k l)) ∧ OwnY 56 13 evDat w' B Eb v (markEvL k l) ∧ Chg (Within B Eb) w w'
set_option maxRecDepth 100000 in
set_option maxHeartbeats 16000000 in
theorem markEvS_any (w : World) (B Eb : Nat) (v : Value) (l : List E) (k : Int) (h : OwnY 56 13 evDat w B Eb v l) (hl : l.length ≤ 1048576) (hs : ∀ j, j < l.length → (l.getD j zeroE).rows.length ≤ 1048576) (hk0 : 1 ≤ k) (hk1 : endEvL k l ≤ 900000000000) :
    Calls Try.prog 13 #[v, .int .i64 k] w (MarkedEvS w B Eb v k l) := by
  have h' : OwnX 56 13 l.length w B Eb v (datL evDat l) := h
  rcases h'.shape with ⟨rfl, h0⟩ | ⟨g, cap, rfl, hcn, hcm, _, _⟩
  · have hz : l = [] := List.length_eq_zero_iff.1 h0
    subst hz
    have HO := Lib.hid h
    clear h h' h0 hs
    go_enter Try.func13, Try.ntmps13
    go_wp2_with fail
    go_loopw [1, 5] (fun c i wr => i = .int .i64 0 ∧ c = .int .i64 k ∧ wr = w) (fun _ i _ => 0)
    case atStart => exact ⟨rfl, rfl, rfl⟩
    case round =>
      obtain ⟨rfl, rfl, rfl⟩ := hrel
      go_wp2_with fail
      go_ret
      exact ⟨rfl, HO.out, Chg.refl _ _⟩
  · have HNOW := Lib.hid (fun j (hj : j < l.length) => partEv_now k l j hj)
    have HNX := Lib.hid (fun j (hj : j < l.length) => partEv_next k l j hj)
    have HLN := Lib.hid (fun j (hj : j ≤ l.length) => partEv_len k l j hj)
    have HKS := Lib.hid (fun j => endEvL_take k l j)
    have HEN := Lib.hid (fun j (hj : j < l.length) => show endEvL k (l.take (j + 1)) = endEv (endEvL k (l.take j)) (l.getD j zeroE) by rw [take_snocEv l j hj, endEvL_snoc])
    have HIS := Lib.hid hs
    have HFI := Lib.hid (partEv_all k l)
    have HFL := Lib.hid (markEvL_length k l)
    have HEA := Lib.hid (show endEvL k (l.take l.length) = endEvL k l by rw [List.take_length])
    have HZ := Lib.hid (show OwnX 56 13 l.length w B Eb (.slice (some ⟨g, 0, none⟩) l.length cap) (partEv k l 0) from by rw [partEv_zero]; exact h')
    generalize l.length = n at *
    unfold maxLen at hcm
    clear h h' hs
    go_enter Try.func13, Try.ntmps13
    go_wp2_with fail
    go_loopw [1, 5] (fun c i wr => ∃ j : Nat, j ≤ n ∧ i = .int .i64 j ∧ c = .int .i64 (endEvL k (l.take j)) ∧ OwnX 56 13 n wr B Eb (.slice (some ⟨g, 0, none⟩) n cap) (partEv k l j) ∧ Chg (Within B Eb) w wr) (fun _ i _ => n - (intOf i).toNat)
    case atStart => exact ⟨0, Nat.zero_le _, rfl, rfl, HZ.out, Chg.refl _ _⟩
    case round =>
      obtain ⟨j, hj, rfl, rfl, ho, hg⟩ := hrel
      clear HZ
      by_cases hlt : j < n
      · have HND := Lib.hid (HNX.out j hlt)
        have HED := Lib.hid (HEN.out j hlt)
        have HL := Lib.hid (HLN.out j (Nat.le_of_lt hlt))
        have hkb := HKS.out j
        have his := HIS.out j hlt
        rw [HNOW.out j hlt] at ho
        generalize datL evDat (markEvL k (l.take j)) = D1 at *
        generalize datL evDat (l.drop (j + 1)) = D2 at *
        generalize endEvL k (l.take j) = kk at *
        generalize l.getD j zeroE = r at *
        clear HNOW HNX HLN HKS HEN HIS HFI HFL HEA
        obtain ⟨kind, who, serial, at_, ⟨okind, okey, owhat, oval⟩, code, win, steps, flips, rows⟩ := r
        unfold evDat at ho
        simp only at ho his
        have b0 : 1 ≤ kk := by omega
        have b1 : kk ≤ 900000000000 := by omega
        clear hkb
        have hjn : (j : Int) < (n : Int) := by omega
        have c0 : wr.cell? ⟨g, j * 13, none⟩ = some (.int .i64 kind) := ho.mval HL.out 0 rfl (by omega)
        have f0 : wr.frozen? ⟨g, j * 13, none⟩ = false := ho.mfrz _
        have HO := Lib.hid ho
        have HG := Lib.hid hg
        clear ho hg
        go_upto_region 5 with fail
        refine wp_gen (fun w' => OwnX 56 13 n w' B Eb (.slice (some ⟨g, 0, none⟩) n cap) (D1 ++ ([.val (.int .i64 (kk)), .val (.int .i64 who), .val (.int .i64 serial), .val (.int .i64 at_), .val (.int .i64 okind), .val (.string okey), .val (.int .i64 owhat), .val (.int .i64 oval), .val (.int .i64 code), .val (.int .i64 win), .val (.int .i64 steps), .val (.int .i64 flips), .row 62 10 rows.length (cellsR rows)] ++ D2)) ∧ Chg (Within B Eb) w w') ⟨(HO.out.mset HL.out 0 (x := .int .i64 kind) rfl _).1, HG.out.trans (HO.out.mset HL.out 0 (x := .int .i64 kind) rfl _).2⟩ ?_
        clear HO HG
        clear c0 f0
        rintro w10 ⟨ho, hg⟩
        have c1 : w10.cell? ⟨g, j * 13 + 1, none⟩ = some (.int .i64 who) := ho.mval HL.out 1 rfl (by omega)
        have f1 : w10.frozen? ⟨g, j * 13 + 1, none⟩ = false := ho.mfrz _
        have HO := Lib.hid ho
        have HG := Lib.hid hg
        clear ho hg
        go_upto_region 7 with fail
        refine wp_gen (fun w' => OwnX 56 13 n w' B Eb (.slice (some ⟨g, 0, none⟩) n cap) (D1 ++ ([.val (.int .i64 (kk)), .val (.int .i64 (kk + 1)), .val (.int .i64 serial), .val (.int .i64 at_), .val (.int .i64 okind), .val (.string okey), .val (.int .i64 owhat), .val (.int .i64 oval), .val (.int .i64 code), .val (.int .i64 win), .val (.int .i64 steps), .val (.int .i64 flips), .row 62 10 rows.length (cellsR rows)] ++ D2)) ∧ Chg (Within B Eb) w w') ⟨(HO.out.mset HL.out 1 (x := .int .i64 who) rfl _).1, HG.out.trans (HO.out.mset HL.out 1 (x := .int .i64 who) rfl _).2⟩ ?_
        clear HO HG
        clear c1 f1
        rintro w11 ⟨ho, hg⟩
        have c2 : w11.cell? ⟨g, j * 13 + 2, none⟩ = some (.int .i64 serial) := ho.mval HL.out 2 rfl (by omega)
        have f2 : w11.frozen? ⟨g, j * 13 + 2, none⟩ = false := ho.mfrz _
        have HO := Lib.hid ho
        have HG := Lib.hid hg
        clear ho hg
        go_upto_region 9 with fail
        refine wp_gen (fun w' => OwnX 56 13 n w' B Eb (.slice (some ⟨g, 0, none⟩) n cap) (D1 ++ ([.val (.int .i64 (kk)), .val (.int .i64 (kk + 1)), .val (.int .i64 (kk + 1 + 1)), .val (.int .i64 at_), .val (.int .i64 okind), .val (.string okey), .val (.int .i64 owhat), .val (.int .i64 oval), .val (.int .i64 code), .val (.int .i64 win), .val (.int .i64 steps), .val (.int .i64 flips), .row 62 10 rows.length (cellsR rows)] ++ D2)) ∧ Chg (Within B Eb) w w') ⟨(HO.out.mset HL.out 2 (x := .int .i64 serial) rfl _).1, HG.out.trans (HO.out.mset HL.out 2 (x := .int .i64 serial) rfl _).2⟩ ?_
        clear HO HG
        clear c2 f2
        rintro w12 ⟨ho, hg⟩
        have c3 : w12.cell? ⟨g, j * 13 + 3, none⟩ = some (.int .i64 at_) := ho.mval HL.out 3 rfl (by omega)
        have f3 : w12.frozen? ⟨g, j * 13 + 3, none⟩ = false := ho.mfrz _
        have HO := Lib.hid ho
        have HG := Lib.hid hg
        clear ho hg
        go_upto_region 11 with fail
        refine wp_gen (fun w' => OwnX 56 13 n w' B Eb (.slice (some ⟨g, 0, none⟩) n cap) (D1 ++ ([.val (.int .i64 (kk)), .val (.int .i64 (kk + 1)), .val (.int .i64 (kk + 1 + 1)), .val (.int .i64 (kk + 1 + 1 + 1)), .val (.int .i64 okind), .val (.string okey), .val (.int .i64 owhat), .val (.int .i64 oval), .val (.int .i64 code), .val (.int .i64 win), .val (.int .i64 steps), .val (.int .i64 flips), .row 62 10 rows.length (cellsR rows)] ++ D2)) ∧ Chg (Within B Eb) w w') ⟨(HO.out.mset HL.out 3 (x := .int .i64 at_) rfl _).1, HG.out.trans (HO.out.mset HL.out 3 (x := .int .i64 at_) rfl _).2⟩ ?_
        clear HO HG
        clear c3 f3
        rintro w13 ⟨ho, hg⟩
        have c4 : w13.cell? ⟨g, j * 13 + 4, none⟩ = some (.int .i64 okind) := ho.mval HL.out 4 rfl (by omega)
        have f4 : w13.frozen? ⟨g, j * 13 + 4, none⟩ = false := ho.mfrz _
        have HO := Lib.hid ho
        have HG := Lib.hid hg
        clear ho hg
        go_upto_region 13 with fail
        refine wp_gen (fun w' => OwnX 56 13 n w' B Eb (.slice (some ⟨g, 0, none⟩) n cap) (D1 ++ ([.val (.int .i64 (kk)), .val (.int .i64 (kk + 1)), .val (.int .i64 (kk + 1 + 1)), .val (.int .i64 (kk + 1 + 1 + 1)), .val (.int .i64 (kk + 1 + 1 + 1 + 1)), .val (.string okey), .val (.int .i64 owhat), .val (.int .i64 oval), .val (.int .i64 code), .val (.int .i64 win), .val (.int .i64 steps), .val (.int .i64 flips), .row 62 10 rows.length (cellsR rows)] ++ D2)) ∧ Chg (Within B Eb) w w') ⟨(HO.out.mset HL.out 4 (x := .int .i64 okind) rfl _).1, HG.out.trans (HO.out.mset HL.out 4 (x := .int .i64 okind) rfl _).2⟩ ?_
        clear HO HG
        clear c4 f4
        rintro w14 ⟨ho, hg⟩
        have HM5 := fun W => Lib.hid (markText_any (kk + 1 + 1 + 1 + 1 + 1) W (by omega) (by omega))
        have c5 : w14.cell? ⟨g, j * 13 + 5, none⟩ = some (.string okey) := ho.mval HL.out 5 rfl (by omega)
        have f5 : w14.frozen? ⟨g, j * 13 + 5, none⟩ = false := ho.mfrz _
        have HO := Lib.hid ho
        have HG := Lib.hid hg
        clear ho hg
        go_upto_region 15 with (go_at_call 39; (with_reducible refine Calls.mono (Hid.out (HM5 _)) ?_); rintro e w5 ⟨rfl, hb5⟩; have HB5 := Lib.hid hb5; clear hb5; have c5 : w5.cell? ⟨g, j * 13 + 5, none⟩ = some (.string okey) := (HO.out.below HB5.out).mval HL.out 5 rfl (by omega); have f5 : w5.frozen? ⟨g, j * 13 + 5, none⟩ = false := (HO.out.below HB5.out).mfrz _)
        have ho5 := HO.out.below HB5.out
        refine wp_gen (fun w' => OwnX 56 13 n w' B Eb (.slice (some ⟨g, 0, none⟩) n cap) (D1 ++ ([.val (.int .i64 (kk)), .val (.int .i64 (kk + 1)), .val (.int .i64 (kk + 1 + 1)), .val (.int .i64 (kk + 1 + 1 + 1)), .val (.int .i64 (kk + 1 + 1 + 1 + 1)), .val (.string (markV (kk + 1 + 1 + 1 + 1 + 1))), .val (.int .i64 owhat), .val (.int .i64 oval), .val (.int .i64 code), .val (.int .i64 win), .val (.int .i64 steps), .val (.int .i64 flips), .row 62 10 rows.length (cellsR rows)] ++ D2)) ∧ Chg (Within B Eb) w w') ⟨(ho5.mset HL.out 5 (x := .string okey) rfl _).1, (chg_below HG.out HB5.out).trans (ho5.mset HL.out 5 (x := .string okey) rfl _).2⟩ ?_
        clear ho5 HB5 HO HG HM5
        rintro w15 ⟨ho, hg⟩
        have c6 : w15.cell? ⟨g, j * 13 + 6, none⟩ = some (.int .i64 owhat) := ho.mval HL.out 6 rfl (by omega)
        have f6 : w15.frozen? ⟨g, j * 13 + 6, none⟩ = false := ho.mfrz _
        have HO := Lib.hid ho
        have HG := Lib.hid hg
        clear ho hg
        go_upto_region 17 with fail
        refine wp_gen (fun w' => OwnX 56 13 n w' B Eb (.slice (some ⟨g, 0, none⟩) n cap) (D1 ++ ([.val (.int .i64 (kk)), .val (.int .i64 (kk + 1)), .val (.int .i64 (kk + 1 + 1)), .val (.int .i64 (kk + 1 + 1 + 1)), .val (.int .i64 (kk + 1 + 1 + 1 + 1)), .val (.string (markV (kk + 1 + 1 + 1 + 1 + 1))), .val (.int .i64 (kk + 1 + 1 + 1 + 1 + 1 + 1)), .val (.int .i64 oval), .val (.int .i64 code), .val (.int .i64 win), .val (.int .i64 steps), .val (.int .i64 flips), .row 62 10 rows.length (cellsR rows)] ++ D2)) ∧ Chg (Within B Eb) w w') ⟨(HO.out.mset HL.out 6 (x := .int .i64 owhat) rfl _).1, HG.out.trans (HO.out.mset HL.out 6 (x := .int .i64 owhat) rfl _).2⟩ ?_
        clear HO HG
        clear c6 f6
        rintro w16 ⟨ho, hg⟩
        have c7 : w16.cell? ⟨g, j * 13 + 7, none⟩ = some (.int .i64 oval) := ho.mval HL.out 7 rfl (by omega)
        have f7 : w16.frozen? ⟨g, j * 13 + 7, none⟩ = false := ho.mfrz _
        have HO := Lib.hid ho
        have HG := Lib.hid hg
        clear ho hg
        go_upto_region 19 with fail
        refine wp_gen (fun w' => OwnX 56 13 n w' B Eb (.slice (some ⟨g, 0, none⟩) n cap) (D1 ++ ([.val (.int .i64 (kk)), .val (.int .i64 (kk + 1)), .val (.int .i64 (kk + 1 + 1)), .val (.int .i64 (kk + 1 + 1 + 1)), .val (.int .i64 (kk + 1 + 1 + 1 + 1)), .val (.string (markV (kk + 1 + 1 + 1 + 1 + 1))), .val (.int .i64 (kk + 1 + 1 + 1 + 1 + 1 + 1)), .val (.int .i64 (kk + 1 + 1 + 1 + 1 + 1 + 1 + 1)), .val (.int .i64 code), .val (.int .i64 win), .val (.int .i64 steps), .val (.int .i64 flips), .row 62 10 rows.length (cellsR rows)] ++ D2)) ∧ Chg (Within B Eb) w w') ⟨(HO.out.mset HL.out 7 (x := .int .i64 oval) rfl _).1, HG.out.trans (HO.out.mset HL.out 7 (x := .int .i64 oval) rfl _).2⟩ ?_
        clear HO HG
        clear c7 f7
        rintro w17 ⟨ho, hg⟩
        have c8 : w17.cell? ⟨g, j * 13 + 8, none⟩ = some (.int .i64 code) := ho.mval HL.out 8 rfl (by omega)
        have f8 : w17.frozen? ⟨g, j * 13 + 8, none⟩ = false := ho.mfrz _
        have HO := Lib.hid ho
        have HG := Lib.hid hg
        clear ho hg
        go_upto_region 21 with fail
        refine wp_gen (fun w' => OwnX 56 13 n w' B Eb (.slice (some ⟨g, 0, none⟩) n cap) (D1 ++ ([.val (.int .i64 (kk)), .val (.int .i64 (kk + 1)), .val (.int .i64 (kk + 1 + 1)), .val (.int .i64 (kk + 1 + 1 + 1)), .val (.int .i64 (kk + 1 + 1 + 1 + 1)), .val (.string (markV (kk + 1 + 1 + 1 + 1 + 1))), .val (.int .i64 (kk + 1 + 1 + 1 + 1 + 1 + 1)), .val (.int .i64 (kk + 1 + 1 + 1 + 1 + 1 + 1 + 1)), .val (.int .i64 (kk + 1 + 1 + 1 + 1 + 1 + 1 + 1 + 1)), .val (.int .i64 win), .val (.int .i64 steps), .val (.int .i64 flips), .row 62 10 rows.length (cellsR rows)] ++ D2)) ∧ Chg (Within B Eb) w w') ⟨(HO.out.mset HL.out 8 (x := .int .i64 code) rfl _).1, HG.out.trans (HO.out.mset HL.out 8 (x := .int .i64 code) rfl _).2⟩ ?_
        clear HO HG
        clear c8 f8
        rintro w18 ⟨ho, hg⟩
        have c9 : w18.cell? ⟨g, j * 13 + 9, none⟩ = some (.int .i64 win) := ho.mval HL.out 9 rfl (by omega)
        have f9 : w18.frozen? ⟨g, j * 13 + 9, none⟩ = false := ho.mfrz _
        have HO := Lib.hid ho
        have HG := Lib.hid hg
        clear ho hg
        go_upto_region 23 with fail
        refine wp_gen (fun w' => OwnX 56 13 n w' B Eb (.slice (some ⟨g, 0, none⟩) n cap) (D1 ++ ([.val (.int .i64 (kk)), .val (.int .i64 (kk + 1)), .val (.int .i64 (kk + 1 + 1)), .val (.int .i64 (kk + 1 + 1 + 1)), .val (.int .i64 (kk + 1 + 1 + 1 + 1)), .val (.string (markV (kk + 1 + 1 + 1 + 1 + 1))), .val (.int .i64 (kk + 1 + 1 + 1 + 1 + 1 + 1)), .val (.int .i64 (kk + 1 + 1 + 1 + 1 + 1 + 1 + 1)), .val (.int .i64 (kk + 1 + 1 + 1 + 1 + 1 + 1 + 1 + 1)), .val (.int .i64 (kk + 1 + 1 + 1 + 1 + 1 + 1 + 1 + 1 + 1)), .val (.int .i64 steps), .val (.int .i64 flips), .row 62 10 rows.length (cellsR rows)] ++ D2)) ∧ Chg (Within B Eb) w w') ⟨(HO.out.mset HL.out 9 (x := .int .i64 win) rfl _).1, HG.out.trans (HO.out.mset HL.out 9 (x := .int .i64 win) rfl _).2⟩ ?_
        clear HO HG
        clear c9 f9
        rintro w19 ⟨ho, hg⟩
        have c10 : w19.cell? ⟨g, j * 13 + 10, none⟩ = some (.int .i64 steps) := ho.mval HL.out 10 rfl (by omega)
        have f10 : w19.frozen? ⟨g, j * 13 + 10, none⟩ = false := ho.mfrz _
        have HO := Lib.hid ho
        have HG := Lib.hid hg
        clear ho hg
        go_upto_region 25 with fail
        refine wp_gen (fun w' => OwnX 56 13 n w' B Eb (.slice (some ⟨g, 0, none⟩) n cap) (D1 ++ ([.val (.int .i64 (kk)), .val (.int .i64 (kk + 1)), .val (.int .i64 (kk + 1 + 1)), .val (.int .i64 (kk + 1 + 1 + 1)), .val (.int .i64 (kk + 1 + 1 + 1 + 1)), .val (.string (markV (kk + 1 + 1 + 1 + 1 + 1))), .val (.int .i64 (kk + 1 + 1 + 1 + 1 + 1 + 1)), .val (.int .i64 (kk + 1 + 1 + 1 + 1 + 1 + 1 + 1)), .val (.int .i64 (kk + 1 + 1 + 1 + 1 + 1 + 1 + 1 + 1)), .val (.int .i64 (kk + 1 + 1 + 1 + 1 + 1 + 1 + 1 + 1 + 1)), .val (.int .i64 (kk + 1 + 1 + 1 + 1 + 1 + 1 + 1 + 1 + 1 + 1)), .val (.int .i64 flips), .row 62 10 rows.length (cellsR rows)] ++ D2)) ∧ Chg (Within B Eb) w w') ⟨(HO.out.mset HL.out 10 (x := .int .i64 steps) rfl _).1, HG.out.trans (HO.out.mset HL.out 10 (x := .int .i64 steps) rfl _).2⟩ ?_
        clear HO HG
        clear c10 f10
        rintro w20 ⟨ho, hg⟩
        have c11 : w20.cell? ⟨g, j * 13 + 11, none⟩ = some (.int .i64 flips) := ho.mval HL.out 11 rfl (by omega)
        have f11 : w20.frozen? ⟨g, j * 13 + 11, none⟩ = false := ho.mfrz _
        have HO := Lib.hid ho
        have HG := Lib.hid hg
        clear ho hg
        go_upto_region 27 with fail
        refine wp_gen (fun w' => OwnX 56 13 n w' B Eb (.slice (some ⟨g, 0, none⟩) n cap) (D1 ++ ([.val (.int .i64 (kk)), .val (.int .i64 (kk + 1)), .val (.int .i64 (kk + 1 + 1)), .val (.int .i64 (kk + 1 + 1 + 1)), .val (.int .i64 (kk + 1 + 1 + 1 + 1)), .val (.string (markV (kk + 1 + 1 + 1 + 1 + 1))), .val (.int .i64 (kk + 1 + 1 + 1 + 1 + 1 + 1)), .val (.int .i64 (kk + 1 + 1 + 1 + 1 + 1 + 1 + 1)), .val (.int .i64 (kk + 1 + 1 + 1 + 1 + 1 + 1 + 1 + 1)), .val (.int .i64 (kk + 1 + 1 + 1 + 1 + 1 + 1 + 1 + 1 + 1)), .val (.int .i64 (kk + 1 + 1 + 1 + 1 + 1 + 1 + 1 + 1 + 1 + 1)), .val (.int .i64 (kk + 1 + 1 + 1 + 1 + 1 + 1 + 1 + 1 + 1 + 1 + 1)), .row 62 10 rows.length (cellsR rows)] ++ D2)) ∧ Chg (Within B Eb) w w') ⟨(HO.out.mset HL.out 11 (x := .int .i64 flips) rfl _).1, HG.out.trans (HO.out.mset HL.out 11 (x := .int .i64 flips) rfl _).2⟩ ?_
        clear HO HG
        clear c11 f11
        rintro w21 ⟨ho, hg⟩
        obtain ⟨urows, hcrows, hrrows, hkrows⟩ := ho.mrow HL.out 12 rfl (by omega)
        have c12 : w21.cell? ⟨g, j * 13 + 12, none⟩ = some urows := hcrows
        have HO := Lib.hid ho
        have HG := Lib.hid hg
        have HC0 := Lib.hid hcrows
        have HK0 := Lib.hid hkrows
        have HMI := Lib.hid (markRowS_any w21 B urows rows (kk + 1 + 1 + 1 + 1 + 1 + 1 + 1 + 1 + 1 + 1 + 1 + 1) (show OwnRowF w21 B urows rows from hrrows) (by omega) (by omega) (by omega))
        clear ho hg hrrows hcrows hkrows
        go_wp2_with fail
        refine HMI.out.mono ?_
        rintro e v0 ⟨rfl, hm, hgr⟩
        have hm' : v0.ownsRow B 62 10 urows rows.length (cellsF rowCells (marksRow (kk + 1 + 1 + 1 + 1 + 1 + 1 + 1 + 1 + 1 + 1 + 1 + 1) rows.length)) := by have h2 := hm; unfold OwnRowF at h2; rw [marksRow_length] at h2; exact h2
        have ho : OwnX 56 13 n v0 B Eb (.slice (some ⟨g, 0, none⟩) n cap) (D1 ++ ([.val (.int .i64 (kk)), .val (.int .i64 (kk + 1)), .val (.int .i64 (kk + 1 + 1)), .val (.int .i64 (kk + 1 + 1 + 1)), .val (.int .i64 (kk + 1 + 1 + 1 + 1)), .val (.string (markV (kk + 1 + 1 + 1 + 1 + 1))), .val (.int .i64 (kk + 1 + 1 + 1 + 1 + 1 + 1)), .val (.int .i64 (kk + 1 + 1 + 1 + 1 + 1 + 1 + 1)), .val (.int .i64 (kk + 1 + 1 + 1 + 1 + 1 + 1 + 1 + 1)), .val (.int .i64 (kk + 1 + 1 + 1 + 1 + 1 + 1 + 1 + 1 + 1)), .val (.int .i64 (kk + 1 + 1 + 1 + 1 + 1 + 1 + 1 + 1 + 1 + 1)), .val (.int .i64 (kk + 1 + 1 + 1 + 1 + 1 + 1 + 1 + 1 + 1 + 1 + 1)), .row 62 10 rows.length (cellsF rowCells (marksRow (kk + 1 + 1 + 1 + 1 + 1 + 1 + 1 + 1 + 1 + 1 + 1 + 1) rows.length))] ++ D2)) := (HO.out.mturn HL.out 12 rfl (by omega) HC0.out hgr hm' HK0.out).1
        have hg := HG.out.trans (HO.out.mturn HL.out 12 rfl (by omega) HC0.out hgr hm' HK0.out).2
        clear HO HG HC0 HK0 HMI hm hgr hm' c12
        have HO := Lib.hid ho
        have HG := Lib.hid hg
        clear ho hg his
        go_wp2_with fail
        go_roundw
        case rel =>
          refine ⟨j + 1, by omega, by go_num, ?_, ?_, HG.out⟩
          · rw [HED.out]
            unfold endEv
            go_num
          · rw [HND.out]
            have h2 := HO.out
            unfold evDat markEv
            simp only [Int.add_assoc, Int.reduceAdd, marksRow_length] at h2 ⊢
            exact h2
        case measure => simp [intOf]; omega
      · have hjn : j = n := by omega
        subst hjn
        have HO := Lib.hid ho
        have HG := Lib.hid hg
        clear ho hg
        go_wp2_with fail
        go_ret
        refine ⟨by rw [HEA.out]; rfl, ?_, HG.out⟩
        unfold OwnY
        rw [HFL.out, ← HFI.out]
        exact HO.out
theorem markEvL_getD (k : Int) (l : List E) (j : Nat) (hj : j < l.length) : (markEvL k l).getD j zeroE = markEv (endEvL k (l.take j)) (l.getD j zeroE) := by
  have e : markEvL k l = markEvL k (l.take (j + 1)) ++ markEvL (endEvL k (l.take (j + 1))) (l.drop (j + 1)) := by
    have : ∀ (k : Int) (a b : List E), markEvL k (a ++ b) = markEvL k a ++ markEvL (endEvL k a) b := by
      intro k a b
      induction a generalizing k with
      | nil => rfl
      | cons q rs ih => simp [markEvL, endEvL, ih]
    rw [← this, List.take_append_drop]
  have hl : (markEvL k (l.take j)).length = j := by rw [markEvL_length, List.length_take]; omega
  rw [e, take_snocEv l j hj, markEvL_snoc, List.getD_eq_getElem?_getD, List.append_assoc, List.getElem?_append_right (by omega), hl, Nat.sub_self]
  rfl
set_option maxRecDepth 100000 in
set_option maxHeartbeats 16000000 in
theorem heldEvS_any (w : World) (B Eb : Nat) (v : Value) (l : List E) (k : Int) (h : OwnY 56 13 evDat w B Eb v (markEvL k l)) (hl : l.length ≤ 1048576) (hs : ∀ j, j < l.length → (l.getD j zeroE).rows.length ≤ 1048576) (hk0 : 1 ≤ k) (hk1 : endEvL k l ≤ 900000000000) :
    Calls Try.prog 14 #[v, .int .i64 k] w (Gives (.int .i64 (endEvL k l)) w) := by
  have h' : OwnX 56 13 (markEvL k l).length w B Eb v (datL evDat (markEvL k l)) := h
  rw [markEvL_length] at h'
  rcases h'.shape with ⟨rfl, h0⟩ | ⟨g, cap, rfl, hcn, hcm, _, _⟩
  · have hz : l = [] := List.length_eq_zero_iff.1 h0
    subst hz
    clear h h' h0 hs
    go_enter Try.func14, Try.ntmps14
    go_wp2_with fail
    go_loopw [1, 5] (fun c i wr => i = .int .i64 0 ∧ c = .int .i64 k ∧ wr = w) (fun _ i _ => 0)
    case atStart => exact ⟨rfl, rfl, rfl⟩
    case round =>
      obtain ⟨rfl, rfl, rfl⟩ := hrel
      go_wp2_with fail
      go_ret
      exact ⟨rfl, Below.refl _ _⟩
  · have HDT := Lib.hid (fun j (hj : j < l.length) i (hi : i < 13) => show (datL evDat (markEvL k l))[j * 13 + i]? = (evDat (markEv (endEvL k (l.take j)) (l.getD j zeroE)))[i]? by rw [datL_at evDat_len zeroE _ j i (by rw [markEvL_length]; exact hj) hi, markEvL_getD k l j hj])
    have hglt : g < w.heap.size := by
      obtain ⟨vs, _, h2⟩ := h'
      exact h2.1.lt List.mem_cons_self g rfl
    have HX := Lib.hid h'
    have HKS := Lib.hid (fun j => endEvL_take k l j)
    have HEN := Lib.hid (fun j (hj : j < l.length) => show endEvL k (l.take (j + 1)) = endEv (endEvL k (l.take j)) (l.getD j zeroE) by rw [take_snocEv l j hj, endEvL_snoc])
    have HIS := Lib.hid hs
    have HEA := Lib.hid (show endEvL k (l.take l.length) = endEvL k l by rw [List.take_length])
    generalize l.length = n at *
    unfold maxLen at hcm
    clear h h' hs
    go_enter Try.func14, Try.ntmps14
    go_wp2_with fail
    go_loopw [1, 5] (fun c i wr => ∃ j : Nat, j ≤ n ∧ i = .int .i64 j ∧ c = .int .i64 (endEvL k (l.take j)) ∧ Below w.heap.size w wr) (fun _ i _ => n - (intOf i).toNat)
    case atStart => exact ⟨0, Nat.zero_le _, rfl, rfl, Below.refl _ _⟩
    case round =>
      obtain ⟨j, hj, rfl, rfl, hb⟩ := hrel
      by_cases hlt : j < n
      · have HED := Lib.hid (HEN.out j hlt)
        have hkb := HKS.out j
        have his := HIS.out j hlt
        have HC := Lib.hid (fun i (hi : i < 13) (u : Value) (hd : (evDat (markEv (endEvL k (l.take j)) (l.getD j zeroE)))[i]? = some (.val u)) => HX.out.val (i := j * 13 + i) (by omega) ((HDT.out j hlt i hi).trans hd))
        have HCR := Lib.hid (fun i (hi : i < 13) (t' : TypeId) (F' n' : Nat) (cs : List Value) (hd : (evDat (markEv (endEvL k (l.take j)) (l.getD j zeroE)))[i]? = some (.row t' F' n' cs)) => HX.out.row (i := j * 13 + i) (by omega) ((HDT.out j hlt i hi).trans hd))
        generalize endEvL k (l.take j) = kk at *
        generalize l.getD j zeroE = r at *
        clear HDT HX HKS HEN HIS HEA
        have b0 : 1 ≤ kk := by omega
        have b1 : kk ≤ 900000000000 := by omega
        clear hkb
        have hjn : (j : Int) < (n : Int) := by omega
        have HB := Lib.hid hb
        obtain ⟨urows, hurows, hrrows⟩ := HCR.out 12 (by decide) 62 10 _ _ rfl
        have hxrows := Lib.hid (show OwnRowF w B urows (marksRow (kk + 12) r.rows.length) from hrrows)
        clear hrrows
        have y0 : wr.cell? ⟨g, j * 13, none⟩ = some (.int .i64 (kk)) := (hb.cell (p := ⟨g, j * 13, none⟩) hglt).trans (HC.out 0 (by decide) _ rfl)
        have y1 : wr.cell? ⟨g, j * 13 + 1, none⟩ = some (.int .i64 (kk + 1)) := (hb.cell (p := ⟨g, j * 13 + 1, none⟩) hglt).trans (HC.out 1 (by decide) _ rfl)
        have y2 : wr.cell? ⟨g, j * 13 + 2, none⟩ = some (.int .i64 (kk + 2)) := (hb.cell (p := ⟨g, j * 13 + 2, none⟩) hglt).trans (HC.out 2 (by decide) _ rfl)
        rw [show kk + 2 = kk + 1 + 1 from by omega] at y2
        have y3 : wr.cell? ⟨g, j * 13 + 3, none⟩ = some (.int .i64 (kk + 3)) := (hb.cell (p := ⟨g, j * 13 + 3, none⟩) hglt).trans (HC.out 3 (by decide) _ rfl)
        rw [show kk + 3 = kk + 1 + 1 + 1 from by omega] at y3
        have y4 : wr.cell? ⟨g, j * 13 + 4, none⟩ = some (.int .i64 (kk + 4)) := (hb.cell (p := ⟨g, j * 13 + 4, none⟩) hglt).trans (HC.out 4 (by decide) _ rfl)
        rw [show kk + 4 = kk + 1 + 1 + 1 + 1 from by omega] at y4
        have y5 : wr.cell? ⟨g, j * 13 + 5, none⟩ = some (.string (markV (kk + 5))) := (hb.cell (p := ⟨g, j * 13 + 5, none⟩) hglt).trans (HC.out 5 (by decide) _ rfl)
        rw [show kk + 5 = kk + 1 + 1 + 1 + 1 + 1 from by omega] at y5
        have y6 : wr.cell? ⟨g, j * 13 + 6, none⟩ = some (.int .i64 (kk + 6)) := (hb.cell (p := ⟨g, j * 13 + 6, none⟩) hglt).trans (HC.out 6 (by decide) _ rfl)
        rw [show kk + 6 = kk + 1 + 1 + 1 + 1 + 1 + 1 from by omega] at y6
        have y7 : wr.cell? ⟨g, j * 13 + 7, none⟩ = some (.int .i64 (kk + 7)) := (hb.cell (p := ⟨g, j * 13 + 7, none⟩) hglt).trans (HC.out 7 (by decide) _ rfl)
        rw [show kk + 7 = kk + 1 + 1 + 1 + 1 + 1 + 1 + 1 from by omega] at y7
        have y8 : wr.cell? ⟨g, j * 13 + 8, none⟩ = some (.int .i64 (kk + 8)) := (hb.cell (p := ⟨g, j * 13 + 8, none⟩) hglt).trans (HC.out 8 (by decide) _ rfl)
        rw [show kk + 8 = kk + 1 + 1 + 1 + 1 + 1 + 1 + 1 + 1 from by omega] at y8
        have y9 : wr.cell? ⟨g, j * 13 + 9, none⟩ = some (.int .i64 (kk + 9)) := (hb.cell (p := ⟨g, j * 13 + 9, none⟩) hglt).trans (HC.out 9 (by decide) _ rfl)
        rw [show kk + 9 = kk + 1 + 1 + 1 + 1 + 1 + 1 + 1 + 1 + 1 from by omega] at y9
        have y10 : wr.cell? ⟨g, j * 13 + 10, none⟩ = some (.int .i64 (kk + 10)) := (hb.cell (p := ⟨g, j * 13 + 10, none⟩) hglt).trans (HC.out 10 (by decide) _ rfl)
        rw [show kk + 10 = kk + 1 + 1 + 1 + 1 + 1 + 1 + 1 + 1 + 1 + 1 from by omega] at y10
        have y11 : wr.cell? ⟨g, j * 13 + 11, none⟩ = some (.int .i64 (kk + 11)) := (hb.cell (p := ⟨g, j * 13 + 11, none⟩) hglt).trans (HC.out 11 (by decide) _ rfl)
        rw [show kk + 11 = kk + 1 + 1 + 1 + 1 + 1 + 1 + 1 + 1 + 1 + 1 + 1 from by omega] at y11
        have y12 : wr.cell? ⟨g, j * 13 + 12, none⟩ = some urows := (hb.cell (p := ⟨g, j * 13 + 12, none⟩) hglt).trans hurows
        clear hb
        have HM5 := fun W => Lib.hid (markText_any (kk + 1 + 1 + 1 + 1 + 1) W (by omega) (by omega))
        generalize hmv : markV (kk + 1 + 1 + 1 + 1 + 1) = mv5 at *
        have ym5 := txt_self mv5
        go_upto_region 19 with fail
        have HS5 := Lib.hid (show wr.drew.cell? ⟨g, j * 13 + 5, none⟩ = some (.string mv5) ∧ Below w.heap.size w wr.drew from ⟨y5, HB.out.trans (below_drew _ _)⟩)
        clear y5 y6 y7 y8 y9 y10 y11 y12 hmv
        have HCL := (⟨HS5.out⟩ : HoldsC (fun W => W.cell? ⟨g, j * 13 + 5, none⟩ = some (.string mv5) ∧ Below w.heap.size w W) _)
        have hall : ∀ p : Prop, (∀ W, HoldsC (fun W => W.cell? ⟨g, j * 13 + 5, none⟩ = some (.string mv5) ∧ Below w.heap.size w W) W → p) ↔ p := fun p => ⟨fun h => h _ HCL, fun h _ _ => h⟩
        refine wp_region_wq (C := HoldsC (fun W => W.cell? ⟨g, j * 13 + 5, none⟩ = some (.string mv5) ∧ Below w.heap.size w W)) (by kernel_rfl) (by kernel_rfl) HCL ?_
        repeat (refine WQ.step (fun K hK => ?_); go_simp; first | (refine hK _ ?_; clear hK K) | (apply Exists.intro; refine ⟨fun W hW => ?_, hK _ ?_⟩; (focus (first | (go_at_call 39; (with_reducible refine Calls.mono (Hid.out (HM5 _)) ?_); rintro e w' ⟨rfl, hb'⟩; exact ⟨rfl, ⟨⟨(hb'.cell (p := ⟨g, j * 13 + 5, none⟩) (Nat.lt_of_lt_of_le hglt hW.out.2.size)).trans hW.out.1, hW.out.2.trans (hb'.mono hW.out.2.size)⟩⟩⟩) | exact rfl | (obtain ⟨ya, yb⟩ := hW.out; go_simp; rfl))); clear hK K))
        refine WQ.nil ?_
        intro W hW
        obtain ⟨ya, yb⟩ := hW.out
        clear hall HCL
        have HB5 := Lib.hid yb
        have y6 : W.cell? ⟨g, j * 13 + 6, none⟩ = some (.int .i64 (kk + 6)) := (HB5.out.cell (p := ⟨g, j * 13 + 6, none⟩) hglt).trans (HC.out 6 (by decide) _ rfl)
        rw [show kk + 6 = kk + 1 + 1 + 1 + 1 + 1 + 1 from by omega] at y6
        have y7 : W.cell? ⟨g, j * 13 + 7, none⟩ = some (.int .i64 (kk + 7)) := (HB5.out.cell (p := ⟨g, j * 13 + 7, none⟩) hglt).trans (HC.out 7 (by decide) _ rfl)
        rw [show kk + 7 = kk + 1 + 1 + 1 + 1 + 1 + 1 + 1 from by omega] at y7
        have y8 : W.cell? ⟨g, j * 13 + 8, none⟩ = some (.int .i64 (kk + 8)) := (HB5.out.cell (p := ⟨g, j * 13 + 8, none⟩) hglt).trans (HC.out 8 (by decide) _ rfl)
        rw [show kk + 8 = kk + 1 + 1 + 1 + 1 + 1 + 1 + 1 + 1 from by omega] at y8
        have y9 : W.cell? ⟨g, j * 13 + 9, none⟩ = some (.int .i64 (kk + 9)) := (HB5.out.cell (p := ⟨g, j * 13 + 9, none⟩) hglt).trans (HC.out 9 (by decide) _ rfl)
        rw [show kk + 9 = kk + 1 + 1 + 1 + 1 + 1 + 1 + 1 + 1 + 1 from by omega] at y9
        have y10 : W.cell? ⟨g, j * 13 + 10, none⟩ = some (.int .i64 (kk + 10)) := (HB5.out.cell (p := ⟨g, j * 13 + 10, none⟩) hglt).trans (HC.out 10 (by decide) _ rfl)
        rw [show kk + 10 = kk + 1 + 1 + 1 + 1 + 1 + 1 + 1 + 1 + 1 + 1 from by omega] at y10
        have y11 : W.cell? ⟨g, j * 13 + 11, none⟩ = some (.int .i64 (kk + 11)) := (HB5.out.cell (p := ⟨g, j * 13 + 11, none⟩) hglt).trans (HC.out 11 (by decide) _ rfl)
        rw [show kk + 11 = kk + 1 + 1 + 1 + 1 + 1 + 1 + 1 + 1 + 1 + 1 + 1 from by omega] at y11
        have y12 : W.cell? ⟨g, j * 13 + 12, none⟩ = some urows := (HB5.out.cell (p := ⟨g, j * 13 + 12, none⟩) hglt).trans hurows
        clear hW ya yb HS5 HM5
        have HI0 := fun W (hb : Below w.heap.size w W) => Lib.hid (show Calls Try.prog 41 #[urows, .int .i64 (kk + 1 + 1 + 1 + 1 + 1 + 1 + 1 + 1 + 1 + 1 + 1 + 1)] W (Gives (.int .i64 (kk + 1 + 1 + 1 + 1 + 1 + 1 + 1 + 1 + 1 + 1 + 1 + 1 + 10 * (r.rows.length : Int))) W) from by have e : kk + 12 = kk + 1 + 1 + 1 + 1 + 1 + 1 + 1 + 1 + 1 + 1 + 1 + 1 := (by omega); rw [← e]; exact heldRowS_any W B urows (kk + 12) r.rows.length (OwnF.below hxrows.out hb) (by omega) (by omega) (by omega))
        go_wp2_with fail
        refine (HI0 _ HB5.out).out.mono ?_
        rintro e w5 ⟨rfl, hb5⟩
        replace HB5 := Lib.hid (HB5.out.trans (hb5.mono HB5.out.size))
        clear hb5
        have dn0 : ¬ (kk + 1 + 1 + 1 + 1 + 1 + 1 + 1 + 1 + 1 + 1 + 1 + 1 + 10 * (r.rows.length : Int) < 0) := by omega
        go_wp2_with fail
        go_roundw
        case rel =>
          refine ⟨j + 1, by omega, by go_num, ?_, HB5.out⟩
          rw [HED.out]
          unfold endEv
          go_num
        case measure => simp [intOf]; omega
      · have hjn : j = n := by omega
        subst hjn
        have HB := Lib.hid hb
        clear hb
        go_wp2_with fail
        go_ret
        exact ⟨by rw [HEA.out]; rfl, HB.out⟩
end Go.Proofs.Ytcfdnfckilpppaa

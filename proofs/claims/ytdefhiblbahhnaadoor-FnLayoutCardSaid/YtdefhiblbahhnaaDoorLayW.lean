/-
  The names of the cells, the program's: each answers the name that the plain words say, where the library's table of powers of ten reads as it was laid. It makes new memory and turns none that was there.
-/
import Derived.Test.YtdefhiblbahhnaaDoorLayN
import Derived.Test.YtdefhiblbahhnaaDoorLayI
import Derived.Test.YtdefhiblbahhnaaDoorInts
import Derived.Test.YtdefhiblbahhnaaDoorDecI
import Derived.Test.YtdefhiblbahhnaaDoorLaid
namespace Go.Proofs.YtdefhiblbahhnaaDoor
open Go.RowKit M
set_option linter.unusedVariables false
def Tab (w : World) : Prop := Lib.TabIs Tryd.prog w "internal/strconv.uint64pow10" .u64 Lib.pow10Tab
theorem Tab.below {w w' : World} (h : Tab w) (hb : Below w.heap.size w w') : Tab w' := tab_below hb h
theorem dig_at {zs : List Int} (h : ∀ z ∈ zs, 0 ≤ z ∧ z < 10) {j : Nat} (hj : j < zs.length) : 0 ≤ zs.getD j 0 ∧ zs.getD j 0 < 10 := by
  rw [List.getD_eq_getElem?_getD, List.getElem?_eq_getElem hj]
  exact h _ (List.getElem_mem _)
theorem dig_take {zs : List Int} (h : ∀ z ∈ zs, 0 ≤ z ∧ z < 10) (j : Nat) : ∀ z ∈ zs.take j, 0 ≤ z ∧ z < 10 := fun z hz => h z (List.mem_of_mem_take hz)
theorem ints_new (w : World) (ls : List Int) (n : Nat) (hn : ls.length = n) (hm : n ≤ 1000) (cs : Array Value) (h : cs = (ls.map (Value.int .i64)).toArray) : Ints (w.alloc (.cells cs 3)) (.slice (some ⟨w.heap.size, 0, none⟩) n n) ls := by
  subst h; subst hn
  refine ⟨w.heap.size, 0, _, rfl, Nat.le_refl _, by unfold maxLen; omega, by simp [go_sem], fun j hj => ?_⟩
  have e := heap_alloc_new w (.cells (ls.map (Value.int .i64)).toArray 3)
  rw [Nat.zero_add, cell_of_row _ _ j _ _ _ e, List.getElem?_toArray, List.getElem?_map, List.getElem?_eq_getElem hj, List.getD_eq_getElem?_getD, List.getElem?_eq_getElem hj]
  rfl
set_option maxRecDepth 100000 in
theorem iNum_any (w : World) (s : ByteArray) (v : Value) (zs : List Int) (hz : Ints w v zs) (hn : zs.length ≤ 3) (hd : ∀ z ∈ zs, 0 ≤ z ∧ z < 10) (hs : s.size ≤ 10) (ht : Tab w) :
    Calls Tryd.prog 21 #[.string s, v] w (Gives (.string (num s zs)) w) := by
  have HT := Lib.hid ht
  have HZ := Lib.hid hz
  have HD := Lib.hid hd
  obtain ⟨b, off, cap, rfl, _, _, _, _⟩ := hz
  have HS : ∀ j, j ≤ zs.length → (num s (zs.take j)).size ≤ 16 := fun j hj => by rw [num_size _ _ (dig_take hd j), List.length_take]; omega
  have HN := Lib.hid (fun j => num_step s zs j)
  have HE := Lib.hid (show num s (zs.take zs.length) = num s zs by rw [List.take_length])
  have HDS := Lib.hid (fun j (hj : j < zs.length) => decs_size (dig_at hd hj).1 (dig_at hd hj).2)
  clear ht hd
  go_enter Tryd.func21, Tryd.ntmps21
  go_wp2
  go_loopw [0, 9] (fun o x wr => ∃ j : Nat, j ≤ zs.length ∧ o = .string (num s (zs.take j)) ∧ x = .int .i64 j ∧ Below w.heap.size w wr) (fun _ x _ => zs.length - (intOf x).toNat)
  case atStart => exact ⟨0, Nat.zero_le _, rfl, rfl, Below.refl _ _⟩
  case round =>
    obtain ⟨j, hj, rfl, rfl, hb⟩ := hrel
    have hsz := HS j hj
    by_cases hlt : j < zs.length
    · have hc : wr.cell? ⟨b, off + j, none⟩ = some (.int .i64 (zs.getD j 0)) := by
        obtain ⟨b', off', cap', e, _, _, _, h4⟩ := HZ.out.below hb
        injection e with e1 _ _
        injection e1 with e1
        injection e1 with e1 e2 _
        subst e1; subst e2
        exact h4 j hlt
      have hds := HDS.out j hlt
      obtain ⟨z0, z1⟩ := dig_at HD.out hlt
      have HX := Lib.hid (HN.out j hlt)
      generalize zs.getD j 0 = z at *
      generalize num s (zs.take j) = acc at *
      have HC := Lib.hid (iDec z wr (by omega) (by omega) (HT.out.below hb))
      generalize decs z = dz at *
      have hj3 : j < 3 := by omega
      have hlt' : (j : Int) < (zs.length : Int) := by omega
      go_wp2_with (go_at_call 24; refine HC.out.mono ?_; rintro e w2 ⟨rfl, hb2⟩)
      go_roundw
      case rel => exact ⟨j + 1, by omega, by rw [HX.out]; rfl, by go_num, hb.trans (hb2.mono hb.size)⟩
      case measure => simp [intOf]; omega
    · obtain rfl : j = zs.length := by omega
      go_wp2
      go_ret
      exact ⟨ret_str HE.out, hb⟩
set_option maxRecDepth 100000 in
theorem iBuf_any (w : World) (i : Int) (h0 : 0 ≤ i) (h1 : i < 64) (ht : Tab w) : Calls Tryd.prog 22 #[.int .i64 i] w (Gives (.string (partN (i / 32) (i % 32 / 8) (i % 8))) w) := by
  have HT := Lib.hid ht
  clear ht
  have hk : partN (i / 32) (i % 32 / 8) (i % 8) = partN (i / 32) (i % 32 / 8) (i % 8) := rfl
  generalize hR : partN (i / 32) (i % 32 / 8) (i % 8) = r at *
  have b0 : 0 ≤ i / 32 := by omega
  have b1 : i / 32 < 10 := by omega
  have s0 : 0 ≤ i % 32 / 8 := by omega
  have s1 : i % 32 / 8 < 10 := by omega
  have k0 : 0 ≤ i % 8 := by omega
  have k1 : i % 8 < 8 := by omega
  have e1 : i.tdiv 32 = i / 32 := Int.tdiv_eq_ediv_of_nonneg h0
  have e2 : i.tmod 32 = i % 32 := Int.tmod_eq_emod_of_nonneg h0
  have e3 : (i % 32).tdiv 8 = i % 32 / 8 := Int.tdiv_eq_ediv_of_nonneg (by omega)
  have e4 : i.tmod 8 = i % 8 := Int.tmod_eq_emod_of_nonneg h0
  unfold partN at hR
  generalize i / 32 = b at *
  generalize i % 32 / 8 = s at *
  generalize hkk : i % 8 = k at *
  clear hk
  have HK : ∀ (word : ByteArray) (ls : List Int) (W : World) (n : Nat) (cs : Array Value), ls.length = n → n ≤ 3 → word.size ≤ 10 → cs = (ls.map (Value.int .i64)).toArray → (∀ z ∈ ls, 0 ≤ z ∧ z < 10) → Tab W → Calls Tryd.prog 21 #[.string word, .slice (some ⟨W.heap.size, 0, none⟩) n n] (W.alloc (.cells cs 3)) (Gives (.string (num word ls)) (W.alloc (.cells cs 3))) := fun word ls W n cs en n3 ws ec hd k =>
    iNum_any _ _ _ ls (ints_new W _ n en (by omega) cs ec) (by omega) hd ws (k.below ((Below.refl _ _).alloc (Nat.le_refl _) _))
  have HP := Lib.hid HK
  clear HK
  by_cases c0 : k < 2
  · rw [if_pos c0] at hR
    have HR := Lib.hid hR
    clear hR
    go_enter Tryd.func22, Tryd.ntmps22
    go_wp2_with fail
    refine (HP.out wStripe [b, s, k] w 3 _ rfl (by decide) (by decide) rfl (by simp; omega) HT.out).mono ?_
    rintro e w2 ⟨rfl, hb⟩
    go_wp2_with fail
    go_ret
    exact ⟨ret_str HR.out, ((Below.refl _ _).alloc (Nat.le_refl _) _).trans (hb.mono (by simp [go_sem]))⟩
  · rw [if_neg c0] at hR
    by_cases c1 : k = 2
    · subst c1
      rw [if_pos rfl] at hR
      have HR := Lib.hid hR
      clear hR
      go_enter Tryd.func22, Tryd.ntmps22
      go_wp2_with fail
      refine (HP.out wStamp [b, s] w 2 _ rfl (by decide) (by decide) rfl (by simp; omega) HT.out).mono ?_
      rintro e w2 ⟨rfl, hb⟩
      go_wp2_with fail
      go_ret
      exact ⟨ret_str HR.out, ((Below.refl _ _).alloc (Nat.le_refl _) _).trans (hb.mono (by simp [go_sem]))⟩
    · rw [if_neg c1] at hR
      by_cases c2 : k = 3
      · subst c2
        rw [if_pos rfl] at hR
        have HR := Lib.hid hR
        clear hR
        go_enter Tryd.func22, Tryd.ntmps22
        go_wp2_with fail
        refine (HP.out wGauge [b, s] w 2 _ rfl (by decide) (by decide) rfl (by simp; omega) HT.out).mono ?_
        rintro e w2 ⟨rfl, hb⟩
        go_wp2_with fail
        go_ret
        exact ⟨ret_str HR.out, ((Below.refl _ _).alloc (Nat.le_refl _) _).trans (hb.mono (by simp [go_sem]))⟩
      · rw [if_neg c2] at hR
        by_cases c3 : k = 4
        · subst c3
          rw [if_pos rfl] at hR
          have HR := Lib.hid hR
          clear hR
          go_enter Tryd.func22, Tryd.ntmps22
          go_wp2_with fail
          refine (HP.out wTicket [b, s] w 2 _ rfl (by decide) (by decide) rfl (by simp; omega) HT.out).mono ?_
          rintro e w2 ⟨rfl, hb⟩
          go_wp2_with fail
          go_ret
          exact ⟨ret_str HR.out, ((Below.refl _ _).alloc (Nat.le_refl _) _).trans (hb.mono (by simp [go_sem]))⟩
        · rw [if_neg c3] at hR
          have t2 : (k == 2) = false := by rw [beq_eq_false_iff_ne]; exact c1
          have t3 : (k == 3) = false := by rw [beq_eq_false_iff_ne]; exact c2
          have t4 : (k == 4) = false := by rw [beq_eq_false_iff_ne]; exact c3
          have HR := Lib.hid hR
          clear hR
          go_enter Tryd.func22, Tryd.ntmps22
          go_wp2_with fail
          refine (HP.out wRing [b, s, k - 5] w 3 _ rfl (by decide) (by decide) rfl (by simp; omega) HT.out).mono ?_
          rintro e w2 ⟨rfl, hb⟩
          go_wp2_with fail
          go_ret
          exact ⟨ret_str HR.out, ((Below.refl _ _).alloc (Nat.le_refl _) _).trans (hb.mono (by simp [go_sem]))⟩
set_option maxRecDepth 100000 in
theorem iName_any (w : World) (i : Int) (ht : Tab w) : Calls Tryd.prog 14 #[.int .i64 i] w (Gives (.string (nameV i)) w) := by
  have HT := Lib.hid ht
  clear ht
  generalize hR : nameV i = r
  unfold nameV at hR
  by_cases c : i < 0 ∨ 70 < i
  · rw [if_pos c] at hR
    have HR := Lib.hid hR
    clear hR
    go_enter Tryd.func14, Tryd.ntmps14
    go_wp2_with (go_at_call 19; refine (isIdx_no _ _ _ (by omega)).mono ?_; rintro e w' ⟨rfl, rfl⟩)
    go_ret
    exact ⟨ret_str HR.out, Below.refl _ _⟩
  · rw [if_neg c] at hR
    obtain ⟨h0, h1⟩ : 0 ≤ i ∧ i ≤ 70 := by omega
    clear c
    by_cases c0 : i = 0
    · subst c0
      rw [if_pos rfl] at hR
      have HR := Lib.hid hR
      clear hR
      go_enter Tryd.func14, Tryd.ntmps14
      go_wp2_with (go_at_call 19; refine (isIdx_yes _ _ _ (by omega) (by omega)).mono ?_; rintro e w' ⟨rfl, rfl⟩)
      go_ret
      exact ⟨ret_str HR.out, Below.refl _ _⟩
    · rw [if_neg c0] at hR
      have t0 : (i == 0) = false := by rw [beq_eq_false_iff_ne]; exact c0
      by_cases c1 : i < 3
      · rw [if_pos c1] at hR
        have HR := Lib.hid hR
        clear hR
        go_enter Tryd.func14, Tryd.ntmps14
        go_wp2_with (go_at_call 19; refine (isIdx_yes _ _ _ (by omega) (by omega)).mono ?_; rintro e w' ⟨rfl, rfl⟩)
        refine (iNum_any _ _ _ [i - 1] (ints_new w _ 1 rfl (by decide) _ rfl) (by simp) (by simp; omega) (by decide) (HT.out.below ((Below.refl _ _).alloc (Nat.le_refl _) _))).mono ?_
        rintro e w2 ⟨rfl, hb⟩
        go_wp2_with fail
        go_ret
        exact ⟨ret_str HR.out, ((Below.refl _ _).alloc (Nat.le_refl _) _).trans (hb.mono (by simp [go_sem]))⟩
      · rw [if_neg c1] at hR
        by_cases c2 : i < 7
        · rw [if_pos c2] at hR
          have HR := Lib.hid hR
          clear hR
          go_enter Tryd.func14, Tryd.ntmps14
          go_wp2_with (go_at_call 19; refine (isIdx_yes _ _ _ (by omega) (by omega)).mono ?_; rintro e w' ⟨rfl, rfl⟩)
          refine (iNum_any _ _ _ [i - 3] (ints_new w _ 1 rfl (by decide) _ rfl) (by simp) (by simp; omega) (by decide) (HT.out.below ((Below.refl _ _).alloc (Nat.le_refl _) _))).mono ?_
          rintro e w2 ⟨rfl, hb⟩
          go_wp2_with fail
          go_ret
          exact ⟨ret_str HR.out, ((Below.refl _ _).alloc (Nat.le_refl _) _).trans (hb.mono (by simp [go_sem]))⟩
        · rw [if_neg c2] at hR
          have HR := Lib.hid hR
          clear hR
          go_enter Tryd.func14, Tryd.ntmps14
          go_wp2_with (go_at_call 19; refine (isIdx_yes _ _ _ (by omega) (by omega)).mono ?_; rintro e w' ⟨rfl, rfl⟩)
          refine (iBuf_any w (i - 7) (by omega) (by omega) HT.out).mono ?_
          rintro e w2 ⟨rfl, hb⟩
          go_wp2_with fail
          go_ret
          exact ⟨ret_str HR.out, hb⟩
end Go.Proofs.YtdefhiblbahhnaaDoor

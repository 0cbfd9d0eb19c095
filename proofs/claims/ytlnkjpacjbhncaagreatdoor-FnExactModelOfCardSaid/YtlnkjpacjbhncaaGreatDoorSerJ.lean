/-
  Chapter 15: the program's ModelOf.
-/
import Derived.Test.YtlnkjpacjbhncaaGreatDoorSerI
import Derived.Test.YtlnkjpacjbhncaaGreatDoorSerS
import Derived.Test.YtlnkjpacjbhncaaGreatDoorZc
namespace Go.Proofs.YtlnkjpacjbhncaaGreatDoor
open Go.RowKit M
set_option linter.unusedVariables false
set_option linter.unusedSimpArgs false
theorem iBufOf15 (w : World) (x : Int) (h0 : 0 ≤ x) (h1 : x ≤ 281474976710655) : Calls Tryz.prog 19 #[.int .i64 x] w (Same w (.int .i64 (x % 2))) := by
  go_enter Tryz.func19, Tryz.ntmps19
  go_wp2
  go_ret
  exact ⟨rfl, rfl⟩
theorem iValues_any (w : World) (a : Option Addr) (len cap : Nat) :
    Calls Tryz.prog 21 #[.slice a len cap] w fun e w' => e = .returned (.func (.func 46) #[] #[.pointer (some ⟨w.heap.size, 0, none⟩)]) ∧ w' = w.alloc (.cells #[.slice a len cap] 41) :=
  (callsIn_wide (n := 2)).1 (iValues_in 2 a len cap w)
theorem texts_of {w : World} {base : Nat} {v : Value} {ks : List ByteArray} (h : OwnT w base v ks) : TextsIn w.heap.size w v ks := by
  have h' := h
  rcases h.2 with ⟨e, h0⟩ | ⟨g, cap, cur, e, hb, hg, hn, hm, hc, ht⟩
  · exact .inl ⟨e, List.eq_nil_of_length_eq_zero h0⟩
  · subst e
    refine .inr ⟨g, 0, cap, rfl, (World.ownsRow.lt h' g rfl).2, fun j hj => ?_⟩
    rw [Nat.zero_add, World.ownsRow.cellAt h' j (by omega), List.getElem?_map, List.getElem?_eq_getElem hj, List.getD_eq_getElem?_getD, List.getElem?_eq_getElem hj]
    rfl
theorem OwnT.shape15 {w : World} {base : Nat} {v : Value} {l : List ByteArray} (h : OwnT w base v l) : ∃ A cap, v = .slice A l.length cap := by
  obtain ⟨A, cap, e, _⟩ := h.arg
  exact ⟨A, cap, e⟩
theorem OwnT.base15 {w : World} {b b' : Nat} {v : Value} {l : List ByteArray} (h : OwnT w b v l) (hb : b' ≤ b) : OwnT w b' v l := by
  rcases h.2 with ⟨e, h0⟩ | ⟨g, cap, cur, e, h1, h2⟩
  · exact ⟨h.1, .inl ⟨e, h0⟩⟩
  · exact ⟨h.1, .inr ⟨g, cap, cur, e, Nat.le_trans hb h1, h2⟩⟩
theorem OwnT.cells15 {w : World} {base n cap : Nat} {A : Option Addr} {l : List ByteArray} (h : OwnT w base (.slice A n cap) l) (hp : 0 < l.length) : ∃ b off, A = some ⟨b, off, none⟩ ∧ b < w.heap.size ∧ ∀ j, j < l.length → w.cell? ⟨b, off + j, none⟩ = some (.string (l.getD j ⟨#[]⟩)) := by
  obtain ⟨A', cap', e, _, _, h3⟩ := h.arg
  injection e with e1 _ _
  subst e1
  exact h3 hp
theorem own_some15 {w : World} {B F n : Nat} {t : TypeId} {v : Value} {cs : List Value} (h : w.ownsRow B t F v n cs) (hn : 0 < n) : ∃ g cap, v = .slice (some ⟨g, 0, none⟩) n cap := by
  rcases h.2 with ⟨_, h0⟩ | ⟨g, cap, cur, e, _⟩
  · omega
  · exact ⟨g, cap, e⟩
theorem TextsIn.mono {a b : Nat} {w : World} {v : Value} {ks : List ByteArray} (h : TextsIn a w v ks) (hab : a ≤ b) : TextsIn b w v ks := by
  rcases h with e | ⟨g, off, cap, e, h1, h2⟩
  · exact .inl e
  · exact .inr ⟨g, off, cap, e, Nat.lt_of_lt_of_le h1 hab, h2⟩
/-- The first j of the names, each with its kind. -/
def headK (zs : List Int) (j : Nat) : List KR := ((srtV (keysV zs)).take j).map fun k => ⟨k, fkK zs k⟩
theorem headK_next {zs : List Int} {j : Nat} (h : j < (srtV (keysV zs)).length) : headK zs (j + 1) = headK zs j ++ [⟨(srtV (keysV zs)).getD j ⟨#[]⟩, fkK zs ((srtV (keysV zs)).getD j ⟨#[]⟩)⟩] := by
  unfold headK
  rw [List.take_succ_eq_append_getElem h, List.map_append, List.map_cons, List.map_nil, List.getD_eq_getElem?_getD, List.getElem?_eq_getElem h]
  rfl
theorem headK_len (zs : List Int) (j : Nat) : (headK zs j).length ≤ j := by
  unfold headK
  rw [List.length_map, List.length_take]; omega
theorem headK_all {zs : List Int} (h : tableV zs = true) : headK zs (srtV (keysV zs)).length = krT zs 4 := by
  unfold headK
  rw [List.take_length]; exact srt_keys h
set_option maxRecDepth 100000 in
set_option maxHeartbeats 8000000 in
theorem iModelOf_any (w : World) (v : Value) (zs : List Int) (hz : Ints w v zs) : Calls Tryz.prog 6 #[v] w (MadeMo w (moV zs)) := by
  have HTB := fun W h => Lib.hid (iTableOk_any W v zs h)
  have HZ := Lib.hid hz
  have hu := Tryz.underlying26
  clear hz
  go_enter Tryz.func6, Tryz.ntmps6
  go_upto_region 1 with fail
  refine wp_gen (fun W => Blk W w.heap.size 26 #[.slice none 0 0, .slice none 0 0] ∧ Below w.heap.size w W) ⟨Blk.new w _ _ _ rfl, (Below.refl w.heap.size w).alloc (by simp [go_sem]) _⟩ ?_
  rintro W ⟨g2, hb⟩
  have G2 := Lib.hid g2; have HB := Lib.hid hb
  clear g2 hb
  cases ht : tableV zs with
  | false =>
    have HE := Lib.hid (moV_no ht)
    rw [ht] at HTB
    clear ht
    go_wp2_with fail
    refine (HTB _ (HZ.out.below HB.out)).out.mono ?_
    rintro e W1 ⟨rfl, hb⟩
    replace G2 := Lib.hid (G2.out.below hb); replace HB := Lib.hid (HB.out.trans (hb.mono HB.out.size))
    clear hb HTB
    go_wp2_with ((with_reducible show wpList _ _ _ _ _ _); first | refine wpList_store_row rfl 26 _ _ rfl (w.heap.size) #[.slice none 0 0, .slice none 0 0] rfl rfl 26 _ G2.out (by kernel_rfl) rfl (by simp [Value.oneCell']) ?_)
    refine post_gen (fun X => Blk X w.heap.size 26 #[.slice none 0 0, .slice none 0 0] ∧ Below w.heap.size w X ∧ MoOwn X w.heap.size ⟨[], []⟩ (.slice none 0 0) (.slice none 0 0)) ⟨setRow_heap _ _ _ _ _ _ G2.out, below_setRow' HB.out (Nat.le_refl _) _, ⟨World.ownsRow_nil _ _ _ _, World.ownsRow_nil _ _ _ _, (.inl rfl)⟩⟩ ?_
    rintro X ⟨h1, hb, hm⟩
    exact bodyPost_ret (v := .agg #[.slice none 0 0, .slice none 0 0]) (results_cell1 rfl _ _ _ _ _ _ rfl h1 hu rfl (by kernel_rfl)) rfl ⟨_, _, rfl, by rw [HE.out]; exact hm, hb⟩
  | true =>
    have HCC := Lib.hid (table_cells ht)
    have hl := okC_len HCC.out
    have HE := Lib.hid (moV_yes ht)
    have HALL := Lib.hid (headK_all ht)
    have HKO := Lib.hid (srt_ok ht)
    have HKL := Lib.hid (show (srtV (keysV zs)).length ≤ 4 by rw [srt_len]; exact keysV_len zs)
    have hkl := keysV_len zs
    rw [ht] at HTB
    clear ht
    go_wp2_with fail
    refine (HTB _ (HZ.out.below HB.out)).out.mono ?_
    rintro e W1 ⟨rfl, hb⟩
    replace G2 := Lib.hid (G2.out.below hb); replace HB := Lib.hid (HB.out.trans (hb.mono HB.out.size))
    clear hb HTB
    have HKN := fun W h => Lib.hid (iKeysIn_any W v zs h)
    have HFK := fun W key h hs => Lib.hid (iFindKey_any W v zs key h hs)
    have hw0 := okC_at HCC.out 0 (by omega)
    have HRP := fun W h => Lib.hid (iReportIn_any W v zs (zs.getD 0 0 % 2) h (by omega) (by omega))
    have HBO := fun W => Lib.hid (iBufOf15 W (zs.getD 0 0) hw0.1 hw0.2)
    obtain ⟨b, off, cap, rfl, hcl, hcm, hbw, h4⟩ := HZ.out
    rw [hl] at hcl HZ HKN HFK HRP
    have hc0 : W1.cell? ⟨b, off, none⟩ = some (.int .i64 (zs.getD 0 0)) := (HB.out.cell (p := ⟨b, off, none⟩) hbw).trans (h4 0 (by omega))
    clear hw0 h4
    have HS1 := Lib.hid (show w.heap.size + 1 ≤ W1.heap.size from G2.out.lt)
    have hI1 := HZ.out.below HB.out
    generalize hep : zs.getD 0 0 = ep at *
    generalize hrs : reportInV zs (ep % 2) = rs at *
    go_wp2_with (first | (go_at_call 19; refine ((HBO _).out).mono ?_; rintro e w' ⟨rfl, rfl⟩))
    refine (HRP _ hI1).out.mono ?_
    rintro e W2 ⟨vr, rfl, hr, hb⟩
    replace G2 := Lib.hid (G2.out.below hb); replace HB := Lib.hid (HB.out.trans (hb.mono HB.out.size))
    clear hc0 hI1 HBO HRP
    obtain ⟨Ar, nr, cr, rfl⟩ := own_slice hr
    have hone : Array.all (#[.slice none 0 0, .slice Ar nr cr] : Array Value) (·.oneCell') = true := by simp [Value.oneCell']
    have HRR := Lib.hid (hr.low HS1.out)
    have HNR := Lib.hid (show ∀ k, (Value.slice Ar nr cr).ownBlock = some k → k < W2.heap.size from hr.lt)
    clear hr hb
    go_upto_region 4 with ((with_reducible show wpList _ _ _ _ _ _); first | refine wpList_store_row rfl 26 _ _ rfl (W2.heap.size) #[.slice none 0 0, .slice Ar nr cr] rfl rfl 26 _ (Blk.new _ _ _ _ (by simp [go_sem])) (by kernel_rfl) rfl hone ?_)
    refine wp_gen (fun X => Blk X w.heap.size 26 #[.slice none 0 0, .slice none 0 0] ∧ Blk X W2.heap.size 26 #[.slice none 0 0, .slice Ar nr cr] ∧ OwnR X (w.heap.size + 1) (.slice Ar nr cr) rs ∧ Below w.heap.size w X) ⟨?ga, setRow_heap _ _ _ _ _ _ (Blk.new _ _ _ _ (by simp [go_sem])), ?gc, ?gb⟩ ?_
    case ga => exact (setRow_other _ W2.heap.size w.heap.size _ (by have := G2.out.lt; omega)).trans (G2.out.alloc _)
    case gb => exact below_setRow' (HB.out.alloc HB.out.size _) HB.out.size _
    case gc => exact (HRR.out.alloc _).kept (setRow_grown _ _ _) (.inr fun e => by have := HNR.out _ e; omega)
    rintro W3 ⟨g2, g3, hr, hb⟩
    have HG := Lib.hid (show w.heap.size + 1 ≤ W2.heap.size from G2.out.lt)
    generalize W2.heap.size = g at *
    have G2 := Lib.hid g2; have G3 := Lib.hid g3; have HB := Lib.hid hb; have HRR := Lib.hid hr
    clear g2 g3 hb hr hone
    go_wp2_with fail
    refine (HKN _ (HZ.out.below HB.out)).out.mono ?_
    rintro e W4 ⟨vn, rfl, hn, hb⟩
    replace G2 := Lib.hid (G2.out.below hb); replace HB := Lib.hid (HB.out.trans (hb.mono HB.out.size)); replace G3 := Lib.hid (G3.out.below hb); replace HRR := Lib.hid (HRR.out.below hb)
    have HG4 := Lib.hid (show g + 1 ≤ W4.heap.size from G3.out.lt)
    obtain ⟨An, nn, cn, rfl⟩ := own_slice hn
    have HT := Lib.hid (texts_of hn)
    clear hb hn HKN
    go_wp2_with (first | (go_at_call 21; refine (iValues_any _ _ _ _).mono ?_; rintro e w' ⟨rfl, rfl⟩))
    have hX : Below W4.heap.size W4 (W4.alloc (.cells #[.slice An nn cn] 41)) := (Below.refl _ _).alloc (Nat.le_refl _) _
    have hC : (W4.alloc (.cells #[.slice An nn cn] 41)).cell? ⟨W4.heap.size, 0, none⟩ = some (.slice An nn cn) := (Blk.new W4 W4.heap.size 41 #[.slice An nn cn] rfl).get 0
    have hI : TextsIn (W4.alloc (.cells #[.slice An nn cn] 41)).heap.size (W4.alloc (.cells #[.slice An nn cn] 41)) (.slice An nn cn) (keysV zs) := (TextsIn.below hX HT.out).mono (by simp)
    refine (iSorted_any W4.heap.size (.slice An nn cn) (keysV zs) (by omega) _ (by simp) hC hI).mono ?_
    rintro e W5 ⟨vs, rfl, hs, hb5⟩
    have hb := hX.trans (hb5.mono hX.size)
    clear hX hC hI
    replace G2 := Lib.hid (G2.out.below hb); replace HB := Lib.hid (HB.out.trans (hb.mono HB.out.size)); replace G3 := Lib.hid (G3.out.below hb); replace HRR := Lib.hid (HRR.out.below hb)
    have HSS := Lib.hid hs
    obtain ⟨As, ns, cs, rfl⟩ := own_slice hs
    have hns : (srtV (keysV zs)).length = ns := by obtain ⟨A, c, e⟩ := OwnT.shape15 HSS.out; injection e with _ e2; exact e2.symm
    have HSB := Lib.hid (show ∀ k, (Value.slice As ns cs).ownBlock = some k → k < W5.heap.size from fun k hk => (World.ownsRow.lt HSS.out k hk).2)
    have HSG := Lib.hid (show ∀ k, (Value.slice As ns cs).ownBlock = some k → g + 1 ≤ k from fun k hk => Nat.le_trans (by have := HG4.out; simp; omega) (World.ownsRow.lt HSS.out k hk).1)
    have HG5 := Lib.hid (show g + 1 ≤ W5.heap.size from G3.out.lt)
    clear hb hb5 hs HT
    obtain ⟨B5, hB5⟩ : ∃ b, b = W5.heap.size := ⟨_, rfl⟩
    rw [← hB5] at HSB HG5
    have HS5 := Lib.hid (Nat.le_of_eq hB5)
    clear hB5
    go_wp2_with fail
    go_loopw [24] (fun x wr => ∃ (s : Nat) (vk : Value), s ≤ ns ∧ x = .int .i64 s ∧ Blk wr w.heap.size 26 #[.slice none 0 0, .slice none 0 0] ∧ Blk wr g 26 #[vk, .slice Ar nr cr] ∧ OwnF 39 2 krCells wr B5 vk (headK zs s) ∧ OwnR wr (w.heap.size + 1) (.slice Ar nr cr) rs ∧ OwnT wr (g + 1) (.slice As ns cs) (srtV (keysV zs)) ∧ Below w.heap.size w wr ∧ B5 ≤ wr.heap.size) (fun x _ => ns - (intOf x).toNat)
    case atStart => exact ⟨0, _, Nat.zero_le _, rfl, G2.out, G3.out, World.ownsRow_nil _ _ _ _, HRR.out, OwnT.base15 HSS.out (by have := HG4.out; simp; omega), HB.out, HS5.out⟩
    case round =>
      clear G2 G3 HRR HSS HB HS5 HG4
      obtain ⟨s, vk, hs, rfl, g2, g3, ho, hr, hn, hb, hsz⟩ := hrel
      have G2 := Lib.hid g2; have G3 := Lib.hid g3; have HO := Lib.hid ho; have HRR := Lib.hid hr; have HSS := Lib.hid hn; have HB := Lib.hid hb; have HS5 := Lib.hid hsz
      clear g2 g3 ho hr hn hb hsz
      obtain ⟨Ak, nk, ck, rfl⟩ := own_slice HO.out
      have hnk : (headK zs s).length = nk := by obtain ⟨A, c, e⟩ := HO.out.shape; injection e with _ e2; exact e2.symm
      have hhl := headK_len zs s
      by_cases hlt : s < ns
      · have hltz : decide ((s : Int) < (ns : Int)) = true := by rw [decide_eq_true]; omega
        have hs4 : ns ≤ 4 := by have := HKL.out; omega
        obtain ⟨bs, os, rfl, hbs, hcs⟩ := OwnT.cells15 HSS.out (by omega)
        have hcx := hcs s (by omega)
        have HN := Lib.hid (headK_next (zs := zs) (j := s) (by omega))
        have hok := HKO.out ((srtV (keysV zs)).getD s ⟨#[]⟩) (by rw [List.getD_eq_getElem?_getD, List.getElem?_eq_getElem (by omega)]; exact List.getElem_mem _)
        have hks : ((srtV (keysV zs)).getD s ⟨#[]⟩).size ≤ maxLen := Nat.le_trans (keyOkV_iff.1 hok).1.2 (by decide)
        clear hcs
        generalize (srtV (keysV zs)).getD s ⟨#[]⟩ = key at *
        have HFX := fun W h => HFK W key h hks
        clear HFK hok
        generalize fkK zs key = kd at *
        generalize fkS zs key = ks9 at *
        go_wp2_with fail
        refine (HFX _ (HZ.out.below HB.out)).out.mono ?_
        rintro e W6 ⟨rfl, hb⟩
        clear hcx
        replace G2 := Lib.hid (G2.out.below hb); replace HB := Lib.hid (HB.out.trans (hb.mono HB.out.size)); replace G3 := Lib.hid (G3.out.below hb); replace HO := Lib.hid (HO.out.below hb); replace HRR := Lib.hid (HRR.out.below hb); replace HSS := Lib.hid (HSS.out.below hb)
        replace HS5 := Lib.hid (Nat.le_trans HS5.out hb.size)
        clear hb HFX
        have p0 := G3.out.get 0
        simp at p0
        go_wp2_with (at_builtin; refine wpK_append _ rfl _ _ rfl B5 (.slice Ak nk ck) (headK zs s) HO.out rfl (⟨key, kd⟩ : KR) _ rfl rfl ?e1 ?e2 ?_; rotate_left 2; intro uk W7 hown hgr hbk; have HOK := Lib.hid hown; have HG7 := Lib.hid hgr; clear hown hgr hbk; obtain ⟨gu, cu, rfl⟩ : ∃ g c, uk = .slice (some ⟨g, 0, none⟩) (nk + 1) c := (by obtain ⟨g, c, e⟩ := own_some15 HOK.out (by simp); exact ⟨g, c, by rw [e, List.length_append, hnk]; rfl⟩); have HP2 := Lib.hid ((G3.out.alloc (.cells #[.string key, .int .i64 kd] 39)).grown HG7.out (fun q => by have := HO.out.base_le _ q; have := HG5.out; omega)); have q0 := HP2.out.get 0; have q0f := HP2.out.frz 0; simp at q0)
        case e1 => have := HKL.out; omega
        case e2 => exact HS5.out
        have HZ7 := Lib.hid (show B5 ≤ W7.heap.size from Nat.le_trans HS5.out (Nat.le_trans (by simp) HG7.out.size))
        have hgu : B5 ≤ gu := HOK.out.base_le _ rfl
        have HGG := HG
        go_roundw
        case rel => exact ⟨s + 1, _, by omega, by go_num, ((G2.out.alloc _).grown HG7.out (fun q => by have := HO.out.base_le _ q; have := HG5.out; have := HGG.out; omega)).far _ _ _ (by have := HGG.out; omega), HP2.out.store 0 _, by rw [HN.out]; exact HOK.out.kept (row_store HP2.out 0 _) (.inr fun e => by have q : gu = g := Option.some.inj e; have := HG5.out; omega), ((HRR.out.alloc _).kept HG7.out (Ap.of (B := B5) (v := .slice Ar nr cr) (u := .slice Ak nk ck) (fun k hk => by have := HNR.out k hk; have := HG5.out; omega) (fun k hk => HO.out.base_le k hk)).1).kept (row_store HP2.out 0 _) (.inr fun e => by have := HNR.out _ e; omega), ((HSS.out.alloc _).kept HG7.out (Ap.of (B := B5) (u := .slice Ak nk ck) (fun k hk => HSB.out k hk) (fun k hk => HO.out.base_le k hk)).1).kept (row_store HP2.out 0 _) (.inr fun e => by have := HSG.out _ e; omega), ((HB.out.alloc HB.out.size _).grown HG7.out (by simp; have := HB.out.size; omega) (fun k q => by have := HO.out.base_le _ q; have := HG5.out; have := HGG.out; omega)).setCell (show w.heap.size ≤ g by have := HGG.out; omega) _, by simp; exact HZ7.out⟩
        case measure => simp [intOf]; omega
      · have hge : decide ((s : Int) < (ns : Int)) = false := by simp; omega
        have HK := Lib.hid (show headK zs s = krT zs 4 by rw [show s = (srtV (keysV zs)).length by omega]; exact HALL.out)
        rw [HK.out] at HO
        generalize krT zs 4 = ks at *
        go_wp2_with ((with_reducible show wpList _ _ _ _ _ _); first | refine wpList_load_row rfl 26 _ rfl (g) rfl 26 #[.slice Ak nk ck, .slice Ar nr cr] (0, 0) _ G3.out hu rfl (by kernel_rfl) ?_ | refine wpList_store_row rfl 26 _ _ rfl (w.heap.size) #[.slice Ak nk ck, .slice Ar nr cr] rfl rfl 26 _ G2.out (by kernel_rfl) rfl (moOne HO.out HRR.out) ?_)
        refine post_gen (fun X => Blk X w.heap.size 26 #[.slice Ak nk ck, .slice Ar nr cr] ∧ Below w.heap.size w X ∧ MoOwn X w.heap.size ⟨ks, rs⟩ (.slice Ak nk ck) (.slice Ar nr cr)) ⟨setRow_heap _ _ _ _ _ _ G2.out, below_setRow' HB.out (Nat.le_refl _) _, ⟨(HO.out.kept (setRow_grown _ _ _) (.inr fun e => by have := HO.out.base_le _ e; have := HG5.out; have := HG.out; omega)).base (by have := HG5.out; have := HG.out; omega), OwnR.low (HRR.out.kept (setRow_grown _ _ _) (.inr fun e => by have := HRR.out.base_le' _ e; omega)) (by omega), (Ap.of (B := g) (v := .slice Ar nr cr) (u := .slice Ak nk ck) (fun k hk => HNR.out k hk) (fun k hk => by have := HO.out.base_le k hk; have := HG5.out; omega)).2⟩⟩ ?_
        rintro X ⟨h1, hb, hm⟩
        exact bodyPost_ret (v := .agg #[.slice Ak nk ck, .slice Ar nr cr]) (results_cell1 rfl _ _ _ _ _ _ rfl h1 hu rfl (by kernel_rfl)) rfl ⟨_, _, rfl, by rw [HE.out]; exact hm, hb⟩
end Go.Proofs.YtlnkjpacjbhncaaGreatDoor

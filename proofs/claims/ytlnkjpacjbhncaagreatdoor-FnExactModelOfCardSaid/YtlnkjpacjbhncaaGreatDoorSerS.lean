/-
  Chapter 15: the model's ModelOf.
-/
import Derived.Test.YtlnkjpacjbhncaaGreatDoorSerV
import Derived.Test.YtlnkjpacjbhncaaGreatDoorModR
import Derived.Test.YtlnkjpacjbhncaaGreatDoorZc
import Derived.Test.YtlnkjpacjbhncaaGreatDoorDrD
import Derived.Test.YtlnkjpacjbhncaaGreatDoorZb
import Derived.Test.YtlnkjpacjbhncaaGreatDoorZa
namespace Go.Proofs.YtlnkjpacjbhncaaGreatDoor
open Go.RowKit M
set_option linter.unusedVariables false
set_option linter.unusedSimpArgs false
theorem results_cell1 {P : Program} {fn : Func} {p : Tmp} {ty : TypeId} (h : fn.results = #[.cell p ty]) (tmps : Array Value) (w : World) (g : Nat) (t : TypeId) (cs : Array Value) (d : TypeDesc)
    (hp : tmps.getD p undef = .pointer (some ⟨g, 0, none⟩)) (hg : Blk w g t cs)
    (hu : P.underlying ty = some d) (hd : (match d with | .struct _ | .array _ _ => true | _ => false) = true) (hi : (P.info? ty).map (·.size) = some cs.size) :
    (results fn tmps).run P w = .ok (.agg cs) w := by
  have hp' : tmps[p]?.getD undef = .pointer (some ⟨g, 0, none⟩) := by simpa using hp
  simp [results, h, hp', asAddr, run_loadVar_row w g t ty cs (0, 0) d hg hu hd hi]
theorem moOne {w : World} {b c : Nat} {l : List KR} {rs : List R} {vk vr : Value} (hk : OwnF 39 2 krCells w b vk l) (hr : OwnR w c vr rs) : Array.all #[vk, vr] (·.oneCell') = true := by
  have h1 := own_one hk
  have h2 := own_one hr
  simp [h1, h2]
theorem moV_yes {zs : List Int} (h : tableV zs = true) : moV zs = ⟨krT zs 4, reportInV zs (zs.getD 0 0 % 2)⟩ := if_pos h
theorem moV_no {zs : List Int} (h : tableV zs = false) : moV zs = ⟨[], []⟩ := if_neg (by rw [h]; decide)
set_option maxRecDepth 100000 in
set_option maxHeartbeats 8000000 in
theorem sModelOf_any (w : World) (v : Value) (zs : List Int) (hz : Ints w v zs) : Calls Tryz.prog 4 #[v] w (MadeMo w (moV zs)) := by
  have HTB := fun W h => Lib.hid (sTableOk_any W v zs h)
  have HZ := Lib.hid hz
  have hu := Tryz.underlying26
  clear hz
  go_enter Tryz.func4, Tryz.ntmps4
  go_upto_region 2 with ((with_reducible show wpList _ _ _ _ _ _); first | refine wpList_store_row rfl 26 _ _ rfl (w.heap.size + 1) #[.slice none 0 0, .slice none 0 0] rfl rfl 26 _ (Blk.new _ _ _ _ (by simp [go_sem])) (by kernel_rfl) rfl (by simp [Value.oneCell']) ?_)
  refine wp_gen (fun W => Blk W w.heap.size 26 #[.slice none 0 0, .slice none 0 0] ∧ Blk W (w.heap.size + 1) 26 #[.slice none 0 0, .slice none 0 0] ∧ Below w.heap.size w W) ⟨?ga, setRow_heap _ _ _ _ _ _ (Blk.new _ _ _ _ (by simp [go_sem])), ?gb⟩ ?_
  case ga => exact (setRow_other _ (w.heap.size + 1) w.heap.size _ (by omega)).trans ((Blk.new w _ _ _ rfl).alloc _)
  case gb => exact below_setRow' ((((Below.refl w.heap.size w).alloc (by simp [go_sem]) _).alloc (by simp [go_sem]) _)) (by omega) _
  rintro W ⟨g2, g3, hb⟩
  have HSZ := Lib.hid (show w.heap.size + 2 ≤ W.heap.size from g3.lt)
  have G2 := Lib.hid g2; have G3 := Lib.hid g3; have HB := Lib.hid hb
  clear g2 g3 hb
  cases ht : tableV zs with
  | false =>
    have HE := Lib.hid (moV_no ht)
    rw [ht] at HTB
    clear ht
    go_wp2_with fail
    refine (HTB _ (HZ.out.below HB.out)).out.mono ?_
    rintro e W1 ⟨rfl, hb⟩
    replace G2 := Lib.hid (G2.out.below hb); replace G3 := Lib.hid (G3.out.below hb); replace HB := Lib.hid (HB.out.trans (hb.mono HB.out.size)); replace HSZ := Lib.hid (Nat.le_trans HSZ.out hb.size)
    clear hb HTB
    go_wp2_with ((with_reducible show wpList _ _ _ _ _ _); first | refine wpList_load_row rfl 26 _ rfl (w.heap.size + 1) rfl 26 #[.slice none 0 0, .slice none 0 0] (0, 0) _ G3.out hu rfl (by kernel_rfl) ?_ | refine wpList_store_row rfl 26 _ _ rfl (w.heap.size) #[.slice none 0 0, .slice none 0 0] rfl rfl 26 _ G2.out (by kernel_rfl) rfl (by simp [Value.oneCell']) ?_)
    refine post_gen (fun X => Blk X w.heap.size 26 #[.slice none 0 0, .slice none 0 0] ∧ Below w.heap.size w X ∧ MoOwn X w.heap.size ⟨[], []⟩ (.slice none 0 0) (.slice none 0 0)) ⟨setRow_heap _ _ _ _ _ _ G2.out, below_setRow' HB.out (Nat.le_refl _) _, ⟨World.ownsRow_nil _ _ _ _, World.ownsRow_nil _ _ _ _, (.inl rfl)⟩⟩ ?_
    rintro X ⟨h1, hb, hm⟩
    exact bodyPost_ret (v := .agg #[.slice none 0 0, .slice none 0 0]) (results_cell1 rfl _ _ _ _ _ _ rfl h1 hu rfl (by kernel_rfl)) rfl ⟨_, _, rfl, by rw [HE.out]; exact hm, hb⟩
  | true =>
    have HCC := Lib.hid (table_cells ht)
    have hl := okC_len HCC.out
    have HE := Lib.hid (moV_yes ht)
    rw [ht] at HTB
    clear ht
    go_wp2_with fail
    refine (HTB _ (HZ.out.below HB.out)).out.mono ?_
    rintro e W1 ⟨rfl, hb⟩
    replace G2 := Lib.hid (G2.out.below hb); replace G3 := Lib.hid (G3.out.below hb); replace HB := Lib.hid (HB.out.trans (hb.mono HB.out.size)); replace HSZ := Lib.hid (Nat.le_trans HSZ.out hb.size)
    clear hb HTB
    have HZW := HZ
    obtain ⟨b, off, cap, rfl, hcl, hcm, hbw, h4⟩ := HZ.out
    rw [hl] at hcl
    have HSL := Lib.hid hl
    rw [hl] at HZ HZW
    clear HZ
    go_wp2_with fail
    go_loopw [4] (fun x wr => ∃ (s : Nat) (vk : Value), s ≤ 4 ∧ x = .int .i64 s ∧ Blk wr w.heap.size 26 #[.slice none 0 0, .slice none 0 0] ∧ Blk wr (w.heap.size + 1) 26 #[vk, .slice none 0 0] ∧ OwnF 39 2 krCells wr (w.heap.size + 2) vk (krT zs s) ∧ Below w.heap.size w wr ∧ w.heap.size + 2 ≤ wr.heap.size) (fun x _ => 4 - (intOf x).toNat)
    case atStart => exact ⟨0, _, Nat.zero_le _, rfl, G2.out, G3.out, World.ownsRow_nil _ _ _ _, HB.out, HSZ.out⟩
    case round =>
      clear G2 G3 HB HSZ
      obtain ⟨s, vk, hs, rfl, g2, g3, ho, hb, hsz⟩ := hrel
      have G2 := Lib.hid g2; have G3 := Lib.hid g3; have HO := Lib.hid ho; have HB := Lib.hid hb; have HSZ := Lib.hid hsz
      have hlen := krT_len zs s
      have hlen2 := keysT_len zs s
      clear g2 g3 ho hb hsz
      by_cases hlt : s < 4
      · have hlt2 : decide ((s : Int) < 4) = true := by rw [decide_eq_true]; omega
        have HKC := fun W => Lib.hid (sKey_any (s : Int) W)
        rw [keyV_yes ⟨by omega, by omega⟩] at HKC
        have hp71 : 3 + (s : Int) < 71 := by omega
        have hcr : wr.cell? ⟨b, off + (3 + s), none⟩ = some (.int .i64 (cellK zs s)) := by
          obtain ⟨b', off', cap', e, _, _, _, h4'⟩ := HZW.out.below HB.out
          injection e with e1 _ _
          injection e1 with e1
          injection e1 with e1 e2 _
          subst e1; subst e2
          have := cellK_at (s := (s : Int)) h4' (okC_len HCC.out) (by omega) (by omega)
          rwa [show (3 + (s : Int)).toNat = 3 + s by omega] at this
        have HU := fun W => Lib.hid (sUntag_any W (cellK zs s))
        cases hu9 : untagV (cellK zs (s : Nat)) with
        | none =>
          have HN := Lib.hid (krT_none hu9)
          rw [hu9, untT_none] at HU
          clear hu9
          generalize cellK zs s = x at *
          go_wp2_with (first | (go_at_call 14; refine (HKC _).out.mono ?_; rintro e w' ⟨rfl, rfl⟩))
          refine (HU wr).out.mono ?_
          rintro e w2 ⟨rfl, hb⟩
          replace G2 := Lib.hid (G2.out.below hb); replace G3 := Lib.hid (G3.out.below hb); replace HB := Lib.hid (HB.out.trans (hb.mono HB.out.size)); replace HSZ := Lib.hid (Nat.le_trans HSZ.out hb.size)
          replace HO := Lib.hid (HO.out.below hb)
          clear hb hcr HU HKC
          go_wp2_with fail
          go_roundw
          case rel => exact ⟨s + 1, vk, by omega, by go_num, G2.out, G3.out, by rw [HN.out]; exact HO.out, HB.out, HSZ.out⟩
          case measure => simp [intOf]; omega
        | some u =>
          obtain ⟨k, kd⟩ := u
          obtain ⟨_, _, hk1, _⟩ := tag_untag hu9
          have hkd : (kd != 0) = true := by rw [bne_iff_ne]; omega
          have HN := Lib.hid (krT_some hu9)
          have CP := fun W (h : RecsArg 2 krCells zeroKR W vk (krT zs s)) => Lib.hid (sKeyPut_any W vk (krT zs s) ⟨k, kd⟩ h (by omega))
          unfold KR.v at CP
          simp only at CP HN
          rw [hu9, untT_some] at HU
          clear hu9
          generalize cellK zs s = x at *
          go_wp2_with (first | (go_at_call 14; refine (HKC _).out.mono ?_; rintro e w' ⟨rfl, rfl⟩))
          refine (HU wr).out.mono ?_
          rintro e w2 ⟨rfl, hb⟩
          replace G2 := Lib.hid (G2.out.below hb); replace G3 := Lib.hid (G3.out.below hb); replace HB := Lib.hid (HB.out.trans (hb.mono HB.out.size)); replace HSZ := Lib.hid (Nat.le_trans HSZ.out hb.size)
          replace HO := Lib.hid (HO.out.below hb)
          clear hb hcr HU HKC
          obtain ⟨Ak, nk, ck, rfl⟩ := own_slice HO.out
          have p0 := G3.out.get 0
          simp at p0
          go_wp2_with fail
          refine (CP _ (HO.out.arg sizeKRow zeroKR)).out.mono ?_
          rintro e w3 ⟨uk, rfl, hk, hb⟩
          have HK := Lib.hid (hk.base HSZ.out)
          clear p0
          replace G2 := Lib.hid (G2.out.below hb); replace G3 := Lib.hid (G3.out.below hb); replace HB := Lib.hid (HB.out.trans (hb.mono HB.out.size)); replace HSZ := Lib.hid (Nat.le_trans HSZ.out hb.size)
          obtain ⟨Bk, mk9, dk, rfl⟩ := own_slice HK.out
          clear hb hk CP HO
          have p0 := G3.out.get 0; have f0 := G3.out.frz 0
          simp at p0
          have HG := Lib.hid (row_store G3.out 0 (.slice Bk mk9 dk))
          go_wp2_with fail
          go_roundw
          case rel => exact ⟨s + 1, _, by omega, by go_num, G2.out.far _ _ _ (by omega), G3.out.store 0 _, by rw [HN.out]; exact HK.out.kept HG.out (.inr fun e => by have := HK.out.base_le _ e; omega), HB.out.setCell (show w.heap.size ≤ w.heap.size + 1 by omega) _, by simp; exact HSZ.out⟩
          case measure => simp [intOf]; omega
      · have hge : decide ((s : Int) < 4) = false := by simp; omega
        obtain rfl : s = 4 := by omega
        have HR := fun W (h : Ints W (.slice (some ⟨b, off, none⟩) 71 cap) zs) => Lib.hid (sReportIn_any W (.slice (some ⟨b, off, none⟩) 71 cap) zs (zs.getD 0 0 % 2) h)
        have hc0 : wr.cell? ⟨b, off, none⟩ = some (.int .i64 (zs.getD 0 0)) := by
          obtain ⟨b', off', cap', e, _, _, _, h4'⟩ := HZW.out.below HB.out
          injection e with e1 _ _
          injection e1 with e1
          injection e1 with e1 e2 _
          subst e1; subst e2
          exact h4' 0 (by have := okC_len HCC.out; omega)
        have hw0 := okC_at HCC.out 0 (by omega)
        have hw1 : zs.getD 0 0 < 281474976710656 := by omega
        have hw2 := hw0.1
        clear hw0
        generalize krT zs 4 = ks at *
        generalize hrs : reportInV zs (zs.getD 0 0 % 2) = rs at *
        generalize zs.getD 0 0 = ep at *
        obtain ⟨Ak, nk, ck, rfl⟩ := own_slice HO.out
        go_wp2_with fail
        refine (HR _ (HZW.out.below HB.out)).out.mono ?_
        rintro e w3 ⟨ur, rfl, hr, hb⟩
        have HRR := Lib.hid (hr.low HSZ.out)
        have HAP := Lib.hid (Ap.of (v := .slice Ak nk ck) (u := ur) (fun k hk => HO.out.lt k hk) (fun k hk => hr.base_le' k hk)).1
        replace G2 := Lib.hid (G2.out.below hb); replace G3 := Lib.hid (G3.out.below hb); replace HB := Lib.hid (HB.out.trans (hb.mono HB.out.size)); replace HSZ := Lib.hid (Nat.le_trans HSZ.out hb.size)
        replace HO := Lib.hid (HO.out.below hb)
        obtain ⟨Br, nr, cr, rfl⟩ := own_slice HRR.out
        clear hb hr HR
        have p1 := G3.out.get 1; have f1 := G3.out.frz 1
        simp at p1
        have HG := Lib.hid (row_store G3.out 1 (.slice Br nr cr))
        go_upto_region 11 with fail
        refine wp_gen (fun W => Blk W w.heap.size 26 #[.slice none 0 0, .slice none 0 0] ∧ Blk W (w.heap.size + 1) 26 #[.slice Ak nk ck, .slice Br nr cr] ∧ Below w.heap.size w W ∧ MoOwn W (w.heap.size + 2) ⟨ks, rs⟩ (.slice Ak nk ck) (.slice Br nr cr)) ⟨G2.out.far _ _ _ (by omega), G3.out.store 1 _, HB.out.setCell (show w.heap.size ≤ w.heap.size + 1 by omega) _, ⟨HO.out.kept HG.out (.inr fun e => by have := HO.out.base_le _ e; omega), HRR.out.kept HG.out (.inr fun e => by have := HRR.out.base_le' _ e; omega), HAP.out⟩⟩ ?_
        clear p1 f1 G2 G3 HB HO HG HSZ HRR HAP
        rintro W5 ⟨g2, g3, hb, ho⟩
        have G2 := Lib.hid g2; have G3 := Lib.hid g3; have HB := Lib.hid hb; have HO := Lib.hid ho
        clear g2 g3 hb ho
        go_wp2_with ((with_reducible show wpList _ _ _ _ _ _); first | refine wpList_load_row rfl 26 _ rfl (w.heap.size + 1) rfl 26 #[.slice Ak nk ck, .slice Br nr cr] (0, 0) _ G3.out hu rfl (by kernel_rfl) ?_ | refine wpList_store_row rfl 26 _ _ rfl (w.heap.size) #[.slice Ak nk ck, .slice Br nr cr] rfl rfl 26 _ G2.out (by kernel_rfl) rfl (moOne HO.out.keys HO.out.rows) ?_)
        refine post_gen (fun X => Blk X w.heap.size 26 #[.slice Ak nk ck, .slice Br nr cr] ∧ Below w.heap.size w X ∧ MoOwn X w.heap.size ⟨ks, rs⟩ (.slice Ak nk ck) (.slice Br nr cr)) ⟨setRow_heap _ _ _ _ _ _ G2.out, below_setRow' HB.out (Nat.le_refl _) _, ⟨(HO.out.keys.kept (setRow_grown _ _ _) (.inr fun e => by have := HO.out.keys.base_le _ e; omega)).base (by omega), OwnR.low (HO.out.rows.kept (setRow_grown _ _ _) (.inr fun e => by have := HO.out.rows.base_le' _ e; omega)) (by omega), HO.out.ap⟩⟩ ?_
        rintro X ⟨h1, hb, hm⟩
        exact bodyPost_ret (v := .agg #[.slice Ak nk ck, .slice Br nr cr]) (results_cell1 rfl _ _ _ _ _ _ rfl h1 hu rfl (by kernel_rfl)) rfl ⟨_, _, rfl, by rw [HE.out]; exact hm, hb⟩
end Go.Proofs.YtlnkjpacjbhncaaGreatDoor

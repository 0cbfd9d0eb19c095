/-
  Chapter 13: the model's l13Register, l13Record and ModelDo.
-/
import Derived.Test.YtbhhhakfjmaglaaGreatModW
import Derived.Test.YtbhhhakfjmaglaaGreatModO
import Derived.Test.YtbhhhakfjmaglaaGreatRowM
import Derived.Test.YtbhhhakfjmaglaaGreatOpS
namespace Go.Proofs.YtbhhhakfjmaglaaGreat
open Go.RowKit M
set_option linter.unusedVariables false
set_option linter.unusedSimpArgs false
theorem results_cellM {P : Program} {fn : Func} {p q : Tmp} {ty : TypeId} (h : fn.results = #[.cell p ty, .tmp q]) (tmps : Array Value) (w : World) (g : Nat) (t : TypeId) (cs : Array Value) (x : Value) (d : TypeDesc)
    (hp : tmps.getD p undef = .pointer (some ⟨g, 0, none⟩)) (hg : Blk w g t cs)
    (hu : P.underlying ty = some d) (hd : (match d with | .struct _ | .array _ _ => true | _ => false) = true) (hi : (P.info? ty).map (·.size) = some cs.size) (hq : tmps.getD q undef = x) :
    (results fn tmps).run P w = .ok (.tuple #[.agg cs, x]) w := by
  have hp' : tmps[p]?.getD undef = .pointer (some ⟨g, 0, none⟩) := by simpa using hp
  have hq' : tmps[q]?.getD undef = x := by simpa using hq
  simp [results, h, hp', hq', asAddr, run_loadVar_row w g t ty cs (0, 0) d hg hu hd hi]
theorem results_cellM3 {P : Program} {fn : Func} {p q r : Tmp} {ty : TypeId} (h : fn.results = #[.cell p ty, .tmp q, .tmp r]) (tmps : Array Value) (w : World) (g : Nat) (t : TypeId) (cs : Array Value) (x y : Value) (d : TypeDesc)
    (hp : tmps.getD p undef = .pointer (some ⟨g, 0, none⟩)) (hg : Blk w g t cs)
    (hu : P.underlying ty = some d) (hd : (match d with | .struct _ | .array _ _ => true | _ => false) = true) (hi : (P.info? ty).map (·.size) = some cs.size) (hq : tmps.getD q undef = x) (hr : tmps.getD r undef = y) :
    (results fn tmps).run P w = .ok (.tuple #[.agg cs, x, y]) w := by
  have hp' : tmps[p]?.getD undef = .pointer (some ⟨g, 0, none⟩) := by simpa using hp
  have hq' : tmps[q]?.getD undef = x := by simpa using hq
  have hr' : tmps[r]?.getD undef = y := by simpa using hr
  simp [results, h, hp', hq', hr', asAddr, run_loadVar_row w g t ty cs (0, 0) d hg hu hd hi]
/-- A call hands back a model of its own (from B on) and a code. -/
def MadeMC (w : World) (B : Nat) (p : Mo × Int) (e : Ending) (w' : World) : Prop := ∃ vk vr, e = .returned (.tuple #[.agg #[vk, vr], .int .i64 p.2]) ∧ MoOwn w' B p.1 vk vr ∧ Below w.heap.size w w'
/-- v's block is none of the blocks n, n+1, n+2. -/
def Away (n : Nat) (v : Value) : Prop := ∀ k, v.ownBlock = some k → k < n ∨ n + 3 ≤ k
theorem MoOwn.away {w : World} {B : Nat} {m : Mo} {vk vr : Value} (h : MoOwn w B m vk vr) : Away w.heap.size vk ∧ Away w.heap.size vr := ⟨fun k hk => .inl (h.keys.lt k hk), fun k hk => .inl (h.rows.lt k hk)⟩
theorem MoOwn.farA {w w' : World} {B n g : Nat} {m : Mo} {vk vr : Value} (h : MoOwn w B m vk vr) (ak : Away n vk ∧ Away n vr) (hg : w.grownBy w' (some g)) (h1 : n ≤ g) (h2 : g < n + 3) : MoOwn w' B m vk vr :=
  ⟨h.keys.kept hg (.inr fun e => by have := ak.1 g e; omega), h.rows.kept hg (.inr fun e => by have := ak.2 g e; omega), h.ap⟩
theorem MoOwn.newKeys {w w' : World} {B : Nat} {m : Mo} {vk vr uk : Value} {ks : List KR} (h : MoOwn w B m vk vr) (hb : Below w.heap.size w w') (hk : OwnF 40 2 krCells w' w.heap.size uk ks) (hB : B ≤ w.heap.size) : MoOwn w' B ⟨ks, m.rows⟩ uk vr :=
  ⟨hk.base hB, h.rows.below hb, (Ap.of (B := w.heap.size) (v := vr) (u := uk) (fun k hk' => h.rows.lt k hk') (fun k hk' => hk.base_le k hk')).2⟩
theorem MoOwn.newRows {w w' : World} {B : Nat} {m : Mo} {vk vr ur : Value} {rs : List R} (h : MoOwn w B m vk vr) (hb : Below w.heap.size w w') (hr : OwnR w' w.heap.size ur rs) (hB : B ≤ w.heap.size) : MoOwn w' B ⟨m.keys, rs⟩ vk ur :=
  ⟨h.keys.below hb, hr.low hB, (Ap.of (B := w.heap.size) (v := vk) (u := ur) (fun k hk' => h.keys.lt k hk') (fun k hk' => hr.base_le' k hk')).1⟩
theorem mo_one2 {w : World} {b : Nat} {m : Mo} {vk vr : Value} (h : MoOwn w b m vk vr) : Array.all #[vk, vr] (·.oneCell') = true := by
  have h1 := own_one h.keys
  have h2 := own_one h.rows
  simp [h1, h2]
set_option maxRecDepth 100000 in
set_option maxHeartbeats 8000000 in
theorem sMoReg_any (w : World) (B : Nat) (m : Mo) (o : O) (vk vr : Value) (h : MoOwn w B m vk vr) (hB : B ≤ w.heap.size) (hl : m.keys.length ≤ 1048576) : Calls Tryz.prog 40 #[.agg #[vk, vr], o.v] w (MadeMC w B (regV m o)) := by
  have CK := fun W (h : MoIn W m vk vr) => Lib.hid (sModelKind_any W m vk vr o.key h)
  have CP := fun W (h : RecsArg 2 krCells zeroKR W vk m.keys) => Lib.hid (sKeyPut_any W vk m.keys ⟨o.key, o.what⟩ h hl)
  have HV := Lib.hid (show regV m o = if mKindV o.key m.keys = o.what then (m, 0) else if mKindV o.key m.keys ≠ 0 then (m, 4) else if m.keys.length = 4 then (m, 3) else (⟨insK ⟨o.key, o.what⟩ m.keys, m.rows⟩, 0) from rfl)
  have hu := Tryz.underlying27
  obtain ⟨Ak, nk, ck, rfl⟩ := own_slice h.keys
  obtain ⟨Ar, nr, cr, rfl⟩ := own_slice h.rows
  have hkn : m.keys.length = nk := by obtain ⟨A, c, e⟩ := h.keys.shape; injection e with _ e2; exact e2.symm
  have HO0 := Lib.hid h
  have HAW := Lib.hid h.away
  have HBB := Lib.hid hB
  clear h hl hB
  generalize regV m o = res at *
  generalize mKindV o.key m.keys = mk at *
  rw [hkn] at HV
  clear hkn
  obtain ⟨okind, okey, owhat, oval⟩ := o
  unfold O.v
  simp only at *
  go_enter Tryz.func40, Tryz.ntmps40
  go_upto_region 1 with fail
  refine wp_gen (fun W => Blk W w.heap.size 27 #[(.slice Ak nk ck), (.slice Ar nr cr)] ∧ Blk W (w.heap.size + 1) 29 #[.int .i64 okind, .string okey, .int .i64 owhat, .int .i64 oval] ∧ Blk W (w.heap.size + 2) 27 #[.slice none 0 0, .slice none 0 0] ∧ Below w.heap.size w W) ⟨((Blk.new w _ _ _ rfl).alloc _).alloc _, (Blk.new _ _ _ _ (by simp [go_sem])).alloc _, Blk.new _ _ _ _ (by simp [go_sem]), (((Below.refl _ _).alloc (Nat.le_refl _) _).alloc (by simp [go_sem]) _).alloc (by simp [go_sem]; omega) _⟩ ?_
  rintro W ⟨g0, g1, g2, hb⟩
  have HSZ := Lib.hid (show w.heap.size + 3 ≤ W.heap.size from g2.lt)
  have G0 := Lib.hid g0; have G1 := Lib.hid g1; have G2 := Lib.hid g2; have HB := Lib.hid hb; have HO := Lib.hid (HO0.out.below hb)
  clear g0 g1 g2 hb
  have p0 := G0.out.get 0; have p1 := G0.out.get 1
  simp at p0 p1
  have q0 := G1.out.get 0
  simp at q0
  have q1 := G1.out.get 1
  simp at q1
  have q2 := G1.out.get 2
  simp at q2
  have q3 := G1.out.get 3
  simp at q3
  go_wp2_with fail
  refine (CK _ HO.out.win).out.mono ?_
  rintro e W1 ⟨rfl, hb⟩
  clear p0 p1 q0 q1 q2 q3
  replace G0 := Lib.hid (G0.out.below hb); replace G1 := Lib.hid (G1.out.below hb); replace G2 := Lib.hid (G2.out.below hb); replace HB := Lib.hid (HB.out.trans (hb.mono HB.out.size)); replace HSZ := Lib.hid (Nat.le_trans HSZ.out hb.size)
  replace HO := Lib.hid (HO.out.below hb)
  clear hb CK
  have p0 := G0.out.get 0; have p1 := G0.out.get 1
  simp at p0 p1
  have q0 := G1.out.get 0
  simp at q0
  have q1 := G1.out.get 1
  simp at q1
  have q2 := G1.out.get 2
  simp at q2
  have q3 := G1.out.get 3
  simp at q3
  by_cases c1 : mk = owhat
  · have d1 : (mk == owhat) = true := by rw [beq_iff_eq]; exact c1
    have HR := Lib.hid (HV.out.trans (if_pos c1))
    clear c1 HV
    go_wp2_with ((with_reducible show wpList _ _ _ _ _ _); first | refine wpList_load_row rfl 27 _ rfl (w.heap.size) rfl 27 #[(.slice Ak nk ck), (.slice Ar nr cr)] (0, 0) _ G0.out hu rfl (by kernel_rfl) ?_ | refine wpList_store_row rfl 27 _ _ rfl (w.heap.size + 2) #[(.slice Ak nk ck), (.slice Ar nr cr)] rfl rfl 27 _ G2.out (by kernel_rfl) rfl (mo_one2 HO.out) ?_)
    refine post_gen (fun X => Blk X (w.heap.size + 2) 27 #[(.slice Ak nk ck), (.slice Ar nr cr)] ∧ Below w.heap.size w X ∧ MoOwn X B m (.slice Ak nk ck) (.slice Ar nr cr)) ⟨setRow_heap _ _ _ _ _ _ G2.out, below_setRow' HB.out (by omega) _, HO.out.farA HAW.out (setRow_grown _ _ _) (by omega) (by omega)⟩ ?_
    rintro X ⟨h1, hb, hm⟩
    exact bodyPost_ret (v := .tuple #[.agg #[(.slice Ak nk ck), (.slice Ar nr cr)], .int .i64 (0)]) (results_cellM rfl _ _ _ _ _ _ _ rfl h1 hu rfl (by kernel_rfl) rfl) rfl ⟨_, _, by rw [HR.out], by rw [HR.out]; exact hm, hb⟩
  · have d1 : (mk == owhat) = false := by rw [beq_eq_false_iff_ne]; exact c1
    have HV2 := Lib.hid (HV.out.trans (if_neg c1))
    clear HV
    by_cases c2 : mk ≠ 0
    · have d2 : (mk == 0) = false := by rw [beq_eq_false_iff_ne]; exact c2
      have HR := Lib.hid (HV2.out.trans (if_pos c2))
      clear c1 c2 HV2
      go_wp2_with ((with_reducible show wpList _ _ _ _ _ _); first | refine wpList_load_row rfl 27 _ rfl (w.heap.size) rfl 27 #[(.slice Ak nk ck), (.slice Ar nr cr)] (0, 0) _ G0.out hu rfl (by kernel_rfl) ?_ | refine wpList_store_row rfl 27 _ _ rfl (w.heap.size + 2) #[(.slice Ak nk ck), (.slice Ar nr cr)] rfl rfl 27 _ G2.out (by kernel_rfl) rfl (mo_one2 HO.out) ?_)
      refine post_gen (fun X => Blk X (w.heap.size + 2) 27 #[(.slice Ak nk ck), (.slice Ar nr cr)] ∧ Below w.heap.size w X ∧ MoOwn X B m (.slice Ak nk ck) (.slice Ar nr cr)) ⟨setRow_heap _ _ _ _ _ _ G2.out, below_setRow' HB.out (by omega) _, HO.out.farA HAW.out (setRow_grown _ _ _) (by omega) (by omega)⟩ ?_
      rintro X ⟨h1, hb, hm⟩
      exact bodyPost_ret (v := .tuple #[.agg #[(.slice Ak nk ck), (.slice Ar nr cr)], .int .i64 (4)]) (results_cellM rfl _ _ _ _ _ _ _ rfl h1 hu rfl (by kernel_rfl) rfl) rfl ⟨_, _, by rw [HR.out], by rw [HR.out]; exact hm, hb⟩
    · have c2' : mk = 0 := Decidable.not_not.1 c2
      have d2 : (mk == 0) = true := by rw [beq_iff_eq]; exact c2'
      have HV3 := Lib.hid (HV2.out.trans (if_neg c2))
      clear HV2 c1 c2 c2'
      by_cases c3 : nk = 4
      · have d3 : ((nk : Int) == 4) = true := by rw [beq_iff_eq]; omega
        have HR := Lib.hid (HV3.out.trans (if_pos c3))
        clear c3 HV3
        go_wp2_with ((with_reducible show wpList _ _ _ _ _ _); first | refine wpList_load_row rfl 27 _ rfl (w.heap.size) rfl 27 #[(.slice Ak nk ck), (.slice Ar nr cr)] (0, 0) _ G0.out hu rfl (by kernel_rfl) ?_ | refine wpList_store_row rfl 27 _ _ rfl (w.heap.size + 2) #[(.slice Ak nk ck), (.slice Ar nr cr)] rfl rfl 27 _ G2.out (by kernel_rfl) rfl (mo_one2 HO.out) ?_)
        refine post_gen (fun X => Blk X (w.heap.size + 2) 27 #[(.slice Ak nk ck), (.slice Ar nr cr)] ∧ Below w.heap.size w X ∧ MoOwn X B m (.slice Ak nk ck) (.slice Ar nr cr)) ⟨setRow_heap _ _ _ _ _ _ G2.out, below_setRow' HB.out (by omega) _, HO.out.farA HAW.out (setRow_grown _ _ _) (by omega) (by omega)⟩ ?_
        rintro X ⟨h1, hb, hm⟩
        exact bodyPost_ret (v := .tuple #[.agg #[(.slice Ak nk ck), (.slice Ar nr cr)], .int .i64 (3)]) (results_cellM rfl _ _ _ _ _ _ _ rfl h1 hu rfl (by kernel_rfl) rfl) rfl ⟨_, _, by rw [HR.out], by rw [HR.out]; exact hm, hb⟩
      · have d3 : ((nk : Int) == 4) = false := by rw [beq_eq_false_iff_ne]; omega
        have HR := Lib.hid (HV3.out.trans (if_neg c3))
        clear c3 HV3
        go_wp2_with fail
        have HSZ1 := HSZ
        refine (CP _ HO.out.win.keys).out.mono ?_
        rintro e W2 ⟨uk, rfl, hk, hb⟩
        clear p0 p1 q0 q1 q2 q3
        replace G0 := Lib.hid (G0.out.below hb); replace G1 := Lib.hid (G1.out.below hb); replace G2 := Lib.hid (G2.out.below hb); replace HB := Lib.hid (HB.out.trans (hb.mono HB.out.size)); replace HSZ := Lib.hid (Nat.le_trans HSZ.out hb.size)
        have HAK := Lib.hid (show Away w.heap.size uk ∧ Away w.heap.size (.slice Ar nr cr) from ⟨fun k hk' => .inr (Nat.le_trans HSZ1.out (hk.base_le k hk')), HAW.out.2⟩)
        replace HO := Lib.hid (HO.out.newKeys hb hk (Nat.le_trans HBB.out (by have := HSZ1.out; omega)))
        obtain ⟨Bk, mk9, dk, rfl⟩ := own_slice hk
        clear hb hk HAW CP
        have HAW := HAK
        clear HAK
        have p0 := G0.out.get 0; have f0 := G0.out.frz 0
        simp at p0
        have HG := Lib.hid (row_store G0.out 0 (.slice Bk mk9 dk))
        go_upto_region 9 with fail
        refine wp_gen (fun W => Blk W w.heap.size 27 #[(.slice Bk mk9 dk), (.slice Ar nr cr)] ∧ Blk W (w.heap.size + 2) 27 #[.slice none 0 0, .slice none 0 0] ∧ Below w.heap.size w W ∧ MoOwn W B ⟨insK ⟨okey, owhat⟩ m.keys, m.rows⟩ (.slice Bk mk9 dk) (.slice Ar nr cr)) ⟨G0.out.store 0 _, G2.out.far _ _ _ (by omega), HB.out.setCell (Nat.le_refl _) _, HO.out.farA HAW.out HG.out (Nat.le_refl _) (by omega)⟩ ?_
        clear p0 f0 G0 G1 G2 HB HO HG HSZ HSZ1
        rintro W5 ⟨g0, g2, hb, ho⟩
        have G0 := Lib.hid g0; have G2 := Lib.hid g2; have HB := Lib.hid hb; have HO := Lib.hid ho
        clear g0 g2 hb ho
        go_wp2_with ((with_reducible show wpList _ _ _ _ _ _); first | refine wpList_load_row rfl 27 _ rfl (w.heap.size) rfl 27 #[(.slice Bk mk9 dk), (.slice Ar nr cr)] (0, 0) _ G0.out hu rfl (by kernel_rfl) ?_ | refine wpList_store_row rfl 27 _ _ rfl (w.heap.size + 2) #[(.slice Bk mk9 dk), (.slice Ar nr cr)] rfl rfl 27 _ G2.out (by kernel_rfl) rfl (mo_one2 HO.out) ?_)
        refine post_gen (fun X => Blk X (w.heap.size + 2) 27 #[(.slice Bk mk9 dk), (.slice Ar nr cr)] ∧ Below w.heap.size w X ∧ MoOwn X B ⟨insK ⟨okey, owhat⟩ m.keys, m.rows⟩ (.slice Bk mk9 dk) (.slice Ar nr cr)) ⟨setRow_heap _ _ _ _ _ _ G2.out, below_setRow' HB.out (by omega) _, HO.out.farA HAW.out (setRow_grown _ _ _) (by omega) (by omega)⟩ ?_
        rintro X ⟨h1, hb, hm⟩
        exact bodyPost_ret (v := .tuple #[.agg #[(.slice Bk mk9 dk), (.slice Ar nr cr)], .int .i64 (0)]) (results_cellM rfl _ _ _ _ _ _ _ rfl h1 hu rfl (by kernel_rfl) rfl) rfl ⟨_, _, by rw [HR.out], by rw [HR.out]; exact hm, hb⟩
end Go.Proofs.YtbhhhakfjmaglaaGreat

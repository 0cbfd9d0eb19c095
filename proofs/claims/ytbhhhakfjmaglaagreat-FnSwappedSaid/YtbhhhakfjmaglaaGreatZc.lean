/-
  Several small texts of this proof, one behind another: each says ahead of itself what it proves.
-/
import Derived.Test.YtbhhhakfjmaglaaGreatZb
import Derived.Test.YtbhhhakfjmaglaaGreatZa
import Derived.Test.YtbhhhakfjmaglaaGreatRwsC
/-
  A model of chapter 13 as a value: an argument opened; the exact laws' copy of it, its size, comparing two.
-/
namespace Go.Proofs.YtbhhhakfjmaglaaGreat.M
open Go.RowKit
structure Mo.Fit (m : Mo) : Prop where
  keys : ∀ j, j < m.keys.length → (m.keys.getD j zeroKR).Fit
  rows : Go.Proofs.YtbhhhakfjmaglaaGreat.FitR m.rows
end Go.Proofs.YtbhhhakfjmaglaaGreat.M
namespace Go.Proofs.YtbhhhakfjmaglaaGreat
open Go.ChangeShapes Go.WideShapes Go.Deep Go.RowKit M
set_option linter.unusedVariables false
set_option linter.unusedSimpArgs false
/-- The two slices read as the model. -/
structure MoIn (w : World) (m : Mo) (vk vr : Value) : Prop where
  keys : RecsArg 2 krCells zeroKR w vk m.keys
  rows : RowsArg w vr m.rows
theorem MoIn.below {w w' : World} {m : Mo} {vk vr : Value} (h : MoIn w m vk vr) (hb : Below w.heap.size w w') : MoIn w' m vk vr := ⟨h.keys.below hb, h.rows.below hb⟩
theorem OwnR.low {w : World} {base base' : Nat} {v : Value} {rs : List R} (h : OwnR w base v rs) (hb : base' ≤ base) : OwnR w base' v rs := by
  rcases h.2 with ⟨e, h0⟩ | ⟨g, cap, cur, e, h1, h2⟩
  · exact ⟨h.1, .inl ⟨e, h0⟩⟩
  · exact ⟨h.1, .inr ⟨g, cap, cur, e, Nat.le_trans hb h1, h2⟩⟩
/-- The two slices are a call's own, apart from one another. -/
structure MoOwn (w : World) (base : Nat) (m : Mo) (vk vr : Value) : Prop where
  keys : OwnF 40 2 krCells w base vk m.keys
  rows : OwnR w base vr m.rows
  ap : Ap vk vr
theorem MoOwn.below {w w' : World} {base : Nat} {m : Mo} {vk vr : Value} (h : MoOwn w base m vk vr) (hb : Below w.heap.size w w') : MoOwn w' base m vk vr := ⟨h.keys.below hb, h.rows.below hb, h.ap⟩
theorem MoOwn.win {w : World} {base : Nat} {m : Mo} {vk vr : Value} (h : MoOwn w base m vk vr) : MoIn w m vk vr := ⟨h.keys.arg sizeKRow zeroKR, h.rows.arg⟩
theorem MoOwn.base {w : World} {b b' : Nat} {m : Mo} {vk vr : Value} (h : MoOwn w b m vk vr) (hb : b' ≤ b) : MoOwn w b' m vk vr := ⟨h.keys.base hb, OwnR.low h.rows hb, h.ap⟩
def MadeMo (w : World) (m : Mo) (e : Ending) (w' : World) : Prop := ∃ vk vr, e = .returned (.agg #[vk, vr]) ∧ MoOwn w' w.heap.size m vk vr ∧ Below w.heap.size w w'
section
variable {H : Type} {enc : TypeId × Value → H} {w : World} {base : Nat} {spare : Nat → Bool} {held : Bool} {fuel : Nat} {x : DataW H × List MemPlace} {c : Value}
set_option maxRecDepth 100000 in
theorem rd_krow {cs : List Value} (hsz : cs.length = 2) (h : DataW.trod enc Tryz.prog w base spare held fuel 104 cs = some x) : ∃ r : KR, cs = (krCells r).toList ∧ r.Fit := by
  obtain ⟨xs, n, _, _, hlen, hxl, hg⟩ := DataW.trod_struct Tryz.underlying104 h
  have hx : xs.length = 2 := hxl
  match cs, hsz with
  | [c0, c1], _ =>
    obtain ⟨y0, h0⟩ := field_readN hg (i := 0) rfl (by omega) (k := 0) rfl (m := 1) (by kernel_rfl)
    obtain ⟨y1, h1⟩ := field_readN hg (i := 1) rfl (by omega) (k := 1) rfl (m := 1) (by kernel_rfl)
    obtain ⟨x0, f0, rfl⟩ := rd_str (c := c0) h0
    obtain ⟨x1, f1, rfl⟩ := rd_int (c := c1) h1
    exact ⟨⟨x0, x1⟩, rfl, ⟨f0, f1⟩⟩
set_option maxRecDepth 100000 in
theorem rd_krows (h : DataW.trod enc Tryz.prog w base spare held fuel 45 [c] = some x) : ∃ l, RecsArg 2 krCells zeroKR w c l ∧ ∀ j, j < l.length → (l.getD j zeroKR).Fit := by
  obtain ⟨l, A, cap, rfl, h1, h2, h3⟩ := open_elts (F := 2) Tryz.underlying45 (by kernel_rfl) (by decide) zeroKR (fun cs r => cs = (krCells r).toList ∧ r.Fit) (fun fuel cs x hl ht => rd_krow hl ht) h
  refine ⟨l, ⟨A, cap, rfl, h1, h2, fun hp => ?_⟩, fun j hj => ?_⟩
  · obtain ⟨b, off, ea, h4, h5⟩ := h3 hp
    refine ⟨b, off, ea, h4, fun j hj k hk => ?_⟩
    obtain ⟨cs, _, hc, rfl, _⟩ := h5 j hj
    rw [hc k hk, Array.getElem?_toList]
  · obtain ⟨b, off, _, _, h5⟩ := h3 (by omega)
    obtain ⟨cs, _, _, _, hw⟩ := h5 j hj
    exact hw
set_option maxRecDepth 100000 in
theorem rd_model {cs : List Value} (hsz : cs.length = 2) (h : DataW.trod enc Tryz.prog w base spare held fuel 48 cs = some x) : ∃ (m : Mo) (vk vr : Value), cs = [vk, vr] ∧ MoIn w m vk vr ∧ m.Fit := by
  obtain ⟨xs, n, _, _, hlen, hxl, hg⟩ := DataW.trod_struct Tryz.underlying48 h
  have hx : xs.length = 2 := hxl
  match cs, hsz with
  | [c0, c1], _ =>
    obtain ⟨y0, h0⟩ := field_readN hg (i := 0) rfl (by omega) (k := 0) rfl (m := 1) (by kernel_rfl)
    obtain ⟨y1, h1⟩ := field_readN hg (i := 1) rfl (by omega) (k := 1) rfl (m := 1) (by kernel_rfl)
    obtain ⟨x0, a0, f0⟩ := rd_krows (c := c0) h0
    obtain ⟨x1, a1, f1⟩ := rd_rows (c := c1) h1
    exact ⟨⟨x0, x1⟩, c0, c1, rfl, ⟨a0, a1⟩, ⟨f0, f1⟩⟩
end
section
variable {H : Type} {enc : TypeId × Value → H} {w : World} {base : Nat} {spare : Nat → Bool} {held : Bool} {r : Reach} {b0 : Nat} {v : Value} {d : DataW H} {p : List MemPlace}
set_option maxRecDepth 100000 in
theorem open_model (hv : Value.okWide Tryz.prog w r b0 48 v) (h : DataW.Trod enc Tryz.prog w base spare held 48 v d p) : ∃ (m : Mo) (vk vr : Value), v = .agg #[vk, vr] ∧ MoIn w m vk vr ∧ m.Fit := by
  obtain ⟨cs, rfl, hsz⟩ := okWide_struct Tryz.underlying48 hv
  obtain ⟨fuel, hf⟩ := h
  have hC : Tryz.prog.cellsOf 48 = 2 := by kernel_rfl
  rw [hC] at hsz
  obtain ⟨m, vk, vr, hx, hin, hfit⟩ := rd_model (cs := cs.toList) (by simpa using hsz) hf
  obtain rfl : cs = #[vk, vr] := Array.ext' hx
  exact ⟨m, vk, vr, rfl, hin, hfit⟩
end
theorem OwnF.keptG {α : Type} {t : TypeId} {F : Nat} {c : α → Array Value} {w w' : World} {base g : Nat} {v : Value} {l : List α} (h : OwnF t F c w base v l) (hg : w.grownBy w' (some g)) (hb : g < base) : OwnF t F c w' base v l :=
  h.kept hg (.inr fun e => by have := h.base_le g e; omega)
theorem OwnR.base_le' {w : World} {base : Nat} {v : Value} {l : List R} (h : OwnR w base v l) : ∀ k, v.ownBlock = some k → base ≤ k := fun k hk => (World.ownsRow.lt h k hk).1
theorem OwnR.keptG {w w' : World} {base g : Nat} {v : Value} {l : List R} (h : OwnR w base v l) (hg : w.grownBy w' (some g)) (hb : g < base) : OwnR w' base v l :=
  h.kept hg (.inr fun e => by have := h.base_le' g e; omega)
theorem ap_of {v u : Value} {e : Nat} (h1 : ∀ k, v.ownBlock = some k → k < e) (h2 : ∀ k, u.ownBlock = some k → e ≤ k) : Ap v u := by
  unfold Ap
  cases hv : v.ownBlock with
  | none => exact .inl rfl
  | some k => exact .inr fun e2 => by have := h1 k hv; have := h2 k e2.symm; omega
theorem setRow_grown (w : World) (g : Nat) (cs : Array Value) : w.grownBy (w.setRow g cs) (some g) := by
  have h := chg_setRow w g cs
  exact ⟨h.os, h.tape, h.output, h.size, fun i hi hne => h.block i hi (fun k => hne (by have h1 := k.1; have h2 := k.2; congr 1; omega))⟩
set_option maxRecDepth 100000 in
set_option maxHeartbeats 4000000 in
theorem toModel_any (w : World) (m : Mo) (vk vr : Value) (h : MoIn w m vk vr) (hk : m.keys.length ≤ 1048576) (hr : m.rows.length ≤ 1048576) : Calls Tryz.prog 21 #[.agg #[vk, vr]] w (MadeMo w m) := by
  have CK := fun W (h : RecsArg 2 krCells zeroKR W vk m.keys) => Lib.hid (toKRowS_any W vk m.keys h hk)
  have CR := fun W (h : RowsArg W vr m.rows) => Lib.hid (toRowS_any W vr m.rows h hr)
  have HK := Lib.hid h.keys
  have HR := Lib.hid h.rows
  obtain ⟨⟨Ak, ck, rfl, _, _, _⟩, ⟨Ar, cr, rfl, _, _, _⟩⟩ := h
  clear hk hr
  obtain ⟨keys, rows⟩ := m
  simp only at *
  generalize hnk : keys.length = nk at *
  have HNk := Lib.hid hnk
  clear hnk
  generalize hnr : rows.length = nr at *
  have HNr := Lib.hid hnr
  clear hnr
  go_enter Tryz.func21, Tryz.ntmps21
  go_upto_region 2 with fail
  refine wp_gen (fun W => Blk W w.heap.size 48 #[.slice Ak nk ck, .slice Ar nr cr] ∧ Blk W (w.heap.size + 1) 27 #[.slice none 0 0, .slice none 0 0] ∧ Blk W (w.heap.size + 2) 27 #[.slice none 0 0, .slice none 0 0] ∧ Below w.heap.size w W ∧ w.heap.size + 3 ≤ W.heap.size) ⟨((Blk.new w _ _ _ rfl).alloc _).alloc _, (Blk.new _ _ _ _ (by simp [go_sem])).alloc _, Blk.new _ _ _ _ (by simp [go_sem]), (((Below.refl _ _).alloc (Nat.le_refl _) _).alloc (by simp [go_sem]) _).alloc (by simp [go_sem]; omega) _, by simp [go_sem]⟩ ?_
  rintro W ⟨h0, h1, h2, hb, hz⟩
  have G0 := Lib.hid h0; have G1 := Lib.hid h1; have G2 := Lib.hid h2; have HB := Lib.hid hb; have HZ := Lib.hid hz
  have q := h0.get 0
  simp at q
  have HC := Lib.hid (CK W (HK.out.below hb)).out
  clear h0 h1 h2 hb hz
  go_wp2_with fail
  refine HC.out.mono ?_
  rintro e w2 ⟨u, rfl, ho, hb2⟩
  clear HC q
  have ho' := ho.base HZ.out
  obtain ⟨Bk, dk, rfl⟩ := ho'.shape
  rw [HNk.out] at ho' ⊢
  obtain ⟨e1, he1⟩ : ∃ e, w2.heap.size = e := ⟨_, rfl⟩
  have HO := Lib.hid (show OwnF 40 2 krCells w2 (w.heap.size + 3) (.slice Bk nk dk) keys ∧ ∀ k, (Value.slice Bk nk dk).ownBlock = some k → k < e1 from ⟨ho', fun k hk => by have := ho'.lt k hk; omega⟩)
  have HE := Lib.hid (show e1 ≤ w2.heap.size from Nat.le_of_eq he1.symm)
  have HE3 := Lib.hid (show w.heap.size + 3 ≤ e1 from by have := HZ.out; have := hb2.size; omega)
  replace G0 := Lib.hid (G0.out.below hb2); replace G1 := Lib.hid (G1.out.below hb2); replace G2 := Lib.hid (G2.out.below hb2); replace HB := Lib.hid (HB.out.trans (hb2.mono HB.out.size))
  clear ho ho' hb2 he1 HZ
  have z0 := G2.out.get 0
  simp at z0
  have fz := G2.out.frz 0
  have HG := Lib.hid (row_store G2.out 0 (.slice Bk nk dk))
  go_upto_region 3 with fail
  refine wp_gen (fun W => Blk W w.heap.size 48 #[.slice Ak nk ck, .slice Ar nr cr] ∧ Blk W (w.heap.size + 1) 27 #[.slice none 0 0, .slice none 0 0] ∧ Blk W (w.heap.size + 2) 27 #[.slice Bk nk dk, .slice none 0 0] ∧ Below w.heap.size w W ∧ w.heap.size + 3 ≤ W.heap.size ∧ (OwnF 40 2 krCells W (w.heap.size + 3) (.slice Bk nk dk) keys ∧ ∀ k, (Value.slice Bk nk dk).ownBlock = some k → k < e1) ∧ e1 ≤ W.heap.size) ⟨G0.out.far _ _ _ (by omega), G1.out.far _ _ _ (by omega), G2.out.store 0 _, HB.out.setCell (show w.heap.size ≤ w.heap.size + 2 by omega) _, Nat.le_trans HE3.out (Nat.le_trans HE.out HG.out.size), ⟨HO.out.1.keptG HG.out (by omega), HO.out.2⟩, Nat.le_trans HE.out HG.out.size⟩ ?_
  clear z0 fz G0 G1 G2 HB HE HG HO
  clear w2
  clear W
  rintro W ⟨h0, h1, h2, hb, hz, ho, he⟩
  have G0 := Lib.hid h0; have G1 := Lib.hid h1; have G2 := Lib.hid h2; have HB := Lib.hid hb; have HO := Lib.hid ho; have HZ := Lib.hid he
  have q := h0.get 1
  simp at q
  have HC := Lib.hid (CR W (HR.out.below hb)).out
  clear h0 h1 h2 hb hz ho he
  go_wp2_with fail
  refine HC.out.mono ?_
  rintro e w2 ⟨u, rfl, hr, hb2⟩
  clear HC q
  have hr' := OwnR.low hr HZ.out
  obtain ⟨Br, dr, rfl⟩ : ∃ A c, u = .slice A rows.length c := by
    rcases hr'.2 with ⟨rfl, h0⟩ | ⟨g, cap, cur, rfl, _⟩
    · exact ⟨none, 0, by rw [h0]⟩
    · exact ⟨_, cap, rfl⟩
  rw [HNr.out] at hr' ⊢
  have HOR := Lib.hid hr'
  replace HO := Lib.hid (show OwnF 40 2 krCells w2 (w.heap.size + 3) (.slice Bk nk dk) keys ∧ ∀ k, (Value.slice Bk nk dk).ownBlock = some k → k < e1 from ⟨HO.out.1.below hb2, HO.out.2⟩)
  have HZ2 := Lib.hid (show e1 ≤ w2.heap.size from Nat.le_trans HZ.out hb2.size)
  replace G0 := Lib.hid (G0.out.below hb2); replace G1 := Lib.hid (G1.out.below hb2); replace G2 := Lib.hid (G2.out.below hb2); replace HB := Lib.hid (HB.out.trans (hb2.mono HB.out.size))
  clear hr hr' hb2 HZ
  have z0 := G2.out.get 1
  simp at z0
  have fz := G2.out.frz 1
  have HG := Lib.hid (row_store G2.out 1 (.slice Br nr dr))
  go_upto_region 4 with fail
  refine wp_gen (fun W => Blk W w.heap.size 48 #[.slice Ak nk ck, .slice Ar nr cr] ∧ Blk W (w.heap.size + 1) 27 #[.slice none 0 0, .slice none 0 0] ∧ Blk W (w.heap.size + 2) 27 #[.slice Bk nk dk, .slice Br nr dr] ∧ Below w.heap.size w W ∧ w.heap.size + 3 ≤ W.heap.size ∧ (OwnF 40 2 krCells W (w.heap.size + 3) (.slice Bk nk dk) keys ∧ ∀ k, (Value.slice Bk nk dk).ownBlock = some k → k < e1) ∧ OwnR W e1 (.slice Br nr dr) rows ∧ w.heap.size + 3 ≤ e1) ⟨G0.out.far _ _ _ (by omega), G1.out.far _ _ _ (by omega), G2.out.store 1 _, HB.out.setCell (show w.heap.size ≤ w.heap.size + 2 by omega) _, Nat.le_trans HE3.out (Nat.le_trans HZ2.out HG.out.size), ⟨HO.out.1.keptG HG.out (by omega), HO.out.2⟩, HOR.out.keptG HG.out (by have := HE3.out; omega), HE3.out⟩ ?_
  clear z0 fz G0 G1 G2 HB HG HO HOR HZ2 HE3
  clear w2
  clear W
  rintro W ⟨h0, h1, h2, hb, hz, ho, hr, he⟩
  have G1 := Lib.hid h1; have G2 := Lib.hid h2; have HB := Lib.hid hb; have HO := Lib.hid ho; have HOR := Lib.hid hr; have HE := Lib.hid he
  have hu := Tryz.underlying27
  clear h0 h1 h2 hb hz ho hr he
  go_wp2_with (first | refine wpList_load_row rfl 27 _ rfl (w.heap.size + 2) rfl 27 #[.slice Bk nk dk, .slice Br nr dr] (0, 0) _ G2.out hu rfl (by kernel_rfl) ?_ | refine wpList_store_row rfl 27 _ _ rfl (w.heap.size + 1) #[.slice Bk nk dk, .slice Br nr dr] rfl rfl 27 _ G1.out (by kernel_rfl) rfl (by simp [Value.oneCell']) ?_)
  have HG := Lib.hid (setRow_grown W (w.heap.size + 1) #[.slice Bk nk dk, .slice Br nr dr])
  refine post_gen (fun X => Blk X (w.heap.size + 1) 27 #[.slice Bk nk dk, .slice Br nr dr] ∧ Below w.heap.size w X ∧ MoOwn X w.heap.size ⟨keys, rows⟩ (.slice Bk nk dk) (.slice Br nr dr)) ⟨setRow_heap _ _ _ _ _ _ G1.out, below_setRow' HB.out (by omega) _, (HO.out.1.keptG HG.out (by omega)).base (by omega), OwnR.low (HOR.out.keptG HG.out (by have := HE.out; omega)) (by have := HE.out; omega), ap_of HO.out.2 HOR.out.base_le'⟩ ?_
  clear G1 G2 HB HG HO HOR HE
  rintro X ⟨h1, hb, ho⟩
  exact bodyPost_ret (v := .agg #[.slice Bk nk dk, .slice Br nr dr]) (results_cell_row rfl _ _ _ _ _ (0, 0) _ rfl h1 hu rfl (by kernel_rfl)) rfl ⟨_, _, rfl, ho, hb⟩
set_option maxRecDepth 100000 in
set_option maxHeartbeats 4000000 in
theorem eqModel_same (w : World) (m : Mo) (vk vr uk ur : Value) (h : MoIn w m vk vr) (k : MoIn w m uk ur) : Calls Tryz.prog 23 #[.agg #[vk, vr], .agg #[uk, ur]] w (Gives (.bool true) w) := by
  have HW := Lib.hid h
  have KW := Lib.hid k
  have CK := fun W h k => Lib.hid (eqKRowS_same W vk uk m.keys h k)
  have CR := fun W h k => Lib.hid (eqRowS_same W vr ur m.rows h k)
  clear h k
  go_enter Tryz.func23, Tryz.ntmps23
  go_upto_region 1 with fail
  refine wp_gen (fun W => Blk W w.heap.size 27 #[vk, vr] ∧ Blk W (w.heap.size + 1) 27 #[uk, ur] ∧ Below w.heap.size w W) ⟨(Blk.new w _ _ _ rfl).alloc _, Blk.new _ _ _ _ (by simp [go_sem]), ((Below.refl _ _).alloc (Nat.le_refl _) _).alloc (by simp [go_sem]) _⟩ ?_
  rintro W ⟨h0, h1, hb⟩
  have G0 := Lib.hid h0; have G1 := Lib.hid h1; have HB := Lib.hid hb
  have p0 := h0.get 0; have q0 := h1.get 0
  simp at p0 q0
  clear h0 h1 hb
  go_wp2_with fail
  refine (CK _ (HW.out.below HB.out).keys (KW.out.below HB.out).keys).out.mono ?_
  rintro e w2 ⟨rfl, hb2⟩
  have h0 := G0.out.below hb2; have h1 := G1.out.below hb2
  replace HB := Lib.hid (HB.out.trans (hb2.mono HB.out.size))
  have p1 := h0.get 1; have q1 := h1.get 1
  simp at p1 q1
  clear h0 h1 hb2 G0 G1 p0 q0
  go_wp2_with fail
  refine (CR _ (HW.out.below HB.out).rows (KW.out.below HB.out).rows).out.mono ?_
  rintro e w3 ⟨rfl, hb2⟩
  replace HB := Lib.hid (HB.out.trans (hb2.mono HB.out.size))
  clear hb2 p1 q1
  go_wp2_with fail
  go_ret
  exact ⟨rfl, HB.out⟩
/-- What is left of a budget behind a model's texts and rows. -/
def szMoV (m : Mo) (left : Int) : Int := if szVF (fun r : KR => r.key.size) m.keys left < 0 then -1 else if szV m.rows (szVF (fun r : KR => r.key.size) m.keys left) < 0 then -1 else szV m.rows (szVF (fun r : KR => r.key.size) m.keys left)
theorem szMo_le {m : Mo} {left : Int} (h : 0 ≤ szMoV m left) : (m.keys.length : Int) ≤ left ∧ (m.rows.length : Int) ≤ left ∧ szMoV m left ≤ left := by
  unfold szMoV at *
  by_cases h1 : szVF (fun r : KR => r.key.size) m.keys left < 0
  · rw [if_pos h1] at h; omega
  · rw [if_neg h1] at h ⊢
    have a := szVF_le (s := fun r : KR => r.key.size) (rs := m.keys) (l := left) (by omega)
    by_cases h2 : szV m.rows (szVF (fun r : KR => r.key.size) m.keys left) < 0
    · rw [if_pos h2] at h; omega
    · rw [if_neg h2] at h ⊢
      have b := szV_le (rs := m.rows) (l := szVF (fun r : KR => r.key.size) m.keys left) (by omega)
      omega
set_option maxRecDepth 100000 in
set_option maxHeartbeats 4000000 in
theorem szModel_any (w : World) (m : Mo) (vk vr : Value) (left : Int) (h : MoIn w m vk vr) (hf : m.Fit) (h0 : 0 ≤ left) (h1 : left ≤ 1048576) : Calls Tryz.prog 19 #[.agg #[vk, vr], .int .i64 left] w (Gives (.int .i64 (szMoV m left)) w) := by
  have HW := Lib.hid h
  have CK := fun W h => Lib.hid (szKRowS_any W vk m.keys left h (fun j hj => (hf.keys j hj).key) h0 h1)
  have HSZ := Lib.hid (fun (q : 0 ≤ szVF (fun r : KR => r.key.size) m.keys left) => (szVF_le (s := fun r : KR => r.key.size) (rs := m.keys) (l := left) q).2)
  have CR := fun W x h h0 h1 => Lib.hid (szRowS_any W vr m.rows x h hf.rows.key h0 h1)
  have HV := Lib.hid (show szMoV m left = if szVF (fun r : KR => r.key.size) m.keys left < 0 then -1 else if szV m.rows (szVF (fun r : KR => r.key.size) m.keys left) < 0 then -1 else szV m.rows (szVF (fun r : KR => r.key.size) m.keys left) from rfl)
  clear h hf
  generalize szMoV m left = r at *
  generalize szVF (fun r : KR => r.key.size) m.keys left = s at *
  by_cases hs : s < 0
  · have d1 : decide (s < 0) = true := decide_eq_true hs
    go_enter Tryz.func19, Tryz.ntmps19
    go_upto_region 1 with fail
    refine wp_gen (fun W => Blk W w.heap.size 48 #[vk, vr] ∧ Below w.heap.size w W) ⟨Blk.new w _ _ _ rfl, (Below.refl _ _).alloc (Nat.le_refl _) _⟩ ?_
    rintro W ⟨g0, hb⟩
    have HB := Lib.hid hb
    have q0 := g0.get 0
    simp at q0
    clear hb g0
    go_wp2_with fail
    refine (CK _ (HW.out.below HB.out).keys).out.mono ?_
    rintro e w1 ⟨rfl, hb1⟩
    replace HB := Lib.hid (HB.out.trans (hb1.mono HB.out.size))
    clear hb1 q0
    go_wp2_with fail
    go_ret
    exact ⟨ret_i (by rw [HV.out, if_pos hs]), HB.out⟩
  · have d1 : decide (s < 0) = false := decide_eq_false hs
    have hs1 := HSZ.out (by omega)
    have CR2 := fun W h => Lib.hid (CR W s h (by omega) (by omega)).out
    rw [if_neg hs] at HV
    clear CR
    generalize szV m.rows s = t at *
    by_cases ht : t < 0
    · have d2 : decide (t < 0) = true := decide_eq_true ht
      have HV2 := Lib.hid (HV.out.trans (if_pos ht))
      clear HV
      go_enter Tryz.func19, Tryz.ntmps19
      go_upto_region 1 with fail
      refine wp_gen (fun W => Blk W w.heap.size 48 #[vk, vr] ∧ Below w.heap.size w W) ⟨Blk.new w _ _ _ rfl, (Below.refl _ _).alloc (Nat.le_refl _) _⟩ ?_
      rintro W ⟨g0, hb⟩
      have HB := Lib.hid hb
      have G0 := Lib.hid g0
      have q0 := g0.get 0
      simp at q0
      clear hb g0
      go_wp2_with fail
      refine (CK _ (HW.out.below HB.out).keys).out.mono ?_
      rintro e w1 ⟨rfl, hb1⟩
      replace HB := Lib.hid (HB.out.trans (hb1.mono HB.out.size))
      have g1 := G0.out.below hb1
      have q1 := g1.get 1
      simp at q1
      clear hb1 q0 g1 G0
      go_wp2_with fail
      refine (CR2 _ (HW.out.below HB.out).rows).out.mono ?_
      rintro e w2 ⟨rfl, hb1⟩
      replace HB := Lib.hid (HB.out.trans (hb1.mono HB.out.size))
      clear hb1 q1
      go_wp2_with fail
      go_ret
      exact ⟨ret_i HV2.out.symm, HB.out⟩
    · have d2 : decide (t < 0) = false := decide_eq_false ht
      have HV2 := Lib.hid (HV.out.trans (if_neg ht))
      clear HV
      go_enter Tryz.func19, Tryz.ntmps19
      go_upto_region 1 with fail
      refine wp_gen (fun W => Blk W w.heap.size 48 #[vk, vr] ∧ Below w.heap.size w W) ⟨Blk.new w _ _ _ rfl, (Below.refl _ _).alloc (Nat.le_refl _) _⟩ ?_
      rintro W ⟨g0, hb⟩
      have HB := Lib.hid hb
      have G0 := Lib.hid g0
      have q0 := g0.get 0
      simp at q0
      clear hb g0
      go_wp2_with fail
      refine (CK _ (HW.out.below HB.out).keys).out.mono ?_
      rintro e w1 ⟨rfl, hb1⟩
      replace HB := Lib.hid (HB.out.trans (hb1.mono HB.out.size))
      have g1 := G0.out.below hb1
      have q1 := g1.get 1
      simp at q1
      clear hb1 q0 g1 G0
      go_wp2_with fail
      refine (CR2 _ (HW.out.below HB.out).rows).out.mono ?_
      rintro e w2 ⟨rfl, hb1⟩
      replace HB := Lib.hid (HB.out.trans (hb1.mono HB.out.size))
      clear hb1 q1
      go_wp2_with fail
      go_ret
      exact ⟨ret_i HV2.out.symm, HB.out⟩
end Go.Proofs.YtbhhhakfjmaglaaGreat
/-
  Chapter 13: the model's ModelKind and ModelRow.
-/
namespace Go.Proofs.YtbhhhakfjmaglaaGreat
open Go.RowKit M
set_option linter.unusedVariables false
set_option linter.unusedSimpArgs false
theorem mKind_drop (s : ByteArray) (l : List KR) (j : Nat) (hj : j < l.length) : mKindV s (l.drop j) = if (l.getD j zeroKR).key = s then (l.getD j zeroKR).kind else mKindV s (l.drop (j + 1)) := by
  rw [List.drop_eq_getElem_cons hj, List.getD_eq_getElem?_getD, List.getElem?_eq_getElem hj]; rfl
theorem mFind_drop (s : ByteArray) (z : R) (l : List R) (j : Nat) (hj : j < l.length) : mFindV s z (l.drop j) = if (l.getD j zeroR).key = s then l.getD j zeroR else mFindV s z (l.drop (j + 1)) := by
  rw [List.drop_eq_getElem_cons hj, List.getD_eq_getElem?_getD, List.getElem?_eq_getElem hj]; rfl
theorem dec_txt {a b : ByteArray} (h : a = b) : (a.toList == b.toList) = true := by rw [h]; exact beq_self_eq_true _
set_option maxRecDepth 100000 in
set_option maxHeartbeats 4000000 in
theorem sModelKind_any (w : World) (m : Mo) (vk vr : Value) (s : ByteArray) (h : MoIn w m vk vr) : Calls Tryz.prog 43 #[.agg #[vk, vr], .string s] w (Gives (.int .i64 (mKindV s m.keys)) w) := by
  obtain ⟨A, cap, rfl, h1, h2, h3⟩ := h.keys
  clear h
  obtain ⟨xs, rs⟩ := m
  simp only at *
  unfold maxLen at h2
  have HD := Lib.hid (fun j (hj : j < xs.length) => mKind_drop s xs j hj)
  have HE := Lib.hid (show mKindV s (xs.drop xs.length) = 0 by rw [List.drop_length]; rfl)
  have HV := Lib.hid (show mKindV s xs = mKindV s (xs.drop 0) by rw [List.drop_zero])
  generalize hn : xs.length = n at *
  clear hn
  have H4 := Lib.hid h3
  clear h3
  go_enter Tryz.func43, Tryz.ntmps43
  go_upto_region 1 with fail
  refine wp_gen (fun W => Blk W w.heap.size 27 #[.slice A n cap, vr] ∧ Below w.heap.size w W) ⟨Blk.new w _ _ _ rfl, (Below.refl _ _).alloc (Nat.le_refl _) _⟩ ?_
  rintro W ⟨g0, hb⟩
  have G0 := Lib.hid g0; have HB := Lib.hid hb
  have p0 := g0.get 0
  simp at p0
  clear g0 hb
  go_wp2_with fail
  go_loopw [5] (fun i wr => ∃ j : Nat, j ≤ n ∧ i = .int .i64 j ∧ mKindV s (xs.drop 0) = mKindV s (xs.drop j) ∧ Blk wr w.heap.size 27 #[.slice A n cap, vr] ∧ Below w.heap.size w wr) (fun i _ => n - (intOf i).toNat)
  case atStart => exact ⟨0, Nat.zero_le _, rfl, rfl, G0.out, HB.out⟩
  case round =>
    obtain ⟨j, hj, rfl, he, g0, hbl⟩ := hrel
    clear p0 G0 HB
    have HQ := Lib.hid he
    have G0 := Lib.hid g0
    have p0 := g0.get 0
    simp at p0
    clear he g0
    by_cases hlt : j < n
    · obtain ⟨b, off, rfl, hb, hc⟩ := H4.out (by omega)
      obtain ⟨x0, x1⟩ := atKRow ((hc j hlt).below hb hbl)
      have HDJ := HD.out j hlt
      have HB := Lib.hid hbl
      clear hc hbl
      by_cases hk : (xs.getD j zeroKR).key = s
      · rw [if_pos hk] at HDJ
        have HN := Lib.hid (HV.out.trans (HQ.out.trans HDJ))
        clear HDJ
        generalize xs.getD j zeroKR = r at *
        obtain ⟨key, kind⟩ := r
        simp only at *
        subst hk
        have ym := txt_self key
        go_wp2_with fail
        go_ret
        exact ⟨ret_i HN.out.symm, HB.out⟩
      · rw [if_neg hk] at HDJ
        have HN := Lib.hid (HQ.out.trans HDJ)
        clear HDJ
        generalize xs.getD j zeroKR = r at *
        obtain ⟨key, kind⟩ := r
        simp only at *
        have ym := txt_ne hk
        go_wp2_with fail
        go_roundw
        case rel => exact ⟨j + 1, by omega, by go_num, HN.out, G0.out, HB.out⟩
        case measure => simp [intOf]; omega
    · have hjn : j = n := by omega
      subst hjn
      have HB := Lib.hid hbl
      have HN := Lib.hid (HV.out.trans (HQ.out.trans HE.out))
      clear hbl
      go_wp2_with fail
      go_ret
      exact ⟨ret_i HN.out.symm, HB.out⟩
set_option maxRecDepth 100000 in
set_option maxHeartbeats 4000000 in
theorem sModelRow_any (w : World) (m : Mo) (vk vr : Value) (s : ByteArray) (h : MoIn w m vk vr) : Calls Tryz.prog 17 #[.agg #[vk, vr], .string s] w (Gives (mRowV m s).v w) := by
  have CK := fun W (h : MoIn W m vk vr) => Lib.hid (sModelKind_any W m vk vr s h)
  have HIN := Lib.hid h
  obtain ⟨A, cap, rfl, h1, h2, h3⟩ := h.rows
  clear h
  unfold maxLen at h2
  have HD := Lib.hid (fun j (hj : j < m.rows.length) => mFind_drop s (newRow m s) m.rows j hj)
  have HE := Lib.hid (show mFindV s (newRow m s) (m.rows.drop m.rows.length) = newRow m s by rw [List.drop_length]; rfl)
  have HV := Lib.hid (show mRowV m s = mFindV s (newRow m s) (m.rows.drop 0) by rw [List.drop_zero]; rfl)
  have HNR := Lib.hid (show newRow m s = if mKindV s m.keys = 0 then zeroR else { zeroR with key := s, kind := mKindV s m.keys } from rfl)
  generalize mRowV m s = res at *
  generalize newRow m s = nr at *
  generalize mKindV s m.keys = mk at *
  generalize hn : m.rows.length = n at *
  clear hn
  have H4 := Lib.hid h3
  clear h3
  go_enter Tryz.func17, Tryz.ntmps17
  go_upto_region 1 with fail
  refine wp_gen (fun W => Blk W w.heap.size 27 #[vk, .slice A n cap] ∧ Blk W (w.heap.size + 1) 42 (rowCells zeroR) ∧ Below w.heap.size w W) ⟨(Blk.new w _ _ _ rfl).alloc _, Blk.new _ _ _ _ (by simp [go_sem]), ((Below.refl _ _).alloc (Nat.le_refl _) _).alloc (by simp [go_sem]) _⟩ ?_
  rintro W ⟨g0, g1, hb⟩
  have G0 := Lib.hid g0; have G1 := Lib.hid g1; have HB := Lib.hid hb
  have p1 := g0.get 1
  simp at p1
  clear g0 g1 hb
  go_wp2_with fail
  go_loopw [5] (fun i wr => ∃ j : Nat, j ≤ n ∧ i = .int .i64 j ∧ mFindV s nr (m.rows.drop 0) = mFindV s nr (m.rows.drop j) ∧ (Blk wr w.heap.size 27 #[vk, .slice A n cap] ∧ Blk wr (w.heap.size + 1) 42 (rowCells zeroR)) ∧ Below w.heap.size w wr) (fun i _ => n - (intOf i).toNat)
  case atStart => exact ⟨0, Nat.zero_le _, rfl, rfl, ⟨G0.out, G1.out⟩, HB.out⟩
  case round =>
    obtain ⟨j, hj, rfl, he, ⟨g0, g1⟩, hbl⟩ := hrel
    clear p1 G0 G1 HB
    have HQ := Lib.hid he
    have G0 := Lib.hid g0; have G1 := Lib.hid g1
    have p1 := g0.get 1
    simp at p1
    clear he g0 g1
    have hu := Tryz.underlying42
    have huM := Tryz.underlying27
    by_cases hlt : j < n
    · obtain ⟨b, off, rfl, hb, hc⟩ := H4.out (by omega)
      have hx := ((hc j hlt).below hb hbl).get
      have HDJ := HD.out j hlt
      have HB := Lib.hid hbl
      clear hc hbl
      by_cases hk : (m.rows.getD j zeroR).key = s
      · rw [if_pos hk] at HDJ
        have HN := Lib.hid (HV.out.trans (HQ.out.trans HDJ))
        clear HDJ
        generalize m.rows.getD j zeroR = r at *
        obtain ⟨key, kind, sum, st, last, n', mn, mx, total, dropped⟩ := r
        obtain ⟨x0, x1, x2, x3, x4, x5, x6, x7, x8, x9⟩ := hx
        simp only at *
        subst hk
        have ym := txt_self key
        go_wp2_with ((with_reducible show wpList _ _ _ _ _ _); first | refine wpList_store_row rfl 42 _ _ rfl (w.heap.size + 1) #[.string key, .int .i64 kind, .int .i64 sum, .bool st, .int .i64 last, .int .i64 n', .int .i64 mn, .int .i64 mx, .int .i64 total, .int .i64 dropped] rfl rfl 42 _ G1.out (by kernel_rfl) rfl (by simp [Value.oneCell']) ?_)
        refine post_gen (fun X => Blk X (w.heap.size + 1) 42 #[.string key, .int .i64 kind, .int .i64 sum, .bool st, .int .i64 last, .int .i64 n', .int .i64 mn, .int .i64 mx, .int .i64 total, .int .i64 dropped] ∧ Below w.heap.size w X) ⟨setRow_heap _ _ _ _ _ _ G1.out, below_setRow' HB.out (by omega) _⟩ ?_
        rintro X ⟨h1, hb⟩
        exact bodyPost_ret (v := .agg #[.string key, .int .i64 kind, .int .i64 sum, .bool st, .int .i64 last, .int .i64 n', .int .i64 mn, .int .i64 mx, .int .i64 total, .int .i64 dropped]) (results_cell_row rfl _ _ _ _ _ (0, 0) _ rfl h1 hu rfl (by kernel_rfl)) rfl ⟨by rw [HN.out]; rfl, hb⟩
      · rw [if_neg hk] at HDJ
        have HN := Lib.hid (HQ.out.trans HDJ)
        clear HDJ
        generalize m.rows.getD j zeroR = r at *
        obtain ⟨key, kind, sum, st, last, n', mn, mx, total, dropped⟩ := r
        obtain ⟨x0, x1, x2, x3, x4, x5, x6, x7, x8, x9⟩ := hx
        simp only at *
        have ym := txt_ne hk
        go_wp2_with fail
        go_roundw
        case rel => exact ⟨j + 1, by omega, by go_num, HN.out, ⟨G0.out, G1.out⟩, HB.out⟩
        case measure => simp [intOf]; omega
    · have hjn : j = n := by omega
      subst hjn
      have HB := Lib.hid hbl
      have HN := Lib.hid (HV.out.trans (HQ.out.trans HE.out))
      clear hbl
      have hl0 := G0.out.lt
      clear p1
      have p0 := G0.out.get 0
      have p1 := G0.out.get 1
      simp at p0 p1
      go_wp2_with fail
      refine (CK _ (HIN.out.below HB.out)).out.mono ?_
      rintro e w2 ⟨rfl, hb2⟩
      replace G0 := Lib.hid (G0.out.below hb2)
      replace G1 := Lib.hid (G1.out.below hb2)
      replace HB := Lib.hid (HB.out.trans (hb2.mono HB.out.size))
      clear hb2 p0 p1
      have huz := G1.out.lt
      by_cases hz : mk = 0
      · have hzb : (mk == 0) = true := by rw [beq_iff_eq]; exact hz
        rw [if_pos hz] at HNR
        clear hz
        go_wp2_with ((with_reducible show wpList _ _ _ _ _ _); first | refine wpList_store_row rfl 42 _ _ rfl (w.heap.size + 1) #[.string ⟨#[]⟩, .int .i64 0, .int .i64 0, .bool false, .int .i64 0, .int .i64 0, .int .i64 0, .int .i64 0, .int .i64 0, .int .i64 0] rfl rfl 42 _ G1.out (by kernel_rfl) rfl (by simp [Value.oneCell']) ?_)
        refine post_gen (fun X => Blk X (w.heap.size + 1) 42 #[.string ⟨#[]⟩, .int .i64 0, .int .i64 0, .bool false, .int .i64 0, .int .i64 0, .int .i64 0, .int .i64 0, .int .i64 0, .int .i64 0] ∧ Below w.heap.size w X) ⟨setRow_heap _ _ _ _ _ _ G1.out, below_setRow' HB.out (by omega) _⟩ ?_
        rintro X ⟨h1, hb⟩
        exact bodyPost_ret (v := .agg #[.string ⟨#[]⟩, .int .i64 0, .int .i64 0, .bool false, .int .i64 0, .int .i64 0, .int .i64 0, .int .i64 0, .int .i64 0, .int .i64 0]) (results_cell_row rfl _ _ _ _ _ (0, 0) _ rfl h1 hu rfl (by kernel_rfl)) rfl ⟨by rw [HN.out, HNR.out]; rfl, hb⟩
      · have hzb : (mk == 0) = false := by rw [beq_eq_false_iff_ne]; exact hz
        rw [if_neg hz] at HNR
        clear hz
        have p0 := G0.out.get 0
        have p1 := G0.out.get 1
        simp at p0 p1
        go_wp2_with fail
        refine (CK _ (HIN.out.below HB.out)).out.mono ?_
        rintro e w2 ⟨rfl, hb2⟩
        replace G0 := Lib.hid (G0.out.below hb2)
        replace G1 := Lib.hid (G1.out.below hb2)
        replace HB := Lib.hid (HB.out.trans (hb2.mono HB.out.size))
        clear hb2 p0 p1
        go_wp2_with ((with_reducible show wpList _ _ _ _ _ _); first | refine wpList_store_row rfl 42 _ _ rfl (w.heap.size + 1) #[.string s, .int .i64 mk, .int .i64 0, .bool false, .int .i64 0, .int .i64 0, .int .i64 0, .int .i64 0, .int .i64 0, .int .i64 0] rfl rfl 42 _ G1.out (by kernel_rfl) rfl (by simp [Value.oneCell']) ?_)
        refine post_gen (fun X => Blk X (w.heap.size + 1) 42 #[.string s, .int .i64 mk, .int .i64 0, .bool false, .int .i64 0, .int .i64 0, .int .i64 0, .int .i64 0, .int .i64 0, .int .i64 0] ∧ Below w.heap.size w X) ⟨setRow_heap _ _ _ _ _ _ G1.out, below_setRow' HB.out (by omega) _⟩ ?_
        rintro X ⟨h1, hb⟩
        exact bodyPost_ret (v := .agg #[.string s, .int .i64 mk, .int .i64 0, .bool false, .int .i64 0, .int .i64 0, .int .i64 0, .int .i64 0, .int .i64 0, .int .i64 0]) (results_cell_row rfl _ _ _ _ _ (0, 0) _ rfl h1 hu rfl (by kernel_rfl)) rfl ⟨by rw [HN.out, HNR.out]; rfl, hb⟩
end Go.Proofs.YtbhhhakfjmaglaaGreat
/-
  Chapter 13: the program's ModelKind and ModelRow.
-/
namespace Go.Proofs.YtbhhhakfjmaglaaGreat
open Go.RowKit M
set_option linter.unusedVariables false
set_option linter.unusedSimpArgs false
set_option maxRecDepth 100000 in
set_option maxHeartbeats 4000000 in
theorem iModelKind_any (w : World) (m : Mo) (vk vr : Value) (s : ByteArray) (h : MoIn w m vk vr) : Calls Tryz.prog 15 #[.agg #[vk, vr], .string s] w (Gives (.int .i64 (mKindV s m.keys)) w) := by
  obtain ⟨A, cap, rfl, h1, h2, h3⟩ := h.keys
  clear h
  obtain ⟨xs, rs⟩ := m
  simp only at *
  unfold maxLen at h2
  have HD := Lib.hid (fun j (hj : j < xs.length) => mKind_drop s xs j hj)
  have HE := Lib.hid (show mKindV s (xs.drop xs.length) = 0 by rw [List.drop_length]; rfl)
  have HV := Lib.hid (show mKindV s xs = mKindV s (xs.drop 0) by rw [List.drop_zero])
  generalize hn : xs.length = n at *
  clear hn
  have H4 := Lib.hid h3
  clear h3
  go_enter Tryz.func15, Tryz.ntmps15
  go_upto_region 1 with fail
  refine wp_gen (fun W => Blk W w.heap.size 27 #[.slice A n cap, vr] ∧ Below w.heap.size w W) ⟨Blk.new w _ _ _ rfl, (Below.refl _ _).alloc (Nat.le_refl _) _⟩ ?_
  rintro W ⟨g0, hb⟩
  have G0 := Lib.hid g0; have HB := Lib.hid hb
  have p0 := g0.get 0
  simp at p0
  clear g0 hb
  go_wp2_with fail
  go_loopw [10] (fun i wr => ∃ j : Nat, j ≤ n ∧ i = .int .i64 j ∧ mKindV s (xs.drop 0) = mKindV s (xs.drop j) ∧ Blk wr w.heap.size 27 #[.slice A n cap, vr] ∧ Below w.heap.size w wr) (fun i _ => n - (intOf i).toNat)
  case atStart => exact ⟨0, Nat.zero_le _, rfl, rfl, G0.out, HB.out⟩
  case round =>
    obtain ⟨j, hj, rfl, he, g0, hbl⟩ := hrel
    clear p0 G0 HB
    have HQ := Lib.hid he
    have G0 := Lib.hid g0
    have p0 := g0.get 0
    simp at p0
    clear he g0
    by_cases hlt : j < n
    · obtain ⟨b, off, rfl, hb, hc⟩ := H4.out (by omega)
      obtain ⟨x0, x1⟩ := atKRow ((hc j hlt).below hb hbl)
      have HDJ := HD.out j hlt
      have HB := Lib.hid hbl
      clear hc hbl
      by_cases hk : (xs.getD j zeroKR).key = s
      · rw [if_pos hk] at HDJ
        have HN := Lib.hid (HV.out.trans (HQ.out.trans HDJ))
        clear HDJ
        generalize xs.getD j zeroKR = r at *
        obtain ⟨key, kind⟩ := r
        simp only at *
        subst hk
        have ym := txt_self key
        go_wp2_with fail
        go_ret
        exact ⟨ret_i HN.out.symm, HB.out.alloc HB.out.size _⟩
      · rw [if_neg hk] at HDJ
        have HN := Lib.hid (HQ.out.trans HDJ)
        clear HDJ
        generalize xs.getD j zeroKR = r at *
        obtain ⟨key, kind⟩ := r
        simp only at *
        have ym := txt_ne hk
        go_wp2_with fail
        go_roundw
        case rel => exact ⟨j + 1, by omega, by go_num, HN.out, G0.out.alloc _, HB.out.alloc HB.out.size _⟩
        case measure => simp [intOf]; omega
    · have hjn : j = n := by omega
      subst hjn
      have HB := Lib.hid hbl
      have HN := Lib.hid (HV.out.trans (HQ.out.trans HE.out))
      clear hbl
      go_wp2_with fail
      go_ret
      exact ⟨ret_i HN.out.symm, HB.out⟩
set_option maxRecDepth 100000 in
set_option maxHeartbeats 4000000 in
theorem iModelRow_any (w : World) (m : Mo) (vk vr : Value) (s : ByteArray) (h : MoIn w m vk vr) : Calls Tryz.prog 16 #[.agg #[vk, vr], .string s] w (Gives (mRowV m s).v w) := by
  have CK := fun W (h : MoIn W m vk vr) => Lib.hid (iModelKind_any W m vk vr s h)
  have HIN := Lib.hid h
  obtain ⟨A, cap, rfl, h1, h2, h3⟩ := h.rows
  clear h
  unfold maxLen at h2
  have HD := Lib.hid (fun j (hj : j < m.rows.length) => mFind_drop s (newRow m s) m.rows j hj)
  have HE := Lib.hid (show mFindV s (newRow m s) (m.rows.drop m.rows.length) = newRow m s by rw [List.drop_length]; rfl)
  have HV := Lib.hid (show mRowV m s = mFindV s (newRow m s) (m.rows.drop 0) by rw [List.drop_zero]; rfl)
  have HNR := Lib.hid (show newRow m s = if mKindV s m.keys = 0 then zeroR else { zeroR with key := s, kind := mKindV s m.keys } from rfl)
  generalize mRowV m s = res at *
  generalize newRow m s = nr at *
  generalize mKindV s m.keys = mk at *
  generalize hn : m.rows.length = n at *
  clear hn
  have H4 := Lib.hid h3
  clear h3
  go_enter Tryz.func16, Tryz.ntmps16
  go_upto_region 1 with fail
  refine wp_gen (fun W => Blk W w.heap.size 27 #[vk, .slice A n cap] ∧ Blk W (w.heap.size + 1) 42 (rowCells zeroR) ∧ Below w.heap.size w W) ⟨(Blk.new w _ _ _ rfl).alloc _, Blk.new _ _ _ _ (by simp [go_sem]), ((Below.refl _ _).alloc (Nat.le_refl _) _).alloc (by simp [go_sem]) _⟩ ?_
  rintro W ⟨g0, g1, hb⟩
  have G0 := Lib.hid g0; have G1 := Lib.hid g1; have HB := Lib.hid hb
  have p1 := g0.get 1
  simp at p1
  clear g0 g1 hb
  go_wp2_with fail
  go_loopw [11] (fun i wr => ∃ j : Nat, j ≤ n ∧ i = .int .i64 j ∧ mFindV s nr (m.rows.drop 0) = mFindV s nr (m.rows.drop j) ∧ (Blk wr w.heap.size 27 #[vk, .slice A n cap] ∧ Blk wr (w.heap.size + 1) 42 (rowCells zeroR)) ∧ Below w.heap.size w wr) (fun i _ => n - (intOf i).toNat)
  case atStart => exact ⟨0, Nat.zero_le _, rfl, rfl, ⟨G0.out, G1.out⟩, HB.out⟩
  case round =>
    obtain ⟨j, hj, rfl, he, ⟨g0, g1⟩, hbl⟩ := hrel
    clear p1 G0 G1 HB
    have HQ := Lib.hid he
    have G0 := Lib.hid g0; have G1 := Lib.hid g1
    have p1 := g0.get 1
    simp at p1
    clear he g0 g1
    have hu := Tryz.underlying42
    have huM := Tryz.underlying27
    by_cases hlt : j < n
    · obtain ⟨b, off, rfl, hb, hc⟩ := H4.out (by omega)
      have hx := ((hc j hlt).below hb hbl).get
      have HDJ := HD.out j hlt
      have HB := Lib.hid hbl
      clear hc hbl
      by_cases hk : (m.rows.getD j zeroR).key = s
      · rw [if_pos hk] at HDJ
        have HN := Lib.hid (HV.out.trans (HQ.out.trans HDJ))
        clear HDJ
        generalize m.rows.getD j zeroR = r at *
        obtain ⟨key, kind, sum, st, last, n', mn, mx, total, dropped⟩ := r
        obtain ⟨x0, x1, x2, x3, x4, x5, x6, x7, x8, x9⟩ := hx
        simp only at *
        subst hk
        have ym := txt_self key
        go_upto_region 4 with fail
        refine wp_gen (fun W' => RowAt W' wr.heap.size ⟨key, kind, sum, st, last, n', mn, mx, total, dropped⟩ ∧ Blk W' (w.heap.size + 1) 42 (rowCells zeroR) ∧ Below w.heap.size w W') ⟨rowAt_new wr _ ⟨key, kind, sum, st, last, n', mn, mx, total, dropped⟩ rfl, G1.out.alloc _, HB.out.alloc HB.out.size _⟩ ?_
        rintro u2 ⟨hr2, g1, hb2⟩
        clear x0 x1 x2 x3 x4 x5 x6 x7 x8 x9 G0 G1 p1 HB
        have G1 := Lib.hid g1
        have HB := Lib.hid hb2
        obtain ⟨x0, x1, x2, x3, x4, x5, x6, x7, x8, x9, xf⟩ := hr2.get
        simp only at x0 x1 x2 x3 x4 x5 x6 x7 x8 x9
        clear hr2 hb2 g1
        go_wp2_with ((with_reducible show wpList _ _ _ _ _ _); first | refine wpList_store_row rfl 42 _ _ rfl (w.heap.size + 1) #[.string key, .int .i64 kind, .int .i64 sum, .bool st, .int .i64 last, .int .i64 n', .int .i64 mn, .int .i64 mx, .int .i64 total, .int .i64 dropped] rfl rfl 42 _ G1.out (by kernel_rfl) rfl (by simp [Value.oneCell']) ?_)
        refine post_gen (fun X => Blk X (w.heap.size + 1) 42 #[.string key, .int .i64 kind, .int .i64 sum, .bool st, .int .i64 last, .int .i64 n', .int .i64 mn, .int .i64 mx, .int .i64 total, .int .i64 dropped] ∧ Below w.heap.size w X) ⟨setRow_heap _ _ _ _ _ _ G1.out, below_setRow' HB.out (by omega) _⟩ ?_
        rintro X ⟨h1, hb⟩
        exact bodyPost_ret (v := .agg #[.string key, .int .i64 kind, .int .i64 sum, .bool st, .int .i64 last, .int .i64 n', .int .i64 mn, .int .i64 mx, .int .i64 total, .int .i64 dropped]) (results_cell_row rfl _ _ _ _ _ (0, 0) _ rfl h1 hu rfl (by kernel_rfl)) rfl ⟨by rw [HN.out]; rfl, hb⟩
      · rw [if_neg hk] at HDJ
        have HN := Lib.hid (HQ.out.trans HDJ)
        clear HDJ
        generalize m.rows.getD j zeroR = r at *
        obtain ⟨key, kind, sum, st, last, n', mn, mx, total, dropped⟩ := r
        obtain ⟨x0, x1, x2, x3, x4, x5, x6, x7, x8, x9⟩ := hx
        simp only at *
        have ym := txt_ne hk
        go_wp2_with fail
        go_roundw
        case rel => exact ⟨j + 1, by omega, by go_num, HN.out, ⟨G0.out.alloc _, G1.out.alloc _⟩, HB.out.alloc HB.out.size _⟩
        case measure => simp [intOf]; omega
    · have hjn : j = n := by omega
      subst hjn
      have HB := Lib.hid hbl
      have HN := Lib.hid (HV.out.trans (HQ.out.trans HE.out))
      clear hbl
      have hl0 := G0.out.lt
      clear p1
      have p0 := G0.out.get 0
      have p1 := G0.out.get 1
      simp at p0 p1
      go_wp2_with fail
      refine (CK _ (HIN.out.below HB.out)).out.mono ?_
      rintro e w2 ⟨rfl, hb2⟩
      replace G0 := Lib.hid (G0.out.below hb2)
      replace G1 := Lib.hid (G1.out.below hb2)
      replace HB := Lib.hid (HB.out.trans (hb2.mono HB.out.size))
      clear hb2 p0 p1
      have huz := G1.out.lt
      by_cases hz : mk = 0
      · have hzb : (mk == 0) = true := by rw [beq_iff_eq]; exact hz
        rw [if_pos hz] at HNR
        clear hz
        go_wp2_with ((with_reducible show wpList _ _ _ _ _ _); first | refine wpList_store_row rfl 42 _ _ rfl (w.heap.size + 1) #[.string ⟨#[]⟩, .int .i64 0, .int .i64 0, .bool false, .int .i64 0, .int .i64 0, .int .i64 0, .int .i64 0, .int .i64 0, .int .i64 0] rfl rfl 42 _ G1.out (by kernel_rfl) rfl (by simp [Value.oneCell']) ?_)
        refine post_gen (fun X => Blk X (w.heap.size + 1) 42 #[.string ⟨#[]⟩, .int .i64 0, .int .i64 0, .bool false, .int .i64 0, .int .i64 0, .int .i64 0, .int .i64 0, .int .i64 0, .int .i64 0] ∧ Below w.heap.size w X) ⟨setRow_heap _ _ _ _ _ _ G1.out, below_setRow' HB.out (by omega) _⟩ ?_
        rintro X ⟨h1, hb⟩
        exact bodyPost_ret (v := .agg #[.string ⟨#[]⟩, .int .i64 0, .int .i64 0, .bool false, .int .i64 0, .int .i64 0, .int .i64 0, .int .i64 0, .int .i64 0, .int .i64 0]) (results_cell_row rfl _ _ _ _ _ (0, 0) _ rfl h1 hu rfl (by kernel_rfl)) rfl ⟨by rw [HN.out, HNR.out]; rfl, hb⟩
      · have hzb : (mk == 0) = false := by rw [beq_eq_false_iff_ne]; exact hz
        rw [if_neg hz] at HNR
        clear hz
        go_wp2_with ((with_reducible show wpList _ _ _ _ _ _); first | refine wpList_store_row rfl 42 _ _ rfl (w.heap.size + 1) #[.string s, .int .i64 mk, .int .i64 0, .bool false, .int .i64 0, .int .i64 0, .int .i64 0, .int .i64 0, .int .i64 0, .int .i64 0] rfl rfl 42 _ G1.out (by kernel_rfl) rfl (by simp [Value.oneCell']) ?_)
        refine post_gen (fun X => Blk X (w.heap.size + 1) 42 #[.string s, .int .i64 mk, .int .i64 0, .bool false, .int .i64 0, .int .i64 0, .int .i64 0, .int .i64 0, .int .i64 0, .int .i64 0] ∧ Below w.heap.size w X) ⟨setRow_heap _ _ _ _ _ _ G1.out, below_setRow' HB.out (by omega) _⟩ ?_
        rintro X ⟨h1, hb⟩
        exact bodyPost_ret (v := .agg #[.string s, .int .i64 mk, .int .i64 0, .bool false, .int .i64 0, .int .i64 0, .int .i64 0, .int .i64 0, .int .i64 0, .int .i64 0]) (results_cell_row rfl _ _ _ _ _ (0, 0) _ rfl h1 hu rfl (by kernel_rfl)) rfl ⟨by rw [HN.out, HNR.out]; rfl, hb⟩
end Go.Proofs.YtbhhhakfjmaglaaGreat

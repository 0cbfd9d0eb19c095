/-
  Chapter 13's draws for ModelDo, told in less.
-/
import Derived.Test.YtbhhhakfjmaglaaGreatDrawM4
namespace Go.Proofs.YtbhhhakfjmaglaaGreat
open Go.RowKit M
set_option linter.unusedVariables false
set_option linter.unusedSimpArgs false
theorem results_cellMO {P : Program} {fn : Func} {p q : Tmp} {ty uy : TypeId} (h : fn.results = #[.cell p ty, .cell q uy]) (tmps : Array Value) (w : World) (g k : Nat) (t u : TypeId) (cs ds : Array Value) (d e : TypeDesc)
    (hp : tmps.getD p undef = .pointer (some ⟨g, 0, none⟩)) (hg : Blk w g t cs) (hq : tmps.getD q undef = .pointer (some ⟨k, 0, none⟩)) (hk : Blk w k u ds)
    (hu : P.underlying ty = some d) (hd : (match d with | .struct _ | .array _ _ => true | _ => false) = true) (hi : (P.info? ty).map (·.size) = some cs.size)
    (hv : P.underlying uy = some e) (he : (match e with | .struct _ | .array _ _ => true | _ => false) = true) (hj : (P.info? uy).map (·.size) = some ds.size) :
    (results fn tmps).run P w = .ok (.tuple #[.agg cs, .agg ds]) w := by
  have hp' : tmps[p]?.getD undef = .pointer (some ⟨g, 0, none⟩) := by simpa using hp
  have hq' : tmps[q]?.getD undef = .pointer (some ⟨k, 0, none⟩) := by simpa using hq
  simp [results, h, hp', hq', asAddr, run_loadVar_row w g t ty cs (0, 0) d hg hu hd hi, run_loadVar_row w k u uy ds (0, 0) e hk hv he hj]
theorem Cur.turnB {w u u' : World} {g : Nat} {K : Code} {s : St} {row : Option Nat} (c : Cur u g K s) (hK : CodeB K w.heap.size) (hg : u.grownBy u' row) (hk : ∀ k, row = some k → w.heap.size ≤ k ∧ k ≠ g) : Cur u' g K s := by
  have hlt := c.lt
  obtain ⟨h1, h2, h3⟩ := c
  refine ⟨(hg.block g hlt (fun e => (hk g e.symm).2 rfl)).trans h1, ⟨h2.1, fun hp => ?_⟩, h3⟩
  obtain ⟨b, off, e, hb, hc⟩ := h2.2 hp
  have hlb := hK _ hp e
  exact ⟨b, off, e, hb, fun j hj => ⟨hg.cell (hc j hj).1 (fun q => by have := (hk b q.symm).1; simp at hlb; omega), (hc j hj).2⟩⟩
/-- The world of a draw that has made its own cursor. -/
structure NW (w : World) (g : Nat) (K : Code) (u : World) : Prop where
  cur : ∃ s, Cur u g K s
  b : Below w.heap.size w u
  code : CodeB K w.heap.size
  g : w.heap.size ≤ g
theorem NW.call {w u u' : World} {g : Nat} {K : Code} {s : St} (h : NW w g K u) (c : Cur u' g K s) (hg : u.grownBy u' (some g)) : NW w g K u' := ⟨⟨s, c⟩, h.b.grown hg h.b.size (by intro k e; have e := Option.some.inj e; have := h.g; omega), h.code, h.g⟩
theorem NW.turn {w u u' : World} {g : Nat} {K : Code} {row : Option Nat} (h : NW w g K u) (hg : u.grownBy u' row) (hk : ∀ k, row = some k → w.heap.size ≤ k ∧ k ≠ g) : NW w g K u' := by
  obtain ⟨s, c⟩ := h.cur
  exact ⟨⟨s, c.turnB h.code hg hk⟩, h.b.grown hg h.b.size (fun k e => (hk k e).1), h.code, h.g⟩
theorem NW.below {w u u' : World} {g : Nat} {K : Code} (h : NW w g K u) (hb : Below u.heap.size u u') : NW w g K u' := h.turn (row := none) ⟨hb.os, hb.tape, hb.output, hb.size, fun i hi _ => hb.block i hi⟩ (by intro k e; cases e)
def GivesO (w : World) (e : Ending) (w' : World) : Prop := ∃ o : O, o.Fit ∧ e = .returned o.v ∧ Below w.heap.size w w'
def opc (o : O) : Array Value := #[.int .i64 o.kind, .string o.key, .int .i64 o.what, .int .i64 o.val]
theorem inW_i {x : Int} (h : -1000000 ≤ x ∧ x ≤ 1000000) : inW x := by unfold inW; omega
set_option maxRecDepth 100000 in
set_option maxHeartbeats 3000000 in
theorem drawOpOk_some (w : World) (K : Code) (hk : CodeIn w K) (hl : K.len ≤ 1048576) : Calls Tryz.prog 33 #[.slice K.A K.len K.cap] w (GivesO w) := by
  have HN := fun W (hb : Below w.heap.size w W) => Lib.hid (new_any W K (hk.below hb) hl)
  have hK := CodeB.of_in hk
  have huo := Tryz.underlying29
  clear hk hl
  go_enter Tryz.func33, Tryz.ntmps33
  go_upto_region 1 with fail
  refine wp_gen (fun W => Blk W w.heap.size 29 #[.int .i64 0, .string ⟨#[]⟩, .int .i64 0, .int .i64 0] ∧ Below w.heap.size w W) ⟨Blk.new w _ _ _ rfl, below_oneM _ _⟩ ?_
  rintro W ⟨g0, hb⟩
  go_wp2_with fail
  refine (HN W hb).out.mono ?_
  rintro e W1 ⟨g, rfl, hg, c1, hb1⟩
  have hlt := g0.lt
  have hgw : w.heap.size < g := by omega
  have G0 := Lib.hid (g0.below hb1)
  have D := Lib.hid (show NW w g K W1 from ⟨⟨_, c1⟩, hb.trans (hb1.mono hb.size), hK, by omega⟩)
  have C1 := Lib.hid c1
  clear HN g0 hb hb1 c1 hg hlt W
  go_wp2_with fail
  refine (l10Op_some W1 g K _ C1.out (hK.mono D.out.b.size)).mono ?_
  rintro e W2 ⟨q, s2, hq, rfl, c2, hg⟩
  replace G0 := Lib.hid (G0.out.turnG hg (by omega)); replace D := Lib.hid (D.out.call c2 hg)
  have HQ := Lib.hid hq
  clear hq c2 hg C1
  obtain ⟨okind, okey, owhat, oval⟩ := q
  unfold O.v
  simp only
  go_upto_region 3 with ((with_reducible show wpList _ _ _ _ _ _); refine wpList_store_row rfl 29 _ _ rfl (W2.heap.size) #[.int .i64 okind, .string okey, .int .i64 owhat, .int .i64 oval] rfl rfl 29 _ (Blk.new W2 W2.heap.size 29 #[.int .i64 0, .string ⟨#[]⟩, .int .i64 0, .int .i64 0] rfl) (by kernel_rfl) rfl (by simp [Value.oneCell']) ?_)
  refine wp_gen (fun X => ∃ gb, gb = W2.heap.size ∧ Blk X gb 29 #[.int .i64 okind, .string okey, .int .i64 owhat, .int .i64 oval] ∧ Blk X w.heap.size 29 #[.int .i64 0, .string ⟨#[]⟩, .int .i64 0, .int .i64 0] ∧ NW w g K X) ?h0 ?_
  case h0 =>
    have hb := below_oneM W2 (.cells #[.int .i64 0, .string ⟨#[]⟩, .int .i64 0, .int .i64 0] 29)
    have hs := D.out.b.size
    have hgl : g < W2.heap.size := by obtain ⟨s, c⟩ := D.out.cur; exact c.lt
    have h0l := G0.out.lt
    exact ⟨_, rfl, setRow_heap _ _ _ _ _ _ (Blk.new W2 W2.heap.size 29 #[.int .i64 0, .string ⟨#[]⟩, .int .i64 0, .int .i64 0] rfl), (setRow_other _ W2.heap.size w.heap.size _ (by omega)).trans (G0.out.below hb), (D.out.below hb).turn (setRow_grown _ W2.heap.size _) (fun k e => by have e := Option.some.inj e; omega)⟩
  rintro W3 ⟨gb, hgb, h1, h0, d⟩
  rw [← hgb]
  have HGB := Lib.hid (show w.heap.size < gb ∧ gb ≠ g ∧ w.heap.size ≠ g from by
    have hs := D.out.b.size
    have hgl : g < W2.heap.size := by obtain ⟨s, c⟩ := D.out.cur; exact c.lt
    have h0l := G0.out.lt
    omega)
  clear hgb G0 D
  have G0 := Lib.hid h0; have G1 := Lib.hid h1; have D := Lib.hid d
  obtain ⟨s3, c3⟩ := d.cur
  have C3 := Lib.hid c3
  clear h0 h1 d c3
  go_wp2_with fail
  refine (below_some W3 g K 8 s3 C3.out (by decide) (by decide)).mono ?_
  rintro e W4 ⟨x, s4, ⟨hx0, hx1⟩, rfl, c4, hg⟩
  replace G0 := Lib.hid (G0.out.turnG hg (by have := HGB.out; omega)); replace G1 := Lib.hid (G1.out.turnG hg (by have := HGB.out; omega)); replace D := Lib.hid (D.out.call c4 hg)
  have C4 := Lib.hid c4
  clear c4 hg C3
  by_cases hx : x = 0
  · skip
    have d0 : (x == 0) = true := by rw [beq_iff_eq]; omega
    clear hx hx0 hx1
    go_wp2_with fail
    refine (below_some W4 g K 5 s4 C4.out (by decide) (by decide)).mono ?_
    rintro e W5 ⟨y, s5, hy, rfl, c5, hg⟩
    replace G0 := Lib.hid (G0.out.turnG hg (by have := HGB.out; omega)); replace G1 := Lib.hid (G1.out.turnG hg (by have := HGB.out; omega)); replace D := Lib.hid (D.out.call c5 hg)
    have HY := Lib.hid (show inW y from inW_i (by omega))
    clear hy c5 hg C4
    have q1 := G1.out.get 0
    have qf := G1.out.frz 0
    simp at q1
    have hgb := HGB.out
    go_upto_region 14 with fail
    refine wp_gen (fun X => Blk X gb 29 #[.int .i64 y, .string okey, .int .i64 owhat, .int .i64 oval] ∧ Blk X w.heap.size 29 #[.int .i64 0, .string ⟨#[]⟩, .int .i64 0, .int .i64 0] ∧ NW w g K X) ⟨G1.out.store 0 _, G0.out.far _ _ _ (by omega), D.out.turn (row_store G1.out 0 _) (fun k e => by have e := Option.some.inj e; omega)⟩ ?_
    rintro W6 ⟨h1, h0, d⟩
    clear q1 qf G0 G1 D
    have G0 := Lib.hid h0; have G1 := Lib.hid h1; have D := Lib.hid d
    clear h0 h1 d
    go_wp2_with ((with_reducible show wpList _ _ _ _ _ _); first | refine wpList_load_row rfl 29 _ rfl gb rfl 29 #[.int .i64 y, .string okey, .int .i64 owhat, .int .i64 oval] (0, 0) _ G1.out huo rfl (by kernel_rfl) ?_ | refine wpList_store_row rfl 29 _ _ rfl (w.heap.size) #[.int .i64 y, .string okey, .int .i64 owhat, .int .i64 oval] rfl rfl 29 _ G0.out (by kernel_rfl) rfl (by simp [Value.oneCell']) ?_)
    refine post_gen (fun X => Blk X w.heap.size 29 #[.int .i64 y, .string okey, .int .i64 owhat, .int .i64 oval] ∧ NW w g K X) ⟨setRow_heap _ _ _ _ _ _ G0.out, D.out.turn (setRow_grown _ w.heap.size _) (fun k e => by have e := Option.some.inj e; have := HGB.out; omega)⟩ ?_
    rintro Z ⟨h1, hd⟩
    exact bodyPost_ret (v := .agg #[.int .i64 y, .string okey, .int .i64 owhat, .int .i64 oval]) (results_cell_row rfl _ _ _ _ _ (0, 0) _ rfl h1 huo rfl (by kernel_rfl)) rfl ⟨⟨y, okey, owhat, oval⟩, ⟨HY.out, HQ.out.key, HQ.out.what, HQ.out.val⟩, rfl, hd.b⟩
  by_cases hx : x = 1
  · skip
    have d0 : (x == 0) = false := by rw [beq_eq_false_iff_ne]; omega
    have d1 : (x == 1) = true := by rw [beq_iff_eq]; omega
    clear hx hx0 hx1
    go_wp2_with fail
    refine (l4Any_some W4 g K s4 C4.out).mono ?_
    rintro e W5 ⟨y, s5, hy, rfl, c5, hg⟩
    replace G0 := Lib.hid (G0.out.turnG hg (by have := HGB.out; omega)); replace G1 := Lib.hid (G1.out.turnG hg (by have := HGB.out; omega)); replace D := Lib.hid (D.out.call c5 hg)
    have HY := Lib.hid (show y.size ≤ maxLen from Nat.le_trans hy (by unfold maxLen; decide))
    clear hy c5 hg C4
    have q1 := G1.out.get 1
    have qf := G1.out.frz 1
    simp at q1
    have hgb := HGB.out
    go_upto_region 14 with fail
    refine wp_gen (fun X => Blk X gb 29 #[.int .i64 okind, .string y, .int .i64 owhat, .int .i64 oval] ∧ Blk X w.heap.size 29 #[.int .i64 0, .string ⟨#[]⟩, .int .i64 0, .int .i64 0] ∧ NW w g K X) ⟨G1.out.store 1 _, G0.out.far _ _ _ (by omega), D.out.turn (row_store G1.out 1 _) (fun k e => by have e := Option.some.inj e; omega)⟩ ?_
    rintro W6 ⟨h1, h0, d⟩
    clear q1 qf G0 G1 D
    have G0 := Lib.hid h0; have G1 := Lib.hid h1; have D := Lib.hid d
    clear h0 h1 d
    go_wp2_with ((with_reducible show wpList _ _ _ _ _ _); first | refine wpList_load_row rfl 29 _ rfl gb rfl 29 #[.int .i64 okind, .string y, .int .i64 owhat, .int .i64 oval] (0, 0) _ G1.out huo rfl (by kernel_rfl) ?_ | refine wpList_store_row rfl 29 _ _ rfl (w.heap.size) #[.int .i64 okind, .string y, .int .i64 owhat, .int .i64 oval] rfl rfl 29 _ G0.out (by kernel_rfl) rfl (by simp [Value.oneCell']) ?_)
    refine post_gen (fun X => Blk X w.heap.size 29 #[.int .i64 okind, .string y, .int .i64 owhat, .int .i64 oval] ∧ NW w g K X) ⟨setRow_heap _ _ _ _ _ _ G0.out, D.out.turn (setRow_grown _ w.heap.size _) (fun k e => by have e := Option.some.inj e; have := HGB.out; omega)⟩ ?_
    rintro Z ⟨h1, hd⟩
    exact bodyPost_ret (v := .agg #[.int .i64 okind, .string y, .int .i64 owhat, .int .i64 oval]) (results_cell_row rfl _ _ _ _ _ (0, 0) _ rfl h1 huo rfl (by kernel_rfl)) rfl ⟨⟨okind, y, owhat, oval⟩, ⟨HQ.out.kind, HY.out, HQ.out.what, HQ.out.val⟩, rfl, hd.b⟩
  by_cases hx : x = 2
  · skip
    have d0 : (x == 0) = false := by rw [beq_eq_false_iff_ne]; omega
    have d1 : (x == 1) = false := by rw [beq_eq_false_iff_ne]; omega
    have d2 : (x == 2) = true := by rw [beq_iff_eq]; omega
    clear hx hx0 hx1
    go_wp2_with fail
    refine (l5Kind_some W4 g K s4 C4.out).mono ?_
    rintro e W5 ⟨y, s5, hy, rfl, c5, hg⟩
    replace G0 := Lib.hid (G0.out.turnG hg (by have := HGB.out; omega)); replace G1 := Lib.hid (G1.out.turnG hg (by have := HGB.out; omega)); replace D := Lib.hid (D.out.call c5 hg)
    have HY := Lib.hid (show inW y from inW_i (by omega))
    clear hy c5 hg C4
    have q1 := G1.out.get 2
    have qf := G1.out.frz 2
    simp at q1
    have hgb := HGB.out
    go_upto_region 14 with fail
    refine wp_gen (fun X => Blk X gb 29 #[.int .i64 okind, .string okey, .int .i64 y, .int .i64 oval] ∧ Blk X w.heap.size 29 #[.int .i64 0, .string ⟨#[]⟩, .int .i64 0, .int .i64 0] ∧ NW w g K X) ⟨G1.out.store 2 _, G0.out.far _ _ _ (by omega), D.out.turn (row_store G1.out 2 _) (fun k e => by have e := Option.some.inj e; omega)⟩ ?_
    rintro W6 ⟨h1, h0, d⟩
    clear q1 qf G0 G1 D
    have G0 := Lib.hid h0; have G1 := Lib.hid h1; have D := Lib.hid d
    clear h0 h1 d
    go_wp2_with ((with_reducible show wpList _ _ _ _ _ _); first | refine wpList_load_row rfl 29 _ rfl gb rfl 29 #[.int .i64 okind, .string okey, .int .i64 y, .int .i64 oval] (0, 0) _ G1.out huo rfl (by kernel_rfl) ?_ | refine wpList_store_row rfl 29 _ _ rfl (w.heap.size) #[.int .i64 okind, .string okey, .int .i64 y, .int .i64 oval] rfl rfl 29 _ G0.out (by kernel_rfl) rfl (by simp [Value.oneCell']) ?_)
    refine post_gen (fun X => Blk X w.heap.size 29 #[.int .i64 okind, .string okey, .int .i64 y, .int .i64 oval] ∧ NW w g K X) ⟨setRow_heap _ _ _ _ _ _ G0.out, D.out.turn (setRow_grown _ w.heap.size _) (fun k e => by have e := Option.some.inj e; have := HGB.out; omega)⟩ ?_
    rintro Z ⟨h1, hd⟩
    exact bodyPost_ret (v := .agg #[.int .i64 okind, .string okey, .int .i64 y, .int .i64 oval]) (results_cell_row rfl _ _ _ _ _ (0, 0) _ rfl h1 huo rfl (by kernel_rfl)) rfl ⟨⟨okind, okey, y, oval⟩, ⟨HQ.out.kind, HQ.out.key, HY.out, HQ.out.val⟩, rfl, hd.b⟩
  by_cases hx : x = 3
  · skip
    have d0 : (x == 0) = false := by rw [beq_eq_false_iff_ne]; omega
    have d1 : (x == 1) = false := by rw [beq_eq_false_iff_ne]; omega
    have d2 : (x == 2) = false := by rw [beq_eq_false_iff_ne]; omega
    have d3 : (x == 3) = true := by rw [beq_iff_eq]; omega
    clear hx hx0 hx1
    go_wp2_with fail
    refine (pick_some W4 g K s4 C4.out [-1, 65535, 65536, 0] 4 rfl (by decide) (by decide) _ rfl).mono ?_
    rintro e W5 ⟨y, s5, hy, rfl, c5, hg⟩
    replace G0 := Lib.hid (G0.out.turnG hg (by have := HGB.out; omega)); replace G1 := Lib.hid (G1.out.turnG hg (by have := HGB.out; omega)); replace D := Lib.hid (D.out.call c5 hg)
    have HY := Lib.hid (show inW y from inW_i (by simp at hy; omega))
    clear hy c5 hg C4
    have q1 := G1.out.get 3
    have qf := G1.out.frz 3
    simp at q1
    have hgb := HGB.out
    go_upto_region 14 with fail
    refine wp_gen (fun X => Blk X gb 29 #[.int .i64 okind, .string okey, .int .i64 owhat, .int .i64 y] ∧ Blk X w.heap.size 29 #[.int .i64 0, .string ⟨#[]⟩, .int .i64 0, .int .i64 0] ∧ NW w g K X) ⟨G1.out.store 3 _, G0.out.far _ _ _ (by omega), D.out.turn (row_store G1.out 3 _) (fun k e => by have e := Option.some.inj e; omega)⟩ ?_
    rintro W6 ⟨h1, h0, d⟩
    clear q1 qf G0 G1 D
    have G0 := Lib.hid h0; have G1 := Lib.hid h1; have D := Lib.hid d
    clear h0 h1 d
    go_wp2_with ((with_reducible show wpList _ _ _ _ _ _); first | refine wpList_load_row rfl 29 _ rfl gb rfl 29 #[.int .i64 okind, .string okey, .int .i64 owhat, .int .i64 y] (0, 0) _ G1.out huo rfl (by kernel_rfl) ?_ | refine wpList_store_row rfl 29 _ _ rfl (w.heap.size) #[.int .i64 okind, .string okey, .int .i64 owhat, .int .i64 y] rfl rfl 29 _ G0.out (by kernel_rfl) rfl (by simp [Value.oneCell']) ?_)
    refine post_gen (fun X => Blk X w.heap.size 29 #[.int .i64 okind, .string okey, .int .i64 owhat, .int .i64 y] ∧ NW w g K X) ⟨setRow_heap _ _ _ _ _ _ G0.out, D.out.turn (setRow_grown _ w.heap.size _) (fun k e => by have e := Option.some.inj e; have := HGB.out; omega)⟩ ?_
    rintro Z ⟨h1, hd⟩
    exact bodyPost_ret (v := .agg #[.int .i64 okind, .string okey, .int .i64 owhat, .int .i64 y]) (results_cell_row rfl _ _ _ _ _ (0, 0) _ rfl h1 huo rfl (by kernel_rfl)) rfl ⟨⟨okind, okey, owhat, y⟩, ⟨HQ.out.kind, HQ.out.key, HQ.out.what, HY.out⟩, rfl, hd.b⟩
  by_cases hx : x = 4
  · skip
    have d0 : (x == 0) = false := by rw [beq_eq_false_iff_ne]; omega
    have d1 : (x == 1) = false := by rw [beq_eq_false_iff_ne]; omega
    have d2 : (x == 2) = false := by rw [beq_eq_false_iff_ne]; omega
    have d3 : (x == 3) = false := by rw [beq_eq_false_iff_ne]; omega
    have d4 : (x == 4) = true := by rw [beq_iff_eq]; omega
    clear hx hx0 hx1 C4
    have hgb := HGB.out
    go_wp2_with ((with_reducible show wpList _ _ _ _ _ _); first | refine wpList_load_row rfl 29 _ rfl gb rfl 29 #[.int .i64 3, .string ⟨#[]⟩, .int .i64 0, .int .i64 0] (0, 0) _ G1.out huo rfl (by kernel_rfl) ?_ | refine wpList_store_row rfl 29 _ _ rfl (w.heap.size) #[.int .i64 3, .string ⟨#[]⟩, .int .i64 0, .int .i64 0] rfl rfl 29 _ G0.out (by kernel_rfl) rfl (by simp [Value.oneCell']) ?_)
    refine post_gen (fun X => Blk X w.heap.size 29 #[.int .i64 3, .string ⟨#[]⟩, .int .i64 0, .int .i64 0] ∧ NW w g K X) ⟨setRow_heap _ _ _ _ _ _ G0.out, D.out.turn (setRow_grown _ w.heap.size _) (fun k e => by have e := Option.some.inj e; have := HGB.out; omega)⟩ ?_
    rintro Z ⟨h1, hd⟩
    exact bodyPost_ret (v := .agg #[.int .i64 3, .string ⟨#[]⟩, .int .i64 0, .int .i64 0]) (results_cell_row rfl _ _ _ _ _ (0, 0) _ rfl h1 huo rfl (by kernel_rfl)) rfl ⟨⟨3, ⟨#[]⟩, 0, 0⟩, ⟨inW_i (by decide), by unfold maxLen; decide, inW_i (by decide), inW_i (by decide)⟩, rfl, hd.b⟩
  have d0 : (x == 0) = false := by rw [beq_eq_false_iff_ne]; omega
  have d1 : (x == 1) = false := by rw [beq_eq_false_iff_ne]; omega
  have d2 : (x == 2) = false := by rw [beq_eq_false_iff_ne]; omega
  have d3 : (x == 3) = false := by rw [beq_eq_false_iff_ne]; omega
  have d4 : (x == 4) = false := by rw [beq_eq_false_iff_ne]; omega
  clear hx hx0 hx1 C4
  have hgb := HGB.out
  go_wp2_with ((with_reducible show wpList _ _ _ _ _ _); first | refine wpList_load_row rfl 29 _ rfl gb rfl 29 #[.int .i64 okind, .string okey, .int .i64 owhat, .int .i64 oval] (0, 0) _ G1.out huo rfl (by kernel_rfl) ?_ | refine wpList_store_row rfl 29 _ _ rfl (w.heap.size) #[.int .i64 okind, .string okey, .int .i64 owhat, .int .i64 oval] rfl rfl 29 _ G0.out (by kernel_rfl) rfl (by simp [Value.oneCell']) ?_)
  refine post_gen (fun X => Blk X w.heap.size 29 #[.int .i64 okind, .string okey, .int .i64 owhat, .int .i64 oval] ∧ NW w g K X) ⟨setRow_heap _ _ _ _ _ _ G0.out, D.out.turn (setRow_grown _ w.heap.size _) (fun k e => by have e := Option.some.inj e; have := HGB.out; omega)⟩ ?_
  rintro Z ⟨h1, hd⟩
  exact bodyPost_ret (v := .agg #[.int .i64 okind, .string okey, .int .i64 owhat, .int .i64 oval]) (results_cell_row rfl _ _ _ _ _ (0, 0) _ rfl h1 huo rfl (by kernel_rfl)) rfl ⟨⟨okind, okey, owhat, oval⟩, HQ.out, rfl, hd.b⟩
end Go.Proofs.YtbhhhakfjmaglaaGreat

/-
  Chapter 13: the model's l13KeyPut (a key put into its place) and l13Row (a row put in the place of that of its key).
-/
import Derived.Test.YtlnkjpacjbhncaaGreatDoorZc
import Derived.Test.YtlnkjpacjbhncaaGreatDoorDrL
import Derived.Test.YtlnkjpacjbhncaaGreatDoorRowS
import Derived.BigQuiet
namespace Go.Proofs.YtlnkjpacjbhncaaGreatDoor
open Go.RowKit M
set_option linter.unusedVariables false
set_option linter.unusedSimpArgs false
/-- The keys gone through, k put ahead of the first greater one; is it in? -/
def insKT (k : KR) (l : List KR) : List KR × Bool := l.foldl (fun p x => ((if (!p.2 && strLt k.key x.key) = true then p.1 ++ [k] else p.1) ++ [x], p.2 || strLt k.key x.key)) ([], false)
theorem insKT_go (k : KR) (l acc : List KR) (d : Bool) :
    let p := l.foldl (fun p x => ((if (!p.2 && strLt k.key x.key) = true then p.1 ++ [k] else p.1) ++ [x], p.2 || strLt k.key x.key)) (acc, d)
    (if p.2 = true then p.1 else p.1 ++ [k]) = acc ++ (if d = true then l else insK k l) := by
  induction l generalizing acc d with
  | nil => cases d <;> simp [insK]
  | cons x l ih =>
    simp only [List.foldl_cons]
    have := ih ((if (!d && strLt k.key x.key) = true then acc ++ [k] else acc) ++ [x]) (d || strLt k.key x.key)
    simp only at this
    rw [this]
    cases d with
    | true => simp
    | false => cases h : strLt k.key x.key <;> simp [insK, h]
theorem insKT_all (k : KR) (l : List KR) : (if (insKT k l).2 = true then (insKT k l).1 else (insKT k l).1 ++ [k]) = insK k l := by
  have := insKT_go k l [] false
  simpa [insKT] using this
theorem insKT_next (k : KR) (l : List KR) (j : Nat) (h : j < l.length) : insKT k (l.take (j + 1)) = ((if (!(insKT k (l.take j)).2 && strLt k.key (l.getD j zeroKR).key) = true then (insKT k (l.take j)).1 ++ [k] else (insKT k (l.take j)).1) ++ [l.getD j zeroKR], (insKT k (l.take j)).2 || strLt k.key (l.getD j zeroKR).key) := by
  have e : l.take (j + 1) = l.take j ++ [l.getD j zeroKR] := by
    rw [List.take_add_one, List.getD_eq_getElem?_getD, List.getElem?_eq_getElem h]; rfl
  rw [e]
  unfold insKT
  rw [List.foldl_append]
  rfl
theorem insKT_len (k : KR) (l : List KR) : (insKT k l).1.length ≤ 2 * l.length := by
  have main : ∀ (l acc : List KR) (d : Bool), (l.foldl (fun p x => ((if (!p.2 && strLt k.key x.key) = true then p.1 ++ [k] else p.1) ++ [x], p.2 || strLt k.key x.key)) (acc, d)).1.length ≤ acc.length + 2 * l.length := by
    intro l
    induction l with
    | nil => intro acc d; simp
    | cons x l ih =>
      intro acc d
      rw [List.foldl_cons]
      refine Nat.le_trans (ih _ _) ?_
      cases hq : (!d && strLt k.key x.key) <;> simp [hq] <;> omega
  have := main l [] false
  simpa [insKT] using this
theorem wpK_append (w : World) {ops : Array Oper} {rest : List Oper} {o : Oper} {a : Act} {Q : Exit → Act → World → Prop} (hgd : o.guard = none) (s x : Operand)
    (ho : o.op = .call { callee := .builtin .append, args := #[s, x], argTypes := #[23, 23] })
    (base : Nat) (v : Value) (l : List KR) (hown : OwnF 39 2 krCells w base v l) (hs : a.eval s = v)
    (c : KR) (cs : Array Value) (hcs : cs = krCells c) (hx : a.eval x = .slice (some ⟨w.heap.size, 0, none⟩) 1 1)
    (hlen : l.length + 1 ≤ 8796093022) (hbase : base ≤ w.heap.size)
    (h : ∀ v' w', OwnF 39 2 krCells w' base v' (l ++ [c]) → (w.alloc (.cells cs 39)).grownBy w' v.ownBlock → (v'.ownBlock = v.ownBlock ∨ v'.ownBlock = some (w.heap.size + 1)) → wpList Tryz.prog ops Q rest (a.put o.dst v') w') : wpList Tryz.prog ops Q (o :: rest) a (w.alloc (.cells cs 39)) := by
  subst hcs
  obtain ⟨i0, hi, hz0, hz1, hz2⟩ := info_parts info_KRow
  refine wpList_append_own_at (w.alloc (.cells (krCells c) 39)) hgd s x 23 ho base 39 i0 zeroKR.v 2 24 Tryz.underlying23 hi hz0 hz1 hz2 rfl (by decide) v l.length (cellsF krCells l) hs (World.ownsRow.alloc hown _) ⟨w.heap.size, 0, none⟩ 1 1 (krCells c).toList hx rfl ?_ ?_ (by unfold maxLen; omega) (by omega) (by simp [go_sem]; omega) ?_
  · intro j u hu
    rw [Addr.add_lit, Nat.zero_add, cell_of_row _ _ _ _ _ _ (heap_alloc_new w _)]
    rw [Array.getElem?_toList] at hu
    exact hu
  · intro u hu
    exact kr_one [c] u (by simpa [cellsF] using hu)
  · intro v' w' h1 h2 _ h3
    refine h v' w' ?_ h2 ?_
    · unfold OwnF
      rw [List.length_append, cellsF_append]
      simpa [cellsF] using h1
    · have hz : (w.alloc (.cells (krCells c) 39)).heap.size = w.heap.size + 1 := by simp
      rw [hz] at h3
      simpa using h3
theorem str_tri (x y : ByteArray) : (strLt x y = true ∧ Go.Op.bytesLess y.toList x.toList = false ∧ (y.toList == x.toList) = false) ∨ (y = x) ∨ (strLt x y = false ∧ Go.Op.bytesLess y.toList x.toList = true) := by
  cases h : strLt x y with
  | true =>
    refine .inl ⟨rfl, ?_, ?_⟩
    · cases h2 : Go.Op.bytesLess y.toList x.toList with
      | false => rfl
      | true => have := strLt_trans h (show strLt y x = true from h2); rw [strLt_irrefl] at this; cases this
    · rw [beq_eq_false_iff_ne]
      intro e
      have : Go.Op.bytesLess x.toList y.toList = true := h
      rw [e, bl_irrefl] at this; cases this
  | false =>
    cases h2 : strLt y x with
    | true => exact .inr (.inr ⟨rfl, h2⟩)
    | false => exact .inr (.inl (strLt_total h2 h))
def PutK (w : World) (l : List KR) (e : Ending) (w' : World) : Prop := ∃ v, e = .returned v ∧ OwnF 39 2 krCells w' w.heap.size v l ∧ Below w.heap.size w w'
set_option maxRecDepth 100000 in
set_option maxHeartbeats 8000000 in
theorem sKeyPut_any (w : World) (v : Value) (l : List KR) (k : KR) (h : RecsArg 2 krCells zeroKR w v l) (hl : l.length ≤ 1048576) : Calls Tryz.prog 15 #[v, k.v] w (PutK w (insK k l)) := by
  obtain ⟨A, cap, rfl, h1, h2, h3⟩ := h
  unfold maxLen at h2
  have HALL := Lib.hid (insKT_all k l)
  have HNX := Lib.hid (insKT_next k l)
  have HLN := Lib.hid (fun j => (insKT_len k (l.take j)))
  have HTK := Lib.hid (fun j => show (l.take j).length ≤ l.length by rw [List.length_take]; omega)
  have HTL := Lib.hid (List.take_length (l := l))
  have H3 := Lib.hid h3
  have HLL := Lib.hid hl
  generalize hn : l.length = n at *
  clear h3 hn hl
  obtain ⟨key, kind⟩ := k
  unfold KR.v
  simp only
  go_enter Tryz.func15, Tryz.ntmps15
  go_upto_region 1 with fail
  refine wp_gen (fun W => Blk W w.heap.size 39 #[.string key, .int .i64 kind] ∧ Below w.heap.size w W) ⟨Blk.new w _ _ _ rfl, (Below.refl _ _).alloc (Nat.le_refl _) _⟩ ?_
  rintro W ⟨g0, hb⟩
  have HZ0 := Lib.hid (show w.heap.size + 1 ≤ W.heap.size from g0.lt)
  have G0 := Lib.hid g0
  have HB := Lib.hid hb
  clear g0 hb
  go_upto_region 2 with fail
  refine wp_gen (fun W' => ∃ g, OwnF 39 2 krCells W' (w.heap.size + 1) (.slice (some ⟨g, 0, none⟩) 0 0) [] ∧ g = W.heap.size ∧ Blk W' w.heap.size 39 #[.string key, .int .i64 kind] ∧ Below w.heap.size w W') ⟨W.heap.size, OwnF.empty W _ HZ0.out, rfl, G0.out.alloc _, HB.out.alloc HB.out.size _⟩ ?_
  rintro W1 ⟨g1, ho1, hg1, g0, hb⟩
  rw [← hg1]
  have HO1 := Lib.hid ho1
  clear HZ0 G0 HB hg1 ho1 W
  have G0 := Lib.hid g0
  have HB := Lib.hid hb
  clear g0 hb
  go_wp2_with fail
  go_loopw [5, 6, 7] (fun u d x wr => ∃ j : Nat, j ≤ n ∧ x = .int .i64 j ∧ d = .bool (insKT ⟨key, kind⟩ (l.take j)).2 ∧ OwnF 39 2 krCells wr (w.heap.size + 1) u (insKT ⟨key, kind⟩ (l.take j)).1 ∧ Blk wr w.heap.size 39 #[.string key, .int .i64 kind] ∧ Below w.heap.size w wr) (fun _ _ x _ => n - (intOf x).toNat)
  case atStart => exact ⟨0, Nat.zero_le _, rfl, rfl, HO1.out, G0.out, HB.out⟩
  case round =>
    obtain ⟨j, hj, rfl, rfl, ho, hg, hb⟩ := hrel
    clear HO1 G0 HB
    have hlen : (insKT ⟨key, kind⟩ (l.take j)).1.length ≤ 2 * n := Nat.le_trans (HLN.out j) (by have := HTK.out j; omega)
    have hn1 := HLL.out
    obtain ⟨xA, xn, xc, rfl⟩ := own_slice ho
    have HLT := Lib.hid hg.lt
    by_cases hlt : j < n
    · obtain ⟨b, off, rfl, hbl, hc⟩ := H3.out (by omega)
      have hnx := HNX.out j (by omega)
      obtain ⟨y0, y1⟩ := atKRow ((hc j hlt).below hbl hb)
      have HYR := Lib.hid (fun W (q : Below w.heap.size w W) => (hc j hlt).below hbl q)
      clear hc
      generalize l.getD j zeroKR = y at *
      generalize insKT ⟨key, kind⟩ (l.take j) = p at *
      generalize hp2 : insKT ⟨key, kind⟩ (l.take (j + 1)) = p2 at *
      have HP2 := Lib.hid hp2
      clear hp2
      obtain ⟨out, d⟩ := p
      simp only at ho hlen hnx
      obtain ⟨key2, kind2⟩ := y
      simp only at hnx y0 y1
      have HLN2 := Lib.hid (⟨hlen, hn1⟩ : out.length ≤ 2 * n ∧ n ≤ 1048576)
      have hjn : (j : Int) < (n : Int) := by omega
      have x0 := hg.get 0
      have x1 := hg.get 1
      simp at x0 x1
      have HO := Lib.hid ho
      have HX := Lib.hid hg
      have HB := Lib.hid hb
      clear ho hg hb hlen hn1
      cases d with
      | true =>
        have HNX2 := Lib.hid (hnx.trans (by simp : _ = (out ++ [(⟨key2, kind2⟩ : KR)], true)))
        clear hnx
        go_wp2_with fail
        go_quiet (fail)
        go_wp2_with (at_builtin; refine wpK_append _ rfl _ _ rfl (w.heap.size + 1) _ _ (HO.out.below (below_drewZ _ _ _)) rfl (⟨key2, kind2⟩ : KR) _ rfl rfl ?d1a ?d1b ?_; rotate_left 2; intro v1 w31 hown' hgrow' hbk'; have HO1 := Lib.hid hown'; have HG1 := Lib.hid hgrow'; clear hown' hgrow' hbk')
        · have B3 := Lib.hid (show Below (w.heap.size + 1) wr w31 from ((below_drewZ _ _ _).alloc (by have := HLT.out; simp [go_sem]; omega) _).grown HG1.out (by have := HLT.out; simp [go_sem]; omega) HO.out.base_le)
          go_roundw
          case rel => exact ⟨j + 1, by omega, by go_num, by rw [HP2.out, HNX2.out], by rw [HP2.out, HNX2.out]; exact HO1.out, (B3.out.block _ (Nat.lt_succ_self _)).trans HX.out, HB.out.trans (B3.out.mono (Nat.le_succ _))⟩
          case measure => simp [intOf]; omega
        case d1a => have := HLN2.out; omega
        case d1b => have := HLT.out; simp [go_sem]; omega
      | false =>
        rcases str_tri key key2 with ⟨q1, q2, q3⟩ | q1 | ⟨q1, q2⟩
        · skip
          have HNX2 := Lib.hid (hnx.trans (by simp [q1] : _ = ((out ++ [(⟨key, kind⟩ : KR)]) ++ [(⟨key2, kind2⟩ : KR)], true)))
          clear hnx
          go_wp2_with fail
          go_quiet (fail)
          go_upto_region 7 with fail
          refine wp_gen (fun W => OwnF 39 2 krCells W (w.heap.size + 1) (.slice xA xn xc) out ∧ Blk W w.heap.size 39 #[.string key, .int .i64 kind] ∧ Below w.heap.size w W ∧ RecAt 2 krCells W b (off + j * 2) ⟨key2, kind2⟩) ⟨HO.out.below (below_drewZ _ _ _), HX.out.below (below_drewZ _ _ _), HB.out.trans (below_drewZ _ _ _), fun q hq => by match q, hq with | 0, _ => exact y0 | 1, _ => exact y1⟩ ?_
          clear HO HX HB HLT x0 x1 y0 y1 wr
          rintro wr ⟨ho, hg, hb, hy⟩
          have x0 := hg.get 0
          have x1 := hg.get 1
          simp at x0 x1
          obtain ⟨y0, y1⟩ := atKRow hy
          have HLT := Lib.hid hg.lt
          have HO := Lib.hid ho
          have HX := Lib.hid hg
          have HB := Lib.hid hb
          have HY := Lib.hid hy
          clear ho hg hb hy
          go_upto_region 8 with (at_builtin; refine wpK_append _ rfl _ _ rfl (w.heap.size + 1) _ _ HO.out rfl (⟨key, kind⟩ : KR) _ rfl rfl ?d2a ?d2b ?_; rotate_left 2; intro v2 w32 hown' hgrow' hbk'; have HO2 := Lib.hid hown'; have HG2 := Lib.hid hgrow'; clear hown' hgrow' hbk')
          · have B3 := Lib.hid (show Below (w.heap.size + 1) wr w32 from ((Below.refl _ _).alloc (by have := HLT.out; omega) _).grown HG2.out (by have := HLT.out; simp [go_sem]; omega) HO.out.base_le)
            obtain ⟨zA, zn, zc, rfl⟩ := own_slice HO2.out
            have HX2 := Lib.hid (show Blk w32 w.heap.size 39 #[.string key, .int .i64 kind] from (B3.out.block _ (Nat.lt_succ_self _)).trans HX.out)
            have HB2 := Lib.hid (HB.out.trans (B3.out.mono (Nat.le_succ _)))
            clear x0 x1 y0 y1
            have hy2 := HYR.out w32 HB2.out
            obtain ⟨y0, y1⟩ := atKRow hy2
            have HLT2 := Lib.hid HX2.out.lt
            clear hy2
            go_wp2_with (at_builtin; refine wpK_append _ rfl _ _ rfl (w.heap.size + 1) _ _ HO2.out rfl (⟨key2, kind2⟩ : KR) _ rfl rfl ?d3a ?d3b ?_; rotate_left 2; intro v3 w33 hown' hgrow' hbk'; have HO3 := Lib.hid hown'; have HG3 := Lib.hid hgrow'; clear hown' hgrow' hbk')
            · have B4 := Lib.hid (show Below (w.heap.size + 1) w32 w33 from ((Below.refl _ _).alloc (by have := HLT2.out; omega) _).grown HG3.out (by have := HLT2.out; simp [go_sem]; omega) HO2.out.base_le)
              go_roundw
              case rel => exact ⟨j + 1, by omega, by go_num, by rw [HP2.out, HNX2.out], by rw [HP2.out, HNX2.out]; exact HO3.out, (B4.out.block _ (Nat.lt_succ_self _)).trans HX2.out, HB2.out.trans (B4.out.mono (Nat.le_succ _))⟩
              case measure => simp [intOf]; omega
            case d3a => have := HLN2.out; first | omega | (simp at *; omega)
            case d3b => have := HLT2.out; omega
          case d2a => have := HLN2.out; omega
          case d2b => have := HLT.out; omega
        · subst q1
          have q2 := bl_irrefl key2.toList
          have q3 : (key2.toList == key2.toList) = true := beq_self_eq_true _
          have HNX2 := Lib.hid (hnx.trans (by simp [strLt_irrefl] : _ = (out ++ [(⟨key2, kind2⟩ : KR)], false)))
          clear hnx
          go_wp2_with fail
          go_quiet (fail)
          go_wp2_with (at_builtin; refine wpK_append _ rfl _ _ rfl (w.heap.size + 1) _ _ (HO.out.below (below_drewZ _ _ _)) rfl (⟨key2, kind2⟩ : KR) _ rfl rfl ?d4a ?d4b ?_; rotate_left 2; intro v4 w34 hown' hgrow' hbk'; have HO4 := Lib.hid hown'; have HG4 := Lib.hid hgrow'; clear hown' hgrow' hbk')
          · have B3 := Lib.hid (show Below (w.heap.size + 1) wr w34 from ((below_drewZ _ _ _).alloc (by have := HLT.out; simp [go_sem]; omega) _).grown HG4.out (by have := HLT.out; simp [go_sem]; omega) HO.out.base_le)
            go_roundw
            case rel => exact ⟨j + 1, by omega, by go_num, by rw [HP2.out, HNX2.out], by rw [HP2.out, HNX2.out]; exact HO4.out, (B3.out.block _ (Nat.lt_succ_self _)).trans HX.out, HB.out.trans (B3.out.mono (Nat.le_succ _))⟩
            case measure => simp [intOf]; omega
          case d4a => have := HLN2.out; omega
          case d4b => have := HLT.out; simp [go_sem]; omega
        · skip
          have HNX2 := Lib.hid (hnx.trans (by simp [q1] : _ = (out ++ [(⟨key2, kind2⟩ : KR)], false)))
          clear hnx
          go_wp2_with fail
          go_quiet (fail)
          go_wp2_with (at_builtin; refine wpK_append _ rfl _ _ rfl (w.heap.size + 1) _ _ (HO.out.below (below_drewZ _ _ _)) rfl (⟨key2, kind2⟩ : KR) _ rfl rfl ?d5a ?d5b ?_; rotate_left 2; intro v5 w35 hown' hgrow' hbk'; have HO5 := Lib.hid hown'; have HG5 := Lib.hid hgrow'; clear hown' hgrow' hbk')
          · have B3 := Lib.hid (show Below (w.heap.size + 1) wr w35 from ((below_drewZ _ _ _).alloc (by have := HLT.out; simp [go_sem]; omega) _).grown HG5.out (by have := HLT.out; simp [go_sem]; omega) HO.out.base_le)
            go_roundw
            case rel => exact ⟨j + 1, by omega, by go_num, by rw [HP2.out, HNX2.out], by rw [HP2.out, HNX2.out]; exact HO5.out, (B3.out.block _ (Nat.lt_succ_self _)).trans HX.out, HB.out.trans (B3.out.mono (Nat.le_succ _))⟩
            case measure => simp [intOf]; omega
          case d5a => have := HLN2.out; omega
          case d5b => have := HLT.out; simp [go_sem]; omega
    · have hjn : j = n := by omega
      subst hjn
      have HA := HALL.out
      rw [HTL.out] at ho hlen ⊢
      generalize insKT ⟨key, kind⟩ l = p at *
      obtain ⟨out, d⟩ := p
      simp only at ho hlen HA
      have HA2 := Lib.hid HA
      have HLN2 := Lib.hid (⟨hlen, hn1⟩ : out.length ≤ 2 * j ∧ j ≤ 1048576)
      have x0 := hg.get 0
      have x1 := hg.get 1
      simp at x0 x1
      have HO := Lib.hid ho
      have HX := Lib.hid hg
      have HB := Lib.hid hb
      clear ho hg hb HA hlen hn1
      cases d with
      | true =>
        go_wp2_with fail
        go_ret
        exact ⟨_, rfl, by rw [← HA2.out]; exact HO.out.base (Nat.le_succ _), HB.out⟩
      | false =>
        go_wp2_with (at_builtin; refine wpK_append _ rfl _ _ rfl (w.heap.size + 1) _ _ HO.out rfl (⟨key, kind⟩ : KR) _ rfl rfl ?e1a ?e1b ?_; rotate_left 2; intro v9 w9 hown' hgrow' hbk'; have HO9 := Lib.hid hown'; have HG9 := Lib.hid hgrow'; clear hown' hgrow' hbk')
        · have B3 := Lib.hid (show Below (w.heap.size + 1) wr w9 from ((Below.refl _ _).alloc (by have := HLT.out; omega) _).grown HG9.out (by have := HLT.out; simp [go_sem]; omega) HO.out.base_le)
          go_ret
          exact ⟨_, rfl, by rw [← HA2.out]; exact HO9.out.base (Nat.le_succ _), HB.out.trans (B3.out.mono (Nat.le_succ _))⟩
        case e1a => have := HLN2.out; omega
        case e1b => have := HLT.out; omega
end Go.Proofs.YtlnkjpacjbhncaaGreatDoor

/-
  Chapter 8, the model's l8Put: a row put into its place by its key. It turns nothing that was there.
-/
import Derived.Test.YtlnkjpacjbhncaaGreatDoorZa
import Derived.Test.YtlnkjpacjbhncaaGreatDoorRwsC
import Derived.Test.YtlnkjpacjbhncaaGreatDoorZb
import Derived.Test.YtlnkjpacjbhncaaGreatDoorRowS
import Derived.Test.YtlnkjpacjbhncaaGreatDoorRowP
import Derived.BigQuiet
namespace Go.Proofs.YtlnkjpacjbhncaaGreatDoor
open Go.RowKit M
set_option linter.unusedVariables false
set_option linter.unusedSimpArgs false
/-- The rows gone through, r put ahead of the first one with a greater key; is it in? -/
def insT (r : R) (l : List R) : List R × Bool := l.foldl (fun p x => ((if (!p.2 && strLt r.key x.key) = true then p.1 ++ [r] else p.1) ++ [x], p.2 || strLt r.key x.key)) ([], false)
theorem bl_flip (x y : List UInt8) : (!(Go.Op.bytesLess x y || x == y)) = Go.Op.bytesLess y x := by
  induction x generalizing y with
  | nil => cases y <;> rfl
  | cons a x ih =>
    cases y with
    | nil => rfl
    | cons b y =>
      have := ih y
      simp only [Go.Op.bytesLess, List.cons_beq_cons]
      rcases Nat.lt_trichotomy a.toNat b.toNat with h | h | h
      · have h1 : a < b := h
        have h2 : ¬ b < a := fun k => by have : b.toNat < a.toNat := k; omega
        have h3 : (a == b) = false := by rw [beq_eq_false_iff_ne]; intro e; rw [e] at h; omega
        have h4 : (b == a) = false := by rw [beq_eq_false_iff_ne]; intro e; rw [e] at h; omega
        simp [h1, h2, h3, h4]
      · have h1 : a = b := UInt8.toNat_inj.1 h
        subst h1
        have h2 : ¬ a < a := fun k => by have : a.toNat < a.toNat := k; omega
        simp only [h2, decide_false, Bool.false_or, beq_self_eq_true, Bool.true_and]
        exact this
      · have h1 : b < a := h
        have h2 : ¬ a < b := fun k => by have : a.toNat < b.toNat := k; omega
        have h3 : (a == b) = false := by rw [beq_eq_false_iff_ne]; intro e; rw [e] at h; omega
        simp [h1, h2, h3]
theorem insT_go (r : R) (l acc : List R) (d : Bool) :
    let p := l.foldl (fun p x => ((if (!p.2 && strLt r.key x.key) = true then p.1 ++ [r] else p.1) ++ [x], p.2 || strLt r.key x.key)) (acc, d)
    (if p.2 = true then p.1 else p.1 ++ [r]) = acc ++ (if d = true then l else insV r l) := by
  induction l generalizing acc d with
  | nil => cases d <;> simp [insV]
  | cons x l ih =>
    simp only [List.foldl_cons]
    have := ih ((if (!d && strLt r.key x.key) = true then acc ++ [r] else acc) ++ [x]) (d || strLt r.key x.key)
    simp only at this
    rw [this]
    cases d with
    | true => simp
    | false => cases h : strLt r.key x.key <;> simp [insV, h]
theorem insT_all (r : R) (l : List R) : (if (insT r l).2 = true then (insT r l).1 else (insT r l).1 ++ [r]) = insV r l := by
  have := insT_go r l [] false
  simpa [insT] using this
theorem insT_next (r : R) (l : List R) (j : Nat) (h : j < l.length) : insT r (l.take (j + 1)) = ((if (!(insT r (l.take j)).2 && strLt r.key (l.getD j zeroR).key) = true then (insT r (l.take j)).1 ++ [r] else (insT r (l.take j)).1) ++ [l.getD j zeroR], (insT r (l.take j)).2 || strLt r.key (l.getD j zeroR).key) := by
  have e : l.take (j + 1) = l.take j ++ [l.getD j zeroR] := by
    rw [List.take_add_one, List.getD_eq_getElem?_getD, List.getElem?_eq_getElem h]; rfl
  rw [e]
  unfold insT
  rw [List.foldl_append]; rfl
theorem insT_len (r : R) (l : List R) : (insT r l).1.length ≤ 2 * l.length := by
  have g : ∀ (l acc : List R) (d : Bool), (l.foldl (fun p x => ((if (!p.2 && strLt r.key x.key) = true then p.1 ++ [r] else p.1) ++ [x], p.2 || strLt r.key x.key)) (acc, d)).1.length ≤ acc.length + 2 * l.length := by
    intro l
    induction l with
    | nil => intro acc d; simp
    | cons x l ih =>
      intro acc d
      simp only [List.foldl_cons, List.length_cons]
      have := ih ((if (!d && strLt r.key x.key) = true then acc ++ [r] else acc) ++ [x]) (d || strLt r.key x.key)
      refine Nat.le_trans this ?_
      split <;> simp <;> omega
  have := g l [] false
  simpa [insT] using this
theorem putV_has {l : List R} {r : R} {j : Nat} (hj : j < l.length) (h : (l.getD j zeroR).key = r.key) : putV l r = l := by
  unfold putV
  rw [if_pos]
  rw [List.any_eq_true]
  refine ⟨l.getD j zeroR, ?_, by simpa using h⟩
  rw [List.getD_eq_getElem?_getD, List.getElem?_eq_getElem hj]; exact List.getElem_mem hj
theorem putV_new {l : List R} {r : R} (h : ∀ m, m < l.length → (l.getD m zeroR).key ≠ r.key) : putV l r = insV r l := by
  unfold putV
  rw [if_neg]
  rw [List.any_eq_true]
  rintro ⟨x, hx, hk⟩
  obtain ⟨m, hm, rfl⟩ := List.getElem_of_mem hx
  have := h m hm
  rw [List.getD_eq_getElem?_getD, List.getElem?_eq_getElem hm] at this
  exact this (by simpa using hk)
theorem insV_len (r : R) (l : List R) : (insV r l).length = l.length + 1 := by
  induction l with
  | nil => rfl
  | cons x l ih => unfold insV; split; rfl; rw [List.length_cons, ih, List.length_cons]
theorem putV_len (l : List R) (r : R) : (putV l r).length ≤ l.length + 1 := by
  unfold putV; split; omega; rw [insV_len]; exact Nat.le_refl _
theorem OwnR.base {w : World} {b b' : Nat} {v : Value} {l : List R} (h : OwnR w b v l) (hb : b' ≤ b) : OwnR w b' v l := by
  rcases h.2 with ⟨h1, h2⟩ | ⟨g, cap, cur, h1, h2, h3⟩
  · exact ⟨h.1, .inl ⟨h1, h2⟩⟩
  · exact ⟨h.1, .inr ⟨g, cap, cur, h1, Nat.le_trans hb h2, h3⟩⟩
theorem below_drewZ (B : Nat) (w : World) (n : Nat) : Below B w (w.drewN n) := ⟨rfl, rfl, rfl, Nat.le_refl _, fun _ _ => rfl⟩
/-- A call hands back a row of rows: one of the call's own, or the one that came in. -/
def PutR (w : World) (base : Nat) (rs : List R) (e : Ending) (w' : World) : Prop := ∃ v, e = .returned v ∧ OwnR w' base v rs ∧ Below w.heap.size w w'
set_option maxRecDepth 100000 in
set_option maxHeartbeats 16000000 in
theorem sPut_any (w : World) (base : Nat) (v : Value) (l : List R) (r : R) (h : OwnR w base v l) (hl : l.length ≤ 1048576) (hbase : base ≤ w.heap.size) : Calls Tryz.prog 38 #[v, r.v] w (PutR w base (putV l r)) := by
  have H0 := Lib.hid h
  obtain ⟨A, cap, rfl, h1, h2, h3⟩ := h.arg
  unfold maxLen at h2
  obtain ⟨key, kind, sum, st, last, n', mn, mx, total, dropped⟩ := r
  generalize hr : (⟨key, kind, sum, st, last, n', mn, mx, total, dropped⟩ : R) = r at *
  have HR := Lib.hid hr
  have HHAS := Lib.hid (fun j (hj : j < l.length) => putV_has (r := r) hj)
  have HNEW := Lib.hid (fun h => putV_new (l := l) (r := r) h)
  have HALL := Lib.hid (insT_all r l)
  have HNX := Lib.hid (insT_next r l)
  have HLN := Lib.hid (fun j => (insT_len r (l.take j)))
  have HTK := Lib.hid (fun j => show (l.take j).length ≤ l.length by rw [List.length_take]; omega)
  have HTL := Lib.hid (List.take_length (l := l))
  have H3 := Lib.hid h3
  have HLL := Lib.hid hl
  generalize hn : l.length = n at *
  clear h h3 hn hl
  have hrv : r.v = .agg #[.string key, .int .i64 kind, .int .i64 sum, .bool st, .int .i64 last, .int .i64 n', .int .i64 mn, .int .i64 mx, .int .i64 total, .int .i64 dropped] := by rw [← hr]; rfl
  rw [hrv]
  clear hrv
  have hkey : r.key = key := by rw [← hr]
  clear hr
  go_enter Tryz.func38, Tryz.ntmps38
  go_wp2_with fail
  go_loopw [5, 6, 7] (fun u d x wr => ∃ j : Nat, j ≤ n ∧ x = .int .i64 j ∧ d = .bool (insT r (l.take j)).2 ∧ OwnR wr (w.heap.size + 1) u (insT r (l.take j)).1 ∧ RowAt wr w.heap.size ⟨key, kind, sum, st, last, n', mn, mx, total, dropped⟩ ∧ (∀ m, m < j → (l.getD m zeroR).key ≠ r.key) ∧ Below w.heap.size w wr) (fun _ _ x _ => n - (intOf x).toNat)
  case atStart =>
    refine ⟨0, Nat.zero_le _, rfl, rfl, ?_, ?_, fun m hm => by omega, ((Below.refl _ _).alloc (Nat.le_refl _) _).alloc (by simp [go_sem]) _⟩
    · have := OwnR.empty (w.alloc (.cells (rowCells ⟨key, kind, sum, st, last, n', mn, mx, total, dropped⟩) 60)) (w.heap.size + 1) (by simp [go_sem])
      rw [World.size_alloc] at this
      exact this
    · exact (rowAt_new w w.heap.size ⟨key, kind, sum, st, last, n', mn, mx, total, dropped⟩ rfl).alloc _
  case round =>
    obtain ⟨j, hj, rfl, rfl, ho, hx, hd, hb⟩ := hrel
    have hlen : (insT r (l.take j)).1.length ≤ 2 * n := Nat.le_trans (HLN.out j) (by have := HTK.out j; omega)
    have hn1 := HLL.out
    have HD := Lib.hid hd
    clear hd
    by_cases hlt : j < n
    · obtain ⟨b, off, rfl, hbl, hc⟩ := H3.out (by omega)
      have hnx := HNX.out j (by omega)
      have hcr := (hc j hlt).below hbl hb
      have hhas := HHAS.out j (by omega)
      have HNE := Lib.hid (fun (hne : (l.getD j zeroR).key ≠ r.key) m (hm : m < j + 1) => show (l.getD m zeroR).key ≠ r.key by
        by_cases e : m = j
        · subst e; exact hne
        · exact HD.out m (by omega))
      clear hc
      generalize l.getD j zeroR = y at *
      generalize insT r (l.take j) = p at *
      generalize hp2 : insT r (l.take (j + 1)) = p2 at *
      have HP2 := Lib.hid hp2
      clear hp2
      obtain ⟨out, d⟩ := p
      simp only at ho hlen hnx
      obtain ⟨key2, kind2, sum2, st2, last2, n2, mn2, mx2, total2, dropped2⟩ := y
      simp only at hnx hhas HNE
      rw [hkey] at hnx hhas HNE
      have HBL := Lib.hid hbl
      by_cases hk : key2 = key
      · have HE := Lib.hid (hhas hk)
        subst hk
        have ke := txt_self key2
        obtain ⟨x0, x1, x2, x3, x4, x5, x6, x7, x8, x9, xf⟩ := hx.get
        obtain ⟨y0, y1, y2, y3, y4, y5, y6, y7, y8, y9⟩ := hcr.get
        simp only at x0 x1 x2 x3 x4 x5 x6 x7 x8 x9 y0 y1 y2 y3 y4 y5 y6 y7 y8 y9
        have HO := Lib.hid ho
        have HX := Lib.hid hx
        have HC := Lib.hid hcr
        have HB := Lib.hid hb
        clear ho hx hcr hb
        clear hnx hhas
        go_wp2_with fail
        go_quiet (fail)
        go_wp2_with fail
        go_ret
        exact ⟨.slice (some ⟨b, off, none⟩) n cap, rfl, by rw [HE.out]; exact H0.out.below (HB.out.trans (below_drewZ _ _ _)), HB.out.trans (below_drewZ _ _ _)⟩
      · have ke := txt_ne hk
        have HN := Lib.hid (HNE.out hk)
        clear hhas HNE hk
        cases d with
        | true =>
          have HLT := Lib.hid hx.lt
          have HLN2 := Lib.hid (⟨hlen, hn1⟩ : out.length ≤ 2 * n ∧ n ≤ 1048576)
          have HNX2 := Lib.hid (hnx.trans (by simp : _ = (out ++ [(⟨key2, kind2, sum2, st2, last2, n2, mn2, mx2, total2, dropped2⟩ : R)], true)))
          clear hnx
          obtain ⟨x0, x1, x2, x3, x4, x5, x6, x7, x8, x9, xf⟩ := hx.get
          obtain ⟨y0, y1, y2, y3, y4, y5, y6, y7, y8, y9⟩ := hcr.get
          simp only at x0 x1 x2 x3 x4 x5 x6 x7 x8 x9 y0 y1 y2 y3 y4 y5 y6 y7 y8 y9
          have HO := Lib.hid ho
          have HX := Lib.hid hx
          have HC := Lib.hid hcr
          have HB := Lib.hid hb
          clear ho hx hcr hb
          go_wp2_with fail
          go_quiet (fail)
          go_wp2_with fail
          go_quiet (fail)
          go_wp2_with (at_builtin; refine wpR_append _ rfl _ _ rfl (w.heap.size + 1) _ _ (HO.out.below (below_drewZ _ _ _)) rfl ⟨key2, kind2, sum2, st2, last2, n2, mn2, mx2, total2, dropped2⟩ _ (rfl) rfl ?d1 ?d2 ?_; rotate_left 2; intro v' w3 hown' hgrow'; have HO3 := Lib.hid hown'; have HG := Lib.hid hgrow'; clear hown' hgrow')
          · have B3 := Lib.hid (show Below (w.heap.size + 1) wr w3 from ((below_drewZ _ _ _).alloc (by have := HLT.out; simp [go_sem]; omega) _).grown HG.out (by have := HLT.out; simp [go_sem]; omega) HO.out.base_le)
            go_roundw
            case rel => exact ⟨j + 1, by omega, by go_num, by rw [HP2.out, HNX2.out], by rw [HP2.out, HNX2.out]; exact HO3.out, (B3.out.block _ (Nat.lt_succ_self _)).trans HX.out, fun m hm => by rw [hkey]; exact HN.out m hm, HB.out.trans (B3.out.mono (Nat.le_succ _))⟩
            case measure => simp [intOf]; omega
          case d1 => have := HLN2.out; simp at *; omega
          case d2 => have := HLT.out; simp [go_sem]; omega
        | false =>
          cases hlt2 : strLt key key2 with
          | false =>
            have hbl2 := hlt2
            unfold strLt at hbl2
            rw [← bl_flip, ke, Bool.or_false] at hbl2
            have hbl3 : Go.Op.bytesLess key2.toList key.toList = true := by simpa using hbl2
            rw [hlt2] at hnx
            clear hlt2
            have HLT := Lib.hid hx.lt
            have HLN2 := Lib.hid (⟨hlen, hn1⟩ : out.length ≤ 2 * n ∧ n ≤ 1048576)
            have HNX2 := Lib.hid (hnx.trans (by simp : _ = (out ++ [(⟨key2, kind2, sum2, st2, last2, n2, mn2, mx2, total2, dropped2⟩ : R)], false)))
            clear hnx
            obtain ⟨x0, x1, x2, x3, x4, x5, x6, x7, x8, x9, xf⟩ := hx.get
            obtain ⟨y0, y1, y2, y3, y4, y5, y6, y7, y8, y9⟩ := hcr.get
            simp only at x0 x1 x2 x3 x4 x5 x6 x7 x8 x9 y0 y1 y2 y3 y4 y5 y6 y7 y8 y9
            have HO := Lib.hid ho
            have HX := Lib.hid hx
            have HC := Lib.hid hcr
            have HB := Lib.hid hb
            clear ho hx hcr hb
            go_wp2_with fail
            go_quiet (fail)
            go_wp2_with fail
            go_quiet (fail)
            go_wp2_with (at_builtin; refine wpR_append _ rfl _ _ rfl (w.heap.size + 1) _ _ (HO.out.below (below_drewZ _ _ _)) rfl ⟨key2, kind2, sum2, st2, last2, n2, mn2, mx2, total2, dropped2⟩ _ (rfl) rfl ?e1 ?e2 ?_; rotate_left 2; intro v' w3 hown' hgrow'; have HO3 := Lib.hid hown'; have HG := Lib.hid hgrow'; clear hown' hgrow')
            · have B3 := Lib.hid (show Below (w.heap.size + 1) wr w3 from ((below_drewZ _ _ _).alloc (by have := HLT.out; simp [go_sem]; omega) _).grown HG.out (by have := HLT.out; simp [go_sem]; omega) HO.out.base_le)
              go_roundw
              case rel => exact ⟨j + 1, by omega, by go_num, by rw [HP2.out, HNX2.out], by rw [HP2.out, HNX2.out]; exact HO3.out, (B3.out.block _ (Nat.lt_succ_self _)).trans HX.out, fun m hm => by rw [hkey]; exact HN.out m hm, HB.out.trans (B3.out.mono (Nat.le_succ _))⟩
              case measure => simp [intOf]; omega
            case e1 => have := HLN2.out; simp at *; omega
            case e2 => have := HLT.out; simp [go_sem]; omega
          | true =>
            have hbl2 := hlt2
            unfold strLt at hbl2
            rw [← bl_flip, ke, Bool.or_false] at hbl2
            have hbl3 : Go.Op.bytesLess key2.toList key.toList = false := by simpa using hbl2
            rw [hlt2] at hnx
            clear hlt2
            have HLT := Lib.hid hx.lt
            have HLN2 := Lib.hid (⟨hlen, hn1⟩ : out.length ≤ 2 * n ∧ n ≤ 1048576)
            have HNX2 := Lib.hid (hnx.trans (by simp : _ = ((out ++ [r]) ++ [(⟨key2, kind2, sum2, st2, last2, n2, mn2, mx2, total2, dropped2⟩ : R)], true)))
            clear hnx
            obtain ⟨x0, x1, x2, x3, x4, x5, x6, x7, x8, x9, xf⟩ := hx.get
            obtain ⟨y0, y1, y2, y3, y4, y5, y6, y7, y8, y9⟩ := hcr.get
            simp only at x0 x1 x2 x3 x4 x5 x6 x7 x8 x9 y0 y1 y2 y3 y4 y5 y6 y7 y8 y9
            have HO := Lib.hid ho
            have HX := Lib.hid hx
            have HC := Lib.hid hcr
            have HB := Lib.hid hb
            clear ho hx hcr hb
            go_wp2_with fail
            go_quiet (fail)
            go_wp2_with fail
            go_quiet (fail)
            go_upto_region 11 with (at_builtin; refine wpR_append _ rfl _ _ rfl (w.heap.size + 1) _ _ (HO.out.below (below_drewZ _ _ _)) rfl r _ (congrArg rowCells HR.out) rfl ?f1 ?f2 ?_; rotate_left 2; intro v' w3 hown' hgrow'; have HO3 := Lib.hid hown'; have HG := Lib.hid hgrow'; clear hown' hgrow')
            · have B3 := Lib.hid (show Below (w.heap.size + 1) wr w3 from ((below_drewZ _ _ _).alloc (by have := HLT.out; simp [go_sem]; omega) _).grown HG.out (by have := HLT.out; simp [go_sem]; omega) HO.out.base_le)
              have HX3 := Lib.hid (show RowAt w3 w.heap.size ⟨key, kind, sum, st, last, n', mn, mx, total, dropped⟩ from (B3.out.block _ (Nat.lt_succ_self _)).trans HX.out)
              have hc3 : Row10 w3 b (off + j * 10) ⟨key2, kind2, sum2, st2, last2, n2, mn2, mx2, total2, dropped2⟩ := fun k hk => (B3.out.cell (p := ⟨b, off + j * 10 + k, none⟩) (by have := HBL.out; show b < _; omega)).trans (HC.out k hk)
              have HB3 := Lib.hid (HB.out.trans (B3.out.mono (Nat.le_succ _)))
              have HLT3 := Lib.hid HX3.out.lt
              clear B3 HG HO HX HC HB x0 x1 x2 x3 x4 x5 x6 x7 x8 x9 y0 y1 y2 y3 y4 y5 y6 y7 y8 y9 xf
              obtain ⟨y0, y1, y2, y3, y4, y5, y6, y7, y8, y9⟩ := hc3.get
              simp only at y0 y1 y2 y3 y4 y5 y6 y7 y8 y9
              clear hc3 HLT
              have HO := HO3
              clear HO3
              have HX := HX3
              clear HX3
              have HB := HB3
              clear HB3
              have HLT := HLT3
              clear HLT3
              clear HLN2
              have HLN2 := Lib.hid (show (out ++ [r]).length ≤ 2 * n + 1 ∧ n ≤ 1048576 by rw [List.length_append]; simp; omega)
              go_wp2_with (at_builtin; refine wpR_append _ rfl _ _ rfl (w.heap.size + 1) _ _ (HO.out) rfl ⟨key2, kind2, sum2, st2, last2, n2, mn2, mx2, total2, dropped2⟩ _ (rfl) rfl ?g1 ?g2 ?_; rotate_left 2; intro v' w3 hown' hgrow'; have HO3 := Lib.hid hown'; have HG := Lib.hid hgrow'; clear hown' hgrow')
              · have B3 := Lib.hid (show Below (w.heap.size + 1) _ w3 from ((Below.refl _ _).alloc (by have := HLT.out; omega) _).grown HG.out (by have := HLT.out; simp [go_sem]; omega) HO.out.base_le)
                go_roundw
                case rel => exact ⟨j + 1, by omega, by go_num, by rw [HP2.out, HNX2.out], by rw [HP2.out, HNX2.out]; exact HO3.out, (B3.out.block _ (Nat.lt_succ_self _)).trans HX.out, fun m hm => by rw [hkey]; exact HN.out m hm, HB.out.trans (B3.out.mono (Nat.le_succ _))⟩
                case measure => simp [intOf]; omega
              case g1 => have := HLN2.out; simp at *; omega
              case g2 => have := HLT.out; simp [go_sem]; omega
            case f1 => have := HLN2.out; simp at *; omega
            case f2 => have := HLT.out; simp [go_sem]; omega
    · have hjn : j = n := by omega
      subst hjn
      have HE := Lib.hid (HNEW.out (fun m hm => HD.out m hm))
      rw [HTL.out] at ho hlen ⊢
      have hall := HALL.out
      generalize insT r l = p at *
      obtain ⟨out, d⟩ := p
      simp only at ho hlen hall
      have hge : decide ((j : Int) < (j : Int)) = false := by simp
      have HLT := Lib.hid hx.lt
      have HLN2 := Lib.hid (⟨hlen, hn1⟩ : out.length ≤ 2 * j ∧ j ≤ 1048576)
      cases d with
      | true =>
        have HF := Lib.hid (HE.out.trans hall.symm)
        have HO := Lib.hid ho
        have HB := Lib.hid hb
        clear ho hb hx hall
        go_wp2_with fail
        go_ret
        exact ⟨_, rfl, by rw [HF.out]; exact HO.out.base (by omega), HB.out⟩
      | false =>
        have HF := Lib.hid (HE.out.trans hall.symm)
        obtain ⟨x0, x1, x2, x3, x4, x5, x6, x7, x8, x9, xf⟩ := hx.get
        simp only at x0 x1 x2 x3 x4 x5 x6 x7 x8 x9
        have HO := Lib.hid ho
        have HB := Lib.hid hb
        clear ho hb hx hall
        go_wp2_with (at_builtin; refine wpR_append _ rfl _ _ rfl (w.heap.size + 1) _ _ (HO.out) rfl r _ (congrArg rowCells HR.out) rfl ?h1 ?h2 ?_; rotate_left 2; intro v' w3 hown' hgrow'; have HO3 := Lib.hid hown'; have HG := Lib.hid hgrow'; clear hown' hgrow')
        · have B3 := Lib.hid (show Below (w.heap.size + 1) _ w3 from ((Below.refl _ _).alloc (by have := HLT.out; omega) _).grown HG.out (by have := HLT.out; simp [go_sem]; omega) HO.out.base_le)
          go_ret
          exact ⟨_, rfl, by rw [HF.out]; exact HO3.out.base (by omega), HB.out.trans (B3.out.mono (Nat.le_succ _))⟩
        case h1 => have := HLN2.out; simp at *; omega
        case h2 => have := HLT.out; simp [go_sem]; omega
end Go.Proofs.YtlnkjpacjbhncaaGreatDoor

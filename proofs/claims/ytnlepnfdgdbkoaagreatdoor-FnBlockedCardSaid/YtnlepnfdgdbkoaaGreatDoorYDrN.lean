/-
  Texts of this seat, laid together.
-/
import Derived.Test.YtnlepnfdgdbkoaaGreatDoorYMf
import Derived.Test.YtnlepnfdgdbkoaaGreatDoorYZa
import Derived.Test.YtnlepnfdgdbkoaaGreatDoorYZb
import Derived.BigRegion
import Derived.RegionTactic
namespace Go.Proofs.YtnlepnfdgdbkoaaGreatDoor
open Go.RowKit M
set_option linter.unusedVariables false
set_option linter.unusedSimpArgs false
def Sorted (w : World) (base g n cap : Nat) (rs : List R) (e : Ending) (w' : World) : Prop := e = .returned (.tuple #[]) ∧ OwnR w' base (.slice (some ⟨g, 0, none⟩) n cap) rs ∧ w.grownBy w' (some g)
theorem set_swap (A C : List R) (a x : R) : ((A ++ a :: x :: C).set (A.length + 1) a).set A.length x = A ++ x :: a :: C := by
  rw [List.set_append_right _ _ (by omega), show A.length + 1 - A.length = 1 by omega, List.set_append_right _ _ (by omega), Nat.sub_self]
  rfl
theorem getD_at (A C : List R) (x : R) : (A ++ x :: C).getD A.length zeroR = x := by
  rw [List.getD_eq_getElem?_getD, List.getElem?_append_right (Nat.le_refl _), Nat.sub_self]; rfl
structure Down (S : List R) (x : R) (C : List R) (j : Nat) (l : List R) : Prop where
  parts : ∃ A B, S = A ++ B ∧ A.length = j ∧ l = A ++ x :: (B ++ C) ∧ (B = [] ∨ ∃ b B', B = b :: B' ∧ strLt x.key b.key = true)
theorem Down.stop {S : List R} {x : R} {C : List R} {j : Nat} {l : List R} (h : Down S x C j l) (hS : AscV S) (hs : j = 0 ∨ strLt x.key (l.getD (j - 1) zeroR).key = false) : l = insV x S ++ C := by
  obtain ⟨A, B, rfl, rfl, rfl, hB⟩ := h.parts
  rw [ins_at x A B hS ?_ hB, List.append_assoc]
  · rfl
  · rcases List.eq_nil_or_concat A with e | ⟨A', a, e⟩
    · exact .inl e
    · refine .inr ⟨A', a, by rw [e]; simp, ?_⟩
      rcases hs with h0 | hs
      · rw [e] at h0; simp at h0
      · rw [e] at hs
        have e2 : (A'.concat a).length - 1 = A'.length := by simp
        rw [e2, List.concat_eq_append, List.append_assoc, List.singleton_append, getD_at] at hs
        exact hs
theorem Down.next {S : List R} {x : R} {C : List R} {j : Nat} {l : List R} (h : Down S x C (j + 1) l) (hs : strLt x.key (l.getD j zeroR).key = true) : Down S x C j ((l.set (j + 1) (l.getD j zeroR)).set j x) := by
  obtain ⟨A, B, rfl, hA, rfl, hB⟩ := h.parts
  rcases List.eq_nil_or_concat A with e | ⟨A', a, e⟩
  · rw [e] at hA; simp at hA
  · rw [List.concat_eq_append] at e
    subst e
    have hj : j = A'.length := by simp at hA; omega
    subst hj
    have e2 : A' ++ [a] ++ x :: (B ++ C) = A' ++ a :: x :: (B ++ C) := by simp
    rw [e2] at hs ⊢
    rw [getD_at] at hs ⊢
    rw [set_swap]
    exact ⟨A', a :: B, by simp, rfl, by simp, .inr ⟨a, B, rfl, hs⟩⟩
theorem Down.at {S : List R} {x : R} {C : List R} {j : Nat} {l : List R} (h : Down S x C j l) : l.getD j zeroR = x := by
  obtain ⟨A, B, rfl, rfl, rfl, hB⟩ := h.parts
  exact getD_at _ _ _
theorem Down.len {S : List R} {x : R} {C : List R} {j : Nat} {l : List R} (h : Down S x C j l) : l.length = S.length + 1 + C.length := by
  obtain ⟨A, B, rfl, rfl, rfl, hB⟩ := h.parts
  simp; omega
theorem insV_length (r : R) (l : List R) : (insV r l).length = l.length + 1 := by
  induction l with
  | nil => rfl
  | cons x l ih => unfold insV; split; rfl; rw [List.length_cons, ih, List.length_cons]
theorem sortV_length (l : List R) : (sortV l).length = l.length := by
  have : ∀ (l s : List R), (l.foldl (fun s r => insV r s) s).length = s.length + l.length := by
    intro l
    induction l with
    | nil => intro s; rfl
    | cons x l ih => intro s; rw [List.foldl_cons, ih, insV_length, List.length_cons]; omega
  have h := this l []
  rw [List.length_nil, Nat.zero_add] at h
  exact h
def sortT (rs : List R) (i : Nat) : List R := sortV (rs.take i) ++ rs.drop i
theorem sortT_all {rs : List R} {i : Nat} (h : rs.length ≤ i) : sortT rs i = sortV rs := by rw [sortT, List.take_of_length_le h, List.drop_of_length_le h, List.append_nil]
theorem sortT_one (rs : List R) : sortT rs 1 = rs := by
  cases rs with
  | nil => rfl
  | cons r rs => simp [sortT, sortV, insV]
theorem Down.start {rs : List R} {i : Nat} (h : i < rs.length) : Down (sortV (rs.take i)) (rs.getD i zeroR) (rs.drop (i + 1)) i (sortT rs i) := by
  refine ⟨sortV (rs.take i), [], by simp, by rw [sortV_length, List.length_take]; omega, ?_, .inl rfl⟩
  rw [sortT, List.drop_eq_getElem_cons h, List.getD_eq_getElem?_getD, List.getElem?_eq_getElem h]
  rfl
theorem Down.done {rs : List R} {i j : Nat} {l : List R} (hi : i < rs.length) (h : Down (sortV (rs.take i)) (rs.getD i zeroR) (rs.drop (i + 1)) j l) (hs : j = 0 ∨ strLt (rs.getD i zeroR).key (l.getD (j - 1) zeroR).key = false) : l = sortT rs (i + 1) := by
  rw [h.stop (asc_sort _) hs, sortT, take_next rs i hi, sortV_snoc]
set_option maxRecDepth 100000 in
set_option maxHeartbeats 8000000 in
theorem iIns_any (w : World) (base g n cap : Nat) (rs : List R) (h : OwnR w base (.slice (some ⟨g, 0, none⟩) n cap) rs) (hn : rs.length = n) :
    Calls Tryz.prog 150 #[.slice (some ⟨g, 0, none⟩) n cap, .int .i64 0, .int .i64 n, .func (.func 134) #[] #[]] w (Sorted w base g n cap (sortV rs)) := by
  obtain ⟨hc1, hc2⟩ := h.capLe hn
  have hg := h.inB.2
  have HO := Lib.hid h
  have HNL := Lib.hid hn
  have HCMP := fun W r s => Lib.hid (iCmp_any W r s)
  unfold maxLen at hc2
  clear h hn
  go_enter Tryz.func150, Tryz.ntmps150
  go_wp2_with fail
  go_loopw [8] (fun vi wr => ∃ i : Nat, vi = .int .i64 i ∧ 1 ≤ i ∧ i ≤ n + 1 ∧ OwnR wr base (.slice (some ⟨g, 0, none⟩) n cap) (sortT rs i) ∧ w.grownBy wr (some g)) (fun vi _ => n + 1 - (intOf vi).toNat)
  case atStart => exact ⟨1, by go_num, Nat.le_refl _, by omega, by rw [sortT_one]; exact HO.out, ⟨rfl, rfl, rfl, Nat.le_refl _, fun _ _ _ => rfl⟩⟩
  case round =>
    obtain ⟨i, rfl, hi1, hi2, ho, hgr⟩ := hrel
    by_cases hlt : i < n
    · have hltz : (i : Int) < (n : Int) := by omega
      have HST := Lib.hid (Down.start (rs := rs) (i := i) (by rw [HNL.out]; exact hlt))
      have HDN := Lib.hid (fun j l => Down.done (rs := rs) (i := i) (j := j) (l := l) (by rw [HNL.out]; exact hlt))
      have HO1 := Lib.hid ho
      have HG1 := Lib.hid hgr
      have hlen : (sortV (rs.take i)).length + 1 + (rs.drop (i + 1)).length = n := by rw [sortV_length, List.length_take, List.length_drop, HNL.out]; omega
      have HLEN := Lib.hid hlen
      clear ho hgr HO hlen
      generalize rs.getD i zeroR = x at *
      generalize sortV (rs.take i) = S at *
      generalize rs.drop (i + 1) = C at *
      go_wp2_with fail
      obtain ⟨wo, rfl⟩ : ∃ wo : World, wo = wr := ⟨_, rfl⟩
      go_loopw [9] (fun vj wr2 => ∃ (j : Nat) (l : List R), vj = .int .i64 j ∧ j ≤ i ∧ Down S x C j l ∧ OwnR wr2 base (.slice (some ⟨g, 0, none⟩) n cap) l ∧ w.grownBy wr2 (some g)) (fun vj _ => (intOf vj).toNat)
      case atStart => exact ⟨i, _, rfl, Nat.le_refl _, HST.out, HO1.out, HG1.out⟩
      case round =>
        obtain ⟨j, l, rfl, hji, hd, ho, hgr⟩ := hrel
        have hll : l.length = n := by rw [hd.len, HLEN.out]
        have hat := hd.at
        clear HST HO1 HG1
        by_cases hj0 : j = 0
        · subst hj0
          have HE := Lib.hid (HDN.out 0 l hd (.inl rfl))
          have HS := Lib.hid (show OwnR wr.drew base (.slice (some ⟨g, 0, none⟩) n cap) l ∧ w.grownBy wr.drew (some g) from ⟨ho.below (below_drew _ _), grownR_trans hgr (grown_below (below_drew _ _))⟩)
          clear ho hgr hd hat
          have hgt : decide ((0 : Int) > 0) = false := rfl
          go_wp2_with fail
          have HCL := (⟨HS.out⟩ : HoldsC (fun W => OwnR W base (.slice (some ⟨g, 0, none⟩) n cap) l ∧ w.grownBy W (some g)) _)
          have hall : ∀ p : Prop, (∀ W, HoldsC (fun W => OwnR W base (.slice (some ⟨g, 0, none⟩) n cap) l ∧ w.grownBy W (some g)) W → p) ↔ p := fun p => ⟨fun h => h _ HCL, fun h _ _ => h⟩
          refine wp_region_wq (C := HoldsC (fun W => OwnR W base (.slice (some ⟨g, 0, none⟩) n cap) l ∧ w.grownBy W (some g))) (by kernel_rfl) (by kernel_rfl) HCL ?_
          repeat (refine WQ.step (fun K hK => ?_); go_simp; first | (refine hK _ ?_; clear hK K) | (apply Exists.intro; refine ⟨fun W hW => ?_, hK _ ?_⟩; (focus (first | exact rfl | (obtain ⟨hO, hG⟩ := hW.out; go_simp; rfl))); clear hK K))
          refine WQ.nil ?_
          intro W hW
          obtain ⟨hO, hG⟩ := hW.out
          clear hall HCL
          have HO3 := Lib.hid hO
          have HG3 := Lib.hid hG
          clear hW hO hG HS
          go_wp2_with fail
          go_roundw
          case rel => exact ⟨i + 1, by go_num, by omega, by omega, by rw [← HE.out]; exact HO3.out, HG3.out⟩
          case measure => simp [intOf]; omega
        · obtain ⟨jp, rfl⟩ : ∃ jp, j = jp + 1 := ⟨j - 1, by omega⟩
          have hjn : jp + 1 < n := by omega
          have HE := Lib.hid (fun (q : strLt x.key (l.getD jp zeroR).key = false) => HDN.out (jp + 1) l hd (.inr q))
          have HX := Lib.hid (fun (q : strLt x.key (l.getD jp zeroR).key = true) => hd.next q)
          have hless := cmpV_less x.key (l.getD jp zeroR).key
          have HS := Lib.hid (show OwnR wr.drew base (.slice (some ⟨g, 0, none⟩) n cap) l ∧ w.grownBy wr.drew (some g) from ⟨ho.below (below_drew _ _), grownR_trans hgr (grown_below (below_drew _ _))⟩)
          have HROW := Lib.hid (fun W (h : OwnR W base (.slice (some ⟨g, 0, none⟩) n cap) l) => (show Row10 W g ((jp + 1) * 10) x ∧ Row10 W g (jp * 10) (l.getD jp zeroR) from ⟨by have := h.at hll (jp + 1) hjn; rwa [hat] at this, h.at hll jp (by omega)⟩))
          have HC2 := fun W => Lib.hid (HCMP W x (l.getD jp zeroR)).out
          have HLL := Lib.hid hll
          clear ho hgr hd hat HCMP HDN
          generalize l.getD jp zeroR = y at *
          have hp1 : (jp : Int) + 1 < (n : Int) := by omega
          have hp2 : (0 : Int) ≤ (jp : Int) + 1 := by omega
          have hp3 : ((jp : Int) + 1).toNat = jp + 1 := by omega
          have hp4 : (jp : Int) < (n : Int) := by omega
          have hp5 : IntKind.i64.wrap ((jp : Int) + 1 - 1) = (jp : Int) := by rw [IntKind.wrap_i64]; omega
          have hp6 : IntKind.i64.wrap (jp : Int) = (jp : Int) := by rw [IntKind.wrap_i64]; omega
          have hp7 : decide ((jp : Int) + 1 > 0) = true := by rw [decide_eq_true]; omega
          have hp8 : (0 : Int) < (jp : Int) + 1 := by omega
          obtain ⟨key, kind, sum, st, last, n1, mn, mx, total, dropped⟩ := x
          obtain ⟨key', kind', sum', st', last', n1', mn', mx', total', dropped'⟩ := y
          unfold R.v at HC2
          simp only at HC2 hless HE HX
          generalize cmpV key key' = c at *
          generalize strLt key key' = sl at *
          go_wp2_with fail
          have HCL := (⟨HS.out⟩ : HoldsC (fun W => OwnR W base (.slice (some ⟨g, 0, none⟩) n cap) l ∧ w.grownBy W (some g)) _)
          have hall : ∀ p : Prop, (∀ W, HoldsC (fun W => OwnR W base (.slice (some ⟨g, 0, none⟩) n cap) l ∧ w.grownBy W (some g)) W → p) ↔ p := fun p => ⟨fun h => h _ HCL, fun h _ _ => h⟩
          refine wp_region_wq (C := HoldsC (fun W => OwnR W base (.slice (some ⟨g, 0, none⟩) n cap) l ∧ w.grownBy W (some g))) (by kernel_rfl) (by kernel_rfl) HCL ?_
          repeat (refine WQ.step (fun K hK => ?_); go_simp; first | (refine hK _ ?_; clear hK K) | (apply Exists.intro; refine ⟨fun W hW => ?_, hK _ ?_⟩; (focus (first | (go_at_call 134; (with_reducible refine Calls.mono (Hid.out (HC2 _)) ?_); rintro e w' ⟨rfl, hb'⟩; exact ⟨rfl, ⟨hW.out.1.below hb', grownR_trans hW.out.2 (grown_below hb')⟩⟩) | exact rfl | (obtain ⟨hO, hG⟩ := hW.out; obtain ⟨hRx, hRy⟩ := HROW.out _ hO; obtain ⟨x0, x1, x2, x3, x4, x5, x6, x7, x8, x9⟩ := hRx.get; obtain ⟨y0, y1, y2, y3, y4, y5, y6, y7, y8, y9⟩ := hRy.get; simp only at x0 x1 x2 x3 x4 x5 x6 x7 x8 x9 y0 y1 y2 y3 y4 y5 y6 y7 y8 y9; go_simp; rfl))); clear hK K))
          refine WQ.nil ?_
          intro W hW
          obtain ⟨hO, hG⟩ := hW.out; obtain ⟨hRx, hRy⟩ := HROW.out _ hO; obtain ⟨x0, x1, x2, x3, x4, x5, x6, x7, x8, x9⟩ := hRx.get; obtain ⟨y0, y1, y2, y3, y4, y5, y6, y7, y8, y9⟩ := hRy.get; simp only at x0 x1 x2 x3 x4 x5 x6 x7 x8 x9 y0 y1 y2 y3 y4 y5 y6 y7 y8 y9
          clear hall HCL
          have HO3 := Lib.hid hO
          have HG3 := Lib.hid hG
          have zf := hO.frz HLL.out
          clear hW hO hG HS hRx hRy HROW
          cases sl with
          | false =>
            have HE2 := Lib.hid (HE.out rfl)
            clear HE HX
            go_wp2_with fail
            go_roundw
            case rel => exact ⟨i + 1, by go_num, by omega, by omega, by rw [← HE2.out]; exact HO3.out, HG3.out⟩
            case measure => simp [intOf]; omega
          | true =>
            have HX2 := Lib.hid (HX.out rfl)
            clear HE HX
            go_wp2_with fail
            go_region
            all_goals go_wp2
            go_roundw
            case rel =>
              have p1 := HO3.out.put HLL.out (jp + 1) hjn ⟨key', kind', sum', st', last', n1', mn', mx', total', dropped'⟩
              have p2 := p1.1.put (by rw [List.length_set]; exact HLL.out) jp (by omega) ⟨key, kind, sum, st, last, n1, mn, mx, total, dropped⟩
              exact ⟨jp, _, rfl, by omega, HX2.out, p2.1.below (below_drew _ _), grownR_trans HG3.out (grownR_trans p1.2 (grownR_trans p2.2 (grown_below (below_drew _ _))))⟩
            case measure => simp [intOf]
    · have HO2 := Lib.hid ho
      have HG2 := Lib.hid hgr
      have HE := Lib.hid (sortT_all (rs := rs) (i := i) (by rw [HNL.out]; omega))
      have hltz : ¬ (i : Int) < (n : Int) := by omega
      clear ho hgr
      go_wp2_with fail
      go_end0
      exact ⟨rfl, by rw [← HE.out]; exact HO2.out, HG2.out⟩
set_option maxRecDepth 100000 in
set_option maxHeartbeats 4000000 in
theorem iStable_any (w : World) (base g n cap : Nat) (rs : List R) (h : OwnR w base (.slice (some ⟨g, 0, none⟩) n cap) rs) (hn : rs.length = n) (h19 : n ≤ 19) :
    Calls Tryz.prog 144 #[.slice (some ⟨g, 0, none⟩) n cap, .int .i64 n, .func (.func 134) #[] #[]] w (Sorted w base g n cap (sortV rs)) := by
  have HI := Lib.hid (iIns_any w base g n cap rs h hn)
  clear h hn
  have h1 : ¬ (20 : Int) ≤ (n : Int) := by omega
  have h2 : ¬ (20 : Int) < (n : Int) := by omega
  have h3 : decide ((20 : Int) ≤ (n : Int)) = false := by rw [decide_eq_false]; omega
  have h4 : decide ((20 : Int) < (n : Int)) = false := by rw [decide_eq_false]; omega
  go_enter Tryz.func144, Tryz.ntmps144
  go_wp2_with fail
  go_loopw [7, 8] (fun x y wr => x = .int .i64 0 ∧ y = .int .i64 20 ∧ wr = w) (fun _ _ _ => 0)
  case atStart => exact ⟨rfl, rfl, rfl⟩
  case round =>
    obtain ⟨rfl, rfl, rfl⟩ := hrel
    go_wp2_with fail
    refine HI.out.mono ?_
    rintro e w2 ⟨rfl, ho, hg⟩
    have HO := Lib.hid ho
    have HG := Lib.hid hg
    clear ho hg HI
    go_wp2_with fail
    go_loopw [6] (fun x wr => x = .int .i64 20 ∧ wr = w2) (fun _ _ => 0)
    case atStart => exact ⟨rfl, rfl⟩
    case round =>
      obtain ⟨rfl, rfl⟩ := hrel
      go_wp2_with fail
      go_end0
      exact ⟨rfl, HO.out, HG.out⟩
set_option maxRecDepth 100000 in
set_option maxHeartbeats 4000000 in
theorem iSort_any (w : World) (base g n cap : Nat) (rs : List R) (h : OwnR w base (.slice (some ⟨g, 0, none⟩) n cap) rs) (hn : rs.length = n) (h19 : n ≤ 19) :
    Calls Tryz.prog 133 #[.slice (some ⟨g, 0, none⟩) n cap, .func (.func 134) #[] #[]] w (Sorted w base g n cap (sortV rs)) := by
  have HI := Lib.hid (iStable_any w base g n cap rs h hn h19)
  clear h hn
  go_enter Tryz.func133, Tryz.ntmps133
  go_wp2_with fail
  refine HI.out.mono ?_
  rintro e w2 ⟨rfl, ho, hg⟩
  have HO := Lib.hid ho
  have HG := Lib.hid hg
  clear ho hg HI
  go_wp2_with fail
  go_end0
  exact ⟨rfl, HO.out, HG.out⟩
end Go.Proofs.YtnlepnfdgdbkoaaGreatDoor

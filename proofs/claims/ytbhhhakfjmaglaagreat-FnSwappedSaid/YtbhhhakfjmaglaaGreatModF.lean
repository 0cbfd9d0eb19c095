/-
  Chapter 13, the program: an own row of names sorted by the keys, in place, by the library's SortFunc (no more than twelve).
-/
import Derived.Test.YtbhhhakfjmaglaaGreatDrN
import Derived.Test.YtbhhhakfjmaglaaGreatModC
namespace Go.Proofs.YtbhhhakfjmaglaaGreat
open Go.RowKit M
set_option linter.unusedVariables false
set_option linter.unusedSimpArgs false
def OwnK (w : World) (base : Nat) (v : Value) (l : List KR) : Prop := OwnF 40 2 krCells w base v l
theorem kr_inj {a b : KR} (h : kr a = kr b) : a = b := by
  obtain ⟨x, y⟩ := a
  obtain ⟨x', y'⟩ := b
  unfold kr at h
  injection h with h1 h2
  subst h1; subst h2; rfl
theorem map_kr_inj {a b : List KR} (h : a.map kr = b.map kr) : a = b := by
  induction a generalizing b with
  | nil => cases b with
    | nil => rfl
    | cons y b => cases h
  | cons x a ih => cases b with
    | nil => cases h
    | cons y b =>
      rw [List.map_cons, List.map_cons] at h
      injection h with h1 h2
      rw [kr_inj h1, ih h2]
theorem down_nextK {S C : List R} {x : KR} {j : Nat} {l : List KR} (h : Down S (kr x) C (j + 1) (l.map kr)) (q : strLt x.key (l.getD j zeroKR).key = true) : Down S (kr x) C j (((l.set (j + 1) (l.getD j zeroKR)).set j x).map kr) := by
  have := h.next (by rw [kr_getD]; exact q)
  rw [kr_getD] at this
  rw [List.map_set, List.map_set]
  exact this
theorem ownK_cap {w : World} {base g n cap : Nat} {l : List KR} (h : OwnK w base (.slice (some ⟨g, 0, none⟩) n cap) l) (hn : l.length = n) : n ≤ cap ∧ cap ≤ maxLen := by
  subst hn
  rcases h.2 with ⟨e, _⟩ | ⟨g', cap', cur, e1, hb, hg, hn, hm, hc, ht⟩
  · cases e
  · injection e1 with e2 e3 e4; subst e4; exact ⟨hn, hm⟩
/-- The row in block g now holds a row of names whose rows are rs; nothing else that was there is turned; nothing is handed back. -/
def SortedK (w : World) (base g n cap : Nat) (rs : List R) (e : Ending) (w' : World) : Prop := e = .returned (.tuple #[]) ∧ (∃ l, l.map kr = rs ∧ OwnK w' base (.slice (some ⟨g, 0, none⟩) n cap) l) ∧ w.grownBy w' (some g)
set_option maxRecDepth 100000 in
set_option maxHeartbeats 4000000 in
theorem iCmpK_any (w : World) (r s : KR) : Calls Tryz.prog 72 #[r.v, s.v] w (Gives (.int .i64 (cmpV r.key s.key)) w) := by
  obtain ⟨key, kind⟩ := r
  obtain ⟨key', kind'⟩ := s
  have HC := fun W => Lib.hid (iCompare W key key')
  unfold KR.v
  simp only
  generalize cmpV key key' = c at *
  go_enter Tryz.func72, Tryz.ntmps72
  go_wp2_with fail
  refine (HC _).out.mono ?_
  rintro e w2 ⟨rfl, rfl⟩
  go_wp2_with fail
  go_ret
  exact ⟨rfl, ((Below.refl _ _).alloc (Nat.le_refl _) _).alloc (by simp [go_sem]) _⟩
set_option maxRecDepth 100000 in
set_option maxHeartbeats 8000000 in
theorem iInsK_any (w : World) (base g n cap : Nat) (ks : List KR) (h : OwnK w base (.slice (some ⟨g, 0, none⟩) n cap) ks) (hn : ks.length = n) :
    Calls Tryz.prog 114 #[.slice (some ⟨g, 0, none⟩) n cap, .int .i64 0, .int .i64 n, .func (.func 72) #[] #[]] w (SortedK w base g n cap (sortV (ks.map kr))) := by
  obtain ⟨hc1, hc2⟩ := ownK_cap h hn
  have hg := (OwnF.lt h) g rfl
  have hnm : (ks.map kr).length = n := by rw [List.length_map]; exact hn
  have HO := Lib.hid h
  have HNL := Lib.hid hnm
  have HCMP := fun W r s => Lib.hid (iCmpK_any W r s)
  unfold maxLen at hc2
  clear h hn hnm
  go_enter Tryz.func114, Tryz.ntmps114
  go_wp2_with fail
  go_loopw [8] (fun vi wr => ∃ (i : Nat) (lo : List KR), vi = .int .i64 i ∧ 1 ≤ i ∧ i ≤ n + 1 ∧ lo.map kr = sortT (ks.map kr) i ∧ OwnK wr base (.slice (some ⟨g, 0, none⟩) n cap) lo ∧ w.grownBy wr (some g)) (fun vi _ => n + 1 - (intOf vi).toNat)
  case atStart => exact ⟨1, ks, by go_num, Nat.le_refl _, by omega, by rw [sortT_one], HO.out, ⟨rfl, rfl, rfl, Nat.le_refl _, fun _ _ _ => rfl⟩⟩
  case round =>
    obtain ⟨i, lo, rfl, hi1, hi2, hlo, ho, hgr⟩ := hrel
    have HLO := Lib.hid hlo
    clear hlo
    by_cases hlt : i < n
    · have hltz : (i : Int) < (n : Int) := by omega
      have HST := Lib.hid (Down.start (rs := ks.map kr) (i := i) (by rw [HNL.out]; exact hlt))
      have HDN := Lib.hid (fun j l => Down.done (rs := ks.map kr) (i := i) (j := j) (l := l) (by rw [HNL.out]; exact hlt))
      have HO1 := Lib.hid ho
      have HG1 := Lib.hid hgr
      have hlen : (sortV ((ks.map kr).take i)).length + 1 + ((ks.map kr).drop (i + 1)).length = n := by rw [sortV_length, List.length_take, List.length_drop, HNL.out]; omega
      have HLEN := Lib.hid hlen
      clear ho hgr HO hlen
      have hxk : (ks.map kr).getD i zeroR = kr (ks.getD i zeroKR) := kr_getD ks i
      rw [hxk] at HST HDN
      clear hxk
      generalize ks.getD i zeroKR = x at *
      generalize sortV ((ks.map kr).take i) = S at *
      generalize (ks.map kr).drop (i + 1) = C at *
      go_wp2_with fail
      obtain ⟨wo, rfl⟩ : ∃ wo : World, wo = wr := ⟨_, rfl⟩
      go_loopw [9] (fun vj wr2 => ∃ (j : Nat) (l : List KR), vj = .int .i64 j ∧ j ≤ i ∧ Down S (kr x) C j (l.map kr) ∧ OwnK wr2 base (.slice (some ⟨g, 0, none⟩) n cap) l ∧ w.grownBy wr2 (some g)) (fun vj _ => (intOf vj).toNat)
      case atStart => exact ⟨i, lo, rfl, Nat.le_refl _, by rw [HLO.out]; exact HST.out, HO1.out, HG1.out⟩
      case round =>
        obtain ⟨j, l, rfl, hji, hd, ho, hgr⟩ := hrel
        have hll : l.length = n := by have := hd.len; rw [List.length_map] at this; rw [this, HLEN.out]
        have hat : l.getD j zeroKR = x := by have := hd.at; rw [kr_getD] at this; exact kr_inj this
        clear HST HO1 HG1
        by_cases hj0 : j = 0
        · subst hj0
          have HE := Lib.hid (HDN.out 0 (l.map kr) hd (.inl rfl))
          have HS := Lib.hid (show OwnK wr.drew base (.slice (some ⟨g, 0, none⟩) n cap) l ∧ w.grownBy wr.drew (some g) from ⟨OwnF.below ho (below_drew _ _), grownR_trans hgr (grown_below (below_drew _ _))⟩)
          clear ho hgr hd hat
          have hgt : decide ((0 : Int) > 0) = false := rfl
          go_wp2_with fail
          have HCL := (⟨HS.out⟩ : HoldsC (fun W => OwnK W base (.slice (some ⟨g, 0, none⟩) n cap) l ∧ w.grownBy W (some g)) _)
          have hall : ∀ p : Prop, (∀ W, HoldsC (fun W => OwnK W base (.slice (some ⟨g, 0, none⟩) n cap) l ∧ w.grownBy W (some g)) W → p) ↔ p := fun p => ⟨fun h => h _ HCL, fun h _ _ => h⟩
          refine wp_region_wq (C := HoldsC (fun W => OwnK W base (.slice (some ⟨g, 0, none⟩) n cap) l ∧ w.grownBy W (some g))) (by kernel_rfl) (by kernel_rfl) HCL ?_
          repeat (refine WQ.step (fun K hK => ?_); go_simp; first | (refine hK _ ?_; clear hK K) | (apply Exists.intro; refine ⟨fun W hW => ?_, hK _ ?_⟩; (focus (first | exact rfl | (obtain ⟨hO, hG⟩ := hW.out; go_simp; rfl))); clear hK K))
          refine WQ.nil ?_
          intro W hW
          obtain ⟨hO, hG⟩ := hW.out
          clear hall HCL
          have HO3 := Lib.hid hO
          have HG3 := Lib.hid hG
          clear hW hO hG HS
          go_wp2_with fail
          go_roundw
          case rel => exact ⟨i + 1, l, by go_num, by omega, by omega, HE.out, HO3.out, HG3.out⟩
          case measure => simp [intOf]; omega
        · obtain ⟨jp, rfl⟩ : ∃ jp, j = jp + 1 := ⟨j - 1, by omega⟩
          have hjn : jp + 1 < n := by omega
          have HE := Lib.hid (fun (q : strLt x.key (l.getD jp zeroKR).key = false) => HDN.out (jp + 1) (l.map kr) hd (.inr (by rw [show jp + 1 - 1 = jp by omega, kr_getD]; exact q)))
          have HX := Lib.hid (fun (q : strLt x.key (l.getD jp zeroKR).key = true) => down_nextK hd q)
          have hless := cmpV_less x.key (l.getD jp zeroKR).key
          have HS := Lib.hid (show OwnK wr.drew base (.slice (some ⟨g, 0, none⟩) n cap) l ∧ w.grownBy wr.drew (some g) from ⟨OwnF.below ho (below_drew _ _), grownR_trans hgr (grown_below (below_drew _ _))⟩)
          have HROW := Lib.hid (fun W (h : OwnK W base (.slice (some ⟨g, 0, none⟩) n cap) l) => (show RecAt 2 krCells W g ((jp + 1) * 2) x ∧ RecAt 2 krCells W g (jp * 2) (l.getD jp zeroKR) from ⟨by have := OwnF.at h sizeKRow zeroKR hll (jp + 1) hjn; rwa [hat] at this, OwnF.at h sizeKRow zeroKR hll jp (by omega)⟩))
          have HC2 := fun W => Lib.hid (HCMP W x (l.getD jp zeroKR)).out
          have HLL := Lib.hid hll
          clear ho hgr hd hat HCMP HDN
          generalize l.getD jp zeroKR = y at *
          have hp1 : (jp : Int) + 1 < (n : Int) := by omega
          have hp2 : (0 : Int) ≤ (jp : Int) + 1 := by omega
          have hp3 : ((jp : Int) + 1).toNat = jp + 1 := by omega
          have hp4 : (jp : Int) < (n : Int) := by omega
          have hp5 : IntKind.i64.wrap ((jp : Int) + 1 - 1) = (jp : Int) := by rw [IntKind.wrap_i64]; omega
          have hp6 : IntKind.i64.wrap (jp : Int) = (jp : Int) := by rw [IntKind.wrap_i64]; omega
          have hp7 : decide ((jp : Int) + 1 > 0) = true := by rw [decide_eq_true]; omega
          have hp8 : (0 : Int) < (jp : Int) + 1 := by omega
          obtain ⟨key, kind⟩ := x
          obtain ⟨key', kind'⟩ := y
          unfold KR.v at HC2
          simp only at HC2 hless HE HX
          generalize cmpV key key' = c at *
          generalize strLt key key' = sl at *
          go_wp2_with fail
          have HCL := (⟨HS.out⟩ : HoldsC (fun W => OwnK W base (.slice (some ⟨g, 0, none⟩) n cap) l ∧ w.grownBy W (some g)) _)
          have hall : ∀ p : Prop, (∀ W, HoldsC (fun W => OwnK W base (.slice (some ⟨g, 0, none⟩) n cap) l ∧ w.grownBy W (some g)) W → p) ↔ p := fun p => ⟨fun h => h _ HCL, fun h _ _ => h⟩
          refine wp_region_wq (C := HoldsC (fun W => OwnK W base (.slice (some ⟨g, 0, none⟩) n cap) l ∧ w.grownBy W (some g))) (by kernel_rfl) (by kernel_rfl) HCL ?_
          repeat (refine WQ.step (fun K hK => ?_); go_simp; first | (refine hK _ ?_; clear hK K) | (apply Exists.intro; refine ⟨fun W hW => ?_, hK _ ?_⟩; (focus (first | (go_at_call 72; (with_reducible refine Calls.mono (Hid.out (HC2 _)) ?_); rintro e w' ⟨rfl, hb'⟩; exact ⟨rfl, ⟨OwnF.below hW.out.1 hb', grownR_trans hW.out.2 (grown_below hb')⟩⟩) | exact rfl | (obtain ⟨hO, hG⟩ := hW.out; obtain ⟨hRx, hRy⟩ := HROW.out _ hO; obtain ⟨x0, x1⟩ := atKRow hRx; obtain ⟨y0, y1⟩ := atKRow hRy; simp only at x0 x1 y0 y1; go_simp; rfl))); clear hK K))
          refine WQ.nil ?_
          intro W hW
          obtain ⟨hO, hG⟩ := hW.out; obtain ⟨hRx, hRy⟩ := HROW.out _ hO; obtain ⟨x0, x1⟩ := atKRow hRx; obtain ⟨y0, y1⟩ := atKRow hRy; simp only at x0 x1 y0 y1
          clear hall HCL
          have HO3 := Lib.hid hO
          have HG3 := Lib.hid hG
          have zf := OwnF.frz hO HLL.out
          clear hW hO hG HS hRx hRy HROW
          cases sl with
          | false =>
            have HE2 := Lib.hid (HE.out rfl)
            clear HE HX
            go_wp2_with fail
            go_roundw
            case rel => exact ⟨i + 1, l, by go_num, by omega, by omega, HE2.out, HO3.out, HG3.out⟩
            case measure => simp [intOf]; omega
          | true =>
            have HX2 := Lib.hid (HX.out rfl)
            clear HE HX
            go_wp2_with fail
            go_region
            all_goals go_wp2
            go_roundw
            case rel =>
              have p1 := OwnF.put HO3.out sizeKRow HLL.out (jp + 1) hjn ⟨key', kind'⟩
              have p2 := OwnF.put p1.1 sizeKRow (by rw [List.length_set]; exact HLL.out) jp (by omega) ⟨key, kind⟩
              exact ⟨jp, _, rfl, by omega, HX2.out, OwnF.below p2.1 (below_drew _ _), grownR_trans HG3.out (grownR_trans p1.2 (grownR_trans p2.2 (grown_below (below_drew _ _))))⟩
            case measure => simp [intOf]
    · have HO2 := Lib.hid ho
      have HG2 := Lib.hid hgr
      have HE := Lib.hid (sortT_all (rs := ks.map kr) (i := i) (by rw [HNL.out]; omega))
      have hltz : ¬ (i : Int) < (n : Int) := by omega
      clear ho hgr
      go_wp2_with fail
      go_end0
      exact ⟨rfl, ⟨lo, HLO.out.trans HE.out, HO2.out⟩, HG2.out⟩
def bitsV (n : Nat) : Int := wrap64 (wrap64 (Lib.len8 (n : Int)))
set_option maxRecDepth 100000 in
set_option maxHeartbeats 4000000 in
theorem iLen64_small (w : World) (n : Nat) (hn : n ≤ 12) : Calls Tryz.prog 123 #[.int .u64 n] w (Same w (.int .i64 (bitsV n))) := by
  have h : n = 0 ∨ n = 1 ∨ n = 2 ∨ n = 3 ∨ n = 4 ∨ n = 5 ∨ n = 6 ∨ n = 7 ∨ n = 8 ∨ n = 9 ∨ n = 10 ∨ n = 11 ∨ n = 12 := by omega
  rcases h with rfl | rfl | rfl | rfl | rfl | rfl | rfl | rfl | rfl | rfl | rfl | rfl | rfl
  all_goals
    go_enter Tryz.func123, Tryz.ntmps123
    go_wp2_with fail
    go_ret
    exact ⟨rfl, rfl⟩
set_option maxRecDepth 100000 in
set_option maxHeartbeats 4000000 in
theorem iLen_small (w : World) (n : Nat) (hn : n ≤ 12) : Calls Tryz.prog 98 #[.int .u64 n] w (Same w (.int .i64 (bitsV n))) := by
  have HK := Lib.hid (iLen64_small w n hn)
  go_enter Tryz.func98, Tryz.ntmps98
  go_wp2_with fail
  refine HK.out.mono ?_
  rintro e w2 ⟨rfl, rfl⟩
  go_wp2_with fail
  go_ret
  exact ⟨rfl, rfl⟩
set_option maxRecDepth 100000 in
set_option maxHeartbeats 4000000 in
theorem iPdqK_any (w : World) (base g n cap : Nat) (ks : List KR) (k : Int) (h : OwnK w base (.slice (some ⟨g, 0, none⟩) n cap) ks) (hn : ks.length = n) (h12 : n ≤ 12) :
    Calls Tryz.prog 97 #[.slice (some ⟨g, 0, none⟩) n cap, .int .i64 0, .int .i64 n, .int .i64 k, .func (.func 72) #[] #[]] w (SortedK w base g n cap (sortV (ks.map kr))) := by
  have HI := Lib.hid (iInsK_any w base g n cap ks h hn)
  clear h hn
  have h1 : (n : Int) ≤ 12 := by omega
  have h3 : decide ((n : Int) ≤ 12) = true := by rw [decide_eq_true_eq]; omega
  have h4 : IntKind.i64.wrap ((n : Int) - 0) = (n : Int) := by rw [IntKind.wrap_i64]; omega
  have h5 : IntKind.i64.wrap (n : Int) = (n : Int) := by rw [IntKind.wrap_i64]; omega
  go_enter Tryz.func97, Tryz.ntmps97
  go_wp2_with fail
  go_loopw [1, 2, 3] (fun x y z wr => x = .int .i64 0 ∧ y = .int .i64 n ∧ z = .int .i64 k ∧ wr = w) (fun _ _ _ _ => 0)
  case atStart => exact ⟨rfl, rfl, rfl, rfl⟩
  case round =>
    obtain ⟨rfl, rfl, rfl, rfl⟩ := hrel
    go_wp2_with fail
    refine HI.out.mono ?_
    rintro e w2 ⟨rfl, ho, hg⟩
    have HO := Lib.hid ho
    have HG := Lib.hid hg
    clear ho hg HI
    go_wp2_with fail
    go_end0
    exact ⟨rfl, HO.out, HG.out⟩
set_option maxRecDepth 100000 in
set_option maxHeartbeats 4000000 in
theorem iSortK_any (w : World) (base g n cap : Nat) (ks : List KR) (h : OwnK w base (.slice (some ⟨g, 0, none⟩) n cap) ks) (hn : ks.length = n) (h12 : n ≤ 12) :
    Calls Tryz.prog 71 #[.slice (some ⟨g, 0, none⟩) n cap, .func (.func 72) #[] #[]] w (SortedK w base g n cap (sortV (ks.map kr))) := by
  have HK := Lib.hid (iLen_small w n h12)
  have HI := Lib.hid (iPdqK_any w base g n cap ks (bitsV n) h hn h12)
  generalize bitsV n = k at *
  clear h hn
  have h5 : IntKind.u64.wrap (n : Int) = (n : Int) := by rw [IntKind.wrap_u64]; omega
  go_enter Tryz.func71, Tryz.ntmps71
  go_wp2_with fail
  refine HK.out.mono ?_
  rintro e w2 ⟨rfl, rfl⟩
  clear HK
  go_wp2_with fail
  refine HI.out.mono ?_
  rintro e w3 ⟨rfl, ho, hg⟩
  have HO := Lib.hid ho
  have HG := Lib.hid hg
  clear ho hg HI
  go_wp2_with fail
  go_end0
  exact ⟨rfl, HO.out, HG.out⟩
end Go.Proofs.YtbhhhakfjmaglaaGreat

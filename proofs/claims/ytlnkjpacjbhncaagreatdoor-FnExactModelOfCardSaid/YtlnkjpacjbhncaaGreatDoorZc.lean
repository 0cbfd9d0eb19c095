/-
  Several small texts of this proof, one behind another: each says ahead of itself what it proves.
-/
import Derived.Test.YtlnkjpacjbhncaaGreatDoorZb
import Derived.Test.YtlnkjpacjbhncaaGreatDoorZa
import Derived.Test.YtlnkjpacjbhncaaGreatDoorRwsC
import Derived.Deep.RegionHeld3
import Derived.Maps.AppendAt
import Derived.Laws.OwnMore
import Derived.Great.BuildSlice
import Derived.Test.YtlnkjpacjbhncaaGreatDoorTblR
import Derived.Test.YtlnkjpacjbhncaaGreatDoorDrN
import Derived.Test.YtlnkjpacjbhncaaGreatDoorDrU
import Derived.Test.YtlnkjpacjbhncaaGreatDoorDrG
import Derived.Test.YtlnkjpacjbhncaaGreatDoorRowK
/-
  A model of chapter 13 as a value: an argument opened; the exact laws' copy of it, its size, comparing two.
-/
namespace Go.Proofs.YtlnkjpacjbhncaaGreatDoor.M
open Go.RowKit
structure Mo.Fit (m : Mo) : Prop where
  keys : ∀ j, j < m.keys.length → (m.keys.getD j zeroKR).Fit
  rows : Go.Proofs.YtlnkjpacjbhncaaGreatDoor.FitR m.rows
end Go.Proofs.YtlnkjpacjbhncaaGreatDoor.M
namespace Go.Proofs.YtlnkjpacjbhncaaGreatDoor
open Go.ChangeShapes Go.WideShapes Go.Deep Go.RowKit M
set_option linter.unusedVariables false
set_option linter.unusedSimpArgs false
/-- The two slices read as the model. -/
structure MoIn (w : World) (m : Mo) (vk vr : Value) : Prop where
  keys : RecsArg 2 krCells zeroKR w vk m.keys
  rows : RowsArg w vr m.rows
theorem MoIn.below {w w' : World} {m : Mo} {vk vr : Value} (h : MoIn w m vk vr) (hb : Below w.heap.size w w') : MoIn w' m vk vr := ⟨h.keys.below hb, h.rows.below hb⟩
theorem OwnR.low {w : World} {base base' : Nat} {v : Value} {rs : List R} (h : OwnR w base v rs) (hb : base' ≤ base) : OwnR w base' v rs := by
  rcases h.2 with ⟨e, h0⟩ | ⟨g, cap, cur, e, h1, h2⟩
  · exact ⟨h.1, .inl ⟨e, h0⟩⟩
  · exact ⟨h.1, .inr ⟨g, cap, cur, e, Nat.le_trans hb h1, h2⟩⟩
/-- The two slices are a call's own, apart from one another. -/
structure MoOwn (w : World) (base : Nat) (m : Mo) (vk vr : Value) : Prop where
  keys : OwnF 39 2 krCells w base vk m.keys
  rows : OwnR w base vr m.rows
  ap : Ap vk vr
theorem MoOwn.below {w w' : World} {base : Nat} {m : Mo} {vk vr : Value} (h : MoOwn w base m vk vr) (hb : Below w.heap.size w w') : MoOwn w' base m vk vr := ⟨h.keys.below hb, h.rows.below hb, h.ap⟩
theorem MoOwn.win {w : World} {base : Nat} {m : Mo} {vk vr : Value} (h : MoOwn w base m vk vr) : MoIn w m vk vr := ⟨h.keys.arg sizeKRow zeroKR, h.rows.arg⟩
theorem MoOwn.base {w : World} {b b' : Nat} {m : Mo} {vk vr : Value} (h : MoOwn w b m vk vr) (hb : b' ≤ b) : MoOwn w b' m vk vr := ⟨h.keys.base hb, OwnR.low h.rows hb, h.ap⟩
def MadeMo (w : World) (m : Mo) (e : Ending) (w' : World) : Prop := ∃ vk vr, e = .returned (.agg #[vk, vr]) ∧ MoOwn w' w.heap.size m vk vr ∧ Below w.heap.size w w'
section
variable {H : Type} {enc : TypeId × Value → H} {w : World} {base : Nat} {spare : Nat → Bool} {held : Bool} {fuel : Nat} {x : DataW H × List MemPlace} {c : Value}
end
section
variable {H : Type} {enc : TypeId × Value → H} {w : World} {base : Nat} {spare : Nat → Bool} {held : Bool} {r : Reach} {b0 : Nat} {v : Value} {d : DataW H} {p : List MemPlace}
end
theorem OwnF.keptG {α : Type} {t : TypeId} {F : Nat} {c : α → Array Value} {w w' : World} {base g : Nat} {v : Value} {l : List α} (h : OwnF t F c w base v l) (hg : w.grownBy w' (some g)) (hb : g < base) : OwnF t F c w' base v l :=
  h.kept hg (.inr fun e => by have := h.base_le g e; omega)
theorem OwnR.base_le' {w : World} {base : Nat} {v : Value} {l : List R} (h : OwnR w base v l) : ∀ k, v.ownBlock = some k → base ≤ k := fun k hk => (World.ownsRow.lt h k hk).1
theorem OwnR.keptG {w w' : World} {base g : Nat} {v : Value} {l : List R} (h : OwnR w base v l) (hg : w.grownBy w' (some g)) (hb : g < base) : OwnR w' base v l :=
  h.kept hg (.inr fun e => by have := h.base_le' g e; omega)
theorem ap_of {v u : Value} {e : Nat} (h1 : ∀ k, v.ownBlock = some k → k < e) (h2 : ∀ k, u.ownBlock = some k → e ≤ k) : Ap v u := by
  unfold Ap
  cases hv : v.ownBlock with
  | none => exact .inl rfl
  | some k => exact .inr fun e2 => by have := h1 k hv; have := h2 k e2.symm; omega
theorem setRow_grown (w : World) (g : Nat) (cs : Array Value) : w.grownBy (w.setRow g cs) (some g) := by
  have h := chg_setRow w g cs
  exact ⟨h.os, h.tape, h.output, h.size, fun i hi hne => h.block i hi (fun k => hne (by have h1 := k.1; have h2 := k.2; congr 1; omega))⟩
set_option maxRecDepth 100000 in
set_option maxHeartbeats 4000000 in
theorem eqModel_same (w : World) (m : Mo) (vk vr uk ur : Value) (h : MoIn w m vk vr) (k : MoIn w m uk ur) : Calls Tryz.prog 7 #[.agg #[vk, vr], .agg #[uk, ur]] w (Gives (.bool true) w) := by
  have HW := Lib.hid h
  have KW := Lib.hid k
  have CK := fun W h k => Lib.hid (eqKRowS_same W vk uk m.keys h k)
  have CR := fun W h k => Lib.hid (eqRowS_same W vr ur m.rows h k)
  clear h k
  go_enter Tryz.func7, Tryz.ntmps7
  go_upto_region 1 with fail
  refine wp_gen (fun W => Blk W w.heap.size 26 #[vk, vr] ∧ Blk W (w.heap.size + 1) 26 #[uk, ur] ∧ Below w.heap.size w W) ⟨(Blk.new w _ _ _ rfl).alloc _, Blk.new _ _ _ _ (by simp [go_sem]), ((Below.refl _ _).alloc (Nat.le_refl _) _).alloc (by simp [go_sem]) _⟩ ?_
  rintro W ⟨h0, h1, hb⟩
  have G0 := Lib.hid h0; have G1 := Lib.hid h1; have HB := Lib.hid hb
  have p0 := h0.get 0; have q0 := h1.get 0
  simp at p0 q0
  clear h0 h1 hb
  go_wp2_with fail
  refine (CK _ (HW.out.below HB.out).keys (KW.out.below HB.out).keys).out.mono ?_
  rintro e w2 ⟨rfl, hb2⟩
  have h0 := G0.out.below hb2; have h1 := G1.out.below hb2
  replace HB := Lib.hid (HB.out.trans (hb2.mono HB.out.size))
  have p1 := h0.get 1; have q1 := h1.get 1
  simp at p1 q1
  clear h0 h1 hb2 G0 G1 p0 q0
  go_wp2_with fail
  refine (CR _ (HW.out.below HB.out).rows (KW.out.below HB.out).rows).out.mono ?_
  rintro e w3 ⟨rfl, hb2⟩
  replace HB := Lib.hid (HB.out.trans (hb2.mono HB.out.size))
  clear hb2 p1 q1
  go_wp2_with fail
  go_ret
  exact ⟨rfl, HB.out⟩
/-- What is left of a budget behind a model's texts and rows. -/
def szMoV (m : Mo) (left : Int) : Int := if szVF (fun r : KR => r.key.size) m.keys left < 0 then -1 else if szV m.rows (szVF (fun r : KR => r.key.size) m.keys left) < 0 then -1 else szV m.rows (szVF (fun r : KR => r.key.size) m.keys left)
theorem szMo_le {m : Mo} {left : Int} (h : 0 ≤ szMoV m left) : (m.keys.length : Int) ≤ left ∧ (m.rows.length : Int) ≤ left ∧ szMoV m left ≤ left := by
  unfold szMoV at *
  by_cases h1 : szVF (fun r : KR => r.key.size) m.keys left < 0
  · rw [if_pos h1] at h; omega
  · rw [if_neg h1] at h ⊢
    have a := szVF_le (s := fun r : KR => r.key.size) (rs := m.keys) (l := left) (by omega)
    by_cases h2 : szV m.rows (szVF (fun r : KR => r.key.size) m.keys left) < 0
    · rw [if_pos h2] at h; omega
    · rw [if_neg h2] at h ⊢
      have b := szV_le (rs := m.rows) (l := szVF (fun r : KR => r.key.size) m.keys left) (by omega)
      omega
end Go.Proofs.YtlnkjpacjbhncaaGreatDoor
/-
  Chapter 13, the model's l13Copy: both rows in new blocks, whatever order they are made in.
-/
namespace Go.Proofs.YtlnkjpacjbhncaaGreatDoor
open Go.RowKit M
set_option linter.unusedVariables false
set_option linter.unusedSimpArgs false
/-- 'append(s, x...)' where s is own and empty and x is own, nil too: one operation. -/
theorem wp_append_ownx {P : Program} {w : World} {o : Oper} {a : Act} {K : Act → World → Prop} {Q : Exit → Act → World → Prop} (s x : Operand) (t : TypeId)
    (ho : o.op = .call { callee := .builtin .append, args := #[s, x], argTypes := #[t, t] })
    (base : Nat) (e : TypeId) (i : TypeInfo) (z : Value) (size bytes : Nat) (ht : P.underlying t = some (.slice e)) (hi : P.info? e = some i) (hz : i.zero = some z)
    (hsize : i.size = size) (hby : i.bytes = bytes) (hzs : z.cells.size = size) (hsz : 0 < size)
    (v : Value) (hs : a.eval s = v) (hown : w.ownsRow base e size v 0 []) (B m : Nat) (vx : Value) (cs : List Value) (hx : a.eval x = vx) (hvx : w.ownsRow B e size vx m cs)
    (h1 : ∀ u ∈ cs, u.oneCell' = true) (h63 : m ≤ maxLen) (hbytes : m * bytes ≤ 140737488355328) (hbase : base ≤ w.heap.size)
    (h : ∀ v' w', w'.ownsRow base e size v' m cs → w.grownBy w' v.ownBlock → (v'.ownBlock = v.ownBlock ∨ v'.ownBlock = some w.heap.size) → K (a.put o.dst v') w') : o.wp P a w K Q := by
  have hvx' := hvx
  rcases hvx.2 with ⟨e1, h0⟩ | ⟨g, cap, cur, e1, _, hg, hn, hm, _, _⟩
  · subst e1; subst h0
    have hcs : cs = [] := List.length_eq_zero_iff.1 (by have := hvx.1; rw [Nat.zero_mul] at this; exact this)
    subst hcs
    have hrun := run_append_owned_none (P := P) (w := w) base t o.type e i size ht hi v 0 [] hown
    unfold Oper.wp execOp
    simp only [ho, resolve, invoke, builtin, Sem.run_bind, Sem.run_pure, Result.andThen_ok, List.map_toArray, List.map_cons, List.map_nil, hs, hx, hrun]
    exact h v w hown (World.grownBy.refl _ _) (.inl rfl)
  · subst e1
    obtain ⟨v', w', hr, h2, h3, _, h5⟩ := run_append_own_at (P := P) w base t o.type e i z size bytes ht hi hz hsize hby hzs hsz v 0 [] hown ⟨g, 0, none⟩ m cap cs hvx.1 (fun j u hj => by
      have hlt := (List.getElem?_eq_some_iff.1 hj).1
      rw [Addr.add_lit, Nat.zero_add, World.ownsRow.cellAt hvx' j (by rw [← hvx.1]; exact hlt)]
      exact hj) h1 (by rw [Nat.zero_add]; exact h63) (by rw [Nat.zero_add]; exact hbytes) hbase
    unfold Oper.wp execOp
    simp only [ho, resolve, invoke, builtin, Sem.run_bind, Sem.run_pure, Result.andThen_ok, List.map_toArray, List.map_cons, List.map_nil, hs, hx, hr]
    exact h v' w' (by simpa using h2) h3 h5
theorem kr_one (l : List KR) : ∀ u ∈ cellsF krCells l, u.oneCell' = true := by
  intro u hu
  unfold cellsF at hu
  rw [List.mem_flatMap] at hu
  obtain ⟨r, _, hr⟩ := hu
  have : u = .string r.key ∨ u = .int .i64 r.kind := by simpa [krCells] using hr
  rcases this with rfl | rfl <;> rfl
theorem own_one {w : World} {base : Nat} {t : TypeId} {F n : Nat} {v : Value} {cs : List Value} (h : w.ownsRow base t F v n cs) : v.oneCell' = true := by
  rcases h.2 with ⟨rfl, _⟩ | ⟨g, cap, cur, rfl, _⟩ <;> rfl
theorem own_slice {w : World} {base : Nat} {t : TypeId} {F n : Nat} {v : Value} {cs : List Value} (h : w.ownsRow base t F v n cs) : ∃ A m c, v = .slice A m c := by
  rcases h.2 with ⟨rfl, _⟩ | ⟨g, cap, cur, rfl, _⟩ <;> exact ⟨_, _, _, rfl⟩
theorem ow_new {v v' : Value} {n : Nat} (h : v'.ownBlock = v.ownBlock ∨ v'.ownBlock = some n) : v'.ownBlock = v.ownBlock ∨ ∀ k, v'.ownBlock = some k → n ≤ k := by
  rcases h with h | h
  · exact .inl h
  · exact .inr fun k hk => by rw [h] at hk; injection hk with hk; omega
theorem grown_alloc (w : World) (o : Obj) (r : Option Nat) : w.grownBy (w.alloc o) r := ⟨rfl, rfl, rfl, by simp, fun i hi _ => by have := ((Below.refl w.heap.size w).alloc (Nat.le_refl _) o).block i hi; exact this⟩
end Go.Proofs.YtlnkjpacjbhncaaGreatDoor
/-
  Chapter 6, the program's functions: each answers what the plain words say. They turn nothing that was there.
-/
namespace Go.Proofs.YtlnkjpacjbhncaaGreatDoor
open Go.RowKit M
set_option linter.unusedVariables false
theorem cellK_below {w wr : World} {b off cap : Nat} {zs : List Int} {B : Nat} (hz : Ints w (.slice (some ⟨b, off, none⟩) B cap) zs) (hc : okC zs = true) (hb : Below w.heap.size w wr) {s : Int} (h0 : 0 ≤ s) (h3 : s ≤ 3) : wr.cell? ⟨b, off + (3 + s).toNat, none⟩ = some (.int .i64 (cellK zs s)) := by
  obtain ⟨b', off', cap', e, _, _, _, h4⟩ := hz.below hb
  injection e with e1 _ _
  injection e1 with e1
  injection e1 with e1 e2 _
  subst e1; subst e2
  exact cellK_at h4 (okC_len hc) h0 h3
theorem cellK_word {zs : List Int} (hc : okC zs = true) {s : Int} (h0 : 0 ≤ s) (h3 : s ≤ 3) : 0 ≤ cellK zs s ∧ cellK zs s ≤ 281474976710655 := okC_at hc _ (by omega)
theorem ownI_mono {w : World} {b b' : Nat} {v : Value} {zs : List Int} (h : OwnI w b' v zs) (hb : b ≤ b') : OwnI w b v zs := by
  obtain ⟨⟨h1, h2⟩, h3⟩ := h
  refine ⟨⟨h1, ?_⟩, h3⟩
  rcases h2 with h | ⟨g, cap, cur, e, hg, hr⟩
  · exact Or.inl h
  · exact Or.inr ⟨g, cap, cur, e, Nat.le_trans hb hg, hr⟩
theorem ret_int1 {a b : Int} (h : a = b) : Ending.returned (.int .i64 a) = .returned (.int .i64 b) := by rw [h]
set_option maxRecDepth 100000 in
set_option maxHeartbeats 1600000 in
theorem iEnd_any (w : World) (v : Value) (zs : List Int) (key : ByteArray) (hz : Ints w v zs) (hc : okC zs = true) (hk : keyOkV key = true) :
    Calls Tryz.prog 48 #[v, .string key] w (Gives (.int .i64 (slotE (findV zs key))) w) := by
  have hks : key.size ≤ maxLen := by have := (keyOkV_iff.1 hk).1; unfold maxLen; omega
  have hl := okC_len hc
  have HZ := Lib.hid hz
  have HC := Lib.hid hc
  have HK := Lib.hid hk
  have HKN := Lib.hid (key_ne hk)
  obtain ⟨b, off, cap, rfl, hcl, hcm, _, _⟩ := hz
  rw [hl] at *
  clear hc hk
  go_enter Tryz.func48, Tryz.ntmps48
  go_wp2
  go_loopw [10] (fun x wr => ∃ n : Nat, n ≤ 4 ∧ x = .int .i64 n ∧ (∀ m : Nat, m < n → stepF zs key m = none) ∧ Below w.heap.size w wr) (fun x _ => 4 - (intOf x).toNat)
  case atStart => exact ⟨0, Nat.zero_le _, rfl, fun m hm => absurd hm (Nat.not_lt_zero _), Below.refl _ _⟩
  case round =>
    obtain ⟨n, hn, rfl, hd, hb⟩ := hrel
    have HD := Lib.hid hd
    have HB := Lib.hid hb
    clear hd hb
    by_cases hlt : n < 4
    · obtain ⟨p0, p3⟩ := probe_bd HK.out hlt
      have HP := Lib.hid (iProbe_same wr key n hks)
      have HKC := Lib.hid (iKey_any (probeV key n) wr)
      rw [keyV_yes ⟨p0, p3⟩] at HKC
      have hcr := cellK_below HZ.out HC.out HB.out p0 p3
      obtain ⟨x0, x1⟩ := cellK_word HC.out p0 p3
      have hp71 : 3 + probeV key n < 71 := by omega
      have HU := Lib.hid (iUntag_any wr (cellK zs (probeV key n)) (by omega) (by omega))
      have HS := Lib.hid (show stepF zs key n = if cellK zs (probeV key n) = 0 then some (-1, 0, probeV key n) else match untagV (cellK zs (probeV key n)) with | some (k, kd) => if k = key then some (probeV key n, kd, -1) else none | none => none from rfl)
      by_cases hx : cellK zs (probeV key n) = 0
      · have HF := Lib.hid (congrArg slotE (findV_at hlt HD.out (HS.out.trans (if_pos hx))))
        rw [hx] at hcr HU
        rw [untagV_zero, untT_none] at HU
        rw [slotE_free] at HF
        have hkn := txt_ne (Ne.symm HKN.out)
        have hkn2 := txt_full HKN.out
        clear hx HS x0 x1
        generalize probeV key n = p at *
        go_wp2_with (first | (go_at_call 75; refine HP.out.mono ?_; rintro e w' ⟨rfl, rfl⟩) | (go_at_call 40; refine HKC.out.mono ?_; rintro e w' ⟨rfl, rfl⟩) | (go_at_call 41; refine HU.out.mono ?_; rintro e w2 ⟨rfl, hb2⟩))
        go_ret
        exact ⟨ret_int1 HF.out.symm, HB.out.trans (hb2.mono HB.out.size)⟩
      · have hxne : (cellK zs (probeV key n) == 0) = false := by rw [beq_eq_false_iff_ne]; exact hx
        have HS2 := Lib.hid (HS.out.trans (if_neg hx))
        clear HS hx x0 x1
        cases hu : untagV (cellK zs (probeV key n)) with
        | none =>
          rw [hu] at HS2
          rw [hu, untT_none] at HU
          have HN := Lib.hid (none_next HD.out HS2.out)
          have hkn := txt_ne (Ne.symm HKN.out)
          have hkn2 := txt_full HKN.out
          clear hu HS2
          generalize cellK zs (probeV key n) = x at *
          generalize probeV key n = p at *
          go_wp2_with (first | (go_at_call 75; refine HP.out.mono ?_; rintro e w' ⟨rfl, rfl⟩) | (go_at_call 40; refine HKC.out.mono ?_; rintro e w' ⟨rfl, rfl⟩) | (go_at_call 41; refine HU.out.mono ?_; rintro e w2 ⟨rfl, hb2⟩))
          go_roundw
          case rel => exact ⟨n + 1, by omega, by go_num, HN.out, HB.out.trans (hb2.mono HB.out.size)⟩
          case measure => simp [intOf]; omega
        | some u =>
          obtain ⟨k, kd⟩ := u
          rw [hu] at HS2
          rw [hu, untT_some] at HU
          by_cases he : k = key
          · have HF := Lib.hid ((congrArg slotE (findV_at hlt HD.out (HS2.out.trans (if_pos he)))).trans (slotE_found p0 kd (-1)))
            subst he
            clear hu HS2
            generalize cellK zs (probeV k n) = x at *
            generalize probeV k n = p at *
            go_wp2_with (first | (go_at_call 75; refine HP.out.mono ?_; rintro e w' ⟨rfl, rfl⟩) | (go_at_call 40; refine HKC.out.mono ?_; rintro e w' ⟨rfl, rfl⟩) | (go_at_call 41; refine HU.out.mono ?_; rintro e w2 ⟨rfl, hb2⟩))
            go_ret
            exact ⟨ret_int1 HF.out.symm, HB.out.trans (hb2.mono HB.out.size)⟩
          · have HN := Lib.hid (none_next HD.out (HS2.out.trans (if_neg he)))
            have hkn := txt_ne he
            clear hu HS2 he
            generalize cellK zs (probeV key n) = x at *
            generalize probeV key n = p at *
            go_wp2_with (first | (go_at_call 75; refine HP.out.mono ?_; rintro e w' ⟨rfl, rfl⟩) | (go_at_call 40; refine HKC.out.mono ?_; rintro e w' ⟨rfl, rfl⟩) | (go_at_call 41; refine HU.out.mono ?_; rintro e w2 ⟨rfl, hb2⟩))
            go_roundw
            case rel => exact ⟨n + 1, by omega, by go_num, HN.out, HB.out.trans (hb2.mono HB.out.size)⟩
            case measure => simp [intOf]; omega
    · have hge : decide ((n : Int) < 4) = false := by simp; omega
      have HF := Lib.hid (congrArg slotE (findV_none (fun m hm => HD.out m (by omega))))
      go_wp2
      go_ret
      exact ⟨ret_int1 HF.out.symm, HB.out⟩
set_option maxRecDepth 100000 in
set_option maxHeartbeats 800000 in
theorem iFindKey_any (w : World) (v : Value) (zs : List Int) (key : ByteArray) (hz : Ints w v zs) (hs : key.size ≤ maxLen) :
    Calls Tryz.prog 23 #[v, .string key] w (Gives (.tuple #[.int .i64 (fkS zs key), .int .i64 (fkK zs key)]) w) := by
  have HC := Lib.hid (iOk_any w v zs hz)
  have HO := Lib.hid (iKeyOk_same w key hs)
  have HZ := Lib.hid hz
  cases hc : okC zs with
  | false =>
    obtain ⟨b, off, cap, rfl, _, _, _, _⟩ := hz
    have E1 := Lib.hid (show fkS zs key = -1 from if_neg (by rw [hc]; simp))
    have E2 := Lib.hid (show fkK zs key = 0 from if_neg (by rw [hc]; simp))
    rw [hc] at HC
    clear hc
    go_enter Tryz.func23, Tryz.ntmps23
    go_wp2_with (go_at_call 39; refine HC.out.mono ?_; rintro e w' ⟨rfl, rfl⟩)
    go_ret2
    exact ⟨ret_ii E1.out.symm E2.out.symm, Below.refl _ _⟩
  | true =>
    cases hk : keyOkV key with
    | false =>
      obtain ⟨b, off, cap, rfl, _, _, _, _⟩ := hz
      have E1 := Lib.hid (show fkS zs key = -1 from if_neg (by rw [hk]; simp))
      have E2 := Lib.hid (show fkK zs key = 0 from if_neg (by rw [hk]; simp))
      rw [hc] at HC
      rw [hk] at HO
      clear hc hk
      go_enter Tryz.func23, Tryz.ntmps23
      go_wp2_with (first | (go_at_call 39; refine HC.out.mono ?_; rintro e w' ⟨rfl, rfl⟩) | (go_at_call 47; refine HO.out.mono ?_; rintro e w' ⟨rfl, rfl⟩))
      go_ret2
      exact ⟨ret_ii E1.out.symm E2.out.symm, Below.refl _ _⟩
    | true =>
      have E1 := Lib.hid (show fkS zs key = (findV zs key).1 from if_pos ⟨hc, hk⟩)
      have E2 := Lib.hid (show fkK zs key = (findV zs key).2.1 from if_pos ⟨hc, hk⟩)
      have HF := Lib.hid (iEnd_any w _ zs key hz hc hk)
      have hl := okC_len hc
      have HEN := Lib.hid (findV_ends zs hk)
      have HCC := Lib.hid hc
      rw [hc] at HC
      rw [hk] at HO
      obtain ⟨b, off, cap, rfl, _, _, _, _⟩ := hz
      rw [hl] at *
      clear hc hk
      rcases HEN.out with hr | ⟨p, p0, p3, ⟨hr, hx⟩ | ⟨kd, hr, hx, hu⟩⟩
      · rw [hr] at E1 E2 HF
        rw [slotE_free] at HF
        clear hr HEN
        go_enter Tryz.func23, Tryz.ntmps23
        go_wp2_with (first | (go_at_call 39; refine HC.out.mono ?_; rintro e w' ⟨rfl, rfl⟩) | (go_at_call 47; refine HO.out.mono ?_; rintro e w' ⟨rfl, rfl⟩) | (go_at_call 48; refine HF.out.mono ?_; rintro e w2 ⟨rfl, hb⟩))
        go_ret2
        exact ⟨ret_ii E1.out.symm E2.out.symm, hb⟩
      · have HCR := fun W (hb : Below w.heap.size w W) => cellK_below HZ.out HCC.out hb p0 p3
        rw [hr] at E1 E2 HF
        rw [slotE_free] at HF
        rw [hx] at HCR
        have HKC := fun W => Lib.hid (iKey_any p W)
        rw [keyV_yes ⟨p0, p3⟩] at HKC
        have hp71 : 3 + p < 71 := by omega
        have hpn : decide (p < 0) = false := by rw [decide_eq_false]; omega
        have HCR := Lib.hid HCR
        clear hr HEN hx
        go_enter Tryz.func23, Tryz.ntmps23
        go_wp2_with (first | (go_at_call 39; refine HC.out.mono ?_; rintro e w' ⟨rfl, rfl⟩) | (go_at_call 47; refine HO.out.mono ?_; rintro e w' ⟨rfl, rfl⟩) | (go_at_call 48; refine HF.out.mono ?_; rintro e w2 ⟨rfl, hb⟩; have hcr := HCR.out w2 hb) | (go_at_call 40; refine (HKC _).out.mono ?_; rintro e w' ⟨rfl, rfl⟩))
        go_ret2
        exact ⟨ret_ii E1.out.symm E2.out.symm, hb⟩
      · have HCR := Lib.hid (fun W (hb : Below w.heap.size w W) => cellK_below HZ.out HCC.out hb p0 p3)
        rw [hr] at E1 E2 HF
        rw [slotE_found p0] at HF
        obtain ⟨x0, x1⟩ := cellK_word HCC.out p0 p3
        have HU := fun W => Lib.hid (iUntag_any W (cellK zs p) (by omega) (by omega))
        rw [hu, untT_some] at HU
        have HKC := fun W => Lib.hid (iKey_any p W)
        rw [keyV_yes ⟨p0, p3⟩] at HKC
        have hp71 : 3 + p < 71 := by omega
        have hpn : decide (p < 0) = false := by rw [decide_eq_false]; omega
        have hxne : (cellK zs p == 0) = false := by rw [beq_eq_false_iff_ne]; exact hx
        clear hr HEN hx hu x0 x1
        generalize cellK zs p = x at *
        go_enter Tryz.func23, Tryz.ntmps23
        go_wp2_with (first | (go_at_call 39; refine HC.out.mono ?_; rintro e w' ⟨rfl, rfl⟩) | (go_at_call 47; refine HO.out.mono ?_; rintro e w' ⟨rfl, rfl⟩) | (go_at_call 48; refine HF.out.mono ?_; rintro e w2 ⟨rfl, hb⟩; have hcr := HCR.out w2 hb) | (go_at_call 40; refine (HKC _).out.mono ?_; rintro e w' ⟨rfl, rfl⟩) | (go_at_call 41; refine (HU _).out.mono ?_; rintro e w3 ⟨rfl, hb3⟩))
        go_ret2
        exact ⟨ret_ii E1.out.symm E2.out.symm, hb.trans (hb3.mono hb.size)⟩
set_option maxRecDepth 100000 in
set_option maxHeartbeats 1600000 in
theorem iTableOk_any (w : World) (v : Value) (zs : List Int) (hz : Ints w v zs) : Calls Tryz.prog 17 #[v] w (Gives (.bool (tableV zs)) w) := by
  have HC := Lib.hid (iOk_any w v zs hz)
  have HZ := Lib.hid hz
  cases hc : okC zs with
  | false =>
    obtain ⟨b, off, cap, rfl, _, _, _, _⟩ := hz
    have E := Lib.hid (tableV_cells hc)
    rw [hc] at HC
    clear hc
    go_enter Tryz.func17, Tryz.ntmps17
    go_wp2_with (go_at_call 39; refine HC.out.mono ?_; rintro e w' ⟨rfl, rfl⟩)
    go_ret
    exact ⟨ret_bool E.out.symm, Below.refl _ _⟩
  | true =>
    have hl := okC_len hc
    have HCC := Lib.hid hc
    have HFK := fun W h k hk => Lib.hid (iFindKey_any W v zs k (HZ.out.below (w' := W) h) hk)
    rw [hc] at HC
    obtain ⟨b, off, cap, rfl, hcl, hcm, _, _⟩ := hz
    rw [hl] at *
    clear hc
    go_enter Tryz.func17, Tryz.ntmps17
    go_wp2_with (go_at_call 39; refine HC.out.mono ?_; rintro e w' ⟨rfl, rfl⟩)
    go_loopw [12] (fun x wr => ∃ s : Nat, s ≤ 4 ∧ x = .int .i64 s ∧ (∀ m : Nat, m < s → slotR zs m = true) ∧ Below w.heap.size w wr) (fun x _ => 4 - (intOf x).toNat)
    case atStart => exact ⟨0, Nat.zero_le _, rfl, fun m hm => absurd hm (Nat.not_lt_zero _), Below.refl _ _⟩
    case round =>
      obtain ⟨s, hs, rfl, hd, hb⟩ := hrel
      have HD := Lib.hid hd
      have HB := Lib.hid hb
      clear hd hb
      by_cases hlt : s < 4
      · have hnext : slotR zs s = true → ∀ m : Nat, m < s + 1 → slotR zs m = true := fun h m hm => by
          by_cases e : m = s
          · subst e; exact h
          · exact HD.out m (by omega)
        have HNX := Lib.hid hnext
        have HNO := Lib.hid (fun h => tableV_no (zs := zs) hlt h)
        have HKC := Lib.hid (iKey_any (s : Int) wr)
        rw [keyV_yes ⟨by omega, by omega⟩] at HKC
        have hp71 : 3 + (s : Int) < 71 := by omega
        have hcr := cellK_below HZ.out HCC.out HB.out (s := (s : Int)) (by omega) (by omega)
        rw [show (3 + (s : Int)).toNat = 3 + s by omega] at hcr
        obtain ⟨x0, x1⟩ := cellK_word HCC.out (s := (s : Int)) (by omega) (by omega)
        have HU := Lib.hid (iUntag_any wr (cellK zs s) (by omega) (by omega))
        clear hnext x0 x1
        by_cases hx : cellK zs s = 0
        · have HR := Lib.hid (HNX.out (slotR_free hx))
          have HK := fun W h => HFK W h ⟨#[]⟩ (by decide)
          generalize fkS zs ⟨#[]⟩ = r1 at *
          generalize fkK zs ⟨#[]⟩ = r2 at *
          rw [hx, untagV_zero, untT_none] at HU
          rw [hx] at hcr
          clear hx
          go_wp2_with (first | (go_at_call 40; refine HKC.out.mono ?_; rintro e w' ⟨rfl, rfl⟩) | (go_at_call 41; refine HU.out.mono ?_; rintro e w2 ⟨rfl, hb2⟩))
          refine (HK w2 (HB.out.trans (hb2.mono HB.out.size))).out.mono ?_
          rintro e w3 ⟨rfl, hb3⟩
          have HB3 := Lib.hid ((HB.out.trans (hb2.mono HB.out.size)).trans (hb3.mono (HB.out.trans (hb2.mono HB.out.size)).size))
          clear hb2 hb3
          go_wp2_with fail
          go_roundw
          case rel => exact ⟨s + 1, by omega, by go_num, HR.out, HB3.out⟩
          case measure => simp [intOf]; omega
        · have hxne : (cellK zs s != 0) = true := by rw [bne_iff_ne]; exact hx
          cases hu : untagV (cellK zs (s : Nat)) with
          | none =>
            have HR := Lib.hid (HNO.out (slotR_none hx hu))
            have hfe : fkS zs ⟨#[]⟩ = -1 := if_neg (fun h => absurd h.2 (by decide))
            have HK := fun W h => HFK W h ⟨#[]⟩ (by decide)
            rw [hfe] at HK
            generalize fkK zs ⟨#[]⟩ = r2 at *
            rw [hu, untT_none] at HU
            have hne : ((-1 : Int) != (s : Int)) = true := by rw [bne_iff_ne]; omega
            clear hx hu hfe
            generalize cellK zs s = x at *
            go_wp2_with (first | (go_at_call 40; refine HKC.out.mono ?_; rintro e w' ⟨rfl, rfl⟩) | (go_at_call 41; refine HU.out.mono ?_; rintro e w2 ⟨rfl, hb2⟩))
            refine (HK w2 (HB.out.trans (hb2.mono HB.out.size))).out.mono ?_
            rintro e w3 ⟨rfl, hb3⟩
            have HB3 := Lib.hid ((HB.out.trans (hb2.mono HB.out.size)).trans (hb3.mono (HB.out.trans (hb2.mono HB.out.size)).size))
            clear hb2 hb3
            go_wp2_with fail
            go_ret
            exact ⟨ret_bool HR.out.symm, HB3.out⟩
          | some u =>
            obtain ⟨k, kd⟩ := u
            obtain ⟨_, hkk, _, _⟩ := tag_untag hu
            have hks : k.size ≤ maxLen := by have := (keyOkV_iff.1 hkk).1; unfold maxLen; omega
            have HSL := Lib.hid (slotR_some hx hu)
            have hfe : fkS zs k = (findV zs k).1 := if_pos ⟨HCC.out, hkk⟩
            have HK := fun W h => HFK W h k hks
            rw [hfe] at HK
            generalize fkK zs k = r2 at *
            rw [hu, untT_some] at HU
            generalize (findV zs k).1 = r1 at *
            clear hx hu hfe hkk hks
            generalize cellK zs s = x at *
            by_cases he : r1 = (s : Int)
            · have HR := Lib.hid (HNX.out (HSL.out.trans (decide_eq_true he)))
              have hne : (r1 != (s : Int)) = false := by rw [he]; simp
              clear he
              go_wp2_with (first | (go_at_call 40; refine HKC.out.mono ?_; rintro e w' ⟨rfl, rfl⟩) | (go_at_call 41; refine HU.out.mono ?_; rintro e w2 ⟨rfl, hb2⟩))
              refine (HK w2 (HB.out.trans (hb2.mono HB.out.size))).out.mono ?_
              rintro e w3 ⟨rfl, hb3⟩
              have HB3 := Lib.hid ((HB.out.trans (hb2.mono HB.out.size)).trans (hb3.mono (HB.out.trans (hb2.mono HB.out.size)).size))
              clear hb2 hb3
              go_wp2_with fail
              go_roundw
              case rel => exact ⟨s + 1, by omega, by go_num, HR.out, HB3.out⟩
              case measure => simp [intOf]; omega
            · have HR := Lib.hid (HNO.out (HSL.out.trans (decide_eq_false he)))
              have hne : (r1 != (s : Int)) = true := by rw [bne_iff_ne]; exact he
              clear he
              go_wp2_with (first | (go_at_call 40; refine HKC.out.mono ?_; rintro e w' ⟨rfl, rfl⟩) | (go_at_call 41; refine HU.out.mono ?_; rintro e w2 ⟨rfl, hb2⟩))
              refine (HK w2 (HB.out.trans (hb2.mono HB.out.size))).out.mono ?_
              rintro e w3 ⟨rfl, hb3⟩
              have HB3 := Lib.hid ((HB.out.trans (hb2.mono HB.out.size)).trans (hb3.mono (HB.out.trans (hb2.mono HB.out.size)).size))
              clear hb2 hb3
              go_wp2_with fail
              go_ret
              exact ⟨ret_bool HR.out.symm, HB3.out⟩
      · have hge : decide ((s : Int) < 4) = false := by simp; omega
        have HR := Lib.hid (tableV_all HCC.out (fun m hm => HD.out m (by omega)))
        go_wp2
        go_ret
        exact ⟨ret_bool HR.out.symm, HB.out⟩
set_option maxRecDepth 100000 in
set_option maxHeartbeats 1600000 in
theorem iKeysIn_any (w : World) (v : Value) (zs : List Int) (hz : Ints w v zs) : Calls Tryz.prog 22 #[v] w (MadeT w (keysV zs)) := by
  have HC := Lib.hid (iOk_any w v zs hz)
  have HZ := Lib.hid hz
  cases hc : okC zs with
  | false =>
    obtain ⟨b, off, cap, rfl, _, _, _, _⟩ := hz
    have E := Lib.hid (show keysV zs = [] from if_neg (by rw [hc]; simp))
    rw [hc] at HC
    clear hc
    go_enter Tryz.func22, Tryz.ntmps22
    go_wp2_with (go_at_call 39; refine HC.out.mono ?_; rintro e w' ⟨rfl, rfl⟩)
    go_ret
    exact ⟨_, rfl, by rw [E.out]; exact World.ownsRow_nil _ _ _ _, Below.refl _ _⟩
  | true =>
    have hl := okC_len hc
    have HCC := Lib.hid hc
    rw [hc] at HC
    obtain ⟨b, off, cap, rfl, hcl, hcm, _, _⟩ := hz
    rw [hl] at *
    clear hc
    go_enter Tryz.func22, Tryz.ntmps22
    go_wp2_with (go_at_call 39; refine HC.out.mono ?_; rintro e w' ⟨rfl, rfl⟩)
    go_loopw [3, 10] (fun u x wr => ∃ s : Nat, s ≤ 4 ∧ x = .int .i64 s ∧ OwnT wr w.heap.size u (keysT zs s) ∧ Below w.heap.size w wr) (fun _ x _ => 4 - (intOf x).toNat)
    case atStart => exact ⟨0, Nat.zero_le _, rfl, World.ownsRow_nil _ _ _ _, Below.refl _ _⟩
    case round =>
      obtain ⟨s, hs, rfl, ho, hb⟩ := hrel
      have HO := Lib.hid ho
      have HB := Lib.hid hb
      have hlen := keysT_len zs s
      clear ho hb
      by_cases hlt : s < 4
      · have hlt2 : decide ((s : Int) < 4) = true := by rw [decide_eq_true]; omega
        have HKC := fun W => Lib.hid (iKey_any (s : Int) W)
        rw [keyV_yes ⟨by omega, by omega⟩] at HKC
        have hp71 : 3 + (s : Int) < 71 := by omega
        have hcr := cellK_below HZ.out HCC.out HB.out (s := (s : Int)) (by omega) (by omega)
        rw [show (3 + (s : Int)).toNat = 3 + s by omega] at hcr
        obtain ⟨x0, x1⟩ := cellK_word HCC.out (s := (s : Int)) (by omega) (by omega)
        have HU := fun W => Lib.hid (iUntag_any W (cellK zs s) (by omega) (by omega))
        clear x0 x1
        cases hu : untagV (cellK zs (s : Nat)) with
        | none =>
          have HN := Lib.hid (keysT_none hu)
          rw [hu, untT_none] at HU
          clear hu
          generalize cellK zs s = x at *
          go_wp2_with (go_at_call 40; refine (HKC _).out.mono ?_; rintro e w' ⟨rfl, rfl⟩)
          refine (HU wr).out.mono ?_
          rintro e w2 ⟨rfl, hb2⟩
          go_wp2_with fail
          go_roundw
          case rel => exact ⟨s + 1, by omega, by go_num, by rw [HN.out]; exact HO.out.below hb2, HB.out.trans (hb2.mono HB.out.size)⟩
          case measure => simp [intOf]; omega
        | some u =>
          obtain ⟨k, kd⟩ := u
          obtain ⟨_, _, hk1, _⟩ := tag_untag hu
          have hkd : (kd != 0) = true := by rw [bne_iff_ne]; omega
          have HN := Lib.hid (keysT_some hu)
          rw [hu, untT_some] at HU
          clear hu
          generalize cellK zs s = x at *
          go_wp2_with (go_at_call 40; refine (HKC _).out.mono ?_; rintro e w' ⟨rfl, rfl⟩)
          refine (HU wr).out.mono ?_
          rintro e w2 ⟨rfl, hb2⟩
          have HO2 := Lib.hid (HO.out.below hb2)
          have HB2 := Lib.hid (HB.out.trans (hb2.mono HB.out.size))
          clear hb2
          go_wp2_with (at_builtin; refine wpT_append w2 rfl _ _ rfl w.heap.size _ _ HO2.out rfl k rfl ?c1 ?c2 ?_; rotate_left 2; intro v' w3 hown' hgrow'; have HO3 := Lib.hid hown'; have HG := Lib.hid hgrow'; clear hown' hgrow')
          · go_roundw
            case rel => exact ⟨s + 1, by omega, by go_num, by rw [HN.out]; exact HO3.out, (HB2.out.alloc HB2.out.size _).grown HG.out (by simp [go_sem]; have := HB2.out.size; omega) HO2.out.base_le⟩
            case measure => simp [intOf]; omega
          case c1 => omega
          case c2 => exact HB2.out.size
      · have hge : decide ((s : Int) < 4) = false := by simp; omega
        have E := Lib.hid (show keysV zs = keysT zs s by rw [show s = 4 by omega]; exact if_pos HCC.out)
        go_wp2
        go_ret
        exact ⟨_, rfl, by rw [E.out]; exact HO.out, HB.out⟩
/-- What registering comes to where the way ends at a free slot. -/
theorem reg_free {zs : List Int} {key : ByteArray} {k p : Int} (hr : regOk zs key k = true) (h0 : 0 ≤ p) (h3 : p ≤ 3) (hf : findV zs key = (-1, 0, p)) (hx : cellK zs p = 0) :
    casC zs (3 + p) 0 (tagV key k) = regC zs key k ∧ casR zs (3 + p) 0 (tagV key k) = true ∧ regS zs key k = p ∧ regD zs key k = 0 := by
  have hc : okC zs = true := by simp only [regOk, Bool.and_eq_true] at hr; exact hr.1
  have ha : atC zs (3 + p) = true := atC_iff.2 ⟨hc, by omega, by omega⟩
  have hw : isW (tagV key k) = true := isW_iff.2 (by have := tagV_bd key k; omega)
  have h1 : casOk zs (3 + p) 0 = true := by unfold casOk; rw [ha]; show (cellK zs p == 0) = true; rw [hx]; rfl
  have h2 : storeOk zs (3 + p) (tagV key k) = true := by unfold storeOk; rw [ha, hw]; rfl
  obtain ⟨e1, e2, e3⟩ := reg_new (zs := zs) (key := key) (k := k) hr (by rw [hf]; exact (by decide : (-1 : Int) < 0)) (by rw [hf]; exact h0)
  rw [hf] at e1 e2
  refine ⟨?_, ?_, e2, e3⟩
  · rw [e1]; unfold casC; rw [if_pos h1]; exact store_yes h2
  · unfold casR; rw [h1, h2]; rfl
/-- And where it ends at the key's own. -/
theorem reg_found {zs : List Int} {key : ByteArray} {k p kd : Int} (hr : regOk zs key k = true) (h0 : 0 ≤ p) (h3 : p ≤ 3) (hf : findV zs key = (p, kd, -1)) (hx : cellK zs p ≠ 0) (t : Int) :
    casR zs (3 + p) 0 t = false ∧ regC zs key k = zs ∧ regS zs key k = p ∧ regD zs key k = if kd = k then 0 else 4 := by
  obtain ⟨e1, e2, e3⟩ := reg_slot (zs := zs) (key := key) (k := k) hr (by rw [hf]; exact h0)
  rw [hf] at e2 e3
  refine ⟨?_, e1, e2, e3⟩
  have h1 : casOk zs (3 + p) 0 = false := by
    unfold casOk
    rw [show (zs.getD (3 + p).toNat 0 == 0) = false from beq_eq_false_iff_ne.2 hx, Bool.and_false]
  unfold casR; rw [h1]; rfl
end Go.Proofs.YtlnkjpacjbhncaaGreatDoor
/-
  Chapter 8, the program's reportOf: rows cloned, the quiet ones struck, sorted by their keys, one of each key.
-/
namespace Go.Proofs.YtlnkjpacjbhncaaGreatDoor
open Go.RowKit M
set_option linter.unusedVariables false
set_option linter.unusedSimpArgs false
/-- A call hands back a new row of rows of its own that is not nil. -/
def NewR (w : World) (rs : List R) (e : Ending) (w' : World) : Prop := ∃ g cap, e = .returned (.slice (some ⟨g, 0, none⟩) rs.length cap) ∧ OwnR w' w.heap.size (.slice (some ⟨g, 0, none⟩) rs.length cap) rs ∧ Below w.heap.size w w'
set_option maxRecDepth 100000 in
set_option maxHeartbeats 4000000 in
theorem iCloneR_any (w : World) (base g n cap : Nat) (rs : List R) (h : OwnR w base (.slice (some ⟨g, 0, none⟩) n cap) rs) (hn : rs.length = n) (h19 : n ≤ 1000) :
    Calls Tryz.prog 64 #[.slice (some ⟨g, 0, none⟩) n cap] w (NewR w rs) := by
  obtain ⟨i0, hi, hz0, hz1, hz2⟩ := info_parts info_row
  obtain ⟨hc1, hc2⟩ := h.capLe hn
  have hlt := h.inB.2
  have HO := Lib.hid h
  have HN := Lib.hid hn
  clear h hn
  have hnil : ∀ (w : World), (binOp .eql 24 (.slice (some ⟨g, 0, none⟩) n cap) (.slice none 0 0)).run Tryz.prog w = .ok (.bool false) w := fun w => Lib.run_eql_slice_nil w _ _ (some ⟨g, 0, none⟩) n cap 0 0 Tryz.underlying24
  go_enter Tryz.func64, Tryz.ntmps64
  go_wp2_with (at_builtin; refine wpList_append_own _ rfl _ _ 24 rfl w.heap.size 60 i0 zeroR.v 10 88 Tryz.underlying24 hi hz0 hz1 hz2 rfl (by decide) _ _ _ rfl (World.ownsRow_made w #[] 0 (Nat.le_refl _) (Nat.zero_le _) rfl) ⟨g, 0, none⟩ n cap (cellsR rs) rfl ?qc1 ?qc2 ?qc3 ?qc4 ?qc5 ?qc6 ?_)
  case qc1 => rw [cellsR_length, HN.out]
  case qc2 =>
    intro j u hj
    have hjn : j < rs.length * 10 := by
      have := (List.getElem?_eq_some_iff.1 hj).1
      rwa [cellsR_length] at this
    have e : j = j / 10 * 10 + j % 10 := by omega
    have hrow := HO.out.at HN.out (j / 10) (by rw [HN.out] at hjn; omega) (j % 10) (by omega)
    rw [← cellsR_at rs (j / 10) (j % 10) (by omega) (by omega), ← e] at hrow
    rw [Addr.add_lit, Nat.zero_add]
    exact Lib.cell?_alloc_some _ (hrow.trans hj)
  case qc3 => exact cellsR_one rs
  case qc4 => unfold maxLen; omega
  case qc5 => omega
  case qc6 => simp
  intro v' w1 hown hgrow hnil2
  have HV := Lib.hid hown
  have HG := Lib.hid hgrow
  have HNI := Lib.hid hnil2
  clear hown hgrow hnil2 hnil hi hz0 hz1 hz2
  go_wp2
  go_ret
  have hv : w1.ownsRow w.heap.size 60 10 v' n (cellsR rs) := by simpa using HV.out
  have hb : Below w.heap.size w w1 := ((Below.refl _ w).alloc (Nat.le_refl _) _).grown HG.out (by simp) (by intro k hk; simp [Value.ownBlock] at hk; omega)
  rcases hv.2 with ⟨e, _⟩ | ⟨g', cap', cur, e, _⟩
  · exact absurd e HNI.out
  · subst e
    refine ⟨g', cap', by rw [HN.out]; rfl, ?_, hb⟩
    unfold OwnR
    rw [HN.out]
    exact hv
theorem FitR.filter {rs : List R} (h : FitR rs) : ∀ r ∈ rs, r.Fit := fun r hr => by
  obtain ⟨j, hj, e⟩ := List.getElem_of_mem hr
  have := h j hj
  rw [List.getD_eq_getElem?_getD, List.getElem?_eq_getElem hj, Option.getD_some, e] at this
  exact this
set_option maxRecDepth 100000 in
set_option maxHeartbeats 4000000 in
theorem iReportOf_any (w : World) (base g n cap : Nat) (rs : List R) (h : OwnR w base (.slice (some ⟨g, 0, none⟩) n cap) rs) (hn : rs.length = n) (h19 : n ≤ 19) (hf : FitR rs) :
    Calls Tryz.prog 43 #[.slice (some ⟨g, 0, none⟩) n cap] w (MadeR w (oneV (sortV (rs.filter fun r => !quietV r)))) := by
  have HC := Lib.hid (iCloneR_any w base g n cap rs h hn (by omega))
  have HN := Lib.hid hn
  have HF := Lib.hid hf
  clear h hn hf
  go_enter Tryz.func43, Tryz.ntmps43
  go_wp2_with fail
  refine HC.out.mono ?_
  rintro e w1 ⟨g1, cap1, rfl, ho1, hb1⟩
  rw [HN.out] at ho1
  have HD := Lib.hid (iDel_any w1 w.heap.size g1 n cap1 rs ho1 HN.out HF.out)
  have HB1 := Lib.hid hb1
  have hge := ho1.inB.1
  clear ho1 hb1 HC
  rw [HN.out]
  go_wp2_with fail
  refine HD.out.mono ?_
  rintro e w2 ⟨n2, hn2, rfl, ho2, hg2⟩
  have hl2 : n2 ≤ 19 := by
    have := List.length_filter_le (fun r => !quietV r) rs
    rw [HN.out] at this; omega
  have HS := Lib.hid (iSort_any w2 w.heap.size g1 n2 cap1 _ ho2 hn2.symm hl2)
  have HB2 := Lib.hid (HB1.out.grown hg2 HB1.out.size (by intro _ h; cases h; exact hge))
  have HN2 := Lib.hid hn2
  clear ho2 hg2 HD HB1 hn2
  go_wp2_with fail
  refine HS.out.mono ?_
  rintro e w3 ⟨rfl, ho3, hg3⟩
  have HK := Lib.hid (iCompact_any w3 w.heap.size g1 n2 cap1 _ ho3 (by rw [sortV_length]; exact HN2.out.symm))
  have HB3 := Lib.hid (HB2.out.grown hg3 HB2.out.size (by intro _ h; cases h; exact hge))
  clear ho3 hg3 HS HB2
  go_wp2_with fail
  refine HK.out.mono ?_
  rintro e w4 ⟨n4, hn4, rfl, ho4, hg4⟩
  have HO4 := Lib.hid ho4
  have HB4 := Lib.hid (HB3.out.grown hg4 HB3.out.size (by intro _ h; cases h; exact hge))
  clear ho4 hg4 HK HB3 hn4
  go_wp2_with fail
  go_ret
  exact ⟨_, rfl, HO4.out, HB4.out⟩
end Go.Proofs.YtlnkjpacjbhncaaGreatDoor
/-
  Chapter 8, the program's ReportIn: it answers the report of a buffer, a row of rows of its own, and turns nothing that was there.
-/
namespace Go.Proofs.YtlnkjpacjbhncaaGreatDoor
open Go.RowKit M
set_option linter.unusedVariables false
set_option linter.unusedSimpArgs false
theorem inW_small {x : Int} (h0 : -1000000000000000 ≤ x) (h1 : x ≤ 1000000000000000) : inW x := by unfold inW; omega
theorem drop_fit {r : R} (h : r.Fit) (t : Int) : (dropRow r t).Fit := by
  unfold dropRow
  split
  · obtain ⟨g0, g1, g2, g3, g4, g5, g6, g7, g8⟩ := h
    rename_i hc
    exact ⟨g0, g1, g2, g3, g4, g5, g6, g7, by show inW (if t - 3 < 65535 then t - 3 else 65535); split <;> exact inW_small (by omega) (by omega)⟩
  · exact h
theorem rowFrom_fit (tag : Int) (raw : List Int) : (rowFromV tag raw).Fit := by
  have hz : zeroR.Fit := by constructor <;> (try unfold inW) <;> (try simp only [zeroR]) <;> first | (unfold maxLen; decide) | omega
  cases hu : untagV tag with
  | none => rw [rowFrom_none hu]; exact hz
  | some x =>
    by_cases hl : raw.length = 8
    · obtain ⟨key, kd⟩ := x
      obtain ⟨_, hko, hk1, hk3⟩ := tag_untag hu
      have hk : key.size ≤ maxLen := by have := keyOkV_iff.1 hko; unfold maxLen; omega
      rw [rowFrom_some hu hl]
      have hk : kd = 1 ∨ kd = 2 ∨ kd = 3 := by omega
      rcases hk with rfl | rfl | rfl
      · have := sumT_bd raw 2
        show (countRow key raw).Fit
        constructor <;> (try unfold inW) <;> (try simp only [countRow, zeroR]) <;> first | assumption | omega
      · show (gaugeRow key raw).Fit
        have hv : 0 ≤ ungV (raw.getD 3 0) ∧ ungV (raw.getD 3 0) ≤ 65535 := by unfold ungV; split <;> omega
        constructor <;> (try unfold inW) <;> (try simp only [gaugeRow, zeroR]) <;> first | assumption | omega
      · show (timerRow key raw).Fit
        refine drop_fit (ring_fit ?_ _ _) _
        constructor <;> (try unfold inW) <;> (try simp only [zeroR]) <;> first | assumption | omega
    · rw [rowFrom_len hu hl]; exact hz
theorem rowIn_fit (zs : List Int) (b s : Int) : (rowInV zs b s).Fit := by
  unfold rowInV
  split
  · exact rowFrom_fit _ _
  · constructor <;> (try unfold inW) <;> (try simp only [zeroR]) <;> first | (unfold maxLen; decide) | omega
theorem ring_kind (r : R) (raw : List Int) (k : Nat) : (ringV r raw k).kind = r.kind := by
  have hs : ∀ (r : R) (v : Int), (sampledV r v).kind = r.kind := fun r v => by unfold sampledV; repeat' split
                                                                               all_goals rfl
  induction k with
  | zero => rfl
  | succ k ih => unfold ringV; split; rw [hs, ih]; exact ih
theorem rowFrom_kind (tag : Int) (raw : List Int) (h : quietV (rowFromV tag raw) = false) : (rowFromV tag raw).kind ≠ 0 := by
  cases hu : untagV tag with
  | none => rw [rowFrom_none hu] at h; cases h
  | some x =>
    by_cases hl : raw.length = 8
    · obtain ⟨key, kd⟩ := x
      obtain ⟨_, hko, hk1, hk3⟩ := tag_untag hu
      rw [rowFrom_some hu hl]
      have hk : kd = 1 ∨ kd = 2 ∨ kd = 3 := by omega
      rcases hk with rfl | rfl | rfl
      · show (1 : Int) ≠ 0; decide
      · show (2 : Int) ≠ 0; decide
      · show (timerRow key raw).kind ≠ 0
        unfold timerRow dropRow
        split
        · show (ringV _ _ _).kind ≠ 0
          rw [ring_kind]; show (3 : Int) ≠ 0; decide
        · rw [ring_kind]; show (3 : Int) ≠ 0; decide
    · rw [rowFrom_len hu hl] at h; cases h
theorem rowIn_kind (zs : List Int) (b s : Int) (h : quietV (rowInV zs b s) = false) : (rowInV zs b s).kind ≠ 0 := by
  unfold rowInV at *
  split at h
  · rename_i hc; rw [if_pos hc]; exact rowFrom_kind _ _ h
  · cases h
theorem OwnR.lower {w : World} {base base' : Nat} {v : Value} {rs : List R} (h : OwnR w base v rs) (hb : base' ≤ base) : OwnR w base' v rs := by
  refine ⟨h.1, ?_⟩
  rcases h.2 with k | ⟨g, cap, cur, k1, k2, k3⟩
  · exact .inl k
  · exact .inr ⟨g, cap, cur, k1, Nat.le_trans hb k2, k3⟩
/-- The rows of the four slots of a buffer. -/
def slotsR (zs : List Int) (b : Int) : List R := (List.range 4).map fun (s : Nat) => rowInV zs b s
theorem slotsR_len (zs : List Int) (b : Int) : (slotsR zs b).length = 4 := by simp [slotsR]
theorem slotsR_at (zs : List Int) (b : Int) (j : Nat) (h : j < 4) : (slotsR zs b).getD j zeroR = rowInV zs b j := by
  unfold slotsR
  rw [List.getD_eq_getElem?_getD, List.getElem?_map, List.getElem?_range h]; rfl
theorem slots_fit (zs : List Int) (b : Int) : FitR (slotsR zs b) := fun j hj => by
  rw [slotsR_len] at hj
  rw [slotsR_at zs b j hj]
  exact rowIn_fit _ _ _
theorem slots_report (zs : List Int) (b : Int) : oneV (sortV ((slotsR zs b).filter fun r => !quietV r)) = reportInV zs b := by
  rw [report_sorted _ (fun r hr h => by
    obtain ⟨s, _, rfl⟩ := List.mem_map.1 hr
    exact rowIn_kind _ _ _ h)]
  unfold slotsR reportInV reportT
  rw [List.foldl_map]
  by_cases hc : okC zs = true ∧ bufOk b = true
  · rw [if_pos hc]
  · rw [if_neg hc]
    have e : ∀ s : Nat, rowInV zs b s = zeroR := fun s => if_neg (fun x => hc ⟨x.1, x.2.1⟩)
    have e2 : ∀ l : List R, addV l zeroR = l := fun l => if_neg (fun x => x.1 rfl)
    simp only [e, e2]
    rfl
set_option maxRecDepth 100000 in
set_option maxHeartbeats 4000000 in
theorem iReportIn_any (w : World) (v : Value) (zs : List Int) (b : Int) (h : Ints w v zs) (h0 : -9223372036854775808 ≤ b) (h1 : b ≤ 9223372036854775807) : Calls Tryz.prog 18 #[v, .int .i64 b] w (MadeR w (reportInV zs b)) := by
  obtain ⟨i0, hi, hz0, hz1, hz2⟩ := info_parts info_row
  have HR := fun W (s : Nat) (hs : s < 4) (h : Ints W v zs) => Lib.hid (iRowIn_any W v zs b s h h0 h1 (by omega) (by omega))
  have HI := Lib.hid h
  have HE := Lib.hid (slots_report zs b)
  have HSL := Lib.hid (slotsR_len zs b)
  have HSF := Lib.hid (slots_fit zs b)
  have HSA := Lib.hid (slotsR_at zs b)
  have HPS := Lib.hid (partR_set (slotsR zs b))
  clear h
  go_enter Tryz.func18, Tryz.ntmps18
  go_wp2_with (refine wpList_make_full _ rfl _ _ 24 rfl w.heap.size 60 i0 zeroR.v 10 Tryz.underlying24 hi hz0 hz1 .i64 .i64 _ _ 4 rfl rfl rfl rfl ?c1 ?c2 ?c3 ?_; rotate_left 3; intro w1 hown hg; have HO := Lib.hid hown; have HG := Lib.hid hg; clear hown hg)
  case c1 => rw [hz2]; omega
  case c2 => unfold maxLen; omega
  case c3 => exact Nat.le_refl _
  clear hi hz0 hz1 hz2
  go_loopw [10] (fun i wr => ∃ j : Nat, j ≤ 4 ∧ i = .int .i64 j ∧ OwnR wr w.heap.size (.slice (some ⟨w.heap.size, 0, none⟩) 4 4) (partR (slotsR zs b) j) ∧ Below w.heap.size w wr) (fun i _ => 4 - (intOf i).toNat)
  case atStart =>
    refine ⟨0, Nat.zero_le _, rfl, ?_, below_made' HG.out⟩
    have := HO.out
    rw [zero_cells] at this
    unfold OwnR
    rw [partR_zero, HSL.out, List.length_replicate]
    exact this
  case round =>
    obtain ⟨j, hj, rfl, ho, hbl⟩ := hrel
    clear HO HG
    have HPL := Lib.hid (show (partR (slotsR zs b) j).length = 4 by rw [partR_length, HSL.out])
    by_cases hlt : j < 4
    · have HRJ := Lib.hid (HR wr j hlt (HI.out.below hbl)).out
      have HP := Lib.hid (HPS.out j (by rw [HSL.out]; exact hlt))
      rw [HSA.out j hlt] at HP
      have HO2 := Lib.hid ho
      have HB := Lib.hid hbl
      clear ho hbl HR
      have hltz : (j : Int) < 4 := by omega
      generalize rowInV zs b (j : Int) = r at *
      obtain ⟨key, kind, sum, st, last, n', mn, mx, total, dropped⟩ := r
      unfold R.v at HRJ
      simp only at HRJ
      go_wp2_with fail
      refine HRJ.out.mono ?_
      rintro e w2 ⟨rfl, hb2⟩
      have HO3 := Lib.hid (HO2.out.below hb2)
      have HB2 := Lib.hid (HB.out.trans (hb2.mono HB.out.size))
      obtain ⟨z0, z1, z2, z3, z4, z5, z6, z7, z8, z9⟩ := (HO3.out.at HPL.out j hlt).get
      have zf := HO3.out.frz HPL.out
      clear hb2 HO2 HB
      go_wp2_with fail
      go_roundw
      case rel =>
        have hst := HO3.out.put HPL.out j hlt ⟨key, kind, sum, st, last, n', mn, mx, total, dropped⟩
        rw [HP.out] at hst
        exact ⟨j + 1, by omega, by go_num, hst.1, HB2.out.grown hst.2 HB2.out.size (by intro _ h; cases h; exact Nat.le_refl _)⟩
      case measure => simp [intOf]; omega
    · obtain rfl : j = 4 := by omega
      have e : partR (slotsR zs b) 4 = slotsR zs b := by rw [← HSL.out]; exact partR_all _
      rw [e] at ho
      have HRO := Lib.hid (iReportOf_any wr w.heap.size w.heap.size 4 4 (slotsR zs b) ho HSL.out (by omega) HSF.out)
      rw [HE.out] at HRO
      have HB := Lib.hid hbl
      clear ho hbl e HR HPS HSA HSF
      have hltz : ¬ ((4 : Nat) : Int) < 4 := by omega
      go_wp2_with fail
      refine HRO.out.mono ?_
      rintro e w2 ⟨v2, rfl, ho2, hb2⟩
      have HO2 := Lib.hid ho2
      have HB2 := Lib.hid hb2
      clear ho2 hb2 HRO
      go_wp2_with fail
      go_ret
      exact ⟨v2, rfl, OwnR.lower HO2.out HB.out.size, HB.out.trans (HB2.out.mono HB.out.size)⟩
end Go.Proofs.YtlnkjpacjbhncaaGreatDoor
/-
  The exact laws' marks on a model, and the look whether they are held.
-/
namespace Go.Proofs.YtlnkjpacjbhncaaGreatDoor
open Go.RowKit M
set_option linter.unusedVariables false
set_option linter.unusedSimpArgs false
theorem OwnF.keptA {α : Type} {t : TypeId} {F : Nat} {c : α → Array Value} {w w' : World} {base : Nat} {v u : Value} {l : List α} (h : OwnF t F c w base v l) (hg : w.grownBy w' u.ownBlock) (ha : Ap v u) : OwnF t F c w' base v l := h.kept hg ha
/-- The blocks of a model's two rows. -/
def MoBl (vk vr : Value) (i : Nat) : Prop := vk.ownBlock = some i ∨ vr.ownBlock = some i
theorem notMoBl {v vk vr : Value} (h1 : Ap v vk) (h2 : Ap v vr) : ∀ k, v.ownBlock = some k → ¬ MoBl vk vr k := by
  intro k hk hb
  rcases hb with e | e
  · rcases h1 with h | h
    · rw [hk] at h; cases h
    · exact h (hk.trans e.symm)
  · rcases h2 with h | h
    · rw [hk] at h; cases h
    · exact h (hk.trans e.symm)
def markMo (k : Int) (m : Mo) : Mo := ⟨marksKRow k m.keys.length, marksRow (k + 2 * (m.keys.length : Int)) m.rows.length⟩
def MarkedMo (w : World) (base : Nat) (vk vr : Value) (k : Int) (m : Mo) (e : Ending) (w' : World) : Prop := e = .returned (.int .i64 (k + 2 * (m.keys.length : Int) + 10 * (m.rows.length : Int))) ∧ MoOwn w' base (markMo k m) vk vr ∧ Chg (MoBl vk vr) w w'
theorem ne_new {w : World} {v : Value} (h : ∀ k, v.ownBlock = some k → k < w.heap.size) : v.ownBlock ≠ some w.heap.size := fun e => Nat.lt_irrefl _ (h _ e)
set_option maxRecDepth 100000 in
set_option maxHeartbeats 4000000 in
theorem markModel_any (w : World) (base : Nat) (m : Mo) (vk vr : Value) (k : Int) (h : MoOwn w base m vk vr) (hk : m.keys.length ≤ 1048576) (hr : m.rows.length ≤ 1048576) (hk0 : 1 ≤ k) (hk1 : k ≤ 900000000000) : Calls Tryz.prog 10 #[.agg #[vk, vr], .int .i64 k] w (MarkedMo w base vk vr k m) := by
  have HO := Lib.hid h
  have NK := Lib.hid (ne_new h.keys.lt)
  have NR := Lib.hid (ne_new h.rows.lt)
  have CK := fun W h => Lib.hid (markKRowS_any W base vk m.keys k h hk hk0 (by omega))
  have CR := fun W h => Lib.hid (markRowS_any W base vr m.rows (k + 2 * (m.keys.length : Int)) h hr (by omega) (by omega))
  clear h hk hr
  go_enter Tryz.func10, Tryz.ntmps10
  go_upto_region 1 with fail
  refine wp_gen (fun W => Blk W w.heap.size 26 #[vk, vr] ∧ Below w.heap.size w W) ⟨Blk.new w _ _ _ rfl, (Below.refl _ _).alloc (Nat.le_refl _) _⟩ ?_
  rintro W ⟨g0, hb⟩
  have G0 := Lib.hid g0
  have HB := Lib.hid hb
  have HO1 := Lib.hid (HO.out.below hb)
  have q0 := g0.get 0
  simp at q0
  clear g0 hb HO
  go_wp2_with fail
  refine (CK _ HO1.out.keys).out.mono ?_
  rintro e w1 ⟨rfl, hm, hg⟩
  have HM := Lib.hid hm
  have HR1 := Lib.hid (HO1.out.rows.keptA hg (Ap.symm HO1.out.ap))
  have HAP := Lib.hid HO1.out.ap
  have g1 := G0.out.grown hg NK.out
  have HC := Lib.hid ((Chg.of_below (S := MoBl vk vr) HB.out).trans (Chg.of_grown hg fun i hi => .inl hi))
  have q1 := g1.get 1
  simp at q1
  clear hm hg g1 G0 HB HO1 CK q0
  go_wp2_with fail
  refine (CR _ HR1.out).out.mono ?_
  rintro e w2 ⟨rfl, hm, hg⟩
  have HM2 := Lib.hid hm
  have HK2 := Lib.hid (show OwnF 39 2 krCells w2 base vk (marksKRow k m.keys.length) from OwnF.keptA HM.out hg HAP.out)
  have HC2 := Lib.hid (HC.out.trans (Chg.of_grown hg fun i hi => .inr hi))
  clear hm hg HC HM HR1 CR q1
  go_wp2_with fail
  go_ret
  exact ⟨rfl, ⟨HK2.out, HM2.out, HAP.out⟩, HC2.out⟩
set_option maxRecDepth 100000 in
set_option maxHeartbeats 4000000 in
theorem heldModel_any (w : World) (base : Nat) (m : Mo) (vk vr : Value) (k : Int) (h : MoOwn w base (markMo k m) vk vr) (hk : m.keys.length ≤ 1048576) (hr : m.rows.length ≤ 1048576) (hk0 : 1 ≤ k) (hk1 : k ≤ 900000000000) : Calls Tryz.prog 11 #[.agg #[vk, vr], .int .i64 k] w (Gives (.int .i64 (k + 2 * (m.keys.length : Int) + 10 * (m.rows.length : Int))) w) := by
  have HO := Lib.hid h
  have CK := fun W h => Lib.hid (heldKRowS_any W base vk k m.keys.length h hk0 (by omega) hk)
  have CR := fun W h => Lib.hid (heldRowS_any W base vr (k + 2 * (m.keys.length : Int)) m.rows.length h (by omega) (by omega) hr)
  have d1 : decide (k + 2 * (m.keys.length : Int) < 0) = false := by rw [decide_eq_false_iff_not]; omega
  have d2 : decide (k + 2 * (m.keys.length : Int) + 10 * (m.rows.length : Int) < 0) = false := by rw [decide_eq_false_iff_not]; omega
  clear h hk hr
  go_enter Tryz.func11, Tryz.ntmps11
  go_upto_region 1 with fail
  refine wp_gen (fun W => Blk W w.heap.size 26 #[vk, vr] ∧ Below w.heap.size w W) ⟨Blk.new w _ _ _ rfl, (Below.refl _ _).alloc (Nat.le_refl _) _⟩ ?_
  rintro W ⟨g0, hb⟩
  have G0 := Lib.hid g0
  have HB := Lib.hid hb
  have HO1 := Lib.hid (HO.out.below hb)
  have q0 := g0.get 0
  simp at q0
  clear g0 hb HO
  go_wp2_with fail
  refine (CK _ HO1.out.keys).out.mono ?_
  rintro e w1 ⟨rfl, hb⟩
  have HO2 := Lib.hid (HO1.out.below hb)
  have g1 := G0.out.below hb
  have q1 := g1.get 1
  simp at q1
  replace HB := Lib.hid (HB.out.trans (hb.mono HB.out.size))
  clear hb g1 G0 HO1 CK q0
  go_wp2_with fail
  refine (CR _ HO2.out.rows).out.mono ?_
  rintro e w2 ⟨rfl, hb⟩
  replace HB := Lib.hid (HB.out.trans (hb.mono HB.out.size))
  clear hb HO2 CR q1
  go_wp2_with fail
  go_ret
  exact ⟨rfl, HB.out⟩
end Go.Proofs.YtlnkjpacjbhncaaGreatDoor
/-
  Chapter 13's laws: what their walks keep while a model that was copied is compared with the argument.
-/
namespace Go.Proofs.YtlnkjpacjbhncaaGreatDoor
open Go.RowKit M
set_option linter.unusedVariables false
theorem Blk.rangeM {w : World} {g : Nat} {t : TypeId} {cs : Array Value} (h : Blk w g t cs) : w.rangeAt g 0 cs.toList := fun j v hv => by
  rw [Nat.zero_add, h.get j]
  simpa using hv
theorem MoIn.shape {w : World} {m : Mo} {vk vr : Value} (h : MoIn w m vk vr) : (∃ A n c, vk = .slice A n c) ∧ ∃ A n c, vr = .slice A n c := by
  obtain ⟨A, c, e, _⟩ := h.keys
  obtain ⟨A', c', e', _⟩ := h.rows
  exact ⟨⟨_, _, _, e⟩, ⟨_, _, _, e'⟩⟩
theorem MoOwn.shape {w : World} {b : Nat} {m : Mo} {vk vr : Value} (h : MoOwn w b m vk vr) : (∃ A n c, vk = .slice A n c) ∧ ∃ A n c, vr = .slice A n c := h.win.shape
theorem mo_one {w : World} {m : Mo} {vk vr : Value} (h : MoIn w m vk vr) : Array.all #[vk, vr] (·.oneCell') = true := by
  obtain ⟨⟨A, n, c, rfl⟩, ⟨A', n', c', rfl⟩⟩ := h.shape
  simp [Value.oneCell']
theorem below_oneM (w : World) (o : Obj) : Below w.heap.size w (w.alloc o) := (Below.refl _ _).alloc (Nat.le_refl _) o
end Go.Proofs.YtlnkjpacjbhncaaGreatDoor

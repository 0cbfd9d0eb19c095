/-
  Rows of bytes that a call made itself: the word 'OwnB w base v l' (the slice value v holds the bytes l, in a block from base on), and what making, storing, appending and turning into a string do to it.
-/
import Derived.Test.YtfmmhfipibaghaaChecked
import Derived.Test.YtfmmhfipibaghaaMath
import Derived.WalkKit
import Derived.Lib.Hide
import Derived.KernelRfl
namespace Go.Proofs.Ytfmmhfipibaghaa
open Go.RowKit M
set_option linter.unusedVariables false
theorem info_u8 : (Try.prog.info? 5).map (fun i => (i.zero, i.size, i.bytes)) = some (some (.int .u8 0), 1, 1) := by kernel_rfl
def b2v (c : UInt8) : Value := .int .u8 (c.toNat : Int)
theorem b2v_one (l : List UInt8) : ∀ u ∈ l.map b2v, u.oneCell' = true := by
  intro u hu
  obtain ⟨c, _, rfl⟩ := List.mem_map.1 hu
  rfl
def OwnB (w : World) (base : Nat) (v : Value) (l : List UInt8) : Prop := w.ownsRow base 5 1 v l.length (l.map b2v)
theorem OwnB.alloc {w : World} {base : Nat} {v : Value} {l : List UInt8} (h : OwnB w base v l) (o : Obj) : OwnB (w.alloc o) base v l := World.ownsRow.alloc h o
theorem OwnB.kept {w w' : World} {base : Nat} {v : Value} {l : List UInt8} {row : Option Nat} (h : OwnB w base v l) (hg : w.grownBy w' row) (hne : v.ownBlock = none ∨ v.ownBlock ≠ row) : OwnB w' base v l := World.ownsRow.kept h hg hne
theorem conv_own {W : World} {base : Nat} {v : Value} {l : List UInt8} (h : OwnB W base v l) :
    (convert 22 9 v).run Try.prog W = .ok (.string ⟨l.toArray⟩) W := by
  rcases h.2 with ⟨rfl, h0⟩ | ⟨g, cap, cur, rfl, hb, hg, hn, hm, hc, ht⟩
  · have : l = [] := List.eq_nil_of_length_eq_zero h0
    subst this
    exact run_convert_bytes_nil (P := Try.prog) W 22 5 Try.underlying22 Try.underlying5 0 0 9 Try.underlying9
  · have hx := run_convert_bytes_arg (P := Try.prog) W 22 5 Try.underlying22 Try.underlying5 g 0 l.length cap (l.map fun c => (c.toNat : Int)) (by simp) (by
      intro i hi
      rw [Nat.zero_add, World.ownsRow.cellAt h i (by omega), List.getElem?_map, List.getElem?_eq_getElem hi]
      simp [b2v, List.getD, List.getElem?_eq_getElem hi]) 9 Try.underlying9
    rw [hx]
    have : strOfNums (l.map fun c => (c.toNat : Int)) = ⟨l.toArray⟩ := by
      simp [strOfNums, Function.comp_def]
    rw [this]
theorem OwnB.cell {w : World} {base g n cap : Nat} {l : List UInt8} (h : OwnB w base (.slice (some ⟨g, 0, none⟩) n cap) l) (hn : l.length = n) {j : Nat} {c : UInt8} (hj : l[j]? = some c) : w.cell? ⟨g, j, none⟩ = some (b2v c) := by
  subst hn
  obtain ⟨hl, _⟩ := List.getElem?_eq_some_iff.1 hj
  rw [World.ownsRow.cellAt h j (by omega), List.getElem?_map, hj]; rfl
theorem OwnB.cellEx {w : World} {base g n cap : Nat} {l : List UInt8} (h : OwnB w base (.slice (some ⟨g, 0, none⟩) n cap) l) (hn : l.length = n) {j : Nat} (hj : j < n) : ∃ z : Int, w.cell? ⟨g, j, none⟩ = some (.int .u8 z) :=
  ⟨_, h.cell hn (List.getElem?_eq_getElem (by omega))⟩
theorem OwnB.frz {w : World} {base g n cap : Nat} {l : List UInt8} (h : OwnB w base (.slice (some ⟨g, 0, none⟩) n cap) l) (hn : l.length = n) (j : Nat) : w.frozen? ⟨g, j, none⟩ = false := by
  subst hn
  exact World.ownsRow.frozenAt h j
/-- A slice of one byte that was just built, as a string. -/
theorem conv_one (W : World) (n : Int) :
    (convert 22 9 (.slice (some ⟨W.heap.size, 0, none⟩) 1 1)).run Try.prog (W.alloc (.cells #[.int .u8 n] 5)) = .ok (.string ⟨#[UInt8.ofNat n.toNat]⟩) (W.alloc (.cells #[.int .u8 n] 5)) := by
  have h := run_convert_bytes_arg (P := Try.prog) (W.alloc (.cells #[.int .u8 n] 5)) 22 5 Try.underlying22 Try.underlying5 W.heap.size 0 1 1 [n] rfl (by
    intro i hi
    obtain rfl : i = 0 := by omega
    simp [go_sem]) 9 Try.underlying9
  simpa [strOfNums] using h
/-- Filling from the front: what is there after j stores. -/
def part (l : List UInt8) (j : Nat) : List UInt8 := l.take j ++ List.replicate (l.length - j) 0
theorem part_length (l : List UInt8) (j : Nat) : (part l j).length = l.length := by
  simp only [part, List.length_append, List.length_take, List.length_replicate]; omega
theorem part_zero (l : List UInt8) : part l 0 = List.replicate l.length 0 := by simp [part]
theorem part_all (l : List UInt8) : part l l.length = l := by simp [part]
theorem part_set (l : List UInt8) (j : Nat) (c : UInt8) (hc : l[j]? = some c) : (part l j).set j c = part l (j + 1) := by
  obtain ⟨hj, he⟩ := List.getElem?_eq_some_iff.1 hc
  apply List.ext_getElem?
  intro i
  unfold part
  rcases Nat.lt_trichotomy i j with h | h | h
  · rw [List.getElem?_set_ne (by omega), List.getElem?_append_left (by simp; omega), List.getElem?_append_left (by simp; omega), List.getElem?_take_of_lt h, List.getElem?_take_of_lt (by omega)]
  · subst h
    rw [List.getElem?_set_self (by simp; omega), List.getElem?_append_left (by simp; omega), List.getElem?_take_of_lt (by omega), hc]
  · rw [List.getElem?_set_ne (by omega), List.getElem?_append_right (by simp; omega), List.getElem?_append_right (by simp; omega)]
    simp only [List.length_take, List.getElem?_replicate]
    congr 1
    simp only [eq_iff_iff]
    omega
theorem OwnB.made {w : World} {base g n : Nat} {cap : Nat} (h : w.ownsRow base 5 1 (.slice (some ⟨g, 0, none⟩) n cap) n (madeCells (Value.int .u8 0).cells (n * 1)).toList) (l : List UInt8) (hl : l.length = n) :
    OwnB w base (.slice (some ⟨g, 0, none⟩) n cap) (part l 0) := by
  unfold OwnB
  rw [part_length, hl, part_zero, hl]
  have : (madeCells (Value.int .u8 0).cells (n * 1)).toList = (List.replicate n (0 : UInt8)).map b2v := by
    rw [Nat.mul_one, List.map_replicate]
    exact toList_madeCells_one _ _
  rw [← this]
  exact h
theorem OwnB.store {w : World} {base g n cap : Nat} {l : List UInt8} {j : Nat} (hn : l.length = n) (h : OwnB w base (.slice (some ⟨g, 0, none⟩) n cap) (part l j)) (c : UInt8) (hc : l[j]? = some c) :
    OwnB (w.setCell ⟨g, j, none⟩ (b2v c)) base (.slice (some ⟨g, 0, none⟩) n cap) (part l (j + 1)) ∧ w.grownBy (w.setCell ⟨g, j, none⟩ (b2v c)) (some g) := by
  subst hn
  unfold OwnB at h ⊢
  rw [part_length] at h ⊢
  have hs := World.ownsRow.stored h j (b2v c)
  rw [← List.map_set, part_set l j c hc] at hs
  exact hs
/-- append(v, x...) onto an own row of bytes, x being bytes that lie at 'ad'. -/
theorem wpB_append (w : World) {ops : Array Oper} {rest : List Oper} {o : Oper} {a : Act} {Q : Exit → Act → World → Prop} (hgd : o.guard = none) (s x : Operand)
    (ho : o.op = .call { callee := .builtin .append, args := #[s, x], argTypes := #[22, 22] })
    (base : Nat) (v : Value) (l : List UInt8) (hown : OwnB w base v l) (hs : a.eval s = v)
    (ad : Addr) (m c : Nat) (news : List UInt8) (hx : a.eval x = .slice (some ad) m c) (hm : news.length = m) (hnews : ∀ (j : Nat) (u : UInt8), news[j]? = some u → w.cell? (ad.add j) = some (b2v u))
    (hlen : l.length + m ≤ 140737488355328) (hbase : base ≤ w.heap.size)
    (h : ∀ v' w', OwnB w' base v' (l ++ news) → w.grownBy w' v.ownBlock → wpList Try.prog ops Q rest (a.put o.dst v') w') : wpList Try.prog ops Q (o :: rest) a w := by
  obtain ⟨i0, hi, hz0, hz1, hz2⟩ := info_parts info_u8
  refine wpList_append_own w hgd s x 22 ho base 5 i0 (.int .u8 0) 1 1 Try.underlying22 hi hz0 hz1 hz2 rfl (by decide) v l.length (l.map b2v) hs hown ad m c (news.map b2v) hx (by simp [hm]) ?_ (b2v_one _) (by unfold maxLen; omega) (by omega) hbase ?_
  · intro j u hu
    rw [List.getElem?_map] at hu
    cases hj : news[j]? with
    | none => rw [hj] at hu; cases hu
    | some y =>
      rw [hj] at hu
      obtain rfl : b2v y = u := by simpa using hu
      exact hnews j y hj
  · intro v' w' h1 h2 _
    refine h v' w' ?_ h2
    unfold OwnB
    rw [List.length_append, hm, List.map_append]
    exact h1
theorem OwnB.drew {w : World} {base : Nat} {v : Value} {l : List UInt8} (h : OwnB w base v l) : OwnB w.drew base v l := h
/-- The like as one step of a region that draws its order. -/
theorem stepB_append {w : World} {ops : Array Oper} {o : Oper} {a : Act} {K : Act → World → Prop} {Q : Exit → Act → World → Prop} {E : Prop} (hgd : o.guard = none) (s x : Operand)
    (ho : o.op = .call { callee := .builtin .append, args := #[s, x], argTypes := #[22, 22] })
    (base : Nat) (v : Value) (l : List UInt8) (hown : OwnB w base v l) (hs : a.eval s = v)
    (ad : Addr) (m c : Nat) (news : List UInt8) (hx : a.eval x = .slice (some ad) m c) (hm : news.length = m) (hnews : ∀ (j : Nat) (u : UInt8), news[j]? = some u → w.cell? (ad.add j) = some (b2v u))
    (hlen : l.length + m ≤ 140737488355328) (hbase : base ≤ w.heap.size)
    (h : ∀ v' w', OwnB w' base v' (l ++ news) → w.grownBy w' v.ownBlock → K (a.put o.dst v') w') :
    if Region.wanted o (yielded ops a.tmps) = true then Oper.wp Try.prog o a w K Q else E := by
  have hw : Region.wanted o (yielded ops a.tmps) = true := by simp [Region.wanted, hgd]
  rw [if_pos hw]
  obtain ⟨i0, hi, hz0, hz1, hz2⟩ := info_parts info_u8
  refine wp_append_own w s x 22 ho base 5 i0 (.int .u8 0) 1 1 Try.underlying22 hi hz0 hz1 hz2 rfl (by decide) v l.length (l.map b2v) hs hown ad m c (news.map b2v) hx (by simp [hm]) ?_ (b2v_one _) (by unfold maxLen; omega) (by omega) hbase ?_
  · intro j u hu
    rw [List.getElem?_map] at hu
    cases hj : news[j]? with
    | none => rw [hj] at hu; cases hu
    | some y =>
      rw [hj] at hu
      obtain rfl : b2v y = u := by simpa using hu
      exact hnews j y hj
  · intro v' w' h1 h2 _
    refine h v' w' ?_ h2
    unfold OwnB
    rw [List.length_append, hm, List.map_append]
    exact h1
theorem one_get (c : UInt8) : ∀ (j : Nat) (u : UInt8), [c][j]? = some u → [b2v c][j]? = some (b2v u) := by
  intro j u hu
  rw [show [b2v c] = [c].map b2v from rfl, List.getElem?_map, hu]; rfl
theorem le_alloc {w : World} {B : Nat} (h : B ≤ w.heap.size) (o : Obj) : B ≤ (w.alloc o).heap.size := by simp [go_sem]; omega
theorem new1 (w : World) (c : UInt8) : ∀ (j : Nat) (u : UInt8), [c][j]? = some u → (w.alloc (.cells #[b2v c] 5)).cell? ((⟨w.heap.size, 0, none⟩ : Addr).add j) = some (b2v u) := by
  intro j u hu
  cases j with
  | zero => obtain rfl : c = u := by simpa using hu
            simp [go_sem]
  | succ j => simp at hu
theorem new2 (w : World) (c d : UInt8) : ∀ (j : Nat) (u : UInt8), [c, d][j]? = some u → (w.alloc (.cells #[b2v c, b2v d] 5)).cell? ((⟨w.heap.size, 0, none⟩ : Addr).add j) = some (b2v u) := by
  intro j u hu
  rcases j with _ | _ | j
  · obtain rfl : c = u := by simpa using hu
    simp [go_sem]
  · obtain rfl : d = u := by simpa using hu
    simp [go_sem, Addr.add]
  · simp at hu
theorem OwnB.base_le {w : World} {base : Nat} {v : Value} {l : List UInt8} (h : OwnB w base v l) : ∀ k, v.ownBlock = some k → base ≤ k := fun k hk => (World.ownsRow.lt h k hk).1
/-- An empty row that was just built ([]byte{}). -/
theorem OwnB.empty (w : World) (base : Nat) (hb : base ≤ w.heap.size) : OwnB (w.alloc (.cells #[] 5)) base (.slice (some ⟨w.heap.size, 0, none⟩) 0 0) [] :=
  World.ownsRow_lit w #[] 0 hb (Nat.zero_le _) rfl
end Go.Proofs.Ytfmmhfipibaghaa

/-
  What FnModels' walk keeps: a drawn model with its operation, and what the operation makes of it.
-/
import Derived.Test.YtbhhhakfjmaglaaGreatDrawM5
import Derived.Test.YtbhhhakfjmaglaaGreatModY
import Derived.Test.YtbhhhakfjmaglaaGreatModE
import Derived.Test.YtbhhhakfjmaglaaGreatZb
import Derived.BigFrame
namespace Go.Proofs.YtbhhhakfjmaglaaGreat
open Go.RowKit M
set_option linter.unusedVariables false
structure ModW (w : World) (gm go gx Bm Bx : Nat) (m : Mo) (o : O) (p : Mo × Int × List R) (k r kx rx ox : Value) (u : World) : Prop where
  bm : Blk u gm 27 #[k, r]
  bo : Blk u go 29 #[.int .i64 o.kind, .string o.key, .int .i64 o.what, .int .i64 o.val]
  bx : Blk u gx 27 #[kx, rx]
  mm : MoOwn u Bm m k r
  mx : MoOwn u Bx p.1 kx rx
  rx : OwnR u Bx ox p.2.2
  b : Below w.heap.size w u
theorem ModW.below {w u u' : World} {gm go gx Bm Bx : Nat} {m : Mo} {o : O} {p : Mo × Int × List R} {k r kx rx ox : Value} (h : ModW w gm go gx Bm Bx m o p k r kx rx ox u) (hb : Below u.heap.size u u') : ModW w gm go gx Bm Bx m o p k r kx rx ox u' :=
  ⟨h.bm.below hb, h.bo.below hb, h.bx.below hb, h.mm.below hb, h.mx.below hb, h.rx.below hb, h.b.trans (hb.mono h.b.size)⟩
structure ModV (ge Be : Nat) (q : Mo × Int × List R) (ke re oe : Value) (u : World) : Prop where
  be : Blk u ge 27 #[ke, re]
  me : MoOwn u Be q.1 ke re
  oe : OwnR u Be oe q.2.2
theorem ModV.below {u u' : World} {ge Be : Nat} {q : Mo × Int × List R} {ke re oe : Value} (h : ModV ge Be q ke re oe u) (hb : Below u.heap.size u u') : ModV ge Be q ke re oe u' := ⟨h.be.below hb, h.me.below hb, h.oe.below hb⟩
theorem recs_cells {α : Type} {F n ca : Nat} {c : α → Array Value} {z : α} {w : World} {A : Option Addr} {l : List α} (h : RecsArg F c z w (.slice A n ca) l) (hp : 0 < l.length) : ∃ b off, A = some ⟨b, off, none⟩ ∧ b < w.heap.size ∧ ∀ j, j < l.length → RecAt F c w b (off + j * F) (l.getD j z) := by
  obtain ⟨A', ca', e, _, _, h3⟩ := h
  injection e with e1
  subst e1
  exact h3 hp
theorem sameRV_self (l : List R) : sameRV l l = true := by simp [sameRV]
theorem sameMV_self (m : Mo) : sameMV m m = true := by simp [sameMV, sameRV]
theorem same_mo (w : World) (m : Mo) (vk vr uk ur : Value) (h : MoIn w m vk vr) (k : MoIn w m uk ur) : Calls Tryz.prog 10 #[.agg #[vk, vr], .agg #[uk, ur]] w (Gives (.bool true) w) := by
  have := sSameModel_any w m m vk vr uk ur h k
  rwa [sameMV_self] at this
theorem same_rows (w : World) (v u : Value) (l : List R) (h : RowsArg w v l) (k : RowsArg w u l) : Calls Tryz.prog 11 #[v, u] w (Gives (.bool true) w) := by
  have := sSameReport_any w v u l l h k
  rwa [sameRV_self] at this
theorem mDo_no {m : Mo} {o : O} (h : ¬ (modelOkV m = true ∧ opOkV o = true)) : mDoV m o = (m, 1, []) := by unfold mDoV; rw [if_neg h]
theorem eqr_row (w : World) (r : R) : (binOp .eql 42 r.v r.v).run Tryz.prog w = .ok (.bool true) w := by
  obtain ⟨key, kind, sum, st, last, n', mn, mx, total, dropped⟩ := r
  unfold R.v
  simp only
  rw [run_eql_struct, run_equalIn_struct _ _ _ _ _ (by kernel_rfl) stood_row]
  simp [go_sem]
theorem wpList_load_rowU {P : Program} {ops : Array Oper} {rest : List Oper} {o : Oper} {a : Act} {w : World} {Q : Exit → Act → World → Prop} (ty : TypeId) (x : Operand) (ho : o.op = .load ty x)
    (g : Nat) (hx : a.eval x = .pointer (some ⟨g, 0, none⟩)) (t : TypeId) (cs : Array Value) (fr : Nat × Nat) (d : TypeDesc) (hg : w.heap[g]? = some (.cells cs t fr))
    (hu : P.underlying ty = some d) (hd : (match d with | .struct _ | .array _ _ => true | _ => false) = true) (hi : (P.info? ty).map (·.size) = some cs.size)
    (hw : Region.wanted o (yielded ops a.tmps) = true) (h : wpList P ops Q rest (a.put o.dst (.agg cs)) w) : wpList P ops Q (o :: rest) a w :=
  Go.BigFrame.wpList_want hw fun _ hK => wp_load_row ty x ho g hx t cs fr d hg hu hd hi (hK _ _ h)
end Go.Proofs.YtbhhhakfjmaglaaGreat

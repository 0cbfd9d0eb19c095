/-
  Chapter 13's laws: what their walks keep while a model that was copied is compared with the argument.
-/
import Derived.Test.YtbhhhakfjmaglaaGreatZc
namespace Go.Proofs.YtbhhhakfjmaglaaGreat
open Go.RowKit M
set_option linter.unusedVariables false
/-- Block gw: the law's own argument; block gx: the copy x. F: whatever else is kept. -/
structure LawM (F : World → Prop) (w0 : World) (gw gx : Nat) (m : Mo) (vk vr xk xr : Value) (B : Nat) (w : World) : Prop where
  g : Blk w gw 48 #[vk, vr]
  y : Blk w gx 27 #[xk, xr]
  a : MoIn w m vk vr
  x : MoOwn w B m xk xr
  b : Below w0.heap.size w0 w
  f : F w
theorem LawM.next {F : World → Prop} (hF : ∀ a b : World, Below a.heap.size a b → F a → F b) {w0 w w' : World} {gw gx B : Nat} {m : Mo} {vk vr xk xr : Value} (h : LawM F w0 gw gx m vk vr xk xr B w) (hb : Below w.heap.size w w') : LawM F w0 gw gx m vk vr xk xr B w' :=
  ⟨h.g.below hb, h.y.below hb, h.a.below hb, h.x.below hb, h.b.trans (hb.mono h.b.size), hF _ _ hb h.f⟩
theorem Blk.rangeM {w : World} {g : Nat} {t : TypeId} {cs : Array Value} (h : Blk w g t cs) : w.rangeAt g 0 cs.toList := fun j v hv => by
  rw [Nat.zero_add, h.get j]
  simpa using hv
theorem MoIn.shape {w : World} {m : Mo} {vk vr : Value} (h : MoIn w m vk vr) : (∃ A n c, vk = .slice A n c) ∧ ∃ A n c, vr = .slice A n c := by
  obtain ⟨A, c, e, _⟩ := h.keys
  obtain ⟨A', c', e', _⟩ := h.rows
  exact ⟨⟨_, _, _, e⟩, ⟨_, _, _, e'⟩⟩
theorem MoOwn.shape {w : World} {b : Nat} {m : Mo} {vk vr : Value} (h : MoOwn w b m vk vr) : (∃ A n c, vk = .slice A n c) ∧ ∃ A n c, vr = .slice A n c := h.win.shape
theorem mo_one {w : World} {m : Mo} {vk vr : Value} (h : MoIn w m vk vr) : Array.all #[vk, vr] (·.oneCell') = true := by
  obtain ⟨⟨A, n, c, rfl⟩, ⟨A', n', c', rfl⟩⟩ := h.shape
  simp [Value.oneCell']
theorem below_oneM (w : World) (o : Obj) : Below w.heap.size w (w.alloc o) := (Below.refl _ _).alloc (Nat.le_refl _) o
end Go.Proofs.YtbhhhakfjmaglaaGreat

/-
  The library's strconv.Atoi at every string of at most 2^48 bytes: the number and no error where the string spells an int; an error otherwise, where the library's two error variables hold what they were laid with.
-/
import Derived.Test.YtkcepbncjlbpbaaDoorShelf
import Derived.Test.YtkcepbncjlbpbaaDoorLaid
import Derived.Lib.AtoiErrMem
namespace Go.Proofs.YtkcepbncjlbpbaaDoor
open Go.RowKit
/-- The two error variables hold each some pointer. -/
def ErrsLaid (w : World) : Prop := (∃ tp p, w.var? Tryd.prog "strconv.ErrSyntax" = some #[.iface tp p]) ∧ (∃ tp p, w.var? Tryd.prog "strconv.ErrRange" = some #[.iface tp p])
theorem atoi_ok (s : ByteArray) (hs : s.size ≤ 281474976710656) (v : Int) (h : Lib.atoiAll s.data.toList = .ok v) (w : World) :
    Calls Tryd.prog 23 #[.string s] w fun e w' => e = .returned (.tuple #[.int .i64 v, .nilIface]) ∧ Below w.heap.size w w' := by
  refine (Tryd.strconv_Atoi_ok s (by omega) v h w).mono fun e w' ⟨he, hw⟩ => ⟨he, ?_⟩
  rcases hw with rfl | ⟨t, rfl⟩
  · exact Below.refl _ _
  · exact Lib.bytesWorld_below _ _ _
def AtoiNo (w : World) (e : Ending) (w' : World) : Prop := ∃ (n : Int) (N : Nat), e = .returned (.tuple #[.int .i64 n, .iface 60 (.pointer (some ⟨N, 0, none⟩))]) ∧ Below w.heap.size w w'
theorem atoi_no (s : ByteArray) (hs : s.size ≤ 281474976710656) (h : ∀ v, Lib.atoiAll s.data.toList ≠ .ok v) (w : World) (he : ErrsLaid w) :
    Calls Tryd.prog 23 #[.string s] w (AtoiNo w) := by
  obtain ⟨⟨t0, p0, h0⟩, ⟨t1, p1, h1⟩⟩ := he
  rcases hA : Lib.atoiAll s.data.toList with v | _ | _
  · exact absurd hA (h v)
  · refine (Any.strconv_Atoi_syntax_var Tryd.laysC172 s hs hA t0 p0 w h0).mono fun e w' h => ?_
    obtain ⟨N, he, _, _, hb⟩ := h
    exact ⟨0, N, he, hb⟩
  · refine (Any.strconv_Atoi_range_var Tryd.laysC172 s hs hA t1 p1 w h1).mono fun e w' h => ?_
    obtain ⟨N, he, _, _, hb⟩ := h
    exact ⟨_, N, he, hb⟩
end Go.Proofs.YtkcepbncjlbpbaaDoor

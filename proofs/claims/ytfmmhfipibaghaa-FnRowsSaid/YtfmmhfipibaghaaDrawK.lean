/-
  Drawing keys, told in less: some text of at most four (five) bytes, some number.
-/
import Derived.Test.YtfmmhfipibaghaaDrawW
import Derived.Test.YtfmmhfipibaghaaKeyS
namespace Go.Proofs.Ytfmmhfipibaghaa
open Go.RowKit M
set_option linter.unusedVariables false
theorem all_size {ls : List ByteArray} {n : Nat} (h : (ls.all fun x => decide (x.size ≤ n)) = true) {x : ByteArray} (hx : x ∈ ls) : x.size ≤ n := by
  have := List.all_eq_true.1 h x hx
  simpa using this
theorem l4Key_some (w : World) (g : Nat) (K : Code) (s : St) (c : Cur w g K s) : Calls Try.prog 53 #[.pointer (some ⟨g, 0, none⟩)] w (SomeT w g K fun x => x.size ≤ 4) := by
  have HC := Lib.hid c
  clear c
  go_enter Try.func53, Try.ntmps53
  go_wp2_with fail
  refine (pickT_some w g K s HC.out [⟨#[97]⟩, ⟨#[98]⟩, ⟨#[99, 112, 117]⟩, ⟨#[114, 101, 113]⟩, ⟨#[120, 95, 49]⟩, ⟨#[90, 57]⟩, ⟨#[109, 101, 109]⟩, ⟨#[113]⟩] 8 rfl (by decide) (by decide) _ rfl).mono ?_
  rintro e w1 ⟨x, s1, hx, rfl, hc1, hg1⟩
  have X := Lib.hid (all_size (n := 4) (by decide) hx)
  have C1 := Lib.hid hc1
  have G1 := Lib.hid hg1
  clear hx hc1 hg1
  go_wp2_with fail
  go_ret
  exact ⟨x, s1, X.out, rfl, C1.out, G1.out⟩
theorem l4Any_some (w : World) (g : Nat) (K : Code) (s : St) (c : Cur w g K s) : Calls Try.prog 48 #[.pointer (some ⟨g, 0, none⟩)] w (SomeT w g K fun x => x.size ≤ 5) := by
  have HC := Lib.hid c
  clear c
  go_enter Try.func48, Try.ntmps48
  go_wp2_with fail
  refine (once_some w g K _ s HC.out (by decide)).mono ?_
  rintro e w1 ⟨b, s1, rfl, hc1, hg1⟩
  have C1 := Lib.hid hc1
  have G1 := Lib.hid hg1
  clear hc1 hg1
  cases b with
  | true =>
    go_wp2_with fail
    refine (pickT_some w1 g K s1 C1.out [⟨#[]⟩, ⟨#[97, 98, 99, 100, 101]⟩, ⟨#[97, 32, 98]⟩, ⟨#[97, 58]⟩, ⟨#[0]⟩, ⟨#[97, 98, 99, 100]⟩, ⟨#[255]⟩] 7 rfl (by decide) (by decide) _ rfl).mono ?_
    rintro e w2 ⟨x, s2, hx, rfl, hc2, hg2⟩
    have X := Lib.hid (all_size (n := 5) (by decide) hx)
    have C2 := Lib.hid hc2
    have G2 := Lib.hid (grown_trans G1.out hg2)
    clear hx hc2 hg2
    go_wp2_with fail
    go_ret
    exact ⟨x, s2, X.out, rfl, C2.out, G2.out⟩
  | false =>
    go_wp2_with fail
    refine (l4Key_some w1 g K s1 C1.out).mono ?_
    rintro e w2 ⟨x, s2, hx, rfl, hc2, hg2⟩
    have C2 := Lib.hid hc2
    have G2 := Lib.hid (grown_trans G1.out hg2)
    have X := Lib.hid hx
    clear hx hc2 hg2
    go_wp2_with fail
    go_ret
    exact ⟨x, s2, Nat.le_trans X.out (by decide), rfl, C2.out, G2.out⟩
end Go.Proofs.Ytfmmhfipibaghaa

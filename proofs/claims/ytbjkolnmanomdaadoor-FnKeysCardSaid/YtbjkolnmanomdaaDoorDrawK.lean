/-
  Drawing keys, told in less: some text of at most four (five) bytes, some number.
-/
import Derived.Test.YtbjkolnmanomdaaDoorDrawW
import Derived.Test.YtbjkolnmanomdaaDoorKeyS
namespace Go.Proofs.YtbjkolnmanomdaaDoor
open Go.RowKit M
set_option linter.unusedVariables false
theorem all_size {ls : List ByteArray} {n : Nat} (h : (ls.all fun x => decide (x.size ≤ n)) = true) {x : ByteArray} (hx : x ∈ ls) : x.size ≤ n := by
  have := List.all_eq_true.1 h x hx
  simpa using this
theorem l4Key_some (w : World) (g : Nat) (K : Code) (s : St) (c : Cur w g K s) : Calls Tryd.prog 25 #[.pointer (some ⟨g, 0, none⟩)] w (SomeT w g K fun x => x.size ≤ 4) := by
  have HC := Lib.hid c
  clear c
  go_enter Tryd.func25, Tryd.ntmps25
  go_wp2_with fail
  refine (pickT_some w g K s HC.out [⟨#[97]⟩, ⟨#[98]⟩, ⟨#[99, 112, 117]⟩, ⟨#[114, 101, 113]⟩, ⟨#[120, 95, 49]⟩, ⟨#[90, 57]⟩, ⟨#[109, 101, 109]⟩, ⟨#[113]⟩] 8 rfl (by decide) (by decide) _ rfl).mono ?_
  rintro e w1 ⟨x, s1, hx, rfl, hc1, hg1⟩
  have X := Lib.hid (all_size (n := 4) (by decide) hx)
  have C1 := Lib.hid hc1
  have G1 := Lib.hid hg1
  clear hx hc1 hg1
  go_wp2_with fail
  go_ret
  exact ⟨x, s1, X.out, rfl, C1.out, G1.out⟩
theorem l4Any_some (w : World) (g : Nat) (K : Code) (s : St) (c : Cur w g K s) : Calls Tryd.prog 16 #[.pointer (some ⟨g, 0, none⟩)] w (SomeT w g K fun x => x.size ≤ 5) := by
  have HC := Lib.hid c
  clear c
  go_enter Tryd.func16, Tryd.ntmps16
  go_wp2_with fail
  refine (once_some w g K _ s HC.out (by decide)).mono ?_
  rintro e w1 ⟨b, s1, rfl, hc1, hg1⟩
  have C1 := Lib.hid hc1
  have G1 := Lib.hid hg1
  clear hc1 hg1
  cases b with
  | true =>
    go_wp2_with fail
    refine (pickT_some w1 g K s1 C1.out [⟨#[]⟩, ⟨#[97, 98, 99, 100, 101]⟩, ⟨#[97, 32, 98]⟩, ⟨#[97, 58]⟩, ⟨#[0]⟩, ⟨#[97, 98, 99, 100]⟩, ⟨#[255]⟩] 7 rfl (by decide) (by decide) _ rfl).mono ?_
    rintro e w2 ⟨x, s2, hx, rfl, hc2, hg2⟩
    have X := Lib.hid (all_size (n := 5) (by decide) hx)
    have C2 := Lib.hid hc2
    have G2 := Lib.hid (grown_trans G1.out hg2)
    clear hx hc2 hg2
    go_wp2_with fail
    go_ret
    exact ⟨x, s2, X.out, rfl, C2.out, G2.out⟩
  | false =>
    go_wp2_with fail
    refine (l4Key_some w1 g K s1 C1.out).mono ?_
    rintro e w2 ⟨x, s2, hx, rfl, hc2, hg2⟩
    have C2 := Lib.hid hc2
    have G2 := Lib.hid (grown_trans G1.out hg2)
    have X := Lib.hid hx
    clear hx hc2 hg2
    go_wp2_with fail
    go_ret
    exact ⟨x, s2, Nat.le_trans X.out (by decide), rfl, C2.out, G2.out⟩
/-- Some text of at most five bytes; nothing that was there is turned. -/
def GivesT (w : World) (n : Nat) (e : Ending) (w' : World) : Prop := ∃ x : ByteArray, x.size ≤ n ∧ e = .returned (.string x) ∧ Below w.heap.size w w'
theorem drawPackKey_some (w : World) (K : Code) (hk : CodeIn w K) (hl : K.len ≤ 1048576) : Calls Tryd.prog 6 #[.slice K.A K.len K.cap] w (GivesT w 5) := by
  have HN := Lib.hid (new_any w K hk hl)
  clear hk hl
  go_enter Tryd.func6, Tryd.ntmps6
  go_wp2_with fail
  refine HN.out.mono ?_
  rintro e w1 ⟨g, rfl, hg, hc, hb⟩
  have H1 := Lib.hid (l4Any_some w1 g K _ hc)
  have HB := Lib.hid (fun w2 h2 => behind (w2 := w2) hg hb h2)
  clear hc hb hg
  go_wp2_with fail
  refine H1.out.mono ?_
  rintro e w2 ⟨x, s2, hx, rfl, hc2, hg2⟩
  have X := Lib.hid hx
  have G2 := Lib.hid (HB.out w2 hg2)
  clear hx hc2 hg2
  go_wp2_with fail
  go_ret
  exact ⟨x, X.out, rfl, G2.out⟩
/-- Some number within these bounds; nothing that was there is turned. -/
def GivesI (w : World) (lo hi : Int) (e : Ending) (w' : World) : Prop := ∃ x : Int, (lo ≤ x ∧ x ≤ hi) ∧ e = .returned (.int .i64 x) ∧ Below w.heap.size w w'
theorem drawUnpackKey_some (w : World) (K : Code) (hk : CodeIn w K) (hl : K.len ≤ 1048576) : Calls Tryd.prog 10 #[.slice K.A K.len K.cap] w (GivesI w (-1) 1099511627775) := by
  have HN := Lib.hid (new_any w K hk hl)
  clear hk hl
  go_enter Tryd.func10, Tryd.ntmps10
  go_wp2_with fail
  refine HN.out.mono ?_
  rintro e w1 ⟨g, rfl, hg, hc, hb⟩
  have H1 := Lib.hid (l4Key_some w1 g K _ hc)
  have HB := Lib.hid (fun w2 h2 => behind (w2 := w2) hg hb h2)
  clear hc hb hg
  go_wp2_with fail
  refine H1.out.mono ?_
  rintro e w2 ⟨x, s2, hx, rfl, hc2, hg2⟩
  have hp := packV_lt x
  have HP := Lib.hid (sPack_any w2 x (by unfold maxLen; omega))
  have C2 := Lib.hid hc2
  have G2 := Lib.hid hg2
  generalize packV x = p at *
  clear hx hc2 hg2
  go_wp2_with fail
  refine HP.out.mono ?_
  rintro e w' ⟨rfl, rfl⟩
  go_wp2_with fail
  refine (once_some w2 g K _ s2 C2.out (by decide)).mono ?_
  rintro e w3 ⟨b, s3, rfl, hc3, hg3⟩
  have C3 := Lib.hid hc3
  have G3 := Lib.hid (grown_trans G2.out hg3)
  clear hc3 hg3
  cases b with
  | true =>
    go_wp2_with fail
    refine (pick_some w3 g K s3 C3.out [0, -1, (p : Int) + 1, (p : Int) * 256, 4294967295, 4294967296, 65] 7 rfl (by decide) (by decide) _ rfl).mono ?_
    rintro e w4 ⟨z, s4, hz, rfl, hc4, hg4⟩
    have Z : -1 ≤ z ∧ z ≤ 1099511627775 := by simp at hz; omega
    have G4 := Lib.hid (HB.out w4 (grown_trans G3.out hg4))
    clear hz hc4 hg4
    go_wp2_with fail
    go_ret
    exact ⟨z, Z, rfl, G4.out⟩
  | false =>
    have G4 := Lib.hid (HB.out w3 G3.out)
    go_wp2_with fail
    go_ret
    exact ⟨p, by omega, rfl, G4.out⟩
end Go.Proofs.YtbjkolnmanomdaaDoor

/-
  Chapter 10's draw of an operation, told in less.
-/
import Derived.Test.YtbhhhakfjmaglaaGreatDrawM0
namespace Go.Proofs.YtbhhhakfjmaglaaGreat
open Go.RowKit M
set_option linter.unusedVariables false
set_option linter.unusedSimpArgs false
set_option maxRecDepth 100000 in
set_option maxHeartbeats 2000000 in
theorem l10Op_some (w : World) (g : Nat) (K : Code) (s : St) (c : Cur w g K s) (hK : CodeB K w.heap.size) : Calls Tryz.prog 31 #[.pointer (some ⟨g, 0, none⟩)] w (SomeO w g K) := by
  have D0 := DW.start c hK
  have huo := Tryz.underlying29
  have hlt := c.lt
  clear c hK
  go_enter Tryz.func31, Tryz.ntmps31
  go_upto_region 1 with fail
  refine wp_gen (fun W => Blk W w.heap.size 29 #[.int .i64 0, .string ⟨#[]⟩, .int .i64 0, .int .i64 0] ∧ DW w g K W) ⟨Blk.new w _ _ _ rfl, D0.below ((Below.refl _ _).alloc (Nat.le_refl _) _)⟩ ?_
  rintro W ⟨g0, d⟩
  obtain ⟨s0, c0⟩ := d.cur
  have G0 := Lib.hid g0; have D := Lib.hid d; have C0 := Lib.hid c0
  clear g0 d c0 D0
  go_wp2_with fail
  refine (pickT_some W g K s0 C0.out [⟨#[97]⟩, ⟨#[98]⟩, ⟨#[99, 112, 117]⟩, ⟨#[97]⟩, ⟨#[98]⟩, ⟨#[114, 101, 113]⟩, ⟨#[113]⟩, ⟨#[109, 101, 109]⟩] 8 rfl (by decide) (by decide) _ rfl).mono ?_
  rintro e W1 ⟨x, s1, hx, rfl, c1, hg⟩
  have X := Lib.hid (show x.size ≤ maxLen from Nat.le_trans (all_size (n := 4) (by decide) hx) (by unfold maxLen; decide))
  replace G0 := Lib.hid (G0.out.turnG hg (by omega)); replace D := Lib.hid (D.out.call c1 hg)
  have C1 := Lib.hid c1
  clear hx c1 hg C0
  go_wp2_with fail
  refine (once_some W1 g K _ s1 C1.out (by decide)).mono ?_
  rintro e W2 ⟨b, s2, rfl, c2, hg⟩
  replace G0 := Lib.hid (G0.out.turnG hg (by omega)); replace D := Lib.hid (D.out.call c2 hg)
  have C2 := Lib.hid c2
  clear c2 hg C1
  cases b with
  | true =>
    go_wp2_with fail
    refine (pick_some W2 g K s2 C2.out [1, 2, 3] 3 rfl (by decide) (by decide) _ rfl).mono ?_
    rintro e W3 ⟨y, s3, hy, rfl, c3, hg⟩
    have Y : inW y := by simp at hy; unfold inW; omega
    replace G0 := Lib.hid (G0.out.turnG hg (by omega)); replace D := Lib.hid (D.out.call c3 hg)
    clear hy c3 hg C2
    go_wp2_with ((with_reducible show wpList _ _ _ _ _ _); refine wpList_store_row rfl 29 _ _ rfl (w.heap.size) #[.int .i64 1, .string x, .int .i64 y, .int .i64 0] rfl rfl 29 _ G0.out (by kernel_rfl) rfl (by simp [Value.oneCell']) ?_)
    refine post_gen (fun X => Blk X w.heap.size 29 #[.int .i64 1, .string x, .int .i64 y, .int .i64 0] ∧ DW w g K X) ⟨setRow_heap _ _ _ _ _ _ G0.out, D.out.turn (setRow_grown _ w.heap.size _) (fun k e => by have e := Option.some.inj e; omega)⟩ ?_
    rintro Z ⟨h1, hd⟩
    obtain ⟨s9, c9⟩ := hd.cur
    exact bodyPost_ret (v := .agg #[.int .i64 1, .string x, .int .i64 y, .int .i64 0]) (results_cell_row rfl _ _ _ _ _ (0, 0) _ rfl h1 huo rfl (by kernel_rfl)) rfl ⟨⟨1, x, y, 0⟩, s9, ⟨show inW 1 from by unfold inW; omega, X.out, Y, show inW 0 from by unfold inW; omega⟩, rfl, c9, hd.grown⟩
  | false =>
    go_wp2_with fail
    refine (l5Val_some W2 g K s2 C2.out).mono ?_
    rintro e W3 ⟨y, s3, hy, rfl, c3, hg⟩
    have Y : inW y := by unfold inW; omega
    replace G0 := Lib.hid (G0.out.turnG hg (by omega)); replace D := Lib.hid (D.out.call c3 hg)
    clear hy c3 hg C2
    go_wp2_with ((with_reducible show wpList _ _ _ _ _ _); refine wpList_store_row rfl 29 _ _ rfl (w.heap.size) #[.int .i64 2, .string x, .int .i64 0, .int .i64 y] rfl rfl 29 _ G0.out (by kernel_rfl) rfl (by simp [Value.oneCell']) ?_)
    refine post_gen (fun X => Blk X w.heap.size 29 #[.int .i64 2, .string x, .int .i64 0, .int .i64 y] ∧ DW w g K X) ⟨setRow_heap _ _ _ _ _ _ G0.out, D.out.turn (setRow_grown _ w.heap.size _) (fun k e => by have e := Option.some.inj e; omega)⟩ ?_
    rintro Z ⟨h1, hd⟩
    obtain ⟨s9, c9⟩ := hd.cur
    exact bodyPost_ret (v := .agg #[.int .i64 2, .string x, .int .i64 0, .int .i64 y]) (results_cell_row rfl _ _ _ _ _ (0, 0) _ rfl h1 huo rfl (by kernel_rfl)) rfl ⟨⟨2, x, 0, y⟩, s9, ⟨show inW 2 from by unfold inW; omega, X.out, show inW 0 from by unfold inW; omega, Y⟩, rfl, c9, hd.grown⟩
end Go.Proofs.YtbhhhakfjmaglaaGreat

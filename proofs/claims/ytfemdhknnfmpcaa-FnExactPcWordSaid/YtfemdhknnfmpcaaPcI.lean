/-
  Chapter 10, the program's PcWord: the word of each point of the code. It turns nothing that was there.
-/
import Derived.Test.YtfemdhknnfmpcaaPcS
import Derived.Test.YtfemdhknnfmpcaaZa
import Derived.Test.YtfemdhknnfmpcaaJobS
namespace Go.Proofs.Ytfemdhknnfmpcaa
open Go.RowKit M
set_option linter.unusedVariables false
set_option linter.unusedSimpArgs false
theorem pcArr_at {n : Int} (h : 0 ≤ n ∧ n ≤ 15) : (#[.string ⟨#[112, 114, 111, 98, 101]⟩, .string ⟨#[99, 108, 97, 105, 109]⟩, .string ⟨#[101, 112, 111, 99, 104]⟩, .string ⟨#[101, 110, 116, 101, 114]⟩, .string ⟨#[114, 101, 99, 104, 101, 99, 107]⟩, .string ⟨#[100, 97, 116, 97]⟩, .string ⟨#[108, 111, 111, 107]⟩, .string ⟨#[99, 97, 115]⟩, .string ⟨#[115, 116, 111, 114, 101]⟩, .string ⟨#[101, 120, 105, 116]⟩, .string ⟨#[108, 101, 97, 118, 101]⟩, .string ⟨#[116, 101, 108, 108]⟩, .string ⟨#[115, 119, 97, 112]⟩, .string ⟨#[119, 97, 105, 116]⟩, .string ⟨#[107, 101, 121, 115]⟩, .string ⟨#[100, 114, 97, 105, 110]⟩] : Array Value)[n.toNat]? = some (.string (pcW n)) := by
  have hk : n = 0 ∨ n = 1 ∨ n = 2 ∨ n = 3 ∨ n = 4 ∨ n = 5 ∨ n = 6 ∨ n = 7 ∨ n = 8 ∨ n = 9 ∨ n = 10 ∨ n = 11 ∨ n = 12 ∨ n = 13 ∨ n = 14 ∨ n = 15 := by omega
  rcases hk with rfl | rfl | rfl | rfl | rfl | rfl | rfl | rfl | rfl | rfl | rfl | rfl | rfl | rfl | rfl | rfl <;> rfl
set_option maxRecDepth 100000 in
set_option maxHeartbeats 4000000 in
theorem iPcWord_any (w : World) (n : Int) (h0 : -9223372036854775808 ≤ n) (h1 : n ≤ 9223372036854775807) : Calls Try.prog 38 #[.int .i64 n] w (Gives (.string (pcW n)) w) := by
  by_cases h : 0 ≤ n ∧ n ≤ 15
  · have HAT := Lib.hid (pcArr_at h)
    have HI := fun W => Lib.hid (isIdx_yes n 16 W h.1 (by omega))
    generalize pcW n = s at *
    go_enter Try.func38, Try.ntmps38
    go_upto_region 2 with ((with_reducible show wpList _ _ _ _ _ _); refine wpList_store_row rfl 95 _ _ rfl w.heap.size #[.string ⟨#[112, 114, 111, 98, 101]⟩, .string ⟨#[99, 108, 97, 105, 109]⟩, .string ⟨#[101, 112, 111, 99, 104]⟩, .string ⟨#[101, 110, 116, 101, 114]⟩, .string ⟨#[114, 101, 99, 104, 101, 99, 107]⟩, .string ⟨#[100, 97, 116, 97]⟩, .string ⟨#[108, 111, 111, 107]⟩, .string ⟨#[99, 97, 115]⟩, .string ⟨#[115, 116, 111, 114, 101]⟩, .string ⟨#[101, 120, 105, 116]⟩, .string ⟨#[108, 101, 97, 118, 101]⟩, .string ⟨#[116, 101, 108, 108]⟩, .string ⟨#[115, 119, 97, 112]⟩, .string ⟨#[119, 97, 105, 116]⟩, .string ⟨#[107, 101, 121, 115]⟩, .string ⟨#[100, 114, 97, 105, 110]⟩] rfl rfl 95 _ (Blk.new w w.heap.size 95 #[.string ⟨#[]⟩, .string ⟨#[]⟩, .string ⟨#[]⟩, .string ⟨#[]⟩, .string ⟨#[]⟩, .string ⟨#[]⟩, .string ⟨#[]⟩, .string ⟨#[]⟩, .string ⟨#[]⟩, .string ⟨#[]⟩, .string ⟨#[]⟩, .string ⟨#[]⟩, .string ⟨#[]⟩, .string ⟨#[]⟩, .string ⟨#[]⟩, .string ⟨#[]⟩] rfl) (by kernel_rfl) rfl (by simp [Value.oneCell']) ?_)
    refine wp_gen (fun X => Blk X w.heap.size 95 #[.string ⟨#[112, 114, 111, 98, 101]⟩, .string ⟨#[99, 108, 97, 105, 109]⟩, .string ⟨#[101, 112, 111, 99, 104]⟩, .string ⟨#[101, 110, 116, 101, 114]⟩, .string ⟨#[114, 101, 99, 104, 101, 99, 107]⟩, .string ⟨#[100, 97, 116, 97]⟩, .string ⟨#[108, 111, 111, 107]⟩, .string ⟨#[99, 97, 115]⟩, .string ⟨#[115, 116, 111, 114, 101]⟩, .string ⟨#[101, 120, 105, 116]⟩, .string ⟨#[108, 101, 97, 118, 101]⟩, .string ⟨#[116, 101, 108, 108]⟩, .string ⟨#[115, 119, 97, 112]⟩, .string ⟨#[119, 97, 105, 116]⟩, .string ⟨#[107, 101, 121, 115]⟩, .string ⟨#[100, 114, 97, 105, 110]⟩] ∧ Below w.heap.size w X) ⟨setRow_heap _ _ _ _ _ _ (Blk.new w w.heap.size 95 #[.string ⟨#[]⟩, .string ⟨#[]⟩, .string ⟨#[]⟩, .string ⟨#[]⟩, .string ⟨#[]⟩, .string ⟨#[]⟩, .string ⟨#[]⟩, .string ⟨#[]⟩, .string ⟨#[]⟩, .string ⟨#[]⟩, .string ⟨#[]⟩, .string ⟨#[]⟩, .string ⟨#[]⟩, .string ⟨#[]⟩, .string ⟨#[]⟩, .string ⟨#[]⟩] rfl), below_setRow' (below_one w _) (Nat.le_refl _) _⟩ ?_
    rintro X ⟨hx, hbx⟩
    have c1 : X.cell? ⟨w.heap.size, n.toNat, none⟩ = some (.string s) := (hx.get n.toNat).trans HAT.out
    have HB := Lib.hid hbx
    obtain ⟨i0, i1⟩ := h
    have i2 : n < 16 := by omega
    clear hx hbx HAT
    go_wp2_with (go_at_call 79; refine (HI _).out.mono ?_; rintro e w' ⟨rfl, rfl⟩)
    go_ret
    exact ⟨rfl, HB.out⟩
  · rw [pcW_no h]
    have HI := fun W => Lib.hid (isIdx_no n 16 W (by omega))
    go_enter Try.func38, Try.ntmps38
    go_upto_region 2 with ((with_reducible show wpList _ _ _ _ _ _); refine wpList_store_row rfl 95 _ _ rfl w.heap.size #[.string ⟨#[112, 114, 111, 98, 101]⟩, .string ⟨#[99, 108, 97, 105, 109]⟩, .string ⟨#[101, 112, 111, 99, 104]⟩, .string ⟨#[101, 110, 116, 101, 114]⟩, .string ⟨#[114, 101, 99, 104, 101, 99, 107]⟩, .string ⟨#[100, 97, 116, 97]⟩, .string ⟨#[108, 111, 111, 107]⟩, .string ⟨#[99, 97, 115]⟩, .string ⟨#[115, 116, 111, 114, 101]⟩, .string ⟨#[101, 120, 105, 116]⟩, .string ⟨#[108, 101, 97, 118, 101]⟩, .string ⟨#[116, 101, 108, 108]⟩, .string ⟨#[115, 119, 97, 112]⟩, .string ⟨#[119, 97, 105, 116]⟩, .string ⟨#[107, 101, 121, 115]⟩, .string ⟨#[100, 114, 97, 105, 110]⟩] rfl rfl 95 _ (Blk.new w w.heap.size 95 #[.string ⟨#[]⟩, .string ⟨#[]⟩, .string ⟨#[]⟩, .string ⟨#[]⟩, .string ⟨#[]⟩, .string ⟨#[]⟩, .string ⟨#[]⟩, .string ⟨#[]⟩, .string ⟨#[]⟩, .string ⟨#[]⟩, .string ⟨#[]⟩, .string ⟨#[]⟩, .string ⟨#[]⟩, .string ⟨#[]⟩, .string ⟨#[]⟩, .string ⟨#[]⟩] rfl) (by kernel_rfl) rfl (by simp [Value.oneCell']) ?_)
    refine wp_gen (fun X => Below w.heap.size w X) (below_setRow' (below_one w _) (Nat.le_refl _) _) ?_
    rintro X hbx
    have HB := Lib.hid hbx
    clear hbx
    go_wp2_with (go_at_call 79; refine (HI _).out.mono ?_; rintro e w' ⟨rfl, rfl⟩)
    go_ret
    exact ⟨rfl, HB.out⟩
end Go.Proofs.Ytfemdhknnfmpcaa

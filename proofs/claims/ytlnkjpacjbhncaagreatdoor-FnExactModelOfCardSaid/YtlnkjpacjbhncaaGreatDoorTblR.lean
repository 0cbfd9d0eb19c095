/-
  Chapter 6, the model's Register and KeysIn: each answers what the plain words say, in a new row; they turn nothing that was there.
-/
import Derived.Test.YtlnkjpacjbhncaaGreatDoorZb
import Derived.Test.YtlnkjpacjbhncaaGreatDoorZa
namespace Go.Proofs.YtlnkjpacjbhncaaGreatDoor
open Go.RowKit M
set_option linter.unusedVariables false
/-- A call hands back a new row that reads zs, and two numbers beside it; it turns nothing that was there. -/
def Tup3I (w : World) (zs : List Int) (a b : Int) (e : Ending) (w' : World) : Prop := ∃ v, e = .returned (.tuple #[v, .int .i64 a, .int .i64 b]) ∧ OwnI w' w.heap.size v zs ∧ Below w.heap.size w w'
theorem tup3 {w w' : World} {zs ys : List Int} {a b c d : Int} {v : Value} (ho : OwnI w' w.heap.size v zs) (hb : Below w.heap.size w w') (h1 : ys = zs) (h2 : c = a) (h3 : d = b) : Tup3I w ys c d (.returned (.tuple #[v, .int .i64 a, .int .i64 b])) w' := by
  subst h1; subst h2; subst h3; exact ⟨v, rfl, ho, hb⟩
theorem tagV_ne {s : ByteArray} {k : Int} (h : keyOkV s = true) (hk : 1 ≤ k ∧ k ≤ 3) : 1 ≤ tagV s k := by
  rw [tagV_yes h hk]; have := (unV_pack h).2; omega
theorem reg_args {zs : List Int} {key : ByteArray} {k : Int} (h : regOk zs key k = false) : regC zs key k = zs ∧ regS zs key k = -1 ∧ regD zs key k = 1 := by
  unfold regC regS regD; rw [h]; simp
theorem reg_slot {zs : List Int} {key : ByteArray} {k : Int} (h : regOk zs key k = true) (hs : 0 ≤ (findV zs key).1) : regC zs key k = zs ∧ regS zs key k = (findV zs key).1 ∧ regD zs key k = if (findV zs key).2.1 = k then 0 else 4 := by
  refine ⟨if_neg (fun x => by have := x.2.1; omega), ?_, ?_⟩
  · unfold regS; rw [if_pos h, if_pos hs]
  · unfold regD; rw [if_pos h, if_pos hs]
theorem reg_full {zs : List Int} {key : ByteArray} {k : Int} (h : regOk zs key k = true) (hs : (findV zs key).1 < 0) (hf : (findV zs key).2.2 < 0) : regC zs key k = zs ∧ regS zs key k = (findV zs key).2.2 ∧ regD zs key k = 3 := by
  refine ⟨if_neg (fun x => by have := x.2.2; omega), ?_, ?_⟩
  · unfold regS; rw [if_pos h, if_neg (by omega)]
  · unfold regD; rw [if_pos h, if_neg (by omega), if_pos hf]
theorem reg_new {zs : List Int} {key : ByteArray} {k : Int} (h : regOk zs key k = true) (hs : (findV zs key).1 < 0) (hf : 0 ≤ (findV zs key).2.2) : regC zs key k = zs.set (3 + (findV zs key).2.2).toNat (tagV key k) ∧ regS zs key k = (findV zs key).2.2 ∧ regD zs key k = 0 := by
  refine ⟨if_pos ⟨h, hs, hf⟩, ?_, ?_⟩
  · unfold regS; rw [if_pos h, if_neg (by omega)]
  · unfold regD; rw [if_pos h, if_neg (by omega), if_neg (by omega)]
end Go.Proofs.YtlnkjpacjbhncaaGreatDoor

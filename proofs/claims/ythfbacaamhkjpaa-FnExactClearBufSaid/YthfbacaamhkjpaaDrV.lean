/-
  Chapters 8 and 9 in plain words: the row of a slot's cells, the report of a buffer, a buffer cleared; recording and flushing at once.
-/
import Derived.Test.YthfbacaamhkjpaaRowV
import Derived.Test.YthfbacaamhkjpaaKdV
import Derived.Test.YthfbacaamhkjpaaLay
import Derived.Test.YthfbacaamhkjpaaTblV
import Derived.Test.YthfbacaamhkjpaaCells
import Derived.Laws.Cover1
namespace Go.Proofs.Ythfbacaamhkjpaa
open Go.RowKit M
set_option linter.unusedVariables false
/-- A number modulo the word. -/
def modW (x : Int) : Int := x % 281474976710656
/-- The first k samples of a slot's cells, as many as the ticket tells, put into r. -/
def ringV (r : R) (raw : List Int) : Nat → R
  | 0 => r
  | k + 1 => if (k : Int) < raw.getD 4 0 then sampledV (ringV r raw k) (raw.getD (5 + k) 0 - 1) else ringV r raw k
/-- The sum of a slot's first k stripes. -/
def sumT (raw : List Int) : Nat → Int
  | 0 => 0
  | k + 1 => modW (sumT raw k + modW (raw.getD k 0))
def countRow (key : ByteArray) (raw : List Int) : R := { zeroR with key := key, kind := 1, sum := sumT raw 2 }
def gaugeRow (key : ByteArray) (raw : List Int) : R := { zeroR with key := key, kind := 2, set := decide (0 < ungA (raw.getD 3 0)), last := ungV (raw.getD 3 0) }
def dropRow (r : R) (t : Int) : R := if r.n = 3 ∧ 3 < t then { r with dropped := if t - 3 < 65535 then t - 3 else 65535 } else r
def timerRow (key : ByteArray) (raw : List Int) : R := dropRow (ringV { zeroR with key := key, kind := 3 } raw 3) (raw.getD 4 0)
def kindRow (key : ByteArray) (kind : Int) (raw : List Int) : R := if kind = 1 then countRow key raw else if kind = 2 then gaugeRow key raw else timerRow key raw
/-- The row of a slot whose key cell holds tag and whose eight cells are raw. -/
def rowFromV (tag : Int) (raw : List Int) : R :=
  match untagV tag with
  | some (key, kind) => if raw.length = 8 then kindRow key kind raw else zeroR
  | none => zeroR
/-- The eight cells of a slot of a buffer. -/
def slotRaw (a : List Int) (b s : Int) : List Int := (a.drop (7 + b * 32 + s * 8).toNat).take 8
def bufOk (b : Int) : Bool := decide (0 ≤ b ∧ b ≤ 1)
def slotOk (s : Int) : Bool := decide (0 ≤ s ∧ s ≤ 3)
def rowInV (a : List Int) (b s : Int) : R := if okC a = true ∧ bufOk b = true ∧ slotOk s = true then rowFromV (cellK a s) (slotRaw a b s) else zeroR
/-- x comes ahead of y, byte by byte. -/
def strLt (x y : ByteArray) : Bool := Go.Op.bytesLess x.toList y.toList
/-- The row put into its place by its key, ahead of the first one with a greater key. -/
def insV (r : R) : List R → List R
  | [] => [r]
  | x :: l => if strLt r.key x.key = true then r :: x :: l else x :: insV r l
def putV (l : List R) (r : R) : List R := if l.any (fun x => decide (x.key = r.key)) = true then l else insV r l
/-- A row is left out of a report where it has no kind or tells of nothing. -/
def addV (l : List R) (r : R) : List R := if r.kind ≠ 0 ∧ quietV r = false then putV l r else l
def reportT (a : List Int) (b : Int) (n : Nat) : List R := (List.range n).foldl (fun l (s : Nat) => addV l (rowInV a b s)) []
def reportInV (a : List Int) (b : Int) : List R := if okC a = true ∧ bufOk b = true then reportT a b 4 else []
def clearT (a : List Int) (b : Int) (n : Nat) : List Int := (List.range n).foldl (fun l (i : Nat) => l.set (7 + b * 32 + i).toNat 0) a
def clearV (a : List Int) (b : Int) : List Int := if okC a = true ∧ bufOk b = true then clearT a b 32 else a
def bufClearV (a : List Int) (b : Int) : Bool := (okC a && bufOk b) && (List.range 32).all fun (i : Nat) => decide (a.getD (7 + b * 32 + i).toNat 0 = 0)
/-- A value put into a slot of a buffer by writer w; is a sample dropped? -/
def putCount (a : List Int) (b s w v : Int) : List Int := a.set (7 + b * 32 + s * 8 + w % 2).toNat (modW (a.getD (7 + b * 32 + s * 8 + w % 2).toNat 0 + v))
def putGauge (a : List Int) (b s v : Int) : List Int :=
  let a1 := a.set (7 + b * 32 + s * 8 + 2).toNat (modW (a.getD (7 + b * 32 + s * 8 + 2).toNat 0 + 1))
  if ungA (a1.getD (7 + b * 32 + s * 8 + 3).toNat 0) ≤ a1.getD (7 + b * 32 + s * 8 + 2).toNat 0 then a1.set (7 + b * 32 + s * 8 + 3).toNat (gaugeV (a1.getD (7 + b * 32 + s * 8 + 2).toNat 0) v) else a1
def putTimer (a : List Int) (b s v : Int) : List Int :=
  let t := a.getD (7 + b * 32 + s * 8 + 4).toNat 0
  let a1 := a.set (7 + b * 32 + s * 8 + 4).toNat (modW (t + 1))
  if 3 ≤ t then a1 else a1.set (7 + b * 32 + s * 8 + (5 + t)).toNat (v + 1)
def putCells (a : List Int) (b s kind w v : Int) : List Int := if kind = 1 then putCount a b s w v else if kind = 2 then putGauge a b s v else putTimer a b s v
def putDrop (a : List Int) (b s kind : Int) : Bool := decide (kind ≠ 1 ∧ kind ≠ 2) && decide (3 ≤ a.getD (7 + b * 32 + s * 8 + 4).toNat 0)
def recArgs (a : List Int) (w : Int) (key : ByteArray) (v : Int) : Bool := okC a && (decide (0 ≤ w ∧ w ≤ 2) && (keyOkV key && decide (0 ≤ v ∧ v ≤ 65535)))
def recC (a : List Int) (w : Int) (key : ByteArray) (v : Int) : List Int :=
  if recArgs a w key v = true ∧ 0 ≤ fkS a key then putCells a (a.getD 0 0 % 2) (fkS a key) (fkK a key) w v else a
def recD (a : List Int) (w : Int) (key : ByteArray) (v : Int) : Int :=
  if recArgs a w key v = true then (if 0 ≤ fkS a key then (if putDrop a (a.getD 0 0 % 2) (fkS a key) (fkK a key) = true then 5 else 0) else 2) else 1
def flushC (a : List Int) : List Int := if okC a = true then (clearV a (a.getD 0 0 % 2)).set 0 (modW (a.getD 0 0 + 1)) else a
def flushR (a : List Int) : List R := if okC a = true then reportInV a (a.getD 0 0 % 2) else []
end Go.Proofs.Ythfbacaamhkjpaa

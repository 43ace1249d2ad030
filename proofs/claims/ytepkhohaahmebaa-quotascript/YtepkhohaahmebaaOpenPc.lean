/- Opening a part of a law's argument that is a slice of bytes. -/
import Derived.Test.YtepkhohaahmebaaOpenB
import Derived.Test.YtepkhohaahmebaaOpenW
import Derived.Lib.SmallJoins
import Derived.Deep.Slices
namespace Go.Proofs.Ytepkhohaahmebaa
open Go.ChangeShapes Go.WideShapes Go.ChangeAt Go.RowKit Go.Joins Go.Deep

/-- A slice of bytes: where, how much room, which bytes. -/
structure Pc where
  a : Option Addr
  c : Nat
  p : List Nat
/-- What is known of one. -/
structure PcOk (w : World) (x : Pc) : Prop where
  row : RowB w x.a x.p
  all : All8 x.p
  size : x.p.length ≤ 140737488351232
  none : x.a = none → x.p.length = 0 ∧ x.c = 0
theorem PcOk.below {w w' : World} {x : Pc} (h : PcOk w x) (hb : Below w.heap.size w w') : PcOk w' x := ⟨h.row.below hb, h.all, h.size, h.none⟩

section
variable {H : Type} {enc : TypeId × Value → H} {W : World}

theorem one_cell {cs : List Value} {j : Nat} {v : Value} (h : (cs.drop j).take 1 = [v]) : cs[j]? = some v := by
  have h0 : ((cs.drop j).take 1)[0]? = some v := by rw [h]; rfl
  rw [List.getElem?_take_of_lt (by omega), List.getElem?_drop] at h0
  simpa using h0
theorem take_one_of {cs : List Value} {j : Nat} (h : j < cs.length) : ∃ v, (cs.drop j).take 1 = [v] := by
  refine ⟨cs[j], ?_⟩
  rw [List.drop_eq_getElem_cons h]
  rfl







































end
end Go.Proofs.Ytepkhohaahmebaa

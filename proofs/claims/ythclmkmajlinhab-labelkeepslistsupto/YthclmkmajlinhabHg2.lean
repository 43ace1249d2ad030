/- The library's BinarySearch at labels; rows of ints of the call's own; the program's Heights. -/
import Derived.Test.YthclmkmajlinhabHg1
import Derived.Test.YthclmkmajlinhabCmp2
import Derived.Test.YthclmkmajlinhabReg
namespace Go.Proofs.Ythclmkmajlinhab
open Go.RowKit

/-- Block g holds n ints. -/
def IRow (w : World) (g n : Nat) (h : Nat → Nat) : Prop := w.rowIs g 3 n (fun i => .int .i64 ((h i : Nat) : Int))
theorem IRow.cell {w : World} {g n : Nat} {h : Nat → Nat} (H : IRow w g n h) {i : Nat} (hi : i < n) : w.cell? ⟨g, i, none⟩ = some (.int .i64 ((h i : Nat) : Int)) := World.rowIs.cell H hi
theorem IRow.frozen {w : World} {g n : Nat} {h : Nat → Nat} (H : IRow w g n h) (i : Nat) : w.frozen? ⟨g, i, none⟩ = false := World.rowIs.frozen H i
theorem IRow.set {w : World} {g n : Nat} {h : Nat → Nat} (H : IRow w g n h) (k x : Nat) {h' : Nat → Nat} (he : ∀ i, i < n → h' i = if i = k then x else h i) : IRow (w.setCell ⟨g, k, none⟩ (.int .i64 (x : Int))) g n h' := by
  refine (World.rowIs.set H k (.int .i64 (x : Int))).congr (fun i hi => ?_)
  rw [he i hi]
  by_cases e : i = k
  · rw [if_pos e, if_pos e]
  · rw [if_neg e, if_neg e]
theorem IRow.congr {w : World} {g n : Nat} {h h' : Nat → Nat} (H : IRow w g n h) (he : ∀ i, i < n → h i = h' i) : IRow w g n h' := World.rowIs.congr H (fun i hi => by rw [he i hi])
theorem IRow.drewN {w : World} {g n : Nat} {h : Nat → Nat} (H : IRow w g n h) (m : Nat) : IRow (w.drewN m) g n h := by
  induction m with
  | zero => exact H
  | succ m ih => exact ih
theorem IRow.keep {w w' : World} {g n : Nat} {h : Nat → Nat} (H : IRow w g n h) (e : w'.heap[g]? = w.heap[g]?) : IRow w' g n h := by
  obtain ⟨c, h1, h2, h3⟩ := H
  exact ⟨c, e.trans h1, h2, h3⟩
theorem IRow.lt {w : World} {g n : Nat} {h : Nat → Nat} (H : IRow w g n h) : g < w.heap.size := World.rowIs.lt H
theorem IRow.made (w : World) (n : Nat) : IRow (w.alloc (.cells (madeCells #[.int .i64 0] n) 3)) w.heap.size n (fun _ => 0) := World.rowIs_made w _ _ _
theorem at0_map {h : Nat → Nat} {n i : Nat} (hi : i < n) : at0 ((List.range n).map h) i = h i := by
  unfold at0
  rw [List.getD_eq_getElem?_getD, List.getElem?_map, List.getElem?_range hi]; rfl

end Go.Proofs.Ythclmkmajlinhab

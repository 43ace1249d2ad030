/- Whether an item is the document's, bit by bit: where it is. -/
import Derived.Test.YtelcfmjhbjnkoaaKt1
import Derived.Test.YtelcfmjhbjnkoaaReg2
namespace Go.Proofs.Ytelcfmjhbjnkoaa
open Go.RowKit

attribute [local go_sem] st_float st_complex fromBits toBits

/-- An item of the document's that lies in a block of its own. -/
def DocB (w : World) (g : Nat) (x : It) : Prop := w.heap[g]? = some (.cells #[.int .i64 x.k, .bool x.b, .int .i64 x.n, .int .u64 (x.f : Int), .int .u64 (x.r : Int), .int .u64 (x.i : Int), .string x.t] 57 (0, 0))
theorem DocB.lt {w : World} {g : Nat} {x : It} (h : DocB w g x) : g < w.heap.size := (Array.getElem?_eq_some_iff.1 h).1
theorem DocB.below {w w' : World} {B g : Nat} {x : It} (h : DocB w g x) (hb : Below B w w') (hg : g < B) : DocB w' g x := by
  unfold DocB; rw [hb.block g hg]; exact h
theorem DocB.cells {w : World} {g : Nat} {x : It} (h : DocB w g x) : w.cell? ⟨g, 0, none⟩ = some (.int .i64 x.k) ∧ w.cell? ⟨g, 1, none⟩ = some (.bool x.b) ∧ w.cell? ⟨g, 2, none⟩ = some (.int .i64 x.n) ∧
    w.cell? ⟨g, 3, none⟩ = some (.int .u64 (x.f : Int)) ∧ w.cell? ⟨g, 4, none⟩ = some (.int .u64 (x.r : Int)) ∧ w.cell? ⟨g, 5, none⟩ = some (.int .u64 (x.i : Int)) ∧ w.cell? ⟨g, 6, none⟩ = some (.string x.t) :=
  ⟨by rw [cell_of_row _ _ _ _ _ _ h]; rfl, by rw [cell_of_row _ _ _ _ _ _ h]; rfl, by rw [cell_of_row _ _ _ _ _ _ h]; rfl, by rw [cell_of_row _ _ _ _ _ _ h]; rfl, by rw [cell_of_row _ _ _ _ _ _ h]; rfl, by rw [cell_of_row _ _ _ _ _ _ h]; rfl, by rw [cell_of_row _ _ _ _ _ _ h]; rfl⟩

set_option maxRecDepth 100000 in
set_option maxHeartbeats 4000000 in
theorem alike_same (x : It) (w : World) :
    Calls Try.prog 24 #[valI x, valR x] w fun e w' => e = .returned (.bool true) ∧ Below w.heap.size w w' := by
  obtain ⟨k, b, n, f, r, i, t⟩ := x
  have hS : BoxI ((w.alloc (.cells #[.int .i64 k, .bool b, .int .i64 n, .float .f64 f, .complex .f64 r i, .string t] 29)).alloc (.cells #[.int .i64 k, .bool b, .int .i64 n, .int .u64 (f : Int), .int .u64 (r : Int), .int .u64 (i : Int), .string t] 57)) w.heap.size ⟨k, b, n, f, r, i, t⟩ ∧
      DocB ((w.alloc (.cells #[.int .i64 k, .bool b, .int .i64 n, .float .f64 f, .complex .f64 r i, .string t] 29)).alloc (.cells #[.int .i64 k, .bool b, .int .i64 n, .int .u64 (f : Int), .int .u64 (r : Int), .int .u64 (i : Int), .string t] 57)) (w.heap.size + 1) ⟨k, b, n, f, r, i, t⟩ :=
    ⟨(BoxI.new w ⟨k, b, n, f, r, i, t⟩).below ((Below.refl _ _).alloc (Nat.le_refl _) _) (by simp), heap_alloc2_new w _ _⟩
  have hfin : ∀ o1 o2, Below w.heap.size w ((w.alloc o1).alloc o2) := fun o1 o2 => ((Below.refl _ _).alloc (Nat.le_refl _) _).alloc (by simp) _
  go_enter Try.func24, Try.ntmps24
  go_wp2_with fail
  refine wp_region_held_drew (S := (fun w' => BoxI w' w.heap.size ⟨k, b, n, f, r, i, t⟩ ∧ DocB w' (w.heap.size + 1) ⟨k, b, n, f, r, i, t⟩)) (by kernel_rfl) ?_ (fun hHeld => ?_)
  · exact hS
  refine take_on (i := 0) (v := ?_) rfl rfl (by kernel_rfl) (by kernel_rfl) (by kernel_rfl) (fun _ _ _ h => h) rfl ?_ hHeld ?_
  rotate_left
  · (intro wq hSq; obtain ⟨q0, q1, q2, q3, q4, q5⟩ := hSq.1.cells; obtain ⟨d0, d1, d2, d3, d4, d5, d6⟩ := hSq.2.cells; go_simp <;> first | with_reducible rfl | rfl)
  simp only [Act.put, List.setIfInBounds_toArray, List.set_cons_zero, List.set_cons_succ]
  refine take_on (i := 1) (v := ?_) rfl rfl (by kernel_rfl) (by kernel_rfl) (by kernel_rfl) (fun _ _ _ h => h) rfl ?_ hHeld ?_
  rotate_left
  · (intro wq hSq; obtain ⟨q0, q1, q2, q3, q4, q5⟩ := hSq.1.cells; obtain ⟨d0, d1, d2, d3, d4, d5, d6⟩ := hSq.2.cells; go_simp <;> first | with_reducible rfl | rfl)
  simp only [Act.put, List.setIfInBounds_toArray, List.set_cons_zero, List.set_cons_succ]
  refine take_on (i := 2) (v := ?_) rfl rfl (by kernel_rfl) (by kernel_rfl) (by kernel_rfl) (fun _ _ _ h => h) rfl ?_ hHeld ?_
  rotate_left
  · (intro wq hSq; obtain ⟨q0, q1, q2, q3, q4, q5⟩ := hSq.1.cells; obtain ⟨d0, d1, d2, d3, d4, d5, d6⟩ := hSq.2.cells; go_simp <;> first | with_reducible rfl | rfl)
  simp only [Act.put, List.setIfInBounds_toArray, List.set_cons_zero, List.set_cons_succ]
  refine take_on (i := 3) (v := ?_) rfl rfl (by kernel_rfl) (by kernel_rfl) (by kernel_rfl) (fun _ _ _ h => h) rfl ?_ hHeld ?_
  rotate_left
  · (intro wq hSq; obtain ⟨q0, q1, q2, q3, q4, q5⟩ := hSq.1.cells; obtain ⟨d0, d1, d2, d3, d4, d5, d6⟩ := hSq.2.cells; go_simp <;> first | with_reducible rfl | rfl)
  simp only [Act.put, List.setIfInBounds_toArray, List.set_cons_zero, List.set_cons_succ]
  refine take_on (i := 4) (v := ?_) rfl rfl (by kernel_rfl) (by kernel_rfl) (by kernel_rfl) (fun _ _ _ h => h) rfl ?_ hHeld ?_
  rotate_left
  · (intro wq hSq; obtain ⟨q0, q1, q2, q3, q4, q5⟩ := hSq.1.cells; obtain ⟨d0, d1, d2, d3, d4, d5, d6⟩ := hSq.2.cells; go_simp <;> first | with_reducible rfl | rfl)
  simp only [Act.put, List.setIfInBounds_toArray, List.set_cons_zero, List.set_cons_succ]
  refine take_on (i := 5) (v := ?_) rfl rfl (by kernel_rfl) (by kernel_rfl) (by kernel_rfl) (fun _ _ _ h => h) rfl ?_ hHeld ?_
  rotate_left
  · (intro wq hSq; obtain ⟨q0, q1, q2, q3, q4, q5⟩ := hSq.1.cells; obtain ⟨d0, d1, d2, d3, d4, d5, d6⟩ := hSq.2.cells; go_simp <;> first | with_reducible rfl | rfl)
  simp only [Act.put, List.setIfInBounds_toArray, List.set_cons_zero, List.set_cons_succ]
  refine take_on (i := 6) (v := ?_) rfl rfl (by kernel_rfl) (by kernel_rfl) (by kernel_rfl) (fun _ _ _ h => h) rfl ?_ hHeld ?_
  rotate_left
  · (intro wq hSq; obtain ⟨q0, q1, q2, q3, q4, q5⟩ := hSq.1.cells; obtain ⟨d0, d1, d2, d3, d4, d5, d6⟩ := hSq.2.cells; go_simp <;> first | with_reducible rfl | rfl)
  simp only [Act.put, List.setIfInBounds_toArray, List.set_cons_zero, List.set_cons_succ]
  refine take_on (i := 7) (v := ?_) rfl rfl (by kernel_rfl) (by kernel_rfl) (by kernel_rfl) (fun _ _ _ h => h) rfl ?_ hHeld ?_
  rotate_left
  · (intro wq hSq; obtain ⟨q0, q1, q2, q3, q4, q5⟩ := hSq.1.cells; obtain ⟨d0, d1, d2, d3, d4, d5, d6⟩ := hSq.2.cells; go_simp <;> first | with_reducible rfl | rfl)
  simp only [Act.put, List.setIfInBounds_toArray, List.set_cons_zero, List.set_cons_succ]
  refine take_on (i := 8) (v := ?_) rfl rfl (by kernel_rfl) (by kernel_rfl) (by kernel_rfl) (fun _ _ _ h => h) rfl ?_ hHeld ?_
  rotate_left
  · (intro wq hSq; obtain ⟨q0, q1, q2, q3, q4, q5⟩ := hSq.1.cells; obtain ⟨d0, d1, d2, d3, d4, d5, d6⟩ := hSq.2.cells; go_simp <;> first | with_reducible rfl | rfl)
  simp only [Act.put, List.setIfInBounds_toArray, List.set_cons_zero, List.set_cons_succ]
  refine take_on (i := 9) (v := ?_) rfl rfl (by kernel_rfl) (by kernel_rfl) (by kernel_rfl) (fun _ _ _ h => h) rfl ?_ hHeld ?_
  rotate_left
  · (intro wq hSq; obtain ⟨q0, q1, q2, q3, q4, q5⟩ := hSq.1.cells; obtain ⟨d0, d1, d2, d3, d4, d5, d6⟩ := hSq.2.cells; go_simp <;> first | with_reducible rfl | rfl)
  simp only [Act.put, List.setIfInBounds_toArray, List.set_cons_zero, List.set_cons_succ]
  refine take_on (i := 10) (v := ?_) rfl rfl (by kernel_rfl) (by kernel_rfl) (by kernel_rfl) (fun _ _ _ h => h) rfl ?_ hHeld ?_
  rotate_left
  · (intro wq hSq; obtain ⟨q0, q1, q2, q3, q4, q5⟩ := hSq.1.cells; obtain ⟨d0, d1, d2, d3, d4, d5, d6⟩ := hSq.2.cells; go_simp <;> first | with_reducible rfl | rfl)
  simp only [Act.put, List.setIfInBounds_toArray, List.set_cons_zero, List.set_cons_succ]
  refine take_on (i := 11) (v := ?_) rfl rfl (by kernel_rfl) (by kernel_rfl) (by kernel_rfl) (fun _ _ _ h => h) rfl ?_ hHeld ?_
  rotate_left
  · (intro wq hSq; obtain ⟨q0, q1, q2, q3, q4, q5⟩ := hSq.1.cells; obtain ⟨d0, d1, d2, d3, d4, d5, d6⟩ := hSq.2.cells; go_simp <;> first | with_reducible rfl | rfl)
  simp only [Act.put, List.setIfInBounds_toArray, List.set_cons_zero, List.set_cons_succ]
  refine take_on (i := 12) (v := ?_) rfl rfl (by kernel_rfl) (by kernel_rfl) (by kernel_rfl) (fun _ _ _ h => h) rfl ?_ hHeld ?_
  rotate_left
  · (intro wq hSq; obtain ⟨q0, q1, q2, q3, q4, q5⟩ := hSq.1.cells; obtain ⟨d0, d1, d2, d3, d4, d5, d6⟩ := hSq.2.cells; go_simp <;> first | with_reducible rfl | rfl)
  simp only [Act.put, List.setIfInBounds_toArray, List.set_cons_zero, List.set_cons_succ]
  refine take_on (i := 13) (v := ?_) rfl rfl (by kernel_rfl) (by kernel_rfl) (by kernel_rfl) (fun _ _ _ h => h) rfl ?_ hHeld ?_
  rotate_left
  · (intro wq hSq; obtain ⟨q0, q1, q2, q3, q4, q5⟩ := hSq.1.cells; obtain ⟨d0, d1, d2, d3, d4, d5, d6⟩ := hSq.2.cells; go_simp <;> first | with_reducible rfl | rfl)
  simp only [Act.put, List.setIfInBounds_toArray, List.set_cons_zero, List.set_cons_succ]
  refine take_on (i := 14) (v := ?_) rfl rfl (by kernel_rfl) (by kernel_rfl) (by kernel_rfl) (fun _ _ _ h => h) rfl ?_ hHeld ?_
  rotate_left
  · (intro wq hSq; obtain ⟨q0, q1, q2, q3, q4, q5⟩ := hSq.1.cells; obtain ⟨d0, d1, d2, d3, d4, d5, d6⟩ := hSq.2.cells; go_simp <;> first | with_reducible rfl | rfl)
  simp only [Act.put, List.setIfInBounds_toArray, List.set_cons_zero, List.set_cons_succ]
  refine take_on (i := 15) (v := ?_) rfl rfl (by kernel_rfl) (by kernel_rfl) (by kernel_rfl) (fun _ _ _ h => h) rfl ?_ hHeld ?_
  rotate_left
  · (intro wq hSq; obtain ⟨q0, q1, q2, q3, q4, q5⟩ := hSq.1.cells; obtain ⟨d0, d1, d2, d3, d4, d5, d6⟩ := hSq.2.cells; go_simp <;> first | with_reducible rfl | rfl)
  simp only [Act.put, List.setIfInBounds_toArray, List.set_cons_zero, List.set_cons_succ]
  refine take_on (i := 16) (v := ?_) rfl rfl (by kernel_rfl) (by kernel_rfl) (by kernel_rfl) (fun _ _ _ h => h) rfl ?_ hHeld ?_
  rotate_left
  · (intro wq hSq; obtain ⟨q0, q1, q2, q3, q4, q5⟩ := hSq.1.cells; obtain ⟨d0, d1, d2, d3, d4, d5, d6⟩ := hSq.2.cells; go_simp <;> first | with_reducible rfl | rfl)
  simp only [Act.put, List.setIfInBounds_toArray, List.set_cons_zero, List.set_cons_succ]
  refine take_on (i := 17) (v := ?_) rfl rfl (by kernel_rfl) (by kernel_rfl) (by kernel_rfl) (fun _ _ _ h => h) rfl ?_ hHeld ?_
  rotate_left
  · (intro wq hSq; obtain ⟨q0, q1, q2, q3, q4, q5⟩ := hSq.1.cells; obtain ⟨d0, d1, d2, d3, d4, d5, d6⟩ := hSq.2.cells; go_simp <;> first | with_reducible rfl | rfl)
  simp only [Act.put, List.setIfInBounds_toArray, List.set_cons_zero, List.set_cons_succ]
  refine take_on (i := 18) (v := ?_) rfl rfl (by kernel_rfl) (by kernel_rfl) (by kernel_rfl) (fun _ _ _ h => h) rfl ?_ hHeld ?_
  rotate_left
  · (intro wq hSq; obtain ⟨q0, q1, q2, q3, q4, q5⟩ := hSq.1.cells; obtain ⟨d0, d1, d2, d3, d4, d5, d6⟩ := hSq.2.cells; go_simp <;> first | with_reducible rfl | rfl)
  simp only [Act.put, List.setIfInBounds_toArray, List.set_cons_zero, List.set_cons_succ]
  refine take_on (i := 19) (v := ?_) rfl rfl (by kernel_rfl) (by kernel_rfl) (by kernel_rfl) (fun _ _ _ h => h) rfl ?_ hHeld ?_
  rotate_left
  · (intro wq hSq; obtain ⟨q0, q1, q2, q3, q4, q5⟩ := hSq.1.cells; obtain ⟨d0, d1, d2, d3, d4, d5, d6⟩ := hSq.2.cells; go_simp <;> first | with_reducible rfl | rfl)
  simp only [Act.put, List.setIfInBounds_toArray, List.set_cons_zero, List.set_cons_succ]
  refine take_on (i := 20) (v := ?_) rfl rfl (by kernel_rfl) (by kernel_rfl) (by kernel_rfl) (fun _ _ _ h => h) rfl ?_ hHeld ?_
  rotate_left
  · (intro wq hSq; obtain ⟨q0, q1, q2, q3, q4, q5⟩ := hSq.1.cells; obtain ⟨d0, d1, d2, d3, d4, d5, d6⟩ := hSq.2.cells; go_simp <;> first | with_reducible rfl | rfl)
  simp only [Act.put, List.setIfInBounds_toArray, List.set_cons_zero, List.set_cons_succ]
  refine take_on (i := 21) (v := ?_) rfl rfl (by kernel_rfl) (by kernel_rfl) (by kernel_rfl) (fun _ _ _ h => h) rfl ?_ hHeld ?_
  rotate_left
  · (intro wq hSq; obtain ⟨q0, q1, q2, q3, q4, q5⟩ := hSq.1.cells; obtain ⟨d0, d1, d2, d3, d4, d5, d6⟩ := hSq.2.cells; go_simp <;> first | with_reducible rfl | rfl)
  simp only [Act.put, List.setIfInBounds_toArray, List.set_cons_zero, List.set_cons_succ]
  refine take_on (i := 22) (v := ?_) rfl rfl (by kernel_rfl) (by kernel_rfl) (by kernel_rfl) (fun _ _ _ h => h) rfl ?_ hHeld ?_
  rotate_left
  · (intro wq hSq; obtain ⟨q0, q1, q2, q3, q4, q5⟩ := hSq.1.cells; obtain ⟨d0, d1, d2, d3, d4, d5, d6⟩ := hSq.2.cells; go_simp <;> first | with_reducible rfl | rfl)
  simp only [Act.put, List.setIfInBounds_toArray, List.set_cons_zero, List.set_cons_succ]
  refine take_on (i := 23) (v := ?_) rfl rfl (by kernel_rfl) (by kernel_rfl) (by kernel_rfl) (fun _ _ _ h => h) rfl ?_ hHeld ?_
  rotate_left
  · (intro wq hSq; obtain ⟨q0, q1, q2, q3, q4, q5⟩ := hSq.1.cells; obtain ⟨d0, d1, d2, d3, d4, d5, d6⟩ := hSq.2.cells; go_simp <;> first | with_reducible rfl | rfl)
  simp only [Act.put, List.setIfInBounds_toArray, List.set_cons_zero, List.set_cons_succ]
  refine take_on (i := 24) (v := ?_) rfl rfl (by kernel_rfl) (by kernel_rfl) (by kernel_rfl) (fun _ _ _ h => h) rfl ?_ hHeld ?_
  rotate_left
  · (intro wq hSq; obtain ⟨q0, q1, q2, q3, q4, q5⟩ := hSq.1.cells; obtain ⟨d0, d1, d2, d3, d4, d5, d6⟩ := hSq.2.cells; go_simp <;> first | with_reducible rfl | rfl)
  simp only [Act.put, List.setIfInBounds_toArray, List.set_cons_zero, List.set_cons_succ]
  refine take_on (i := 25) (v := ?_) rfl rfl (by kernel_rfl) (by kernel_rfl) (by kernel_rfl) (fun _ _ _ h => h) rfl ?_ hHeld ?_
  rotate_left
  · (intro wq hSq; obtain ⟨q0, q1, q2, q3, q4, q5⟩ := hSq.1.cells; obtain ⟨d0, d1, d2, d3, d4, d5, d6⟩ := hSq.2.cells; go_simp <;> first | with_reducible rfl | rfl)
  simp only [Act.put, List.setIfInBounds_toArray, List.set_cons_zero, List.set_cons_succ]
  refine take_on (i := 26) (v := ?_) rfl rfl (by kernel_rfl) (by kernel_rfl) (by kernel_rfl) (fun _ _ _ h => h) rfl ?_ hHeld ?_
  rotate_left
  · (intro wq hSq; obtain ⟨q0, q1, q2, q3, q4, q5⟩ := hSq.1.cells; obtain ⟨d0, d1, d2, d3, d4, d5, d6⟩ := hSq.2.cells; go_simp <;> first | with_reducible rfl | rfl)
  simp only [Act.put, List.setIfInBounds_toArray, List.set_cons_zero, List.set_cons_succ]
  refine take_on (i := 27) (v := ?_) rfl rfl (by kernel_rfl) (by kernel_rfl) (by kernel_rfl) (fun _ _ _ h => h) rfl ?_ hHeld ?_
  rotate_left
  · (intro wq hSq; obtain ⟨q0, q1, q2, q3, q4, q5⟩ := hSq.1.cells; obtain ⟨d0, d1, d2, d3, d4, d5, d6⟩ := hSq.2.cells; go_simp <;> first | with_reducible rfl | rfl)
  simp only [Act.put, List.setIfInBounds_toArray, List.set_cons_zero, List.set_cons_succ]
  refine take_on (i := 28) (v := ?_) rfl rfl (by kernel_rfl) (by kernel_rfl) (by kernel_rfl) (fun _ _ _ h => h) rfl ?_ hHeld ?_
  rotate_left
  · (intro wq hSq; obtain ⟨q0, q1, q2, q3, q4, q5⟩ := hSq.1.cells; obtain ⟨d0, d1, d2, d3, d4, d5, d6⟩ := hSq.2.cells; go_simp <;> first | with_reducible rfl | rfl)
  simp only [Act.put, List.setIfInBounds_toArray, List.set_cons_zero, List.set_cons_succ]
  refine take_on (i := 29) (v := ?_) rfl rfl (by kernel_rfl) (by kernel_rfl) (by kernel_rfl) (fun _ _ _ h => h) rfl ?_ hHeld ?_
  rotate_left
  · (intro wq hSq; obtain ⟨q0, q1, q2, q3, q4, q5⟩ := hSq.1.cells; obtain ⟨d0, d1, d2, d3, d4, d5, d6⟩ := hSq.2.cells; go_simp <;> first | with_reducible rfl | rfl)
  simp only [Act.put, List.setIfInBounds_toArray, List.set_cons_zero, List.set_cons_succ]
  refine take_on (i := 30) (v := ?_) rfl rfl (by kernel_rfl) (by kernel_rfl) (by kernel_rfl) (fun _ _ _ h => h) rfl ?_ hHeld ?_
  rotate_left
  · (intro wq hSq; obtain ⟨q0, q1, q2, q3, q4, q5⟩ := hSq.1.cells; obtain ⟨d0, d1, d2, d3, d4, d5, d6⟩ := hSq.2.cells; go_simp <;> first | with_reducible rfl | rfl)
  simp only [Act.put, List.setIfInBounds_toArray, List.set_cons_zero, List.set_cons_succ]
  refine take_on (i := 31) (v := ?_) rfl rfl (by kernel_rfl) (by kernel_rfl) (by kernel_rfl) (fun _ _ _ h => h) rfl ?_ hHeld ?_
  rotate_left
  · (intro wq hSq; obtain ⟨q0, q1, q2, q3, q4, q5⟩ := hSq.1.cells; obtain ⟨d0, d1, d2, d3, d4, d5, d6⟩ := hSq.2.cells; go_simp <;> first | with_reducible rfl | rfl)
  simp only [Act.put, List.setIfInBounds_toArray, List.set_cons_zero, List.set_cons_succ]
  refine take_on (i := 32) (v := ?_) rfl rfl (by kernel_rfl) (by kernel_rfl) (by kernel_rfl) (fun _ _ _ h => h) rfl ?_ hHeld ?_
  rotate_left
  · (intro wq hSq; obtain ⟨q0, q1, q2, q3, q4, q5⟩ := hSq.1.cells; obtain ⟨d0, d1, d2, d3, d4, d5, d6⟩ := hSq.2.cells; go_simp <;> first | with_reducible rfl | rfl)
  simp only [Act.put, List.setIfInBounds_toArray, List.set_cons_zero, List.set_cons_succ]
  refine take_on (i := 33) (v := ?_) rfl rfl (by kernel_rfl) (by kernel_rfl) (by kernel_rfl) (fun _ _ _ h => h) rfl ?_ hHeld ?_
  rotate_left
  · (intro wq hSq; obtain ⟨q0, q1, q2, q3, q4, q5⟩ := hSq.1.cells; obtain ⟨d0, d1, d2, d3, d4, d5, d6⟩ := hSq.2.cells; go_simp <;> first | with_reducible rfl | rfl)
  simp only [Act.put, List.setIfInBounds_toArray, List.set_cons_zero, List.set_cons_succ]
  refine take_on (i := 34) (v := ?_) rfl rfl (by kernel_rfl) (by kernel_rfl) (by kernel_rfl) (fun _ _ _ h => h) rfl ?_ hHeld ?_
  rotate_left
  · (intro wq hSq; obtain ⟨q0, q1, q2, q3, q4, q5⟩ := hSq.1.cells; obtain ⟨d0, d1, d2, d3, d4, d5, d6⟩ := hSq.2.cells; go_simp <;> first | with_reducible rfl | rfl)
  simp only [Act.put, List.setIfInBounds_toArray, List.set_cons_zero, List.set_cons_succ]
  refine take_on (i := 35) (v := ?_) rfl rfl (by kernel_rfl) (by kernel_rfl) (by kernel_rfl) (fun _ _ _ h => h) rfl ?_ hHeld ?_
  rotate_left
  · (intro wq hSq; obtain ⟨q0, q1, q2, q3, q4, q5⟩ := hSq.1.cells; obtain ⟨d0, d1, d2, d3, d4, d5, d6⟩ := hSq.2.cells; go_simp <;> first | with_reducible rfl | rfl)
  simp only [Act.put, List.setIfInBounds_toArray, List.set_cons_zero, List.set_cons_succ]
  refine take_on (i := 36) (v := ?_) rfl rfl (by kernel_rfl) (by kernel_rfl) (by kernel_rfl) (fun _ _ _ h => h) rfl ?_ hHeld ?_
  rotate_left
  · (intro wq hSq; obtain ⟨q0, q1, q2, q3, q4, q5⟩ := hSq.1.cells; obtain ⟨d0, d1, d2, d3, d4, d5, d6⟩ := hSq.2.cells; go_simp <;> first | with_reducible rfl | rfl)
  simp only [Act.put, List.setIfInBounds_toArray, List.set_cons_zero, List.set_cons_succ]
  refine take_on (i := 37) (v := ?_) rfl rfl (by kernel_rfl) (by kernel_rfl) (by kernel_rfl) (fun _ _ _ h => h) rfl ?_ hHeld ?_
  rotate_left
  · (intro wq hSq; obtain ⟨q0, q1, q2, q3, q4, q5⟩ := hSq.1.cells; obtain ⟨d0, d1, d2, d3, d4, d5, d6⟩ := hSq.2.cells; go_simp <;> first | with_reducible rfl | rfl)
  simp only [Act.put, List.setIfInBounds_toArray, List.set_cons_zero, List.set_cons_succ]
  refine take_on (i := 38) (v := ?_) rfl rfl (by kernel_rfl) (by kernel_rfl) (by kernel_rfl) (fun _ _ _ h => h) rfl ?_ hHeld ?_
  rotate_left
  · (intro wq hSq; obtain ⟨q0, q1, q2, q3, q4, q5⟩ := hSq.1.cells; obtain ⟨d0, d1, d2, d3, d4, d5, d6⟩ := hSq.2.cells; go_simp <;> first | with_reducible rfl | rfl)
  simp only [Act.put, List.setIfInBounds_toArray, List.set_cons_zero, List.set_cons_succ]
  refine take_on (i := 39) (v := ?_) rfl rfl (by kernel_rfl) (by kernel_rfl) (by kernel_rfl) (fun _ _ _ h => h) rfl ?_ hHeld ?_
  rotate_left
  · (intro wq hSq; obtain ⟨q0, q1, q2, q3, q4, q5⟩ := hSq.1.cells; obtain ⟨d0, d1, d2, d3, d4, d5, d6⟩ := hSq.2.cells; go_simp <;> first | with_reducible rfl | rfl)
  simp only [Act.put, List.setIfInBounds_toArray, List.set_cons_zero, List.set_cons_succ]
  refine take_on (i := 40) (v := ?_) rfl rfl (by kernel_rfl) (by kernel_rfl) (by kernel_rfl) (fun _ _ _ h => h) rfl ?_ hHeld ?_
  rotate_left
  · (intro wq hSq; obtain ⟨q0, q1, q2, q3, q4, q5⟩ := hSq.1.cells; obtain ⟨d0, d1, d2, d3, d4, d5, d6⟩ := hSq.2.cells; go_simp <;> first | with_reducible rfl | rfl)
  simp only [Act.put, List.setIfInBounds_toArray, List.set_cons_zero, List.set_cons_succ]
  refine take_on (i := 41) (v := ?_) rfl rfl (by kernel_rfl) (by kernel_rfl) (by kernel_rfl) (fun _ _ _ h => h) rfl ?_ hHeld ?_
  rotate_left
  · (intro wq hSq; obtain ⟨q0, q1, q2, q3, q4, q5⟩ := hSq.1.cells; obtain ⟨d0, d1, d2, d3, d4, d5, d6⟩ := hSq.2.cells; go_simp <;> first | with_reducible rfl | rfl)
  simp only [Act.put, List.setIfInBounds_toArray, List.set_cons_zero, List.set_cons_succ]
  refine take_on (i := 42) (v := ?_) rfl rfl (by kernel_rfl) (by kernel_rfl) (by kernel_rfl) (fun _ _ _ h => h) rfl ?_ hHeld ?_
  rotate_left
  · (intro wq hSq; obtain ⟨q0, q1, q2, q3, q4, q5⟩ := hSq.1.cells; obtain ⟨d0, d1, d2, d3, d4, d5, d6⟩ := hSq.2.cells; go_simp <;> first | with_reducible rfl | rfl)
  simp only [Act.put, List.setIfInBounds_toArray, List.set_cons_zero, List.set_cons_succ]
  refine take_on (i := 43) (v := ?_) rfl rfl (by kernel_rfl) (by kernel_rfl) (by kernel_rfl) (fun _ _ _ h => h) rfl ?_ hHeld ?_
  rotate_left
  · (intro wq hSq; obtain ⟨q0, q1, q2, q3, q4, q5⟩ := hSq.1.cells; obtain ⟨d0, d1, d2, d3, d4, d5, d6⟩ := hSq.2.cells; go_simp <;> first | with_reducible rfl | rfl)
  simp only [Act.put, List.setIfInBounds_toArray, List.set_cons_zero, List.set_cons_succ]
  refine take_on (i := 44) (v := ?_) rfl rfl (by kernel_rfl) (by kernel_rfl) (by kernel_rfl) (fun _ _ _ h => h) rfl ?_ hHeld ?_
  rotate_left
  · (intro wq hSq; obtain ⟨q0, q1, q2, q3, q4, q5⟩ := hSq.1.cells; obtain ⟨d0, d1, d2, d3, d4, d5, d6⟩ := hSq.2.cells; go_simp <;> first | with_reducible rfl | rfl)
  simp only [Act.put, List.setIfInBounds_toArray, List.set_cons_zero, List.set_cons_succ]
  refine take_on (i := 45) (v := ?_) rfl rfl (by kernel_rfl) (by kernel_rfl) (by kernel_rfl) (fun _ _ _ h => h) rfl ?_ hHeld ?_
  rotate_left
  · (intro wq hSq; obtain ⟨q0, q1, q2, q3, q4, q5⟩ := hSq.1.cells; obtain ⟨d0, d1, d2, d3, d4, d5, d6⟩ := hSq.2.cells; go_simp <;> first | with_reducible rfl | rfl)
  simp only [Act.put, List.setIfInBounds_toArray, List.set_cons_zero, List.set_cons_succ]
  refine take_on (i := 46) (v := ?_) rfl rfl (by kernel_rfl) (by kernel_rfl) (by kernel_rfl) (fun _ _ _ h => h) rfl ?_ hHeld ?_
  rotate_left
  · (intro wq hSq; obtain ⟨q0, q1, q2, q3, q4, q5⟩ := hSq.1.cells; obtain ⟨d0, d1, d2, d3, d4, d5, d6⟩ := hSq.2.cells; go_simp <;> first | with_reducible rfl | rfl)
  simp only [Act.put, List.setIfInBounds_toArray, List.set_cons_zero, List.set_cons_succ]
  refine take_on (i := 47) (v := ?_) rfl rfl (by kernel_rfl) (by kernel_rfl) (by kernel_rfl) (fun _ _ _ h => h) rfl ?_ hHeld ?_
  rotate_left
  · (intro wq hSq; obtain ⟨q0, q1, q2, q3, q4, q5⟩ := hSq.1.cells; obtain ⟨d0, d1, d2, d3, d4, d5, d6⟩ := hSq.2.cells; go_simp <;> first | with_reducible rfl | rfl)
  simp only [Act.put, List.setIfInBounds_toArray, List.set_cons_zero, List.set_cons_succ]
  refine take_on (i := 48) (v := ?_) rfl rfl (by kernel_rfl) (by kernel_rfl) (by kernel_rfl) (fun _ _ _ h => h) rfl ?_ hHeld ?_
  rotate_left
  · (intro wq hSq; obtain ⟨q0, q1, q2, q3, q4, q5⟩ := hSq.1.cells; obtain ⟨d0, d1, d2, d3, d4, d5, d6⟩ := hSq.2.cells; go_simp <;> first | with_reducible rfl | rfl)
  simp only [Act.put, List.setIfInBounds_toArray, List.set_cons_zero, List.set_cons_succ]
  refine take_on (i := 49) (v := ?_) rfl rfl (by kernel_rfl) (by kernel_rfl) (by kernel_rfl) (fun _ _ _ h => h) rfl ?_ hHeld ?_
  rotate_left
  · (intro wq hSq; obtain ⟨q0, q1, q2, q3, q4, q5⟩ := hSq.1.cells; obtain ⟨d0, d1, d2, d3, d4, d5, d6⟩ := hSq.2.cells; go_simp <;> first | with_reducible rfl | rfl)
  simp only [Act.put, List.setIfInBounds_toArray, List.set_cons_zero, List.set_cons_succ]
  refine take_on (i := 50) (v := ?_) rfl rfl (by kernel_rfl) (by kernel_rfl) (by kernel_rfl) (fun _ _ _ h => h) rfl ?_ hHeld ?_
  rotate_left
  · (intro wq hSq; obtain ⟨q0, q1, q2, q3, q4, q5⟩ := hSq.1.cells; obtain ⟨d0, d1, d2, d3, d4, d5, d6⟩ := hSq.2.cells; go_simp <;> first | with_reducible rfl | rfl)
  simp only [Act.put, List.setIfInBounds_toArray, List.set_cons_zero, List.set_cons_succ]
  refine take_on (i := 51) (v := ?_) rfl rfl (by kernel_rfl) (by kernel_rfl) (by kernel_rfl) (fun _ _ _ h => h) rfl ?_ hHeld ?_
  rotate_left
  · (intro wq hSq; obtain ⟨q0, q1, q2, q3, q4, q5⟩ := hSq.1.cells; obtain ⟨d0, d1, d2, d3, d4, d5, d6⟩ := hSq.2.cells; go_simp <;> first | with_reducible rfl | rfl)
  simp only [Act.put, List.setIfInBounds_toArray, List.set_cons_zero, List.set_cons_succ]
  refine take_on (i := 52) (v := ?_) rfl rfl (by kernel_rfl) (by kernel_rfl) (by kernel_rfl) (fun _ _ _ h => h) rfl ?_ hHeld ?_
  rotate_left
  · (intro wq hSq; obtain ⟨q0, q1, q2, q3, q4, q5⟩ := hSq.1.cells; obtain ⟨d0, d1, d2, d3, d4, d5, d6⟩ := hSq.2.cells; go_simp <;> first | with_reducible rfl | rfl)
  simp only [Act.put, List.setIfInBounds_toArray, List.set_cons_zero, List.set_cons_succ]
  refine wpAnyH_done (by kernel_rfl) ?_ _
  go_wp2_with fail
  go_ret
  exact ⟨rfl, (hfin _ _).drew⟩

end Go.Proofs.Ytelcfmjhbjnkoaa

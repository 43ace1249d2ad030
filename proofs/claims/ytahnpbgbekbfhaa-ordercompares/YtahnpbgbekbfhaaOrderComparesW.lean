/- Compare of every two items: the law's walk. -/
import Derived.Test.YtahnpbgbekbfhaaRf4
namespace Go.Proofs.Ytahnpbgbekbfhaa.orderCompares
open Go.RowKit

set_option maxRecDepth 100000 in
set_option maxHeartbeats 1000000 in
theorem walk (x y : It) (w : World) (hx : ItOk x) (hsx : x.t.size ≤ 140737488351232) (hy : ItOk y) (hsy : y.t.size ≤ 140737488351232) :
    Calls Try.prog 5 #[valR x, valR y] w fun e w' => e = .returned (.bool true) ∧ Below w.heap.size w w' := by
  have i1 := fun w => lawItem_any x w
  have i2 := fun w => lawItem_any y w
  have d1 := fun w => doc_any x w
  have d2 := fun w => doc_any y w
  have hc := fun w => compare_any x y w hx hy
  have hd := fun w => rcompare_any x y w hx hy (by omega) (by omega)
  have haw := awake_any
  have hb0 : ∀ o1 o2, Below w.heap.size w ((w.alloc o1).alloc o2) := fun o1 o2 => ((Below.refl _ _).alloc (Nat.le_refl _) _).alloc (by simp) _
  have R1 : RawB ((w.alloc (.cells #[.int .i64 x.k, .bool x.b, .int .i64 x.n, .int .u64 (x.f : Int), .int .u64 (x.r : Int), .int .u64 (x.i : Int), .string x.t] 25)).alloc (.cells #[.int .i64 y.k, .bool y.b, .int .i64 y.n, .int .u64 (y.f : Int), .int .u64 (y.r : Int), .int .u64 (y.i : Int), .string y.t] 25)) w.heap.size x :=
    (show RawB (w.alloc (.cells #[.int .i64 x.k, .bool x.b, .int .i64 x.n, .int .u64 (x.f : Int), .int .u64 (x.r : Int), .int .u64 (x.i : Int), .string x.t] 25)) w.heap.size x from heap_alloc_new w _).below ((Below.refl _ _).alloc (Nat.le_refl _) _) (by simp)
  have R2 : RawB ((w.alloc (.cells #[.int .i64 x.k, .bool x.b, .int .i64 x.n, .int .u64 (x.f : Int), .int .u64 (x.r : Int), .int .u64 (x.i : Int), .string x.t] 25)).alloc (.cells #[.int .i64 y.k, .bool y.b, .int .i64 y.n, .int .u64 (y.f : Int), .int .u64 (y.r : Int), .int .u64 (y.i : Int), .string y.t] 25)) (w.heap.size + 1) y := heap_alloc2_new w _ _
  have l1 := R1.lt
  have l2 := R2.lt
  have hbW := hb0 (.cells #[.int .i64 x.k, .bool x.b, .int .i64 x.n, .int .u64 (x.f : Int), .int .u64 (x.r : Int), .int .u64 (x.i : Int), .string x.t] 25) (.cells #[.int .i64 y.k, .bool y.b, .int .i64 y.n, .int .u64 (y.f : Int), .int .u64 (y.r : Int), .int .u64 (y.i : Int), .string y.t] 25)
  clear hx hy hb0
  generalize cmpIt x y = r at *
  go_enter Try.func5, Try.ntmps5
  go_wp2_with fail
  generalize (w.alloc (.cells #[.int .i64 x.k, .bool x.b, .int .i64 x.n, .int .u64 (x.f : Int), .int .u64 (x.r : Int), .int .u64 (x.i : Int), .string x.t] 25)).alloc (.cells #[.int .i64 y.k, .bool y.b, .int .i64 y.n, .int .u64 (y.f : Int), .int .u64 (y.r : Int), .int .u64 (y.i : Int), .string y.t] 25) = W at *
  refine wp_region_held_drew (S := (fun w' => Below W.heap.size W w')) (by kernel_rfl) ?_ (fun hHeld => ?_)
  · exact (Below.refl _ _).drew
  refine take_on (i := 0) (v := ?_) rfl rfl (by kernel_rfl) (by kernel_rfl) (by kernel_rfl) (fun _ _ _ h => h) rfl ?_ hHeld ?_
  rotate_left
  · (intro wq hSq; obtain ⟨q0, q1, q2, q3, q4, q5, q6⟩ := (R1.below hSq l1).cells; obtain ⟨p0, p1, p2, p3, p4, p5, p6⟩ := (R2.below hSq l2).cells; go_simp <;> first | with_reducible rfl | rfl)
  simp only [Act.put, List.setIfInBounds_toArray, List.set_cons_zero, List.set_cons_succ]
  refine take_on (i := 2) (v := ?_) rfl rfl (by kernel_rfl) (by kernel_rfl) (by kernel_rfl) (fun _ _ _ h => h) rfl ?_ hHeld ?_
  rotate_left
  · (intro wq hSq; obtain ⟨q0, q1, q2, q3, q4, q5, q6⟩ := (R1.below hSq l1).cells; obtain ⟨p0, p1, p2, p3, p4, p5, p6⟩ := (R2.below hSq l2).cells; go_simp <;> first | with_reducible rfl | rfl)
  simp only [Act.put, List.setIfInBounds_toArray, List.set_cons_zero, List.set_cons_succ]
  refine take_on (i := 5) (v := ?_) rfl rfl (by kernel_rfl) (by kernel_rfl) (by kernel_rfl) (fun _ _ _ h => h) rfl ?_ hHeld ?_
  rotate_left
  · (intro wq hSq; obtain ⟨q0, q1, q2, q3, q4, q5, q6⟩ := (R1.below hSq l1).cells; obtain ⟨p0, p1, p2, p3, p4, p5, p6⟩ := (R2.below hSq l2).cells; go_simp <;> first | with_reducible rfl | rfl)
  simp only [Act.put, List.setIfInBounds_toArray, List.set_cons_zero, List.set_cons_succ]
  refine take_on (i := 7) (v := ?_) rfl rfl (by kernel_rfl) (by kernel_rfl) (by kernel_rfl) (fun _ _ _ h => h) rfl ?_ hHeld ?_
  rotate_left
  · (intro wq hSq; obtain ⟨q0, q1, q2, q3, q4, q5, q6⟩ := (R1.below hSq l1).cells; obtain ⟨p0, p1, p2, p3, p4, p5, p6⟩ := (R2.below hSq l2).cells; go_simp <;> first | with_reducible rfl | rfl)
  simp only [Act.put, List.setIfInBounds_toArray, List.set_cons_zero, List.set_cons_succ]
  refine take_one (i := 1) rfl (by kernel_rfl) (fun K hK => ?_)
  go_simp
  refine (i1 _).mono ?_; rintro e y1 ⟨rfl, hq1⟩; have hSx := hHeld.trans (hq1.mono hHeld.size); clear hq1
  try go_wp2_with fail
  refine hK.out _ _ ?_ (fun hHeld => ?_)
  · exact hSx
  clear hK K
  try simp only [Act.put, List.setIfInBounds_toArray, List.set_cons_zero, List.set_cons_succ]
  refine take_one (i := 3) rfl (by kernel_rfl) (fun K hK => ?_)
  go_simp
  refine (i2 _).mono ?_; rintro e y1 ⟨rfl, hq1⟩; have hSx := hHeld.trans (hq1.mono hHeld.size); clear hq1
  try go_wp2_with fail
  refine hK.out _ _ ?_ (fun hHeld => ?_)
  · exact hSx
  clear hK K
  try simp only [Act.put, List.setIfInBounds_toArray, List.set_cons_zero, List.set_cons_succ]
  refine take_one (i := 4) rfl (by kernel_rfl) (fun K hK => ?_)
  go_simp
  refine (hc _).mono ?_; rintro e y1 ⟨rfl, hq1⟩; have hSx := hHeld.trans (hq1.mono hHeld.size); clear hq1
  try go_wp2_with fail
  refine hK.out _ _ ?_ (fun hHeld => ?_)
  · exact hSx
  clear hK K
  try simp only [Act.put, List.setIfInBounds_toArray, List.set_cons_zero, List.set_cons_succ]
  refine take_one (i := 6) rfl (by kernel_rfl) (fun K hK => ?_)
  go_simp
  refine (d1 _).mono ?_; rintro e y1 ⟨rfl, hq1⟩; have hSx := hHeld.trans (hq1.mono hHeld.size); clear hq1
  try go_wp2_with fail
  refine hK.out _ _ ?_ (fun hHeld => ?_)
  · exact hSx
  clear hK K
  try simp only [Act.put, List.setIfInBounds_toArray, List.set_cons_zero, List.set_cons_succ]
  refine take_one (i := 8) rfl (by kernel_rfl) (fun K hK => ?_)
  go_simp
  refine (d2 _).mono ?_; rintro e y1 ⟨rfl, hq1⟩; have hSx := hHeld.trans (hq1.mono hHeld.size); clear hq1
  try go_wp2_with fail
  refine hK.out _ _ ?_ (fun hHeld => ?_)
  · exact hSx
  clear hK K
  try simp only [Act.put, List.setIfInBounds_toArray, List.set_cons_zero, List.set_cons_succ]
  refine take_one (i := 9) rfl (by kernel_rfl) (fun K hK => ?_)
  go_simp
  refine (hd _).mono ?_; rintro e y1 ⟨rfl, hq1⟩; have hSx := hHeld.trans (hq1.mono hHeld.size); clear hq1
  try go_wp2_with fail
  refine hK.out _ _ ?_ (fun hHeld => ?_)
  · exact hSx
  clear hK K
  try simp only [Act.put, List.setIfInBounds_toArray, List.set_cons_zero, List.set_cons_succ]
  refine take_on (i := 10) (v := ?_) rfl rfl (by kernel_rfl) (by kernel_rfl) (by kernel_rfl) (fun _ _ _ h => h) rfl ?_ hHeld ?_
  rotate_left
  · (intro wq hSq; obtain ⟨q0, q1, q2, q3, q4, q5, q6⟩ := (R1.below hSq l1).cells; obtain ⟨p0, p1, p2, p3, p4, p5, p6⟩ := (R2.below hSq l2).cells; go_simp <;> first | with_reducible rfl | rfl)
  simp only [Act.put, List.setIfInBounds_toArray, List.set_cons_zero, List.set_cons_succ]
  refine take_on (i := 11) (v := ?_) rfl rfl (by kernel_rfl) (by kernel_rfl) (by kernel_rfl) (fun _ _ _ h => h) rfl ?_ hHeld ?_
  rotate_left
  · (intro wq hSq; obtain ⟨q0, q1, q2, q3, q4, q5, q6⟩ := (R1.below hSq l1).cells; obtain ⟨p0, p1, p2, p3, p4, p5, p6⟩ := (R2.below hSq l2).cells; go_simp <;> first | with_reducible rfl | rfl)
  simp only [Act.put, List.setIfInBounds_toArray, List.set_cons_zero, List.set_cons_succ]
  refine take_one (i := 12) rfl (by kernel_rfl) (fun K hK => ?_)
  go_simp
  refine (haw _).mono ?_; rintro e y1 ⟨rfl, hq1⟩; have hSx := hHeld.trans (hq1.mono hHeld.size); clear hq1
  try go_wp2_with fail
  refine hK.out _ _ ?_ (fun hHeld => ?_)
  · exact hSx
  clear hK K
  try simp only [Act.put, List.setIfInBounds_toArray, List.set_cons_zero, List.set_cons_succ]
  refine take_on (i := 13) (v := ?_) rfl rfl (by kernel_rfl) (by kernel_rfl) (by kernel_rfl) (fun _ _ _ h => h) rfl ?_ hHeld ?_
  rotate_left
  · (intro wq hSq; obtain ⟨q0, q1, q2, q3, q4, q5, q6⟩ := (R1.below hSq l1).cells; obtain ⟨p0, p1, p2, p3, p4, p5, p6⟩ := (R2.below hSq l2).cells; go_simp <;> first | with_reducible rfl | rfl)
  simp only [Act.put, List.setIfInBounds_toArray, List.set_cons_zero, List.set_cons_succ]
  refine take_on (i := 14) (v := ?_) rfl rfl (by kernel_rfl) (by kernel_rfl) (by kernel_rfl) (fun _ _ _ h => h) rfl ?_ hHeld ?_
  rotate_left
  · (intro wq hSq; obtain ⟨q0, q1, q2, q3, q4, q5, q6⟩ := (R1.below hSq l1).cells; obtain ⟨p0, p1, p2, p3, p4, p5, p6⟩ := (R2.below hSq l2).cells; go_simp <;> first | with_reducible rfl | rfl)
  simp only [Act.put, List.setIfInBounds_toArray, List.set_cons_zero, List.set_cons_succ]
  refine wpAnyH_done (by kernel_rfl) ?_ _
  have HB := hide_it (hbW.trans (hHeld.mono hbW.size))
  go_wp2_with fail
  go_ret
  exact ⟨rfl, HB.out⟩

end Go.Proofs.Ytahnpbgbekbfhaa.orderCompares

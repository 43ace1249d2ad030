/- A step done to a chain and to the document's list: At, Last; any step. -/
import Derived.Test.YtncmnhomloanaabHp2
namespace Go.Proofs.Ytncmnhomloanaab
open Go.RowKit

theorem box3 (z : World) (b : Nat) (t : TypeId) (u : Array Value) (x0 x1 x2 : Value) (k : z.heap[b]? = some (.cells u t (0, 0))) :
    (((z.setCell ⟨b, 0, none⟩ x0).setCell ⟨b, 1, none⟩ x1).setCell ⟨b, 2, none⟩ x2).heap[b]? = some (.cells (((u.setIfInBounds 0 x0).setIfInBounds 1 x1).setIfInBounds 2 x2) t (0, 0)) :=
  heap_setCell_same _ b 2 _ _ x2 (heap_setCell_same _ b 1 _ _ x1 (heap_setCell_same z b 0 _ _ x0 k))

set_option maxRecDepth 100000 in
set_option maxHeartbeats 4000000 in
theorem step2_any {w : World} {F : Nat → Prop} {q p : Nat} {v d : Value} {xs : List Lk} (h : Pr w F q p v d xs) (hl : xs.length ≤ 3600000000000) (s : Stc) (_hs : -9223372036854775808 ≤ s.n ∧ s.n ≤ 9223372036854775807) :
    Calls Try.prog 16 #[.pointer (some ⟨q, 0, none⟩), .agg #[.int .i64 2, .int .i64 s.n, .string s.v, .bool s.d]] w fun e w' => e = .returned (.bool true) ∧ StepTo w F q p xs w' := by
  obtain ⟨W, hW, hb, hz, k0⟩ := step_box w 2 s.n s.v s.d
  have hP := h.below hb
  have hlt := h.lt
  have hbl : w.heap.size < W.heap.size := by omega
  have hq := hP.qlt
  have hqb : ¬ q = w.heap.size := by have := h.qlt; omega
  have kq := hP.hq
  have hgood := h.hn.good
  obtain ⟨X, bb, pl, hat, hrat, hpat⟩ : ∃ (X : Lk) (bb : Bool) (pl : Int),
      (∀ z, Below W.heap.size W z → Calls Try.prog 18 #[.pointer (some ⟨p, 0, none⟩), .int .i64 s.n] z fun e w' => e = .returned (.tuple #[.agg #[.int .i64 X.n, .string X.v, .bool X.d], .bool bb]) ∧ Below z.heap.size z w') ∧
      (∀ z, Below W.heap.size W z → Calls Try.prog 30 #[d, .int .i64 s.n] z fun e w' => e = .returned (.int .i64 pl) ∧ Below z.heap.size z w') ∧
      (∀ z, Below W.heap.size W z → Calls Try.prog 29 #[.pointer (some ⟨q, 0, none⟩), .agg #[.int .i64 X.n, .string X.v, .bool X.d], .bool bb, .int .i64 pl] z fun e w' => e = .returned (.bool true) ∧ Below z.heap.size z w') := by
    have hra : ∀ z, Below W.heap.size W z → Calls Try.prog 30 #[d, .int .i64 s.n] z fun e w' => e = .returned (.int .i64 ((upN xs s.n : Int) - 1)) ∧ Below z.heap.size z w' := fun z hz2 => by
      obtain ⟨a, cap, ev, hr, _⟩ := own_row (hP.below hz2).od
      rw [ev]; exact rat_any hr hgood (by omega) s.n
    have ha := fun z (hz2 : Below W.heap.size W z) => at_any (hP.below hz2).hn (by omega) s.n
    by_cases hU : upN xs s.n = 0
    · rw [hU, show ((0 : Nat) : Int) - 1 = -1 by rfl] at hra
      rw [hU] at ha
      exact ⟨zeroLk, false, -1, ha, hra, fun z _ => pat_none q z⟩
    · obtain ⟨m, hm⟩ : ∃ m, upN xs s.n = m + 1 := ⟨upN xs s.n - 1, by omega⟩
      have hmx : m < xs.length := by have := upN_le xs s.n; omega
      rw [hm] at hra ha
      refine ⟨lk xs m, true, (m : Int), ha, ?_, fun z hz2 => ?_⟩
      · rw [show ((m + 1 : Nat) : Int) - 1 = (m : Int) by omega] at hra; exact hra
      · obtain ⟨a, cap, ev, hr, _⟩ := own_row (hP.below hz2).od
        have hc := (hP.below hz2).cells.2.1
        rw [ev] at hc
        exact pat_some q z hr hmx hc
  have HH := hide_it h
  have HB := hide_it hb
  have hy0 := (Below.refl W.heap.size W).drew
  obtain ⟨a, cap, ev, _⟩ := own_row hP.od
  subst ev
  clear hP h hgood
  replace hz := hide_it hz
  go_enter Try.func16, Try.ntmps16
  go_wp2_with fail
  rw [← hW]
  clear hW
  refine wp_region_held_drew (S := (fun w' => w'.heap[q]? = W.heap[q]? ∧ w'.heap[w.heap.size]? = W.heap[w.heap.size]?)) (by kernel_rfl) ?_ (fun hHeld => ?_)
  · exact ⟨rfl, rfl⟩
  refine take_on (i := 0) (v := ?_) rfl rfl (by kernel_rfl) (by kernel_rfl) (by kernel_rfl) (fun _ _ _ h => h) rfl ?_ hHeld ?_
  rotate_left
  · (intro wq hSq; have xk := hSq.2.trans k0; have s0 := cell_of_row _ _ 0 _ _ _ xk; have s1 := cell_of_row _ _ 1 _ _ _ xk; have s2 := cell_of_row _ _ 2 _ _ _ xk; have s3 := cell_of_row _ _ 3 _ _ _ xk; have xq := hSq.1.trans kq; have r0 := cell_of_row _ _ 0 _ _ _ xq; have r1 := cell_of_row _ _ 1 _ _ _ xq; go_simp <;> first | with_reducible rfl | rfl)
  simp only [Act.put, List.setIfInBounds_toArray, List.set_cons_zero, List.set_cons_succ]
  refine take_on (i := 1) (v := ?_) rfl rfl (by kernel_rfl) (by kernel_rfl) (by kernel_rfl) (fun _ _ _ h => h) rfl ?_ hHeld ?_
  rotate_left
  · (intro wq hSq; have xk := hSq.2.trans k0; have s0 := cell_of_row _ _ 0 _ _ _ xk; have s1 := cell_of_row _ _ 1 _ _ _ xk; have s2 := cell_of_row _ _ 2 _ _ _ xk; have s3 := cell_of_row _ _ 3 _ _ _ xk; have xq := hSq.1.trans kq; have r0 := cell_of_row _ _ 0 _ _ _ xq; have r1 := cell_of_row _ _ 1 _ _ _ xq; go_simp <;> first | with_reducible rfl | rfl)
  simp only [Act.put, List.setIfInBounds_toArray, List.set_cons_zero, List.set_cons_succ]
  refine take_on (i := 2) (v := ?_) rfl rfl (by kernel_rfl) (by kernel_rfl) (by kernel_rfl) (fun _ _ _ h => h) rfl ?_ hHeld ?_
  rotate_left
  · (intro wq hSq; have xk := hSq.2.trans k0; have s0 := cell_of_row _ _ 0 _ _ _ xk; have s1 := cell_of_row _ _ 1 _ _ _ xk; have s2 := cell_of_row _ _ 2 _ _ _ xk; have s3 := cell_of_row _ _ 3 _ _ _ xk; have xq := hSq.1.trans kq; have r0 := cell_of_row _ _ 0 _ _ _ xq; have r1 := cell_of_row _ _ 1 _ _ _ xq; go_simp <;> first | with_reducible rfl | rfl)
  simp only [Act.put, List.setIfInBounds_toArray, List.set_cons_zero, List.set_cons_succ]
  refine take_on (i := 3) (v := ?_) rfl rfl (by kernel_rfl) (by kernel_rfl) (by kernel_rfl) (fun _ _ _ h => h) rfl ?_ hHeld ?_
  rotate_left
  · (intro wq hSq; have xk := hSq.2.trans k0; have s0 := cell_of_row _ _ 0 _ _ _ xk; have s1 := cell_of_row _ _ 1 _ _ _ xk; have s2 := cell_of_row _ _ 2 _ _ _ xk; have s3 := cell_of_row _ _ 3 _ _ _ xk; have xq := hSq.1.trans kq; have r0 := cell_of_row _ _ 0 _ _ _ xq; have r1 := cell_of_row _ _ 1 _ _ _ xq; go_simp <;> first | with_reducible rfl | rfl)
  simp only [Act.put, List.setIfInBounds_toArray, List.set_cons_zero, List.set_cons_succ]
  refine take_on (i := 4) (v := ?_) rfl rfl (by kernel_rfl) (by kernel_rfl) (by kernel_rfl) (fun _ _ _ h => h) rfl ?_ hHeld ?_
  rotate_left
  · (intro wq hSq; have xk := hSq.2.trans k0; have s0 := cell_of_row _ _ 0 _ _ _ xk; have s1 := cell_of_row _ _ 1 _ _ _ xk; have s2 := cell_of_row _ _ 2 _ _ _ xk; have s3 := cell_of_row _ _ 3 _ _ _ xk; have xq := hSq.1.trans kq; have r0 := cell_of_row _ _ 0 _ _ _ xq; have r1 := cell_of_row _ _ 1 _ _ _ xq; go_simp <;> first | with_reducible rfl | rfl)
  simp only [Act.put, List.setIfInBounds_toArray, List.set_cons_zero, List.set_cons_succ]
  refine take_on (i := 5) (v := ?_) rfl rfl (by kernel_rfl) (by kernel_rfl) (by kernel_rfl) (fun _ _ _ h => h) rfl ?_ hHeld ?_
  rotate_left
  · (intro wq hSq; have xk := hSq.2.trans k0; have s0 := cell_of_row _ _ 0 _ _ _ xk; have s1 := cell_of_row _ _ 1 _ _ _ xk; have s2 := cell_of_row _ _ 2 _ _ _ xk; have s3 := cell_of_row _ _ 3 _ _ _ xk; have xq := hSq.1.trans kq; have r0 := cell_of_row _ _ 0 _ _ _ xq; have r1 := cell_of_row _ _ 1 _ _ _ xq; go_simp <;> first | with_reducible rfl | rfl)
  simp only [Act.put, List.setIfInBounds_toArray, List.set_cons_zero, List.set_cons_succ]
  refine take_two (i := 6) (j := 10) rfl rfl (by kernel_rfl) (fun K hK => ?_) (fun K hK => ?_)
  · go_simp
    (refine (hat _ hy0).mono ?_; rintro e z1 ⟨rfl, hz1⟩; have hy1 := hy0.trans (hz1.mono hy0.size))
    try go_wp2_with fail
    refine hK.out _ _ ?_ (fun hHeld => ?_)
    · exact ⟨hy1.block q hq, hy1.block w.heap.size hbl⟩
    clear hK K
    try simp only [Act.put, List.setIfInBounds_toArray, List.set_cons_zero, List.set_cons_succ]
    refine take_on (i := 7) (v := ?_) rfl rfl (by kernel_rfl) (by kernel_rfl) (by kernel_rfl) (fun _ _ _ h => h) rfl ?_ hHeld ?_
    rotate_left
    · (intro wq hSq; have xk := hSq.2.trans k0; have s0 := cell_of_row _ _ 0 _ _ _ xk; have s1 := cell_of_row _ _ 1 _ _ _ xk; have s2 := cell_of_row _ _ 2 _ _ _ xk; have s3 := cell_of_row _ _ 3 _ _ _ xk; have xq := hSq.1.trans kq; have r0 := cell_of_row _ _ 0 _ _ _ xq; have r1 := cell_of_row _ _ 1 _ _ _ xq; go_simp <;> first | with_reducible rfl | rfl)
    simp only [Act.put, List.setIfInBounds_toArray, List.set_cons_zero, List.set_cons_succ]
    refine take_on (i := 8) (v := ?_) rfl rfl (by kernel_rfl) (by kernel_rfl) (by kernel_rfl) (fun _ _ _ h => h) rfl ?_ hHeld ?_
    rotate_left
    · (intro wq hSq; have xk := hSq.2.trans k0; have s0 := cell_of_row _ _ 0 _ _ _ xk; have s1 := cell_of_row _ _ 1 _ _ _ xk; have s2 := cell_of_row _ _ 2 _ _ _ xk; have s3 := cell_of_row _ _ 3 _ _ _ xk; have xq := hSq.1.trans kq; have r0 := cell_of_row _ _ 0 _ _ _ xq; have r1 := cell_of_row _ _ 1 _ _ _ xq; go_simp <;> first | with_reducible rfl | rfl)
    simp only [Act.put, List.setIfInBounds_toArray, List.set_cons_zero, List.set_cons_succ]
    refine take_on (i := 9) (v := ?_) rfl rfl (by kernel_rfl) (by kernel_rfl) (by kernel_rfl) (fun _ _ _ h => h) rfl ?_ hHeld ?_
    rotate_left
    · (intro wq hSq; have xk := hSq.2.trans k0; have s0 := cell_of_row _ _ 0 _ _ _ xk; have s1 := cell_of_row _ _ 1 _ _ _ xk; have s2 := cell_of_row _ _ 2 _ _ _ xk; have s3 := cell_of_row _ _ 3 _ _ _ xk; have xq := hSq.1.trans kq; have r0 := cell_of_row _ _ 0 _ _ _ xq; have r1 := cell_of_row _ _ 1 _ _ _ xq; go_simp <;> first | with_reducible rfl | rfl)
    simp only [Act.put, List.setIfInBounds_toArray, List.set_cons_zero, List.set_cons_succ]
    refine take_one (i := 10) rfl (by kernel_rfl) (fun K hK => ?_)
    go_simp
    skip
    try go_wp2_with fail
    refine hK.out _ _ ?_ (fun hHeld => ?_)
    · exact ⟨(Below.heap_alloc z1 _ q (Nat.lt_of_lt_of_le hq hy1.size)).trans (hy1.block q hq), (Below.heap_alloc z1 _ _ (Nat.lt_of_lt_of_le hbl hy1.size)).trans (hy1.block _ hbl)⟩
    clear hK K
    try simp only [Act.put, List.setIfInBounds_toArray, List.set_cons_zero, List.set_cons_succ]
    refine take_one (i := 11) rfl (by kernel_rfl) (fun K hK => ?_)
    go_simp
    skip
    try go_wp2_with fail
    refine hK.out _ _ ?_ (fun hHeld => ?_)
    · exact ⟨(Below.heap_alloc z1 _ q (Nat.lt_of_lt_of_le hq hy1.size)).trans (hy1.block q hq), (Below.heap_alloc z1 _ _ (Nat.lt_of_lt_of_le hbl hy1.size)).trans (hy1.block _ hbl)⟩
    clear hK K
    try simp only [Act.put, List.setIfInBounds_toArray, List.set_cons_zero, List.set_cons_succ]
    refine take_on (i := 12) (v := ?_) rfl rfl (by kernel_rfl) (by kernel_rfl) (by kernel_rfl) (fun _ _ _ h => h) rfl ?_ hHeld ?_
    rotate_left
    · (intro wq hSq; have xk := hSq.2.trans k0; have s0 := cell_of_row _ _ 0 _ _ _ xk; have s1 := cell_of_row _ _ 1 _ _ _ xk; have s2 := cell_of_row _ _ 2 _ _ _ xk; have s3 := cell_of_row _ _ 3 _ _ _ xk; have xq := hSq.1.trans kq; have r0 := cell_of_row _ _ 0 _ _ _ xq; have r1 := cell_of_row _ _ 1 _ _ _ xq; go_simp <;> first | with_reducible rfl | rfl)
    simp only [Act.put, List.setIfInBounds_toArray, List.set_cons_zero, List.set_cons_succ]
    refine wpAnyH_done (by kernel_rfl) ?_ _
    have hW9 : Below W.heap.size W (z1.alloc (.cells #[.int .i64 X.n, .string X.v, .bool X.d] 32)) ∧ (z1.alloc (.cells #[.int .i64 X.n, .string X.v, .bool X.d] 32)).heap[z1.heap.size]? = some (.cells #[.int .i64 X.n, .string X.v, .bool X.d] 32 (0, 0)) := ⟨hy1.trans (((Below.refl _ _).alloc (Nat.le_refl _) _).mono hy1.size), heap_alloc_new z1 _⟩
    obtain ⟨hb9, kb⟩ := hW9
    obtain ⟨W9, e9⟩ : ∃ W9, W9 = z1.alloc (.cells #[.int .i64 X.n, .string X.v, .bool X.d] 32) := ⟨_, rfl⟩
    rw [← e9] at hb9 kb ⊢
    clear e9
    obtain ⟨B, eB⟩ : ∃ B, B = z1.heap.size := ⟨_, rfl⟩
    rw [← eB] at kb ⊢
    clear eB
    have k9 := (hb9.block w.heap.size hbl).trans k0
    have kq9 := (hb9.block q hq).trans kq
    have hz9 := hb9.size
    have hbl9 : w.heap.size < W9.heap.size := by omega
    have hq9 : q < W9.heap.size := by omega
    have hB9 := (Array.getElem?_eq_some_iff.1 kb).1
    have hy0 := (Below.refl W9.heap.size W9).drew
    have hy0' := hb9.trans (hy0.mono hz9)
    go_wp2_with fail
    refine wp_region_held_drew (S := (fun w' => w'.heap[q]? = W9.heap[q]? ∧ w'.heap[w.heap.size]? = W9.heap[w.heap.size]? ∧ w'.heap[B]? = W9.heap[B]?)) (by kernel_rfl) ?_ (fun hHeld => ?_)
    · exact ⟨rfl, rfl, rfl⟩
    refine take_on (i := 0) (v := ?_) rfl rfl (by kernel_rfl) (by kernel_rfl) (by kernel_rfl) (fun _ _ _ h => h) rfl ?_ hHeld ?_
    rotate_left
    · (intro wq hSq; have xk := hSq.2.1.trans k9; have s0 := cell_of_row _ _ 0 _ _ _ xk; have s1 := cell_of_row _ _ 1 _ _ _ xk; have s2 := cell_of_row _ _ 2 _ _ _ xk; have s3 := cell_of_row _ _ 3 _ _ _ xk; have xq := hSq.1.trans kq9; have r0 := cell_of_row _ _ 0 _ _ _ xq; have r1 := cell_of_row _ _ 1 _ _ _ xq; have xb := hSq.2.2.trans kb; have q0 := cell_of_row _ _ 0 _ _ _ xb; have q1 := cell_of_row _ _ 1 _ _ _ xb; have q2 := cell_of_row _ _ 2 _ _ _ xb; go_simp <;> first | with_reducible rfl | rfl)
    simp only [Act.put, List.setIfInBounds_toArray, List.set_cons_zero, List.set_cons_succ]
    refine take_on (i := 1) (v := ?_) rfl rfl (by kernel_rfl) (by kernel_rfl) (by kernel_rfl) (fun _ _ _ h => h) rfl ?_ hHeld ?_
    rotate_left
    · (intro wq hSq; have xk := hSq.2.1.trans k9; have s0 := cell_of_row _ _ 0 _ _ _ xk; have s1 := cell_of_row _ _ 1 _ _ _ xk; have s2 := cell_of_row _ _ 2 _ _ _ xk; have s3 := cell_of_row _ _ 3 _ _ _ xk; have xq := hSq.1.trans kq9; have r0 := cell_of_row _ _ 0 _ _ _ xq; have r1 := cell_of_row _ _ 1 _ _ _ xq; have xb := hSq.2.2.trans kb; have q0 := cell_of_row _ _ 0 _ _ _ xb; have q1 := cell_of_row _ _ 1 _ _ _ xb; have q2 := cell_of_row _ _ 2 _ _ _ xb; go_simp <;> first | with_reducible rfl | rfl)
    simp only [Act.put, List.setIfInBounds_toArray, List.set_cons_zero, List.set_cons_succ]
    refine take_on (i := 2) (v := ?_) rfl rfl (by kernel_rfl) (by kernel_rfl) (by kernel_rfl) (fun _ _ _ h => h) rfl ?_ hHeld ?_
    rotate_left
    · (intro wq hSq; have xk := hSq.2.1.trans k9; have s0 := cell_of_row _ _ 0 _ _ _ xk; have s1 := cell_of_row _ _ 1 _ _ _ xk; have s2 := cell_of_row _ _ 2 _ _ _ xk; have s3 := cell_of_row _ _ 3 _ _ _ xk; have xq := hSq.1.trans kq9; have r0 := cell_of_row _ _ 0 _ _ _ xq; have r1 := cell_of_row _ _ 1 _ _ _ xq; have xb := hSq.2.2.trans kb; have q0 := cell_of_row _ _ 0 _ _ _ xb; have q1 := cell_of_row _ _ 1 _ _ _ xb; have q2 := cell_of_row _ _ 2 _ _ _ xb; go_simp <;> first | with_reducible rfl | rfl)
    simp only [Act.put, List.setIfInBounds_toArray, List.set_cons_zero, List.set_cons_succ]
    refine take_on (i := 3) (v := ?_) rfl rfl (by kernel_rfl) (by kernel_rfl) (by kernel_rfl) (fun _ _ _ h => h) rfl ?_ hHeld ?_
    rotate_left
    · (intro wq hSq; have xk := hSq.2.1.trans k9; have s0 := cell_of_row _ _ 0 _ _ _ xk; have s1 := cell_of_row _ _ 1 _ _ _ xk; have s2 := cell_of_row _ _ 2 _ _ _ xk; have s3 := cell_of_row _ _ 3 _ _ _ xk; have xq := hSq.1.trans kq9; have r0 := cell_of_row _ _ 0 _ _ _ xq; have r1 := cell_of_row _ _ 1 _ _ _ xq; have xb := hSq.2.2.trans kb; have q0 := cell_of_row _ _ 0 _ _ _ xb; have q1 := cell_of_row _ _ 1 _ _ _ xb; have q2 := cell_of_row _ _ 2 _ _ _ xb; go_simp <;> first | with_reducible rfl | rfl)
    simp only [Act.put, List.setIfInBounds_toArray, List.set_cons_zero, List.set_cons_succ]
    refine take_on (i := 4) (v := ?_) rfl rfl (by kernel_rfl) (by kernel_rfl) (by kernel_rfl) (fun _ _ _ h => h) rfl ?_ hHeld ?_
    rotate_left
    · (intro wq hSq; have xk := hSq.2.1.trans k9; have s0 := cell_of_row _ _ 0 _ _ _ xk; have s1 := cell_of_row _ _ 1 _ _ _ xk; have s2 := cell_of_row _ _ 2 _ _ _ xk; have s3 := cell_of_row _ _ 3 _ _ _ xk; have xq := hSq.1.trans kq9; have r0 := cell_of_row _ _ 0 _ _ _ xq; have r1 := cell_of_row _ _ 1 _ _ _ xq; have xb := hSq.2.2.trans kb; have q0 := cell_of_row _ _ 0 _ _ _ xb; have q1 := cell_of_row _ _ 1 _ _ _ xb; have q2 := cell_of_row _ _ 2 _ _ _ xb; go_simp <;> first | with_reducible rfl | rfl)
    simp only [Act.put, List.setIfInBounds_toArray, List.set_cons_zero, List.set_cons_succ]
    refine take_on (i := 5) (v := ?_) rfl rfl (by kernel_rfl) (by kernel_rfl) (by kernel_rfl) (fun _ _ _ h => h) rfl ?_ hHeld ?_
    rotate_left
    · (intro wq hSq; have xk := hSq.2.1.trans k9; have s0 := cell_of_row _ _ 0 _ _ _ xk; have s1 := cell_of_row _ _ 1 _ _ _ xk; have s2 := cell_of_row _ _ 2 _ _ _ xk; have s3 := cell_of_row _ _ 3 _ _ _ xk; have xq := hSq.1.trans kq9; have r0 := cell_of_row _ _ 0 _ _ _ xq; have r1 := cell_of_row _ _ 1 _ _ _ xq; have xb := hSq.2.2.trans kb; have q0 := cell_of_row _ _ 0 _ _ _ xb; have q1 := cell_of_row _ _ 1 _ _ _ xb; have q2 := cell_of_row _ _ 2 _ _ _ xb; go_simp <;> first | with_reducible rfl | rfl)
    simp only [Act.put, List.setIfInBounds_toArray, List.set_cons_zero, List.set_cons_succ]
    refine take_on (i := 6) (v := ?_) rfl rfl (by kernel_rfl) (by kernel_rfl) (by kernel_rfl) (fun _ _ _ h => h) rfl ?_ hHeld ?_
    rotate_left
    · (intro wq hSq; have xk := hSq.2.1.trans k9; have s0 := cell_of_row _ _ 0 _ _ _ xk; have s1 := cell_of_row _ _ 1 _ _ _ xk; have s2 := cell_of_row _ _ 2 _ _ _ xk; have s3 := cell_of_row _ _ 3 _ _ _ xk; have xq := hSq.1.trans kq9; have r0 := cell_of_row _ _ 0 _ _ _ xq; have r1 := cell_of_row _ _ 1 _ _ _ xq; have xb := hSq.2.2.trans kb; have q0 := cell_of_row _ _ 0 _ _ _ xb; have q1 := cell_of_row _ _ 1 _ _ _ xb; have q2 := cell_of_row _ _ 2 _ _ _ xb; go_simp <;> first | with_reducible rfl | rfl)
    simp only [Act.put, List.setIfInBounds_toArray, List.set_cons_zero, List.set_cons_succ]
    refine take_on (i := 7) (v := ?_) rfl rfl (by kernel_rfl) (by kernel_rfl) (by kernel_rfl) (fun _ _ _ h => h) rfl ?_ hHeld ?_
    rotate_left
    · (intro wq hSq; have xk := hSq.2.1.trans k9; have s0 := cell_of_row _ _ 0 _ _ _ xk; have s1 := cell_of_row _ _ 1 _ _ _ xk; have s2 := cell_of_row _ _ 2 _ _ _ xk; have s3 := cell_of_row _ _ 3 _ _ _ xk; have xq := hSq.1.trans kq9; have r0 := cell_of_row _ _ 0 _ _ _ xq; have r1 := cell_of_row _ _ 1 _ _ _ xq; have xb := hSq.2.2.trans kb; have q0 := cell_of_row _ _ 0 _ _ _ xb; have q1 := cell_of_row _ _ 1 _ _ _ xb; have q2 := cell_of_row _ _ 2 _ _ _ xb; go_simp <;> first | with_reducible rfl | rfl)
    simp only [Act.put, List.setIfInBounds_toArray, List.set_cons_zero, List.set_cons_succ]
    refine take_on (i := 8) (v := ?_) rfl rfl (by kernel_rfl) (by kernel_rfl) (by kernel_rfl) (fun _ _ _ h => h) rfl ?_ hHeld ?_
    rotate_left
    · (intro wq hSq; have xk := hSq.2.1.trans k9; have s0 := cell_of_row _ _ 0 _ _ _ xk; have s1 := cell_of_row _ _ 1 _ _ _ xk; have s2 := cell_of_row _ _ 2 _ _ _ xk; have s3 := cell_of_row _ _ 3 _ _ _ xk; have xq := hSq.1.trans kq9; have r0 := cell_of_row _ _ 0 _ _ _ xq; have r1 := cell_of_row _ _ 1 _ _ _ xq; have xb := hSq.2.2.trans kb; have q0 := cell_of_row _ _ 0 _ _ _ xb; have q1 := cell_of_row _ _ 1 _ _ _ xb; have q2 := cell_of_row _ _ 2 _ _ _ xb; go_simp <;> first | with_reducible rfl | rfl)
    simp only [Act.put, List.setIfInBounds_toArray, List.set_cons_zero, List.set_cons_succ]
    refine take_one (i := 9) rfl (by kernel_rfl) (fun K hK => ?_)
    go_simp
    (refine (hrat _ hy0').mono ?_; rintro e y1 ⟨rfl, hy1⟩; have hy1 := hy0.trans (hy1.mono hy0.size))
    try go_wp2_with fail
    refine hK.out _ _ ?_ (fun hHeld => ?_)
    · exact ⟨hy1.block q hq9, hy1.block w.heap.size hbl9, hy1.block B hB9⟩
    clear hK K
    try simp only [Act.put, List.setIfInBounds_toArray, List.set_cons_zero, List.set_cons_succ]
    refine take_one (i := 10) rfl (by kernel_rfl) (fun K hK => ?_)
    go_simp
    (refine (hpat _ (hb9.trans (hy1.mono hz9))).mono ?_; rintro e y2 ⟨rfl, hy2⟩; have hy2 := hy1.trans (hy2.mono hy1.size))
    try go_wp2_with fail
    refine hK.out _ _ ?_ (fun hHeld => ?_)
    · exact ⟨hy2.block q hq9, hy2.block w.heap.size hbl9, hy2.block B hB9⟩
    clear hK K
    try simp only [Act.put, List.setIfInBounds_toArray, List.set_cons_zero, List.set_cons_succ]
    refine take_on (i := 11) (v := ?_) rfl rfl (by kernel_rfl) (by kernel_rfl) (by kernel_rfl) (fun _ _ _ h => h) rfl ?_ hHeld ?_
    rotate_left
    · (intro wq hSq; have xk := hSq.2.1.trans k9; have s0 := cell_of_row _ _ 0 _ _ _ xk; have s1 := cell_of_row _ _ 1 _ _ _ xk; have s2 := cell_of_row _ _ 2 _ _ _ xk; have s3 := cell_of_row _ _ 3 _ _ _ xk; have xq := hSq.1.trans kq9; have r0 := cell_of_row _ _ 0 _ _ _ xq; have r1 := cell_of_row _ _ 1 _ _ _ xq; have xb := hSq.2.2.trans kb; have q0 := cell_of_row _ _ 0 _ _ _ xb; have q1 := cell_of_row _ _ 1 _ _ _ xb; have q2 := cell_of_row _ _ 2 _ _ _ xb; go_simp <;> first | with_reducible rfl | rfl)
    simp only [Act.put, List.setIfInBounds_toArray, List.set_cons_zero, List.set_cons_succ]
    refine wpAnyH_done (by kernel_rfl) ?_ _
    have HY := hide_it (HB.out.trans ((hb9.trans (hy2.mono hz9)).mono HB.out.size))
    clear hy0 hy1 hy2 hb9 hrat hpat hat hy0'
    go_wp2
    go_ret
    exact ⟨rfl, StepTo.same HH.out HY.out⟩
  · go_simp
    skip
    try go_wp2_with fail
    refine hK.out _ _ ?_ (fun hHeld => ?_)
    · exact ⟨Below.heap_alloc W _ q hq, Below.heap_alloc W _ _ hbl⟩
    clear hK K
    try simp only [Act.put, List.setIfInBounds_toArray, List.set_cons_zero, List.set_cons_succ]
    refine take_one (i := 6) rfl (by kernel_rfl) (fun K hK => ?_)
    go_simp
    (have hyA : Below W.heap.size W (W.alloc (.cells #[.int .i64 0, .string ⟨#[]⟩, .bool false] 32)).drew := ((Below.refl _ _).alloc (Nat.le_refl _) _).drew; refine (hat _ hyA).mono ?_; rintro e z1 ⟨rfl, hz1⟩; have hsA : (W.alloc (.cells #[.int .i64 0, .string ⟨#[]⟩, .bool false] 32)).drew.heap.size = W.heap.size + 1 := (by simp [World.drew]); have hy1 := hyA.trans (hz1.mono hyA.size); have kz : z1.heap[W.heap.size]? = _ := (hz1.block W.heap.size (by omega)).trans (heap_alloc_new W _); have zz0 := cell_of_row z1 _ 0 _ _ _ kz; have zz1 := cell_of_row z1 _ 1 _ _ _ kz; have zz2 := cell_of_row z1 _ 2 _ _ _ kz; have zzf : ∀ j, z1.frozen? ⟨W.heap.size, j, none⟩ = false := fun j => frozen_of_row _ _ _ _ _ kz)
    try go_wp2_with fail
    refine hK.out _ _ ?_ (fun hHeld => ?_)
    · exact ⟨hy1.block q hq, hy1.block w.heap.size hbl⟩
    clear hK K
    try simp only [Act.put, List.setIfInBounds_toArray, List.set_cons_zero, List.set_cons_succ]
    refine take_on (i := 7) (v := ?_) rfl rfl (by kernel_rfl) (by kernel_rfl) (by kernel_rfl) (fun _ _ _ h => h) rfl ?_ hHeld ?_
    rotate_left
    · (intro wq hSq; have xk := hSq.2.trans k0; have s0 := cell_of_row _ _ 0 _ _ _ xk; have s1 := cell_of_row _ _ 1 _ _ _ xk; have s2 := cell_of_row _ _ 2 _ _ _ xk; have s3 := cell_of_row _ _ 3 _ _ _ xk; have xq := hSq.1.trans kq; have r0 := cell_of_row _ _ 0 _ _ _ xq; have r1 := cell_of_row _ _ 1 _ _ _ xq; go_simp <;> first | with_reducible rfl | rfl)
    simp only [Act.put, List.setIfInBounds_toArray, List.set_cons_zero, List.set_cons_succ]
    refine take_on (i := 8) (v := ?_) rfl rfl (by kernel_rfl) (by kernel_rfl) (by kernel_rfl) (fun _ _ _ h => h) rfl ?_ hHeld ?_
    rotate_left
    · (intro wq hSq; have xk := hSq.2.trans k0; have s0 := cell_of_row _ _ 0 _ _ _ xk; have s1 := cell_of_row _ _ 1 _ _ _ xk; have s2 := cell_of_row _ _ 2 _ _ _ xk; have s3 := cell_of_row _ _ 3 _ _ _ xk; have xq := hSq.1.trans kq; have r0 := cell_of_row _ _ 0 _ _ _ xq; have r1 := cell_of_row _ _ 1 _ _ _ xq; go_simp <;> first | with_reducible rfl | rfl)
    simp only [Act.put, List.setIfInBounds_toArray, List.set_cons_zero, List.set_cons_succ]
    refine take_on (i := 9) (v := ?_) rfl rfl (by kernel_rfl) (by kernel_rfl) (by kernel_rfl) (fun _ _ _ h => h) rfl ?_ hHeld ?_
    rotate_left
    · (intro wq hSq; have xk := hSq.2.trans k0; have s0 := cell_of_row _ _ 0 _ _ _ xk; have s1 := cell_of_row _ _ 1 _ _ _ xk; have s2 := cell_of_row _ _ 2 _ _ _ xk; have s3 := cell_of_row _ _ 3 _ _ _ xk; have xq := hSq.1.trans kq; have r0 := cell_of_row _ _ 0 _ _ _ xq; have r1 := cell_of_row _ _ 1 _ _ _ xq; go_simp <;> first | with_reducible rfl | rfl)
    simp only [Act.put, List.setIfInBounds_toArray, List.set_cons_zero, List.set_cons_succ]
    refine take_one (i := 11) rfl (by kernel_rfl) (fun K hK => ?_)
    go_simp
    skip
    try go_wp2_with fail
    refine hK.out _ _ ?_ (fun hHeld => ?_)
    · exact ⟨((((hy1.setCell (p := ⟨W.heap.size, 0, none⟩) (Nat.le_refl _) _).setCell (p := ⟨W.heap.size, 1, none⟩) (Nat.le_refl _) _).setCell (p := ⟨W.heap.size, 2, none⟩) (Nat.le_refl _) _).block q hq), ((((hy1.setCell (p := ⟨W.heap.size, 0, none⟩) (Nat.le_refl _) _).setCell (p := ⟨W.heap.size, 1, none⟩) (Nat.le_refl _) _).setCell (p := ⟨W.heap.size, 2, none⟩) (Nat.le_refl _) _).block _ hbl)⟩
    clear hK K
    try simp only [Act.put, List.setIfInBounds_toArray, List.set_cons_zero, List.set_cons_succ]
    refine take_on (i := 12) (v := ?_) rfl rfl (by kernel_rfl) (by kernel_rfl) (by kernel_rfl) (fun _ _ _ h => h) rfl ?_ hHeld ?_
    rotate_left
    · (intro wq hSq; have xk := hSq.2.trans k0; have s0 := cell_of_row _ _ 0 _ _ _ xk; have s1 := cell_of_row _ _ 1 _ _ _ xk; have s2 := cell_of_row _ _ 2 _ _ _ xk; have s3 := cell_of_row _ _ 3 _ _ _ xk; have xq := hSq.1.trans kq; have r0 := cell_of_row _ _ 0 _ _ _ xq; have r1 := cell_of_row _ _ 1 _ _ _ xq; go_simp <;> first | with_reducible rfl | rfl)
    simp only [Act.put, List.setIfInBounds_toArray, List.set_cons_zero, List.set_cons_succ]
    refine wpAnyH_done (by kernel_rfl) ?_ _
    have hW9 : Below W.heap.size W (((z1.setCell ⟨W.heap.size, 0, none⟩ (.int .i64 X.n)).setCell ⟨W.heap.size, 1, none⟩ (.string X.v)).setCell ⟨W.heap.size, 2, none⟩ (.bool X.d)) ∧ (((z1.setCell ⟨W.heap.size, 0, none⟩ (.int .i64 X.n)).setCell ⟨W.heap.size, 1, none⟩ (.string X.v)).setCell ⟨W.heap.size, 2, none⟩ (.bool X.d)).heap[W.heap.size]? = some (.cells #[.int .i64 X.n, .string X.v, .bool X.d] 32 (0, 0)) := ⟨((hy1.setCell (p := ⟨W.heap.size, 0, none⟩) (Nat.le_refl _) _).setCell (p := ⟨W.heap.size, 1, none⟩) (Nat.le_refl _) _).setCell (p := ⟨W.heap.size, 2, none⟩) (Nat.le_refl _) _, box3 z1 _ _ _ _ _ _ kz⟩
    obtain ⟨hb9, kb⟩ := hW9
    obtain ⟨W9, e9⟩ : ∃ W9, W9 = ((z1.setCell ⟨W.heap.size, 0, none⟩ (.int .i64 X.n)).setCell ⟨W.heap.size, 1, none⟩ (.string X.v)).setCell ⟨W.heap.size, 2, none⟩ (.bool X.d) := ⟨_, rfl⟩
    rw [← e9] at hb9 kb ⊢
    clear e9
    obtain ⟨B, eB⟩ : ∃ B, B = W.heap.size := ⟨_, rfl⟩
    rw [← eB] at kb ⊢
    clear eB
    have k9 := (hb9.block w.heap.size hbl).trans k0
    have kq9 := (hb9.block q hq).trans kq
    have hz9 := hb9.size
    have hbl9 : w.heap.size < W9.heap.size := by omega
    have hq9 : q < W9.heap.size := by omega
    have hB9 := (Array.getElem?_eq_some_iff.1 kb).1
    have hy0 := (Below.refl W9.heap.size W9).drew
    have hy0' := hb9.trans (hy0.mono hz9)
    go_wp2_with fail
    refine wp_region_held_drew (S := (fun w' => w'.heap[q]? = W9.heap[q]? ∧ w'.heap[w.heap.size]? = W9.heap[w.heap.size]? ∧ w'.heap[B]? = W9.heap[B]?)) (by kernel_rfl) ?_ (fun hHeld => ?_)
    · exact ⟨rfl, rfl, rfl⟩
    refine take_on (i := 0) (v := ?_) rfl rfl (by kernel_rfl) (by kernel_rfl) (by kernel_rfl) (fun _ _ _ h => h) rfl ?_ hHeld ?_
    rotate_left
    · (intro wq hSq; have xk := hSq.2.1.trans k9; have s0 := cell_of_row _ _ 0 _ _ _ xk; have s1 := cell_of_row _ _ 1 _ _ _ xk; have s2 := cell_of_row _ _ 2 _ _ _ xk; have s3 := cell_of_row _ _ 3 _ _ _ xk; have xq := hSq.1.trans kq9; have r0 := cell_of_row _ _ 0 _ _ _ xq; have r1 := cell_of_row _ _ 1 _ _ _ xq; have xb := hSq.2.2.trans kb; have q0 := cell_of_row _ _ 0 _ _ _ xb; have q1 := cell_of_row _ _ 1 _ _ _ xb; have q2 := cell_of_row _ _ 2 _ _ _ xb; go_simp <;> first | with_reducible rfl | rfl)
    simp only [Act.put, List.setIfInBounds_toArray, List.set_cons_zero, List.set_cons_succ]
    refine take_on (i := 1) (v := ?_) rfl rfl (by kernel_rfl) (by kernel_rfl) (by kernel_rfl) (fun _ _ _ h => h) rfl ?_ hHeld ?_
    rotate_left
    · (intro wq hSq; have xk := hSq.2.1.trans k9; have s0 := cell_of_row _ _ 0 _ _ _ xk; have s1 := cell_of_row _ _ 1 _ _ _ xk; have s2 := cell_of_row _ _ 2 _ _ _ xk; have s3 := cell_of_row _ _ 3 _ _ _ xk; have xq := hSq.1.trans kq9; have r0 := cell_of_row _ _ 0 _ _ _ xq; have r1 := cell_of_row _ _ 1 _ _ _ xq; have xb := hSq.2.2.trans kb; have q0 := cell_of_row _ _ 0 _ _ _ xb; have q1 := cell_of_row _ _ 1 _ _ _ xb; have q2 := cell_of_row _ _ 2 _ _ _ xb; go_simp <;> first | with_reducible rfl | rfl)
    simp only [Act.put, List.setIfInBounds_toArray, List.set_cons_zero, List.set_cons_succ]
    refine take_on (i := 2) (v := ?_) rfl rfl (by kernel_rfl) (by kernel_rfl) (by kernel_rfl) (fun _ _ _ h => h) rfl ?_ hHeld ?_
    rotate_left
    · (intro wq hSq; have xk := hSq.2.1.trans k9; have s0 := cell_of_row _ _ 0 _ _ _ xk; have s1 := cell_of_row _ _ 1 _ _ _ xk; have s2 := cell_of_row _ _ 2 _ _ _ xk; have s3 := cell_of_row _ _ 3 _ _ _ xk; have xq := hSq.1.trans kq9; have r0 := cell_of_row _ _ 0 _ _ _ xq; have r1 := cell_of_row _ _ 1 _ _ _ xq; have xb := hSq.2.2.trans kb; have q0 := cell_of_row _ _ 0 _ _ _ xb; have q1 := cell_of_row _ _ 1 _ _ _ xb; have q2 := cell_of_row _ _ 2 _ _ _ xb; go_simp <;> first | with_reducible rfl | rfl)
    simp only [Act.put, List.setIfInBounds_toArray, List.set_cons_zero, List.set_cons_succ]
    refine take_on (i := 3) (v := ?_) rfl rfl (by kernel_rfl) (by kernel_rfl) (by kernel_rfl) (fun _ _ _ h => h) rfl ?_ hHeld ?_
    rotate_left
    · (intro wq hSq; have xk := hSq.2.1.trans k9; have s0 := cell_of_row _ _ 0 _ _ _ xk; have s1 := cell_of_row _ _ 1 _ _ _ xk; have s2 := cell_of_row _ _ 2 _ _ _ xk; have s3 := cell_of_row _ _ 3 _ _ _ xk; have xq := hSq.1.trans kq9; have r0 := cell_of_row _ _ 0 _ _ _ xq; have r1 := cell_of_row _ _ 1 _ _ _ xq; have xb := hSq.2.2.trans kb; have q0 := cell_of_row _ _ 0 _ _ _ xb; have q1 := cell_of_row _ _ 1 _ _ _ xb; have q2 := cell_of_row _ _ 2 _ _ _ xb; go_simp <;> first | with_reducible rfl | rfl)
    simp only [Act.put, List.setIfInBounds_toArray, List.set_cons_zero, List.set_cons_succ]
    refine take_on (i := 4) (v := ?_) rfl rfl (by kernel_rfl) (by kernel_rfl) (by kernel_rfl) (fun _ _ _ h => h) rfl ?_ hHeld ?_
    rotate_left
    · (intro wq hSq; have xk := hSq.2.1.trans k9; have s0 := cell_of_row _ _ 0 _ _ _ xk; have s1 := cell_of_row _ _ 1 _ _ _ xk; have s2 := cell_of_row _ _ 2 _ _ _ xk; have s3 := cell_of_row _ _ 3 _ _ _ xk; have xq := hSq.1.trans kq9; have r0 := cell_of_row _ _ 0 _ _ _ xq; have r1 := cell_of_row _ _ 1 _ _ _ xq; have xb := hSq.2.2.trans kb; have q0 := cell_of_row _ _ 0 _ _ _ xb; have q1 := cell_of_row _ _ 1 _ _ _ xb; have q2 := cell_of_row _ _ 2 _ _ _ xb; go_simp <;> first | with_reducible rfl | rfl)
    simp only [Act.put, List.setIfInBounds_toArray, List.set_cons_zero, List.set_cons_succ]
    refine take_on (i := 5) (v := ?_) rfl rfl (by kernel_rfl) (by kernel_rfl) (by kernel_rfl) (fun _ _ _ h => h) rfl ?_ hHeld ?_
    rotate_left
    · (intro wq hSq; have xk := hSq.2.1.trans k9; have s0 := cell_of_row _ _ 0 _ _ _ xk; have s1 := cell_of_row _ _ 1 _ _ _ xk; have s2 := cell_of_row _ _ 2 _ _ _ xk; have s3 := cell_of_row _ _ 3 _ _ _ xk; have xq := hSq.1.trans kq9; have r0 := cell_of_row _ _ 0 _ _ _ xq; have r1 := cell_of_row _ _ 1 _ _ _ xq; have xb := hSq.2.2.trans kb; have q0 := cell_of_row _ _ 0 _ _ _ xb; have q1 := cell_of_row _ _ 1 _ _ _ xb; have q2 := cell_of_row _ _ 2 _ _ _ xb; go_simp <;> first | with_reducible rfl | rfl)
    simp only [Act.put, List.setIfInBounds_toArray, List.set_cons_zero, List.set_cons_succ]
    refine take_on (i := 6) (v := ?_) rfl rfl (by kernel_rfl) (by kernel_rfl) (by kernel_rfl) (fun _ _ _ h => h) rfl ?_ hHeld ?_
    rotate_left
    · (intro wq hSq; have xk := hSq.2.1.trans k9; have s0 := cell_of_row _ _ 0 _ _ _ xk; have s1 := cell_of_row _ _ 1 _ _ _ xk; have s2 := cell_of_row _ _ 2 _ _ _ xk; have s3 := cell_of_row _ _ 3 _ _ _ xk; have xq := hSq.1.trans kq9; have r0 := cell_of_row _ _ 0 _ _ _ xq; have r1 := cell_of_row _ _ 1 _ _ _ xq; have xb := hSq.2.2.trans kb; have q0 := cell_of_row _ _ 0 _ _ _ xb; have q1 := cell_of_row _ _ 1 _ _ _ xb; have q2 := cell_of_row _ _ 2 _ _ _ xb; go_simp <;> first | with_reducible rfl | rfl)
    simp only [Act.put, List.setIfInBounds_toArray, List.set_cons_zero, List.set_cons_succ]
    refine take_on (i := 7) (v := ?_) rfl rfl (by kernel_rfl) (by kernel_rfl) (by kernel_rfl) (fun _ _ _ h => h) rfl ?_ hHeld ?_
    rotate_left
    · (intro wq hSq; have xk := hSq.2.1.trans k9; have s0 := cell_of_row _ _ 0 _ _ _ xk; have s1 := cell_of_row _ _ 1 _ _ _ xk; have s2 := cell_of_row _ _ 2 _ _ _ xk; have s3 := cell_of_row _ _ 3 _ _ _ xk; have xq := hSq.1.trans kq9; have r0 := cell_of_row _ _ 0 _ _ _ xq; have r1 := cell_of_row _ _ 1 _ _ _ xq; have xb := hSq.2.2.trans kb; have q0 := cell_of_row _ _ 0 _ _ _ xb; have q1 := cell_of_row _ _ 1 _ _ _ xb; have q2 := cell_of_row _ _ 2 _ _ _ xb; go_simp <;> first | with_reducible rfl | rfl)
    simp only [Act.put, List.setIfInBounds_toArray, List.set_cons_zero, List.set_cons_succ]
    refine take_on (i := 8) (v := ?_) rfl rfl (by kernel_rfl) (by kernel_rfl) (by kernel_rfl) (fun _ _ _ h => h) rfl ?_ hHeld ?_
    rotate_left
    · (intro wq hSq; have xk := hSq.2.1.trans k9; have s0 := cell_of_row _ _ 0 _ _ _ xk; have s1 := cell_of_row _ _ 1 _ _ _ xk; have s2 := cell_of_row _ _ 2 _ _ _ xk; have s3 := cell_of_row _ _ 3 _ _ _ xk; have xq := hSq.1.trans kq9; have r0 := cell_of_row _ _ 0 _ _ _ xq; have r1 := cell_of_row _ _ 1 _ _ _ xq; have xb := hSq.2.2.trans kb; have q0 := cell_of_row _ _ 0 _ _ _ xb; have q1 := cell_of_row _ _ 1 _ _ _ xb; have q2 := cell_of_row _ _ 2 _ _ _ xb; go_simp <;> first | with_reducible rfl | rfl)
    simp only [Act.put, List.setIfInBounds_toArray, List.set_cons_zero, List.set_cons_succ]
    refine take_one (i := 9) rfl (by kernel_rfl) (fun K hK => ?_)
    go_simp
    (refine (hrat _ hy0').mono ?_; rintro e y1 ⟨rfl, hy1⟩; have hy1 := hy0.trans (hy1.mono hy0.size))
    try go_wp2_with fail
    refine hK.out _ _ ?_ (fun hHeld => ?_)
    · exact ⟨hy1.block q hq9, hy1.block w.heap.size hbl9, hy1.block B hB9⟩
    clear hK K
    try simp only [Act.put, List.setIfInBounds_toArray, List.set_cons_zero, List.set_cons_succ]
    refine take_one (i := 10) rfl (by kernel_rfl) (fun K hK => ?_)
    go_simp
    (refine (hpat _ (hb9.trans (hy1.mono hz9))).mono ?_; rintro e y2 ⟨rfl, hy2⟩; have hy2 := hy1.trans (hy2.mono hy1.size))
    try go_wp2_with fail
    refine hK.out _ _ ?_ (fun hHeld => ?_)
    · exact ⟨hy2.block q hq9, hy2.block w.heap.size hbl9, hy2.block B hB9⟩
    clear hK K
    try simp only [Act.put, List.setIfInBounds_toArray, List.set_cons_zero, List.set_cons_succ]
    refine take_on (i := 11) (v := ?_) rfl rfl (by kernel_rfl) (by kernel_rfl) (by kernel_rfl) (fun _ _ _ h => h) rfl ?_ hHeld ?_
    rotate_left
    · (intro wq hSq; have xk := hSq.2.1.trans k9; have s0 := cell_of_row _ _ 0 _ _ _ xk; have s1 := cell_of_row _ _ 1 _ _ _ xk; have s2 := cell_of_row _ _ 2 _ _ _ xk; have s3 := cell_of_row _ _ 3 _ _ _ xk; have xq := hSq.1.trans kq9; have r0 := cell_of_row _ _ 0 _ _ _ xq; have r1 := cell_of_row _ _ 1 _ _ _ xq; have xb := hSq.2.2.trans kb; have q0 := cell_of_row _ _ 0 _ _ _ xb; have q1 := cell_of_row _ _ 1 _ _ _ xb; have q2 := cell_of_row _ _ 2 _ _ _ xb; go_simp <;> first | with_reducible rfl | rfl)
    simp only [Act.put, List.setIfInBounds_toArray, List.set_cons_zero, List.set_cons_succ]
    refine wpAnyH_done (by kernel_rfl) ?_ _
    have HY := hide_it (HB.out.trans ((hb9.trans (hy2.mono hz9)).mono HB.out.size))
    clear hy0 hy1 hy2 hb9 hrat hpat hat hy0'
    go_wp2
    go_ret
    exact ⟨rfl, StepTo.same HH.out HY.out⟩

end Go.Proofs.Ytncmnhomloanaab

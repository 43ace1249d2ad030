/- A step done to a chain and to the document's list: Last, and any step. -/
import Derived.Test.YtncmnhomloanaabHp3
namespace Go.Proofs.Ytncmnhomloanaab
open Go.RowKit

set_option maxRecDepth 100000 in
set_option maxHeartbeats 4000000 in
theorem step3_any {w : World} {F : Nat → Prop} {q p : Nat} {v d : Value} {xs : List Lk} (h : Pr w F q p v d xs) (hl : xs.length ≤ 3600000000000) (s : Stc) (_hs : -9223372036854775808 ≤ s.n ∧ s.n ≤ 9223372036854775807) :
    Calls Try.prog 16 #[.pointer (some ⟨q, 0, none⟩), .agg #[.int .i64 3, .int .i64 s.n, .string s.v, .bool s.d]] w fun e w' => e = .returned (.bool true) ∧ StepTo w F q p xs w' := by
  obtain ⟨W, hW, hb, hz, k0⟩ := step_box w 3 s.n s.v s.d
  have hP := h.below hb
  have hlt := h.lt
  have hbl : w.heap.size < W.heap.size := by omega
  have hq := hP.qlt
  have hqb : ¬ q = w.heap.size := by have := h.qlt; omega
  have kq := hP.hq
  obtain ⟨X, bb, pl, hla, hpl, hpat⟩ : ∃ (X : Lk) (bb : Bool) (pl : Int),
      (∀ z, Below W.heap.size W z → Calls Try.prog 22 #[.pointer (some ⟨p, 0, none⟩)] z fun e w' => e = .returned (.tuple #[.agg #[.int .i64 X.n, .string X.v, .bool X.d], .bool bb]) ∧ Below z.heap.size z w') ∧
      IntKind.i64.wrap ((xs.length : Int) - 1) = pl ∧
      (∀ z, Below W.heap.size W z → Calls Try.prog 29 #[.pointer (some ⟨q, 0, none⟩), .agg #[.int .i64 X.n, .string X.v, .bool X.d], .bool bb, .int .i64 pl] z fun e w' => e = .returned (.bool true) ∧ Below z.heap.size z w') := by
    have ha := fun z (hz2 : Below W.heap.size W z) => last_any (hP.below hz2).hn (by omega)
    by_cases hU : xs.length = 0
    · rw [hU] at ha
      exact ⟨zeroLk, false, -1, ha, by rw [hU]; rfl, fun z _ => pat_none q z⟩
    · obtain ⟨m, hm⟩ : ∃ m, xs.length = m + 1 := ⟨xs.length - 1, by omega⟩
      have hmx : m < xs.length := by omega
      rw [hm] at ha
      refine ⟨lk xs m, true, (m : Int), ha, by rw [hm, i64_in (by omega) (by omega)]; omega, fun z hz2 => ?_⟩
      obtain ⟨a, cap, ev, hr, _⟩ := own_row (hP.below hz2).od
      have hc := (hP.below hz2).cells.2.1
      rw [ev] at hc
      exact pat_some q z hr hmx hc
  have HH := hide_it h
  have HB := hide_it hb
  obtain ⟨a, cap, ev, _⟩ := own_row hP.od
  subst ev
  replace hz := hide_it hz
  have r0 := h.cells.1
  have hq0 := h.qlt
  obtain ⟨N, hN⟩ : ∃ N, N = xs.length := ⟨_, rfl⟩
  rw [← hN] at hpl kq
  have hla := hla W (Below.refl _ _)
  clear hP h hN hl
  go_enter Try.func16, Try.ntmps16
  go_wp2_with fail
  rw [← hW]
  clear hW
  refine hla.mono ?_
  rintro e z1 ⟨rfl, hy1⟩
  clear hla r0 hq0
  have hW9 : Below W.heap.size W (z1.alloc (.cells #[.int .i64 X.n, .string X.v, .bool X.d] 32)) ∧ (z1.alloc (.cells #[.int .i64 X.n, .string X.v, .bool X.d] 32)).heap[z1.heap.size]? = some (.cells #[.int .i64 X.n, .string X.v, .bool X.d] 32 (0, 0)) := ⟨hy1.trans (((Below.refl _ _).alloc (Nat.le_refl _) _).mono hy1.size), heap_alloc_new z1 _⟩
  obtain ⟨hb9, kb⟩ := hW9
  obtain ⟨W9, e9⟩ : ∃ W9, W9 = z1.alloc (.cells #[.int .i64 X.n, .string X.v, .bool X.d] 32) := ⟨_, rfl⟩
  rw [← e9] at hb9 kb
  obtain ⟨B, eB⟩ : ∃ B, B = z1.heap.size := ⟨_, rfl⟩
  rw [← eB] at kb
  have k9 := (hb9.block w.heap.size hbl).trans k0
  have kq9 := (hb9.block q hq).trans kq
  have hz9 := hb9.size
  have hbl9 : w.heap.size < W9.heap.size := by omega
  have hq9 : q < W9.heap.size := by omega
  have hB9 := (Array.getElem?_eq_some_iff.1 kb).1
  have hy0 := (Below.refl W9.heap.size W9).drew
  have hy0' := hb9.trans (hy0.mono hz9)
  replace e9 := hide_it e9
  replace eB := hide_it eB
  go_wp2_with fail
  rw [← e9.out, ← eB.out]
  clear e9 eB hy1
  refine wp_region_held_drew (S := (fun w' => w'.heap[q]? = W9.heap[q]? ∧ w'.heap[w.heap.size]? = W9.heap[w.heap.size]? ∧ w'.heap[B]? = W9.heap[B]?)) (by kernel_rfl) ?_ (fun hHeld => ?_)
  · exact ⟨rfl, rfl, rfl⟩
  refine take_on (i := 0) (v := ?_) rfl rfl (by kernel_rfl) (by kernel_rfl) (by kernel_rfl) (fun _ _ _ h => h) rfl ?_ hHeld ?_
  rotate_left
  · (intro wq hSq; have xk := hSq.2.1.trans k9; have s0 := cell_of_row _ _ 0 _ _ _ xk; have s1 := cell_of_row _ _ 1 _ _ _ xk; have s2 := cell_of_row _ _ 2 _ _ _ xk; have s3 := cell_of_row _ _ 3 _ _ _ xk; have xq := hSq.1.trans kq9; have r0 := cell_of_row _ _ 0 _ _ _ xq; have r1 := cell_of_row _ _ 1 _ _ _ xq; have xb := hSq.2.2.trans kb; have q0 := cell_of_row _ _ 0 _ _ _ xb; have q1 := cell_of_row _ _ 1 _ _ _ xb; have q2 := cell_of_row _ _ 2 _ _ _ xb; go_simp <;> first | with_reducible rfl | rfl)
  simp only [Act.put, List.setIfInBounds_toArray, List.set_cons_zero, List.set_cons_succ]
  refine take_on (i := 1) (v := ?_) rfl rfl (by kernel_rfl) (by kernel_rfl) (by kernel_rfl) (fun _ _ _ h => h) rfl ?_ hHeld ?_
  rotate_left
  · (intro wq hSq; have xk := hSq.2.1.trans k9; have s0 := cell_of_row _ _ 0 _ _ _ xk; have s1 := cell_of_row _ _ 1 _ _ _ xk; have s2 := cell_of_row _ _ 2 _ _ _ xk; have s3 := cell_of_row _ _ 3 _ _ _ xk; have xq := hSq.1.trans kq9; have r0 := cell_of_row _ _ 0 _ _ _ xq; have r1 := cell_of_row _ _ 1 _ _ _ xq; have xb := hSq.2.2.trans kb; have q0 := cell_of_row _ _ 0 _ _ _ xb; have q1 := cell_of_row _ _ 1 _ _ _ xb; have q2 := cell_of_row _ _ 2 _ _ _ xb; go_simp <;> first | with_reducible rfl | rfl)
  simp only [Act.put, List.setIfInBounds_toArray, List.set_cons_zero, List.set_cons_succ]
  refine take_on (i := 2) (v := ?_) rfl rfl (by kernel_rfl) (by kernel_rfl) (by kernel_rfl) (fun _ _ _ h => h) rfl ?_ hHeld ?_
  rotate_left
  · (intro wq hSq; have xk := hSq.2.1.trans k9; have s0 := cell_of_row _ _ 0 _ _ _ xk; have s1 := cell_of_row _ _ 1 _ _ _ xk; have s2 := cell_of_row _ _ 2 _ _ _ xk; have s3 := cell_of_row _ _ 3 _ _ _ xk; have xq := hSq.1.trans kq9; have r0 := cell_of_row _ _ 0 _ _ _ xq; have r1 := cell_of_row _ _ 1 _ _ _ xq; have xb := hSq.2.2.trans kb; have q0 := cell_of_row _ _ 0 _ _ _ xb; have q1 := cell_of_row _ _ 1 _ _ _ xb; have q2 := cell_of_row _ _ 2 _ _ _ xb; go_simp <;> first | with_reducible rfl | rfl)
  simp only [Act.put, List.setIfInBounds_toArray, List.set_cons_zero, List.set_cons_succ]
  refine take_on (i := 3) (v := ?_) rfl rfl (by kernel_rfl) (by kernel_rfl) (by kernel_rfl) (fun _ _ _ h => h) rfl ?_ hHeld ?_
  rotate_left
  · (intro wq hSq; have xk := hSq.2.1.trans k9; have s0 := cell_of_row _ _ 0 _ _ _ xk; have s1 := cell_of_row _ _ 1 _ _ _ xk; have s2 := cell_of_row _ _ 2 _ _ _ xk; have s3 := cell_of_row _ _ 3 _ _ _ xk; have xq := hSq.1.trans kq9; have r0 := cell_of_row _ _ 0 _ _ _ xq; have r1 := cell_of_row _ _ 1 _ _ _ xq; have xb := hSq.2.2.trans kb; have q0 := cell_of_row _ _ 0 _ _ _ xb; have q1 := cell_of_row _ _ 1 _ _ _ xb; have q2 := cell_of_row _ _ 2 _ _ _ xb; go_simp <;> first | with_reducible rfl | rfl)
  simp only [Act.put, List.setIfInBounds_toArray, List.set_cons_zero, List.set_cons_succ]
  refine take_on (i := 4) (v := ?_) rfl rfl (by kernel_rfl) (by kernel_rfl) (by kernel_rfl) (fun _ _ _ h => h) rfl ?_ hHeld ?_
  rotate_left
  · (intro wq hSq; have xk := hSq.2.1.trans k9; have s0 := cell_of_row _ _ 0 _ _ _ xk; have s1 := cell_of_row _ _ 1 _ _ _ xk; have s2 := cell_of_row _ _ 2 _ _ _ xk; have s3 := cell_of_row _ _ 3 _ _ _ xk; have xq := hSq.1.trans kq9; have r0 := cell_of_row _ _ 0 _ _ _ xq; have r1 := cell_of_row _ _ 1 _ _ _ xq; have xb := hSq.2.2.trans kb; have q0 := cell_of_row _ _ 0 _ _ _ xb; have q1 := cell_of_row _ _ 1 _ _ _ xb; have q2 := cell_of_row _ _ 2 _ _ _ xb; go_simp <;> first | with_reducible rfl | rfl)
  simp only [Act.put, List.setIfInBounds_toArray, List.set_cons_zero, List.set_cons_succ]
  refine take_on (i := 5) (v := ?_) rfl rfl (by kernel_rfl) (by kernel_rfl) (by kernel_rfl) (fun _ _ _ h => h) rfl ?_ hHeld ?_
  rotate_left
  · (intro wq hSq; have xk := hSq.2.1.trans k9; have s0 := cell_of_row _ _ 0 _ _ _ xk; have s1 := cell_of_row _ _ 1 _ _ _ xk; have s2 := cell_of_row _ _ 2 _ _ _ xk; have s3 := cell_of_row _ _ 3 _ _ _ xk; have xq := hSq.1.trans kq9; have r0 := cell_of_row _ _ 0 _ _ _ xq; have r1 := cell_of_row _ _ 1 _ _ _ xq; have xb := hSq.2.2.trans kb; have q0 := cell_of_row _ _ 0 _ _ _ xb; have q1 := cell_of_row _ _ 1 _ _ _ xb; have q2 := cell_of_row _ _ 2 _ _ _ xb; go_simp <;> first | with_reducible rfl | rfl)
  simp only [Act.put, List.setIfInBounds_toArray, List.set_cons_zero, List.set_cons_succ]
  refine take_on (i := 6) (v := ?_) rfl rfl (by kernel_rfl) (by kernel_rfl) (by kernel_rfl) (fun _ _ _ h => h) rfl ?_ hHeld ?_
  rotate_left
  · (intro wq hSq; have xk := hSq.2.1.trans k9; have s0 := cell_of_row _ _ 0 _ _ _ xk; have s1 := cell_of_row _ _ 1 _ _ _ xk; have s2 := cell_of_row _ _ 2 _ _ _ xk; have s3 := cell_of_row _ _ 3 _ _ _ xk; have xq := hSq.1.trans kq9; have r0 := cell_of_row _ _ 0 _ _ _ xq; have r1 := cell_of_row _ _ 1 _ _ _ xq; have xb := hSq.2.2.trans kb; have q0 := cell_of_row _ _ 0 _ _ _ xb; have q1 := cell_of_row _ _ 1 _ _ _ xb; have q2 := cell_of_row _ _ 2 _ _ _ xb; go_simp <;> first | with_reducible rfl | rfl)
  simp only [Act.put, List.setIfInBounds_toArray, List.set_cons_zero, List.set_cons_succ]
  refine take_on (i := 7) (v := ?_) rfl rfl (by kernel_rfl) (by kernel_rfl) (by kernel_rfl) (fun _ _ _ h => h) rfl ?_ hHeld ?_
  rotate_left
  · (intro wq hSq; have xk := hSq.2.1.trans k9; have s0 := cell_of_row _ _ 0 _ _ _ xk; have s1 := cell_of_row _ _ 1 _ _ _ xk; have s2 := cell_of_row _ _ 2 _ _ _ xk; have s3 := cell_of_row _ _ 3 _ _ _ xk; have xq := hSq.1.trans kq9; have r0 := cell_of_row _ _ 0 _ _ _ xq; have r1 := cell_of_row _ _ 1 _ _ _ xq; have xb := hSq.2.2.trans kb; have q0 := cell_of_row _ _ 0 _ _ _ xb; have q1 := cell_of_row _ _ 1 _ _ _ xb; have q2 := cell_of_row _ _ 2 _ _ _ xb; go_simp <;> first | with_reducible rfl | rfl)
  simp only [Act.put, List.setIfInBounds_toArray, List.set_cons_zero, List.set_cons_succ]
  refine take_on (i := 8) (v := ?_) rfl rfl (by kernel_rfl) (by kernel_rfl) (by kernel_rfl) (fun _ _ _ h => h) rfl ?_ hHeld ?_
  rotate_left
  · (intro wq hSq; have xk := hSq.2.1.trans k9; have s0 := cell_of_row _ _ 0 _ _ _ xk; have s1 := cell_of_row _ _ 1 _ _ _ xk; have s2 := cell_of_row _ _ 2 _ _ _ xk; have s3 := cell_of_row _ _ 3 _ _ _ xk; have xq := hSq.1.trans kq9; have r0 := cell_of_row _ _ 0 _ _ _ xq; have r1 := cell_of_row _ _ 1 _ _ _ xq; have xb := hSq.2.2.trans kb; have q0 := cell_of_row _ _ 0 _ _ _ xb; have q1 := cell_of_row _ _ 1 _ _ _ xb; have q2 := cell_of_row _ _ 2 _ _ _ xb; go_simp <;> first | with_reducible rfl | rfl)
  simp only [Act.put, List.setIfInBounds_toArray, List.set_cons_zero, List.set_cons_succ]
  refine take_one (i := 9) rfl (by kernel_rfl) (fun K hK => ?_)
  go_simp
  (refine (hpat _ hy0').mono ?_; rintro e y2 ⟨rfl, hy2⟩; have hy2 := hy0.trans (hy2.mono hy0.size))
  try go_wp2_with fail
  refine hK.out _ _ ?_ (fun hHeld => ?_)
  · exact ⟨hy2.block q hq9, hy2.block w.heap.size hbl9, hy2.block B hB9⟩
  clear hK K
  try simp only [Act.put, List.setIfInBounds_toArray, List.set_cons_zero, List.set_cons_succ]
  refine take_on (i := 10) (v := ?_) rfl rfl (by kernel_rfl) (by kernel_rfl) (by kernel_rfl) (fun _ _ _ h => h) rfl ?_ hHeld ?_
  rotate_left
  · (intro wq hSq; have xk := hSq.2.1.trans k9; have s0 := cell_of_row _ _ 0 _ _ _ xk; have s1 := cell_of_row _ _ 1 _ _ _ xk; have s2 := cell_of_row _ _ 2 _ _ _ xk; have s3 := cell_of_row _ _ 3 _ _ _ xk; have xq := hSq.1.trans kq9; have r0 := cell_of_row _ _ 0 _ _ _ xq; have r1 := cell_of_row _ _ 1 _ _ _ xq; have xb := hSq.2.2.trans kb; have q0 := cell_of_row _ _ 0 _ _ _ xb; have q1 := cell_of_row _ _ 1 _ _ _ xb; have q2 := cell_of_row _ _ 2 _ _ _ xb; go_simp <;> first | with_reducible rfl | rfl)
  simp only [Act.put, List.setIfInBounds_toArray, List.set_cons_zero, List.set_cons_succ]
  refine wpAnyH_done (by kernel_rfl) ?_ _
  have HY := hide_it (HB.out.trans ((hb9.trans (hy2.mono hz9)).mono HB.out.size))
  clear hy0 hy2 hb9 hpat hy0'
  go_wp2
  go_ret
  exact ⟨rfl, StepTo.same HH.out HY.out⟩

set_option maxRecDepth 100000 in
set_option maxHeartbeats 4000000 in
theorem stepO_any {w : World} {F : Nat → Prop} {q p : Nat} {v d : Value} {xs : List Lk} (h : Pr w F q p v d xs) (_hl : xs.length ≤ 3600000000000) (s : Stc) (_hs : -9223372036854775808 ≤ s.n ∧ s.n ≤ 9223372036854775807) (n1 : ¬ s.k = 1) (n2 : ¬ s.k = 2) (n3 : ¬ s.k = 3) (n4 : ¬ s.k = 4) (n5 : ¬ s.k = 5) (n6 : ¬ s.k = 6) :
    Calls Try.prog 16 #[.pointer (some ⟨q, 0, none⟩), .agg #[.int .i64 s.k, .int .i64 s.n, .string s.v, .bool s.d]] w fun e w' => e = .returned (.bool true) ∧ StepTo w F q p xs w' := by
  obtain ⟨W, hW, hb, hz, k0⟩ := step_box w s.k s.n s.v s.d
  have e1 : (s.k == 1) = false := by simpa using n1
  have e2 : (s.k == 2) = false := by simpa using n2
  have e3 : (s.k == 3) = false := by simpa using n3
  have e4 : (s.k == 4) = false := by simpa using n4
  have e5 : (s.k == 5) = false := by simpa using n5
  have e6 : (s.k == 6) = false := by simpa using n6
  have HH := hide_it h
  have HB := hide_it hb
  clear h hb n1 n2 n3 n4 n5 n6 hz
  generalize s.k = K at *
  go_enter Try.func16, Try.ntmps16
  go_wp2_with fail
  rw [← hW]
  clear hW k0
  go_wp2
  go_ret
  exact ⟨rfl, StepTo.same HH.out HB.out⟩

/-- Any step. -/
theorem step_any {w : World} {F : Nat → Prop} {q p : Nat} {v d : Value} {xs : List Lk} (h : Pr w F q p v d xs) (hl : xs.length ≤ 3600000000000) (s : Stc) (hs : -9223372036854775808 ≤ s.n ∧ s.n ≤ 9223372036854775807) :
    Calls Try.prog 16 #[.pointer (some ⟨q, 0, none⟩), .agg #[.int .i64 s.k, .int .i64 s.n, .string s.v, .bool s.d]] w fun e w' => e = .returned (.bool true) ∧ StepTo w F q p (nxt xs s) w' := by
  unfold nxt
  by_cases n1 : s.k = 1
  · rw [if_pos n1, n1]; exact step1_any h hl s hs
  rw [if_neg n1]
  by_cases n4 : s.k = 4
  · rw [if_pos n4, n4]; exact step4_any h hl s hs
  rw [if_neg n4]
  by_cases n2 : s.k = 2
  · rw [n2]; exact step2_any h hl s hs
  by_cases n3 : s.k = 3
  · rw [n3]; exact step3_any h hl s hs
  by_cases n5 : s.k = 5
  · rw [n5]; exact step5_any h hl s hs
  by_cases n6 : s.k = 6
  · rw [n6]; exact step6_any h hl s hs
  exact stepO_any h hl s hs n1 n2 n3 n4 n5 n6

end Go.Proofs.Ytncmnhomloanaab

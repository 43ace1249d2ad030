/- A queue of pairs: line. -/
import Derived.Test.YtomfhbngpikjeabQp2
namespace Go.Proofs.Ytomfhbngpikjeab
open Go.RowKit

theorem made_row {w : World} {base g m : Nat} (h : w.ownsRow base 28 2 (.slice (some ⟨g, 0, none⟩) m m) m (madeCells (Value.agg #[.int .i64 0, .bool false]).cells (m * 2)).toList) :
    w.heap[g]? = some (.cells (flP (List.replicate m (0, false))).toArray 28 (0, 0)) := by
  rcases h.2 with ⟨e, _⟩ | ⟨g', c, cur, e, _, hh, _, _, hs, ht⟩
  · cases e
  · cases e
    rw [hh]
    have e1 : cur.toList = (madeCells #[.int .i64 0, .bool false] (m * 2)).toList := by
      rw [← List.take_of_length_le (l := cur.toList) (i := m * 2) (by simp; omega)]
      exact ht
    rw [← made_pairs, Array.toList_inj.1 e1]

theorem sizeQP : (Try.prog.info? 28).map (·.size) = some 2 := by kernel_rfl

set_option maxRecDepth 100000 in
set_option maxHeartbeats 1000000 in
theorem lineP_nil (b g most f m : Nat) (xs : List (Int × Bool)) (w : World) (h : QrP w b g most 0 f xs) (hm : m ≤ 65536) :
    Calls Try.prog 27 #[.pointer (some ⟨b, 0, none⟩), .int .i64 (m : Int)] w fun e w' => e = .returned (.slice (some ⟨w.heap.size, 0, none⟩) m m) ∧
      w'.heap[w.heap.size]? = some (.cells (flP (List.replicate m (0, false))).toArray 28 (0, 0)) ∧ Below w.heap.size w w' := by
  obtain ⟨i0, hi, hz0, hz1, hz2⟩ := info_parts infoQP
  have hbl := h.lt.1
  have hx0 : xs = [] := by have := h.len; exact List.eq_nil_of_length_eq_zero (by omega)
  subst hx0
  obtain ⟨v, c0, c1, c2, c3, ⟨_, rfl, _, rfl, rfl⟩ | ⟨cur, rfl, hgb, hR, hg, hla⟩⟩ := h.cells
  · clear h
    simp only [List.length_nil, Int.natCast_zero] at c1 c2
    go_enter Try.func27, Try.ntmps27
    go_wp2_with (refine wpList_make_full _ rfl _ _ 22 rfl w.heap.size 28 i0 _ 2 Try.underlying22 hi hz0 hz1 .i64 .i64 _ _ m rfl rfl rfl rfl (by rw [hz2]; omega) (by unfold maxLen; omega) (Nat.le_refl _) ?_; intro W1 hown1 hg1)
    have HZ := hide_it (made_row hown1)
    have HB := hide_it (show Below w.heap.size w W1 from (Below.refl _ _).grown hg1 (Nat.le_refl _) (fun j e => by cases e))
    clear hown1 hg1 c0 hi hz0 hz1 hz2
    refine wp_region_held_drew (S := (fun w' => Below w.heap.size w w')) (by kernel_rfl) ?_ (fun hHeld => ?_)
    · exact HB.out.drew
    refine take_on (i := 0) (v := ?_) rfl rfl (by kernel_rfl) (by kernel_rfl) (by kernel_rfl) (fun _ _ _ h => h) rfl ?_ hHeld ?_
    rotate_left
    · (intro wq hSq; have q1 := (hSq.cell (p := ⟨g, 1, none⟩) hbl).trans c1; have q2 := (hSq.cell (p := ⟨g, 2, none⟩) hbl).trans c2; have q3 := (hSq.cell (p := ⟨g, 3, none⟩) hbl).trans c3; go_simp <;> first | with_reducible rfl | rfl)
    simp only [Act.put, List.setIfInBounds_toArray, List.set_cons_zero, List.set_cons_succ]
    refine take_on (i := 1) (v := ?_) rfl rfl (by kernel_rfl) (by kernel_rfl) (by kernel_rfl) (fun _ _ _ h => h) rfl ?_ hHeld ?_
    rotate_left
    · (intro wq hSq; have q1 := (hSq.cell (p := ⟨g, 1, none⟩) hbl).trans c1; have q2 := (hSq.cell (p := ⟨g, 2, none⟩) hbl).trans c2; have q3 := (hSq.cell (p := ⟨g, 3, none⟩) hbl).trans c3; go_simp <;> first | with_reducible rfl | rfl)
    simp only [Act.put, List.setIfInBounds_toArray, List.set_cons_zero, List.set_cons_succ]
    refine take_on (i := 2) (v := ?_) rfl rfl (by kernel_rfl) (by kernel_rfl) (by kernel_rfl) (fun _ _ _ h => h) rfl ?_ hHeld ?_
    rotate_left
    · (intro wq hSq; have q1 := (hSq.cell (p := ⟨g, 1, none⟩) hbl).trans c1; have q2 := (hSq.cell (p := ⟨g, 2, none⟩) hbl).trans c2; have q3 := (hSq.cell (p := ⟨g, 3, none⟩) hbl).trans c3; go_simp <;> first | with_reducible rfl | rfl)
    simp only [Act.put, List.setIfInBounds_toArray, List.set_cons_zero, List.set_cons_succ]
    refine take_on (i := 3) (v := ?_) rfl rfl (by kernel_rfl) (by kernel_rfl) (by kernel_rfl) (fun _ _ _ h => h) rfl ?_ hHeld ?_
    rotate_left
    · (intro wq hSq; have q1 := (hSq.cell (p := ⟨g, 1, none⟩) hbl).trans c1; have q2 := (hSq.cell (p := ⟨g, 2, none⟩) hbl).trans c2; have q3 := (hSq.cell (p := ⟨g, 3, none⟩) hbl).trans c3; go_simp <;> first | with_reducible rfl | rfl)
    simp only [Act.put, List.setIfInBounds_toArray, List.set_cons_zero, List.set_cons_succ]
    refine take_on (i := 4) (v := ?_) rfl rfl (by kernel_rfl) (by kernel_rfl) (by kernel_rfl) (fun _ _ _ h => h) rfl ?_ hHeld ?_
    rotate_left
    · (intro wq hSq; have q1 := (hSq.cell (p := ⟨g, 1, none⟩) hbl).trans c1; have q2 := (hSq.cell (p := ⟨g, 2, none⟩) hbl).trans c2; have q3 := (hSq.cell (p := ⟨g, 3, none⟩) hbl).trans c3; go_simp <;> first | with_reducible rfl | rfl)
    simp only [Act.put, List.setIfInBounds_toArray, List.set_cons_zero, List.set_cons_succ]
    refine take_on (i := 5) (v := ?_) rfl rfl (by kernel_rfl) (by kernel_rfl) (by kernel_rfl) (fun _ _ _ h => h) rfl ?_ hHeld ?_
    rotate_left
    · (intro wq hSq; have q1 := (hSq.cell (p := ⟨g, 1, none⟩) hbl).trans c1; have q2 := (hSq.cell (p := ⟨g, 2, none⟩) hbl).trans c2; have q3 := (hSq.cell (p := ⟨g, 3, none⟩) hbl).trans c3; go_simp <;> first | with_reducible rfl | rfl)
    simp only [Act.put, List.setIfInBounds_toArray, List.set_cons_zero, List.set_cons_succ]
    refine take_on (i := 6) (v := ?_) rfl rfl (by kernel_rfl) (by kernel_rfl) (by kernel_rfl) (fun _ _ _ h => h) rfl ?_ hHeld ?_
    rotate_left
    · (intro wq hSq; have q1 := (hSq.cell (p := ⟨g, 1, none⟩) hbl).trans c1; have q2 := (hSq.cell (p := ⟨g, 2, none⟩) hbl).trans c2; have q3 := (hSq.cell (p := ⟨g, 3, none⟩) hbl).trans c3; go_simp <;> first | with_reducible rfl | rfl)
    simp only [Act.put, List.setIfInBounds_toArray, List.set_cons_zero, List.set_cons_succ]
    refine take_on (i := 7) (v := ?_) rfl rfl (by kernel_rfl) (by kernel_rfl) (by kernel_rfl) (fun _ _ _ h => h) rfl ?_ hHeld ?_
    rotate_left
    · (intro wq hSq; have q1 := (hSq.cell (p := ⟨g, 1, none⟩) hbl).trans c1; have q2 := (hSq.cell (p := ⟨g, 2, none⟩) hbl).trans c2; have q3 := (hSq.cell (p := ⟨g, 3, none⟩) hbl).trans c3; go_simp <;> first | with_reducible rfl | rfl)
    simp only [Act.put, List.setIfInBounds_toArray, List.set_cons_zero, List.set_cons_succ]
    refine take_on (i := 8) (v := ?_) rfl rfl (by kernel_rfl) (by kernel_rfl) (by kernel_rfl) (fun _ _ _ h => h) rfl ?_ hHeld ?_
    rotate_left
    · (intro wq hSq; have q1 := (hSq.cell (p := ⟨g, 1, none⟩) hbl).trans c1; have q2 := (hSq.cell (p := ⟨g, 2, none⟩) hbl).trans c2; have q3 := (hSq.cell (p := ⟨g, 3, none⟩) hbl).trans c3; go_simp <;> first | with_reducible rfl | rfl)
    simp only [Act.put, List.setIfInBounds_toArray, List.set_cons_zero, List.set_cons_succ]
    refine take_on (i := 9) (v := ?_) rfl rfl (by kernel_rfl) (by kernel_rfl) (by kernel_rfl) (fun _ _ _ h => h) rfl ?_ hHeld ?_
    rotate_left
    · (intro wq hSq; have q1 := (hSq.cell (p := ⟨g, 1, none⟩) hbl).trans c1; have q2 := (hSq.cell (p := ⟨g, 2, none⟩) hbl).trans c2; have q3 := (hSq.cell (p := ⟨g, 3, none⟩) hbl).trans c3; go_simp <;> first | with_reducible rfl | rfl)
    simp only [Act.put, List.setIfInBounds_toArray, List.set_cons_zero, List.set_cons_succ]
    refine take_on (i := 10) (v := ?_) rfl rfl (by kernel_rfl) (by kernel_rfl) (by kernel_rfl) (fun _ _ _ h => h) rfl ?_ hHeld ?_
    rotate_left
    · (intro wq hSq; have q1 := (hSq.cell (p := ⟨g, 1, none⟩) hbl).trans c1; have q2 := (hSq.cell (p := ⟨g, 2, none⟩) hbl).trans c2; have q3 := (hSq.cell (p := ⟨g, 3, none⟩) hbl).trans c3; go_simp <;> first | with_reducible rfl | rfl)
    simp only [Act.put, List.setIfInBounds_toArray, List.set_cons_zero, List.set_cons_succ]
    refine take_on (i := 11) (v := ?_) rfl rfl (by kernel_rfl) (by kernel_rfl) (by kernel_rfl) (fun _ _ _ h => h) rfl ?_ hHeld ?_
    rotate_left
    · (intro wq hSq; have q1 := (hSq.cell (p := ⟨g, 1, none⟩) hbl).trans c1; have q2 := (hSq.cell (p := ⟨g, 2, none⟩) hbl).trans c2; have q3 := (hSq.cell (p := ⟨g, 3, none⟩) hbl).trans c3; go_simp <;> first | with_reducible rfl | rfl)
    simp only [Act.put, List.setIfInBounds_toArray, List.set_cons_zero, List.set_cons_succ]
    refine take_on (i := 12) (v := ?_) rfl rfl (by kernel_rfl) (by kernel_rfl) (by kernel_rfl) (fun _ _ _ h => h) rfl ?_ hHeld ?_
    rotate_left
    · (intro wq hSq; have q1 := (hSq.cell (p := ⟨g, 1, none⟩) hbl).trans c1; have q2 := (hSq.cell (p := ⟨g, 2, none⟩) hbl).trans c2; have q3 := (hSq.cell (p := ⟨g, 3, none⟩) hbl).trans c3; go_simp <;> first | with_reducible rfl | rfl)
    simp only [Act.put, List.setIfInBounds_toArray, List.set_cons_zero, List.set_cons_succ]
    refine take_on (i := 13) (v := ?_) rfl rfl (by kernel_rfl) (by kernel_rfl) (by kernel_rfl) (fun _ _ _ h => h) rfl ?_ hHeld ?_
    rotate_left
    · (intro wq hSq; have q1 := (hSq.cell (p := ⟨g, 1, none⟩) hbl).trans c1; have q2 := (hSq.cell (p := ⟨g, 2, none⟩) hbl).trans c2; have q3 := (hSq.cell (p := ⟨g, 3, none⟩) hbl).trans c3; go_simp <;> first | with_reducible rfl | rfl)
    simp only [Act.put, List.setIfInBounds_toArray, List.set_cons_zero, List.set_cons_succ]
    refine take_on (i := 14) (v := ?_) rfl rfl (by kernel_rfl) (by kernel_rfl) (by kernel_rfl) (fun _ _ _ h => h) rfl ?_ hHeld ?_
    rotate_left
    · (intro wq hSq; have q1 := (hSq.cell (p := ⟨g, 1, none⟩) hbl).trans c1; have q2 := (hSq.cell (p := ⟨g, 2, none⟩) hbl).trans c2; have q3 := (hSq.cell (p := ⟨g, 3, none⟩) hbl).trans c3; go_simp <;> first | with_reducible rfl | rfl)
    simp only [Act.put, List.setIfInBounds_toArray, List.set_cons_zero, List.set_cons_succ]
    refine take_one (i := 15) rfl (by kernel_rfl) (fun K hK => ?_)
    refine step_copy_pairs rfl (.tmp 14) (.tmp 23) 22 22 rfl 28 Try.underlying22 sizeQP _ _ _ _ _ _ rfl rfl w.heap.size 0 (List.replicate m (0, false)) 28 HZ.out [] (by simp) (by simp) (by simp) w.heap.size w hHeld (Nat.le_refl _) ?_; intro w2 HG2 hB2
    refine hK.out _ _ ?_ (fun hHeld => ?_)
    · exact hB2
    clear hK K
    try simp only [Act.put, List.setIfInBounds_toArray, List.set_cons_zero, List.set_cons_succ]
    refine take_on (i := 16) (v := ?_) rfl rfl (by kernel_rfl) (by kernel_rfl) (by kernel_rfl) (fun _ _ _ h => h) rfl ?_ hHeld ?_
    rotate_left
    · (intro wq hSq; have q1 := (hSq.cell (p := ⟨g, 1, none⟩) hbl).trans c1; have q2 := (hSq.cell (p := ⟨g, 2, none⟩) hbl).trans c2; have q3 := (hSq.cell (p := ⟨g, 3, none⟩) hbl).trans c3; go_simp <;> first | with_reducible rfl | rfl)
    simp only [Act.put, List.setIfInBounds_toArray, List.set_cons_zero, List.set_cons_succ]
    refine wpAnyH_done (by kernel_rfl) ?_ _
    go_wp2_with fail
    refine wp_region_held_drew (S := (fun w' => Below w.heap.size w w')) (by kernel_rfl) ?_ (fun hHeld => ?_)
    · exact hB2.drew
    refine take_on (i := 0) (v := ?_) rfl rfl (by kernel_rfl) (by kernel_rfl) (by kernel_rfl) (fun _ _ _ h => h) rfl ?_ hHeld ?_
    rotate_left
    · (intro wq hSq; have q1 := (hSq.cell (p := ⟨g, 1, none⟩) hbl).trans c1; have q2 := (hSq.cell (p := ⟨g, 2, none⟩) hbl).trans c2; have q3 := (hSq.cell (p := ⟨g, 3, none⟩) hbl).trans c3; go_simp <;> first | with_reducible rfl | rfl)
    simp only [Act.put, List.setIfInBounds_toArray, List.set_cons_zero, List.set_cons_succ]
    refine take_on (i := 1) (v := ?_) rfl rfl (by kernel_rfl) (by kernel_rfl) (by kernel_rfl) (fun _ _ _ h => h) rfl ?_ hHeld ?_
    rotate_left
    · (intro wq hSq; have q1 := (hSq.cell (p := ⟨g, 1, none⟩) hbl).trans c1; have q2 := (hSq.cell (p := ⟨g, 2, none⟩) hbl).trans c2; have q3 := (hSq.cell (p := ⟨g, 3, none⟩) hbl).trans c3; go_simp <;> first | with_reducible rfl | rfl)
    simp only [Act.put, List.setIfInBounds_toArray, List.set_cons_zero, List.set_cons_succ]
    refine take_on (i := 2) (v := ?_) rfl rfl (by kernel_rfl) (by kernel_rfl) (by kernel_rfl) (fun _ _ _ h => h) rfl ?_ hHeld ?_
    rotate_left
    · (intro wq hSq; have q1 := (hSq.cell (p := ⟨g, 1, none⟩) hbl).trans c1; have q2 := (hSq.cell (p := ⟨g, 2, none⟩) hbl).trans c2; have q3 := (hSq.cell (p := ⟨g, 3, none⟩) hbl).trans c3; go_simp <;> first | with_reducible rfl | rfl)
    simp only [Act.put, List.setIfInBounds_toArray, List.set_cons_zero, List.set_cons_succ]
    refine take_on (i := 3) (v := ?_) rfl rfl (by kernel_rfl) (by kernel_rfl) (by kernel_rfl) (fun _ _ _ h => h) rfl ?_ hHeld ?_
    rotate_left
    · (intro wq hSq; have q1 := (hSq.cell (p := ⟨g, 1, none⟩) hbl).trans c1; have q2 := (hSq.cell (p := ⟨g, 2, none⟩) hbl).trans c2; have q3 := (hSq.cell (p := ⟨g, 3, none⟩) hbl).trans c3; go_simp <;> first | with_reducible rfl | rfl)
    simp only [Act.put, List.setIfInBounds_toArray, List.set_cons_zero, List.set_cons_succ]
    refine take_on (i := 4) (v := ?_) rfl rfl (by kernel_rfl) (by kernel_rfl) (by kernel_rfl) (fun _ _ _ h => h) rfl ?_ hHeld ?_
    rotate_left
    · (intro wq hSq; have q1 := (hSq.cell (p := ⟨g, 1, none⟩) hbl).trans c1; have q2 := (hSq.cell (p := ⟨g, 2, none⟩) hbl).trans c2; have q3 := (hSq.cell (p := ⟨g, 3, none⟩) hbl).trans c3; go_simp <;> first | with_reducible rfl | rfl)
    simp only [Act.put, List.setIfInBounds_toArray, List.set_cons_zero, List.set_cons_succ]
    refine take_on (i := 5) (v := ?_) rfl rfl (by kernel_rfl) (by kernel_rfl) (by kernel_rfl) (fun _ _ _ h => h) rfl ?_ hHeld ?_
    rotate_left
    · (intro wq hSq; have q1 := (hSq.cell (p := ⟨g, 1, none⟩) hbl).trans c1; have q2 := (hSq.cell (p := ⟨g, 2, none⟩) hbl).trans c2; have q3 := (hSq.cell (p := ⟨g, 3, none⟩) hbl).trans c3; go_simp <;> first | with_reducible rfl | rfl)
    simp only [Act.put, List.setIfInBounds_toArray, List.set_cons_zero, List.set_cons_succ]
    refine take_on (i := 6) (v := ?_) rfl rfl (by kernel_rfl) (by kernel_rfl) (by kernel_rfl) (fun _ _ _ h => h) rfl ?_ hHeld ?_
    rotate_left
    · (intro wq hSq; have q1 := (hSq.cell (p := ⟨g, 1, none⟩) hbl).trans c1; have q2 := (hSq.cell (p := ⟨g, 2, none⟩) hbl).trans c2; have q3 := (hSq.cell (p := ⟨g, 3, none⟩) hbl).trans c3; go_simp <;> first | with_reducible rfl | rfl)
    simp only [Act.put, List.setIfInBounds_toArray, List.set_cons_zero, List.set_cons_succ]
    refine take_on (i := 7) (v := ?_) rfl rfl (by kernel_rfl) (by kernel_rfl) (by kernel_rfl) (fun _ _ _ h => h) rfl ?_ hHeld ?_
    rotate_left
    · (intro wq hSq; have q1 := (hSq.cell (p := ⟨g, 1, none⟩) hbl).trans c1; have q2 := (hSq.cell (p := ⟨g, 2, none⟩) hbl).trans c2; have q3 := (hSq.cell (p := ⟨g, 3, none⟩) hbl).trans c3; go_simp <;> first | with_reducible rfl | rfl)
    simp only [Act.put, List.setIfInBounds_toArray, List.set_cons_zero, List.set_cons_succ]
    refine take_on (i := 8) (v := ?_) rfl rfl (by kernel_rfl) (by kernel_rfl) (by kernel_rfl) (fun _ _ _ h => h) rfl ?_ hHeld ?_
    rotate_left
    · (intro wq hSq; have q1 := (hSq.cell (p := ⟨g, 1, none⟩) hbl).trans c1; have q2 := (hSq.cell (p := ⟨g, 2, none⟩) hbl).trans c2; have q3 := (hSq.cell (p := ⟨g, 3, none⟩) hbl).trans c3; go_simp <;> first | with_reducible rfl | rfl)
    simp only [Act.put, List.setIfInBounds_toArray, List.set_cons_zero, List.set_cons_succ]
    refine take_on (i := 9) (v := ?_) rfl rfl (by kernel_rfl) (by kernel_rfl) (by kernel_rfl) (fun _ _ _ h => h) rfl ?_ hHeld ?_
    rotate_left
    · (intro wq hSq; have q1 := (hSq.cell (p := ⟨g, 1, none⟩) hbl).trans c1; have q2 := (hSq.cell (p := ⟨g, 2, none⟩) hbl).trans c2; have q3 := (hSq.cell (p := ⟨g, 3, none⟩) hbl).trans c3; go_simp <;> first | with_reducible rfl | rfl)
    simp only [Act.put, List.setIfInBounds_toArray, List.set_cons_zero, List.set_cons_succ]
    refine take_on (i := 10) (v := ?_) rfl rfl (by kernel_rfl) (by kernel_rfl) (by kernel_rfl) (fun _ _ _ h => h) rfl ?_ hHeld ?_
    rotate_left
    · (intro wq hSq; have q1 := (hSq.cell (p := ⟨g, 1, none⟩) hbl).trans c1; have q2 := (hSq.cell (p := ⟨g, 2, none⟩) hbl).trans c2; have q3 := (hSq.cell (p := ⟨g, 3, none⟩) hbl).trans c3; go_simp <;> first | with_reducible rfl | rfl)
    simp only [Act.put, List.setIfInBounds_toArray, List.set_cons_zero, List.set_cons_succ]
    refine take_one (i := 11) rfl (by kernel_rfl) (fun K hK => ?_)
    refine step_copy_pairs rfl (.tmp 31) (.tmp 35) 22 22 rfl 28 Try.underlying22 sizeQP _ _ _ _ _ _ rfl rfl w.heap.size 0 _ 28 HG2.out [] (by simp) (by simp) (by simp) w.heap.size w hHeld (Nat.le_refl _) ?_; intro w3 HG3 hB3
    refine hK.out _ _ ?_ (fun hHeld => ?_)
    · exact hB3
    clear hK K
    try simp only [Act.put, List.setIfInBounds_toArray, List.set_cons_zero, List.set_cons_succ]
    refine wpAnyH_done (by kernel_rfl) ?_ _
    go_wp2
    go_ret
    refine ⟨rfl, ?_, hB3⟩
    have := HG3.out
    simpa [splice] using this
  · have := hla.at_
    omega

set_option maxRecDepth 100000 in
set_option maxHeartbeats 2000000 in
theorem lineP_ring (b g most R f m : Nat) (xs : List (Int × Bool)) (w : World) (h : QrP w b g most R f xs) (hR0 : 0 < R) (hn : xs.length ≤ m) (hm : m ≤ 65536) :
    Calls Try.prog 27 #[.pointer (some ⟨b, 0, none⟩), .int .i64 (m : Int)] w fun e w' => e = .returned (.slice (some ⟨w.heap.size, 0, none⟩) m m) ∧
      w'.heap[w.heap.size]? = some (.cells (flP (xs ++ List.replicate (m - xs.length) (0, false))).toArray 28 (0, 0)) ∧ Below w.heap.size w w' := by
  obtain ⟨i0, hi, hz0, hz1, hz2⟩ := info_parts infoQP
  obtain ⟨hbl, hgl⟩ := h.lt
  have hnR := h.len
  have hRm := h.room
  have hmm := h.most_le
  obtain ⟨v, c0, c1, c2, c3, ⟨h0, _⟩ | ⟨cur, rfl, hgb, hR, hg, hla⟩⟩ := h.cells
  · omega
  clear h c0
  subst hR
  have hf := hla.at_
  obtain ⟨k, hk⟩ : ∃ k, k = aheadN xs.length f cur.length := ⟨_, rfl⟩
  obtain ⟨X1, hX1⟩ : ∃ X1, X1 = xs.take k := ⟨_, rfl⟩
  obtain ⟨X2, hX2⟩ : ∃ X2, X2 = xs.drop k := ⟨_, rfl⟩
  have hk1 : k ≤ xs.length := by rw [hk]; exact aheadN_le _ _ _
  have hk2 : k = Nat.min (cur.length - f) xs.length := by rw [hk]; exact Nat.min_comm _ _
  have hl1 : X1.length = k := by rw [hX1]; simp; omega
  have hl2 : X2.length = xs.length - k := by rw [hX2]; simp
  have hsp : splice (splice (List.replicate m (0, false)) 0 X1) k X2 = xs ++ List.replicate (m - xs.length) (0, false) := by
    rw [← hl1, splice2 _ _ _ (by simp; omega), ← List.append_assoc, hl1, hl2]
    congr 1
    · rw [hX1, hX2]; exact List.take_append_drop _ _
    · rw [List.drop_replicate]; congr 1; omega
  have hc1 : X1 = (cur.drop f).take k := by
    apply List.ext_getElem?
    intro j
    by_cases hj : j < k
    · rw [hX1, List.getElem?_take_of_lt hj, List.getElem?_take_of_lt hj, List.getElem?_drop]
      exact (hla.line1 (by omega)).symm
    · rw [List.getElem?_eq_none (by omega), List.getElem?_eq_none (by simp; omega)]
  have hc2 : X2 = cur.take (xs.length - k) := by
    apply List.ext_getElem?
    intro j
    by_cases hj : j < xs.length - k
    · rw [hX2, List.getElem?_take_of_lt hj, List.getElem?_drop]
      have := hla.line2 (j := j) (by omega)
      rw [this, hk]
    · rw [List.getElem?_eq_none (by omega), List.getElem?_eq_none (by simp; omega)]
  have hs1 : ∀ w', Below w.heap.size w w' → ∀ j u, (flP X1)[j]? = some u → w'.cell? ((⟨g, f * 2, none⟩ : Addr).add j) = some u := by
    intro w' hb j u hu
    rw [Addr.add_lit, hb.cell (p := ⟨g, f * 2 + j, none⟩) hgl, cell_of_row _ _ _ _ _ _ hg, List.getElem?_toArray]
    have hj : j < k * 2 := by have := (List.getElem?_eq_some_iff.1 hu).1; rw [flP_len] at this; omega
    rw [hc1, flP_take, flP_drop, List.getElem?_take_of_lt hj, List.getElem?_drop] at hu
    exact hu
  have hs2 : ∀ w', Below w.heap.size w w' → ∀ j u, (flP X2)[j]? = some u → w'.cell? ((⟨g, 0, none⟩ : Addr).add j) = some u := by
    intro w' hb j u hu
    rw [Addr.add_lit, hb.cell (p := ⟨g, 0 + j, none⟩) hgl, cell_of_row _ _ _ _ _ _ hg, List.getElem?_toArray]
    have hj : j < (xs.length - k) * 2 := by have := (List.getElem?_eq_some_iff.1 hu).1; rw [flP_len] at this; omega
    rw [hc2, flP_take, List.getElem?_take_of_lt hj] at hu
    rw [Nat.zero_add]
    exact hu
  have hk3 : X2.length = Nat.min cur.length (xs.length - k) := by rw [hl2]; exact (Nat.min_eq_right (by omega)).symm
  have HS := hide_it hs1
  have HT := hide_it hs2
  have HK3 := hide_it hk3
  have HK2 := hide_it hk2
  have HSP := hide_it hsp
  have HL2 := hide_it hl2
  clear hs1 hs2 hk3 hk2 hsp hl2 hX1 hX2 hk hla hg hc1 hc2
  obtain ⟨N, hN⟩ : ∃ N, N = xs.length := ⟨_, rfl⟩
  obtain ⟨R, hR⟩ : ∃ R, R = cur.length := ⟨_, rfl⟩
  rw [← hN] at hn hnR c2 hk1 HK2 HK3 HSP HL2 ⊢
  rw [← hR] at hR0 hRm hnR hf c3 HK2 HK3
  clear hN hR
  have hfi : (f : Int) < (R : Int) := by omega
  have hfne : ¬ R = f := by omega
  have hfle : f ≤ R := by omega
  have hni : (N : Int) ≤ (m : Int) := by omega
  have hki : (k : Int) ≤ (N : Int) := by omega
  go_enter Try.func27, Try.ntmps27
  go_wp2_with (refine wpList_make_full _ rfl _ _ 22 rfl w.heap.size 28 i0 _ 2 Try.underlying22 hi hz0 hz1 .i64 .i64 _ _ m rfl rfl rfl rfl (by rw [hz2]; omega) (by unfold maxLen; omega) (Nat.le_refl _) ?_; intro W1 hown1 hg1)
  have HZ := hide_it (made_row hown1)
  have HB := hide_it (show Below w.heap.size w W1 from (Below.refl _ _).grown hg1 (Nat.le_refl _) (fun j e => by cases e))
  clear hown1 hg1 hi hz0 hz1 hz2
  refine wp_region_held_drew (S := (fun w' => Below w.heap.size w w')) (by kernel_rfl) ?_ (fun hHeld => ?_)
  · exact HB.out.drew
  refine take_on (i := 0) (v := ?_) rfl rfl (by kernel_rfl) (by kernel_rfl) (by kernel_rfl) (fun _ _ _ h => h) rfl ?_ hHeld ?_
  rotate_left
  · (intro wq hSq; have q1 := (hSq.cell (p := ⟨b, 1, none⟩) hbl).trans c1; have q2 := (hSq.cell (p := ⟨b, 2, none⟩) hbl).trans c2; have q3 := (hSq.cell (p := ⟨b, 3, none⟩) hbl).trans c3; go_simp <;> first | with_reducible rfl | rfl)
  simp only [Act.put, List.setIfInBounds_toArray, List.set_cons_zero, List.set_cons_succ]
  refine take_on (i := 1) (v := ?_) rfl rfl (by kernel_rfl) (by kernel_rfl) (by kernel_rfl) (fun _ _ _ h => h) rfl ?_ hHeld ?_
  rotate_left
  · (intro wq hSq; have q1 := (hSq.cell (p := ⟨b, 1, none⟩) hbl).trans c1; have q2 := (hSq.cell (p := ⟨b, 2, none⟩) hbl).trans c2; have q3 := (hSq.cell (p := ⟨b, 3, none⟩) hbl).trans c3; go_simp <;> first | with_reducible rfl | rfl)
  simp only [Act.put, List.setIfInBounds_toArray, List.set_cons_zero, List.set_cons_succ]
  refine take_on (i := 2) (v := ?_) rfl rfl (by kernel_rfl) (by kernel_rfl) (by kernel_rfl) (fun _ _ _ h => h) rfl ?_ hHeld ?_
  rotate_left
  · (intro wq hSq; have q1 := (hSq.cell (p := ⟨b, 1, none⟩) hbl).trans c1; have q2 := (hSq.cell (p := ⟨b, 2, none⟩) hbl).trans c2; have q3 := (hSq.cell (p := ⟨b, 3, none⟩) hbl).trans c3; go_simp <;> first | with_reducible rfl | rfl)
  simp only [Act.put, List.setIfInBounds_toArray, List.set_cons_zero, List.set_cons_succ]
  refine take_on (i := 3) (v := ?_) rfl rfl (by kernel_rfl) (by kernel_rfl) (by kernel_rfl) (fun _ _ _ h => h) rfl ?_ hHeld ?_
  rotate_left
  · (intro wq hSq; have q1 := (hSq.cell (p := ⟨b, 1, none⟩) hbl).trans c1; have q2 := (hSq.cell (p := ⟨b, 2, none⟩) hbl).trans c2; have q3 := (hSq.cell (p := ⟨b, 3, none⟩) hbl).trans c3; go_simp <;> first | with_reducible rfl | rfl)
  simp only [Act.put, List.setIfInBounds_toArray, List.set_cons_zero, List.set_cons_succ]
  refine take_on (i := 4) (v := ?_) rfl rfl (by kernel_rfl) (by kernel_rfl) (by kernel_rfl) (fun _ _ _ h => h) rfl ?_ hHeld ?_
  rotate_left
  · (intro wq hSq; have q1 := (hSq.cell (p := ⟨b, 1, none⟩) hbl).trans c1; have q2 := (hSq.cell (p := ⟨b, 2, none⟩) hbl).trans c2; have q3 := (hSq.cell (p := ⟨b, 3, none⟩) hbl).trans c3; go_simp <;> first | with_reducible rfl | rfl)
  simp only [Act.put, List.setIfInBounds_toArray, List.set_cons_zero, List.set_cons_succ]
  refine take_on (i := 5) (v := ?_) rfl rfl (by kernel_rfl) (by kernel_rfl) (by kernel_rfl) (fun _ _ _ h => h) rfl ?_ hHeld ?_
  rotate_left
  · (intro wq hSq; have q1 := (hSq.cell (p := ⟨b, 1, none⟩) hbl).trans c1; have q2 := (hSq.cell (p := ⟨b, 2, none⟩) hbl).trans c2; have q3 := (hSq.cell (p := ⟨b, 3, none⟩) hbl).trans c3; go_simp <;> first | with_reducible rfl | rfl)
  simp only [Act.put, List.setIfInBounds_toArray, List.set_cons_zero, List.set_cons_succ]
  refine take_on (i := 6) (v := ?_) rfl rfl (by kernel_rfl) (by kernel_rfl) (by kernel_rfl) (fun _ _ _ h => h) rfl ?_ hHeld ?_
  rotate_left
  · (intro wq hSq; have q1 := (hSq.cell (p := ⟨b, 1, none⟩) hbl).trans c1; have q2 := (hSq.cell (p := ⟨b, 2, none⟩) hbl).trans c2; have q3 := (hSq.cell (p := ⟨b, 3, none⟩) hbl).trans c3; go_simp <;> first | with_reducible rfl | rfl)
  simp only [Act.put, List.setIfInBounds_toArray, List.set_cons_zero, List.set_cons_succ]
  refine take_on (i := 7) (v := ?_) rfl rfl (by kernel_rfl) (by kernel_rfl) (by kernel_rfl) (fun _ _ _ h => h) rfl ?_ hHeld ?_
  rotate_left
  · (intro wq hSq; have q1 := (hSq.cell (p := ⟨b, 1, none⟩) hbl).trans c1; have q2 := (hSq.cell (p := ⟨b, 2, none⟩) hbl).trans c2; have q3 := (hSq.cell (p := ⟨b, 3, none⟩) hbl).trans c3; go_simp <;> first | with_reducible rfl | rfl)
  simp only [Act.put, List.setIfInBounds_toArray, List.set_cons_zero, List.set_cons_succ]
  refine take_on (i := 8) (v := ?_) rfl rfl (by kernel_rfl) (by kernel_rfl) (by kernel_rfl) (fun _ _ _ h => h) rfl ?_ hHeld ?_
  rotate_left
  · (intro wq hSq; have q1 := (hSq.cell (p := ⟨b, 1, none⟩) hbl).trans c1; have q2 := (hSq.cell (p := ⟨b, 2, none⟩) hbl).trans c2; have q3 := (hSq.cell (p := ⟨b, 3, none⟩) hbl).trans c3; go_simp <;> first | with_reducible rfl | rfl)
  simp only [Act.put, List.setIfInBounds_toArray, List.set_cons_zero, List.set_cons_succ]
  refine take_on (i := 9) (v := ?_) rfl rfl (by kernel_rfl) (by kernel_rfl) (by kernel_rfl) (fun _ _ _ h => h) rfl ?_ hHeld ?_
  rotate_left
  · (intro wq hSq; have q1 := (hSq.cell (p := ⟨b, 1, none⟩) hbl).trans c1; have q2 := (hSq.cell (p := ⟨b, 2, none⟩) hbl).trans c2; have q3 := (hSq.cell (p := ⟨b, 3, none⟩) hbl).trans c3; go_simp <;> first | with_reducible rfl | rfl)
  simp only [Act.put, List.setIfInBounds_toArray, List.set_cons_zero, List.set_cons_succ]
  refine take_on (i := 10) (v := ?_) rfl rfl (by kernel_rfl) (by kernel_rfl) (by kernel_rfl) (fun _ _ _ h => h) rfl ?_ hHeld ?_
  rotate_left
  · (intro wq hSq; have q1 := (hSq.cell (p := ⟨b, 1, none⟩) hbl).trans c1; have q2 := (hSq.cell (p := ⟨b, 2, none⟩) hbl).trans c2; have q3 := (hSq.cell (p := ⟨b, 3, none⟩) hbl).trans c3; go_simp <;> first | with_reducible rfl | rfl)
  simp only [Act.put, List.setIfInBounds_toArray, List.set_cons_zero, List.set_cons_succ]
  refine take_on (i := 11) (v := ?_) rfl rfl (by kernel_rfl) (by kernel_rfl) (by kernel_rfl) (fun _ _ _ h => h) rfl ?_ hHeld ?_
  rotate_left
  · (intro wq hSq; have q1 := (hSq.cell (p := ⟨b, 1, none⟩) hbl).trans c1; have q2 := (hSq.cell (p := ⟨b, 2, none⟩) hbl).trans c2; have q3 := (hSq.cell (p := ⟨b, 3, none⟩) hbl).trans c3; go_simp <;> first | with_reducible rfl | rfl)
  simp only [Act.put, List.setIfInBounds_toArray, List.set_cons_zero, List.set_cons_succ]
  refine take_on (i := 12) (v := ?_) rfl rfl (by kernel_rfl) (by kernel_rfl) (by kernel_rfl) (fun _ _ _ h => h) rfl ?_ hHeld ?_
  rotate_left
  · (intro wq hSq; have q1 := (hSq.cell (p := ⟨b, 1, none⟩) hbl).trans c1; have q2 := (hSq.cell (p := ⟨b, 2, none⟩) hbl).trans c2; have q3 := (hSq.cell (p := ⟨b, 3, none⟩) hbl).trans c3; go_simp <;> first | with_reducible rfl | rfl)
  simp only [Act.put, List.setIfInBounds_toArray, List.set_cons_zero, List.set_cons_succ]
  refine take_on (i := 13) (v := ?_) rfl rfl (by kernel_rfl) (by kernel_rfl) (by kernel_rfl) (fun _ _ _ h => h) rfl ?_ hHeld ?_
  rotate_left
  · (intro wq hSq; have q1 := (hSq.cell (p := ⟨b, 1, none⟩) hbl).trans c1; have q2 := (hSq.cell (p := ⟨b, 2, none⟩) hbl).trans c2; have q3 := (hSq.cell (p := ⟨b, 3, none⟩) hbl).trans c3; go_simp <;> first | with_reducible rfl | rfl)
  simp only [Act.put, List.setIfInBounds_toArray, List.set_cons_zero, List.set_cons_succ]
  refine take_on (i := 14) (v := ?_) rfl rfl (by kernel_rfl) (by kernel_rfl) (by kernel_rfl) (fun _ _ _ h => h) rfl ?_ hHeld ?_
  rotate_left
  · (intro wq hSq; have q1 := (hSq.cell (p := ⟨b, 1, none⟩) hbl).trans c1; have q2 := (hSq.cell (p := ⟨b, 2, none⟩) hbl).trans c2; have q3 := (hSq.cell (p := ⟨b, 3, none⟩) hbl).trans c3; go_simp <;> first | with_reducible rfl | rfl)
  simp only [Act.put, List.setIfInBounds_toArray, List.set_cons_zero, List.set_cons_succ]
  refine take_one (i := 15) rfl (by kernel_rfl) (fun K hK => ?_)
  refine step_copy_pairs rfl (.tmp 14) (.tmp 23) 22 22 rfl 28 Try.underlying22 sizeQP _ _ _ _ _ _ rfl rfl w.heap.size 0 (List.replicate m (0, false)) 28 HZ.out X1 (hl1.trans HK2.out) (fun _ => ⟨rfl, ⟨g, f * 2, none⟩, rfl, HS.out _ hHeld⟩) (by simp; omega) w.heap.size w hHeld (Nat.le_refl _) ?_; intro w2 HG2 hB2
  refine hK.out _ _ ?_ (fun hHeld => ?_)
  · exact hB2
  clear hK K
  try simp only [Act.put, List.setIfInBounds_toArray, List.set_cons_zero, List.set_cons_succ]
  refine take_on (i := 16) (v := ?_) rfl rfl (by kernel_rfl) (by kernel_rfl) (by kernel_rfl) (fun _ _ _ h => h) rfl ?_ hHeld ?_
  rotate_left
  · (intro wq hSq; have q1 := (hSq.cell (p := ⟨b, 1, none⟩) hbl).trans c1; have q2 := (hSq.cell (p := ⟨b, 2, none⟩) hbl).trans c2; have q3 := (hSq.cell (p := ⟨b, 3, none⟩) hbl).trans c3; go_simp <;> first | with_reducible rfl | rfl)
  simp only [Act.put, List.setIfInBounds_toArray, List.set_cons_zero, List.set_cons_succ]
  refine wpAnyH_done (by kernel_rfl) ?_ _
  go_wp2_with fail
  by_cases hmk : m = k
  · have hNk : N ≤ k := by omega
    refine wp_region_held_drew (S := (fun w' => Below w.heap.size w w')) (by kernel_rfl) ?_ (fun hHeld => ?_)
    · exact hB2.drew
    refine take_on (i := 0) (v := ?_) rfl rfl (by kernel_rfl) (by kernel_rfl) (by kernel_rfl) (fun _ _ _ h => h) rfl ?_ hHeld ?_
    rotate_left
    · (intro wq hSq; have q1 := (hSq.cell (p := ⟨b, 1, none⟩) hbl).trans c1; have q2 := (hSq.cell (p := ⟨b, 2, none⟩) hbl).trans c2; have q3 := (hSq.cell (p := ⟨b, 3, none⟩) hbl).trans c3; go_simp <;> first | with_reducible rfl | rfl)
    simp only [Act.put, List.setIfInBounds_toArray, List.set_cons_zero, List.set_cons_succ]
    refine take_on (i := 1) (v := ?_) rfl rfl (by kernel_rfl) (by kernel_rfl) (by kernel_rfl) (fun _ _ _ h => h) rfl ?_ hHeld ?_
    rotate_left
    · (intro wq hSq; have q1 := (hSq.cell (p := ⟨b, 1, none⟩) hbl).trans c1; have q2 := (hSq.cell (p := ⟨b, 2, none⟩) hbl).trans c2; have q3 := (hSq.cell (p := ⟨b, 3, none⟩) hbl).trans c3; go_simp <;> first | with_reducible rfl | rfl)
    simp only [Act.put, List.setIfInBounds_toArray, List.set_cons_zero, List.set_cons_succ]
    refine take_on (i := 2) (v := ?_) rfl rfl (by kernel_rfl) (by kernel_rfl) (by kernel_rfl) (fun _ _ _ h => h) rfl ?_ hHeld ?_
    rotate_left
    · (intro wq hSq; have q1 := (hSq.cell (p := ⟨b, 1, none⟩) hbl).trans c1; have q2 := (hSq.cell (p := ⟨b, 2, none⟩) hbl).trans c2; have q3 := (hSq.cell (p := ⟨b, 3, none⟩) hbl).trans c3; go_simp <;> first | with_reducible rfl | rfl)
    simp only [Act.put, List.setIfInBounds_toArray, List.set_cons_zero, List.set_cons_succ]
    refine take_on (i := 3) (v := ?_) rfl rfl (by kernel_rfl) (by kernel_rfl) (by kernel_rfl) (fun _ _ _ h => h) rfl ?_ hHeld ?_
    rotate_left
    · (intro wq hSq; have q1 := (hSq.cell (p := ⟨b, 1, none⟩) hbl).trans c1; have q2 := (hSq.cell (p := ⟨b, 2, none⟩) hbl).trans c2; have q3 := (hSq.cell (p := ⟨b, 3, none⟩) hbl).trans c3; go_simp <;> first | with_reducible rfl | rfl)
    simp only [Act.put, List.setIfInBounds_toArray, List.set_cons_zero, List.set_cons_succ]
    refine take_on (i := 4) (v := ?_) rfl rfl (by kernel_rfl) (by kernel_rfl) (by kernel_rfl) (fun _ _ _ h => h) rfl ?_ hHeld ?_
    rotate_left
    · (intro wq hSq; have q1 := (hSq.cell (p := ⟨b, 1, none⟩) hbl).trans c1; have q2 := (hSq.cell (p := ⟨b, 2, none⟩) hbl).trans c2; have q3 := (hSq.cell (p := ⟨b, 3, none⟩) hbl).trans c3; go_simp <;> first | with_reducible rfl | rfl)
    simp only [Act.put, List.setIfInBounds_toArray, List.set_cons_zero, List.set_cons_succ]
    refine take_on (i := 5) (v := ?_) rfl rfl (by kernel_rfl) (by kernel_rfl) (by kernel_rfl) (fun _ _ _ h => h) rfl ?_ hHeld ?_
    rotate_left
    · (intro wq hSq; have q1 := (hSq.cell (p := ⟨b, 1, none⟩) hbl).trans c1; have q2 := (hSq.cell (p := ⟨b, 2, none⟩) hbl).trans c2; have q3 := (hSq.cell (p := ⟨b, 3, none⟩) hbl).trans c3; go_simp <;> first | with_reducible rfl | rfl)
    simp only [Act.put, List.setIfInBounds_toArray, List.set_cons_zero, List.set_cons_succ]
    refine take_on (i := 6) (v := ?_) rfl rfl (by kernel_rfl) (by kernel_rfl) (by kernel_rfl) (fun _ _ _ h => h) rfl ?_ hHeld ?_
    rotate_left
    · (intro wq hSq; have q1 := (hSq.cell (p := ⟨b, 1, none⟩) hbl).trans c1; have q2 := (hSq.cell (p := ⟨b, 2, none⟩) hbl).trans c2; have q3 := (hSq.cell (p := ⟨b, 3, none⟩) hbl).trans c3; go_simp <;> first | with_reducible rfl | rfl)
    simp only [Act.put, List.setIfInBounds_toArray, List.set_cons_zero, List.set_cons_succ]
    refine take_on (i := 7) (v := ?_) rfl rfl (by kernel_rfl) (by kernel_rfl) (by kernel_rfl) (fun _ _ _ h => h) rfl ?_ hHeld ?_
    rotate_left
    · (intro wq hSq; have q1 := (hSq.cell (p := ⟨b, 1, none⟩) hbl).trans c1; have q2 := (hSq.cell (p := ⟨b, 2, none⟩) hbl).trans c2; have q3 := (hSq.cell (p := ⟨b, 3, none⟩) hbl).trans c3; go_simp <;> first | with_reducible rfl | rfl)
    simp only [Act.put, List.setIfInBounds_toArray, List.set_cons_zero, List.set_cons_succ]
    refine take_on (i := 8) (v := ?_) rfl rfl (by kernel_rfl) (by kernel_rfl) (by kernel_rfl) (fun _ _ _ h => h) rfl ?_ hHeld ?_
    rotate_left
    · (intro wq hSq; have q1 := (hSq.cell (p := ⟨b, 1, none⟩) hbl).trans c1; have q2 := (hSq.cell (p := ⟨b, 2, none⟩) hbl).trans c2; have q3 := (hSq.cell (p := ⟨b, 3, none⟩) hbl).trans c3; go_simp <;> first | with_reducible rfl | rfl)
    simp only [Act.put, List.setIfInBounds_toArray, List.set_cons_zero, List.set_cons_succ]
    refine take_on (i := 9) (v := ?_) rfl rfl (by kernel_rfl) (by kernel_rfl) (by kernel_rfl) (fun _ _ _ h => h) rfl ?_ hHeld ?_
    rotate_left
    · (intro wq hSq; have q1 := (hSq.cell (p := ⟨b, 1, none⟩) hbl).trans c1; have q2 := (hSq.cell (p := ⟨b, 2, none⟩) hbl).trans c2; have q3 := (hSq.cell (p := ⟨b, 3, none⟩) hbl).trans c3; go_simp <;> first | with_reducible rfl | rfl)
    simp only [Act.put, List.setIfInBounds_toArray, List.set_cons_zero, List.set_cons_succ]
    refine take_on (i := 10) (v := ?_) rfl rfl (by kernel_rfl) (by kernel_rfl) (by kernel_rfl) (fun _ _ _ h => h) rfl ?_ hHeld ?_
    rotate_left
    · (intro wq hSq; have q1 := (hSq.cell (p := ⟨b, 1, none⟩) hbl).trans c1; have q2 := (hSq.cell (p := ⟨b, 2, none⟩) hbl).trans c2; have q3 := (hSq.cell (p := ⟨b, 3, none⟩) hbl).trans c3; go_simp <;> first | with_reducible rfl | rfl)
    simp only [Act.put, List.setIfInBounds_toArray, List.set_cons_zero, List.set_cons_succ]
    refine take_one (i := 11) rfl (by kernel_rfl) (fun K hK => ?_)
    refine step_copy_pairs rfl (.tmp 31) (.tmp 35) 22 22 rfl 28 Try.underlying22 sizeQP _ _ _ _ _ _ rfl rfl w.heap.size k _ 28 HG2.out X2 (HK3.out.trans (by rw [Nat.sub_eq_zero_of_le hNk])) (fun h0 => absurd h0 (by rw [HL2.out]; omega)) (by rw [length_splice _ _ _ (by simp; omega), HL2.out]; simp; omega) w.heap.size w hHeld (Nat.le_refl _) ?_; intro w3 HG3 hB3
    refine hK.out _ _ ?_ (fun hHeld => ?_)
    · exact hB3
    clear hK K
    try simp only [Act.put, List.setIfInBounds_toArray, List.set_cons_zero, List.set_cons_succ]
    refine wpAnyH_done (by kernel_rfl) ?_ _
    go_wp2
    go_ret
    refine ⟨rfl, ?_, hB3⟩
    rw [← HSP.out]
    exact HG3.out
  ·
    refine wp_region_held_drew (S := (fun w' => Below w.heap.size w w')) (by kernel_rfl) ?_ (fun hHeld => ?_)
    · exact hB2.drew
    refine take_on (i := 0) (v := ?_) rfl rfl (by kernel_rfl) (by kernel_rfl) (by kernel_rfl) (fun _ _ _ h => h) rfl ?_ hHeld ?_
    rotate_left
    · (intro wq hSq; have q1 := (hSq.cell (p := ⟨b, 1, none⟩) hbl).trans c1; have q2 := (hSq.cell (p := ⟨b, 2, none⟩) hbl).trans c2; have q3 := (hSq.cell (p := ⟨b, 3, none⟩) hbl).trans c3; go_simp <;> first | with_reducible rfl | rfl)
    simp only [Act.put, List.setIfInBounds_toArray, List.set_cons_zero, List.set_cons_succ]
    refine take_on (i := 1) (v := ?_) rfl rfl (by kernel_rfl) (by kernel_rfl) (by kernel_rfl) (fun _ _ _ h => h) rfl ?_ hHeld ?_
    rotate_left
    · (intro wq hSq; have q1 := (hSq.cell (p := ⟨b, 1, none⟩) hbl).trans c1; have q2 := (hSq.cell (p := ⟨b, 2, none⟩) hbl).trans c2; have q3 := (hSq.cell (p := ⟨b, 3, none⟩) hbl).trans c3; go_simp <;> first | with_reducible rfl | rfl)
    simp only [Act.put, List.setIfInBounds_toArray, List.set_cons_zero, List.set_cons_succ]
    refine take_on (i := 2) (v := ?_) rfl rfl (by kernel_rfl) (by kernel_rfl) (by kernel_rfl) (fun _ _ _ h => h) rfl ?_ hHeld ?_
    rotate_left
    · (intro wq hSq; have q1 := (hSq.cell (p := ⟨b, 1, none⟩) hbl).trans c1; have q2 := (hSq.cell (p := ⟨b, 2, none⟩) hbl).trans c2; have q3 := (hSq.cell (p := ⟨b, 3, none⟩) hbl).trans c3; go_simp <;> first | with_reducible rfl | rfl)
    simp only [Act.put, List.setIfInBounds_toArray, List.set_cons_zero, List.set_cons_succ]
    refine take_on (i := 3) (v := ?_) rfl rfl (by kernel_rfl) (by kernel_rfl) (by kernel_rfl) (fun _ _ _ h => h) rfl ?_ hHeld ?_
    rotate_left
    · (intro wq hSq; have q1 := (hSq.cell (p := ⟨b, 1, none⟩) hbl).trans c1; have q2 := (hSq.cell (p := ⟨b, 2, none⟩) hbl).trans c2; have q3 := (hSq.cell (p := ⟨b, 3, none⟩) hbl).trans c3; go_simp <;> first | with_reducible rfl | rfl)
    simp only [Act.put, List.setIfInBounds_toArray, List.set_cons_zero, List.set_cons_succ]
    refine take_on (i := 4) (v := ?_) rfl rfl (by kernel_rfl) (by kernel_rfl) (by kernel_rfl) (fun _ _ _ h => h) rfl ?_ hHeld ?_
    rotate_left
    · (intro wq hSq; have q1 := (hSq.cell (p := ⟨b, 1, none⟩) hbl).trans c1; have q2 := (hSq.cell (p := ⟨b, 2, none⟩) hbl).trans c2; have q3 := (hSq.cell (p := ⟨b, 3, none⟩) hbl).trans c3; go_simp <;> first | with_reducible rfl | rfl)
    simp only [Act.put, List.setIfInBounds_toArray, List.set_cons_zero, List.set_cons_succ]
    refine take_on (i := 5) (v := ?_) rfl rfl (by kernel_rfl) (by kernel_rfl) (by kernel_rfl) (fun _ _ _ h => h) rfl ?_ hHeld ?_
    rotate_left
    · (intro wq hSq; have q1 := (hSq.cell (p := ⟨b, 1, none⟩) hbl).trans c1; have q2 := (hSq.cell (p := ⟨b, 2, none⟩) hbl).trans c2; have q3 := (hSq.cell (p := ⟨b, 3, none⟩) hbl).trans c3; go_simp <;> first | with_reducible rfl | rfl)
    simp only [Act.put, List.setIfInBounds_toArray, List.set_cons_zero, List.set_cons_succ]
    refine take_on (i := 6) (v := ?_) rfl rfl (by kernel_rfl) (by kernel_rfl) (by kernel_rfl) (fun _ _ _ h => h) rfl ?_ hHeld ?_
    rotate_left
    · (intro wq hSq; have q1 := (hSq.cell (p := ⟨b, 1, none⟩) hbl).trans c1; have q2 := (hSq.cell (p := ⟨b, 2, none⟩) hbl).trans c2; have q3 := (hSq.cell (p := ⟨b, 3, none⟩) hbl).trans c3; go_simp <;> first | with_reducible rfl | rfl)
    simp only [Act.put, List.setIfInBounds_toArray, List.set_cons_zero, List.set_cons_succ]
    refine take_on (i := 7) (v := ?_) rfl rfl (by kernel_rfl) (by kernel_rfl) (by kernel_rfl) (fun _ _ _ h => h) rfl ?_ hHeld ?_
    rotate_left
    · (intro wq hSq; have q1 := (hSq.cell (p := ⟨b, 1, none⟩) hbl).trans c1; have q2 := (hSq.cell (p := ⟨b, 2, none⟩) hbl).trans c2; have q3 := (hSq.cell (p := ⟨b, 3, none⟩) hbl).trans c3; go_simp <;> first | with_reducible rfl | rfl)
    simp only [Act.put, List.setIfInBounds_toArray, List.set_cons_zero, List.set_cons_succ]
    refine take_on (i := 8) (v := ?_) rfl rfl (by kernel_rfl) (by kernel_rfl) (by kernel_rfl) (fun _ _ _ h => h) rfl ?_ hHeld ?_
    rotate_left
    · (intro wq hSq; have q1 := (hSq.cell (p := ⟨b, 1, none⟩) hbl).trans c1; have q2 := (hSq.cell (p := ⟨b, 2, none⟩) hbl).trans c2; have q3 := (hSq.cell (p := ⟨b, 3, none⟩) hbl).trans c3; go_simp <;> first | with_reducible rfl | rfl)
    simp only [Act.put, List.setIfInBounds_toArray, List.set_cons_zero, List.set_cons_succ]
    refine take_on (i := 9) (v := ?_) rfl rfl (by kernel_rfl) (by kernel_rfl) (by kernel_rfl) (fun _ _ _ h => h) rfl ?_ hHeld ?_
    rotate_left
    · (intro wq hSq; have q1 := (hSq.cell (p := ⟨b, 1, none⟩) hbl).trans c1; have q2 := (hSq.cell (p := ⟨b, 2, none⟩) hbl).trans c2; have q3 := (hSq.cell (p := ⟨b, 3, none⟩) hbl).trans c3; go_simp <;> first | with_reducible rfl | rfl)
    simp only [Act.put, List.setIfInBounds_toArray, List.set_cons_zero, List.set_cons_succ]
    refine take_on (i := 10) (v := ?_) rfl rfl (by kernel_rfl) (by kernel_rfl) (by kernel_rfl) (fun _ _ _ h => h) rfl ?_ hHeld ?_
    rotate_left
    · (intro wq hSq; have q1 := (hSq.cell (p := ⟨b, 1, none⟩) hbl).trans c1; have q2 := (hSq.cell (p := ⟨b, 2, none⟩) hbl).trans c2; have q3 := (hSq.cell (p := ⟨b, 3, none⟩) hbl).trans c3; go_simp <;> first | with_reducible rfl | rfl)
    simp only [Act.put, List.setIfInBounds_toArray, List.set_cons_zero, List.set_cons_succ]
    refine take_one (i := 11) rfl (by kernel_rfl) (fun K hK => ?_)
    refine step_copy_pairs rfl (.tmp 31) (.tmp 35) 22 22 rfl 28 Try.underlying22 sizeQP _ _ _ _ _ _ rfl rfl w.heap.size k _ 28 HG2.out X2 HK3.out (fun _ => ⟨rfl, ⟨g, 0, none⟩, rfl, HT.out _ hHeld⟩) (by rw [length_splice _ _ _ (by simp; omega), HL2.out]; simp; omega) w.heap.size w hHeld (Nat.le_refl _) ?_; intro w3 HG3 hB3
    refine hK.out _ _ ?_ (fun hHeld => ?_)
    · exact hB3
    clear hK K
    try simp only [Act.put, List.setIfInBounds_toArray, List.set_cons_zero, List.set_cons_succ]
    refine wpAnyH_done (by kernel_rfl) ?_ _
    go_wp2
    go_ret
    refine ⟨rfl, ?_, hB3⟩
    rw [← HSP.out]
    exact HG3.out

theorem lineP_any (b g most R f m : Nat) (xs : List (Int × Bool)) (w : World) (h : QrP w b g most R f xs) (hn : xs.length ≤ m) (hm : m ≤ 65536) :
    Calls Try.prog 27 #[.pointer (some ⟨b, 0, none⟩), .int .i64 (m : Int)] w fun e w' => e = .returned (.slice (some ⟨w.heap.size, 0, none⟩) m m) ∧
      w'.heap[w.heap.size]? = some (.cells (flP (xs ++ List.replicate (m - xs.length) (0, false))).toArray 28 (0, 0)) ∧ Below w.heap.size w w' := by
  by_cases hR : 0 < R
  · exact lineP_ring b g most R f m xs w h hR hn hm
  · obtain rfl : R = 0 := by omega
    obtain rfl : xs = [] := by have := h.len; exact List.eq_nil_of_length_eq_zero (by omega)
    exact lineP_nil b g most f m [] w h hm

end Go.Proofs.Ytomfhbngpikjeab

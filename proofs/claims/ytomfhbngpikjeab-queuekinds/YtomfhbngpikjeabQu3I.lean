/- A queue of numbers: line. -/
import Derived.Test.YtomfhbngpikjeabQu2I
namespace Go.Proofs.Ytomfhbngpikjeab
open Go.RowKit

theorem encI_one (xs : List Int) : ∀ v ∈ xs.map encI, v.oneCell' = true := by
  intro v hv
  obtain ⟨x, _, rfl⟩ := List.mem_map.1 hv
  rfl

theorem sizeQI : (Try.prog.info? 3).map (·.size) = some 1 := by kernel_rfl

set_option maxRecDepth 100000 in
set_option maxHeartbeats 1000000 in
theorem lineI_nil (b g most f m : Nat) (xs : List Int) (w : World) (h : QrI w b g most 0 f xs) (hm : m ≤ 65536) :
    Calls Try.prog 33 #[.pointer (some ⟨b, 0, none⟩), .int .i64 (m : Int)] w fun e w' => e = .returned (.slice (some ⟨w.heap.size, 0, none⟩) m m) ∧
      w'.heap[w.heap.size]? = some (.cells (List.replicate m (.int .i64 0)).toArray 3 (0, 0)) ∧ Below w.heap.size w w' := by
  have hmk := run_make_row' (P := Try.prog) 36 3 (.int .i64 0) 8 Try.underlying36 infoQI rfl .i64 .i64 m (by omega) (by omega)
  have hbl := h.lt.1
  have hx0 : xs = [] := by have := h.len; exact List.eq_nil_of_length_eq_zero (by omega)
  subst hx0
  obtain ⟨v, c0, c1, c2, c3, ⟨_, rfl, _, rfl, rfl⟩ | ⟨cur, rfl, hgb, hR, hg, hla⟩⟩ := h.cells
  · clear h
    simp only [List.length_nil, Int.natCast_zero] at c1 c2
    have hZ := heap_alloc_new w (.cells (madeCells #[.int .i64 0] m) 3)
    have hB := (Below.refl w.heap.size w).alloc (Nat.le_refl _) (.cells (madeCells #[.int .i64 0] m) 3)
    rw [made_list] at hZ hB
    obtain ⟨W1, hW1⟩ : ∃ W1, W1 = w.alloc (.cells (List.replicate m (.int .i64 0)).toArray 3) := ⟨_, rfl⟩
    rw [← hW1] at hZ hB
    have HZ := hide_it hZ
    have HB := hide_it hB
    clear hZ hB
    go_enter Try.func33, Try.ntmps33
    go_wp2_with fail
    rw [made_list, ← hW1]
    clear hW1 hmk c0
    refine wp_region_held_drew (S := (fun w' => Below w.heap.size w w')) (by kernel_rfl) ?_ (fun hHeld => ?_)
    · exact HB.out.drew
    refine take_on (i := 0) (v := ?_) rfl rfl (by kernel_rfl) (by kernel_rfl) (by kernel_rfl) (fun _ _ _ h => h) rfl ?_ hHeld ?_
    rotate_left
    · (intro wq hSq; have q1 := (hSq.cell (p := ⟨g, 1, none⟩) hbl).trans c1; have q2 := (hSq.cell (p := ⟨g, 2, none⟩) hbl).trans c2; have q3 := (hSq.cell (p := ⟨g, 3, none⟩) hbl).trans c3; go_simp <;> first | with_reducible rfl | rfl)
    simp only [Act.put, List.setIfInBounds_toArray, List.set_cons_zero, List.set_cons_succ]
    refine take_on (i := 1) (v := ?_) rfl rfl (by kernel_rfl) (by kernel_rfl) (by kernel_rfl) (fun _ _ _ h => h) rfl ?_ hHeld ?_
    rotate_left
    · (intro wq hSq; have q1 := (hSq.cell (p := ⟨g, 1, none⟩) hbl).trans c1; have q2 := (hSq.cell (p := ⟨g, 2, none⟩) hbl).trans c2; have q3 := (hSq.cell (p := ⟨g, 3, none⟩) hbl).trans c3; go_simp <;> first | with_reducible rfl | rfl)
    simp only [Act.put, List.setIfInBounds_toArray, List.set_cons_zero, List.set_cons_succ]
    refine take_on (i := 2) (v := ?_) rfl rfl (by kernel_rfl) (by kernel_rfl) (by kernel_rfl) (fun _ _ _ h => h) rfl ?_ hHeld ?_
    rotate_left
    · (intro wq hSq; have q1 := (hSq.cell (p := ⟨g, 1, none⟩) hbl).trans c1; have q2 := (hSq.cell (p := ⟨g, 2, none⟩) hbl).trans c2; have q3 := (hSq.cell (p := ⟨g, 3, none⟩) hbl).trans c3; go_simp <;> first | with_reducible rfl | rfl)
    simp only [Act.put, List.setIfInBounds_toArray, List.set_cons_zero, List.set_cons_succ]
    refine take_on (i := 3) (v := ?_) rfl rfl (by kernel_rfl) (by kernel_rfl) (by kernel_rfl) (fun _ _ _ h => h) rfl ?_ hHeld ?_
    rotate_left
    · (intro wq hSq; have q1 := (hSq.cell (p := ⟨g, 1, none⟩) hbl).trans c1; have q2 := (hSq.cell (p := ⟨g, 2, none⟩) hbl).trans c2; have q3 := (hSq.cell (p := ⟨g, 3, none⟩) hbl).trans c3; go_simp <;> first | with_reducible rfl | rfl)
    simp only [Act.put, List.setIfInBounds_toArray, List.set_cons_zero, List.set_cons_succ]
    refine take_on (i := 4) (v := ?_) rfl rfl (by kernel_rfl) (by kernel_rfl) (by kernel_rfl) (fun _ _ _ h => h) rfl ?_ hHeld ?_
    rotate_left
    · (intro wq hSq; have q1 := (hSq.cell (p := ⟨g, 1, none⟩) hbl).trans c1; have q2 := (hSq.cell (p := ⟨g, 2, none⟩) hbl).trans c2; have q3 := (hSq.cell (p := ⟨g, 3, none⟩) hbl).trans c3; go_simp <;> first | with_reducible rfl | rfl)
    simp only [Act.put, List.setIfInBounds_toArray, List.set_cons_zero, List.set_cons_succ]
    refine take_on (i := 5) (v := ?_) rfl rfl (by kernel_rfl) (by kernel_rfl) (by kernel_rfl) (fun _ _ _ h => h) rfl ?_ hHeld ?_
    rotate_left
    · (intro wq hSq; have q1 := (hSq.cell (p := ⟨g, 1, none⟩) hbl).trans c1; have q2 := (hSq.cell (p := ⟨g, 2, none⟩) hbl).trans c2; have q3 := (hSq.cell (p := ⟨g, 3, none⟩) hbl).trans c3; go_simp <;> first | with_reducible rfl | rfl)
    simp only [Act.put, List.setIfInBounds_toArray, List.set_cons_zero, List.set_cons_succ]
    refine take_on (i := 6) (v := ?_) rfl rfl (by kernel_rfl) (by kernel_rfl) (by kernel_rfl) (fun _ _ _ h => h) rfl ?_ hHeld ?_
    rotate_left
    · (intro wq hSq; have q1 := (hSq.cell (p := ⟨g, 1, none⟩) hbl).trans c1; have q2 := (hSq.cell (p := ⟨g, 2, none⟩) hbl).trans c2; have q3 := (hSq.cell (p := ⟨g, 3, none⟩) hbl).trans c3; go_simp <;> first | with_reducible rfl | rfl)
    simp only [Act.put, List.setIfInBounds_toArray, List.set_cons_zero, List.set_cons_succ]
    refine take_on (i := 7) (v := ?_) rfl rfl (by kernel_rfl) (by kernel_rfl) (by kernel_rfl) (fun _ _ _ h => h) rfl ?_ hHeld ?_
    rotate_left
    · (intro wq hSq; have q1 := (hSq.cell (p := ⟨g, 1, none⟩) hbl).trans c1; have q2 := (hSq.cell (p := ⟨g, 2, none⟩) hbl).trans c2; have q3 := (hSq.cell (p := ⟨g, 3, none⟩) hbl).trans c3; go_simp <;> first | with_reducible rfl | rfl)
    simp only [Act.put, List.setIfInBounds_toArray, List.set_cons_zero, List.set_cons_succ]
    refine take_on (i := 8) (v := ?_) rfl rfl (by kernel_rfl) (by kernel_rfl) (by kernel_rfl) (fun _ _ _ h => h) rfl ?_ hHeld ?_
    rotate_left
    · (intro wq hSq; have q1 := (hSq.cell (p := ⟨g, 1, none⟩) hbl).trans c1; have q2 := (hSq.cell (p := ⟨g, 2, none⟩) hbl).trans c2; have q3 := (hSq.cell (p := ⟨g, 3, none⟩) hbl).trans c3; go_simp <;> first | with_reducible rfl | rfl)
    simp only [Act.put, List.setIfInBounds_toArray, List.set_cons_zero, List.set_cons_succ]
    refine take_on (i := 9) (v := ?_) rfl rfl (by kernel_rfl) (by kernel_rfl) (by kernel_rfl) (fun _ _ _ h => h) rfl ?_ hHeld ?_
    rotate_left
    · (intro wq hSq; have q1 := (hSq.cell (p := ⟨g, 1, none⟩) hbl).trans c1; have q2 := (hSq.cell (p := ⟨g, 2, none⟩) hbl).trans c2; have q3 := (hSq.cell (p := ⟨g, 3, none⟩) hbl).trans c3; go_simp <;> first | with_reducible rfl | rfl)
    simp only [Act.put, List.setIfInBounds_toArray, List.set_cons_zero, List.set_cons_succ]
    refine take_on (i := 10) (v := ?_) rfl rfl (by kernel_rfl) (by kernel_rfl) (by kernel_rfl) (fun _ _ _ h => h) rfl ?_ hHeld ?_
    rotate_left
    · (intro wq hSq; have q1 := (hSq.cell (p := ⟨g, 1, none⟩) hbl).trans c1; have q2 := (hSq.cell (p := ⟨g, 2, none⟩) hbl).trans c2; have q3 := (hSq.cell (p := ⟨g, 3, none⟩) hbl).trans c3; go_simp <;> first | with_reducible rfl | rfl)
    simp only [Act.put, List.setIfInBounds_toArray, List.set_cons_zero, List.set_cons_succ]
    refine take_on (i := 11) (v := ?_) rfl rfl (by kernel_rfl) (by kernel_rfl) (by kernel_rfl) (fun _ _ _ h => h) rfl ?_ hHeld ?_
    rotate_left
    · (intro wq hSq; have q1 := (hSq.cell (p := ⟨g, 1, none⟩) hbl).trans c1; have q2 := (hSq.cell (p := ⟨g, 2, none⟩) hbl).trans c2; have q3 := (hSq.cell (p := ⟨g, 3, none⟩) hbl).trans c3; go_simp <;> first | with_reducible rfl | rfl)
    simp only [Act.put, List.setIfInBounds_toArray, List.set_cons_zero, List.set_cons_succ]
    refine take_on (i := 12) (v := ?_) rfl rfl (by kernel_rfl) (by kernel_rfl) (by kernel_rfl) (fun _ _ _ h => h) rfl ?_ hHeld ?_
    rotate_left
    · (intro wq hSq; have q1 := (hSq.cell (p := ⟨g, 1, none⟩) hbl).trans c1; have q2 := (hSq.cell (p := ⟨g, 2, none⟩) hbl).trans c2; have q3 := (hSq.cell (p := ⟨g, 3, none⟩) hbl).trans c3; go_simp <;> first | with_reducible rfl | rfl)
    simp only [Act.put, List.setIfInBounds_toArray, List.set_cons_zero, List.set_cons_succ]
    refine take_on (i := 13) (v := ?_) rfl rfl (by kernel_rfl) (by kernel_rfl) (by kernel_rfl) (fun _ _ _ h => h) rfl ?_ hHeld ?_
    rotate_left
    · (intro wq hSq; have q1 := (hSq.cell (p := ⟨g, 1, none⟩) hbl).trans c1; have q2 := (hSq.cell (p := ⟨g, 2, none⟩) hbl).trans c2; have q3 := (hSq.cell (p := ⟨g, 3, none⟩) hbl).trans c3; go_simp <;> first | with_reducible rfl | rfl)
    simp only [Act.put, List.setIfInBounds_toArray, List.set_cons_zero, List.set_cons_succ]
    refine take_on (i := 14) (v := ?_) rfl rfl (by kernel_rfl) (by kernel_rfl) (by kernel_rfl) (fun _ _ _ h => h) rfl ?_ hHeld ?_
    rotate_left
    · (intro wq hSq; have q1 := (hSq.cell (p := ⟨g, 1, none⟩) hbl).trans c1; have q2 := (hSq.cell (p := ⟨g, 2, none⟩) hbl).trans c2; have q3 := (hSq.cell (p := ⟨g, 3, none⟩) hbl).trans c3; go_simp <;> first | with_reducible rfl | rfl)
    simp only [Act.put, List.setIfInBounds_toArray, List.set_cons_zero, List.set_cons_succ]
    refine take_one (i := 15) rfl (by kernel_rfl) (fun K hK => ?_)
    refine step_copy_splice rfl (.tmp 14) (.tmp 23) 36 36 rfl 3 Try.underlying36 sizeQI _ _ _ _ _ _ rfl rfl w.heap.size 0 (List.replicate m (.int .i64 0)) 3 HZ.out [] (by simp) (by simp) (by simp) (by simp) w.heap.size w hHeld (Nat.le_refl _) ?_; intro w2 HG2 hB2
    refine hK.out _ _ ?_ (fun hHeld => ?_)
    · exact hB2
    clear hK K
    try simp only [Act.put, List.setIfInBounds_toArray, List.set_cons_zero, List.set_cons_succ]
    refine take_on (i := 16) (v := ?_) rfl rfl (by kernel_rfl) (by kernel_rfl) (by kernel_rfl) (fun _ _ _ h => h) rfl ?_ hHeld ?_
    rotate_left
    · (intro wq hSq; have q1 := (hSq.cell (p := ⟨g, 1, none⟩) hbl).trans c1; have q2 := (hSq.cell (p := ⟨g, 2, none⟩) hbl).trans c2; have q3 := (hSq.cell (p := ⟨g, 3, none⟩) hbl).trans c3; go_simp <;> first | with_reducible rfl | rfl)
    simp only [Act.put, List.setIfInBounds_toArray, List.set_cons_zero, List.set_cons_succ]
    refine wpAnyH_done (by kernel_rfl) ?_ _
    go_wp2_with fail
    refine wp_region_held_drew (S := (fun w' => Below w.heap.size w w')) (by kernel_rfl) ?_ (fun hHeld => ?_)
    · exact hB2.drew
    refine take_on (i := 0) (v := ?_) rfl rfl (by kernel_rfl) (by kernel_rfl) (by kernel_rfl) (fun _ _ _ h => h) rfl ?_ hHeld ?_
    rotate_left
    · (intro wq hSq; have q1 := (hSq.cell (p := ⟨g, 1, none⟩) hbl).trans c1; have q2 := (hSq.cell (p := ⟨g, 2, none⟩) hbl).trans c2; have q3 := (hSq.cell (p := ⟨g, 3, none⟩) hbl).trans c3; go_simp <;> first | with_reducible rfl | rfl)
    simp only [Act.put, List.setIfInBounds_toArray, List.set_cons_zero, List.set_cons_succ]
    refine take_on (i := 1) (v := ?_) rfl rfl (by kernel_rfl) (by kernel_rfl) (by kernel_rfl) (fun _ _ _ h => h) rfl ?_ hHeld ?_
    rotate_left
    · (intro wq hSq; have q1 := (hSq.cell (p := ⟨g, 1, none⟩) hbl).trans c1; have q2 := (hSq.cell (p := ⟨g, 2, none⟩) hbl).trans c2; have q3 := (hSq.cell (p := ⟨g, 3, none⟩) hbl).trans c3; go_simp <;> first | with_reducible rfl | rfl)
    simp only [Act.put, List.setIfInBounds_toArray, List.set_cons_zero, List.set_cons_succ]
    refine take_on (i := 2) (v := ?_) rfl rfl (by kernel_rfl) (by kernel_rfl) (by kernel_rfl) (fun _ _ _ h => h) rfl ?_ hHeld ?_
    rotate_left
    · (intro wq hSq; have q1 := (hSq.cell (p := ⟨g, 1, none⟩) hbl).trans c1; have q2 := (hSq.cell (p := ⟨g, 2, none⟩) hbl).trans c2; have q3 := (hSq.cell (p := ⟨g, 3, none⟩) hbl).trans c3; go_simp <;> first | with_reducible rfl | rfl)
    simp only [Act.put, List.setIfInBounds_toArray, List.set_cons_zero, List.set_cons_succ]
    refine take_on (i := 3) (v := ?_) rfl rfl (by kernel_rfl) (by kernel_rfl) (by kernel_rfl) (fun _ _ _ h => h) rfl ?_ hHeld ?_
    rotate_left
    · (intro wq hSq; have q1 := (hSq.cell (p := ⟨g, 1, none⟩) hbl).trans c1; have q2 := (hSq.cell (p := ⟨g, 2, none⟩) hbl).trans c2; have q3 := (hSq.cell (p := ⟨g, 3, none⟩) hbl).trans c3; go_simp <;> first | with_reducible rfl | rfl)
    simp only [Act.put, List.setIfInBounds_toArray, List.set_cons_zero, List.set_cons_succ]
    refine take_on (i := 4) (v := ?_) rfl rfl (by kernel_rfl) (by kernel_rfl) (by kernel_rfl) (fun _ _ _ h => h) rfl ?_ hHeld ?_
    rotate_left
    · (intro wq hSq; have q1 := (hSq.cell (p := ⟨g, 1, none⟩) hbl).trans c1; have q2 := (hSq.cell (p := ⟨g, 2, none⟩) hbl).trans c2; have q3 := (hSq.cell (p := ⟨g, 3, none⟩) hbl).trans c3; go_simp <;> first | with_reducible rfl | rfl)
    simp only [Act.put, List.setIfInBounds_toArray, List.set_cons_zero, List.set_cons_succ]
    refine take_on (i := 5) (v := ?_) rfl rfl (by kernel_rfl) (by kernel_rfl) (by kernel_rfl) (fun _ _ _ h => h) rfl ?_ hHeld ?_
    rotate_left
    · (intro wq hSq; have q1 := (hSq.cell (p := ⟨g, 1, none⟩) hbl).trans c1; have q2 := (hSq.cell (p := ⟨g, 2, none⟩) hbl).trans c2; have q3 := (hSq.cell (p := ⟨g, 3, none⟩) hbl).trans c3; go_simp <;> first | with_reducible rfl | rfl)
    simp only [Act.put, List.setIfInBounds_toArray, List.set_cons_zero, List.set_cons_succ]
    refine take_on (i := 6) (v := ?_) rfl rfl (by kernel_rfl) (by kernel_rfl) (by kernel_rfl) (fun _ _ _ h => h) rfl ?_ hHeld ?_
    rotate_left
    · (intro wq hSq; have q1 := (hSq.cell (p := ⟨g, 1, none⟩) hbl).trans c1; have q2 := (hSq.cell (p := ⟨g, 2, none⟩) hbl).trans c2; have q3 := (hSq.cell (p := ⟨g, 3, none⟩) hbl).trans c3; go_simp <;> first | with_reducible rfl | rfl)
    simp only [Act.put, List.setIfInBounds_toArray, List.set_cons_zero, List.set_cons_succ]
    refine take_on (i := 7) (v := ?_) rfl rfl (by kernel_rfl) (by kernel_rfl) (by kernel_rfl) (fun _ _ _ h => h) rfl ?_ hHeld ?_
    rotate_left
    · (intro wq hSq; have q1 := (hSq.cell (p := ⟨g, 1, none⟩) hbl).trans c1; have q2 := (hSq.cell (p := ⟨g, 2, none⟩) hbl).trans c2; have q3 := (hSq.cell (p := ⟨g, 3, none⟩) hbl).trans c3; go_simp <;> first | with_reducible rfl | rfl)
    simp only [Act.put, List.setIfInBounds_toArray, List.set_cons_zero, List.set_cons_succ]
    refine take_on (i := 8) (v := ?_) rfl rfl (by kernel_rfl) (by kernel_rfl) (by kernel_rfl) (fun _ _ _ h => h) rfl ?_ hHeld ?_
    rotate_left
    · (intro wq hSq; have q1 := (hSq.cell (p := ⟨g, 1, none⟩) hbl).trans c1; have q2 := (hSq.cell (p := ⟨g, 2, none⟩) hbl).trans c2; have q3 := (hSq.cell (p := ⟨g, 3, none⟩) hbl).trans c3; go_simp <;> first | with_reducible rfl | rfl)
    simp only [Act.put, List.setIfInBounds_toArray, List.set_cons_zero, List.set_cons_succ]
    refine take_on (i := 9) (v := ?_) rfl rfl (by kernel_rfl) (by kernel_rfl) (by kernel_rfl) (fun _ _ _ h => h) rfl ?_ hHeld ?_
    rotate_left
    · (intro wq hSq; have q1 := (hSq.cell (p := ⟨g, 1, none⟩) hbl).trans c1; have q2 := (hSq.cell (p := ⟨g, 2, none⟩) hbl).trans c2; have q3 := (hSq.cell (p := ⟨g, 3, none⟩) hbl).trans c3; go_simp <;> first | with_reducible rfl | rfl)
    simp only [Act.put, List.setIfInBounds_toArray, List.set_cons_zero, List.set_cons_succ]
    refine take_on (i := 10) (v := ?_) rfl rfl (by kernel_rfl) (by kernel_rfl) (by kernel_rfl) (fun _ _ _ h => h) rfl ?_ hHeld ?_
    rotate_left
    · (intro wq hSq; have q1 := (hSq.cell (p := ⟨g, 1, none⟩) hbl).trans c1; have q2 := (hSq.cell (p := ⟨g, 2, none⟩) hbl).trans c2; have q3 := (hSq.cell (p := ⟨g, 3, none⟩) hbl).trans c3; go_simp <;> first | with_reducible rfl | rfl)
    simp only [Act.put, List.setIfInBounds_toArray, List.set_cons_zero, List.set_cons_succ]
    refine take_one (i := 11) rfl (by kernel_rfl) (fun K hK => ?_)
    refine step_copy_splice rfl (.tmp 31) (.tmp 35) 36 36 rfl 3 Try.underlying36 sizeQI _ _ _ _ _ _ rfl rfl w.heap.size 0 _ 3 HG2.out [] (by simp) (by simp) (by simp) (by simp) w.heap.size w hHeld (Nat.le_refl _) ?_; intro w3 HG3 hB3
    refine hK.out _ _ ?_ (fun hHeld => ?_)
    · exact hB3
    clear hK K
    try simp only [Act.put, List.setIfInBounds_toArray, List.set_cons_zero, List.set_cons_succ]
    refine wpAnyH_done (by kernel_rfl) ?_ _
    go_wp2
    go_ret
    refine ⟨rfl, ?_, hB3⟩
    have := HG3.out
    simpa [splice] using this
  · have := hla.at_
    omega

set_option maxRecDepth 100000 in
set_option maxHeartbeats 2000000 in
theorem lineI_ring (b g most R f m : Nat) (xs : List Int) (w : World) (h : QrI w b g most R f xs) (hR0 : 0 < R) (hn : xs.length ≤ m) (hm : m ≤ 65536) :
    Calls Try.prog 33 #[.pointer (some ⟨b, 0, none⟩), .int .i64 (m : Int)] w fun e w' => e = .returned (.slice (some ⟨w.heap.size, 0, none⟩) m m) ∧
      w'.heap[w.heap.size]? = some (.cells (xs.map encI ++ List.replicate (m - xs.length) (.int .i64 0 : Value)).toArray 3 (0, 0)) ∧ Below w.heap.size w w' := by
  have hmk := run_make_row' (P := Try.prog) 36 3 (.int .i64 0) 8 Try.underlying36 infoQI rfl .i64 .i64 m (by omega) (by omega)
  obtain ⟨hbl, hgl⟩ := h.lt
  have hnR := h.len
  have hRm := h.room
  have hmm := h.most_le
  obtain ⟨v, c0, c1, c2, c3, ⟨h0, _⟩ | ⟨cur, rfl, hgb, hR, hg, hla⟩⟩ := h.cells
  · omega
  clear h c0
  subst hR
  have hf := hla.at_
  obtain ⟨k, hk⟩ : ∃ k, k = aheadN xs.length f cur.length := ⟨_, rfl⟩
  obtain ⟨X1, hX1⟩ : ∃ X1, X1 = (xs.map encI).take k := ⟨_, rfl⟩
  obtain ⟨X2, hX2⟩ : ∃ X2, X2 = (xs.map encI).drop k := ⟨_, rfl⟩
  have hk1 : k ≤ xs.length := by rw [hk]; exact aheadN_le _ _ _
  have hk2 : k = Nat.min (cur.length - f) xs.length := by rw [hk]; exact Nat.min_comm _ _
  have hl1 : X1.length = k := by rw [hX1]; simp; omega
  have hl2 : X2.length = xs.length - k := by rw [hX2]; simp
  have hsp : splice (splice (List.replicate m (.int .i64 0 : Value)) 0 X1) k X2 = xs.map encI ++ List.replicate (m - xs.length) (.int .i64 0 : Value) := by
    rw [← hl1, splice2 _ _ _ (by simp; omega), ← List.append_assoc, hl1, hl2]
    congr 1
    · rw [hX1, hX2]; exact List.take_append_drop _ _
    · rw [List.drop_replicate]; congr 1; omega
  have hs1 : ∀ w', Below w.heap.size w w' → ∀ j u, X1[j]? = some u → w'.cell? ((⟨g, f, none⟩ : Addr).add j) = some u := by
    intro w' hb j u hu
    rw [Addr.add_lit, hb.cell (p := ⟨g, f + j, none⟩) hgl, cell_of_row _ _ _ _ _ _ hg, List.getElem?_toArray]
    have hj : j < X1.length := (List.getElem?_eq_some_iff.1 hu).1
    rw [hla.line1 (by simp; omega), ← hu, hX1, List.getElem?_take_of_lt (by omega)]
  have hs2 : ∀ w', Below w.heap.size w w' → ∀ j u, X2[j]? = some u → w'.cell? ((⟨g, 0, none⟩ : Addr).add j) = some u := by
    intro w' hb j u hu
    rw [Addr.add_lit, hb.cell (p := ⟨g, 0 + j, none⟩) hgl, cell_of_row _ _ _ _ _ _ hg, List.getElem?_toArray]
    have hj : j < X2.length := (List.getElem?_eq_some_iff.1 hu).1
    have := hla.line2 (j := j) (by simp; omega)
    rw [Nat.zero_add, this, ← hu, hX2, List.getElem?_drop, List.length_map, hk]
  have h11 : ∀ v ∈ X1, v.oneCell' = true := fun v hv => encI_one xs v (List.mem_of_mem_take (hX1 ▸ hv))
  have h12 : ∀ v ∈ X2, v.oneCell' = true := fun v hv => encI_one xs v (List.mem_of_mem_drop (hX2 ▸ hv))
  have hk3 : X2.length = Nat.min cur.length (xs.length - k) := by rw [hl2]; exact (Nat.min_eq_right (by omega)).symm
  have HS := hide_it hs1
  have HT := hide_it hs2
  have HO := hide_it h11
  have HP := hide_it h12
  have HK3 := hide_it hk3
  have HK2 := hide_it hk2
  have HSP := hide_it hsp
  have HL2 := hide_it hl2
  clear hs1 hs2 h11 h12 hk3 hk2 hsp hl2 hX1 hX2 hk hla hg
  obtain ⟨N, hN⟩ : ∃ N, N = xs.length := ⟨_, rfl⟩
  obtain ⟨R, hR⟩ : ∃ R, R = cur.length := ⟨_, rfl⟩
  rw [← hN] at hn hnR c2 hk1 HK2 HK3 HSP HL2 ⊢
  rw [← hR] at hR0 hRm hnR hf c3 HK2 HK3
  clear hN hR
  have hfi : (f : Int) < (R : Int) := by omega
  have hfne : ¬ R = f := by omega
  have hfle : f ≤ R := by omega
  have hni : (N : Int) ≤ (m : Int) := by omega
  have hki : (k : Int) ≤ (N : Int) := by omega
  have hZ := heap_alloc_new w (.cells (madeCells #[.int .i64 0] m) 3)
  have hB := (Below.refl w.heap.size w).alloc (Nat.le_refl _) (.cells (madeCells #[.int .i64 0] m) 3)
  rw [made_list] at hZ hB
  obtain ⟨W1, hW1⟩ : ∃ W1, W1 = w.alloc (.cells (List.replicate m (.int .i64 0)).toArray 3) := ⟨_, rfl⟩
  rw [← hW1] at hZ hB
  have HZ := hide_it hZ
  have HB := hide_it hB
  clear hZ hB
  go_enter Try.func33, Try.ntmps33
  go_wp2_with fail
  rw [made_list, ← hW1]
  clear hW1 hmk
  refine wp_region_held_drew (S := (fun w' => Below w.heap.size w w')) (by kernel_rfl) ?_ (fun hHeld => ?_)
  · exact HB.out.drew
  refine take_on (i := 0) (v := ?_) rfl rfl (by kernel_rfl) (by kernel_rfl) (by kernel_rfl) (fun _ _ _ h => h) rfl ?_ hHeld ?_
  rotate_left
  · (intro wq hSq; have q1 := (hSq.cell (p := ⟨b, 1, none⟩) hbl).trans c1; have q2 := (hSq.cell (p := ⟨b, 2, none⟩) hbl).trans c2; have q3 := (hSq.cell (p := ⟨b, 3, none⟩) hbl).trans c3; go_simp <;> first | with_reducible rfl | rfl)
  simp only [Act.put, List.setIfInBounds_toArray, List.set_cons_zero, List.set_cons_succ]
  refine take_on (i := 1) (v := ?_) rfl rfl (by kernel_rfl) (by kernel_rfl) (by kernel_rfl) (fun _ _ _ h => h) rfl ?_ hHeld ?_
  rotate_left
  · (intro wq hSq; have q1 := (hSq.cell (p := ⟨b, 1, none⟩) hbl).trans c1; have q2 := (hSq.cell (p := ⟨b, 2, none⟩) hbl).trans c2; have q3 := (hSq.cell (p := ⟨b, 3, none⟩) hbl).trans c3; go_simp <;> first | with_reducible rfl | rfl)
  simp only [Act.put, List.setIfInBounds_toArray, List.set_cons_zero, List.set_cons_succ]
  refine take_on (i := 2) (v := ?_) rfl rfl (by kernel_rfl) (by kernel_rfl) (by kernel_rfl) (fun _ _ _ h => h) rfl ?_ hHeld ?_
  rotate_left
  · (intro wq hSq; have q1 := (hSq.cell (p := ⟨b, 1, none⟩) hbl).trans c1; have q2 := (hSq.cell (p := ⟨b, 2, none⟩) hbl).trans c2; have q3 := (hSq.cell (p := ⟨b, 3, none⟩) hbl).trans c3; go_simp <;> first | with_reducible rfl | rfl)
  simp only [Act.put, List.setIfInBounds_toArray, List.set_cons_zero, List.set_cons_succ]
  refine take_on (i := 3) (v := ?_) rfl rfl (by kernel_rfl) (by kernel_rfl) (by kernel_rfl) (fun _ _ _ h => h) rfl ?_ hHeld ?_
  rotate_left
  · (intro wq hSq; have q1 := (hSq.cell (p := ⟨b, 1, none⟩) hbl).trans c1; have q2 := (hSq.cell (p := ⟨b, 2, none⟩) hbl).trans c2; have q3 := (hSq.cell (p := ⟨b, 3, none⟩) hbl).trans c3; go_simp <;> first | with_reducible rfl | rfl)
  simp only [Act.put, List.setIfInBounds_toArray, List.set_cons_zero, List.set_cons_succ]
  refine take_on (i := 4) (v := ?_) rfl rfl (by kernel_rfl) (by kernel_rfl) (by kernel_rfl) (fun _ _ _ h => h) rfl ?_ hHeld ?_
  rotate_left
  · (intro wq hSq; have q1 := (hSq.cell (p := ⟨b, 1, none⟩) hbl).trans c1; have q2 := (hSq.cell (p := ⟨b, 2, none⟩) hbl).trans c2; have q3 := (hSq.cell (p := ⟨b, 3, none⟩) hbl).trans c3; go_simp <;> first | with_reducible rfl | rfl)
  simp only [Act.put, List.setIfInBounds_toArray, List.set_cons_zero, List.set_cons_succ]
  refine take_on (i := 5) (v := ?_) rfl rfl (by kernel_rfl) (by kernel_rfl) (by kernel_rfl) (fun _ _ _ h => h) rfl ?_ hHeld ?_
  rotate_left
  · (intro wq hSq; have q1 := (hSq.cell (p := ⟨b, 1, none⟩) hbl).trans c1; have q2 := (hSq.cell (p := ⟨b, 2, none⟩) hbl).trans c2; have q3 := (hSq.cell (p := ⟨b, 3, none⟩) hbl).trans c3; go_simp <;> first | with_reducible rfl | rfl)
  simp only [Act.put, List.setIfInBounds_toArray, List.set_cons_zero, List.set_cons_succ]
  refine take_on (i := 6) (v := ?_) rfl rfl (by kernel_rfl) (by kernel_rfl) (by kernel_rfl) (fun _ _ _ h => h) rfl ?_ hHeld ?_
  rotate_left
  · (intro wq hSq; have q1 := (hSq.cell (p := ⟨b, 1, none⟩) hbl).trans c1; have q2 := (hSq.cell (p := ⟨b, 2, none⟩) hbl).trans c2; have q3 := (hSq.cell (p := ⟨b, 3, none⟩) hbl).trans c3; go_simp <;> first | with_reducible rfl | rfl)
  simp only [Act.put, List.setIfInBounds_toArray, List.set_cons_zero, List.set_cons_succ]
  refine take_on (i := 7) (v := ?_) rfl rfl (by kernel_rfl) (by kernel_rfl) (by kernel_rfl) (fun _ _ _ h => h) rfl ?_ hHeld ?_
  rotate_left
  · (intro wq hSq; have q1 := (hSq.cell (p := ⟨b, 1, none⟩) hbl).trans c1; have q2 := (hSq.cell (p := ⟨b, 2, none⟩) hbl).trans c2; have q3 := (hSq.cell (p := ⟨b, 3, none⟩) hbl).trans c3; go_simp <;> first | with_reducible rfl | rfl)
  simp only [Act.put, List.setIfInBounds_toArray, List.set_cons_zero, List.set_cons_succ]
  refine take_on (i := 8) (v := ?_) rfl rfl (by kernel_rfl) (by kernel_rfl) (by kernel_rfl) (fun _ _ _ h => h) rfl ?_ hHeld ?_
  rotate_left
  · (intro wq hSq; have q1 := (hSq.cell (p := ⟨b, 1, none⟩) hbl).trans c1; have q2 := (hSq.cell (p := ⟨b, 2, none⟩) hbl).trans c2; have q3 := (hSq.cell (p := ⟨b, 3, none⟩) hbl).trans c3; go_simp <;> first | with_reducible rfl | rfl)
  simp only [Act.put, List.setIfInBounds_toArray, List.set_cons_zero, List.set_cons_succ]
  refine take_on (i := 9) (v := ?_) rfl rfl (by kernel_rfl) (by kernel_rfl) (by kernel_rfl) (fun _ _ _ h => h) rfl ?_ hHeld ?_
  rotate_left
  · (intro wq hSq; have q1 := (hSq.cell (p := ⟨b, 1, none⟩) hbl).trans c1; have q2 := (hSq.cell (p := ⟨b, 2, none⟩) hbl).trans c2; have q3 := (hSq.cell (p := ⟨b, 3, none⟩) hbl).trans c3; go_simp <;> first | with_reducible rfl | rfl)
  simp only [Act.put, List.setIfInBounds_toArray, List.set_cons_zero, List.set_cons_succ]
  refine take_on (i := 10) (v := ?_) rfl rfl (by kernel_rfl) (by kernel_rfl) (by kernel_rfl) (fun _ _ _ h => h) rfl ?_ hHeld ?_
  rotate_left
  · (intro wq hSq; have q1 := (hSq.cell (p := ⟨b, 1, none⟩) hbl).trans c1; have q2 := (hSq.cell (p := ⟨b, 2, none⟩) hbl).trans c2; have q3 := (hSq.cell (p := ⟨b, 3, none⟩) hbl).trans c3; go_simp <;> first | with_reducible rfl | rfl)
  simp only [Act.put, List.setIfInBounds_toArray, List.set_cons_zero, List.set_cons_succ]
  refine take_on (i := 11) (v := ?_) rfl rfl (by kernel_rfl) (by kernel_rfl) (by kernel_rfl) (fun _ _ _ h => h) rfl ?_ hHeld ?_
  rotate_left
  · (intro wq hSq; have q1 := (hSq.cell (p := ⟨b, 1, none⟩) hbl).trans c1; have q2 := (hSq.cell (p := ⟨b, 2, none⟩) hbl).trans c2; have q3 := (hSq.cell (p := ⟨b, 3, none⟩) hbl).trans c3; go_simp <;> first | with_reducible rfl | rfl)
  simp only [Act.put, List.setIfInBounds_toArray, List.set_cons_zero, List.set_cons_succ]
  refine take_on (i := 12) (v := ?_) rfl rfl (by kernel_rfl) (by kernel_rfl) (by kernel_rfl) (fun _ _ _ h => h) rfl ?_ hHeld ?_
  rotate_left
  · (intro wq hSq; have q1 := (hSq.cell (p := ⟨b, 1, none⟩) hbl).trans c1; have q2 := (hSq.cell (p := ⟨b, 2, none⟩) hbl).trans c2; have q3 := (hSq.cell (p := ⟨b, 3, none⟩) hbl).trans c3; go_simp <;> first | with_reducible rfl | rfl)
  simp only [Act.put, List.setIfInBounds_toArray, List.set_cons_zero, List.set_cons_succ]
  refine take_on (i := 13) (v := ?_) rfl rfl (by kernel_rfl) (by kernel_rfl) (by kernel_rfl) (fun _ _ _ h => h) rfl ?_ hHeld ?_
  rotate_left
  · (intro wq hSq; have q1 := (hSq.cell (p := ⟨b, 1, none⟩) hbl).trans c1; have q2 := (hSq.cell (p := ⟨b, 2, none⟩) hbl).trans c2; have q3 := (hSq.cell (p := ⟨b, 3, none⟩) hbl).trans c3; go_simp <;> first | with_reducible rfl | rfl)
  simp only [Act.put, List.setIfInBounds_toArray, List.set_cons_zero, List.set_cons_succ]
  refine take_on (i := 14) (v := ?_) rfl rfl (by kernel_rfl) (by kernel_rfl) (by kernel_rfl) (fun _ _ _ h => h) rfl ?_ hHeld ?_
  rotate_left
  · (intro wq hSq; have q1 := (hSq.cell (p := ⟨b, 1, none⟩) hbl).trans c1; have q2 := (hSq.cell (p := ⟨b, 2, none⟩) hbl).trans c2; have q3 := (hSq.cell (p := ⟨b, 3, none⟩) hbl).trans c3; go_simp <;> first | with_reducible rfl | rfl)
  simp only [Act.put, List.setIfInBounds_toArray, List.set_cons_zero, List.set_cons_succ]
  refine take_one (i := 15) rfl (by kernel_rfl) (fun K hK => ?_)
  refine step_copy_splice rfl (.tmp 14) (.tmp 23) 36 36 rfl 3 Try.underlying36 sizeQI _ _ _ _ _ _ rfl rfl w.heap.size 0 (List.replicate m (.int .i64 0)) 3 HZ.out X1 (hl1.trans HK2.out) (fun _ => ⟨rfl, ⟨g, f, none⟩, rfl, HS.out _ hHeld⟩) (by simp; omega) HO.out w.heap.size w hHeld (Nat.le_refl _) ?_; intro w2 HG2 hB2
  refine hK.out _ _ ?_ (fun hHeld => ?_)
  · exact hB2
  clear hK K
  try simp only [Act.put, List.setIfInBounds_toArray, List.set_cons_zero, List.set_cons_succ]
  refine take_on (i := 16) (v := ?_) rfl rfl (by kernel_rfl) (by kernel_rfl) (by kernel_rfl) (fun _ _ _ h => h) rfl ?_ hHeld ?_
  rotate_left
  · (intro wq hSq; have q1 := (hSq.cell (p := ⟨b, 1, none⟩) hbl).trans c1; have q2 := (hSq.cell (p := ⟨b, 2, none⟩) hbl).trans c2; have q3 := (hSq.cell (p := ⟨b, 3, none⟩) hbl).trans c3; go_simp <;> first | with_reducible rfl | rfl)
  simp only [Act.put, List.setIfInBounds_toArray, List.set_cons_zero, List.set_cons_succ]
  refine wpAnyH_done (by kernel_rfl) ?_ _
  go_wp2_with fail
  by_cases hmk : m = k
  · have hNk : N ≤ k := by omega
    refine wp_region_held_drew (S := (fun w' => Below w.heap.size w w')) (by kernel_rfl) ?_ (fun hHeld => ?_)
    · exact hB2.drew
    refine take_on (i := 0) (v := ?_) rfl rfl (by kernel_rfl) (by kernel_rfl) (by kernel_rfl) (fun _ _ _ h => h) rfl ?_ hHeld ?_
    rotate_left
    · (intro wq hSq; have q1 := (hSq.cell (p := ⟨b, 1, none⟩) hbl).trans c1; have q2 := (hSq.cell (p := ⟨b, 2, none⟩) hbl).trans c2; have q3 := (hSq.cell (p := ⟨b, 3, none⟩) hbl).trans c3; go_simp <;> first | with_reducible rfl | rfl)
    simp only [Act.put, List.setIfInBounds_toArray, List.set_cons_zero, List.set_cons_succ]
    refine take_on (i := 1) (v := ?_) rfl rfl (by kernel_rfl) (by kernel_rfl) (by kernel_rfl) (fun _ _ _ h => h) rfl ?_ hHeld ?_
    rotate_left
    · (intro wq hSq; have q1 := (hSq.cell (p := ⟨b, 1, none⟩) hbl).trans c1; have q2 := (hSq.cell (p := ⟨b, 2, none⟩) hbl).trans c2; have q3 := (hSq.cell (p := ⟨b, 3, none⟩) hbl).trans c3; go_simp <;> first | with_reducible rfl | rfl)
    simp only [Act.put, List.setIfInBounds_toArray, List.set_cons_zero, List.set_cons_succ]
    refine take_on (i := 2) (v := ?_) rfl rfl (by kernel_rfl) (by kernel_rfl) (by kernel_rfl) (fun _ _ _ h => h) rfl ?_ hHeld ?_
    rotate_left
    · (intro wq hSq; have q1 := (hSq.cell (p := ⟨b, 1, none⟩) hbl).trans c1; have q2 := (hSq.cell (p := ⟨b, 2, none⟩) hbl).trans c2; have q3 := (hSq.cell (p := ⟨b, 3, none⟩) hbl).trans c3; go_simp <;> first | with_reducible rfl | rfl)
    simp only [Act.put, List.setIfInBounds_toArray, List.set_cons_zero, List.set_cons_succ]
    refine take_on (i := 3) (v := ?_) rfl rfl (by kernel_rfl) (by kernel_rfl) (by kernel_rfl) (fun _ _ _ h => h) rfl ?_ hHeld ?_
    rotate_left
    · (intro wq hSq; have q1 := (hSq.cell (p := ⟨b, 1, none⟩) hbl).trans c1; have q2 := (hSq.cell (p := ⟨b, 2, none⟩) hbl).trans c2; have q3 := (hSq.cell (p := ⟨b, 3, none⟩) hbl).trans c3; go_simp <;> first | with_reducible rfl | rfl)
    simp only [Act.put, List.setIfInBounds_toArray, List.set_cons_zero, List.set_cons_succ]
    refine take_on (i := 4) (v := ?_) rfl rfl (by kernel_rfl) (by kernel_rfl) (by kernel_rfl) (fun _ _ _ h => h) rfl ?_ hHeld ?_
    rotate_left
    · (intro wq hSq; have q1 := (hSq.cell (p := ⟨b, 1, none⟩) hbl).trans c1; have q2 := (hSq.cell (p := ⟨b, 2, none⟩) hbl).trans c2; have q3 := (hSq.cell (p := ⟨b, 3, none⟩) hbl).trans c3; go_simp <;> first | with_reducible rfl | rfl)
    simp only [Act.put, List.setIfInBounds_toArray, List.set_cons_zero, List.set_cons_succ]
    refine take_on (i := 5) (v := ?_) rfl rfl (by kernel_rfl) (by kernel_rfl) (by kernel_rfl) (fun _ _ _ h => h) rfl ?_ hHeld ?_
    rotate_left
    · (intro wq hSq; have q1 := (hSq.cell (p := ⟨b, 1, none⟩) hbl).trans c1; have q2 := (hSq.cell (p := ⟨b, 2, none⟩) hbl).trans c2; have q3 := (hSq.cell (p := ⟨b, 3, none⟩) hbl).trans c3; go_simp <;> first | with_reducible rfl | rfl)
    simp only [Act.put, List.setIfInBounds_toArray, List.set_cons_zero, List.set_cons_succ]
    refine take_on (i := 6) (v := ?_) rfl rfl (by kernel_rfl) (by kernel_rfl) (by kernel_rfl) (fun _ _ _ h => h) rfl ?_ hHeld ?_
    rotate_left
    · (intro wq hSq; have q1 := (hSq.cell (p := ⟨b, 1, none⟩) hbl).trans c1; have q2 := (hSq.cell (p := ⟨b, 2, none⟩) hbl).trans c2; have q3 := (hSq.cell (p := ⟨b, 3, none⟩) hbl).trans c3; go_simp <;> first | with_reducible rfl | rfl)
    simp only [Act.put, List.setIfInBounds_toArray, List.set_cons_zero, List.set_cons_succ]
    refine take_on (i := 7) (v := ?_) rfl rfl (by kernel_rfl) (by kernel_rfl) (by kernel_rfl) (fun _ _ _ h => h) rfl ?_ hHeld ?_
    rotate_left
    · (intro wq hSq; have q1 := (hSq.cell (p := ⟨b, 1, none⟩) hbl).trans c1; have q2 := (hSq.cell (p := ⟨b, 2, none⟩) hbl).trans c2; have q3 := (hSq.cell (p := ⟨b, 3, none⟩) hbl).trans c3; go_simp <;> first | with_reducible rfl | rfl)
    simp only [Act.put, List.setIfInBounds_toArray, List.set_cons_zero, List.set_cons_succ]
    refine take_on (i := 8) (v := ?_) rfl rfl (by kernel_rfl) (by kernel_rfl) (by kernel_rfl) (fun _ _ _ h => h) rfl ?_ hHeld ?_
    rotate_left
    · (intro wq hSq; have q1 := (hSq.cell (p := ⟨b, 1, none⟩) hbl).trans c1; have q2 := (hSq.cell (p := ⟨b, 2, none⟩) hbl).trans c2; have q3 := (hSq.cell (p := ⟨b, 3, none⟩) hbl).trans c3; go_simp <;> first | with_reducible rfl | rfl)
    simp only [Act.put, List.setIfInBounds_toArray, List.set_cons_zero, List.set_cons_succ]
    refine take_on (i := 9) (v := ?_) rfl rfl (by kernel_rfl) (by kernel_rfl) (by kernel_rfl) (fun _ _ _ h => h) rfl ?_ hHeld ?_
    rotate_left
    · (intro wq hSq; have q1 := (hSq.cell (p := ⟨b, 1, none⟩) hbl).trans c1; have q2 := (hSq.cell (p := ⟨b, 2, none⟩) hbl).trans c2; have q3 := (hSq.cell (p := ⟨b, 3, none⟩) hbl).trans c3; go_simp <;> first | with_reducible rfl | rfl)
    simp only [Act.put, List.setIfInBounds_toArray, List.set_cons_zero, List.set_cons_succ]
    refine take_on (i := 10) (v := ?_) rfl rfl (by kernel_rfl) (by kernel_rfl) (by kernel_rfl) (fun _ _ _ h => h) rfl ?_ hHeld ?_
    rotate_left
    · (intro wq hSq; have q1 := (hSq.cell (p := ⟨b, 1, none⟩) hbl).trans c1; have q2 := (hSq.cell (p := ⟨b, 2, none⟩) hbl).trans c2; have q3 := (hSq.cell (p := ⟨b, 3, none⟩) hbl).trans c3; go_simp <;> first | with_reducible rfl | rfl)
    simp only [Act.put, List.setIfInBounds_toArray, List.set_cons_zero, List.set_cons_succ]
    refine take_one (i := 11) rfl (by kernel_rfl) (fun K hK => ?_)
    refine step_copy_splice rfl (.tmp 31) (.tmp 35) 36 36 rfl 3 Try.underlying36 sizeQI _ _ _ _ _ _ rfl rfl w.heap.size k _ 3 HG2.out X2 (HK3.out.trans (by rw [Nat.sub_eq_zero_of_le hNk])) (fun h0 => absurd h0 (by rw [HL2.out]; omega)) (by rw [length_splice _ _ _ (by simp; omega), HL2.out]; simp; omega) HP.out w.heap.size w hHeld (Nat.le_refl _) ?_; intro w3 HG3 hB3
    refine hK.out _ _ ?_ (fun hHeld => ?_)
    · exact hB3
    clear hK K
    try simp only [Act.put, List.setIfInBounds_toArray, List.set_cons_zero, List.set_cons_succ]
    refine wpAnyH_done (by kernel_rfl) ?_ _
    go_wp2
    go_ret
    refine ⟨rfl, ?_, hB3⟩
    rw [← HSP.out]
    exact HG3.out
  ·
    refine wp_region_held_drew (S := (fun w' => Below w.heap.size w w')) (by kernel_rfl) ?_ (fun hHeld => ?_)
    · exact hB2.drew
    refine take_on (i := 0) (v := ?_) rfl rfl (by kernel_rfl) (by kernel_rfl) (by kernel_rfl) (fun _ _ _ h => h) rfl ?_ hHeld ?_
    rotate_left
    · (intro wq hSq; have q1 := (hSq.cell (p := ⟨b, 1, none⟩) hbl).trans c1; have q2 := (hSq.cell (p := ⟨b, 2, none⟩) hbl).trans c2; have q3 := (hSq.cell (p := ⟨b, 3, none⟩) hbl).trans c3; go_simp <;> first | with_reducible rfl | rfl)
    simp only [Act.put, List.setIfInBounds_toArray, List.set_cons_zero, List.set_cons_succ]
    refine take_on (i := 1) (v := ?_) rfl rfl (by kernel_rfl) (by kernel_rfl) (by kernel_rfl) (fun _ _ _ h => h) rfl ?_ hHeld ?_
    rotate_left
    · (intro wq hSq; have q1 := (hSq.cell (p := ⟨b, 1, none⟩) hbl).trans c1; have q2 := (hSq.cell (p := ⟨b, 2, none⟩) hbl).trans c2; have q3 := (hSq.cell (p := ⟨b, 3, none⟩) hbl).trans c3; go_simp <;> first | with_reducible rfl | rfl)
    simp only [Act.put, List.setIfInBounds_toArray, List.set_cons_zero, List.set_cons_succ]
    refine take_on (i := 2) (v := ?_) rfl rfl (by kernel_rfl) (by kernel_rfl) (by kernel_rfl) (fun _ _ _ h => h) rfl ?_ hHeld ?_
    rotate_left
    · (intro wq hSq; have q1 := (hSq.cell (p := ⟨b, 1, none⟩) hbl).trans c1; have q2 := (hSq.cell (p := ⟨b, 2, none⟩) hbl).trans c2; have q3 := (hSq.cell (p := ⟨b, 3, none⟩) hbl).trans c3; go_simp <;> first | with_reducible rfl | rfl)
    simp only [Act.put, List.setIfInBounds_toArray, List.set_cons_zero, List.set_cons_succ]
    refine take_on (i := 3) (v := ?_) rfl rfl (by kernel_rfl) (by kernel_rfl) (by kernel_rfl) (fun _ _ _ h => h) rfl ?_ hHeld ?_
    rotate_left
    · (intro wq hSq; have q1 := (hSq.cell (p := ⟨b, 1, none⟩) hbl).trans c1; have q2 := (hSq.cell (p := ⟨b, 2, none⟩) hbl).trans c2; have q3 := (hSq.cell (p := ⟨b, 3, none⟩) hbl).trans c3; go_simp <;> first | with_reducible rfl | rfl)
    simp only [Act.put, List.setIfInBounds_toArray, List.set_cons_zero, List.set_cons_succ]
    refine take_on (i := 4) (v := ?_) rfl rfl (by kernel_rfl) (by kernel_rfl) (by kernel_rfl) (fun _ _ _ h => h) rfl ?_ hHeld ?_
    rotate_left
    · (intro wq hSq; have q1 := (hSq.cell (p := ⟨b, 1, none⟩) hbl).trans c1; have q2 := (hSq.cell (p := ⟨b, 2, none⟩) hbl).trans c2; have q3 := (hSq.cell (p := ⟨b, 3, none⟩) hbl).trans c3; go_simp <;> first | with_reducible rfl | rfl)
    simp only [Act.put, List.setIfInBounds_toArray, List.set_cons_zero, List.set_cons_succ]
    refine take_on (i := 5) (v := ?_) rfl rfl (by kernel_rfl) (by kernel_rfl) (by kernel_rfl) (fun _ _ _ h => h) rfl ?_ hHeld ?_
    rotate_left
    · (intro wq hSq; have q1 := (hSq.cell (p := ⟨b, 1, none⟩) hbl).trans c1; have q2 := (hSq.cell (p := ⟨b, 2, none⟩) hbl).trans c2; have q3 := (hSq.cell (p := ⟨b, 3, none⟩) hbl).trans c3; go_simp <;> first | with_reducible rfl | rfl)
    simp only [Act.put, List.setIfInBounds_toArray, List.set_cons_zero, List.set_cons_succ]
    refine take_on (i := 6) (v := ?_) rfl rfl (by kernel_rfl) (by kernel_rfl) (by kernel_rfl) (fun _ _ _ h => h) rfl ?_ hHeld ?_
    rotate_left
    · (intro wq hSq; have q1 := (hSq.cell (p := ⟨b, 1, none⟩) hbl).trans c1; have q2 := (hSq.cell (p := ⟨b, 2, none⟩) hbl).trans c2; have q3 := (hSq.cell (p := ⟨b, 3, none⟩) hbl).trans c3; go_simp <;> first | with_reducible rfl | rfl)
    simp only [Act.put, List.setIfInBounds_toArray, List.set_cons_zero, List.set_cons_succ]
    refine take_on (i := 7) (v := ?_) rfl rfl (by kernel_rfl) (by kernel_rfl) (by kernel_rfl) (fun _ _ _ h => h) rfl ?_ hHeld ?_
    rotate_left
    · (intro wq hSq; have q1 := (hSq.cell (p := ⟨b, 1, none⟩) hbl).trans c1; have q2 := (hSq.cell (p := ⟨b, 2, none⟩) hbl).trans c2; have q3 := (hSq.cell (p := ⟨b, 3, none⟩) hbl).trans c3; go_simp <;> first | with_reducible rfl | rfl)
    simp only [Act.put, List.setIfInBounds_toArray, List.set_cons_zero, List.set_cons_succ]
    refine take_on (i := 8) (v := ?_) rfl rfl (by kernel_rfl) (by kernel_rfl) (by kernel_rfl) (fun _ _ _ h => h) rfl ?_ hHeld ?_
    rotate_left
    · (intro wq hSq; have q1 := (hSq.cell (p := ⟨b, 1, none⟩) hbl).trans c1; have q2 := (hSq.cell (p := ⟨b, 2, none⟩) hbl).trans c2; have q3 := (hSq.cell (p := ⟨b, 3, none⟩) hbl).trans c3; go_simp <;> first | with_reducible rfl | rfl)
    simp only [Act.put, List.setIfInBounds_toArray, List.set_cons_zero, List.set_cons_succ]
    refine take_on (i := 9) (v := ?_) rfl rfl (by kernel_rfl) (by kernel_rfl) (by kernel_rfl) (fun _ _ _ h => h) rfl ?_ hHeld ?_
    rotate_left
    · (intro wq hSq; have q1 := (hSq.cell (p := ⟨b, 1, none⟩) hbl).trans c1; have q2 := (hSq.cell (p := ⟨b, 2, none⟩) hbl).trans c2; have q3 := (hSq.cell (p := ⟨b, 3, none⟩) hbl).trans c3; go_simp <;> first | with_reducible rfl | rfl)
    simp only [Act.put, List.setIfInBounds_toArray, List.set_cons_zero, List.set_cons_succ]
    refine take_on (i := 10) (v := ?_) rfl rfl (by kernel_rfl) (by kernel_rfl) (by kernel_rfl) (fun _ _ _ h => h) rfl ?_ hHeld ?_
    rotate_left
    · (intro wq hSq; have q1 := (hSq.cell (p := ⟨b, 1, none⟩) hbl).trans c1; have q2 := (hSq.cell (p := ⟨b, 2, none⟩) hbl).trans c2; have q3 := (hSq.cell (p := ⟨b, 3, none⟩) hbl).trans c3; go_simp <;> first | with_reducible rfl | rfl)
    simp only [Act.put, List.setIfInBounds_toArray, List.set_cons_zero, List.set_cons_succ]
    refine take_one (i := 11) rfl (by kernel_rfl) (fun K hK => ?_)
    refine step_copy_splice rfl (.tmp 31) (.tmp 35) 36 36 rfl 3 Try.underlying36 sizeQI _ _ _ _ _ _ rfl rfl w.heap.size k _ 3 HG2.out X2 HK3.out (fun _ => ⟨rfl, ⟨g, 0, none⟩, rfl, HT.out _ hHeld⟩) (by rw [length_splice _ _ _ (by simp; omega), HL2.out]; simp; omega) HP.out w.heap.size w hHeld (Nat.le_refl _) ?_; intro w3 HG3 hB3
    refine hK.out _ _ ?_ (fun hHeld => ?_)
    · exact hB3
    clear hK K
    try simp only [Act.put, List.setIfInBounds_toArray, List.set_cons_zero, List.set_cons_succ]
    refine wpAnyH_done (by kernel_rfl) ?_ _
    go_wp2
    go_ret
    refine ⟨rfl, ?_, hB3⟩
    rw [← HSP.out]
    exact HG3.out

theorem lineI_any (b g most R f m : Nat) (xs : List Int) (w : World) (h : QrI w b g most R f xs) (hn : xs.length ≤ m) (hm : m ≤ 65536) :
    Calls Try.prog 33 #[.pointer (some ⟨b, 0, none⟩), .int .i64 (m : Int)] w fun e w' => e = .returned (.slice (some ⟨w.heap.size, 0, none⟩) m m) ∧
      w'.heap[w.heap.size]? = some (.cells (xs.map encI ++ List.replicate (m - xs.length) (.int .i64 0 : Value)).toArray 3 (0, 0)) ∧ Below w.heap.size w w' := by
  by_cases hR : 0 < R
  · exact lineI_ring b g most R f m xs w h hR hn hm
  · obtain rfl : R = 0 := by omega
    obtain rfl : xs = [] := by have := h.len; exact List.eq_nil_of_length_eq_zero (by omega)
    exact lineI_nil b g most f m [] w h hm

end Go.Proofs.Ytomfhbngpikjeab

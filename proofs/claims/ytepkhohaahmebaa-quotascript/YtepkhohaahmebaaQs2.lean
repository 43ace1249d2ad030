/- Accounts: does one tell what the document says? -/
import Derived.Test.YtepkhohaahmebaaQa5
import Derived.Test.YtepkhohaahmebaaQa3
import Derived.Test.YtepkhohaahmebaaReg2
namespace Go.Proofs.Ytepkhohaahmebaa
open Go.RowKit

set_option maxRecDepth 100000 in
set_option maxHeartbeats 8000000 in
theorem shown_any (c : Ac) (hc : AcOk c) (b : Nat) (w : World) (hp : Pa w b c) : Calls Try.prog 22 #[ptrA c b, valA c] w fun e w' => e = .returned (.bool true) ∧ Below w.heap.size w w' := by
  obtain ⟨W, hW⟩ : ∃ W, W = w.alloc (.cells #[.bool c.t, .int .i64 c.q, .int .i64 c.m, .int .i64 c.l, .int .i64 c.p, .int .i64 c.o] 27) := ⟨_, rfl⟩
  have hb0 : Below w.heap.size w W := by rw [hW]; exact (Below.refl _ _).alloc (Nat.le_refl _) _
  have hx : W.heap[w.heap.size]? = some (.cells #[.bool c.t, .int .i64 c.q, .int .i64 c.m, .int .i64 c.l, .int .i64 c.p, .int .i64 c.o] 27 (0, 0)) := by rw [hW]; exact heap_alloc_new w _
  have hs : W.heap.size = w.heap.size + 1 := by rw [hW]; simp
  have Hpk := hide_it (hp.below hb0)
  have HB := hide_it hb0
  have HX := hide_it hx
  have Hok := hide_it hc
  clear hp hb0 hx hc
  obtain ⟨pp, hV⟩ : ∃ pp, Value.pointer pp = ptrA c b := ⟨_, rfl⟩
  rw [← hV]
  have HV := hide_it hV
  clear hV
  have p1 : ∀ z, Below W.heap.size W z → Calls Try.prog 18 #[.pointer pp] z fun e w' => e = .returned (.int .i64 (c.l + c.p)) ∧ Below z.heap.size z w' := fun z hz => by
    rw [HV.out]; exact used_any c Hok.out b z (Hpk.out.below hz)
  have p2 : ∀ z, Below W.heap.size W z → Calls Try.prog 20 #[.pointer pp] z fun e w' => e = .returned (.int .i64 c.p) ∧ Below z.heap.size z w' := fun z hz => by
    rw [HV.out]; refine (pending_any c Hok.out b z (Hpk.out.below hz)).mono ?_
    rintro e w' ⟨rfl, rfl⟩; exact ⟨rfl, Below.refl _ _⟩
  have p3 : ∀ z, Below W.heap.size W z → Calls Try.prog 21 #[.pointer pp] z fun e w' => e = .returned (.int .i64 c.o) ∧ Below z.heap.size z w' := fun z hz => by
    rw [HV.out]; refine (open_any c Hok.out b z (Hpk.out.below hz)).mono ?_
    rintro e w' ⟨rfl, rfl⟩; exact ⟨rfl, Below.refl _ _⟩
  have r1 := rused_any c Hok.out
  unfold valA at r1 ⊢
  generalize c.l + c.p = U at *
  have g1 : (U == U) = true := by simp
  have g2 : (c.p == c.p) = true := by simp
  have g3 : (c.o == c.o) = true := by simp
  have hy0 := (Below.refl W.heap.size W).drew
  go_enter Try.func22, Try.ntmps22
  go_wp2_with fail
  try rw [← hW]
  clear hW
  refine wp_region_held_drew (S := (fun w' => w'.heap[w.heap.size]? = W.heap[w.heap.size]?)) (by kernel_rfl) ?_ (fun hHeld => ?_)
  · rfl
  refine take_on (i := 0) (v := ?_) rfl rfl (by kernel_rfl) (by kernel_rfl) (by kernel_rfl) (fun _ _ _ h => h) rfl ?_ hHeld ?_
  rotate_left
  · (intro wq hSq; have hxq := hSq.trans HX.out; have y0 := cell_of_row _ _ 0 _ _ _ hxq; have y1 := cell_of_row _ _ 1 _ _ _ hxq; have y2 := cell_of_row _ _ 2 _ _ _ hxq; have y3 := cell_of_row _ _ 3 _ _ _ hxq; have y4 := cell_of_row _ _ 4 _ _ _ hxq; have y5 := cell_of_row _ _ 5 _ _ _ hxq; go_simp <;> first | with_reducible rfl | rfl)
  simp only [Act.put, List.setIfInBounds_toArray, List.set_cons_zero, List.set_cons_succ]
  refine take_on (i := 2) (v := ?_) rfl rfl (by kernel_rfl) (by kernel_rfl) (by kernel_rfl) (fun _ _ _ h => h) rfl ?_ hHeld ?_
  rotate_left
  · (intro wq hSq; have hxq := hSq.trans HX.out; have y0 := cell_of_row _ _ 0 _ _ _ hxq; have y1 := cell_of_row _ _ 1 _ _ _ hxq; have y2 := cell_of_row _ _ 2 _ _ _ hxq; have y3 := cell_of_row _ _ 3 _ _ _ hxq; have y4 := cell_of_row _ _ 4 _ _ _ hxq; have y5 := cell_of_row _ _ 5 _ _ _ hxq; go_simp <;> first | with_reducible rfl | rfl)
  simp only [Act.put, List.setIfInBounds_toArray, List.set_cons_zero, List.set_cons_succ]
  refine take_one (i := 1) rfl (by kernel_rfl) (fun K hK => ?_)
  go_simp
  (refine (p1 _ hy0).mono ?_; rintro e z1 ⟨rfl, hz1⟩; have hy1 := hy0.trans (hz1.mono (by have := hy0.size; omega)))
  try go_wp2_with fail
  refine hK.out _ _ ?_ (fun hHeld => ?_)
  · exact hy1.block _ (by omega)
  clear hK K
  try simp only [Act.put, List.setIfInBounds_toArray, List.set_cons_zero, List.set_cons_succ]
  refine take_one (i := 3) rfl (by kernel_rfl) (fun K hK => ?_)
  go_simp
  (refine (r1 _).mono ?_; rintro e z2 ⟨rfl, hz2⟩; have hy2 := hy1.trans (hz2.mono (by have := hy1.size; omega)))
  try go_wp2_with fail
  refine hK.out _ _ ?_ (fun hHeld => ?_)
  · exact hy2.block _ (by omega)
  clear hK K
  try simp only [Act.put, List.setIfInBounds_toArray, List.set_cons_zero, List.set_cons_succ]
  refine take_on (i := 4) (v := ?_) rfl rfl (by kernel_rfl) (by kernel_rfl) (by kernel_rfl) (fun _ _ _ h => h) rfl ?_ hHeld ?_
  rotate_left
  · (intro wq hSq; have hxq := hSq.trans HX.out; have y0 := cell_of_row _ _ 0 _ _ _ hxq; have y1 := cell_of_row _ _ 1 _ _ _ hxq; have y2 := cell_of_row _ _ 2 _ _ _ hxq; have y3 := cell_of_row _ _ 3 _ _ _ hxq; have y4 := cell_of_row _ _ 4 _ _ _ hxq; have y5 := cell_of_row _ _ 5 _ _ _ hxq; go_simp <;> first | with_reducible rfl | rfl)
  simp only [Act.put, List.setIfInBounds_toArray, List.set_cons_zero, List.set_cons_succ]
  refine take_on (i := 5) (v := ?_) rfl rfl (by kernel_rfl) (by kernel_rfl) (by kernel_rfl) (fun _ _ _ h => h) rfl ?_ hHeld ?_
  rotate_left
  · (intro wq hSq; have hxq := hSq.trans HX.out; have y0 := cell_of_row _ _ 0 _ _ _ hxq; have y1 := cell_of_row _ _ 1 _ _ _ hxq; have y2 := cell_of_row _ _ 2 _ _ _ hxq; have y3 := cell_of_row _ _ 3 _ _ _ hxq; have y4 := cell_of_row _ _ 4 _ _ _ hxq; have y5 := cell_of_row _ _ 5 _ _ _ hxq; go_simp <;> first | with_reducible rfl | rfl)
  simp only [Act.put, List.setIfInBounds_toArray, List.set_cons_zero, List.set_cons_succ]
  refine take_on (i := 6) (v := ?_) rfl rfl (by kernel_rfl) (by kernel_rfl) (by kernel_rfl) (fun _ _ _ h => h) rfl ?_ hHeld ?_
  rotate_left
  · (intro wq hSq; have hxq := hSq.trans HX.out; have y0 := cell_of_row _ _ 0 _ _ _ hxq; have y1 := cell_of_row _ _ 1 _ _ _ hxq; have y2 := cell_of_row _ _ 2 _ _ _ hxq; have y3 := cell_of_row _ _ 3 _ _ _ hxq; have y4 := cell_of_row _ _ 4 _ _ _ hxq; have y5 := cell_of_row _ _ 5 _ _ _ hxq; go_simp <;> first | with_reducible rfl | rfl)
  simp only [Act.put, List.setIfInBounds_toArray, List.set_cons_zero, List.set_cons_succ]
  refine take_on (i := 8) (v := ?_) rfl rfl (by kernel_rfl) (by kernel_rfl) (by kernel_rfl) (fun _ _ _ h => h) rfl ?_ hHeld ?_
  rotate_left
  · (intro wq hSq; have hxq := hSq.trans HX.out; have y0 := cell_of_row _ _ 0 _ _ _ hxq; have y1 := cell_of_row _ _ 1 _ _ _ hxq; have y2 := cell_of_row _ _ 2 _ _ _ hxq; have y3 := cell_of_row _ _ 3 _ _ _ hxq; have y4 := cell_of_row _ _ 4 _ _ _ hxq; have y5 := cell_of_row _ _ 5 _ _ _ hxq; go_simp <;> first | with_reducible rfl | rfl)
  simp only [Act.put, List.setIfInBounds_toArray, List.set_cons_zero, List.set_cons_succ]
  refine take_on (i := 9) (v := ?_) rfl rfl (by kernel_rfl) (by kernel_rfl) (by kernel_rfl) (fun _ _ _ h => h) rfl ?_ hHeld ?_
  rotate_left
  · (intro wq hSq; have hxq := hSq.trans HX.out; have y0 := cell_of_row _ _ 0 _ _ _ hxq; have y1 := cell_of_row _ _ 1 _ _ _ hxq; have y2 := cell_of_row _ _ 2 _ _ _ hxq; have y3 := cell_of_row _ _ 3 _ _ _ hxq; have y4 := cell_of_row _ _ 4 _ _ _ hxq; have y5 := cell_of_row _ _ 5 _ _ _ hxq; go_simp <;> first | with_reducible rfl | rfl)
  simp only [Act.put, List.setIfInBounds_toArray, List.set_cons_zero, List.set_cons_succ]
  refine take_one (i := 7) rfl (by kernel_rfl) (fun K hK => ?_)
  go_simp
  (refine (p2 _ hy2).mono ?_; rintro e z3 ⟨rfl, hz3⟩; have hy3 := hy2.trans (hz3.mono (by have := hy2.size; omega)))
  try go_wp2_with fail
  refine hK.out _ _ ?_ (fun hHeld => ?_)
  · exact hy3.block _ (by omega)
  clear hK K
  try simp only [Act.put, List.setIfInBounds_toArray, List.set_cons_zero, List.set_cons_succ]
  refine take_on (i := 10) (v := ?_) rfl rfl (by kernel_rfl) (by kernel_rfl) (by kernel_rfl) (fun _ _ _ h => h) rfl ?_ hHeld ?_
  rotate_left
  · (intro wq hSq; have hxq := hSq.trans HX.out; have y0 := cell_of_row _ _ 0 _ _ _ hxq; have y1 := cell_of_row _ _ 1 _ _ _ hxq; have y2 := cell_of_row _ _ 2 _ _ _ hxq; have y3 := cell_of_row _ _ 3 _ _ _ hxq; have y4 := cell_of_row _ _ 4 _ _ _ hxq; have y5 := cell_of_row _ _ 5 _ _ _ hxq; go_simp <;> first | with_reducible rfl | rfl)
  simp only [Act.put, List.setIfInBounds_toArray, List.set_cons_zero, List.set_cons_succ]
  refine take_on (i := 11) (v := ?_) rfl rfl (by kernel_rfl) (by kernel_rfl) (by kernel_rfl) (fun _ _ _ h => h) rfl ?_ hHeld ?_
  rotate_left
  · (intro wq hSq; have hxq := hSq.trans HX.out; have y0 := cell_of_row _ _ 0 _ _ _ hxq; have y1 := cell_of_row _ _ 1 _ _ _ hxq; have y2 := cell_of_row _ _ 2 _ _ _ hxq; have y3 := cell_of_row _ _ 3 _ _ _ hxq; have y4 := cell_of_row _ _ 4 _ _ _ hxq; have y5 := cell_of_row _ _ 5 _ _ _ hxq; go_simp <;> first | with_reducible rfl | rfl)
  simp only [Act.put, List.setIfInBounds_toArray, List.set_cons_zero, List.set_cons_succ]
  refine take_on (i := 12) (v := ?_) rfl rfl (by kernel_rfl) (by kernel_rfl) (by kernel_rfl) (fun _ _ _ h => h) rfl ?_ hHeld ?_
  rotate_left
  · (intro wq hSq; have hxq := hSq.trans HX.out; have y0 := cell_of_row _ _ 0 _ _ _ hxq; have y1 := cell_of_row _ _ 1 _ _ _ hxq; have y2 := cell_of_row _ _ 2 _ _ _ hxq; have y3 := cell_of_row _ _ 3 _ _ _ hxq; have y4 := cell_of_row _ _ 4 _ _ _ hxq; have y5 := cell_of_row _ _ 5 _ _ _ hxq; go_simp <;> first | with_reducible rfl | rfl)
  simp only [Act.put, List.setIfInBounds_toArray, List.set_cons_zero, List.set_cons_succ]
  refine take_on (i := 13) (v := ?_) rfl rfl (by kernel_rfl) (by kernel_rfl) (by kernel_rfl) (fun _ _ _ h => h) rfl ?_ hHeld ?_
  rotate_left
  · (intro wq hSq; have hxq := hSq.trans HX.out; have y0 := cell_of_row _ _ 0 _ _ _ hxq; have y1 := cell_of_row _ _ 1 _ _ _ hxq; have y2 := cell_of_row _ _ 2 _ _ _ hxq; have y3 := cell_of_row _ _ 3 _ _ _ hxq; have y4 := cell_of_row _ _ 4 _ _ _ hxq; have y5 := cell_of_row _ _ 5 _ _ _ hxq; go_simp <;> first | with_reducible rfl | rfl)
  simp only [Act.put, List.setIfInBounds_toArray, List.set_cons_zero, List.set_cons_succ]
  refine take_on (i := 15) (v := ?_) rfl rfl (by kernel_rfl) (by kernel_rfl) (by kernel_rfl) (fun _ _ _ h => h) rfl ?_ hHeld ?_
  rotate_left
  · (intro wq hSq; have hxq := hSq.trans HX.out; have y0 := cell_of_row _ _ 0 _ _ _ hxq; have y1 := cell_of_row _ _ 1 _ _ _ hxq; have y2 := cell_of_row _ _ 2 _ _ _ hxq; have y3 := cell_of_row _ _ 3 _ _ _ hxq; have y4 := cell_of_row _ _ 4 _ _ _ hxq; have y5 := cell_of_row _ _ 5 _ _ _ hxq; go_simp <;> first | with_reducible rfl | rfl)
  simp only [Act.put, List.setIfInBounds_toArray, List.set_cons_zero, List.set_cons_succ]
  refine take_on (i := 16) (v := ?_) rfl rfl (by kernel_rfl) (by kernel_rfl) (by kernel_rfl) (fun _ _ _ h => h) rfl ?_ hHeld ?_
  rotate_left
  · (intro wq hSq; have hxq := hSq.trans HX.out; have y0 := cell_of_row _ _ 0 _ _ _ hxq; have y1 := cell_of_row _ _ 1 _ _ _ hxq; have y2 := cell_of_row _ _ 2 _ _ _ hxq; have y3 := cell_of_row _ _ 3 _ _ _ hxq; have y4 := cell_of_row _ _ 4 _ _ _ hxq; have y5 := cell_of_row _ _ 5 _ _ _ hxq; go_simp <;> first | with_reducible rfl | rfl)
  simp only [Act.put, List.setIfInBounds_toArray, List.set_cons_zero, List.set_cons_succ]
  refine take_one (i := 14) rfl (by kernel_rfl) (fun K hK => ?_)
  go_simp
  (refine (p3 _ hy3).mono ?_; rintro e z4 ⟨rfl, hz4⟩; have hy4 := hy3.trans (hz4.mono (by have := hy3.size; omega)))
  try go_wp2_with fail
  refine hK.out _ _ ?_ (fun hHeld => ?_)
  · exact hy4.block _ (by omega)
  clear hK K
  try simp only [Act.put, List.setIfInBounds_toArray, List.set_cons_zero, List.set_cons_succ]
  refine take_on (i := 17) (v := ?_) rfl rfl (by kernel_rfl) (by kernel_rfl) (by kernel_rfl) (fun _ _ _ h => h) rfl ?_ hHeld ?_
  rotate_left
  · (intro wq hSq; have hxq := hSq.trans HX.out; have y0 := cell_of_row _ _ 0 _ _ _ hxq; have y1 := cell_of_row _ _ 1 _ _ _ hxq; have y2 := cell_of_row _ _ 2 _ _ _ hxq; have y3 := cell_of_row _ _ 3 _ _ _ hxq; have y4 := cell_of_row _ _ 4 _ _ _ hxq; have y5 := cell_of_row _ _ 5 _ _ _ hxq; go_simp <;> first | with_reducible rfl | rfl)
  simp only [Act.put, List.setIfInBounds_toArray, List.set_cons_zero, List.set_cons_succ]
  refine take_on (i := 18) (v := ?_) rfl rfl (by kernel_rfl) (by kernel_rfl) (by kernel_rfl) (fun _ _ _ h => h) rfl ?_ hHeld ?_
  rotate_left
  · (intro wq hSq; have hxq := hSq.trans HX.out; have y0 := cell_of_row _ _ 0 _ _ _ hxq; have y1 := cell_of_row _ _ 1 _ _ _ hxq; have y2 := cell_of_row _ _ 2 _ _ _ hxq; have y3 := cell_of_row _ _ 3 _ _ _ hxq; have y4 := cell_of_row _ _ 4 _ _ _ hxq; have y5 := cell_of_row _ _ 5 _ _ _ hxq; go_simp <;> first | with_reducible rfl | rfl)
  simp only [Act.put, List.setIfInBounds_toArray, List.set_cons_zero, List.set_cons_succ]
  refine take_on (i := 19) (v := ?_) rfl rfl (by kernel_rfl) (by kernel_rfl) (by kernel_rfl) (fun _ _ _ h => h) rfl ?_ hHeld ?_
  rotate_left
  · (intro wq hSq; have hxq := hSq.trans HX.out; have y0 := cell_of_row _ _ 0 _ _ _ hxq; have y1 := cell_of_row _ _ 1 _ _ _ hxq; have y2 := cell_of_row _ _ 2 _ _ _ hxq; have y3 := cell_of_row _ _ 3 _ _ _ hxq; have y4 := cell_of_row _ _ 4 _ _ _ hxq; have y5 := cell_of_row _ _ 5 _ _ _ hxq; go_simp <;> first | with_reducible rfl | rfl)
  simp only [Act.put, List.setIfInBounds_toArray, List.set_cons_zero, List.set_cons_succ]
  refine wpAnyH_done (by kernel_rfl) ?_ _
  have HY := hide_it hy4
  clear hy0 hy1 hy2 hy3 hy4 hz1 hz2 hz3 hz4 p1 p2 p3 r1
  go_wp2
  go_ret
  exact ⟨rfl, HB.out.trans (HY.out.mono (by omega))⟩
end Go.Proofs.Ytepkhohaahmebaa

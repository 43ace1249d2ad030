/- A step done to a chain and to the document's list, kind by kind. -/
import Derived.Test.YtncmnhomloanaabHp1
namespace Go.Proofs.Ytncmnhomloanaab
open Go.RowKit

theorem StepTo.of_lay {w z1 z2 : World} {F : Nat → Prop} {q p : Nat} {v1 d d' : Value} {xs ys : List Lk} (hl : ∀ j, F j → j < w.heap.size) (hc : Chg F w z1) (hm : Mid z1 (upto F w z1) q p v1 d ys xs) (k : DocTo z1 d ys d' z2) : StepTo w F q p ys (z2.setCell ⟨q, 1, none⟩ d') := by
  obtain ⟨hp, hc2⟩ := hm.lay k
  have hz := hc.size
  have hz2 := k.bel.size
  refine ⟨⟨v1, d', hp.mono (fun j hj => ?_) (fun j hj => ?_)⟩, hc.trans hc2 fun j hj ht => ?_⟩
  · rcases hj with (hj | ⟨h1, h2⟩) | ⟨h1, h2⟩
    · exact .inl hj
    · exact .inr ⟨h1, by simp; omega⟩
    · exact .inr ⟨by omega, by simpa using h2⟩
  · rcases hj with hj | hj
    · have := hl j hj; simp; omega
    · exact hj.2
  · rcases ht with ht | ht
    · exact ht
    · omega

/-- What the step's box adds. -/
theorem step_box (w : World) (k n : Int) (v : ByteArray) (d : Bool) : ∃ W, W = w.alloc (.cells #[.int .i64 k, .int .i64 n, .string v, .bool d] 66) ∧ Below w.heap.size w W ∧ W.heap.size = w.heap.size + 1 ∧ W.heap[w.heap.size]? = some (.cells #[.int .i64 k, .int .i64 n, .string v, .bool d] 66 (0, 0)) :=
  ⟨_, rfl, (Below.refl _ _).alloc (Nat.le_refl _) _, by simp, heap_alloc_new w _⟩

set_option maxRecDepth 100000 in
set_option maxHeartbeats 4000000 in
theorem step1_any {w : World} {F : Nat → Prop} {q p : Nat} {v d : Value} {xs : List Lk} (h : Pr w F q p v d xs) (hl : xs.length ≤ 3600000000000) (s : Stc) (hs : -9223372036854775808 ≤ s.n ∧ s.n ≤ 9223372036854775807) :
    Calls Try.prog 16 #[.pointer (some ⟨q, 0, none⟩), .agg #[.int .i64 1, .int .i64 s.n, .string s.v, .bool s.d]] w fun e w' => e = .returned (.bool true) ∧ StepTo w F q p (addL xs (stL s)) w' := by
  obtain ⟨W, hW, hb, hz, k0⟩ := step_box w 1 s.n s.v s.d
  have hP := h.below hb
  have hlt := h.lt
  have hbl : w.heap.size < W.heap.size := by omega
  have hq := hP.qlt
  have hqb : ¬ q = w.heap.size := by have := h.qlt; omega
  have hP0 : Pr W.drew F q p v d xs := hP.keep (fun _ _ => rfl) (Nat.le_refl _)
  have hadd := add_any hP0.hn (stL s) hs.2 (by omega)
  have kq := hP.hq
  have hqc := hP0.qc
  have hbc : ¬ Fc p v w.heap.size := fun e => by have := hlt _ (h.fc _ e); omega
  have hgood := h.hn.good
  obtain ⟨E, hE⟩ : ∃ E, E = addE xs (stL s) := ⟨_, rfl⟩
  rw [← hE] at hadd
  have HEE := hide_it hE
  have hee : (E == E) = true := by simp
  unfold lkV stL at hadd
  have HP0 := hide_it hP0
  have HLT := hide_it hlt
  have HB := hide_it hb
  have HG := hide_it hgood
  clear hP0 hE h hP hgood
  go_enter Try.func16, Try.ntmps16
  go_wp2_with fail
  rw [← hW]
  clear hW
  refine wp_region_held_drew (S := (fun w' => w'.heap[q]? = W.heap[q]? ∧ w'.heap[w.heap.size]? = W.heap[w.heap.size]?)) (by kernel_rfl) ?_ (fun hHeld => ?_)
  · exact ⟨rfl, rfl⟩
  refine take_on (i := 0) (v := ?_) rfl rfl (by kernel_rfl) (by kernel_rfl) (by kernel_rfl) (fun _ _ _ h => h) rfl ?_ hHeld ?_
  rotate_left
  · (intro wq hSq; have xk := hSq.2.trans k0; have s0 := cell_of_row _ _ 0 _ _ _ xk; have s1 := cell_of_row _ _ 1 _ _ _ xk; have s2 := cell_of_row _ _ 2 _ _ _ xk; have s3 := cell_of_row _ _ 3 _ _ _ xk; have xq := hSq.1.trans kq; have r0 := cell_of_row _ _ 0 _ _ _ xq; have r1 := cell_of_row _ _ 1 _ _ _ xq; go_simp <;> first | with_reducible rfl | rfl)
  simp only [Act.put, List.setIfInBounds_toArray, List.set_cons_zero, List.set_cons_succ]
  refine take_on (i := 1) (v := ?_) rfl rfl (by kernel_rfl) (by kernel_rfl) (by kernel_rfl) (fun _ _ _ h => h) rfl ?_ hHeld ?_
  rotate_left
  · (intro wq hSq; have xk := hSq.2.trans k0; have s0 := cell_of_row _ _ 0 _ _ _ xk; have s1 := cell_of_row _ _ 1 _ _ _ xk; have s2 := cell_of_row _ _ 2 _ _ _ xk; have s3 := cell_of_row _ _ 3 _ _ _ xk; have xq := hSq.1.trans kq; have r0 := cell_of_row _ _ 0 _ _ _ xq; have r1 := cell_of_row _ _ 1 _ _ _ xq; go_simp <;> first | with_reducible rfl | rfl)
  simp only [Act.put, List.setIfInBounds_toArray, List.set_cons_zero, List.set_cons_succ]
  refine take_on (i := 2) (v := ?_) rfl rfl (by kernel_rfl) (by kernel_rfl) (by kernel_rfl) (fun _ _ _ h => h) rfl ?_ hHeld ?_
  rotate_left
  · (intro wq hSq; have xk := hSq.2.trans k0; have s0 := cell_of_row _ _ 0 _ _ _ xk; have s1 := cell_of_row _ _ 1 _ _ _ xk; have s2 := cell_of_row _ _ 2 _ _ _ xk; have s3 := cell_of_row _ _ 3 _ _ _ xk; have xq := hSq.1.trans kq; have r0 := cell_of_row _ _ 0 _ _ _ xq; have r1 := cell_of_row _ _ 1 _ _ _ xq; go_simp <;> first | with_reducible rfl | rfl)
  simp only [Act.put, List.setIfInBounds_toArray, List.set_cons_zero, List.set_cons_succ]
  refine take_on (i := 3) (v := ?_) rfl rfl (by kernel_rfl) (by kernel_rfl) (by kernel_rfl) (fun _ _ _ h => h) rfl ?_ hHeld ?_
  rotate_left
  · (intro wq hSq; have xk := hSq.2.trans k0; have s0 := cell_of_row _ _ 0 _ _ _ xk; have s1 := cell_of_row _ _ 1 _ _ _ xk; have s2 := cell_of_row _ _ 2 _ _ _ xk; have s3 := cell_of_row _ _ 3 _ _ _ xk; have xq := hSq.1.trans kq; have r0 := cell_of_row _ _ 0 _ _ _ xq; have r1 := cell_of_row _ _ 1 _ _ _ xq; go_simp <;> first | with_reducible rfl | rfl)
  simp only [Act.put, List.setIfInBounds_toArray, List.set_cons_zero, List.set_cons_succ]
  refine take_on (i := 4) (v := ?_) rfl rfl (by kernel_rfl) (by kernel_rfl) (by kernel_rfl) (fun _ _ _ h => h) rfl ?_ hHeld ?_
  rotate_left
  · (intro wq hSq; have xk := hSq.2.trans k0; have s0 := cell_of_row _ _ 0 _ _ _ xk; have s1 := cell_of_row _ _ 1 _ _ _ xk; have s2 := cell_of_row _ _ 2 _ _ _ xk; have s3 := cell_of_row _ _ 3 _ _ _ xk; have xq := hSq.1.trans kq; have r0 := cell_of_row _ _ 0 _ _ _ xq; have r1 := cell_of_row _ _ 1 _ _ _ xq; go_simp <;> first | with_reducible rfl | rfl)
  simp only [Act.put, List.setIfInBounds_toArray, List.set_cons_zero, List.set_cons_succ]
  refine take_on (i := 5) (v := ?_) rfl rfl (by kernel_rfl) (by kernel_rfl) (by kernel_rfl) (fun _ _ _ h => h) rfl ?_ hHeld ?_
  rotate_left
  · (intro wq hSq; have xk := hSq.2.trans k0; have s0 := cell_of_row _ _ 0 _ _ _ xk; have s1 := cell_of_row _ _ 1 _ _ _ xk; have s2 := cell_of_row _ _ 2 _ _ _ xk; have s3 := cell_of_row _ _ 3 _ _ _ xk; have xq := hSq.1.trans kq; have r0 := cell_of_row _ _ 0 _ _ _ xq; have r1 := cell_of_row _ _ 1 _ _ _ xq; go_simp <;> first | with_reducible rfl | rfl)
  simp only [Act.put, List.setIfInBounds_toArray, List.set_cons_zero, List.set_cons_succ]
  refine take_on (i := 6) (v := ?_) rfl rfl (by kernel_rfl) (by kernel_rfl) (by kernel_rfl) (fun _ _ _ h => h) rfl ?_ hHeld ?_
  rotate_left
  · (intro wq hSq; have xk := hSq.2.trans k0; have s0 := cell_of_row _ _ 0 _ _ _ xk; have s1 := cell_of_row _ _ 1 _ _ _ xk; have s2 := cell_of_row _ _ 2 _ _ _ xk; have s3 := cell_of_row _ _ 3 _ _ _ xk; have xq := hSq.1.trans kq; have r0 := cell_of_row _ _ 0 _ _ _ xq; have r1 := cell_of_row _ _ 1 _ _ _ xq; go_simp <;> first | with_reducible rfl | rfl)
  simp only [Act.put, List.setIfInBounds_toArray, List.set_cons_zero, List.set_cons_succ]
  refine take_on (i := 7) (v := ?_) rfl rfl (by kernel_rfl) (by kernel_rfl) (by kernel_rfl) (fun _ _ _ h => h) rfl ?_ hHeld ?_
  rotate_left
  · (intro wq hSq; have xk := hSq.2.trans k0; have s0 := cell_of_row _ _ 0 _ _ _ xk; have s1 := cell_of_row _ _ 1 _ _ _ xk; have s2 := cell_of_row _ _ 2 _ _ _ xk; have s3 := cell_of_row _ _ 3 _ _ _ xk; have xq := hSq.1.trans kq; have r0 := cell_of_row _ _ 0 _ _ _ xq; have r1 := cell_of_row _ _ 1 _ _ _ xq; go_simp <;> first | with_reducible rfl | rfl)
  simp only [Act.put, List.setIfInBounds_toArray, List.set_cons_zero, List.set_cons_succ]
  refine take_on (i := 8) (v := ?_) rfl rfl (by kernel_rfl) (by kernel_rfl) (by kernel_rfl) (fun _ _ _ h => h) rfl ?_ hHeld ?_
  rotate_left
  · (intro wq hSq; have xk := hSq.2.trans k0; have s0 := cell_of_row _ _ 0 _ _ _ xk; have s1 := cell_of_row _ _ 1 _ _ _ xk; have s2 := cell_of_row _ _ 2 _ _ _ xk; have s3 := cell_of_row _ _ 3 _ _ _ xk; have xq := hSq.1.trans kq; have r0 := cell_of_row _ _ 0 _ _ _ xq; have r1 := cell_of_row _ _ 1 _ _ _ xq; go_simp <;> first | with_reducible rfl | rfl)
  simp only [Act.put, List.setIfInBounds_toArray, List.set_cons_zero, List.set_cons_succ]
  refine take_on (i := 9) (v := ?_) rfl rfl (by kernel_rfl) (by kernel_rfl) (by kernel_rfl) (fun _ _ _ h => h) rfl ?_ hHeld ?_
  rotate_left
  · (intro wq hSq; have xk := hSq.2.trans k0; have s0 := cell_of_row _ _ 0 _ _ _ xk; have s1 := cell_of_row _ _ 1 _ _ _ xk; have s2 := cell_of_row _ _ 2 _ _ _ xk; have s3 := cell_of_row _ _ 3 _ _ _ xk; have xq := hSq.1.trans kq; have r0 := cell_of_row _ _ 0 _ _ _ xq; have r1 := cell_of_row _ _ 1 _ _ _ xq; go_simp <;> first | with_reducible rfl | rfl)
  simp only [Act.put, List.setIfInBounds_toArray, List.set_cons_zero, List.set_cons_succ]
  refine take_on (i := 10) (v := ?_) rfl rfl (by kernel_rfl) (by kernel_rfl) (by kernel_rfl) (fun _ _ _ h => h) rfl ?_ hHeld ?_
  rotate_left
  · (intro wq hSq; have xk := hSq.2.trans k0; have s0 := cell_of_row _ _ 0 _ _ _ xk; have s1 := cell_of_row _ _ 1 _ _ _ xk; have s2 := cell_of_row _ _ 2 _ _ _ xk; have s3 := cell_of_row _ _ 3 _ _ _ xk; have xq := hSq.1.trans kq; have r0 := cell_of_row _ _ 0 _ _ _ xq; have r1 := cell_of_row _ _ 1 _ _ _ xq; go_simp <;> first | with_reducible rfl | rfl)
  simp only [Act.put, List.setIfInBounds_toArray, List.set_cons_zero, List.set_cons_succ]
  refine take_one (i := 11) rfl (by kernel_rfl) (fun K hK => ?_)
  go_simp
  (refine hadd.mono ?_; rintro e z1 ⟨rfl, ht⟩)
  try go_wp2_with fail
  refine hK.out _ _ ?_ (fun hHeld => ?_)
  · exact ⟨ht.chg.block q hq hqc, ht.chg.block w.heap.size hbl hbc⟩
  clear hK K
  try simp only [Act.put, List.setIfInBounds_toArray, List.set_cons_zero, List.set_cons_succ]
  refine take_on (i := 12) (v := ?_) rfl rfl (by kernel_rfl) (by kernel_rfl) (by kernel_rfl) (fun _ _ _ h => h) rfl ?_ hHeld ?_
  rotate_left
  · (intro wq hSq; have xk := hSq.2.trans k0; have s0 := cell_of_row _ _ 0 _ _ _ xk; have s1 := cell_of_row _ _ 1 _ _ _ xk; have s2 := cell_of_row _ _ 2 _ _ _ xk; have s3 := cell_of_row _ _ 3 _ _ _ xk; have xq := hSq.1.trans kq; have r0 := cell_of_row _ _ 0 _ _ _ xq; have r1 := cell_of_row _ _ 1 _ _ _ xq; go_simp <;> first | with_reducible rfl | rfl)
  simp only [Act.put, List.setIfInBounds_toArray, List.set_cons_zero, List.set_cons_succ]
  refine wpAnyH_done (by kernel_rfl) ?_ _
  have hsz := ht.chg.size
  have k1 : z1.heap[w.heap.size]? = _ := (ht.chg.block w.heap.size hbl hbc).trans k0
  obtain ⟨v1, hM0, hc0⟩ := HP0.out.turn ht
  have hM : Mid z1.drew (upto F W.drew z1.drew) q p v1 d (addL xs (stL s)) xs := hM0.below (Below.refl _ _).drew
  have kq1 := hM0.hq
  have hq1 := hM0.qlt
  have hbl1 : w.heap.size < z1.heap.size := (Array.getElem?_eq_some_iff.1 k1).1
  have hgood := HG.out
  have hdoc := radd_any (w := z1.drew) hM.od (by omega) (stL s)
  rw [← HEE.out] at hdoc
  unfold lkV stL at hdoc
  have HM := hide_it hM
  have HC0 := hide_it hc0
  clear hM hM0 hc0 hadd ht k0 kq hqc hbc hgood
  go_wp2_with fail
  refine wp_region_held_drew (S := (fun w' => w'.heap[q]? = z1.heap[q]? ∧ w'.heap[w.heap.size]? = z1.heap[w.heap.size]?)) (by kernel_rfl) ?_ (fun hHeld => ?_)
  · exact ⟨rfl, rfl⟩
  refine take_on (i := 0) (v := ?_) rfl rfl (by kernel_rfl) (by kernel_rfl) (by kernel_rfl) (fun _ _ _ h => h) rfl ?_ hHeld ?_
  rotate_left
  · (intro wq hSq; have xk := hSq.2.trans k1; have s0 := cell_of_row _ _ 0 _ _ _ xk; have s1 := cell_of_row _ _ 1 _ _ _ xk; have s2 := cell_of_row _ _ 2 _ _ _ xk; have s3 := cell_of_row _ _ 3 _ _ _ xk; have xq := hSq.1.trans kq1; have r0 := cell_of_row _ _ 0 _ _ _ xq; have r1 := cell_of_row _ _ 1 _ _ _ xq; go_simp <;> first | with_reducible rfl | rfl)
  simp only [Act.put, List.setIfInBounds_toArray, List.set_cons_zero, List.set_cons_succ]
  refine take_on (i := 1) (v := ?_) rfl rfl (by kernel_rfl) (by kernel_rfl) (by kernel_rfl) (fun _ _ _ h => h) rfl ?_ hHeld ?_
  rotate_left
  · (intro wq hSq; have xk := hSq.2.trans k1; have s0 := cell_of_row _ _ 0 _ _ _ xk; have s1 := cell_of_row _ _ 1 _ _ _ xk; have s2 := cell_of_row _ _ 2 _ _ _ xk; have s3 := cell_of_row _ _ 3 _ _ _ xk; have xq := hSq.1.trans kq1; have r0 := cell_of_row _ _ 0 _ _ _ xq; have r1 := cell_of_row _ _ 1 _ _ _ xq; go_simp <;> first | with_reducible rfl | rfl)
  simp only [Act.put, List.setIfInBounds_toArray, List.set_cons_zero, List.set_cons_succ]
  refine take_on (i := 2) (v := ?_) rfl rfl (by kernel_rfl) (by kernel_rfl) (by kernel_rfl) (fun _ _ _ h => h) rfl ?_ hHeld ?_
  rotate_left
  · (intro wq hSq; have xk := hSq.2.trans k1; have s0 := cell_of_row _ _ 0 _ _ _ xk; have s1 := cell_of_row _ _ 1 _ _ _ xk; have s2 := cell_of_row _ _ 2 _ _ _ xk; have s3 := cell_of_row _ _ 3 _ _ _ xk; have xq := hSq.1.trans kq1; have r0 := cell_of_row _ _ 0 _ _ _ xq; have r1 := cell_of_row _ _ 1 _ _ _ xq; go_simp <;> first | with_reducible rfl | rfl)
  simp only [Act.put, List.setIfInBounds_toArray, List.set_cons_zero, List.set_cons_succ]
  refine take_on (i := 3) (v := ?_) rfl rfl (by kernel_rfl) (by kernel_rfl) (by kernel_rfl) (fun _ _ _ h => h) rfl ?_ hHeld ?_
  rotate_left
  · (intro wq hSq; have xk := hSq.2.trans k1; have s0 := cell_of_row _ _ 0 _ _ _ xk; have s1 := cell_of_row _ _ 1 _ _ _ xk; have s2 := cell_of_row _ _ 2 _ _ _ xk; have s3 := cell_of_row _ _ 3 _ _ _ xk; have xq := hSq.1.trans kq1; have r0 := cell_of_row _ _ 0 _ _ _ xq; have r1 := cell_of_row _ _ 1 _ _ _ xq; go_simp <;> first | with_reducible rfl | rfl)
  simp only [Act.put, List.setIfInBounds_toArray, List.set_cons_zero, List.set_cons_succ]
  refine take_on (i := 4) (v := ?_) rfl rfl (by kernel_rfl) (by kernel_rfl) (by kernel_rfl) (fun _ _ _ h => h) rfl ?_ hHeld ?_
  rotate_left
  · (intro wq hSq; have xk := hSq.2.trans k1; have s0 := cell_of_row _ _ 0 _ _ _ xk; have s1 := cell_of_row _ _ 1 _ _ _ xk; have s2 := cell_of_row _ _ 2 _ _ _ xk; have s3 := cell_of_row _ _ 3 _ _ _ xk; have xq := hSq.1.trans kq1; have r0 := cell_of_row _ _ 0 _ _ _ xq; have r1 := cell_of_row _ _ 1 _ _ _ xq; go_simp <;> first | with_reducible rfl | rfl)
  simp only [Act.put, List.setIfInBounds_toArray, List.set_cons_zero, List.set_cons_succ]
  refine take_on (i := 5) (v := ?_) rfl rfl (by kernel_rfl) (by kernel_rfl) (by kernel_rfl) (fun _ _ _ h => h) rfl ?_ hHeld ?_
  rotate_left
  · (intro wq hSq; have xk := hSq.2.trans k1; have s0 := cell_of_row _ _ 0 _ _ _ xk; have s1 := cell_of_row _ _ 1 _ _ _ xk; have s2 := cell_of_row _ _ 2 _ _ _ xk; have s3 := cell_of_row _ _ 3 _ _ _ xk; have xq := hSq.1.trans kq1; have r0 := cell_of_row _ _ 0 _ _ _ xq; have r1 := cell_of_row _ _ 1 _ _ _ xq; go_simp <;> first | with_reducible rfl | rfl)
  simp only [Act.put, List.setIfInBounds_toArray, List.set_cons_zero, List.set_cons_succ]
  refine take_on (i := 6) (v := ?_) rfl rfl (by kernel_rfl) (by kernel_rfl) (by kernel_rfl) (fun _ _ _ h => h) rfl ?_ hHeld ?_
  rotate_left
  · (intro wq hSq; have xk := hSq.2.trans k1; have s0 := cell_of_row _ _ 0 _ _ _ xk; have s1 := cell_of_row _ _ 1 _ _ _ xk; have s2 := cell_of_row _ _ 2 _ _ _ xk; have s3 := cell_of_row _ _ 3 _ _ _ xk; have xq := hSq.1.trans kq1; have r0 := cell_of_row _ _ 0 _ _ _ xq; have r1 := cell_of_row _ _ 1 _ _ _ xq; go_simp <;> first | with_reducible rfl | rfl)
  simp only [Act.put, List.setIfInBounds_toArray, List.set_cons_zero, List.set_cons_succ]
  refine take_on (i := 7) (v := ?_) rfl rfl (by kernel_rfl) (by kernel_rfl) (by kernel_rfl) (fun _ _ _ h => h) rfl ?_ hHeld ?_
  rotate_left
  · (intro wq hSq; have xk := hSq.2.trans k1; have s0 := cell_of_row _ _ 0 _ _ _ xk; have s1 := cell_of_row _ _ 1 _ _ _ xk; have s2 := cell_of_row _ _ 2 _ _ _ xk; have s3 := cell_of_row _ _ 3 _ _ _ xk; have xq := hSq.1.trans kq1; have r0 := cell_of_row _ _ 0 _ _ _ xq; have r1 := cell_of_row _ _ 1 _ _ _ xq; go_simp <;> first | with_reducible rfl | rfl)
  simp only [Act.put, List.setIfInBounds_toArray, List.set_cons_zero, List.set_cons_succ]
  refine take_on (i := 8) (v := ?_) rfl rfl (by kernel_rfl) (by kernel_rfl) (by kernel_rfl) (fun _ _ _ h => h) rfl ?_ hHeld ?_
  rotate_left
  · (intro wq hSq; have xk := hSq.2.trans k1; have s0 := cell_of_row _ _ 0 _ _ _ xk; have s1 := cell_of_row _ _ 1 _ _ _ xk; have s2 := cell_of_row _ _ 2 _ _ _ xk; have s3 := cell_of_row _ _ 3 _ _ _ xk; have xq := hSq.1.trans kq1; have r0 := cell_of_row _ _ 0 _ _ _ xq; have r1 := cell_of_row _ _ 1 _ _ _ xq; go_simp <;> first | with_reducible rfl | rfl)
  simp only [Act.put, List.setIfInBounds_toArray, List.set_cons_zero, List.set_cons_succ]
  refine take_on (i := 9) (v := ?_) rfl rfl (by kernel_rfl) (by kernel_rfl) (by kernel_rfl) (fun _ _ _ h => h) rfl ?_ hHeld ?_
  rotate_left
  · (intro wq hSq; have xk := hSq.2.trans k1; have s0 := cell_of_row _ _ 0 _ _ _ xk; have s1 := cell_of_row _ _ 1 _ _ _ xk; have s2 := cell_of_row _ _ 2 _ _ _ xk; have s3 := cell_of_row _ _ 3 _ _ _ xk; have xq := hSq.1.trans kq1; have r0 := cell_of_row _ _ 0 _ _ _ xq; have r1 := cell_of_row _ _ 1 _ _ _ xq; go_simp <;> first | with_reducible rfl | rfl)
  simp only [Act.put, List.setIfInBounds_toArray, List.set_cons_zero, List.set_cons_succ]
  refine take_on (i := 10) (v := ?_) rfl rfl (by kernel_rfl) (by kernel_rfl) (by kernel_rfl) (fun _ _ _ h => h) rfl ?_ hHeld ?_
  rotate_left
  · (intro wq hSq; have xk := hSq.2.trans k1; have s0 := cell_of_row _ _ 0 _ _ _ xk; have s1 := cell_of_row _ _ 1 _ _ _ xk; have s2 := cell_of_row _ _ 2 _ _ _ xk; have s3 := cell_of_row _ _ 3 _ _ _ xk; have xq := hSq.1.trans kq1; have r0 := cell_of_row _ _ 0 _ _ _ xq; have r1 := cell_of_row _ _ 1 _ _ _ xq; go_simp <;> first | with_reducible rfl | rfl)
  simp only [Act.put, List.setIfInBounds_toArray, List.set_cons_zero, List.set_cons_succ]
  refine take_one (i := 11) rfl (by kernel_rfl) (fun K hK => ?_)
  go_simp
  (refine hdoc.mono ?_; rintro e z2 ⟨d2, rfl, hk⟩; obtain ⟨a2, c2, ev2, _⟩ := own_row hk.own; subst ev2)
  try go_wp2_with fail
  refine hK.out _ _ ?_ (fun hHeld => ?_)
  · exact ⟨hk.bel.block q hq1, hk.bel.block w.heap.size hbl1⟩
  clear hK K
  try simp only [Act.put, List.setIfInBounds_toArray, List.set_cons_zero, List.set_cons_succ]
  refine take_on (i := 12) (v := ?_) rfl rfl (by kernel_rfl) (by kernel_rfl) (by kernel_rfl) (fun _ _ _ h => h) rfl ?_ hHeld ?_
  rotate_left
  · (intro wq hSq; have xk := hSq.2.trans k1; have s0 := cell_of_row _ _ 0 _ _ _ xk; have s1 := cell_of_row _ _ 1 _ _ _ xk; have s2 := cell_of_row _ _ 2 _ _ _ xk; have s3 := cell_of_row _ _ 3 _ _ _ xk; have xq := hSq.1.trans kq1; have r0 := cell_of_row _ _ 0 _ _ _ xq; have r1 := cell_of_row _ _ 1 _ _ _ xq; go_simp <;> first | with_reducible rfl | rfl)
  simp only [Act.put, List.setIfInBounds_toArray, List.set_cons_zero, List.set_cons_succ]
  refine take_on (i := 13) (v := ?_) rfl rfl (by kernel_rfl) (by kernel_rfl) (by kernel_rfl) (fun _ _ _ h => h) rfl ?_ hHeld ?_
  rotate_left
  · (intro wq hSq; have xk := hSq.2.trans k1; have s0 := cell_of_row _ _ 0 _ _ _ xk; have s1 := cell_of_row _ _ 1 _ _ _ xk; have s2 := cell_of_row _ _ 2 _ _ _ xk; have s3 := cell_of_row _ _ 3 _ _ _ xk; have xq := hSq.1.trans kq1; have r0 := cell_of_row _ _ 0 _ _ _ xq; have r1 := cell_of_row _ _ 1 _ _ _ xq; go_simp <;> first | with_reducible rfl | rfl)
  simp only [Act.put, List.setIfInBounds_toArray, List.set_cons_zero, List.set_cons_succ]
  refine take_on (i := 14) (v := ?_) rfl rfl (by kernel_rfl) (by kernel_rfl) (by kernel_rfl) (fun _ _ _ h => h) rfl ?_ hHeld ?_
  rotate_left
  · (intro wq hSq; have xk := hSq.2.trans k1; have s0 := cell_of_row _ _ 0 _ _ _ xk; have s1 := cell_of_row _ _ 1 _ _ _ xk; have s2 := cell_of_row _ _ 2 _ _ _ xk; have s3 := cell_of_row _ _ 3 _ _ _ xk; have xq := hSq.1.trans kq1; have r0 := cell_of_row _ _ 0 _ _ _ xq; have r1 := cell_of_row _ _ 1 _ _ _ xq; go_simp <;> first | with_reducible rfl | rfl)
  simp only [Act.put, List.setIfInBounds_toArray, List.set_cons_zero, List.set_cons_succ]
  refine take_on (i := 15) (v := ?_) rfl rfl (by kernel_rfl) (by kernel_rfl) (by kernel_rfl) (fun _ _ _ h => h) rfl ?_ hHeld ?_
  rotate_left
  · (intro wq hSq; have xk := hSq.2.trans k1; have s0 := cell_of_row _ _ 0 _ _ _ xk; have s1 := cell_of_row _ _ 1 _ _ _ xk; have s2 := cell_of_row _ _ 2 _ _ _ xk; have s3 := cell_of_row _ _ 3 _ _ _ xk; have xq := hSq.1.trans kq1; have r0 := cell_of_row _ _ 0 _ _ _ xq; have r1 := cell_of_row _ _ 1 _ _ _ xq; go_simp <;> first | with_reducible rfl | rfl)
  simp only [Act.put, List.setIfInBounds_toArray, List.set_cons_zero, List.set_cons_succ]
  refine take_on (i := 16) (v := ?_) rfl rfl (by kernel_rfl) (by kernel_rfl) (by kernel_rfl) (fun _ _ _ h => h) rfl ?_ hHeld ?_
  rotate_left
  · (intro wq hSq; have xk := hSq.2.trans k1; have s0 := cell_of_row _ _ 0 _ _ _ xk; have s1 := cell_of_row _ _ 1 _ _ _ xk; have s2 := cell_of_row _ _ 2 _ _ _ xk; have s3 := cell_of_row _ _ 3 _ _ _ xk; have xq := hSq.1.trans kq1; have r0 := cell_of_row _ _ 0 _ _ _ xq; have r1 := cell_of_row _ _ 1 _ _ _ xq; go_simp <;> first | with_reducible rfl | rfl)
  simp only [Act.put, List.setIfInBounds_toArray, List.set_cons_zero, List.set_cons_succ]
  refine wpAnyH_done (by kernel_rfl) ?_ _
  have kq2 : z2.heap[q]? = _ := (hk.bel.block q hq1).trans kq1
  have r1 : z2.cell? ⟨q, 1, none⟩ = some d := cell_of_row _ _ _ _ _ _ kq2
  have f1 : ∀ j, z2.frozen? ⟨q, j, none⟩ = false := fun j => frozen_of_row _ _ _ _ _ kq2
  have HS := hide_it (StepTo.of_lay (w := W.drew) (fun j hj => by have := HLT.out j hj; show j < W.heap.size; omega) (HC0.out.drew) HM.out hk)
  have HB2 := hide_it (HB.out.drew)
  clear hdoc hk kq2 kq1 k1
  go_wp2
  go_ret
  exact ⟨rfl, HS.out.pre HB2.out HLT.out⟩

set_option maxRecDepth 100000 in
set_option maxHeartbeats 4000000 in
theorem step4_any {w : World} {F : Nat → Prop} {q p : Nat} {v d : Value} {xs : List Lk} (h : Pr w F q p v d xs) (hl : xs.length ≤ 3600000000000) (s : Stc) (_hs : -9223372036854775808 ≤ s.n ∧ s.n ≤ 9223372036854775807) :
    Calls Try.prog 16 #[.pointer (some ⟨q, 0, none⟩), .agg #[.int .i64 4, .int .i64 s.n, .string s.v, .bool s.d]] w fun e w' => e = .returned (.bool true) ∧ StepTo w F q p (pruL xs s.n) w' := by
  obtain ⟨W, hW, hb, hz, k0⟩ := step_box w 4 s.n s.v s.d
  have hP := h.below hb
  have hlt := h.lt
  have hbl : w.heap.size < W.heap.size := by omega
  have hq := hP.qlt
  have hqb : ¬ q = w.heap.size := by have := h.qlt; omega
  have hP0 : Pr W.drew F q p v d xs := hP.keep (fun _ _ => rfl) (Nat.le_refl _)
  have hadd := prune_any hP0.hn (by omega) s.n
  have kq := hP.hq
  have hqc := hP0.qc
  have hbc : ¬ Fc p v w.heap.size := fun e => by have := hlt _ (h.fc _ e); omega
  have hgood := h.hn.good
  obtain ⟨E, hE⟩ : ∃ E, E = (pruN xs s.n : Int) := ⟨_, rfl⟩
  rw [← hE] at hadd
  have HEE := hide_it hE
  have hee : (E == E) = true := by simp
  skip
  have HP0 := hide_it hP0
  have HLT := hide_it hlt
  have HB := hide_it hb
  have HG := hide_it hgood
  clear hP0 hE h hP hgood
  go_enter Try.func16, Try.ntmps16
  go_wp2_with fail
  rw [← hW]
  clear hW
  refine wp_region_held_drew (S := (fun w' => w'.heap[q]? = W.heap[q]? ∧ w'.heap[w.heap.size]? = W.heap[w.heap.size]?)) (by kernel_rfl) ?_ (fun hHeld => ?_)
  · exact ⟨rfl, rfl⟩
  refine take_on (i := 0) (v := ?_) rfl rfl (by kernel_rfl) (by kernel_rfl) (by kernel_rfl) (fun _ _ _ h => h) rfl ?_ hHeld ?_
  rotate_left
  · (intro wq hSq; have xk := hSq.2.trans k0; have s0 := cell_of_row _ _ 0 _ _ _ xk; have s1 := cell_of_row _ _ 1 _ _ _ xk; have s2 := cell_of_row _ _ 2 _ _ _ xk; have s3 := cell_of_row _ _ 3 _ _ _ xk; have xq := hSq.1.trans kq; have r0 := cell_of_row _ _ 0 _ _ _ xq; have r1 := cell_of_row _ _ 1 _ _ _ xq; go_simp <;> first | with_reducible rfl | rfl)
  simp only [Act.put, List.setIfInBounds_toArray, List.set_cons_zero, List.set_cons_succ]
  refine take_on (i := 1) (v := ?_) rfl rfl (by kernel_rfl) (by kernel_rfl) (by kernel_rfl) (fun _ _ _ h => h) rfl ?_ hHeld ?_
  rotate_left
  · (intro wq hSq; have xk := hSq.2.trans k0; have s0 := cell_of_row _ _ 0 _ _ _ xk; have s1 := cell_of_row _ _ 1 _ _ _ xk; have s2 := cell_of_row _ _ 2 _ _ _ xk; have s3 := cell_of_row _ _ 3 _ _ _ xk; have xq := hSq.1.trans kq; have r0 := cell_of_row _ _ 0 _ _ _ xq; have r1 := cell_of_row _ _ 1 _ _ _ xq; go_simp <;> first | with_reducible rfl | rfl)
  simp only [Act.put, List.setIfInBounds_toArray, List.set_cons_zero, List.set_cons_succ]
  refine take_on (i := 2) (v := ?_) rfl rfl (by kernel_rfl) (by kernel_rfl) (by kernel_rfl) (fun _ _ _ h => h) rfl ?_ hHeld ?_
  rotate_left
  · (intro wq hSq; have xk := hSq.2.trans k0; have s0 := cell_of_row _ _ 0 _ _ _ xk; have s1 := cell_of_row _ _ 1 _ _ _ xk; have s2 := cell_of_row _ _ 2 _ _ _ xk; have s3 := cell_of_row _ _ 3 _ _ _ xk; have xq := hSq.1.trans kq; have r0 := cell_of_row _ _ 0 _ _ _ xq; have r1 := cell_of_row _ _ 1 _ _ _ xq; go_simp <;> first | with_reducible rfl | rfl)
  simp only [Act.put, List.setIfInBounds_toArray, List.set_cons_zero, List.set_cons_succ]
  refine take_on (i := 3) (v := ?_) rfl rfl (by kernel_rfl) (by kernel_rfl) (by kernel_rfl) (fun _ _ _ h => h) rfl ?_ hHeld ?_
  rotate_left
  · (intro wq hSq; have xk := hSq.2.trans k0; have s0 := cell_of_row _ _ 0 _ _ _ xk; have s1 := cell_of_row _ _ 1 _ _ _ xk; have s2 := cell_of_row _ _ 2 _ _ _ xk; have s3 := cell_of_row _ _ 3 _ _ _ xk; have xq := hSq.1.trans kq; have r0 := cell_of_row _ _ 0 _ _ _ xq; have r1 := cell_of_row _ _ 1 _ _ _ xq; go_simp <;> first | with_reducible rfl | rfl)
  simp only [Act.put, List.setIfInBounds_toArray, List.set_cons_zero, List.set_cons_succ]
  refine take_on (i := 4) (v := ?_) rfl rfl (by kernel_rfl) (by kernel_rfl) (by kernel_rfl) (fun _ _ _ h => h) rfl ?_ hHeld ?_
  rotate_left
  · (intro wq hSq; have xk := hSq.2.trans k0; have s0 := cell_of_row _ _ 0 _ _ _ xk; have s1 := cell_of_row _ _ 1 _ _ _ xk; have s2 := cell_of_row _ _ 2 _ _ _ xk; have s3 := cell_of_row _ _ 3 _ _ _ xk; have xq := hSq.1.trans kq; have r0 := cell_of_row _ _ 0 _ _ _ xq; have r1 := cell_of_row _ _ 1 _ _ _ xq; go_simp <;> first | with_reducible rfl | rfl)
  simp only [Act.put, List.setIfInBounds_toArray, List.set_cons_zero, List.set_cons_succ]
  refine take_on (i := 5) (v := ?_) rfl rfl (by kernel_rfl) (by kernel_rfl) (by kernel_rfl) (fun _ _ _ h => h) rfl ?_ hHeld ?_
  rotate_left
  · (intro wq hSq; have xk := hSq.2.trans k0; have s0 := cell_of_row _ _ 0 _ _ _ xk; have s1 := cell_of_row _ _ 1 _ _ _ xk; have s2 := cell_of_row _ _ 2 _ _ _ xk; have s3 := cell_of_row _ _ 3 _ _ _ xk; have xq := hSq.1.trans kq; have r0 := cell_of_row _ _ 0 _ _ _ xq; have r1 := cell_of_row _ _ 1 _ _ _ xq; go_simp <;> first | with_reducible rfl | rfl)
  simp only [Act.put, List.setIfInBounds_toArray, List.set_cons_zero, List.set_cons_succ]
  refine take_one (i := 6) rfl (by kernel_rfl) (fun K hK => ?_)
  go_simp
  (refine hadd.mono ?_; rintro e z1 ⟨rfl, ht⟩)
  try go_wp2_with fail
  refine hK.out _ _ ?_ (fun hHeld => ?_)
  · exact ⟨ht.chg.block q hq hqc, ht.chg.block w.heap.size hbl hbc⟩
  clear hK K
  try simp only [Act.put, List.setIfInBounds_toArray, List.set_cons_zero, List.set_cons_succ]
  refine take_on (i := 7) (v := ?_) rfl rfl (by kernel_rfl) (by kernel_rfl) (by kernel_rfl) (fun _ _ _ h => h) rfl ?_ hHeld ?_
  rotate_left
  · (intro wq hSq; have xk := hSq.2.trans k0; have s0 := cell_of_row _ _ 0 _ _ _ xk; have s1 := cell_of_row _ _ 1 _ _ _ xk; have s2 := cell_of_row _ _ 2 _ _ _ xk; have s3 := cell_of_row _ _ 3 _ _ _ xk; have xq := hSq.1.trans kq; have r0 := cell_of_row _ _ 0 _ _ _ xq; have r1 := cell_of_row _ _ 1 _ _ _ xq; go_simp <;> first | with_reducible rfl | rfl)
  simp only [Act.put, List.setIfInBounds_toArray, List.set_cons_zero, List.set_cons_succ]
  refine wpAnyH_done (by kernel_rfl) ?_ _
  have hsz := ht.chg.size
  have k1 : z1.heap[w.heap.size]? = _ := (ht.chg.block w.heap.size hbl hbc).trans k0
  obtain ⟨v1, hM0, hc0⟩ := HP0.out.turn ht
  have hM : Mid z1.drew (upto F W.drew z1.drew) q p v1 d (pruL xs s.n) xs := hM0.below (Below.refl _ _).drew
  have kq1 := hM0.hq
  have hq1 := hM0.qlt
  have hbl1 : w.heap.size < z1.heap.size := (Array.getElem?_eq_some_iff.1 k1).1
  have hgood := HG.out
  have hdoc := rprune_any (w := z1.drew) hM.od hgood (by omega) s.n
  rw [← HEE.out] at hdoc
  skip
  have HM := hide_it hM
  have HC0 := hide_it hc0
  clear hM hM0 hc0 hadd ht k0 kq hqc hbc hgood
  go_wp2_with fail
  refine wp_region_held_drew (S := (fun w' => w'.heap[q]? = z1.heap[q]? ∧ w'.heap[w.heap.size]? = z1.heap[w.heap.size]?)) (by kernel_rfl) ?_ (fun hHeld => ?_)
  · exact ⟨rfl, rfl⟩
  refine take_on (i := 0) (v := ?_) rfl rfl (by kernel_rfl) (by kernel_rfl) (by kernel_rfl) (fun _ _ _ h => h) rfl ?_ hHeld ?_
  rotate_left
  · (intro wq hSq; have xk := hSq.2.trans k1; have s0 := cell_of_row _ _ 0 _ _ _ xk; have s1 := cell_of_row _ _ 1 _ _ _ xk; have s2 := cell_of_row _ _ 2 _ _ _ xk; have s3 := cell_of_row _ _ 3 _ _ _ xk; have xq := hSq.1.trans kq1; have r0 := cell_of_row _ _ 0 _ _ _ xq; have r1 := cell_of_row _ _ 1 _ _ _ xq; go_simp <;> first | with_reducible rfl | rfl)
  simp only [Act.put, List.setIfInBounds_toArray, List.set_cons_zero, List.set_cons_succ]
  refine take_on (i := 1) (v := ?_) rfl rfl (by kernel_rfl) (by kernel_rfl) (by kernel_rfl) (fun _ _ _ h => h) rfl ?_ hHeld ?_
  rotate_left
  · (intro wq hSq; have xk := hSq.2.trans k1; have s0 := cell_of_row _ _ 0 _ _ _ xk; have s1 := cell_of_row _ _ 1 _ _ _ xk; have s2 := cell_of_row _ _ 2 _ _ _ xk; have s3 := cell_of_row _ _ 3 _ _ _ xk; have xq := hSq.1.trans kq1; have r0 := cell_of_row _ _ 0 _ _ _ xq; have r1 := cell_of_row _ _ 1 _ _ _ xq; go_simp <;> first | with_reducible rfl | rfl)
  simp only [Act.put, List.setIfInBounds_toArray, List.set_cons_zero, List.set_cons_succ]
  refine take_on (i := 2) (v := ?_) rfl rfl (by kernel_rfl) (by kernel_rfl) (by kernel_rfl) (fun _ _ _ h => h) rfl ?_ hHeld ?_
  rotate_left
  · (intro wq hSq; have xk := hSq.2.trans k1; have s0 := cell_of_row _ _ 0 _ _ _ xk; have s1 := cell_of_row _ _ 1 _ _ _ xk; have s2 := cell_of_row _ _ 2 _ _ _ xk; have s3 := cell_of_row _ _ 3 _ _ _ xk; have xq := hSq.1.trans kq1; have r0 := cell_of_row _ _ 0 _ _ _ xq; have r1 := cell_of_row _ _ 1 _ _ _ xq; go_simp <;> first | with_reducible rfl | rfl)
  simp only [Act.put, List.setIfInBounds_toArray, List.set_cons_zero, List.set_cons_succ]
  refine take_on (i := 3) (v := ?_) rfl rfl (by kernel_rfl) (by kernel_rfl) (by kernel_rfl) (fun _ _ _ h => h) rfl ?_ hHeld ?_
  rotate_left
  · (intro wq hSq; have xk := hSq.2.trans k1; have s0 := cell_of_row _ _ 0 _ _ _ xk; have s1 := cell_of_row _ _ 1 _ _ _ xk; have s2 := cell_of_row _ _ 2 _ _ _ xk; have s3 := cell_of_row _ _ 3 _ _ _ xk; have xq := hSq.1.trans kq1; have r0 := cell_of_row _ _ 0 _ _ _ xq; have r1 := cell_of_row _ _ 1 _ _ _ xq; go_simp <;> first | with_reducible rfl | rfl)
  simp only [Act.put, List.setIfInBounds_toArray, List.set_cons_zero, List.set_cons_succ]
  refine take_on (i := 4) (v := ?_) rfl rfl (by kernel_rfl) (by kernel_rfl) (by kernel_rfl) (fun _ _ _ h => h) rfl ?_ hHeld ?_
  rotate_left
  · (intro wq hSq; have xk := hSq.2.trans k1; have s0 := cell_of_row _ _ 0 _ _ _ xk; have s1 := cell_of_row _ _ 1 _ _ _ xk; have s2 := cell_of_row _ _ 2 _ _ _ xk; have s3 := cell_of_row _ _ 3 _ _ _ xk; have xq := hSq.1.trans kq1; have r0 := cell_of_row _ _ 0 _ _ _ xq; have r1 := cell_of_row _ _ 1 _ _ _ xq; go_simp <;> first | with_reducible rfl | rfl)
  simp only [Act.put, List.setIfInBounds_toArray, List.set_cons_zero, List.set_cons_succ]
  refine take_on (i := 5) (v := ?_) rfl rfl (by kernel_rfl) (by kernel_rfl) (by kernel_rfl) (fun _ _ _ h => h) rfl ?_ hHeld ?_
  rotate_left
  · (intro wq hSq; have xk := hSq.2.trans k1; have s0 := cell_of_row _ _ 0 _ _ _ xk; have s1 := cell_of_row _ _ 1 _ _ _ xk; have s2 := cell_of_row _ _ 2 _ _ _ xk; have s3 := cell_of_row _ _ 3 _ _ _ xk; have xq := hSq.1.trans kq1; have r0 := cell_of_row _ _ 0 _ _ _ xq; have r1 := cell_of_row _ _ 1 _ _ _ xq; go_simp <;> first | with_reducible rfl | rfl)
  simp only [Act.put, List.setIfInBounds_toArray, List.set_cons_zero, List.set_cons_succ]
  refine take_one (i := 6) rfl (by kernel_rfl) (fun K hK => ?_)
  go_simp
  (refine hdoc.mono ?_; rintro e z2 ⟨d2, rfl, hk⟩; obtain ⟨a2, c2, ev2, _⟩ := own_row hk.own; subst ev2)
  try go_wp2_with fail
  refine hK.out _ _ ?_ (fun hHeld => ?_)
  · exact ⟨hk.bel.block q hq1, hk.bel.block w.heap.size hbl1⟩
  clear hK K
  try simp only [Act.put, List.setIfInBounds_toArray, List.set_cons_zero, List.set_cons_succ]
  refine take_on (i := 7) (v := ?_) rfl rfl (by kernel_rfl) (by kernel_rfl) (by kernel_rfl) (fun _ _ _ h => h) rfl ?_ hHeld ?_
  rotate_left
  · (intro wq hSq; have xk := hSq.2.trans k1; have s0 := cell_of_row _ _ 0 _ _ _ xk; have s1 := cell_of_row _ _ 1 _ _ _ xk; have s2 := cell_of_row _ _ 2 _ _ _ xk; have s3 := cell_of_row _ _ 3 _ _ _ xk; have xq := hSq.1.trans kq1; have r0 := cell_of_row _ _ 0 _ _ _ xq; have r1 := cell_of_row _ _ 1 _ _ _ xq; go_simp <;> first | with_reducible rfl | rfl)
  simp only [Act.put, List.setIfInBounds_toArray, List.set_cons_zero, List.set_cons_succ]
  refine take_on (i := 8) (v := ?_) rfl rfl (by kernel_rfl) (by kernel_rfl) (by kernel_rfl) (fun _ _ _ h => h) rfl ?_ hHeld ?_
  rotate_left
  · (intro wq hSq; have xk := hSq.2.trans k1; have s0 := cell_of_row _ _ 0 _ _ _ xk; have s1 := cell_of_row _ _ 1 _ _ _ xk; have s2 := cell_of_row _ _ 2 _ _ _ xk; have s3 := cell_of_row _ _ 3 _ _ _ xk; have xq := hSq.1.trans kq1; have r0 := cell_of_row _ _ 0 _ _ _ xq; have r1 := cell_of_row _ _ 1 _ _ _ xq; go_simp <;> first | with_reducible rfl | rfl)
  simp only [Act.put, List.setIfInBounds_toArray, List.set_cons_zero, List.set_cons_succ]
  refine take_on (i := 9) (v := ?_) rfl rfl (by kernel_rfl) (by kernel_rfl) (by kernel_rfl) (fun _ _ _ h => h) rfl ?_ hHeld ?_
  rotate_left
  · (intro wq hSq; have xk := hSq.2.trans k1; have s0 := cell_of_row _ _ 0 _ _ _ xk; have s1 := cell_of_row _ _ 1 _ _ _ xk; have s2 := cell_of_row _ _ 2 _ _ _ xk; have s3 := cell_of_row _ _ 3 _ _ _ xk; have xq := hSq.1.trans kq1; have r0 := cell_of_row _ _ 0 _ _ _ xq; have r1 := cell_of_row _ _ 1 _ _ _ xq; go_simp <;> first | with_reducible rfl | rfl)
  simp only [Act.put, List.setIfInBounds_toArray, List.set_cons_zero, List.set_cons_succ]
  refine take_on (i := 10) (v := ?_) rfl rfl (by kernel_rfl) (by kernel_rfl) (by kernel_rfl) (fun _ _ _ h => h) rfl ?_ hHeld ?_
  rotate_left
  · (intro wq hSq; have xk := hSq.2.trans k1; have s0 := cell_of_row _ _ 0 _ _ _ xk; have s1 := cell_of_row _ _ 1 _ _ _ xk; have s2 := cell_of_row _ _ 2 _ _ _ xk; have s3 := cell_of_row _ _ 3 _ _ _ xk; have xq := hSq.1.trans kq1; have r0 := cell_of_row _ _ 0 _ _ _ xq; have r1 := cell_of_row _ _ 1 _ _ _ xq; go_simp <;> first | with_reducible rfl | rfl)
  simp only [Act.put, List.setIfInBounds_toArray, List.set_cons_zero, List.set_cons_succ]
  refine take_on (i := 11) (v := ?_) rfl rfl (by kernel_rfl) (by kernel_rfl) (by kernel_rfl) (fun _ _ _ h => h) rfl ?_ hHeld ?_
  rotate_left
  · (intro wq hSq; have xk := hSq.2.trans k1; have s0 := cell_of_row _ _ 0 _ _ _ xk; have s1 := cell_of_row _ _ 1 _ _ _ xk; have s2 := cell_of_row _ _ 2 _ _ _ xk; have s3 := cell_of_row _ _ 3 _ _ _ xk; have xq := hSq.1.trans kq1; have r0 := cell_of_row _ _ 0 _ _ _ xq; have r1 := cell_of_row _ _ 1 _ _ _ xq; go_simp <;> first | with_reducible rfl | rfl)
  simp only [Act.put, List.setIfInBounds_toArray, List.set_cons_zero, List.set_cons_succ]
  refine wpAnyH_done (by kernel_rfl) ?_ _
  have kq2 : z2.heap[q]? = _ := (hk.bel.block q hq1).trans kq1
  have r1 : z2.cell? ⟨q, 1, none⟩ = some d := cell_of_row _ _ _ _ _ _ kq2
  have f1 : ∀ j, z2.frozen? ⟨q, j, none⟩ = false := fun j => frozen_of_row _ _ _ _ _ kq2
  have HS := hide_it (StepTo.of_lay (w := W.drew) (fun j hj => by have := HLT.out j hj; show j < W.heap.size; omega) (HC0.out.drew) HM.out hk)
  have HB2 := hide_it (HB.out.drew)
  clear hdoc hk kq2 kq1 k1
  go_wp2
  go_ret
  exact ⟨rfl, HS.out.pre HB2.out HLT.out⟩

set_option maxRecDepth 100000 in
set_option maxHeartbeats 4000000 in
theorem step5_any {w : World} {F : Nat → Prop} {q p : Nat} {v d : Value} {xs : List Lk} (h : Pr w F q p v d xs) (_hl : xs.length ≤ 3600000000000) (s : Stc) (_hs : -9223372036854775808 ≤ s.n ∧ s.n ≤ 9223372036854775807) :
    Calls Try.prog 16 #[.pointer (some ⟨q, 0, none⟩), .agg #[.int .i64 5, .int .i64 s.n, .string s.v, .bool s.d]] w fun e w' => e = .returned (.bool true) ∧ StepTo w F q p xs w' := by
  obtain ⟨W, hW, hb, hz, k0⟩ := step_box w 5 s.n s.v s.d
  have hP := h.below hb
  have hlt := h.lt
  have hbl : w.heap.size < W.heap.size := by omega
  have hq := hP.qlt
  have hqb : ¬ q = w.heap.size := by have := h.qlt; omega
  have hP0 : Pr W.drew F q p v d xs := hP.keep (fun _ _ => rfl) (Nat.le_refl _)
  have hlen := len_any hP0.hn
  have kq := hP.hq
  obtain ⟨a, cap, ev, _⟩ := own_row hP.od
  subst ev
  have HH := hide_it h
  have HB := hide_it hb
  have hee : ((xs.length : Int) == (xs.length : Int)) = true := by simp
  clear hP0 hP h
  go_enter Try.func16, Try.ntmps16
  go_wp2_with fail
  rw [← hW]
  clear hW
  refine wp_region_held_drew (S := (fun w' => w'.heap[q]? = W.heap[q]? ∧ w'.heap[w.heap.size]? = W.heap[w.heap.size]?)) (by kernel_rfl) ?_ (fun hHeld => ?_)
  · exact ⟨rfl, rfl⟩
  refine take_on (i := 0) (v := ?_) rfl rfl (by kernel_rfl) (by kernel_rfl) (by kernel_rfl) (fun _ _ _ h => h) rfl ?_ hHeld ?_
  rotate_left
  · (intro wq hSq; have xk := hSq.2.trans k0; have s0 := cell_of_row _ _ 0 _ _ _ xk; have s1 := cell_of_row _ _ 1 _ _ _ xk; have s2 := cell_of_row _ _ 2 _ _ _ xk; have s3 := cell_of_row _ _ 3 _ _ _ xk; have xq := hSq.1.trans kq; have r0 := cell_of_row _ _ 0 _ _ _ xq; have r1 := cell_of_row _ _ 1 _ _ _ xq; go_simp <;> first | with_reducible rfl | rfl)
  simp only [Act.put, List.setIfInBounds_toArray, List.set_cons_zero, List.set_cons_succ]
  refine take_on (i := 1) (v := ?_) rfl rfl (by kernel_rfl) (by kernel_rfl) (by kernel_rfl) (fun _ _ _ h => h) rfl ?_ hHeld ?_
  rotate_left
  · (intro wq hSq; have xk := hSq.2.trans k0; have s0 := cell_of_row _ _ 0 _ _ _ xk; have s1 := cell_of_row _ _ 1 _ _ _ xk; have s2 := cell_of_row _ _ 2 _ _ _ xk; have s3 := cell_of_row _ _ 3 _ _ _ xk; have xq := hSq.1.trans kq; have r0 := cell_of_row _ _ 0 _ _ _ xq; have r1 := cell_of_row _ _ 1 _ _ _ xq; go_simp <;> first | with_reducible rfl | rfl)
  simp only [Act.put, List.setIfInBounds_toArray, List.set_cons_zero, List.set_cons_succ]
  refine take_on (i := 2) (v := ?_) rfl rfl (by kernel_rfl) (by kernel_rfl) (by kernel_rfl) (fun _ _ _ h => h) rfl ?_ hHeld ?_
  rotate_left
  · (intro wq hSq; have xk := hSq.2.trans k0; have s0 := cell_of_row _ _ 0 _ _ _ xk; have s1 := cell_of_row _ _ 1 _ _ _ xk; have s2 := cell_of_row _ _ 2 _ _ _ xk; have s3 := cell_of_row _ _ 3 _ _ _ xk; have xq := hSq.1.trans kq; have r0 := cell_of_row _ _ 0 _ _ _ xq; have r1 := cell_of_row _ _ 1 _ _ _ xq; go_simp <;> first | with_reducible rfl | rfl)
  simp only [Act.put, List.setIfInBounds_toArray, List.set_cons_zero, List.set_cons_succ]
  refine take_on (i := 3) (v := ?_) rfl rfl (by kernel_rfl) (by kernel_rfl) (by kernel_rfl) (fun _ _ _ h => h) rfl ?_ hHeld ?_
  rotate_left
  · (intro wq hSq; have xk := hSq.2.trans k0; have s0 := cell_of_row _ _ 0 _ _ _ xk; have s1 := cell_of_row _ _ 1 _ _ _ xk; have s2 := cell_of_row _ _ 2 _ _ _ xk; have s3 := cell_of_row _ _ 3 _ _ _ xk; have xq := hSq.1.trans kq; have r0 := cell_of_row _ _ 0 _ _ _ xq; have r1 := cell_of_row _ _ 1 _ _ _ xq; go_simp <;> first | with_reducible rfl | rfl)
  simp only [Act.put, List.setIfInBounds_toArray, List.set_cons_zero, List.set_cons_succ]
  refine take_on (i := 5) (v := ?_) rfl rfl (by kernel_rfl) (by kernel_rfl) (by kernel_rfl) (fun _ _ _ h => h) rfl ?_ hHeld ?_
  rotate_left
  · (intro wq hSq; have xk := hSq.2.trans k0; have s0 := cell_of_row _ _ 0 _ _ _ xk; have s1 := cell_of_row _ _ 1 _ _ _ xk; have s2 := cell_of_row _ _ 2 _ _ _ xk; have s3 := cell_of_row _ _ 3 _ _ _ xk; have xq := hSq.1.trans kq; have r0 := cell_of_row _ _ 0 _ _ _ xq; have r1 := cell_of_row _ _ 1 _ _ _ xq; go_simp <;> first | with_reducible rfl | rfl)
  simp only [Act.put, List.setIfInBounds_toArray, List.set_cons_zero, List.set_cons_succ]
  refine take_on (i := 6) (v := ?_) rfl rfl (by kernel_rfl) (by kernel_rfl) (by kernel_rfl) (fun _ _ _ h => h) rfl ?_ hHeld ?_
  rotate_left
  · (intro wq hSq; have xk := hSq.2.trans k0; have s0 := cell_of_row _ _ 0 _ _ _ xk; have s1 := cell_of_row _ _ 1 _ _ _ xk; have s2 := cell_of_row _ _ 2 _ _ _ xk; have s3 := cell_of_row _ _ 3 _ _ _ xk; have xq := hSq.1.trans kq; have r0 := cell_of_row _ _ 0 _ _ _ xq; have r1 := cell_of_row _ _ 1 _ _ _ xq; go_simp <;> first | with_reducible rfl | rfl)
  simp only [Act.put, List.setIfInBounds_toArray, List.set_cons_zero, List.set_cons_succ]
  refine take_on (i := 7) (v := ?_) rfl rfl (by kernel_rfl) (by kernel_rfl) (by kernel_rfl) (fun _ _ _ h => h) rfl ?_ hHeld ?_
  rotate_left
  · (intro wq hSq; have xk := hSq.2.trans k0; have s0 := cell_of_row _ _ 0 _ _ _ xk; have s1 := cell_of_row _ _ 1 _ _ _ xk; have s2 := cell_of_row _ _ 2 _ _ _ xk; have s3 := cell_of_row _ _ 3 _ _ _ xk; have xq := hSq.1.trans kq; have r0 := cell_of_row _ _ 0 _ _ _ xq; have r1 := cell_of_row _ _ 1 _ _ _ xq; go_simp <;> first | with_reducible rfl | rfl)
  simp only [Act.put, List.setIfInBounds_toArray, List.set_cons_zero, List.set_cons_succ]
  refine take_on (i := 8) (v := ?_) rfl rfl (by kernel_rfl) (by kernel_rfl) (by kernel_rfl) (fun _ _ _ h => h) rfl ?_ hHeld ?_
  rotate_left
  · (intro wq hSq; have xk := hSq.2.trans k0; have s0 := cell_of_row _ _ 0 _ _ _ xk; have s1 := cell_of_row _ _ 1 _ _ _ xk; have s2 := cell_of_row _ _ 2 _ _ _ xk; have s3 := cell_of_row _ _ 3 _ _ _ xk; have xq := hSq.1.trans kq; have r0 := cell_of_row _ _ 0 _ _ _ xq; have r1 := cell_of_row _ _ 1 _ _ _ xq; go_simp <;> first | with_reducible rfl | rfl)
  simp only [Act.put, List.setIfInBounds_toArray, List.set_cons_zero, List.set_cons_succ]
  refine take_on (i := 9) (v := ?_) rfl rfl (by kernel_rfl) (by kernel_rfl) (by kernel_rfl) (fun _ _ _ h => h) rfl ?_ hHeld ?_
  rotate_left
  · (intro wq hSq; have xk := hSq.2.trans k0; have s0 := cell_of_row _ _ 0 _ _ _ xk; have s1 := cell_of_row _ _ 1 _ _ _ xk; have s2 := cell_of_row _ _ 2 _ _ _ xk; have s3 := cell_of_row _ _ 3 _ _ _ xk; have xq := hSq.1.trans kq; have r0 := cell_of_row _ _ 0 _ _ _ xq; have r1 := cell_of_row _ _ 1 _ _ _ xq; go_simp <;> first | with_reducible rfl | rfl)
  simp only [Act.put, List.setIfInBounds_toArray, List.set_cons_zero, List.set_cons_succ]
  refine take_one (i := 4) rfl (by kernel_rfl) (fun K hK => ?_)
  go_simp
  (refine hlen.mono ?_; rintro e z1 ⟨rfl, rfl⟩)
  try go_wp2_with fail
  refine hK.out _ _ ?_ (fun hHeld => ?_)
  · exact ⟨rfl, rfl⟩
  clear hK K
  try simp only [Act.put, List.setIfInBounds_toArray, List.set_cons_zero, List.set_cons_succ]
  refine take_on (i := 10) (v := ?_) rfl rfl (by kernel_rfl) (by kernel_rfl) (by kernel_rfl) (fun _ _ _ h => h) rfl ?_ hHeld ?_
  rotate_left
  · (intro wq hSq; have xk := hSq.2.trans k0; have s0 := cell_of_row _ _ 0 _ _ _ xk; have s1 := cell_of_row _ _ 1 _ _ _ xk; have s2 := cell_of_row _ _ 2 _ _ _ xk; have s3 := cell_of_row _ _ 3 _ _ _ xk; have xq := hSq.1.trans kq; have r0 := cell_of_row _ _ 0 _ _ _ xq; have r1 := cell_of_row _ _ 1 _ _ _ xq; go_simp <;> first | with_reducible rfl | rfl)
  simp only [Act.put, List.setIfInBounds_toArray, List.set_cons_zero, List.set_cons_succ]
  refine take_on (i := 11) (v := ?_) rfl rfl (by kernel_rfl) (by kernel_rfl) (by kernel_rfl) (fun _ _ _ h => h) rfl ?_ hHeld ?_
  rotate_left
  · (intro wq hSq; have xk := hSq.2.trans k0; have s0 := cell_of_row _ _ 0 _ _ _ xk; have s1 := cell_of_row _ _ 1 _ _ _ xk; have s2 := cell_of_row _ _ 2 _ _ _ xk; have s3 := cell_of_row _ _ 3 _ _ _ xk; have xq := hSq.1.trans kq; have r0 := cell_of_row _ _ 0 _ _ _ xq; have r1 := cell_of_row _ _ 1 _ _ _ xq; go_simp <;> first | with_reducible rfl | rfl)
  simp only [Act.put, List.setIfInBounds_toArray, List.set_cons_zero, List.set_cons_succ]
  refine wpAnyH_done (by kernel_rfl) ?_ _
  go_wp2
  go_ret
  exact ⟨rfl, StepTo.same HH.out HB.out.drew⟩

set_option maxRecDepth 100000 in
set_option maxHeartbeats 4000000 in
theorem step6_any {w : World} {F : Nat → Prop} {q p : Nat} {v d : Value} {xs : List Lk} (h : Pr w F q p v d xs) (hl : xs.length ≤ 3600000000000) (s : Stc) (hs : -9223372036854775808 ≤ s.n ∧ s.n ≤ 9223372036854775807) :
    Calls Try.prog 16 #[.pointer (some ⟨q, 0, none⟩), .agg #[.int .i64 6, .int .i64 s.n, .string s.v, .bool s.d]] w fun e w' => e = .returned (.bool true) ∧ StepTo w F q p xs w' := by
  obtain ⟨W, hW, hb, hz, k0⟩ := step_box w 6 s.n s.v s.d
  have hP := h.below hb
  have hlt := h.lt
  have hbl : w.heap.size < W.heap.size := by omega
  have hq := hP.qlt
  have hqb : ¬ q = w.heap.size := by have := h.qlt; omega
  have kq := hP.hq
  have hwk : ∀ z, Below W.heap.size W z → Calls Try.prog 6 #[.pointer (some ⟨p, 0, none⟩), .int .i64 s.n] z fun e w' => (∃ a' c', e = .returned (.slice a' (walkL xs s.n).length c') ∧ RowL w' a' (walkL xs s.n) ∧ (walkL xs s.n).length ≤ c') ∧ Below z.heap.size z w' := fun z hz2 =>
    (walk_any (hP.below hz2).hn hl s.n hs).mono fun e w' ⟨⟨v', h1, h2⟩, h3⟩ => by
      obtain ⟨a', c', ev, hr, hn, _⟩ := own_row h2
      exact ⟨⟨a', c', by rw [h1, ev], hr, hn⟩, h3⟩
  have hra : ∀ z, Below W.heap.size W z → Calls Try.prog 33 #[d, .int .i64 s.n] z fun e w' => (∃ a' c', e = .returned (.slice a' (walkL xs s.n).length c') ∧ RowL w' a' (walkL xs s.n) ∧ (walkL xs s.n).length ≤ c') ∧ Below z.heap.size z w' := fun z hz2 =>
    (rall_any (hP.below hz2).od (by omega) s.n).mono fun e w' ⟨⟨v', h1, h2⟩, h3⟩ => by
      obtain ⟨a', c', ev, hr, hn, _⟩ := own_row h2
      exact ⟨⟨a', c', by rw [h1, ev], hr, hn⟩, h3⟩
  have hsm := fun z a b ca cb ha hb => allAlike_same (w := z) (a := a) (b := b) (ca := ca) (cb := cb) (xs := walkL xs s.n) ha hb (by have := walkL_len xs s.n; omega)
  obtain ⟨L, hL⟩ : ∃ L, L = walkL xs s.n := ⟨_, rfl⟩
  rw [← hL] at hwk hra hsm
  obtain ⟨a, cap, ev, _⟩ := own_row hP.od
  subst ev
  have HH := hide_it h
  have HB := hide_it hb
  have hy0 := (Below.refl W.heap.size W).drew
  clear hP h hL
  go_enter Try.func16, Try.ntmps16
  go_wp2_with fail
  rw [← hW]
  clear hW
  refine wp_region_held_drew (S := (fun w' => w'.heap[q]? = W.heap[q]? ∧ w'.heap[w.heap.size]? = W.heap[w.heap.size]?)) (by kernel_rfl) ?_ (fun hHeld => ?_)
  · exact ⟨rfl, rfl⟩
  refine take_on (i := 0) (v := ?_) rfl rfl (by kernel_rfl) (by kernel_rfl) (by kernel_rfl) (fun _ _ _ h => h) rfl ?_ hHeld ?_
  rotate_left
  · (intro wq hSq; have xk := hSq.2.trans k0; have s0 := cell_of_row _ _ 0 _ _ _ xk; have s1 := cell_of_row _ _ 1 _ _ _ xk; have s2 := cell_of_row _ _ 2 _ _ _ xk; have s3 := cell_of_row _ _ 3 _ _ _ xk; have xq := hSq.1.trans kq; have r0 := cell_of_row _ _ 0 _ _ _ xq; have r1 := cell_of_row _ _ 1 _ _ _ xq; go_simp <;> first | with_reducible rfl | rfl)
  simp only [Act.put, List.setIfInBounds_toArray, List.set_cons_zero, List.set_cons_succ]
  refine take_on (i := 1) (v := ?_) rfl rfl (by kernel_rfl) (by kernel_rfl) (by kernel_rfl) (fun _ _ _ h => h) rfl ?_ hHeld ?_
  rotate_left
  · (intro wq hSq; have xk := hSq.2.trans k0; have s0 := cell_of_row _ _ 0 _ _ _ xk; have s1 := cell_of_row _ _ 1 _ _ _ xk; have s2 := cell_of_row _ _ 2 _ _ _ xk; have s3 := cell_of_row _ _ 3 _ _ _ xk; have xq := hSq.1.trans kq; have r0 := cell_of_row _ _ 0 _ _ _ xq; have r1 := cell_of_row _ _ 1 _ _ _ xq; go_simp <;> first | with_reducible rfl | rfl)
  simp only [Act.put, List.setIfInBounds_toArray, List.set_cons_zero, List.set_cons_succ]
  refine take_on (i := 2) (v := ?_) rfl rfl (by kernel_rfl) (by kernel_rfl) (by kernel_rfl) (fun _ _ _ h => h) rfl ?_ hHeld ?_
  rotate_left
  · (intro wq hSq; have xk := hSq.2.trans k0; have s0 := cell_of_row _ _ 0 _ _ _ xk; have s1 := cell_of_row _ _ 1 _ _ _ xk; have s2 := cell_of_row _ _ 2 _ _ _ xk; have s3 := cell_of_row _ _ 3 _ _ _ xk; have xq := hSq.1.trans kq; have r0 := cell_of_row _ _ 0 _ _ _ xq; have r1 := cell_of_row _ _ 1 _ _ _ xq; go_simp <;> first | with_reducible rfl | rfl)
  simp only [Act.put, List.setIfInBounds_toArray, List.set_cons_zero, List.set_cons_succ]
  refine take_on (i := 3) (v := ?_) rfl rfl (by kernel_rfl) (by kernel_rfl) (by kernel_rfl) (fun _ _ _ h => h) rfl ?_ hHeld ?_
  rotate_left
  · (intro wq hSq; have xk := hSq.2.trans k0; have s0 := cell_of_row _ _ 0 _ _ _ xk; have s1 := cell_of_row _ _ 1 _ _ _ xk; have s2 := cell_of_row _ _ 2 _ _ _ xk; have s3 := cell_of_row _ _ 3 _ _ _ xk; have xq := hSq.1.trans kq; have r0 := cell_of_row _ _ 0 _ _ _ xq; have r1 := cell_of_row _ _ 1 _ _ _ xq; go_simp <;> first | with_reducible rfl | rfl)
  simp only [Act.put, List.setIfInBounds_toArray, List.set_cons_zero, List.set_cons_succ]
  refine take_on (i := 4) (v := ?_) rfl rfl (by kernel_rfl) (by kernel_rfl) (by kernel_rfl) (fun _ _ _ h => h) rfl ?_ hHeld ?_
  rotate_left
  · (intro wq hSq; have xk := hSq.2.trans k0; have s0 := cell_of_row _ _ 0 _ _ _ xk; have s1 := cell_of_row _ _ 1 _ _ _ xk; have s2 := cell_of_row _ _ 2 _ _ _ xk; have s3 := cell_of_row _ _ 3 _ _ _ xk; have xq := hSq.1.trans kq; have r0 := cell_of_row _ _ 0 _ _ _ xq; have r1 := cell_of_row _ _ 1 _ _ _ xq; go_simp <;> first | with_reducible rfl | rfl)
  simp only [Act.put, List.setIfInBounds_toArray, List.set_cons_zero, List.set_cons_succ]
  refine take_on (i := 5) (v := ?_) rfl rfl (by kernel_rfl) (by kernel_rfl) (by kernel_rfl) (fun _ _ _ h => h) rfl ?_ hHeld ?_
  rotate_left
  · (intro wq hSq; have xk := hSq.2.trans k0; have s0 := cell_of_row _ _ 0 _ _ _ xk; have s1 := cell_of_row _ _ 1 _ _ _ xk; have s2 := cell_of_row _ _ 2 _ _ _ xk; have s3 := cell_of_row _ _ 3 _ _ _ xk; have xq := hSq.1.trans kq; have r0 := cell_of_row _ _ 0 _ _ _ xq; have r1 := cell_of_row _ _ 1 _ _ _ xq; go_simp <;> first | with_reducible rfl | rfl)
  simp only [Act.put, List.setIfInBounds_toArray, List.set_cons_zero, List.set_cons_succ]
  refine take_on (i := 7) (v := ?_) rfl rfl (by kernel_rfl) (by kernel_rfl) (by kernel_rfl) (fun _ _ _ h => h) rfl ?_ hHeld ?_
  rotate_left
  · (intro wq hSq; have xk := hSq.2.trans k0; have s0 := cell_of_row _ _ 0 _ _ _ xk; have s1 := cell_of_row _ _ 1 _ _ _ xk; have s2 := cell_of_row _ _ 2 _ _ _ xk; have s3 := cell_of_row _ _ 3 _ _ _ xk; have xq := hSq.1.trans kq; have r0 := cell_of_row _ _ 0 _ _ _ xq; have r1 := cell_of_row _ _ 1 _ _ _ xq; go_simp <;> first | with_reducible rfl | rfl)
  simp only [Act.put, List.setIfInBounds_toArray, List.set_cons_zero, List.set_cons_succ]
  refine take_on (i := 8) (v := ?_) rfl rfl (by kernel_rfl) (by kernel_rfl) (by kernel_rfl) (fun _ _ _ h => h) rfl ?_ hHeld ?_
  rotate_left
  · (intro wq hSq; have xk := hSq.2.trans k0; have s0 := cell_of_row _ _ 0 _ _ _ xk; have s1 := cell_of_row _ _ 1 _ _ _ xk; have s2 := cell_of_row _ _ 2 _ _ _ xk; have s3 := cell_of_row _ _ 3 _ _ _ xk; have xq := hSq.1.trans kq; have r0 := cell_of_row _ _ 0 _ _ _ xq; have r1 := cell_of_row _ _ 1 _ _ _ xq; go_simp <;> first | with_reducible rfl | rfl)
  simp only [Act.put, List.setIfInBounds_toArray, List.set_cons_zero, List.set_cons_succ]
  refine take_on (i := 9) (v := ?_) rfl rfl (by kernel_rfl) (by kernel_rfl) (by kernel_rfl) (fun _ _ _ h => h) rfl ?_ hHeld ?_
  rotate_left
  · (intro wq hSq; have xk := hSq.2.trans k0; have s0 := cell_of_row _ _ 0 _ _ _ xk; have s1 := cell_of_row _ _ 1 _ _ _ xk; have s2 := cell_of_row _ _ 2 _ _ _ xk; have s3 := cell_of_row _ _ 3 _ _ _ xk; have xq := hSq.1.trans kq; have r0 := cell_of_row _ _ 0 _ _ _ xq; have r1 := cell_of_row _ _ 1 _ _ _ xq; go_simp <;> first | with_reducible rfl | rfl)
  simp only [Act.put, List.setIfInBounds_toArray, List.set_cons_zero, List.set_cons_succ]
  refine take_on (i := 10) (v := ?_) rfl rfl (by kernel_rfl) (by kernel_rfl) (by kernel_rfl) (fun _ _ _ h => h) rfl ?_ hHeld ?_
  rotate_left
  · (intro wq hSq; have xk := hSq.2.trans k0; have s0 := cell_of_row _ _ 0 _ _ _ xk; have s1 := cell_of_row _ _ 1 _ _ _ xk; have s2 := cell_of_row _ _ 2 _ _ _ xk; have s3 := cell_of_row _ _ 3 _ _ _ xk; have xq := hSq.1.trans kq; have r0 := cell_of_row _ _ 0 _ _ _ xq; have r1 := cell_of_row _ _ 1 _ _ _ xq; go_simp <;> first | with_reducible rfl | rfl)
  simp only [Act.put, List.setIfInBounds_toArray, List.set_cons_zero, List.set_cons_succ]
  refine take_on (i := 11) (v := ?_) rfl rfl (by kernel_rfl) (by kernel_rfl) (by kernel_rfl) (fun _ _ _ h => h) rfl ?_ hHeld ?_
  rotate_left
  · (intro wq hSq; have xk := hSq.2.trans k0; have s0 := cell_of_row _ _ 0 _ _ _ xk; have s1 := cell_of_row _ _ 1 _ _ _ xk; have s2 := cell_of_row _ _ 2 _ _ _ xk; have s3 := cell_of_row _ _ 3 _ _ _ xk; have xq := hSq.1.trans kq; have r0 := cell_of_row _ _ 0 _ _ _ xq; have r1 := cell_of_row _ _ 1 _ _ _ xq; go_simp <;> first | with_reducible rfl | rfl)
  simp only [Act.put, List.setIfInBounds_toArray, List.set_cons_zero, List.set_cons_succ]
  refine take_on (i := 12) (v := ?_) rfl rfl (by kernel_rfl) (by kernel_rfl) (by kernel_rfl) (fun _ _ _ h => h) rfl ?_ hHeld ?_
  rotate_left
  · (intro wq hSq; have xk := hSq.2.trans k0; have s0 := cell_of_row _ _ 0 _ _ _ xk; have s1 := cell_of_row _ _ 1 _ _ _ xk; have s2 := cell_of_row _ _ 2 _ _ _ xk; have s3 := cell_of_row _ _ 3 _ _ _ xk; have xq := hSq.1.trans kq; have r0 := cell_of_row _ _ 0 _ _ _ xq; have r1 := cell_of_row _ _ 1 _ _ _ xq; go_simp <;> first | with_reducible rfl | rfl)
  simp only [Act.put, List.setIfInBounds_toArray, List.set_cons_zero, List.set_cons_succ]
  refine take_one (i := 6) rfl (by kernel_rfl) (fun K hK => ?_)
  go_simp
  (refine (hwk _ hy0).mono ?_; rintro e z1 ⟨⟨a1, c1, rfl, hr1, hn1⟩, hz1⟩; have hy1 := hy0.trans (hz1.mono hy0.size))
  try go_wp2_with fail
  refine hK.out _ _ ?_ (fun hHeld => ?_)
  · exact ⟨hy1.block q hq, hy1.block w.heap.size hbl⟩
  clear hK K
  try simp only [Act.put, List.setIfInBounds_toArray, List.set_cons_zero, List.set_cons_succ]
  refine take_one (i := 13) rfl (by kernel_rfl) (fun K hK => ?_)
  go_simp
  (refine (hra z1 hy1).mono ?_; rintro e z2 ⟨⟨a2, c2, rfl, hr2, hn2⟩, hz2⟩; have hy2 := hy1.trans (hz2.mono hy1.size))
  try go_wp2_with fail
  refine hK.out _ _ ?_ (fun hHeld => ?_)
  · exact ⟨hy2.block q hq, hy2.block w.heap.size hbl⟩
  clear hK K
  try simp only [Act.put, List.setIfInBounds_toArray, List.set_cons_zero, List.set_cons_succ]
  refine take_one (i := 14) rfl (by kernel_rfl) (fun K hK => ?_)
  go_simp
  (refine (hsm z2 a1 a2 c1 c2 (hr1.below hz2) hr2).mono ?_; rintro e z3 ⟨rfl, hz3⟩; have hy3 := hy2.trans (hz3.mono hy2.size))
  try go_wp2_with fail
  refine hK.out _ _ ?_ (fun hHeld => ?_)
  · exact ⟨hy3.block q hq, hy3.block w.heap.size hbl⟩
  clear hK K
  try simp only [Act.put, List.setIfInBounds_toArray, List.set_cons_zero, List.set_cons_succ]
  refine take_on (i := 15) (v := ?_) rfl rfl (by kernel_rfl) (by kernel_rfl) (by kernel_rfl) (fun _ _ _ h => h) rfl ?_ hHeld ?_
  rotate_left
  · (intro wq hSq; have xk := hSq.2.trans k0; have s0 := cell_of_row _ _ 0 _ _ _ xk; have s1 := cell_of_row _ _ 1 _ _ _ xk; have s2 := cell_of_row _ _ 2 _ _ _ xk; have s3 := cell_of_row _ _ 3 _ _ _ xk; have xq := hSq.1.trans kq; have r0 := cell_of_row _ _ 0 _ _ _ xq; have r1 := cell_of_row _ _ 1 _ _ _ xq; go_simp <;> first | with_reducible rfl | rfl)
  simp only [Act.put, List.setIfInBounds_toArray, List.set_cons_zero, List.set_cons_succ]
  refine wpAnyH_done (by kernel_rfl) ?_ _
  have HY := hide_it (HB.out.trans (hy3.mono HB.out.size))
  clear hy0 hy1 hy2 hy3 hz1 hz2 hz3 hr1 hr2 hn1 hn2 hwk hra hsm
  go_wp2
  go_ret
  exact ⟨rfl, StepTo.same HH.out HY.out⟩

end Go.Proofs.Ytncmnhomloanaab

/- A queue of lists: grow, Push. -/
import Derived.Test.YtomfhbngpikjeabQu3L
namespace Go.Proofs.Ytomfhbngpikjeab
open Go.RowKit

theorem QrL.slice {w : World} {b g most R f : Nat} {xs : List (Option Addr × Nat × Nat)} (h : QrL w b g most R f xs) : ∃ a, w.heap[b]? = some (.cells #[.int .i64 (most : Int), .int .i64 (f : Int), .int .i64 (xs.length : Int), .slice a R R] 64 (0, 0)) := by
  obtain ⟨v, hb, ⟨rfl, _, _, rfl, _⟩ | ⟨cur, rfl, _⟩⟩ := h.blk
  · exact ⟨_, hb⟩
  · exact ⟨_, hb⟩

theorem growL_end (b g most R f m : Nat) (xs : List (Option Addr × Nat × Nat)) (w w1 : World) (h : QrL w b g most R f xs) (hl : w1.heap[w.heap.size]? = some (.cells (xs.map encL ++ List.replicate (m - xs.length) (.slice none 0 0 : Value)).toArray 36 (0, 0)))
    (hB : Below w.heap.size w w1) (hx : xs.length = R) (hm1 : R < m) (hm2 : m ≤ most) :
    QrL ((w1.setCell ⟨b, 3, none⟩ (.slice (some ⟨w.heap.size, 0, none⟩) m m)).setCell ⟨b, 1, none⟩ (.int .i64 0)) b w.heap.size most m 0 xs ∧ Only b g w ((w1.setCell ⟨b, 3, none⟩ (.slice (some ⟨w.heap.size, 0, none⟩) m m)).setCell ⟨b, 1, none⟩ (.int .i64 0)) := by
  obtain ⟨hbl, hgl⟩ := h.lt
  obtain ⟨a, hblk⟩ := h.slice
  have hb1 := (hB.block b hbl).trans hblk
  have hb2 := heap_setCell_same _ b 3 _ _ (.slice (some ⟨w.heap.size, 0, none⟩) m m) hb1
  have hb3 := heap_setCell_same _ b 1 _ _ (.int .i64 0) hb2
  refine ⟨⟨⟨_, hb3, .inr ⟨xs.map encL ++ List.replicate (m - xs.length) (.slice none 0 0 : Value), rfl, by omega, by simp; omega, ?_, Laid.fresh _ _ (by simp; omega)⟩⟩, hm2, h.most_le⟩, ((Only.of_below hB).setB _ _).setB _ _⟩
  rw [Below.heap_setCell _ _ _ _ (by simp; omega), Below.heap_setCell _ _ _ _ (by simp; omega)]
  exact hl

set_option maxRecDepth 100000 in
set_option maxHeartbeats 1000000 in
theorem growL_any (b g most R f : Nat) (xs : List (Option Addr × Nat × Nat)) (w : World) (h : QrL w b g most R f xs) (hx : xs.length = R) (hR : R < most) :
    Calls Try.prog 22 #[.pointer (some ⟨b, 0, none⟩)] w fun e w' => e = .returned (.tuple #[]) ∧ QrL w' b w.heap.size most (min (2 * R + 1) most) 0 xs ∧ Only b g w w' := by
  have hmm := h.most_le
  obtain ⟨m, hm⟩ : ∃ m, m = min (2 * R + 1) most := ⟨_, rfl⟩
  have hm1 : R < m := by omega
  have hm2 : m ≤ most := by omega
  have hli : Calls Try.prog 29 #[.pointer (some ⟨b, 0, none⟩), .int .i64 (m : Int)] w.drew fun e w' => e = .returned (.slice (some ⟨w.heap.size, 0, none⟩) m m) ∧
      w'.heap[w.heap.size]? = some (.cells (xs.map encL ++ List.replicate (m - xs.length) (.slice none 0 0 : Value)).toArray 36 (0, 0)) ∧ Below w.heap.size w w' :=
    (lineL_any b g most R f m xs w.drew (h.keep rfl rfl) (by omega) (by omega)).mono fun e w' ⟨h1, h2, h3⟩ => ⟨h1, h2, (Below.refl _ _).drew.trans h3⟩
  obtain ⟨hbl, hgl⟩ := h.lt
  obtain ⟨a, hblk⟩ := h.slice
  have c0 : w.cell? ⟨b, 0, none⟩ = some (.int .i64 (most : Int)) := cell_of_row _ _ _ _ _ _ hblk
  have c3 : w.cell? ⟨b, 3, none⟩ = some (.slice a R R) := cell_of_row _ _ _ _ _ _ hblk
  have e1 : IntKind.i64.wrap (2 * (R : Int)) = 2 * (R : Int) := i64_in (by omega) (by omega)
  have e2 : IntKind.i64.wrap (2 * (R : Int) + 1) = 2 * (R : Int) + 1 := i64_in (by omega) (by omega)
  have e3 : (if (most : Int) < 2 * (R : Int) + 1 then (most : Int) else 2 * (R : Int) + 1) = (m : Int) := by
    split <;> omega
  rw [← hm]
  have H := hide_it h
  have HM := hide_it hm
  have HX := hide_it hx
  have HBK := hide_it hblk
  clear h hm hx hblk
  go_enter Try.func22, Try.ntmps22
  go_wp2_with fail
  refine wp_region_held_drew (S := (fun _ => True)) (by kernel_rfl) ?_ (fun hHeld => ?_)
  · trivial
  refine take_on (i := 0) (v := ?_) rfl rfl (by kernel_rfl) (by kernel_rfl) (by kernel_rfl) (fun _ _ _ h => h) rfl ?_ hHeld ?_
  rotate_left
  · (intro wq hSq; skip; go_simp <;> first | with_reducible rfl | rfl)
  simp only [Act.put, List.setIfInBounds_toArray, List.set_cons_zero, List.set_cons_succ]
  refine take_on (i := 1) (v := ?_) rfl rfl (by kernel_rfl) (by kernel_rfl) (by kernel_rfl) (fun _ _ _ h => h) rfl ?_ hHeld ?_
  rotate_left
  · (intro wq hSq; skip; go_simp <;> first | with_reducible rfl | rfl)
  simp only [Act.put, List.setIfInBounds_toArray, List.set_cons_zero, List.set_cons_succ]
  refine take_on (i := 2) (v := ?_) rfl rfl (by kernel_rfl) (by kernel_rfl) (by kernel_rfl) (fun _ _ _ h => h) rfl ?_ hHeld ?_
  rotate_left
  · (intro wq hSq; skip; go_simp <;> first | with_reducible rfl | rfl)
  simp only [Act.put, List.setIfInBounds_toArray, List.set_cons_zero, List.set_cons_succ]
  refine take_on (i := 3) (v := ?_) rfl rfl (by kernel_rfl) (by kernel_rfl) (by kernel_rfl) (fun _ _ _ h => h) rfl ?_ hHeld ?_
  rotate_left
  · (intro wq hSq; skip; go_simp <;> first | with_reducible rfl | rfl)
  simp only [Act.put, List.setIfInBounds_toArray, List.set_cons_zero, List.set_cons_succ]
  refine take_on (i := 4) (v := ?_) rfl rfl (by kernel_rfl) (by kernel_rfl) (by kernel_rfl) (fun _ _ _ h => h) rfl ?_ hHeld ?_
  rotate_left
  · (intro wq hSq; skip; go_simp <;> first | with_reducible rfl | rfl)
  simp only [Act.put, List.setIfInBounds_toArray, List.set_cons_zero, List.set_cons_succ]
  refine take_on (i := 9) (v := ?_) rfl rfl (by kernel_rfl) (by kernel_rfl) (by kernel_rfl) (fun _ _ _ h => h) rfl ?_ hHeld ?_
  rotate_left
  · (intro wq hSq; skip; go_simp <;> first | with_reducible rfl | rfl)
  simp only [Act.put, List.setIfInBounds_toArray, List.set_cons_zero, List.set_cons_succ]
  refine take_on (i := 10) (v := ?_) rfl rfl (by kernel_rfl) (by kernel_rfl) (by kernel_rfl) (fun _ _ _ h => h) rfl ?_ hHeld ?_
  rotate_left
  · (intro wq hSq; skip; go_simp <;> first | with_reducible rfl | rfl)
  simp only [Act.put, List.setIfInBounds_toArray, List.set_cons_zero, List.set_cons_succ]
  refine take_on (i := 11) (v := ?_) rfl rfl (by kernel_rfl) (by kernel_rfl) (by kernel_rfl) (fun _ _ _ h => h) rfl ?_ hHeld ?_
  rotate_left
  · (intro wq hSq; skip; go_simp <;> first | with_reducible rfl | rfl)
  simp only [Act.put, List.setIfInBounds_toArray, List.set_cons_zero, List.set_cons_succ]
  refine take_two (i := 5) (j := 12) rfl rfl (by kernel_rfl) (fun K hK => ?_) (fun K hK => ?_)
  · go_simp
    skip
    try go_wp2_with fail
    refine hK.out _ _ ?_ (fun hHeld => ?_)
    · trivial
    clear hK K
    try simp only [Act.put, List.setIfInBounds_toArray, List.set_cons_zero, List.set_cons_succ]
    refine take_on (i := 6) (v := ?_) rfl rfl (by kernel_rfl) (by kernel_rfl) (by kernel_rfl) (fun _ _ _ h => h) rfl ?_ hHeld ?_
    rotate_left
    · (intro wq hSq; skip; go_simp <;> first | with_reducible rfl | rfl)
    simp only [Act.put, List.setIfInBounds_toArray, List.set_cons_zero, List.set_cons_succ]
    refine take_on (i := 7) (v := ?_) rfl rfl (by kernel_rfl) (by kernel_rfl) (by kernel_rfl) (fun _ _ _ h => h) rfl ?_ hHeld ?_
    rotate_left
    · (intro wq hSq; skip; go_simp <;> first | with_reducible rfl | rfl)
    simp only [Act.put, List.setIfInBounds_toArray, List.set_cons_zero, List.set_cons_succ]
    refine take_on (i := 8) (v := ?_) rfl rfl (by kernel_rfl) (by kernel_rfl) (by kernel_rfl) (fun _ _ _ h => h) rfl ?_ hHeld ?_
    rotate_left
    · (intro wq hSq; skip; go_simp <;> first | with_reducible rfl | rfl)
    simp only [Act.put, List.setIfInBounds_toArray, List.set_cons_zero, List.set_cons_succ]
    refine take_one (i := 12) rfl (by kernel_rfl) (fun K hK => ?_)
    go_simp
    skip
    try go_wp2_with fail
    refine hK.out _ _ ?_ (fun hHeld => ?_)
    · trivial
    clear hK K
    try simp only [Act.put, List.setIfInBounds_toArray, List.set_cons_zero, List.set_cons_succ]
    refine take_on (i := 13) (v := ?_) rfl rfl (by kernel_rfl) (by kernel_rfl) (by kernel_rfl) (fun _ _ _ h => h) rfl ?_ hHeld ?_
    rotate_left
    · (intro wq hSq; skip; go_simp <;> first | with_reducible rfl | rfl)
    simp only [Act.put, List.setIfInBounds_toArray, List.set_cons_zero, List.set_cons_succ]
    refine take_one (i := 14) rfl (by kernel_rfl) (fun K hK => ?_)
    go_simp
    refine hli.mono ?_; rintro e w1 ⟨rfl, hl1, hB1⟩; have hb1 := (hB1.block b hbl).trans HBK.out; have d3 := cell_of_row w1 b 3 _ _ _ hb1; have f3 := frozen_of_row w1 b 3 _ _ hb1; have d1 := cell_of_row w1 b 1 _ _ _ hb1; have f1 := frozen_of_row w1 b 1 _ _ hb1; simp at d3 d1; have HB1 := hide_it hb1; clear hb1
    try go_wp2_with fail
    refine hK.out _ _ ?_ (fun hHeld => ?_)
    · trivial
    clear hK K
    try simp only [Act.put, List.setIfInBounds_toArray, List.set_cons_zero, List.set_cons_succ]
    refine take_on (i := 15) (v := ?_) rfl rfl (by kernel_rfl) (by kernel_rfl) (by kernel_rfl) (fun _ _ _ h => h) rfl ?_ hHeld ?_
    rotate_left
    · (intro wq hSq; skip; go_simp <;> first | with_reducible rfl | rfl)
    simp only [Act.put, List.setIfInBounds_toArray, List.set_cons_zero, List.set_cons_succ]
    refine take_on (i := 16) (v := ?_) rfl rfl (by kernel_rfl) (by kernel_rfl) (by kernel_rfl) (fun _ _ _ h => h) rfl ?_ hHeld ?_
    rotate_left
    · (intro wq hSq; skip; go_simp <;> first | with_reducible rfl | rfl)
    simp only [Act.put, List.setIfInBounds_toArray, List.set_cons_zero, List.set_cons_succ]
    refine take_one (i := 17) rfl (by kernel_rfl) (fun K hK => ?_)
    go_simp
    skip
    try go_wp2_with fail
    refine hK.out _ _ ?_ (fun hHeld => ?_)
    · trivial
    clear hK K
    try simp only [Act.put, List.setIfInBounds_toArray, List.set_cons_zero, List.set_cons_succ]
    refine wpAnyH_done (by kernel_rfl) ?_ _
    go_wp2
    obtain ⟨z1, z2⟩ := growL_end b g most R f m xs w w1 H.out hl1 hB1 HX.out hm1 hm2
    go_end0
    exact ⟨rfl, z1, z2⟩
  · go_simp
    skip
    try go_wp2_with fail
    refine hK.out _ _ ?_ (fun hHeld => ?_)
    · trivial
    clear hK K
    try simp only [Act.put, List.setIfInBounds_toArray, List.set_cons_zero, List.set_cons_succ]
    refine take_one (i := 5) rfl (by kernel_rfl) (fun K hK => ?_)
    go_simp
    skip
    try go_wp2_with fail
    refine hK.out _ _ ?_ (fun hHeld => ?_)
    · trivial
    clear hK K
    try simp only [Act.put, List.setIfInBounds_toArray, List.set_cons_zero, List.set_cons_succ]
    refine take_on (i := 6) (v := ?_) rfl rfl (by kernel_rfl) (by kernel_rfl) (by kernel_rfl) (fun _ _ _ h => h) rfl ?_ hHeld ?_
    rotate_left
    · (intro wq hSq; skip; go_simp <;> first | with_reducible rfl | rfl)
    simp only [Act.put, List.setIfInBounds_toArray, List.set_cons_zero, List.set_cons_succ]
    refine take_on (i := 7) (v := ?_) rfl rfl (by kernel_rfl) (by kernel_rfl) (by kernel_rfl) (fun _ _ _ h => h) rfl ?_ hHeld ?_
    rotate_left
    · (intro wq hSq; skip; go_simp <;> first | with_reducible rfl | rfl)
    simp only [Act.put, List.setIfInBounds_toArray, List.set_cons_zero, List.set_cons_succ]
    refine take_on (i := 8) (v := ?_) rfl rfl (by kernel_rfl) (by kernel_rfl) (by kernel_rfl) (fun _ _ _ h => h) rfl ?_ hHeld ?_
    rotate_left
    · (intro wq hSq; skip; go_simp <;> first | with_reducible rfl | rfl)
    simp only [Act.put, List.setIfInBounds_toArray, List.set_cons_zero, List.set_cons_succ]
    refine take_on (i := 13) (v := ?_) rfl rfl (by kernel_rfl) (by kernel_rfl) (by kernel_rfl) (fun _ _ _ h => h) rfl ?_ hHeld ?_
    rotate_left
    · (intro wq hSq; skip; go_simp <;> first | with_reducible rfl | rfl)
    simp only [Act.put, List.setIfInBounds_toArray, List.set_cons_zero, List.set_cons_succ]
    refine take_one (i := 14) rfl (by kernel_rfl) (fun K hK => ?_)
    go_simp
    refine hli.mono ?_; rintro e w1 ⟨rfl, hl1, hB1⟩; have hb1 := (hB1.block b hbl).trans HBK.out; have d3 := cell_of_row w1 b 3 _ _ _ hb1; have f3 := frozen_of_row w1 b 3 _ _ hb1; have d1 := cell_of_row w1 b 1 _ _ _ hb1; have f1 := frozen_of_row w1 b 1 _ _ hb1; simp at d3 d1; have HB1 := hide_it hb1; clear hb1
    try go_wp2_with fail
    refine hK.out _ _ ?_ (fun hHeld => ?_)
    · trivial
    clear hK K
    try simp only [Act.put, List.setIfInBounds_toArray, List.set_cons_zero, List.set_cons_succ]
    refine take_on (i := 15) (v := ?_) rfl rfl (by kernel_rfl) (by kernel_rfl) (by kernel_rfl) (fun _ _ _ h => h) rfl ?_ hHeld ?_
    rotate_left
    · (intro wq hSq; skip; go_simp <;> first | with_reducible rfl | rfl)
    simp only [Act.put, List.setIfInBounds_toArray, List.set_cons_zero, List.set_cons_succ]
    refine take_on (i := 16) (v := ?_) rfl rfl (by kernel_rfl) (by kernel_rfl) (by kernel_rfl) (fun _ _ _ h => h) rfl ?_ hHeld ?_
    rotate_left
    · (intro wq hSq; skip; go_simp <;> first | with_reducible rfl | rfl)
    simp only [Act.put, List.setIfInBounds_toArray, List.set_cons_zero, List.set_cons_succ]
    refine take_one (i := 17) rfl (by kernel_rfl) (fun K hK => ?_)
    go_simp
    skip
    try go_wp2_with fail
    refine hK.out _ _ ?_ (fun hHeld => ?_)
    · trivial
    clear hK K
    try simp only [Act.put, List.setIfInBounds_toArray, List.set_cons_zero, List.set_cons_succ]
    refine wpAnyH_done (by kernel_rfl) ?_ _
    go_wp2
    obtain ⟨z1, z2⟩ := growL_end b g most R f m xs w w1 H.out hl1 hB1 HX.out hm1 hm2
    go_end0
    exact ⟨rfl, z1, z2⟩

end Go.Proofs.Ytomfhbngpikjeab

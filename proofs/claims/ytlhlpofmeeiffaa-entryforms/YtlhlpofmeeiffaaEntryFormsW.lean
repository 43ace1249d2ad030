/- The law on Check and Encode, walked. -/
import Derived.Test.YtlhlpofmeeiffaaEh4
import Derived.Test.YtlhlpofmeeiffaaEg5
import Derived.Test.YtlhlpofmeeiffaaOpenEnt
namespace Go.Proofs.Ytlhlpofmeeiffaa.entryForms
open Go.RowKit

set_option maxRecDepth 100000 in
set_option maxHeartbeats 4000000 in
theorem walk (t : Ent) (w : World) (ht : EntOk w t) :
    Calls Try.prog 4 #[.agg #[.int .i64 t.kind, .int .i64 t.stamp, .int .i64 t.count, .string t.key, .slice t.val.a t.val.p.length t.val.c, .bool t.dead]] w fun e w' => e = .returned (.bool true) ∧ Below w.heap.size w w' := by
  obtain ⟨kind, stamp, count, key, ⟨a, c, val⟩, dead⟩ := t
  have hrow := ht.val.row
  have hsz : val.length ≤ 140737488355328 := by have := ht.val.size; simp only at this; omega
  have hnil := ht.val.none
  simp only at hrow hnil
  clear ht
  obtain ⟨W1, hW1⟩ : ∃ W, W = boxE w ⟨kind, stamp, count, key, val, dead⟩ a c := ⟨_, rfl⟩
  have hb1 : Below w.heap.size w W1 := by rw [hW1]; exact boxE_below _ _ _ _
  have hbx1 : BoxN W1 w.heap.size ⟨kind, stamp, count, key, val, dead⟩ a c := by rw [hW1]; exact heap_alloc_new w _
  have hcl := clone10_any ⟨kind, stamp, count, key, val, dead⟩ a c W1 (hrow.below hb1) hsz hnil
  go_enter Try.func4, Try.ntmps4
  go_wp2_with fail
  change Calls _ _ _ (boxE w ⟨kind, stamp, count, key, val, dead⟩ a c) _
  rw [← hW1]
  clear hW1
  refine hcl.mono ?_
  rintro e w1 ⟨⟨a1, c1', rfl, ho1⟩, hb2⟩
  obtain ⟨_, _, hv1, hrow1, _, _, hn1⟩ := ho1.row
  cases hv1
  have hbw1 := hb1.trans (hb2.mono hb1.size)
  have hbx2 := hbx1.under hb2 hbx1.lt
  have henc := encode_any ⟨kind, stamp, count, key, val, dead⟩ a1 c1' w1 hrow1 hn1
  clear hcl ho1 hrow1 hn1 hb1 hb2 hbx1
  obtain ⟨N, hN⟩ : ∃ N, N = chkE ⟨kind, stamp, count, key, val, dead⟩ := ⟨_, rfl⟩
  obtain ⟨F, hF⟩ : ∃ F, F = if mayE ⟨kind, stamp, count, key, val, dead⟩ then encE ⟨kind, stamp, count, key, val, dead⟩ else [] := ⟨_, rfl⟩
  unfold EncTo at henc
  rw [← hN, ← hF] at henc
  replace hN := hide_it hN
  replace hF := hide_it hF
  go_wp2_with fail
  refine henc.mono ?_
  rintro e w2 ⟨⟨v2, rfl, ho2⟩, hb3⟩
  have hbw2 := hbw1.trans (hb3.mono hbw1.size)
  have hbx3 := hbx2.under hb3 hbx2.lt
  have hren := rencode_any ⟨kind, stamp, count, key, val, dead⟩ a c w2 (hrow.below hbw2) hnil
  unfold EncTo at hren
  rw [← hN.out, ← hF.out] at hren
  obtain ⟨c0, c1, c2, c3, c4, c5⟩ := hbx3.inE
  simp only at c0 c1 c2 c3 c4 c5
  clear henc hb3 hbw1 hbx2 hF
  replace ho2 := hide_it ho2
  go_wp2_with fail
  refine hren.mono ?_
  rintro e w3 ⟨⟨v3, rfl, ho3⟩, hb4⟩
  have hbw3 := hbw2.trans (hb4.mono hbw2.size)
  have hbx4 := hbx3.under hb4 hbx3.lt
  obtain ⟨aA, cA, hvA, hrowA, _, _, hnA⟩ := (ho2.out.below hb4).row
  subst hvA
  obtain ⟨aB, cB, hvB, hrowB, _, _, hnB⟩ := ho3.row
  subst hvB
  have hcl9 := fun w' (h : RowB w' a val) => clone10_any ⟨kind, stamp, count, key, val, dead⟩ a c w' h hsz hnil
  have hck9 := fun b d w' => check_any ⟨kind, stamp, count, key, val, dead⟩ b d w'
  have hrk9 := fun w' => rcheck_any ⟨kind, stamp, count, key, val, dead⟩ a c w'
  rw [← hN.out] at hck9 hrk9
  obtain ⟨sv, hsv⟩ : ∃ s, strOf F = s := ⟨_, rfl⟩
  have HSV := hide_it hsv
  have HBW := hide_it hbw3
  have hxl := hbx4.lt
  clear hren hb4 hbw2 hbx3 ho2 ho3 hN c0 c1 c2 c3 c4 c5 hsv hbw3
  obtain ⟨g0, g1, g2, g3, g4, g5⟩ := hbx4.inE
  simp only at g0 g1 g2 g3 g4 g5
  clear hbx4
  go_wp2_with fail
  refine wp_region_held_drew (S := (fun w' => Below w3.heap.size w3 w')) (by kernel_rfl) ?_ (fun hHeld => ?_)
  · exact (Below.refl _ _).drew
  refine take_on (i := 0) (v := ?_) rfl rfl (by kernel_rfl) (by kernel_rfl) (by kernel_rfl) (fun _ _ _ h => h) rfl ?_ hHeld ?_
  rotate_left
  · (intro wq hSq; have p0 := (hSq.cell (p := ⟨w.heap.size, 0, none⟩) hxl).trans g0; have p1 := (hSq.cell (p := ⟨w.heap.size, 1, none⟩) hxl).trans g1; have p2 := (hSq.cell (p := ⟨w.heap.size, 2, none⟩) hxl).trans g2; have p3 := (hSq.cell (p := ⟨w.heap.size, 3, none⟩) hxl).trans g3; have p4 := (hSq.cell (p := ⟨w.heap.size, 4, none⟩) hxl).trans g4; have p5 := (hSq.cell (p := ⟨w.heap.size, 5, none⟩) hxl).trans g5; have k1 := conv_row (hrowA.below hSq) hnA; have k2 := conv_row (hrowB.below hSq) hnB; rw [HSV.out] at k1 k2; go_simp <;> first | with_reducible rfl | rfl)
  simp only [Act.put, List.setIfInBounds_toArray, List.set_cons_zero, List.set_cons_succ]
  refine take_on (i := 3) (v := ?_) rfl rfl (by kernel_rfl) (by kernel_rfl) (by kernel_rfl) (fun _ _ _ h => h) rfl ?_ hHeld ?_
  rotate_left
  · (intro wq hSq; have p0 := (hSq.cell (p := ⟨w.heap.size, 0, none⟩) hxl).trans g0; have p1 := (hSq.cell (p := ⟨w.heap.size, 1, none⟩) hxl).trans g1; have p2 := (hSq.cell (p := ⟨w.heap.size, 2, none⟩) hxl).trans g2; have p3 := (hSq.cell (p := ⟨w.heap.size, 3, none⟩) hxl).trans g3; have p4 := (hSq.cell (p := ⟨w.heap.size, 4, none⟩) hxl).trans g4; have p5 := (hSq.cell (p := ⟨w.heap.size, 5, none⟩) hxl).trans g5; have k1 := conv_row (hrowA.below hSq) hnA; have k2 := conv_row (hrowB.below hSq) hnB; rw [HSV.out] at k1 k2; go_simp <;> first | with_reducible rfl | rfl)
  simp only [Act.put, List.setIfInBounds_toArray, List.set_cons_zero, List.set_cons_succ]
  refine take_one (i := 1) rfl (by kernel_rfl) (fun K hK => ?_)
  go_simp
  refine (hcl9 _ (hrow.below (HBW.out.trans (hHeld.mono HBW.out.size)))).mono ?_; rintro e q1 ⟨⟨b1, d1, rfl, ho1⟩, hb1⟩; have hB1 := hide_it (hHeld.trans (hb1.mono hHeld.size)); clear ho1 hb1
  try go_wp2_with fail
  refine hK.out _ _ ?_ (fun hHeld => ?_)
  · exact hB1.out
  clear hK K
  try simp only [Act.put, List.setIfInBounds_toArray, List.set_cons_zero, List.set_cons_succ]
  refine take_one (i := 2) rfl (by kernel_rfl) (fun K hK => ?_)
  go_simp
  refine (hck9 b1 d1 _).mono ?_; rintro e q2 ⟨rfl, hb2⟩; have hB2 := hide_it (hHeld.trans (hb2.mono hHeld.size)); clear hb2
  try go_wp2_with fail
  refine hK.out _ _ ?_ (fun hHeld => ?_)
  · exact hB2.out
  clear hK K
  try simp only [Act.put, List.setIfInBounds_toArray, List.set_cons_zero, List.set_cons_succ]
  refine take_one (i := 4) rfl (by kernel_rfl) (fun K hK => ?_)
  go_simp
  refine (hrk9 _).mono ?_; rintro e q3 ⟨rfl, hb3⟩; have hB3 := hide_it (hHeld.trans (hb3.mono hHeld.size)); clear hb3
  try go_wp2_with fail
  refine hK.out _ _ ?_ (fun hHeld => ?_)
  · exact hB3.out
  clear hK K
  try simp only [Act.put, List.setIfInBounds_toArray, List.set_cons_zero, List.set_cons_succ]
  refine take_on (i := 5) (v := ?_) rfl rfl (by kernel_rfl) (by kernel_rfl) (by kernel_rfl) (fun _ _ _ h => h) rfl ?_ hHeld ?_
  rotate_left
  · (intro wq hSq; have p0 := (hSq.cell (p := ⟨w.heap.size, 0, none⟩) hxl).trans g0; have p1 := (hSq.cell (p := ⟨w.heap.size, 1, none⟩) hxl).trans g1; have p2 := (hSq.cell (p := ⟨w.heap.size, 2, none⟩) hxl).trans g2; have p3 := (hSq.cell (p := ⟨w.heap.size, 3, none⟩) hxl).trans g3; have p4 := (hSq.cell (p := ⟨w.heap.size, 4, none⟩) hxl).trans g4; have p5 := (hSq.cell (p := ⟨w.heap.size, 5, none⟩) hxl).trans g5; have k1 := conv_row (hrowA.below hSq) hnA; have k2 := conv_row (hrowB.below hSq) hnB; rw [HSV.out] at k1 k2; go_simp <;> first | with_reducible rfl | rfl)
  simp only [Act.put, List.setIfInBounds_toArray, List.set_cons_zero, List.set_cons_succ]
  refine take_on (i := 6) (v := ?_) rfl rfl (by kernel_rfl) (by kernel_rfl) (by kernel_rfl) (fun _ _ _ h => h) rfl ?_ hHeld ?_
  rotate_left
  · (intro wq hSq; have p0 := (hSq.cell (p := ⟨w.heap.size, 0, none⟩) hxl).trans g0; have p1 := (hSq.cell (p := ⟨w.heap.size, 1, none⟩) hxl).trans g1; have p2 := (hSq.cell (p := ⟨w.heap.size, 2, none⟩) hxl).trans g2; have p3 := (hSq.cell (p := ⟨w.heap.size, 3, none⟩) hxl).trans g3; have p4 := (hSq.cell (p := ⟨w.heap.size, 4, none⟩) hxl).trans g4; have p5 := (hSq.cell (p := ⟨w.heap.size, 5, none⟩) hxl).trans g5; have k1 := conv_row (hrowA.below hSq) hnA; have k2 := conv_row (hrowB.below hSq) hnB; rw [HSV.out] at k1 k2; go_simp <;> first | with_reducible rfl | rfl)
  simp only [Act.put, List.setIfInBounds_toArray, List.set_cons_zero, List.set_cons_succ]
  refine take_on (i := 7) (v := ?_) rfl rfl (by kernel_rfl) (by kernel_rfl) (by kernel_rfl) (fun _ _ _ h => h) rfl ?_ hHeld ?_
  rotate_left
  · (intro wq hSq; have p0 := (hSq.cell (p := ⟨w.heap.size, 0, none⟩) hxl).trans g0; have p1 := (hSq.cell (p := ⟨w.heap.size, 1, none⟩) hxl).trans g1; have p2 := (hSq.cell (p := ⟨w.heap.size, 2, none⟩) hxl).trans g2; have p3 := (hSq.cell (p := ⟨w.heap.size, 3, none⟩) hxl).trans g3; have p4 := (hSq.cell (p := ⟨w.heap.size, 4, none⟩) hxl).trans g4; have p5 := (hSq.cell (p := ⟨w.heap.size, 5, none⟩) hxl).trans g5; have k1 := conv_row (hrowA.below hSq) hnA; have k2 := conv_row (hrowB.below hSq) hnB; rw [HSV.out] at k1 k2; go_simp <;> first | with_reducible rfl | rfl)
  simp only [Act.put, List.setIfInBounds_toArray, List.set_cons_zero, List.set_cons_succ]
  refine take_on (i := 8) (v := ?_) rfl rfl (by kernel_rfl) (by kernel_rfl) (by kernel_rfl) (fun _ _ _ h => h) rfl ?_ hHeld ?_
  rotate_left
  · (intro wq hSq; have p0 := (hSq.cell (p := ⟨w.heap.size, 0, none⟩) hxl).trans g0; have p1 := (hSq.cell (p := ⟨w.heap.size, 1, none⟩) hxl).trans g1; have p2 := (hSq.cell (p := ⟨w.heap.size, 2, none⟩) hxl).trans g2; have p3 := (hSq.cell (p := ⟨w.heap.size, 3, none⟩) hxl).trans g3; have p4 := (hSq.cell (p := ⟨w.heap.size, 4, none⟩) hxl).trans g4; have p5 := (hSq.cell (p := ⟨w.heap.size, 5, none⟩) hxl).trans g5; have k1 := conv_row (hrowA.below hSq) hnA; have k2 := conv_row (hrowB.below hSq) hnB; rw [HSV.out] at k1 k2; go_simp <;> first | with_reducible rfl | rfl)
  simp only [Act.put, List.setIfInBounds_toArray, List.set_cons_zero, List.set_cons_succ]
  refine take_on (i := 9) (v := ?_) rfl rfl (by kernel_rfl) (by kernel_rfl) (by kernel_rfl) (fun _ _ _ h => h) rfl ?_ hHeld ?_
  rotate_left
  · (intro wq hSq; have p0 := (hSq.cell (p := ⟨w.heap.size, 0, none⟩) hxl).trans g0; have p1 := (hSq.cell (p := ⟨w.heap.size, 1, none⟩) hxl).trans g1; have p2 := (hSq.cell (p := ⟨w.heap.size, 2, none⟩) hxl).trans g2; have p3 := (hSq.cell (p := ⟨w.heap.size, 3, none⟩) hxl).trans g3; have p4 := (hSq.cell (p := ⟨w.heap.size, 4, none⟩) hxl).trans g4; have p5 := (hSq.cell (p := ⟨w.heap.size, 5, none⟩) hxl).trans g5; have k1 := conv_row (hrowA.below hSq) hnA; have k2 := conv_row (hrowB.below hSq) hnB; rw [HSV.out] at k1 k2; go_simp <;> first | with_reducible rfl | rfl)
  simp only [Act.put, List.setIfInBounds_toArray, List.set_cons_zero, List.set_cons_succ]
  refine take_on (i := 10) (v := ?_) rfl rfl (by kernel_rfl) (by kernel_rfl) (by kernel_rfl) (fun _ _ _ h => h) rfl ?_ hHeld ?_
  rotate_left
  · (intro wq hSq; have p0 := (hSq.cell (p := ⟨w.heap.size, 0, none⟩) hxl).trans g0; have p1 := (hSq.cell (p := ⟨w.heap.size, 1, none⟩) hxl).trans g1; have p2 := (hSq.cell (p := ⟨w.heap.size, 2, none⟩) hxl).trans g2; have p3 := (hSq.cell (p := ⟨w.heap.size, 3, none⟩) hxl).trans g3; have p4 := (hSq.cell (p := ⟨w.heap.size, 4, none⟩) hxl).trans g4; have p5 := (hSq.cell (p := ⟨w.heap.size, 5, none⟩) hxl).trans g5; have k1 := conv_row (hrowA.below hSq) hnA; have k2 := conv_row (hrowB.below hSq) hnB; rw [HSV.out] at k1 k2; go_simp <;> first | with_reducible rfl | rfl)
  simp only [Act.put, List.setIfInBounds_toArray, List.set_cons_zero, List.set_cons_succ]
  refine take_on (i := 11) (v := ?_) rfl rfl (by kernel_rfl) (by kernel_rfl) (by kernel_rfl) (fun _ _ _ h => h) rfl ?_ hHeld ?_
  rotate_left
  · (intro wq hSq; have p0 := (hSq.cell (p := ⟨w.heap.size, 0, none⟩) hxl).trans g0; have p1 := (hSq.cell (p := ⟨w.heap.size, 1, none⟩) hxl).trans g1; have p2 := (hSq.cell (p := ⟨w.heap.size, 2, none⟩) hxl).trans g2; have p3 := (hSq.cell (p := ⟨w.heap.size, 3, none⟩) hxl).trans g3; have p4 := (hSq.cell (p := ⟨w.heap.size, 4, none⟩) hxl).trans g4; have p5 := (hSq.cell (p := ⟨w.heap.size, 5, none⟩) hxl).trans g5; have k1 := conv_row (hrowA.below hSq) hnA; have k2 := conv_row (hrowB.below hSq) hnB; rw [HSV.out] at k1 k2; go_simp <;> first | with_reducible rfl | rfl)
  simp only [Act.put, List.setIfInBounds_toArray, List.set_cons_zero, List.set_cons_succ]
  refine take_on (i := 12) (v := ?_) rfl rfl (by kernel_rfl) (by kernel_rfl) (by kernel_rfl) (fun _ _ _ h => h) rfl ?_ hHeld ?_
  rotate_left
  · (intro wq hSq; have p0 := (hSq.cell (p := ⟨w.heap.size, 0, none⟩) hxl).trans g0; have p1 := (hSq.cell (p := ⟨w.heap.size, 1, none⟩) hxl).trans g1; have p2 := (hSq.cell (p := ⟨w.heap.size, 2, none⟩) hxl).trans g2; have p3 := (hSq.cell (p := ⟨w.heap.size, 3, none⟩) hxl).trans g3; have p4 := (hSq.cell (p := ⟨w.heap.size, 4, none⟩) hxl).trans g4; have p5 := (hSq.cell (p := ⟨w.heap.size, 5, none⟩) hxl).trans g5; have k1 := conv_row (hrowA.below hSq) hnA; have k2 := conv_row (hrowB.below hSq) hnB; rw [HSV.out] at k1 k2; go_simp <;> first | with_reducible rfl | rfl)
  simp only [Act.put, List.setIfInBounds_toArray, List.set_cons_zero, List.set_cons_succ]
  refine take_on (i := 13) (v := ?_) rfl rfl (by kernel_rfl) (by kernel_rfl) (by kernel_rfl) (fun _ _ _ h => h) rfl ?_ hHeld ?_
  rotate_left
  · (intro wq hSq; have p0 := (hSq.cell (p := ⟨w.heap.size, 0, none⟩) hxl).trans g0; have p1 := (hSq.cell (p := ⟨w.heap.size, 1, none⟩) hxl).trans g1; have p2 := (hSq.cell (p := ⟨w.heap.size, 2, none⟩) hxl).trans g2; have p3 := (hSq.cell (p := ⟨w.heap.size, 3, none⟩) hxl).trans g3; have p4 := (hSq.cell (p := ⟨w.heap.size, 4, none⟩) hxl).trans g4; have p5 := (hSq.cell (p := ⟨w.heap.size, 5, none⟩) hxl).trans g5; have k1 := conv_row (hrowA.below hSq) hnA; have k2 := conv_row (hrowB.below hSq) hnB; rw [HSV.out] at k1 k2; go_simp <;> first | with_reducible rfl | rfl)
  simp only [Act.put, List.setIfInBounds_toArray, List.set_cons_zero, List.set_cons_succ]
  refine take_on (i := 14) (v := ?_) rfl rfl (by kernel_rfl) (by kernel_rfl) (by kernel_rfl) (fun _ _ _ h => h) rfl ?_ hHeld ?_
  rotate_left
  · (intro wq hSq; have p0 := (hSq.cell (p := ⟨w.heap.size, 0, none⟩) hxl).trans g0; have p1 := (hSq.cell (p := ⟨w.heap.size, 1, none⟩) hxl).trans g1; have p2 := (hSq.cell (p := ⟨w.heap.size, 2, none⟩) hxl).trans g2; have p3 := (hSq.cell (p := ⟨w.heap.size, 3, none⟩) hxl).trans g3; have p4 := (hSq.cell (p := ⟨w.heap.size, 4, none⟩) hxl).trans g4; have p5 := (hSq.cell (p := ⟨w.heap.size, 5, none⟩) hxl).trans g5; have k1 := conv_row (hrowA.below hSq) hnA; have k2 := conv_row (hrowB.below hSq) hnB; rw [HSV.out] at k1 k2; go_simp <;> first | with_reducible rfl | rfl)
  simp only [Act.put, List.setIfInBounds_toArray, List.set_cons_zero, List.set_cons_succ]
  refine take_on (i := 15) (v := ?_) rfl rfl (by kernel_rfl) (by kernel_rfl) (by kernel_rfl) (fun _ _ _ h => h) rfl ?_ hHeld ?_
  rotate_left
  · (intro wq hSq; have p0 := (hSq.cell (p := ⟨w.heap.size, 0, none⟩) hxl).trans g0; have p1 := (hSq.cell (p := ⟨w.heap.size, 1, none⟩) hxl).trans g1; have p2 := (hSq.cell (p := ⟨w.heap.size, 2, none⟩) hxl).trans g2; have p3 := (hSq.cell (p := ⟨w.heap.size, 3, none⟩) hxl).trans g3; have p4 := (hSq.cell (p := ⟨w.heap.size, 4, none⟩) hxl).trans g4; have p5 := (hSq.cell (p := ⟨w.heap.size, 5, none⟩) hxl).trans g5; have k1 := conv_row (hrowA.below hSq) hnA; have k2 := conv_row (hrowB.below hSq) hnB; rw [HSV.out] at k1 k2; go_simp <;> first | with_reducible rfl | rfl)
  simp only [Act.put, List.setIfInBounds_toArray, List.set_cons_zero, List.set_cons_succ]
  refine take_on (i := 16) (v := ?_) rfl rfl (by kernel_rfl) (by kernel_rfl) (by kernel_rfl) (fun _ _ _ h => h) rfl ?_ hHeld ?_
  rotate_left
  · (intro wq hSq; have p0 := (hSq.cell (p := ⟨w.heap.size, 0, none⟩) hxl).trans g0; have p1 := (hSq.cell (p := ⟨w.heap.size, 1, none⟩) hxl).trans g1; have p2 := (hSq.cell (p := ⟨w.heap.size, 2, none⟩) hxl).trans g2; have p3 := (hSq.cell (p := ⟨w.heap.size, 3, none⟩) hxl).trans g3; have p4 := (hSq.cell (p := ⟨w.heap.size, 4, none⟩) hxl).trans g4; have p5 := (hSq.cell (p := ⟨w.heap.size, 5, none⟩) hxl).trans g5; have k1 := conv_row (hrowA.below hSq) hnA; have k2 := conv_row (hrowB.below hSq) hnB; rw [HSV.out] at k1 k2; go_simp <;> first | with_reducible rfl | rfl)
  simp only [Act.put, List.setIfInBounds_toArray, List.set_cons_zero, List.set_cons_succ]
  refine take_on (i := 17) (v := ?_) rfl rfl (by kernel_rfl) (by kernel_rfl) (by kernel_rfl) (fun _ _ _ h => h) rfl ?_ hHeld ?_
  rotate_left
  · (intro wq hSq; have p0 := (hSq.cell (p := ⟨w.heap.size, 0, none⟩) hxl).trans g0; have p1 := (hSq.cell (p := ⟨w.heap.size, 1, none⟩) hxl).trans g1; have p2 := (hSq.cell (p := ⟨w.heap.size, 2, none⟩) hxl).trans g2; have p3 := (hSq.cell (p := ⟨w.heap.size, 3, none⟩) hxl).trans g3; have p4 := (hSq.cell (p := ⟨w.heap.size, 4, none⟩) hxl).trans g4; have p5 := (hSq.cell (p := ⟨w.heap.size, 5, none⟩) hxl).trans g5; have k1 := conv_row (hrowA.below hSq) hnA; have k2 := conv_row (hrowB.below hSq) hnB; rw [HSV.out] at k1 k2; go_simp <;> first | with_reducible rfl | rfl)
  simp only [Act.put, List.setIfInBounds_toArray, List.set_cons_zero, List.set_cons_succ]
  refine take_on (i := 18) (v := ?_) rfl rfl (by kernel_rfl) (by kernel_rfl) (by kernel_rfl) (fun _ _ _ h => h) rfl ?_ hHeld ?_
  rotate_left
  · (intro wq hSq; have p0 := (hSq.cell (p := ⟨w.heap.size, 0, none⟩) hxl).trans g0; have p1 := (hSq.cell (p := ⟨w.heap.size, 1, none⟩) hxl).trans g1; have p2 := (hSq.cell (p := ⟨w.heap.size, 2, none⟩) hxl).trans g2; have p3 := (hSq.cell (p := ⟨w.heap.size, 3, none⟩) hxl).trans g3; have p4 := (hSq.cell (p := ⟨w.heap.size, 4, none⟩) hxl).trans g4; have p5 := (hSq.cell (p := ⟨w.heap.size, 5, none⟩) hxl).trans g5; have k1 := conv_row (hrowA.below hSq) hnA; have k2 := conv_row (hrowB.below hSq) hnB; rw [HSV.out] at k1 k2; go_simp <;> first | with_reducible rfl | rfl)
  simp only [Act.put, List.setIfInBounds_toArray, List.set_cons_zero, List.set_cons_succ]
  refine take_one (i := 19) rfl (by kernel_rfl) (fun K hK => ?_)
  go_simp
  refine (awake_any _).mono ?_; rintro e q8 ⟨rfl, hb8⟩; have hB8 := hide_it (hHeld.trans (hb8.mono hHeld.size)); clear hb8
  try go_wp2_with fail
  refine hK.out _ _ ?_ (fun hHeld => ?_)
  · exact hB8.out
  clear hK K
  try simp only [Act.put, List.setIfInBounds_toArray, List.set_cons_zero, List.set_cons_succ]
  refine take_on (i := 20) (v := ?_) rfl rfl (by kernel_rfl) (by kernel_rfl) (by kernel_rfl) (fun _ _ _ h => h) rfl ?_ hHeld ?_
  rotate_left
  · (intro wq hSq; have p0 := (hSq.cell (p := ⟨w.heap.size, 0, none⟩) hxl).trans g0; have p1 := (hSq.cell (p := ⟨w.heap.size, 1, none⟩) hxl).trans g1; have p2 := (hSq.cell (p := ⟨w.heap.size, 2, none⟩) hxl).trans g2; have p3 := (hSq.cell (p := ⟨w.heap.size, 3, none⟩) hxl).trans g3; have p4 := (hSq.cell (p := ⟨w.heap.size, 4, none⟩) hxl).trans g4; have p5 := (hSq.cell (p := ⟨w.heap.size, 5, none⟩) hxl).trans g5; have k1 := conv_row (hrowA.below hSq) hnA; have k2 := conv_row (hrowB.below hSq) hnB; rw [HSV.out] at k1 k2; go_simp <;> first | with_reducible rfl | rfl)
  simp only [Act.put, List.setIfInBounds_toArray, List.set_cons_zero, List.set_cons_succ]
  refine take_on (i := 21) (v := ?_) rfl rfl (by kernel_rfl) (by kernel_rfl) (by kernel_rfl) (fun _ _ _ h => h) rfl ?_ hHeld ?_
  rotate_left
  · (intro wq hSq; have p0 := (hSq.cell (p := ⟨w.heap.size, 0, none⟩) hxl).trans g0; have p1 := (hSq.cell (p := ⟨w.heap.size, 1, none⟩) hxl).trans g1; have p2 := (hSq.cell (p := ⟨w.heap.size, 2, none⟩) hxl).trans g2; have p3 := (hSq.cell (p := ⟨w.heap.size, 3, none⟩) hxl).trans g3; have p4 := (hSq.cell (p := ⟨w.heap.size, 4, none⟩) hxl).trans g4; have p5 := (hSq.cell (p := ⟨w.heap.size, 5, none⟩) hxl).trans g5; have k1 := conv_row (hrowA.below hSq) hnA; have k2 := conv_row (hrowB.below hSq) hnB; rw [HSV.out] at k1 k2; go_simp <;> first | with_reducible rfl | rfl)
  simp only [Act.put, List.setIfInBounds_toArray, List.set_cons_zero, List.set_cons_succ]
  refine wpAnyH_done (by kernel_rfl) ?_ _
  have hend := HBW.out.trans (hB8.out.mono HBW.out.size)
  clear hcl9 hck9 hrk9 HBW
  go_wp2_with fail
  go_ret
  exact ⟨rfl, hend⟩
end Go.Proofs.Ytlhlpofmeeiffaa.entryForms

/- The law on what is made of versions and of entries, walked. -/
import Derived.Test.YtlhlpofmeeiffaaEg5
import Derived.Test.YtlhlpofmeeiffaaOpenEnt
import Derived.Test.YtlhlpofmeeiffaaOpenVer
namespace Go.Proofs.Ytlhlpofmeeiffaa.entryOfs
open Go.RowKit

theorem BoxW.under {w w' : World} {B E : Nat} {x : Vn} {a : Option Addr} {c : Nat} (h : BoxW w E x a c) (hb : Below B w w') (hE : E < B) : BoxW w' E x a c := (hb.block E hE).trans h
theorem BoxW.lt {w : World} {E : Nat} {x : Vn} {a : Option Addr} {c : Nat} (h : BoxW w E x a c) : E < w.heap.size := (Array.getElem?_eq_some_iff.1 h).1

set_option maxRecDepth 100000 in
set_option maxHeartbeats 4000000 in
theorem walk (v : Ver) (t : Ent) (w : World) (hv : VerOk w v) (ht : EntOk w t) :
    Calls Try.prog 6 #[.agg #[.string v.key, .int .i64 v.stamp, .slice v.val.a v.val.p.length v.val.c, .bool v.dead], .agg #[.int .i64 t.kind, .int .i64 t.stamp, .int .i64 t.count, .string t.key, .slice t.val.a t.val.p.length t.val.c, .bool t.dead]] w fun e w' => e = .returned (.bool true) ∧ Below w.heap.size w w' := by
  obtain ⟨vkey, vstamp, ⟨va, vc, vval⟩, vdead⟩ := v
  obtain ⟨kind, stamp, count, key, ⟨a, c, val⟩, dead⟩ := t
  have hrow := ht.val.row
  have hsz : val.length ≤ 140737488355328 := by have := ht.val.size; simp only at this; omega
  have hnil := ht.val.none
  have vrow := hv.val.row
  have vsz : vval.length ≤ 140737488355328 := by have := hv.val.size; simp only at this; omega
  have vnil := hv.val.none
  simp only at hrow hnil vrow vnil
  clear ht hv
  obtain ⟨W1, hW1⟩ : ∃ W, W = (w.alloc (.cells #[.string vkey, .int .i64 vstamp, .slice va vval.length vc, .bool vdead] 42)).alloc (.cells #[.int .i64 kind, .int .i64 stamp, .int .i64 count, .string key, .slice a val.length c, .bool dead] 25) := ⟨_, rfl⟩
  have hb1 : Below w.heap.size w W1 := by rw [hW1]; exact ((Below.refl _ _).alloc (Nat.le_refl _) _).alloc (by simp) _
  have hbv1 : BoxW W1 w.heap.size ⟨vkey, vstamp, vval, vdead⟩ va vc := by rw [hW1]; exact (Below.heap_alloc _ _ _ (by simp)).trans (heap_alloc_new w _)
  have hbx1 : BoxN W1 (w.heap.size + 1) ⟨kind, stamp, count, key, val, dead⟩ a c := by
    rw [hW1]
    have e := heap_alloc_new (w.alloc (.cells #[.string vkey, .int .i64 vstamp, .slice va vval.length vc, .bool vdead] 42)) (.cells #[.int .i64 kind, .int .i64 stamp, .int .i64 count, .string key, .slice a val.length c, .bool dead] 25)
    rw [World.size_alloc] at e
    exact e
  have hcl := clone10_any ⟨kind, stamp, count, key, val, dead⟩ a c W1 (hrow.below hb1) hsz hnil
  go_enter Try.func6, Try.ntmps6
  go_wp2_with fail
  rw [← hW1]
  clear hW1
  refine hcl.mono ?_
  rintro e w1 ⟨⟨a1, c1', rfl, ho1⟩, hb2⟩
  obtain ⟨_, _, hv1, hrow1, _, _, hn1⟩ := ho1.row
  cases hv1
  have hve := version_any ⟨kind, stamp, count, key, val, dead⟩ a1 c1' w1 hrow1 hsz hn1
  have hbw1 := hb1.trans (hb2.mono hb1.size)
  have hbv2 := BoxW.under hbv1 hb2 (BoxW.lt hbv1)
  have hbx2 := hbx1.under hb2 hbx1.lt
  clear hcl ho1 hrow1 hn1 hb1 hb2 hbv1 hbx1
  go_wp2_with fail
  refine hve.mono ?_
  obtain ⟨V, hV⟩ : ∃ V, V = versionV ⟨kind, stamp, count, key, val, dead⟩ := ⟨_, rfl⟩
  obtain ⟨I, hI⟩ : ∃ I, I = isV ⟨kind, stamp, count, key, val, dead⟩ := ⟨_, rfl⟩
  rw [← hV, ← hI]
  rintro e w2 ⟨⟨a2, c2', rfl, ho2⟩, hb3⟩
  have hbw2 := hbw1.trans (hb3.mono hbw1.size)
  have hbv3 := BoxW.under hbv2 hb3 (BoxW.lt hbv2)
  have hbx3 := hbx2.under hb3 hbx2.lt
  obtain ⟨yk, ys, yv, yd⟩ := V
  simp only at ho2
  obtain ⟨W3, hW3⟩ : ∃ W, W = w2.alloc (.cells #[.string yk, .int .i64 ys, .slice a2 yv.length c2', .bool yd] 42) := ⟨_, rfl⟩
  have hb4 : Below w2.heap.size w2 W3 := by rw [hW3]; exact (Below.refl _ _).alloc (Nat.le_refl _) _
  have hbw3 := hbw2.trans (hb4.mono hbw2.size)
  have hby3 : BoxW W3 w2.heap.size ⟨yk, ys, yv, yd⟩ a2 c2' := by rw [hW3]; exact heap_alloc_new w2 _
  have hrv := rversion_any ⟨kind, stamp, count, key, val, dead⟩ a c W3 (hrow.below hbw3) hsz hnil
  rw [← hV, ← hI] at hrv
  have hbv4 := hide_it (BoxW.under hbv3 hb4 (BoxW.lt hbv3))
  have ho3 := hide_it (ho2.below hb4)
  have hlt3 := hbx3.lt
  obtain ⟨c0, c1, c2, c3, c4, c5⟩ := hbx3.inE
  simp only at c0 c1 c2 c3 c4 c5
  clear hve hV hI ho2 hb3 hbw1 hbv2 hbx2 hbv3 hbx3 hbw2 hb4
  go_wp2_with fail
  rw [← hW3]
  clear hW3 c0 c1 c2 c3 c4 c5 hlt3
  refine hrv.mono ?_
  rintro e w3 ⟨⟨a3, c3', rfl, ho4⟩, hb5⟩
  have hbw4 := hbw3.trans (hb5.mono hbw3.size)
  have hbv5 := BoxW.under hbv4.out hb5 (BoxW.lt hbv4.out)
  have hby5 := BoxW.under hby3 hb5 (BoxW.lt hby3)
  have ho5 := ho3.out.below hb5
  clear hrv hb5 hbw3 hbv4 hby3 ho3
  -- the box of want, and the world of the drawn region
  obtain ⟨W5, hW5⟩ : ∃ W, W = w3.alloc (.cells #[.string yk, .int .i64 ys, .slice a3 yv.length c3', .bool yd] 42) := ⟨_, rfl⟩
  have hb6 : Below w3.heap.size w3 W5 := by rw [hW5]; exact (Below.refl _ _).alloc (Nat.le_refl _) _
  have hbw5 := hbw4.trans (hb6.mono hbw4.size)
  have hbz5 : BoxW W5 w3.heap.size ⟨yk, ys, yv, yd⟩ a3 c3' := by rw [hW5]; exact heap_alloc_new w3 _
  have hbv6 := BoxW.under hbv5 hb6 (BoxW.lt hbv5)
  have hby6 := BoxW.under hby5 hb6 (BoxW.lt hby5)
  obtain ⟨_, _, e5, hrow5, _, _, hn5⟩ := (ho5.below hb6).row
  cases e5
  obtain ⟨_, _, e4, hrow4, _, _, hn4⟩ := (ho4.below hb6).row
  cases e4
  obtain ⟨g0, g1, g2, g3⟩ := hbv6.cells
  obtain ⟨y0, y1, y2, y3⟩ := hby6.cells
  obtain ⟨z0, z1, z2, z3⟩ := hbz5.cells
  have hvl := BoxW.lt hbv6
  have hyl := BoxW.lt hby6
  have hzl := BoxW.lt hbz5
  have vrow5 := vrow.below hbw5
  simp only at g0 g1 g2 g3 y0 y1 y2 y3 z0 z1 z2 z3
  have HBW5 := hide_it hbw5
  clear hb6 hbw4 hbw5 hbv5 hby5 hbv6 hby6 hbz5 ho4 ho5
  go_wp2_with fail
  rw [← hW5]
  clear hW5
  obtain ⟨y, hy⟩ : ∃ y, y = ofWriteE ⟨vkey, vstamp, vval, vdead⟩ := ⟨_, rfl⟩
  obtain ⟨u, hu⟩ : ∃ u, u = ofVersionE ⟨vkey, vstamp, vval, vdead⟩ := ⟨_, rfl⟩
  have how := fun w' (h : RowB w' va vval) => ofWrite_any ⟨vkey, vstamp, vval, vdead⟩ va vc w' h vsz vnil
  have hrow := fun w' (h : RowB w' va vval) => rofWrite_any ⟨vkey, vstamp, vval, vdead⟩ va vc w' h vsz vnil
  have hov := fun w' (h : RowB w' va vval) => ofVersion_any ⟨vkey, vstamp, vval, vdead⟩ va vc w' h vsz vnil
  have hrov := fun w' (h : RowB w' va vval) => rofVersion_any ⟨vkey, vstamp, vval, vdead⟩ va vc w' h vsz vnil
  rw [← hy] at how hrow
  rw [← hu] at hov hrov
  clear hy hu
  refine wp_region_held_drew (S := (fun w' => Below W5.heap.size W5 w')) (by kernel_rfl) ?_ (fun hHeld => ?_)
  · exact (Below.refl _ _).drew
  refine take_on (i := 0) (v := ?_) rfl rfl (by kernel_rfl) (by kernel_rfl) (by kernel_rfl) (fun _ _ _ h => h) rfl ?_ hHeld ?_
  rotate_left
  · (intro wq hSq; have p0 := (hSq.cell (p := ⟨w.heap.size, 0, none⟩) hvl).trans g0; have p1 := (hSq.cell (p := ⟨w.heap.size, 1, none⟩) hvl).trans g1; have p2 := (hSq.cell (p := ⟨w.heap.size, 2, none⟩) hvl).trans g2; have p3 := (hSq.cell (p := ⟨w.heap.size, 3, none⟩) hvl).trans g3; have p4 := (hSq.cell (p := ⟨w2.heap.size, 0, none⟩) hyl).trans y0; have p5 := (hSq.cell (p := ⟨w2.heap.size, 1, none⟩) hyl).trans y1; have p6 := (hSq.cell (p := ⟨w2.heap.size, 2, none⟩) hyl).trans y2; have p7 := (hSq.cell (p := ⟨w2.heap.size, 3, none⟩) hyl).trans y3; have p8 := (hSq.cell (p := ⟨w3.heap.size, 0, none⟩) hzl).trans z0; have p9 := (hSq.cell (p := ⟨w3.heap.size, 1, none⟩) hzl).trans z1; have p10 := (hSq.cell (p := ⟨w3.heap.size, 2, none⟩) hzl).trans z2; have p11 := (hSq.cell (p := ⟨w3.heap.size, 3, none⟩) hzl).trans z3; go_simp <;> first | with_reducible rfl | rfl)
  simp only [Act.put, List.setIfInBounds_toArray, List.set_cons_zero, List.set_cons_succ]
  refine take_on (i := 2) (v := ?_) rfl rfl (by kernel_rfl) (by kernel_rfl) (by kernel_rfl) (fun _ _ _ h => h) rfl ?_ hHeld ?_
  rotate_left
  · (intro wq hSq; have p0 := (hSq.cell (p := ⟨w.heap.size, 0, none⟩) hvl).trans g0; have p1 := (hSq.cell (p := ⟨w.heap.size, 1, none⟩) hvl).trans g1; have p2 := (hSq.cell (p := ⟨w.heap.size, 2, none⟩) hvl).trans g2; have p3 := (hSq.cell (p := ⟨w.heap.size, 3, none⟩) hvl).trans g3; have p4 := (hSq.cell (p := ⟨w2.heap.size, 0, none⟩) hyl).trans y0; have p5 := (hSq.cell (p := ⟨w2.heap.size, 1, none⟩) hyl).trans y1; have p6 := (hSq.cell (p := ⟨w2.heap.size, 2, none⟩) hyl).trans y2; have p7 := (hSq.cell (p := ⟨w2.heap.size, 3, none⟩) hyl).trans y3; have p8 := (hSq.cell (p := ⟨w3.heap.size, 0, none⟩) hzl).trans z0; have p9 := (hSq.cell (p := ⟨w3.heap.size, 1, none⟩) hzl).trans z1; have p10 := (hSq.cell (p := ⟨w3.heap.size, 2, none⟩) hzl).trans z2; have p11 := (hSq.cell (p := ⟨w3.heap.size, 3, none⟩) hzl).trans z3; go_simp <;> first | with_reducible rfl | rfl)
  simp only [Act.put, List.setIfInBounds_toArray, List.set_cons_zero, List.set_cons_succ]
  refine take_one (i := 1) rfl (by kernel_rfl) (fun K hK => ?_)
  go_simp
  refine (how _ (vrow5.below hHeld)).mono ?_; rintro e q1 ⟨⟨b1, d1, rfl, ho1⟩, hb1⟩; have hB1 := hide_it (hHeld.trans (hb1.mono hHeld.size))
  try go_wp2_with fail
  refine hK.out _ _ ?_ (fun hHeld => ?_)
  · exact hB1.out
  clear hK K
  try simp only [Act.put, List.setIfInBounds_toArray, List.set_cons_zero, List.set_cons_succ]
  refine take_one (i := 3) rfl (by kernel_rfl) (fun K hK => ?_)
  go_simp
  refine (hrow _ (vrow5.below hHeld)).mono ?_; rintro e q2 ⟨⟨b2, d2, rfl, ho2⟩, hb2⟩; have hB2 := hide_it (hHeld.trans (hb2.mono hHeld.size)); replace ho1 := ho1.below hb2; obtain ⟨_, _, e1, hr1, _, _, hn1⟩ := ho1.row; cases e1; obtain ⟨_, _, e2, hr2, _, _, hn2⟩ := ho2.row; cases e2; have hsm := same_eq y b1 b2 d1 d2 q2 hr1 hr2 hn1 hn2; clear ho1 ho2 hr1 hr2 hn1 hn2 hb1 hb2
  try go_wp2_with fail
  refine hK.out _ _ ?_ (fun hHeld => ?_)
  · exact hB2.out
  clear hK K
  try simp only [Act.put, List.setIfInBounds_toArray, List.set_cons_zero, List.set_cons_succ]
  refine take_one (i := 4) rfl (by kernel_rfl) (fun K hK => ?_)
  go_simp
  refine hsm.mono ?_; rintro e q3 ⟨rfl, hb3⟩; have hB3 := hide_it (hHeld.trans (hb3.mono hHeld.size)); clear hsm hb3
  try go_wp2_with fail
  refine hK.out _ _ ?_ (fun hHeld => ?_)
  · exact hB3.out
  clear hK K
  try simp only [Act.put, List.setIfInBounds_toArray, List.set_cons_zero, List.set_cons_succ]
  refine take_on (i := 5) (v := ?_) rfl rfl (by kernel_rfl) (by kernel_rfl) (by kernel_rfl) (fun _ _ _ h => h) rfl ?_ hHeld ?_
  rotate_left
  · (intro wq hSq; have p0 := (hSq.cell (p := ⟨w.heap.size, 0, none⟩) hvl).trans g0; have p1 := (hSq.cell (p := ⟨w.heap.size, 1, none⟩) hvl).trans g1; have p2 := (hSq.cell (p := ⟨w.heap.size, 2, none⟩) hvl).trans g2; have p3 := (hSq.cell (p := ⟨w.heap.size, 3, none⟩) hvl).trans g3; have p4 := (hSq.cell (p := ⟨w2.heap.size, 0, none⟩) hyl).trans y0; have p5 := (hSq.cell (p := ⟨w2.heap.size, 1, none⟩) hyl).trans y1; have p6 := (hSq.cell (p := ⟨w2.heap.size, 2, none⟩) hyl).trans y2; have p7 := (hSq.cell (p := ⟨w2.heap.size, 3, none⟩) hyl).trans y3; have p8 := (hSq.cell (p := ⟨w3.heap.size, 0, none⟩) hzl).trans z0; have p9 := (hSq.cell (p := ⟨w3.heap.size, 1, none⟩) hzl).trans z1; have p10 := (hSq.cell (p := ⟨w3.heap.size, 2, none⟩) hzl).trans z2; have p11 := (hSq.cell (p := ⟨w3.heap.size, 3, none⟩) hzl).trans z3; go_simp <;> first | with_reducible rfl | rfl)
  simp only [Act.put, List.setIfInBounds_toArray, List.set_cons_zero, List.set_cons_succ]
  refine take_on (i := 6) (v := ?_) rfl rfl (by kernel_rfl) (by kernel_rfl) (by kernel_rfl) (fun _ _ _ h => h) rfl ?_ hHeld ?_
  rotate_left
  · (intro wq hSq; have p0 := (hSq.cell (p := ⟨w.heap.size, 0, none⟩) hvl).trans g0; have p1 := (hSq.cell (p := ⟨w.heap.size, 1, none⟩) hvl).trans g1; have p2 := (hSq.cell (p := ⟨w.heap.size, 2, none⟩) hvl).trans g2; have p3 := (hSq.cell (p := ⟨w.heap.size, 3, none⟩) hvl).trans g3; have p4 := (hSq.cell (p := ⟨w2.heap.size, 0, none⟩) hyl).trans y0; have p5 := (hSq.cell (p := ⟨w2.heap.size, 1, none⟩) hyl).trans y1; have p6 := (hSq.cell (p := ⟨w2.heap.size, 2, none⟩) hyl).trans y2; have p7 := (hSq.cell (p := ⟨w2.heap.size, 3, none⟩) hyl).trans y3; have p8 := (hSq.cell (p := ⟨w3.heap.size, 0, none⟩) hzl).trans z0; have p9 := (hSq.cell (p := ⟨w3.heap.size, 1, none⟩) hzl).trans z1; have p10 := (hSq.cell (p := ⟨w3.heap.size, 2, none⟩) hzl).trans z2; have p11 := (hSq.cell (p := ⟨w3.heap.size, 3, none⟩) hzl).trans z3; go_simp <;> first | with_reducible rfl | rfl)
  simp only [Act.put, List.setIfInBounds_toArray, List.set_cons_zero, List.set_cons_succ]
  refine take_on (i := 8) (v := ?_) rfl rfl (by kernel_rfl) (by kernel_rfl) (by kernel_rfl) (fun _ _ _ h => h) rfl ?_ hHeld ?_
  rotate_left
  · (intro wq hSq; have p0 := (hSq.cell (p := ⟨w.heap.size, 0, none⟩) hvl).trans g0; have p1 := (hSq.cell (p := ⟨w.heap.size, 1, none⟩) hvl).trans g1; have p2 := (hSq.cell (p := ⟨w.heap.size, 2, none⟩) hvl).trans g2; have p3 := (hSq.cell (p := ⟨w.heap.size, 3, none⟩) hvl).trans g3; have p4 := (hSq.cell (p := ⟨w2.heap.size, 0, none⟩) hyl).trans y0; have p5 := (hSq.cell (p := ⟨w2.heap.size, 1, none⟩) hyl).trans y1; have p6 := (hSq.cell (p := ⟨w2.heap.size, 2, none⟩) hyl).trans y2; have p7 := (hSq.cell (p := ⟨w2.heap.size, 3, none⟩) hyl).trans y3; have p8 := (hSq.cell (p := ⟨w3.heap.size, 0, none⟩) hzl).trans z0; have p9 := (hSq.cell (p := ⟨w3.heap.size, 1, none⟩) hzl).trans z1; have p10 := (hSq.cell (p := ⟨w3.heap.size, 2, none⟩) hzl).trans z2; have p11 := (hSq.cell (p := ⟨w3.heap.size, 3, none⟩) hzl).trans z3; go_simp <;> first | with_reducible rfl | rfl)
  simp only [Act.put, List.setIfInBounds_toArray, List.set_cons_zero, List.set_cons_succ]
  refine take_one (i := 7) rfl (by kernel_rfl) (fun K hK => ?_)
  go_simp
  refine (hov _ (vrow5.below hHeld)).mono ?_; rintro e q4 ⟨⟨b4, d4, rfl, ho4⟩, hb4⟩; have hB4 := hide_it (hHeld.trans (hb4.mono hHeld.size))
  try go_wp2_with fail
  refine hK.out _ _ ?_ (fun hHeld => ?_)
  · exact hB4.out
  clear hK K
  try simp only [Act.put, List.setIfInBounds_toArray, List.set_cons_zero, List.set_cons_succ]
  refine take_one (i := 9) rfl (by kernel_rfl) (fun K hK => ?_)
  go_simp
  refine (hrov _ (vrow5.below hHeld)).mono ?_; rintro e q5 ⟨⟨b5, d5, rfl, ho5⟩, hb5⟩; have hB5 := hide_it (hHeld.trans (hb5.mono hHeld.size)); replace ho4 := ho4.below hb5; obtain ⟨_, _, e4, hr4, _, _, hn4'⟩ := ho4.row; cases e4; obtain ⟨_, _, e5, hr5, _, _, hn5'⟩ := ho5.row; cases e5; have hsm := same_eq u b4 b5 d4 d5 q5 hr4 hr5 hn4' hn5'; clear ho4 ho5 hr4 hr5 hn4' hn5' hb4 hb5
  try go_wp2_with fail
  refine hK.out _ _ ?_ (fun hHeld => ?_)
  · exact hB5.out
  clear hK K
  try simp only [Act.put, List.setIfInBounds_toArray, List.set_cons_zero, List.set_cons_succ]
  refine take_one (i := 10) rfl (by kernel_rfl) (fun K hK => ?_)
  go_simp
  refine hsm.mono ?_; rintro e q6 ⟨rfl, hb6⟩; have hB6 := hide_it (hHeld.trans (hb6.mono hHeld.size)); clear hsm hb6
  try go_wp2_with fail
  refine hK.out _ _ ?_ (fun hHeld => ?_)
  · exact hB6.out
  clear hK K
  try simp only [Act.put, List.setIfInBounds_toArray, List.set_cons_zero, List.set_cons_succ]
  refine take_on (i := 11) (v := ?_) rfl rfl (by kernel_rfl) (by kernel_rfl) (by kernel_rfl) (fun _ _ _ h => h) rfl ?_ hHeld ?_
  rotate_left
  · (intro wq hSq; have p0 := (hSq.cell (p := ⟨w.heap.size, 0, none⟩) hvl).trans g0; have p1 := (hSq.cell (p := ⟨w.heap.size, 1, none⟩) hvl).trans g1; have p2 := (hSq.cell (p := ⟨w.heap.size, 2, none⟩) hvl).trans g2; have p3 := (hSq.cell (p := ⟨w.heap.size, 3, none⟩) hvl).trans g3; have p4 := (hSq.cell (p := ⟨w2.heap.size, 0, none⟩) hyl).trans y0; have p5 := (hSq.cell (p := ⟨w2.heap.size, 1, none⟩) hyl).trans y1; have p6 := (hSq.cell (p := ⟨w2.heap.size, 2, none⟩) hyl).trans y2; have p7 := (hSq.cell (p := ⟨w2.heap.size, 3, none⟩) hyl).trans y3; have p8 := (hSq.cell (p := ⟨w3.heap.size, 0, none⟩) hzl).trans z0; have p9 := (hSq.cell (p := ⟨w3.heap.size, 1, none⟩) hzl).trans z1; have p10 := (hSq.cell (p := ⟨w3.heap.size, 2, none⟩) hzl).trans z2; have p11 := (hSq.cell (p := ⟨w3.heap.size, 3, none⟩) hzl).trans z3; go_simp <;> first | with_reducible rfl | rfl)
  simp only [Act.put, List.setIfInBounds_toArray, List.set_cons_zero, List.set_cons_succ]
  refine take_on (i := 12) (v := ?_) rfl rfl (by kernel_rfl) (by kernel_rfl) (by kernel_rfl) (fun _ _ _ h => h) rfl ?_ hHeld ?_
  rotate_left
  · (intro wq hSq; have p0 := (hSq.cell (p := ⟨w.heap.size, 0, none⟩) hvl).trans g0; have p1 := (hSq.cell (p := ⟨w.heap.size, 1, none⟩) hvl).trans g1; have p2 := (hSq.cell (p := ⟨w.heap.size, 2, none⟩) hvl).trans g2; have p3 := (hSq.cell (p := ⟨w.heap.size, 3, none⟩) hvl).trans g3; have p4 := (hSq.cell (p := ⟨w2.heap.size, 0, none⟩) hyl).trans y0; have p5 := (hSq.cell (p := ⟨w2.heap.size, 1, none⟩) hyl).trans y1; have p6 := (hSq.cell (p := ⟨w2.heap.size, 2, none⟩) hyl).trans y2; have p7 := (hSq.cell (p := ⟨w2.heap.size, 3, none⟩) hyl).trans y3; have p8 := (hSq.cell (p := ⟨w3.heap.size, 0, none⟩) hzl).trans z0; have p9 := (hSq.cell (p := ⟨w3.heap.size, 1, none⟩) hzl).trans z1; have p10 := (hSq.cell (p := ⟨w3.heap.size, 2, none⟩) hzl).trans z2; have p11 := (hSq.cell (p := ⟨w3.heap.size, 3, none⟩) hzl).trans z3; go_simp <;> first | with_reducible rfl | rfl)
  simp only [Act.put, List.setIfInBounds_toArray, List.set_cons_zero, List.set_cons_succ]
  refine take_on (i := 13) (v := ?_) rfl rfl (by kernel_rfl) (by kernel_rfl) (by kernel_rfl) (fun _ _ _ h => h) rfl ?_ hHeld ?_
  rotate_left
  · (intro wq hSq; have p0 := (hSq.cell (p := ⟨w.heap.size, 0, none⟩) hvl).trans g0; have p1 := (hSq.cell (p := ⟨w.heap.size, 1, none⟩) hvl).trans g1; have p2 := (hSq.cell (p := ⟨w.heap.size, 2, none⟩) hvl).trans g2; have p3 := (hSq.cell (p := ⟨w.heap.size, 3, none⟩) hvl).trans g3; have p4 := (hSq.cell (p := ⟨w2.heap.size, 0, none⟩) hyl).trans y0; have p5 := (hSq.cell (p := ⟨w2.heap.size, 1, none⟩) hyl).trans y1; have p6 := (hSq.cell (p := ⟨w2.heap.size, 2, none⟩) hyl).trans y2; have p7 := (hSq.cell (p := ⟨w2.heap.size, 3, none⟩) hyl).trans y3; have p8 := (hSq.cell (p := ⟨w3.heap.size, 0, none⟩) hzl).trans z0; have p9 := (hSq.cell (p := ⟨w3.heap.size, 1, none⟩) hzl).trans z1; have p10 := (hSq.cell (p := ⟨w3.heap.size, 2, none⟩) hzl).trans z2; have p11 := (hSq.cell (p := ⟨w3.heap.size, 3, none⟩) hzl).trans z3; go_simp <;> first | with_reducible rfl | rfl)
  simp only [Act.put, List.setIfInBounds_toArray, List.set_cons_zero, List.set_cons_succ]
  refine take_on (i := 14) (v := ?_) rfl rfl (by kernel_rfl) (by kernel_rfl) (by kernel_rfl) (fun _ _ _ h => h) rfl ?_ hHeld ?_
  rotate_left
  · (intro wq hSq; have p0 := (hSq.cell (p := ⟨w.heap.size, 0, none⟩) hvl).trans g0; have p1 := (hSq.cell (p := ⟨w.heap.size, 1, none⟩) hvl).trans g1; have p2 := (hSq.cell (p := ⟨w.heap.size, 2, none⟩) hvl).trans g2; have p3 := (hSq.cell (p := ⟨w.heap.size, 3, none⟩) hvl).trans g3; have p4 := (hSq.cell (p := ⟨w2.heap.size, 0, none⟩) hyl).trans y0; have p5 := (hSq.cell (p := ⟨w2.heap.size, 1, none⟩) hyl).trans y1; have p6 := (hSq.cell (p := ⟨w2.heap.size, 2, none⟩) hyl).trans y2; have p7 := (hSq.cell (p := ⟨w2.heap.size, 3, none⟩) hyl).trans y3; have p8 := (hSq.cell (p := ⟨w3.heap.size, 0, none⟩) hzl).trans z0; have p9 := (hSq.cell (p := ⟨w3.heap.size, 1, none⟩) hzl).trans z1; have p10 := (hSq.cell (p := ⟨w3.heap.size, 2, none⟩) hzl).trans z2; have p11 := (hSq.cell (p := ⟨w3.heap.size, 3, none⟩) hzl).trans z3; go_simp <;> first | with_reducible rfl | rfl)
  simp only [Act.put, List.setIfInBounds_toArray, List.set_cons_zero, List.set_cons_succ]
  refine take_on (i := 15) (v := ?_) rfl rfl (by kernel_rfl) (by kernel_rfl) (by kernel_rfl) (fun _ _ _ h => h) rfl ?_ hHeld ?_
  rotate_left
  · (intro wq hSq; have p0 := (hSq.cell (p := ⟨w.heap.size, 0, none⟩) hvl).trans g0; have p1 := (hSq.cell (p := ⟨w.heap.size, 1, none⟩) hvl).trans g1; have p2 := (hSq.cell (p := ⟨w.heap.size, 2, none⟩) hvl).trans g2; have p3 := (hSq.cell (p := ⟨w.heap.size, 3, none⟩) hvl).trans g3; have p4 := (hSq.cell (p := ⟨w2.heap.size, 0, none⟩) hyl).trans y0; have p5 := (hSq.cell (p := ⟨w2.heap.size, 1, none⟩) hyl).trans y1; have p6 := (hSq.cell (p := ⟨w2.heap.size, 2, none⟩) hyl).trans y2; have p7 := (hSq.cell (p := ⟨w2.heap.size, 3, none⟩) hyl).trans y3; have p8 := (hSq.cell (p := ⟨w3.heap.size, 0, none⟩) hzl).trans z0; have p9 := (hSq.cell (p := ⟨w3.heap.size, 1, none⟩) hzl).trans z1; have p10 := (hSq.cell (p := ⟨w3.heap.size, 2, none⟩) hzl).trans z2; have p11 := (hSq.cell (p := ⟨w3.heap.size, 3, none⟩) hzl).trans z3; go_simp <;> first | with_reducible rfl | rfl)
  simp only [Act.put, List.setIfInBounds_toArray, List.set_cons_zero, List.set_cons_succ]
  refine take_on (i := 16) (v := ?_) rfl rfl (by kernel_rfl) (by kernel_rfl) (by kernel_rfl) (fun _ _ _ h => h) rfl ?_ hHeld ?_
  rotate_left
  · (intro wq hSq; have p0 := (hSq.cell (p := ⟨w.heap.size, 0, none⟩) hvl).trans g0; have p1 := (hSq.cell (p := ⟨w.heap.size, 1, none⟩) hvl).trans g1; have p2 := (hSq.cell (p := ⟨w.heap.size, 2, none⟩) hvl).trans g2; have p3 := (hSq.cell (p := ⟨w.heap.size, 3, none⟩) hvl).trans g3; have p4 := (hSq.cell (p := ⟨w2.heap.size, 0, none⟩) hyl).trans y0; have p5 := (hSq.cell (p := ⟨w2.heap.size, 1, none⟩) hyl).trans y1; have p6 := (hSq.cell (p := ⟨w2.heap.size, 2, none⟩) hyl).trans y2; have p7 := (hSq.cell (p := ⟨w2.heap.size, 3, none⟩) hyl).trans y3; have p8 := (hSq.cell (p := ⟨w3.heap.size, 0, none⟩) hzl).trans z0; have p9 := (hSq.cell (p := ⟨w3.heap.size, 1, none⟩) hzl).trans z1; have p10 := (hSq.cell (p := ⟨w3.heap.size, 2, none⟩) hzl).trans z2; have p11 := (hSq.cell (p := ⟨w3.heap.size, 3, none⟩) hzl).trans z3; go_simp <;> first | with_reducible rfl | rfl)
  simp only [Act.put, List.setIfInBounds_toArray, List.set_cons_zero, List.set_cons_succ]
  refine take_on (i := 17) (v := ?_) rfl rfl (by kernel_rfl) (by kernel_rfl) (by kernel_rfl) (fun _ _ _ h => h) rfl ?_ hHeld ?_
  rotate_left
  · (intro wq hSq; have p0 := (hSq.cell (p := ⟨w.heap.size, 0, none⟩) hvl).trans g0; have p1 := (hSq.cell (p := ⟨w.heap.size, 1, none⟩) hvl).trans g1; have p2 := (hSq.cell (p := ⟨w.heap.size, 2, none⟩) hvl).trans g2; have p3 := (hSq.cell (p := ⟨w.heap.size, 3, none⟩) hvl).trans g3; have p4 := (hSq.cell (p := ⟨w2.heap.size, 0, none⟩) hyl).trans y0; have p5 := (hSq.cell (p := ⟨w2.heap.size, 1, none⟩) hyl).trans y1; have p6 := (hSq.cell (p := ⟨w2.heap.size, 2, none⟩) hyl).trans y2; have p7 := (hSq.cell (p := ⟨w2.heap.size, 3, none⟩) hyl).trans y3; have p8 := (hSq.cell (p := ⟨w3.heap.size, 0, none⟩) hzl).trans z0; have p9 := (hSq.cell (p := ⟨w3.heap.size, 1, none⟩) hzl).trans z1; have p10 := (hSq.cell (p := ⟨w3.heap.size, 2, none⟩) hzl).trans z2; have p11 := (hSq.cell (p := ⟨w3.heap.size, 3, none⟩) hzl).trans z3; go_simp <;> first | with_reducible rfl | rfl)
  simp only [Act.put, List.setIfInBounds_toArray, List.set_cons_zero, List.set_cons_succ]
  refine take_on (i := 18) (v := ?_) rfl rfl (by kernel_rfl) (by kernel_rfl) (by kernel_rfl) (fun _ _ _ h => h) rfl ?_ hHeld ?_
  rotate_left
  · (intro wq hSq; have p0 := (hSq.cell (p := ⟨w.heap.size, 0, none⟩) hvl).trans g0; have p1 := (hSq.cell (p := ⟨w.heap.size, 1, none⟩) hvl).trans g1; have p2 := (hSq.cell (p := ⟨w.heap.size, 2, none⟩) hvl).trans g2; have p3 := (hSq.cell (p := ⟨w.heap.size, 3, none⟩) hvl).trans g3; have p4 := (hSq.cell (p := ⟨w2.heap.size, 0, none⟩) hyl).trans y0; have p5 := (hSq.cell (p := ⟨w2.heap.size, 1, none⟩) hyl).trans y1; have p6 := (hSq.cell (p := ⟨w2.heap.size, 2, none⟩) hyl).trans y2; have p7 := (hSq.cell (p := ⟨w2.heap.size, 3, none⟩) hyl).trans y3; have p8 := (hSq.cell (p := ⟨w3.heap.size, 0, none⟩) hzl).trans z0; have p9 := (hSq.cell (p := ⟨w3.heap.size, 1, none⟩) hzl).trans z1; have p10 := (hSq.cell (p := ⟨w3.heap.size, 2, none⟩) hzl).trans z2; have p11 := (hSq.cell (p := ⟨w3.heap.size, 3, none⟩) hzl).trans z3; go_simp <;> first | with_reducible rfl | rfl)
  simp only [Act.put, List.setIfInBounds_toArray, List.set_cons_zero, List.set_cons_succ]
  refine take_on (i := 19) (v := ?_) rfl rfl (by kernel_rfl) (by kernel_rfl) (by kernel_rfl) (fun _ _ _ h => h) rfl ?_ hHeld ?_
  rotate_left
  · (intro wq hSq; have p0 := (hSq.cell (p := ⟨w.heap.size, 0, none⟩) hvl).trans g0; have p1 := (hSq.cell (p := ⟨w.heap.size, 1, none⟩) hvl).trans g1; have p2 := (hSq.cell (p := ⟨w.heap.size, 2, none⟩) hvl).trans g2; have p3 := (hSq.cell (p := ⟨w.heap.size, 3, none⟩) hvl).trans g3; have p4 := (hSq.cell (p := ⟨w2.heap.size, 0, none⟩) hyl).trans y0; have p5 := (hSq.cell (p := ⟨w2.heap.size, 1, none⟩) hyl).trans y1; have p6 := (hSq.cell (p := ⟨w2.heap.size, 2, none⟩) hyl).trans y2; have p7 := (hSq.cell (p := ⟨w2.heap.size, 3, none⟩) hyl).trans y3; have p8 := (hSq.cell (p := ⟨w3.heap.size, 0, none⟩) hzl).trans z0; have p9 := (hSq.cell (p := ⟨w3.heap.size, 1, none⟩) hzl).trans z1; have p10 := (hSq.cell (p := ⟨w3.heap.size, 2, none⟩) hzl).trans z2; have p11 := (hSq.cell (p := ⟨w3.heap.size, 3, none⟩) hzl).trans z3; go_simp <;> first | with_reducible rfl | rfl)
  simp only [Act.put, List.setIfInBounds_toArray, List.set_cons_zero, List.set_cons_succ]
  refine take_one (i := 20) rfl (by kernel_rfl) (fun K hK => ?_)
  go_simp
  refine (sameV_eq ⟨yk, ys, yv, yd⟩ a2 a3 c2' c3' _ (hrow5.below hHeld) (hrow4.below hHeld) hn5 hn4).mono ?_; rintro e q7 ⟨rfl, hb7⟩; have hB7 := hide_it (hHeld.trans (hb7.mono hHeld.size)); clear hb7
  try go_wp2_with fail
  refine hK.out _ _ ?_ (fun hHeld => ?_)
  · exact hB7.out
  clear hK K
  try simp only [Act.put, List.setIfInBounds_toArray, List.set_cons_zero, List.set_cons_succ]
  refine take_on (i := 21) (v := ?_) rfl rfl (by kernel_rfl) (by kernel_rfl) (by kernel_rfl) (fun _ _ _ h => h) rfl ?_ hHeld ?_
  rotate_left
  · (intro wq hSq; have p0 := (hSq.cell (p := ⟨w.heap.size, 0, none⟩) hvl).trans g0; have p1 := (hSq.cell (p := ⟨w.heap.size, 1, none⟩) hvl).trans g1; have p2 := (hSq.cell (p := ⟨w.heap.size, 2, none⟩) hvl).trans g2; have p3 := (hSq.cell (p := ⟨w.heap.size, 3, none⟩) hvl).trans g3; have p4 := (hSq.cell (p := ⟨w2.heap.size, 0, none⟩) hyl).trans y0; have p5 := (hSq.cell (p := ⟨w2.heap.size, 1, none⟩) hyl).trans y1; have p6 := (hSq.cell (p := ⟨w2.heap.size, 2, none⟩) hyl).trans y2; have p7 := (hSq.cell (p := ⟨w2.heap.size, 3, none⟩) hyl).trans y3; have p8 := (hSq.cell (p := ⟨w3.heap.size, 0, none⟩) hzl).trans z0; have p9 := (hSq.cell (p := ⟨w3.heap.size, 1, none⟩) hzl).trans z1; have p10 := (hSq.cell (p := ⟨w3.heap.size, 2, none⟩) hzl).trans z2; have p11 := (hSq.cell (p := ⟨w3.heap.size, 3, none⟩) hzl).trans z3; go_simp <;> first | with_reducible rfl | rfl)
  simp only [Act.put, List.setIfInBounds_toArray, List.set_cons_zero, List.set_cons_succ]
  refine take_on (i := 22) (v := ?_) rfl rfl (by kernel_rfl) (by kernel_rfl) (by kernel_rfl) (fun _ _ _ h => h) rfl ?_ hHeld ?_
  rotate_left
  · (intro wq hSq; have p0 := (hSq.cell (p := ⟨w.heap.size, 0, none⟩) hvl).trans g0; have p1 := (hSq.cell (p := ⟨w.heap.size, 1, none⟩) hvl).trans g1; have p2 := (hSq.cell (p := ⟨w.heap.size, 2, none⟩) hvl).trans g2; have p3 := (hSq.cell (p := ⟨w.heap.size, 3, none⟩) hvl).trans g3; have p4 := (hSq.cell (p := ⟨w2.heap.size, 0, none⟩) hyl).trans y0; have p5 := (hSq.cell (p := ⟨w2.heap.size, 1, none⟩) hyl).trans y1; have p6 := (hSq.cell (p := ⟨w2.heap.size, 2, none⟩) hyl).trans y2; have p7 := (hSq.cell (p := ⟨w2.heap.size, 3, none⟩) hyl).trans y3; have p8 := (hSq.cell (p := ⟨w3.heap.size, 0, none⟩) hzl).trans z0; have p9 := (hSq.cell (p := ⟨w3.heap.size, 1, none⟩) hzl).trans z1; have p10 := (hSq.cell (p := ⟨w3.heap.size, 2, none⟩) hzl).trans z2; have p11 := (hSq.cell (p := ⟨w3.heap.size, 3, none⟩) hzl).trans z3; go_simp <;> first | with_reducible rfl | rfl)
  simp only [Act.put, List.setIfInBounds_toArray, List.set_cons_zero, List.set_cons_succ]
  refine take_one (i := 23) rfl (by kernel_rfl) (fun K hK => ?_)
  go_simp
  refine (awake_any _).mono ?_; rintro e q8 ⟨rfl, hb8⟩; have hB8 := hide_it (hHeld.trans (hb8.mono hHeld.size)); clear hb8
  try go_wp2_with fail
  refine hK.out _ _ ?_ (fun hHeld => ?_)
  · exact hB8.out
  clear hK K
  try simp only [Act.put, List.setIfInBounds_toArray, List.set_cons_zero, List.set_cons_succ]
  refine take_on (i := 24) (v := ?_) rfl rfl (by kernel_rfl) (by kernel_rfl) (by kernel_rfl) (fun _ _ _ h => h) rfl ?_ hHeld ?_
  rotate_left
  · (intro wq hSq; have p0 := (hSq.cell (p := ⟨w.heap.size, 0, none⟩) hvl).trans g0; have p1 := (hSq.cell (p := ⟨w.heap.size, 1, none⟩) hvl).trans g1; have p2 := (hSq.cell (p := ⟨w.heap.size, 2, none⟩) hvl).trans g2; have p3 := (hSq.cell (p := ⟨w.heap.size, 3, none⟩) hvl).trans g3; have p4 := (hSq.cell (p := ⟨w2.heap.size, 0, none⟩) hyl).trans y0; have p5 := (hSq.cell (p := ⟨w2.heap.size, 1, none⟩) hyl).trans y1; have p6 := (hSq.cell (p := ⟨w2.heap.size, 2, none⟩) hyl).trans y2; have p7 := (hSq.cell (p := ⟨w2.heap.size, 3, none⟩) hyl).trans y3; have p8 := (hSq.cell (p := ⟨w3.heap.size, 0, none⟩) hzl).trans z0; have p9 := (hSq.cell (p := ⟨w3.heap.size, 1, none⟩) hzl).trans z1; have p10 := (hSq.cell (p := ⟨w3.heap.size, 2, none⟩) hzl).trans z2; have p11 := (hSq.cell (p := ⟨w3.heap.size, 3, none⟩) hzl).trans z3; go_simp <;> first | with_reducible rfl | rfl)
  simp only [Act.put, List.setIfInBounds_toArray, List.set_cons_zero, List.set_cons_succ]
  refine take_on (i := 25) (v := ?_) rfl rfl (by kernel_rfl) (by kernel_rfl) (by kernel_rfl) (fun _ _ _ h => h) rfl ?_ hHeld ?_
  rotate_left
  · (intro wq hSq; have p0 := (hSq.cell (p := ⟨w.heap.size, 0, none⟩) hvl).trans g0; have p1 := (hSq.cell (p := ⟨w.heap.size, 1, none⟩) hvl).trans g1; have p2 := (hSq.cell (p := ⟨w.heap.size, 2, none⟩) hvl).trans g2; have p3 := (hSq.cell (p := ⟨w.heap.size, 3, none⟩) hvl).trans g3; have p4 := (hSq.cell (p := ⟨w2.heap.size, 0, none⟩) hyl).trans y0; have p5 := (hSq.cell (p := ⟨w2.heap.size, 1, none⟩) hyl).trans y1; have p6 := (hSq.cell (p := ⟨w2.heap.size, 2, none⟩) hyl).trans y2; have p7 := (hSq.cell (p := ⟨w2.heap.size, 3, none⟩) hyl).trans y3; have p8 := (hSq.cell (p := ⟨w3.heap.size, 0, none⟩) hzl).trans z0; have p9 := (hSq.cell (p := ⟨w3.heap.size, 1, none⟩) hzl).trans z1; have p10 := (hSq.cell (p := ⟨w3.heap.size, 2, none⟩) hzl).trans z2; have p11 := (hSq.cell (p := ⟨w3.heap.size, 3, none⟩) hzl).trans z3; go_simp <;> first | with_reducible rfl | rfl)
  simp only [Act.put, List.setIfInBounds_toArray, List.set_cons_zero, List.set_cons_succ]
  refine wpAnyH_done (by kernel_rfl) ?_ _
  have hend := HBW5.out.trans (hB8.out.mono HBW5.out.size)
  clear how hrow hov hrov HBW5
  go_wp2_with fail
  go_ret
  exact ⟨rfl, hend⟩
end Go.Proofs.Ytlhlpofmeeiffaa.entryOfs

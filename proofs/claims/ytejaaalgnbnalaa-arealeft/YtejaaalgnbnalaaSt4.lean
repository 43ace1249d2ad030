/- A step of both areas, walked: Read, Bounds, Image, other numbers. -/
import Derived.Test.YtejaaalgnbnalaaSt3
namespace Go.Proofs.Ytejaaalgnbnalaa
open Go.RowKit

theorem Stepd.look {w w' : World} {F : Nat → Prop} {pp p : Nat} {v da sa : Value} {B : Nat} {bs : List Nat} {k : Nat} (h : Md w F pp p v da sa B bs k B bs k) (hb : Below w.heap.size w w') : Stepd w F pp B bs k (.returned (.bool true)) w' :=
  ⟨rfl, ⟨p, v, da, sa, (h.below hb).mono fun _ h => .inl h⟩, Chg.new hb⟩

set_option maxRecDepth 100000 in
set_option maxHeartbeats 3200000 in
theorem step5 (a b : Int) (d : Pc) (w : World) (F : Nat → Prop) (pp B : Nat) (bs : List Nat) (k : Nat) (h : Pm w F pp B bs k) (code : Int) (ys : List Nat)
    (hprog : ∀ W p v, Ar W p 0 v B bs k → Calls Try.prog 15 #[.pointer (some ⟨p, 0, none⟩), .int .i64 a, .int .i64 b] W fun e w' => Tells W ys code e w')
    (hdoc : ∀ W da sa, Dv W da sa bs k → Calls Try.prog 28 #[.agg #[.int .i64 (B : Int), da, sa], .int .i64 a, .int .i64 b] W fun e w' => Tells W ys code e w') :
    Calls Try.prog 17 #[.pointer (some ⟨pp, 0, none⟩), valS ⟨5, a, b, d⟩] w fun e w' => e = .returned (.bool true) ∧ Below w.heap.size w w' := by
  obtain ⟨p, v, da, sa, hM⟩ := h
  have hq0 := BoxS.new w ⟨5, a, b, d⟩
  obtain ⟨xa, xc, zs⟩ := d
  obtain ⟨W0, hW0⟩ : ∃ W0, W0 = w.alloc (.cells #[.int .i64 5, .int .i64 a, .int .i64 b, .slice xa zs.length xc] 47) := ⟨_, rfl⟩
  simp only at hq0
  rw [← hW0] at hq0
  have hb0 : Below w.heap.size w W0 := by rw [hW0]; exact (Below.refl _ _).alloc (Nat.le_refl _) _
  have hM0 := hM.below hb0
  obtain ⟨⟨p0, p1, p2, p3⟩, _⟩ := hM0.cells
  obtain ⟨s0, s1, s2, s3⟩ := hq0.cells
  have hpl := hM0.lt
  have hs0 := hq0.lt
  have hcr := hprog W0.drew p v (hM0.ar.below (Below.refl _ _).drew)
  have hdc := fun W (hb : Below W0.heap.size W0 W) => hdoc W da sa (hM0.dv.below hb)
  obtain ⟨a1, c1, a2, c2, hda, hsa, _⟩ := hM0.dv.open
  subst hda
  subst hsa
  replace hM := hide_it hM
  clear hprog hdoc hM0
  show Calls Try.prog _ #[.pointer (some ⟨pp, 0, none⟩), .agg #[.int .i64 5, .int .i64 a, .int .i64 b, .slice xa zs.length xc]] w _
  go_enter Try.func17, Try.ntmps17
  go_wp2_with fail
  rw [← hW0]
  clear hW0
  refine wp_region_held_drew (S := (fun w' => Below W0.heap.size W0 w')) (by kernel_rfl) ?_ (fun hHeld => ?_)
  · exact (Below.refl _ _).drew
  refine take_on (i := 0) (v := ?_) rfl rfl (by kernel_rfl) (by kernel_rfl) (by kernel_rfl) (fun _ _ _ h => h) rfl ?_ hHeld ?_
  rotate_left
  · (intro wq hSq; have q0 := (hSq.cell (p := ⟨pp, 0, none⟩) hpl).trans p0; have q1 := (hSq.cell (p := ⟨w.heap.size, 1, none⟩) hs0).trans s1; have q2 := (hSq.cell (p := ⟨w.heap.size, 2, none⟩) hs0).trans s2; go_simp <;> first | with_reducible rfl | rfl)
  simp only [Act.put, List.setIfInBounds_toArray, List.set_cons_zero, List.set_cons_succ]
  refine take_on (i := 1) (v := ?_) rfl rfl (by kernel_rfl) (by kernel_rfl) (by kernel_rfl) (fun _ _ _ h => h) rfl ?_ hHeld ?_
  rotate_left
  · (intro wq hSq; have q0 := (hSq.cell (p := ⟨pp, 0, none⟩) hpl).trans p0; have q1 := (hSq.cell (p := ⟨w.heap.size, 1, none⟩) hs0).trans s1; have q2 := (hSq.cell (p := ⟨w.heap.size, 2, none⟩) hs0).trans s2; go_simp <;> first | with_reducible rfl | rfl)
  simp only [Act.put, List.setIfInBounds_toArray, List.set_cons_zero, List.set_cons_succ]
  refine take_on (i := 2) (v := ?_) rfl rfl (by kernel_rfl) (by kernel_rfl) (by kernel_rfl) (fun _ _ _ h => h) rfl ?_ hHeld ?_
  rotate_left
  · (intro wq hSq; have q0 := (hSq.cell (p := ⟨pp, 0, none⟩) hpl).trans p0; have q1 := (hSq.cell (p := ⟨w.heap.size, 1, none⟩) hs0).trans s1; have q2 := (hSq.cell (p := ⟨w.heap.size, 2, none⟩) hs0).trans s2; go_simp <;> first | with_reducible rfl | rfl)
  simp only [Act.put, List.setIfInBounds_toArray, List.set_cons_zero, List.set_cons_succ]
  refine take_on (i := 3) (v := ?_) rfl rfl (by kernel_rfl) (by kernel_rfl) (by kernel_rfl) (fun _ _ _ h => h) rfl ?_ hHeld ?_
  rotate_left
  · (intro wq hSq; have q0 := (hSq.cell (p := ⟨pp, 0, none⟩) hpl).trans p0; have q1 := (hSq.cell (p := ⟨w.heap.size, 1, none⟩) hs0).trans s1; have q2 := (hSq.cell (p := ⟨w.heap.size, 2, none⟩) hs0).trans s2; go_simp <;> first | with_reducible rfl | rfl)
  simp only [Act.put, List.setIfInBounds_toArray, List.set_cons_zero, List.set_cons_succ]
  refine take_on (i := 4) (v := ?_) rfl rfl (by kernel_rfl) (by kernel_rfl) (by kernel_rfl) (fun _ _ _ h => h) rfl ?_ hHeld ?_
  rotate_left
  · (intro wq hSq; have q0 := (hSq.cell (p := ⟨pp, 0, none⟩) hpl).trans p0; have q1 := (hSq.cell (p := ⟨w.heap.size, 1, none⟩) hs0).trans s1; have q2 := (hSq.cell (p := ⟨w.heap.size, 2, none⟩) hs0).trans s2; go_simp <;> first | with_reducible rfl | rfl)
  simp only [Act.put, List.setIfInBounds_toArray, List.set_cons_zero, List.set_cons_succ]
  refine take_on (i := 5) (v := ?_) rfl rfl (by kernel_rfl) (by kernel_rfl) (by kernel_rfl) (fun _ _ _ h => h) rfl ?_ hHeld ?_
  rotate_left
  · (intro wq hSq; have q0 := (hSq.cell (p := ⟨pp, 0, none⟩) hpl).trans p0; have q1 := (hSq.cell (p := ⟨w.heap.size, 1, none⟩) hs0).trans s1; have q2 := (hSq.cell (p := ⟨w.heap.size, 2, none⟩) hs0).trans s2; go_simp <;> first | with_reducible rfl | rfl)
  simp only [Act.put, List.setIfInBounds_toArray, List.set_cons_zero, List.set_cons_succ]
  refine take_on (i := 6) (v := ?_) rfl rfl (by kernel_rfl) (by kernel_rfl) (by kernel_rfl) (fun _ _ _ h => h) rfl ?_ hHeld ?_
  rotate_left
  · (intro wq hSq; have q0 := (hSq.cell (p := ⟨pp, 0, none⟩) hpl).trans p0; have q1 := (hSq.cell (p := ⟨w.heap.size, 1, none⟩) hs0).trans s1; have q2 := (hSq.cell (p := ⟨w.heap.size, 2, none⟩) hs0).trans s2; go_simp <;> first | with_reducible rfl | rfl)
  simp only [Act.put, List.setIfInBounds_toArray, List.set_cons_zero, List.set_cons_succ]
  refine take_on (i := 7) (v := ?_) rfl rfl (by kernel_rfl) (by kernel_rfl) (by kernel_rfl) (fun _ _ _ h => h) rfl ?_ hHeld ?_
  rotate_left
  · (intro wq hSq; have q0 := (hSq.cell (p := ⟨pp, 0, none⟩) hpl).trans p0; have q1 := (hSq.cell (p := ⟨w.heap.size, 1, none⟩) hs0).trans s1; have q2 := (hSq.cell (p := ⟨w.heap.size, 2, none⟩) hs0).trans s2; go_simp <;> first | with_reducible rfl | rfl)
  simp only [Act.put, List.setIfInBounds_toArray, List.set_cons_zero, List.set_cons_succ]
  refine take_one (i := 8) rfl (by kernel_rfl) (fun K hK => ?_)
  go_simp
  refine hcr.mono ?_; rintro e y1 ⟨⟨r1, rfl, ho1⟩, hb1⟩; have hy1 : Below W0.heap.size W0 y1 := (Below.refl _ _).drew.trans hb1
  try go_wp2_with fail
  refine hK.out _ _ ?_ (fun hHeld => ?_)
  · exact hy1
  clear hK K
  try simp only [Act.put, List.setIfInBounds_toArray, List.set_cons_zero, List.set_cons_succ]
  refine take_on (i := 9) (v := ?_) rfl rfl (by kernel_rfl) (by kernel_rfl) (by kernel_rfl) (fun _ _ _ h => h) rfl ?_ hHeld ?_
  rotate_left
  · (intro wq hSq; have q0 := (hSq.cell (p := ⟨pp, 0, none⟩) hpl).trans p0; have q1 := (hSq.cell (p := ⟨w.heap.size, 1, none⟩) hs0).trans s1; have q2 := (hSq.cell (p := ⟨w.heap.size, 2, none⟩) hs0).trans s2; go_simp <;> first | with_reducible rfl | rfl)
  simp only [Act.put, List.setIfInBounds_toArray, List.set_cons_zero, List.set_cons_succ]
  refine take_on (i := 10) (v := ?_) rfl rfl (by kernel_rfl) (by kernel_rfl) (by kernel_rfl) (fun _ _ _ h => h) rfl ?_ hHeld ?_
  rotate_left
  · (intro wq hSq; have q0 := (hSq.cell (p := ⟨pp, 0, none⟩) hpl).trans p0; have q1 := (hSq.cell (p := ⟨w.heap.size, 1, none⟩) hs0).trans s1; have q2 := (hSq.cell (p := ⟨w.heap.size, 2, none⟩) hs0).trans s2; go_simp <;> first | with_reducible rfl | rfl)
  simp only [Act.put, List.setIfInBounds_toArray, List.set_cons_zero, List.set_cons_succ]
  refine take_on (i := 11) (v := ?_) rfl rfl (by kernel_rfl) (by kernel_rfl) (by kernel_rfl) (fun _ _ _ h => h) rfl ?_ hHeld ?_
  rotate_left
  · (intro wq hSq; have q0 := (hSq.cell (p := ⟨pp, 0, none⟩) hpl).trans p0; have q1 := (hSq.cell (p := ⟨w.heap.size, 1, none⟩) hs0).trans s1; have q2 := (hSq.cell (p := ⟨w.heap.size, 2, none⟩) hs0).trans s2; go_simp <;> first | with_reducible rfl | rfl)
  simp only [Act.put, List.setIfInBounds_toArray, List.set_cons_zero, List.set_cons_succ]
  refine take_on (i := 12) (v := ?_) rfl rfl (by kernel_rfl) (by kernel_rfl) (by kernel_rfl) (fun _ _ _ h => h) rfl ?_ hHeld ?_
  rotate_left
  · (intro wq hSq; have q0 := (hSq.cell (p := ⟨pp, 0, none⟩) hpl).trans p0; have q1 := (hSq.cell (p := ⟨w.heap.size, 1, none⟩) hs0).trans s1; have q2 := (hSq.cell (p := ⟨w.heap.size, 2, none⟩) hs0).trans s2; go_simp <;> first | with_reducible rfl | rfl)
  simp only [Act.put, List.setIfInBounds_toArray, List.set_cons_zero, List.set_cons_succ]
  refine take_on (i := 13) (v := ?_) rfl rfl (by kernel_rfl) (by kernel_rfl) (by kernel_rfl) (fun _ _ _ h => h) rfl ?_ hHeld ?_
  rotate_left
  · (intro wq hSq; have q0 := (hSq.cell (p := ⟨pp, 0, none⟩) hpl).trans p0; have q1 := (hSq.cell (p := ⟨w.heap.size, 1, none⟩) hs0).trans s1; have q2 := (hSq.cell (p := ⟨w.heap.size, 2, none⟩) hs0).trans s2; go_simp <;> first | with_reducible rfl | rfl)
  simp only [Act.put, List.setIfInBounds_toArray, List.set_cons_zero, List.set_cons_succ]
  refine wpAnyH_done (by kernel_rfl) ?_ _
  have hdc1 := hdc y1.drew hy1.drew
  clear hcr hdc
  go_wp2_with fail
  refine wp_region_held_drew (S := (fun w' => Below W0.heap.size W0 w')) (by kernel_rfl) ?_ (fun hHeld => ?_)
  · exact hy1.drew
  refine take_on (i := 0) (v := ?_) rfl rfl (by kernel_rfl) (by kernel_rfl) (by kernel_rfl) (fun _ _ _ h => h) rfl ?_ hHeld ?_
  rotate_left
  · (intro wq hSq; have q0 := (hSq.cell (p := ⟨pp, 1, none⟩) hpl).trans p1; have q00 := (hSq.cell (p := ⟨pp, 2, none⟩) hpl).trans p2; have q01 := (hSq.cell (p := ⟨pp, 3, none⟩) hpl).trans p3; have q1 := (hSq.cell (p := ⟨w.heap.size, 1, none⟩) hs0).trans s1; have q2 := (hSq.cell (p := ⟨w.heap.size, 2, none⟩) hs0).trans s2; go_simp <;> first | with_reducible rfl | rfl)
  simp only [Act.put, List.setIfInBounds_toArray, List.set_cons_zero, List.set_cons_succ]
  refine take_on (i := 1) (v := ?_) rfl rfl (by kernel_rfl) (by kernel_rfl) (by kernel_rfl) (fun _ _ _ h => h) rfl ?_ hHeld ?_
  rotate_left
  · (intro wq hSq; have q0 := (hSq.cell (p := ⟨pp, 1, none⟩) hpl).trans p1; have q00 := (hSq.cell (p := ⟨pp, 2, none⟩) hpl).trans p2; have q01 := (hSq.cell (p := ⟨pp, 3, none⟩) hpl).trans p3; have q1 := (hSq.cell (p := ⟨w.heap.size, 1, none⟩) hs0).trans s1; have q2 := (hSq.cell (p := ⟨w.heap.size, 2, none⟩) hs0).trans s2; go_simp <;> first | with_reducible rfl | rfl)
  simp only [Act.put, List.setIfInBounds_toArray, List.set_cons_zero, List.set_cons_succ]
  refine take_on (i := 2) (v := ?_) rfl rfl (by kernel_rfl) (by kernel_rfl) (by kernel_rfl) (fun _ _ _ h => h) rfl ?_ hHeld ?_
  rotate_left
  · (intro wq hSq; have q0 := (hSq.cell (p := ⟨pp, 1, none⟩) hpl).trans p1; have q00 := (hSq.cell (p := ⟨pp, 2, none⟩) hpl).trans p2; have q01 := (hSq.cell (p := ⟨pp, 3, none⟩) hpl).trans p3; have q1 := (hSq.cell (p := ⟨w.heap.size, 1, none⟩) hs0).trans s1; have q2 := (hSq.cell (p := ⟨w.heap.size, 2, none⟩) hs0).trans s2; go_simp <;> first | with_reducible rfl | rfl)
  simp only [Act.put, List.setIfInBounds_toArray, List.set_cons_zero, List.set_cons_succ]
  refine take_on (i := 3) (v := ?_) rfl rfl (by kernel_rfl) (by kernel_rfl) (by kernel_rfl) (fun _ _ _ h => h) rfl ?_ hHeld ?_
  rotate_left
  · (intro wq hSq; have q0 := (hSq.cell (p := ⟨pp, 1, none⟩) hpl).trans p1; have q00 := (hSq.cell (p := ⟨pp, 2, none⟩) hpl).trans p2; have q01 := (hSq.cell (p := ⟨pp, 3, none⟩) hpl).trans p3; have q1 := (hSq.cell (p := ⟨w.heap.size, 1, none⟩) hs0).trans s1; have q2 := (hSq.cell (p := ⟨w.heap.size, 2, none⟩) hs0).trans s2; go_simp <;> first | with_reducible rfl | rfl)
  simp only [Act.put, List.setIfInBounds_toArray, List.set_cons_zero, List.set_cons_succ]
  refine take_on (i := 4) (v := ?_) rfl rfl (by kernel_rfl) (by kernel_rfl) (by kernel_rfl) (fun _ _ _ h => h) rfl ?_ hHeld ?_
  rotate_left
  · (intro wq hSq; have q0 := (hSq.cell (p := ⟨pp, 1, none⟩) hpl).trans p1; have q00 := (hSq.cell (p := ⟨pp, 2, none⟩) hpl).trans p2; have q01 := (hSq.cell (p := ⟨pp, 3, none⟩) hpl).trans p3; have q1 := (hSq.cell (p := ⟨w.heap.size, 1, none⟩) hs0).trans s1; have q2 := (hSq.cell (p := ⟨w.heap.size, 2, none⟩) hs0).trans s2; go_simp <;> first | with_reducible rfl | rfl)
  simp only [Act.put, List.setIfInBounds_toArray, List.set_cons_zero, List.set_cons_succ]
  refine take_on (i := 5) (v := ?_) rfl rfl (by kernel_rfl) (by kernel_rfl) (by kernel_rfl) (fun _ _ _ h => h) rfl ?_ hHeld ?_
  rotate_left
  · (intro wq hSq; have q0 := (hSq.cell (p := ⟨pp, 1, none⟩) hpl).trans p1; have q00 := (hSq.cell (p := ⟨pp, 2, none⟩) hpl).trans p2; have q01 := (hSq.cell (p := ⟨pp, 3, none⟩) hpl).trans p3; have q1 := (hSq.cell (p := ⟨w.heap.size, 1, none⟩) hs0).trans s1; have q2 := (hSq.cell (p := ⟨w.heap.size, 2, none⟩) hs0).trans s2; go_simp <;> first | with_reducible rfl | rfl)
  simp only [Act.put, List.setIfInBounds_toArray, List.set_cons_zero, List.set_cons_succ]
  refine take_on (i := 6) (v := ?_) rfl rfl (by kernel_rfl) (by kernel_rfl) (by kernel_rfl) (fun _ _ _ h => h) rfl ?_ hHeld ?_
  rotate_left
  · (intro wq hSq; have q0 := (hSq.cell (p := ⟨pp, 1, none⟩) hpl).trans p1; have q00 := (hSq.cell (p := ⟨pp, 2, none⟩) hpl).trans p2; have q01 := (hSq.cell (p := ⟨pp, 3, none⟩) hpl).trans p3; have q1 := (hSq.cell (p := ⟨w.heap.size, 1, none⟩) hs0).trans s1; have q2 := (hSq.cell (p := ⟨w.heap.size, 2, none⟩) hs0).trans s2; go_simp <;> first | with_reducible rfl | rfl)
  simp only [Act.put, List.setIfInBounds_toArray, List.set_cons_zero, List.set_cons_succ]
  refine take_on (i := 7) (v := ?_) rfl rfl (by kernel_rfl) (by kernel_rfl) (by kernel_rfl) (fun _ _ _ h => h) rfl ?_ hHeld ?_
  rotate_left
  · (intro wq hSq; have q0 := (hSq.cell (p := ⟨pp, 1, none⟩) hpl).trans p1; have q00 := (hSq.cell (p := ⟨pp, 2, none⟩) hpl).trans p2; have q01 := (hSq.cell (p := ⟨pp, 3, none⟩) hpl).trans p3; have q1 := (hSq.cell (p := ⟨w.heap.size, 1, none⟩) hs0).trans s1; have q2 := (hSq.cell (p := ⟨w.heap.size, 2, none⟩) hs0).trans s2; go_simp <;> first | with_reducible rfl | rfl)
  simp only [Act.put, List.setIfInBounds_toArray, List.set_cons_zero, List.set_cons_succ]
  refine take_one (i := 8) rfl (by kernel_rfl) (fun K hK => ?_)
  go_simp
  refine hdc1.mono ?_; rintro e y2 ⟨⟨r2, rfl, ho2⟩, hb2⟩; have hy2 : Below W0.heap.size W0 y2 := hy1.drew.trans (hb2.mono hy1.size)
  try go_wp2_with fail
  refine hK.out _ _ ?_ (fun hHeld => ?_)
  · exact hy2
  clear hK K
  try simp only [Act.put, List.setIfInBounds_toArray, List.set_cons_zero, List.set_cons_succ]
  refine take_on (i := 9) (v := ?_) rfl rfl (by kernel_rfl) (by kernel_rfl) (by kernel_rfl) (fun _ _ _ h => h) rfl ?_ hHeld ?_
  rotate_left
  · (intro wq hSq; have q0 := (hSq.cell (p := ⟨pp, 1, none⟩) hpl).trans p1; have q00 := (hSq.cell (p := ⟨pp, 2, none⟩) hpl).trans p2; have q01 := (hSq.cell (p := ⟨pp, 3, none⟩) hpl).trans p3; have q1 := (hSq.cell (p := ⟨w.heap.size, 1, none⟩) hs0).trans s1; have q2 := (hSq.cell (p := ⟨w.heap.size, 2, none⟩) hs0).trans s2; go_simp <;> first | with_reducible rfl | rfl)
  simp only [Act.put, List.setIfInBounds_toArray, List.set_cons_zero, List.set_cons_succ]
  refine take_on (i := 10) (v := ?_) rfl rfl (by kernel_rfl) (by kernel_rfl) (by kernel_rfl) (fun _ _ _ h => h) rfl ?_ hHeld ?_
  rotate_left
  · (intro wq hSq; have q0 := (hSq.cell (p := ⟨pp, 1, none⟩) hpl).trans p1; have q00 := (hSq.cell (p := ⟨pp, 2, none⟩) hpl).trans p2; have q01 := (hSq.cell (p := ⟨pp, 3, none⟩) hpl).trans p3; have q1 := (hSq.cell (p := ⟨w.heap.size, 1, none⟩) hs0).trans s1; have q2 := (hSq.cell (p := ⟨w.heap.size, 2, none⟩) hs0).trans s2; go_simp <;> first | with_reducible rfl | rfl)
  simp only [Act.put, List.setIfInBounds_toArray, List.set_cons_zero, List.set_cons_succ]
  refine take_on (i := 11) (v := ?_) rfl rfl (by kernel_rfl) (by kernel_rfl) (by kernel_rfl) (fun _ _ _ h => h) rfl ?_ hHeld ?_
  rotate_left
  · (intro wq hSq; have q0 := (hSq.cell (p := ⟨pp, 1, none⟩) hpl).trans p1; have q00 := (hSq.cell (p := ⟨pp, 2, none⟩) hpl).trans p2; have q01 := (hSq.cell (p := ⟨pp, 3, none⟩) hpl).trans p3; have q1 := (hSq.cell (p := ⟨w.heap.size, 1, none⟩) hs0).trans s1; have q2 := (hSq.cell (p := ⟨w.heap.size, 2, none⟩) hs0).trans s2; go_simp <;> first | with_reducible rfl | rfl)
  simp only [Act.put, List.setIfInBounds_toArray, List.set_cons_zero, List.set_cons_succ]
  refine take_on (i := 12) (v := ?_) rfl rfl (by kernel_rfl) (by kernel_rfl) (by kernel_rfl) (fun _ _ _ h => h) rfl ?_ hHeld ?_
  rotate_left
  · (intro wq hSq; have q0 := (hSq.cell (p := ⟨pp, 1, none⟩) hpl).trans p1; have q00 := (hSq.cell (p := ⟨pp, 2, none⟩) hpl).trans p2; have q01 := (hSq.cell (p := ⟨pp, 3, none⟩) hpl).trans p3; have q1 := (hSq.cell (p := ⟨w.heap.size, 1, none⟩) hs0).trans s1; have q2 := (hSq.cell (p := ⟨w.heap.size, 2, none⟩) hs0).trans s2; go_simp <;> first | with_reducible rfl | rfl)
  simp only [Act.put, List.setIfInBounds_toArray, List.set_cons_zero, List.set_cons_succ]
  refine take_on (i := 13) (v := ?_) rfl rfl (by kernel_rfl) (by kernel_rfl) (by kernel_rfl) (fun _ _ _ h => h) rfl ?_ hHeld ?_
  rotate_left
  · (intro wq hSq; have q0 := (hSq.cell (p := ⟨pp, 1, none⟩) hpl).trans p1; have q00 := (hSq.cell (p := ⟨pp, 2, none⟩) hpl).trans p2; have q01 := (hSq.cell (p := ⟨pp, 3, none⟩) hpl).trans p3; have q1 := (hSq.cell (p := ⟨w.heap.size, 1, none⟩) hs0).trans s1; have q2 := (hSq.cell (p := ⟨w.heap.size, 2, none⟩) hs0).trans s2; go_simp <;> first | with_reducible rfl | rfl)
  simp only [Act.put, List.setIfInBounds_toArray, List.set_cons_zero, List.set_cons_succ]
  refine wpAnyH_done (by kernel_rfl) ?_ _
  have ho1' := ho1.below ((Below.refl _ _).drew.trans hb2)
  obtain ⟨b1, b2, rfl, hr1, _, _, hn1⟩ := ho1'.row
  obtain ⟨b3, b4, rfl, hr2, _, _, hn2⟩ := ho2.row
  have hsm := same_any b1 b3 b2 b4 ys ys.length rfl y2 hr1 hr2 hn1 hn2
  have hfin := hb0.trans (hy2.mono hb0.size)
  clear hdc1 hr1 hr2 hn1 hn2 ho1 ho1' ho2 p0 p1 p2 p3 s0 s1 s2 s3 hb1 hb2 hHeld hM
  go_wp2_with fail
  refine hsm.mono ?_
  rintro e y3 ⟨rfl, hq3⟩
  obtain rfl := hq3
  go_wp2_with fail
  go_ret
  exact ⟨rfl, hfin⟩

set_option maxRecDepth 100000 in
set_option maxHeartbeats 3200000 in
theorem step6 (a b : Int) (d : Pc) (w : World) (F : Nat → Prop) (pp B : Nat) (bs : List Nat) (k : Nat) (h : Pm w F pp B bs k) :
    Calls Try.prog 17 #[.pointer (some ⟨pp, 0, none⟩), valS ⟨6, a, b, d⟩] w fun e w' => e = .returned (.bool true) ∧ Below w.heap.size w w' := by
  obtain ⟨p, v, da, sa, hM⟩ := h
  have hro := hM.ar.room
  obtain ⟨xa, xc, zs⟩ := d
  obtain ⟨W0, hW0⟩ : ∃ W0, W0 = w.alloc (.cells #[.int .i64 6, .int .i64 a, .int .i64 b, .slice xa zs.length xc] 47) := ⟨_, rfl⟩
  have hb0 : Below w.heap.size w W0 := by rw [hW0]; exact (Below.refl _ _).alloc (Nat.le_refl _) _
  have hM0 := hM.below hb0
  obtain ⟨⟨p0, p1, p2, p3⟩, _⟩ := hM0.cells
  have hbo := bounds_any W0 hM0.ar hM0.dv.le
  replace hM := hide_it hM
  rw [hW0] at p0 p1 p2 p3
  replace hro := hide_it hro
  show Calls Try.prog _ #[.pointer (some ⟨pp, 0, none⟩), .agg #[.int .i64 6, .int .i64 a, .int .i64 b, .slice xa zs.length xc]] w _
  go_enter Try.func17, Try.ntmps17
  go_wp2_with fail
  rw [← hW0]
  clear hW0
  refine hbo.mono ?_
  rintro e w1 ⟨rfl, hb1⟩
  have hM1 := hM0.below hb1
  have hsa := rsafe_any B w1 hM1.dv hro.out
  obtain ⟨⟨q0, q1, q2, q3⟩, _⟩ := hM1.cells
  obtain ⟨a1, c1, a2, c2, hda, hsb, _⟩ := hM1.dv.open
  subst hda
  subst hsb
  obtain ⟨G, hG⟩ : ∃ G, G = B + k := ⟨_, rfl⟩
  obtain ⟨H, hH⟩ : ∃ H, H = B + bs.length := ⟨_, rfl⟩
  rw [← hG] at hsa
  rw [← hG, ← hH]
  have hH2 := hide_it hH
  clear hbo p0 p1 p2 p3 hG hH
  go_wp2_with fail
  refine hsa.mono ?_
  rintro e w2 ⟨rfl, hb2⟩
  have hM2 := hM1.below hb2
  have hen := rend_any B w2 hM2.dv hro.out
  rw [← hH2.out] at hen
  obtain ⟨⟨r0, r1, r2, r3⟩, _⟩ := hM2.cells
  clear hsa q0 q1 q2 q3
  go_wp2_with fail
  refine hen.mono ?_
  rintro e w3 ⟨rfl, hb3⟩
  have hfin := ((hb0.trans (hb1.mono hb0.size)).trans (hb2.mono (Nat.le_trans hb0.size hb1.size))).trans (hb3.mono (Nat.le_trans hb0.size (Nat.le_trans hb1.size hb2.size)))
  clear hen r0 r1 r2 r3 hM hM0 hM1 hM2
  go_wp2_with fail
  go_ret
  exact ⟨rfl, hfin⟩

set_option maxRecDepth 100000 in
set_option maxHeartbeats 3200000 in
theorem step8 (a b : Int) (d : Pc) (w : World) (F : Nat → Prop) (pp B : Nat) (bs : List Nat) (k : Nat) (h : Pm w F pp B bs k) :
    Calls Try.prog 17 #[.pointer (some ⟨pp, 0, none⟩), valS ⟨8, a, b, d⟩] w fun e w' => e = .returned (.bool true) ∧ Below w.heap.size w w' := by
  obtain ⟨p, v, da, sa, hM⟩ := h
  have hro := hM.ar.room
  have hl := hM.ar.len
  obtain ⟨xa, xc, zs⟩ := d
  obtain ⟨W0, hW0⟩ : ∃ W0, W0 = w.alloc (.cells #[.int .i64 8, .int .i64 a, .int .i64 b, .slice xa zs.length xc] 47) := ⟨_, rfl⟩
  have hb0 : Below w.heap.size w W0 := by rw [hW0]; exact (Below.refl _ _).alloc (Nat.le_refl _) _
  have hM0 := hM.below hb0
  obtain ⟨⟨p0, p1, p2, p3⟩, _⟩ := hM0.cells
  have hbo := image_any W0 hM0.ar hM0.dv.le
  replace hM := hide_it hM
  rw [hW0] at p0 p1 p2 p3
  replace hro := hide_it hro
  replace hl := hide_it hl
  show Calls Try.prog _ #[.pointer (some ⟨pp, 0, none⟩), .agg #[.int .i64 8, .int .i64 a, .int .i64 b, .slice xa zs.length xc]] w _
  go_enter Try.func17, Try.ntmps17
  go_wp2_with fail
  rw [← hW0]
  clear hW0
  refine hbo.mono ?_
  rintro e w1 ⟨⟨r1, rfl, ho1⟩, hb1⟩
  obtain ⟨b1, b2, rfl, hr1, _, _, hn1⟩ := ho1.row
  have hM1 := hM0.below hb1
  obtain ⟨n, hn⟩ : ∃ n, n = (bs.take k).length := ⟨_, rfl⟩
  rw [← hn]
  obtain ⟨W1, hW1⟩ : ∃ W1, W1 = w1.alloc (.cells #[.int .i64 (B : Int), .slice b1 n b2] 35) := ⟨_, rfl⟩
  have hb2 : Below w1.heap.size w1 W1 := by rw [hW1]; exact (Below.refl _ _).alloc (Nat.le_refl _) _
  have hsp : W1.heap[w1.heap.size]? = some (.cells #[.int .i64 (B : Int), .slice b1 n b2] 35 (0, 0)) := by rw [hW1]; exact heap_alloc_new w1 _
  have hsl : w1.heap.size < W1.heap.size := (Array.getElem?_eq_some_iff.1 hsp).1
  have g0 := cell_of_row _ _ 0 _ _ _ hsp
  have g1 := cell_of_row _ _ 1 _ _ _ hsp
  have hM2 := hM1.below hb2
  obtain ⟨⟨q0, q1, q2, q3⟩, _⟩ := hM2.cells
  have hpl := hM2.lt
  have him := rimage_any B W1.drew (hM2.dv.below (Below.refl _ _).drew) hro.out hl.out
  obtain ⟨a1, c1, a2, c2, hda, hsb, _⟩ := hM2.dv.open
  subst hda
  subst hsb
  have hrw := hr1.below hb2
  have hn2 := hide_it hn
  clear hbo p0 p1 p2 p3 hr1 hn
  go_wp2_with fail
  rw [← hW1]
  clear hW1
  refine wp_region_held_drew (S := (fun w' => Below W1.heap.size W1 w')) (by kernel_rfl) ?_ (fun hHeld => ?_)
  · exact (Below.refl _ _).drew
  refine take_on (i := 0) (v := ?_) rfl rfl (by kernel_rfl) (by kernel_rfl) (by kernel_rfl) (fun _ _ _ h => h) rfl ?_ hHeld ?_
  rotate_left
  · (intro wq hSq; have u0 := (hSq.cell (p := ⟨pp, 1, none⟩) hpl).trans q1; have u1 := (hSq.cell (p := ⟨pp, 2, none⟩) hpl).trans q2; have u2 := (hSq.cell (p := ⟨pp, 3, none⟩) hpl).trans q3; have u3 := (hSq.cell (p := ⟨w1.heap.size, 0, none⟩) hsl).trans g0; have u4 := (hSq.cell (p := ⟨w1.heap.size, 1, none⟩) hsl).trans g1; go_simp <;> first | with_reducible rfl | rfl)
  simp only [Act.put, List.setIfInBounds_toArray, List.set_cons_zero, List.set_cons_succ]
  refine take_on (i := 1) (v := ?_) rfl rfl (by kernel_rfl) (by kernel_rfl) (by kernel_rfl) (fun _ _ _ h => h) rfl ?_ hHeld ?_
  rotate_left
  · (intro wq hSq; have u0 := (hSq.cell (p := ⟨pp, 1, none⟩) hpl).trans q1; have u1 := (hSq.cell (p := ⟨pp, 2, none⟩) hpl).trans q2; have u2 := (hSq.cell (p := ⟨pp, 3, none⟩) hpl).trans q3; have u3 := (hSq.cell (p := ⟨w1.heap.size, 0, none⟩) hsl).trans g0; have u4 := (hSq.cell (p := ⟨w1.heap.size, 1, none⟩) hsl).trans g1; go_simp <;> first | with_reducible rfl | rfl)
  simp only [Act.put, List.setIfInBounds_toArray, List.set_cons_zero, List.set_cons_succ]
  refine take_on (i := 2) (v := ?_) rfl rfl (by kernel_rfl) (by kernel_rfl) (by kernel_rfl) (fun _ _ _ h => h) rfl ?_ hHeld ?_
  rotate_left
  · (intro wq hSq; have u0 := (hSq.cell (p := ⟨pp, 1, none⟩) hpl).trans q1; have u1 := (hSq.cell (p := ⟨pp, 2, none⟩) hpl).trans q2; have u2 := (hSq.cell (p := ⟨pp, 3, none⟩) hpl).trans q3; have u3 := (hSq.cell (p := ⟨w1.heap.size, 0, none⟩) hsl).trans g0; have u4 := (hSq.cell (p := ⟨w1.heap.size, 1, none⟩) hsl).trans g1; go_simp <;> first | with_reducible rfl | rfl)
  simp only [Act.put, List.setIfInBounds_toArray, List.set_cons_zero, List.set_cons_succ]
  refine take_on (i := 3) (v := ?_) rfl rfl (by kernel_rfl) (by kernel_rfl) (by kernel_rfl) (fun _ _ _ h => h) rfl ?_ hHeld ?_
  rotate_left
  · (intro wq hSq; have u0 := (hSq.cell (p := ⟨pp, 1, none⟩) hpl).trans q1; have u1 := (hSq.cell (p := ⟨pp, 2, none⟩) hpl).trans q2; have u2 := (hSq.cell (p := ⟨pp, 3, none⟩) hpl).trans q3; have u3 := (hSq.cell (p := ⟨w1.heap.size, 0, none⟩) hsl).trans g0; have u4 := (hSq.cell (p := ⟨w1.heap.size, 1, none⟩) hsl).trans g1; go_simp <;> first | with_reducible rfl | rfl)
  simp only [Act.put, List.setIfInBounds_toArray, List.set_cons_zero, List.set_cons_succ]
  refine take_on (i := 4) (v := ?_) rfl rfl (by kernel_rfl) (by kernel_rfl) (by kernel_rfl) (fun _ _ _ h => h) rfl ?_ hHeld ?_
  rotate_left
  · (intro wq hSq; have u0 := (hSq.cell (p := ⟨pp, 1, none⟩) hpl).trans q1; have u1 := (hSq.cell (p := ⟨pp, 2, none⟩) hpl).trans q2; have u2 := (hSq.cell (p := ⟨pp, 3, none⟩) hpl).trans q3; have u3 := (hSq.cell (p := ⟨w1.heap.size, 0, none⟩) hsl).trans g0; have u4 := (hSq.cell (p := ⟨w1.heap.size, 1, none⟩) hsl).trans g1; go_simp <;> first | with_reducible rfl | rfl)
  simp only [Act.put, List.setIfInBounds_toArray, List.set_cons_zero, List.set_cons_succ]
  refine take_on (i := 5) (v := ?_) rfl rfl (by kernel_rfl) (by kernel_rfl) (by kernel_rfl) (fun _ _ _ h => h) rfl ?_ hHeld ?_
  rotate_left
  · (intro wq hSq; have u0 := (hSq.cell (p := ⟨pp, 1, none⟩) hpl).trans q1; have u1 := (hSq.cell (p := ⟨pp, 2, none⟩) hpl).trans q2; have u2 := (hSq.cell (p := ⟨pp, 3, none⟩) hpl).trans q3; have u3 := (hSq.cell (p := ⟨w1.heap.size, 0, none⟩) hsl).trans g0; have u4 := (hSq.cell (p := ⟨w1.heap.size, 1, none⟩) hsl).trans g1; go_simp <;> first | with_reducible rfl | rfl)
  simp only [Act.put, List.setIfInBounds_toArray, List.set_cons_zero, List.set_cons_succ]
  refine take_on (i := 6) (v := ?_) rfl rfl (by kernel_rfl) (by kernel_rfl) (by kernel_rfl) (fun _ _ _ h => h) rfl ?_ hHeld ?_
  rotate_left
  · (intro wq hSq; have u0 := (hSq.cell (p := ⟨pp, 1, none⟩) hpl).trans q1; have u1 := (hSq.cell (p := ⟨pp, 2, none⟩) hpl).trans q2; have u2 := (hSq.cell (p := ⟨pp, 3, none⟩) hpl).trans q3; have u3 := (hSq.cell (p := ⟨w1.heap.size, 0, none⟩) hsl).trans g0; have u4 := (hSq.cell (p := ⟨w1.heap.size, 1, none⟩) hsl).trans g1; go_simp <;> first | with_reducible rfl | rfl)
  simp only [Act.put, List.setIfInBounds_toArray, List.set_cons_zero, List.set_cons_succ]
  refine take_on (i := 7) (v := ?_) rfl rfl (by kernel_rfl) (by kernel_rfl) (by kernel_rfl) (fun _ _ _ h => h) rfl ?_ hHeld ?_
  rotate_left
  · (intro wq hSq; have u0 := (hSq.cell (p := ⟨pp, 1, none⟩) hpl).trans q1; have u1 := (hSq.cell (p := ⟨pp, 2, none⟩) hpl).trans q2; have u2 := (hSq.cell (p := ⟨pp, 3, none⟩) hpl).trans q3; have u3 := (hSq.cell (p := ⟨w1.heap.size, 0, none⟩) hsl).trans g0; have u4 := (hSq.cell (p := ⟨w1.heap.size, 1, none⟩) hsl).trans g1; go_simp <;> first | with_reducible rfl | rfl)
  simp only [Act.put, List.setIfInBounds_toArray, List.set_cons_zero, List.set_cons_succ]
  refine take_on (i := 8) (v := ?_) rfl rfl (by kernel_rfl) (by kernel_rfl) (by kernel_rfl) (fun _ _ _ h => h) rfl ?_ hHeld ?_
  rotate_left
  · (intro wq hSq; have u0 := (hSq.cell (p := ⟨pp, 1, none⟩) hpl).trans q1; have u1 := (hSq.cell (p := ⟨pp, 2, none⟩) hpl).trans q2; have u2 := (hSq.cell (p := ⟨pp, 3, none⟩) hpl).trans q3; have u3 := (hSq.cell (p := ⟨w1.heap.size, 0, none⟩) hsl).trans g0; have u4 := (hSq.cell (p := ⟨w1.heap.size, 1, none⟩) hsl).trans g1; go_simp <;> first | with_reducible rfl | rfl)
  simp only [Act.put, List.setIfInBounds_toArray, List.set_cons_zero, List.set_cons_succ]
  refine take_on (i := 9) (v := ?_) rfl rfl (by kernel_rfl) (by kernel_rfl) (by kernel_rfl) (fun _ _ _ h => h) rfl ?_ hHeld ?_
  rotate_left
  · (intro wq hSq; have u0 := (hSq.cell (p := ⟨pp, 1, none⟩) hpl).trans q1; have u1 := (hSq.cell (p := ⟨pp, 2, none⟩) hpl).trans q2; have u2 := (hSq.cell (p := ⟨pp, 3, none⟩) hpl).trans q3; have u3 := (hSq.cell (p := ⟨w1.heap.size, 0, none⟩) hsl).trans g0; have u4 := (hSq.cell (p := ⟨w1.heap.size, 1, none⟩) hsl).trans g1; go_simp <;> first | with_reducible rfl | rfl)
  simp only [Act.put, List.setIfInBounds_toArray, List.set_cons_zero, List.set_cons_succ]
  refine take_on (i := 10) (v := ?_) rfl rfl (by kernel_rfl) (by kernel_rfl) (by kernel_rfl) (fun _ _ _ h => h) rfl ?_ hHeld ?_
  rotate_left
  · (intro wq hSq; have u0 := (hSq.cell (p := ⟨pp, 1, none⟩) hpl).trans q1; have u1 := (hSq.cell (p := ⟨pp, 2, none⟩) hpl).trans q2; have u2 := (hSq.cell (p := ⟨pp, 3, none⟩) hpl).trans q3; have u3 := (hSq.cell (p := ⟨w1.heap.size, 0, none⟩) hsl).trans g0; have u4 := (hSq.cell (p := ⟨w1.heap.size, 1, none⟩) hsl).trans g1; go_simp <;> first | with_reducible rfl | rfl)
  simp only [Act.put, List.setIfInBounds_toArray, List.set_cons_zero, List.set_cons_succ]
  refine take_on (i := 11) (v := ?_) rfl rfl (by kernel_rfl) (by kernel_rfl) (by kernel_rfl) (fun _ _ _ h => h) rfl ?_ hHeld ?_
  rotate_left
  · (intro wq hSq; have u0 := (hSq.cell (p := ⟨pp, 1, none⟩) hpl).trans q1; have u1 := (hSq.cell (p := ⟨pp, 2, none⟩) hpl).trans q2; have u2 := (hSq.cell (p := ⟨pp, 3, none⟩) hpl).trans q3; have u3 := (hSq.cell (p := ⟨w1.heap.size, 0, none⟩) hsl).trans g0; have u4 := (hSq.cell (p := ⟨w1.heap.size, 1, none⟩) hsl).trans g1; go_simp <;> first | with_reducible rfl | rfl)
  simp only [Act.put, List.setIfInBounds_toArray, List.set_cons_zero, List.set_cons_succ]
  refine take_on (i := 12) (v := ?_) rfl rfl (by kernel_rfl) (by kernel_rfl) (by kernel_rfl) (fun _ _ _ h => h) rfl ?_ hHeld ?_
  rotate_left
  · (intro wq hSq; have u0 := (hSq.cell (p := ⟨pp, 1, none⟩) hpl).trans q1; have u1 := (hSq.cell (p := ⟨pp, 2, none⟩) hpl).trans q2; have u2 := (hSq.cell (p := ⟨pp, 3, none⟩) hpl).trans q3; have u3 := (hSq.cell (p := ⟨w1.heap.size, 0, none⟩) hsl).trans g0; have u4 := (hSq.cell (p := ⟨w1.heap.size, 1, none⟩) hsl).trans g1; go_simp <;> first | with_reducible rfl | rfl)
  simp only [Act.put, List.setIfInBounds_toArray, List.set_cons_zero, List.set_cons_succ]
  refine take_on (i := 13) (v := ?_) rfl rfl (by kernel_rfl) (by kernel_rfl) (by kernel_rfl) (fun _ _ _ h => h) rfl ?_ hHeld ?_
  rotate_left
  · (intro wq hSq; have u0 := (hSq.cell (p := ⟨pp, 1, none⟩) hpl).trans q1; have u1 := (hSq.cell (p := ⟨pp, 2, none⟩) hpl).trans q2; have u2 := (hSq.cell (p := ⟨pp, 3, none⟩) hpl).trans q3; have u3 := (hSq.cell (p := ⟨w1.heap.size, 0, none⟩) hsl).trans g0; have u4 := (hSq.cell (p := ⟨w1.heap.size, 1, none⟩) hsl).trans g1; go_simp <;> first | with_reducible rfl | rfl)
  simp only [Act.put, List.setIfInBounds_toArray, List.set_cons_zero, List.set_cons_succ]
  refine take_on (i := 14) (v := ?_) rfl rfl (by kernel_rfl) (by kernel_rfl) (by kernel_rfl) (fun _ _ _ h => h) rfl ?_ hHeld ?_
  rotate_left
  · (intro wq hSq; have u0 := (hSq.cell (p := ⟨pp, 1, none⟩) hpl).trans q1; have u1 := (hSq.cell (p := ⟨pp, 2, none⟩) hpl).trans q2; have u2 := (hSq.cell (p := ⟨pp, 3, none⟩) hpl).trans q3; have u3 := (hSq.cell (p := ⟨w1.heap.size, 0, none⟩) hsl).trans g0; have u4 := (hSq.cell (p := ⟨w1.heap.size, 1, none⟩) hsl).trans g1; go_simp <;> first | with_reducible rfl | rfl)
  simp only [Act.put, List.setIfInBounds_toArray, List.set_cons_zero, List.set_cons_succ]
  refine take_one (i := 15) rfl (by kernel_rfl) (fun K hK => ?_)
  go_simp
  refine him.mono ?_; rintro e y2 ⟨r2, rfl, ho2, hbb2⟩; have hy2 : Below W1.heap.size W1 y2 := (Below.refl _ _).drew.trans hbb2; obtain ⟨b3, b4, rfl, hr2, _, _, hnn2⟩ := ho2.row; rw [← hn2.out]
  try go_wp2_with fail
  refine hK.out _ _ ?_ (fun hHeld => ?_)
  · exact hy2
  clear hK K
  try simp only [Act.put, List.setIfInBounds_toArray, List.set_cons_zero, List.set_cons_succ]
  refine take_one (i := 16) rfl (by kernel_rfl) (fun K hK => ?_)
  go_simp
  refine (same_any b1 b3 b2 b4 (bs.take k) n hn2.out.symm y2 (hrw.below hy2) hr2 hn1 hnn2).mono ?_; rintro e y3 ⟨rfl, hq3⟩; obtain rfl := hq3
  try go_wp2_with fail
  refine hK.out _ _ ?_ (fun hHeld => ?_)
  · exact hy2
  clear hK K
  try simp only [Act.put, List.setIfInBounds_toArray, List.set_cons_zero, List.set_cons_succ]
  refine take_on (i := 17) (v := ?_) rfl rfl (by kernel_rfl) (by kernel_rfl) (by kernel_rfl) (fun _ _ _ h => h) rfl ?_ hHeld ?_
  rotate_left
  · (intro wq hSq; have u0 := (hSq.cell (p := ⟨pp, 1, none⟩) hpl).trans q1; have u1 := (hSq.cell (p := ⟨pp, 2, none⟩) hpl).trans q2; have u2 := (hSq.cell (p := ⟨pp, 3, none⟩) hpl).trans q3; have u3 := (hSq.cell (p := ⟨w1.heap.size, 0, none⟩) hsl).trans g0; have u4 := (hSq.cell (p := ⟨w1.heap.size, 1, none⟩) hsl).trans g1; go_simp <;> first | with_reducible rfl | rfl)
  simp only [Act.put, List.setIfInBounds_toArray, List.set_cons_zero, List.set_cons_succ]
  refine take_on (i := 18) (v := ?_) rfl rfl (by kernel_rfl) (by kernel_rfl) (by kernel_rfl) (fun _ _ _ h => h) rfl ?_ hHeld ?_
  rotate_left
  · (intro wq hSq; have u0 := (hSq.cell (p := ⟨pp, 1, none⟩) hpl).trans q1; have u1 := (hSq.cell (p := ⟨pp, 2, none⟩) hpl).trans q2; have u2 := (hSq.cell (p := ⟨pp, 3, none⟩) hpl).trans q3; have u3 := (hSq.cell (p := ⟨w1.heap.size, 0, none⟩) hsl).trans g0; have u4 := (hSq.cell (p := ⟨w1.heap.size, 1, none⟩) hsl).trans g1; go_simp <;> first | with_reducible rfl | rfl)
  simp only [Act.put, List.setIfInBounds_toArray, List.set_cons_zero, List.set_cons_succ]
  refine wpAnyH_done (by kernel_rfl) ?_ _
  have hfin := ((hb0.trans (hb1.mono hb0.size)).trans (hb2.mono (Nat.le_trans hb0.size hb1.size))).trans (hy2.mono (Nat.le_trans hb0.size (Nat.le_trans hb1.size hb2.size)))
  clear him hM hM0 hM1 hM2
  go_wp2_with fail
  go_ret
  exact ⟨rfl, hfin⟩

set_option maxRecDepth 100000 in
set_option maxHeartbeats 3200000 in
theorem stepX (K a b : Int) (d : Pc) (w : World) (F : Nat → Prop) (pp B : Nat) (bs : List Nat) (k : Nat) (h : Pm w F pp B bs k) (h1 : ¬ K = 1) (h2 : ¬ K = 2) (h3 : ¬ K = 3) (h4 : ¬ K = 4) (h5 : ¬ K = 5) (h6 : ¬ K = 6) (h7 : ¬ K = 7) (h8 : ¬ K = 8) (h9 : ¬ K = 9) :
    Calls Try.prog 17 #[.pointer (some ⟨pp, 0, none⟩), valS ⟨K, a, b, d⟩] w fun e w' => Stepd w F pp B bs k e w' := by
  obtain ⟨p, v, da, sa, hM⟩ := h
  obtain ⟨xa, xc, zs⟩ := d
  have hb0 : Below w.heap.size w (w.alloc (.cells #[.int .i64 K, .int .i64 a, .int .i64 b, .slice xa zs.length xc] 47)) := (Below.refl _ _).alloc (Nat.le_refl _) _
  have hfin := Stepd.look hM hb0
  have j1 : (K == 1) = false := by simpa using h1
  have j2 : (K == 2) = false := by simpa using h2
  have j3 : (K == 3) = false := by simpa using h3
  have j4 : (K == 4) = false := by simpa using h4
  have j5 : (K == 5) = false := by simpa using h5
  have j6 : (K == 6) = false := by simpa using h6
  have j7 : (K == 7) = false := by simpa using h7
  have j8 : (K == 8) = false := by simpa using h8
  have j9 : (K == 9) = false := by simpa using h9
  clear hM hb0 h1 h2 h3 h4 h5 h6 h7 h8 h9
  show Calls Try.prog _ #[.pointer (some ⟨pp, 0, none⟩), .agg #[.int .i64 K, .int .i64 a, .int .i64 b, .slice xa zs.length xc]] w _
  go_enter Try.func17, Try.ntmps17
  go_wp2_with fail
  go_ret
  exact hfin

end Go.Proofs.Ytejaaalgnbnalaa

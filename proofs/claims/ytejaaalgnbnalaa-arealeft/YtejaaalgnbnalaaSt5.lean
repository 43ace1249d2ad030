/- A step of both areas, walked: Load. -/
import Derived.Test.YtejaaalgnbnalaaSt4
namespace Go.Proofs.Ytejaaalgnbnalaa
open Go.RowKit

/-- Both areas laid anew. -/
abbrev set4 (w : World) (pp q : Nat) (B : Int) (da sa : Value) : World := set3 (w.setCell ⟨pp, 0, none⟩ (.pointer (some ⟨q, 0, none⟩))) pp B da sa
theorem set4_keep (w : World) (pp q : Nat) (B : Int) (da sa : Value) (j : Nat) (hj : j ≠ pp) : (set4 w pp q B da sa).heap[j]? = w.heap[j]? :=
  (set3_keep _ _ _ _ _ j hj).trans (Below.heap_setCell _ _ _ _ hj)
/-- What is left when both areas were loaded. -/
theorem load_calls {w w0 w1 w2 : World} {F : Nat → Prop} {pp p : Nat} {v da sa : Value} {B : Nat} {bs : List Nat} {k : Nat} {q : Nat} {v' da' sa' : Value} {B' : Nat} {zs : List Nat} (hM : Md w F pp p v da sa B bs k B bs k) (hb0 : Below w.heap.size w w0) (hA : Ar w1 q 0 v' B' zs zs.length) (hq : w0.heap.size ≤ q) (hv : ∀ j, v'.ownBlock = some j → w0.heap.size ≤ j) (hb1 : Below w0.heap.size w0 w1)
    (hD : Dn w1 da' sa' zs zs.length w2) : Stepd w F pp B' zs zs.length (.returned (.bool true)) (set4 w2 pp q (B' : Int) da' sa') := by
  have hlt := hM.lt
  have hs0 := hb0.size
  have hb2 : Below w.heap.size w w2 := (hb0.trans (hb1.mono hs0)).trans (hD.bel.mono (Nat.le_trans hs0 hb1.size))
  have hM2 := hM.below hb2
  have hft : ∀ j, Ft q v' j → w0.heap.size ≤ j ∧ j < w1.heap.size := fun j hj => ⟨by
    rcases hj with rfl | hj
    · exact hq
    · exact hv j hj, hA.inside j hj⟩
  have hnew : ∀ j, da'.ownBlock = some j ∨ sa'.ownBlock = some j → w1.heap.size ≤ j := fun j hj => by
    rcases hj with hj | hj
    · exact (hD.by_.inside j hj).1
    · exact (hD.sf.inside j hj).1
  have hs1 := hb1.size
  refine ⟨rfl, ⟨q, v', da', sa', ⟨?_, ?_, ⟨?_, ?_, hD.le⟩, ?_, ?_, ?_⟩⟩, ?_⟩
  · have hblk := heap_setCell_same w2 pp 0 _ _ (.pointer (some ⟨q, 0, none⟩)) hM2.blk
    exact set3_blk (x := .pointer (some ⟨q, 0, none⟩)) hblk _ _ _
  · have hA2 := hA.below hD.bel
    exact hA2.keep (set4_keep _ _ _ _ _ _ _ (by have := (hft q (.inl rfl)).1; omega)) (fun j hj => set4_keep _ _ _ _ _ _ _ (by have := (hft j (.inr hj)).1; omega))
  · exact hD.dv.by_.keep fun j hj => set4_keep _ _ _ _ _ _ _ (by have := hnew j (.inl hj); omega)
  · exact hD.dv.sf.keep fun j hj => set4_keep _ _ _ _ _ _ _ (by have := hnew j (.inr hj); omega)
  · intro h4; have := (hft pp h4).1; omega
  · intro j hj
    have := hnew j hj
    exact ⟨fun h4 => by have := (hft j h4).2; omega, by omega⟩
  · intro j hj
    rcases hj with rfl | hj | hj
    · exact .inl (hM.foot _ (.inl rfl))
    · exact .inr (by have := (hft j hj).1; omega)
    · exact .inr (by have := hnew j hj; omega)
  · have hc : Chg F w (w2.setCell ⟨pp, 0, none⟩ (.pointer (some ⟨q, 0, none⟩))) := (Chg.new hb2).setCell _ _ (fun _ => hM.foot pp (.inl rfl))
    exact hM.set3_chg hc _ _ _

set_option maxRecDepth 100000 in
set_option maxHeartbeats 3200000 in
theorem step9_no (a b : Int) (d : Pc) (w : World) (F : Nat → Prop) (hd : PcOk w d) (pp B : Nat) (bs : List Nat) (k : Nat) (h : Pm w F pp B bs k) (ha : a < 0 ∨ 4611686018427387904 < a) :
    Calls Try.prog 17 #[.pointer (some ⟨pp, 0, none⟩), valS ⟨9, a, b, d⟩] w fun e w' => Stepd w F pp B bs k e w' := by
  obtain ⟨p, v, da, sa, hM⟩ := h
  have hq0 := BoxS.new w ⟨9, a, b, d⟩
  obtain ⟨xa, xc, zs⟩ := d
  obtain ⟨hdr, hd8, hdl, hdn⟩ := hd
  obtain ⟨W0, hW0⟩ : ∃ W0, W0 = w.alloc (.cells #[.int .i64 9, .int .i64 a, .int .i64 b, .slice xa zs.length xc] 47) := ⟨_, rfl⟩
  simp only at hq0 hdr hd8 hdn hdl
  rw [← hW0] at hq0
  have hb0 : Below w.heap.size w W0 := by rw [hW0]; exact (Below.refl _ _).alloc (Nat.le_refl _) _
  obtain ⟨s0, s1, s2, s3⟩ := hq0.cells
  have hs0 := hq0.lt
  obtain ⟨x1, x2, y1, hrun, hr1, hn1, hb1⟩ := copy_run (w := W0.drew) 23 xa xc zs (hdr.below (hb0.trans (Below.refl _ _).drew)) hdn (by omega)
  have hy1 : Below W0.heap.size W0 y1 := (Below.refl _ _).drew.trans hb1
  have hlo := load_no y1 a (.slice x1 zs.length x2) ha x1 zs.length x2 rfl
  have hrl := fun W => rload_no W a (.slice xa zs.length xc) ha
  replace hM := hide_it hM
  clear ha
  show Calls Try.prog _ #[.pointer (some ⟨pp, 0, none⟩), .agg #[.int .i64 9, .int .i64 a, .int .i64 b, .slice xa zs.length xc]] w _
  go_enter Try.func17, Try.ntmps17
  go_wp2_with fail
  rw [← hW0]
  clear hW0
  refine wp_region_held_drew (S := (fun w' => Below W0.heap.size W0 w')) (by kernel_rfl) ?_ (fun hHeld => ?_)
  · exact (Below.refl _ _).drew
  refine take_on (i := 0) (v := ?_) rfl rfl (by kernel_rfl) (by kernel_rfl) (by kernel_rfl) (fun _ _ _ h => h) rfl ?_ hHeld ?_
  rotate_left
  · (intro wq hSq; have q1 := (hSq.cell (p := ⟨w.heap.size, 1, none⟩) hs0).trans s1; have q3 := (hSq.cell (p := ⟨w.heap.size, 3, none⟩) hs0).trans s3; go_simp <;> first | with_reducible rfl | rfl)
  simp only [Act.put, List.setIfInBounds_toArray, List.set_cons_zero, List.set_cons_succ]
  refine take_on (i := 1) (v := ?_) rfl rfl (by kernel_rfl) (by kernel_rfl) (by kernel_rfl) (fun _ _ _ h => h) rfl ?_ hHeld ?_
  rotate_left
  · (intro wq hSq; have q1 := (hSq.cell (p := ⟨w.heap.size, 1, none⟩) hs0).trans s1; have q3 := (hSq.cell (p := ⟨w.heap.size, 3, none⟩) hs0).trans s3; go_simp <;> first | with_reducible rfl | rfl)
  simp only [Act.put, List.setIfInBounds_toArray, List.set_cons_zero, List.set_cons_succ]
  refine take_on (i := 2) (v := ?_) rfl rfl (by kernel_rfl) (by kernel_rfl) (by kernel_rfl) (fun _ _ _ h => h) rfl ?_ hHeld ?_
  rotate_left
  · (intro wq hSq; have q1 := (hSq.cell (p := ⟨w.heap.size, 1, none⟩) hs0).trans s1; have q3 := (hSq.cell (p := ⟨w.heap.size, 3, none⟩) hs0).trans s3; go_simp <;> first | with_reducible rfl | rfl)
  simp only [Act.put, List.setIfInBounds_toArray, List.set_cons_zero, List.set_cons_succ]
  refine take_on (i := 3) (v := ?_) rfl rfl (by kernel_rfl) (by kernel_rfl) (by kernel_rfl) (fun _ _ _ h => h) rfl ?_ hHeld ?_
  rotate_left
  · (intro wq hSq; have q1 := (hSq.cell (p := ⟨w.heap.size, 1, none⟩) hs0).trans s1; have q3 := (hSq.cell (p := ⟨w.heap.size, 3, none⟩) hs0).trans s3; go_simp <;> first | with_reducible rfl | rfl)
  simp only [Act.put, List.setIfInBounds_toArray, List.set_cons_zero, List.set_cons_succ]
  refine take_one (i := 4) rfl (by kernel_rfl) (fun K hK => ?_)
  refine step_append_run rfl _ _ _ rfl _ _ _ _ rfl rfl hrun ?_
  refine hK.out _ _ ?_ (fun hHeld => ?_)
  · exact hy1
  clear hK K
  try simp only [Act.put, List.setIfInBounds_toArray, List.set_cons_zero, List.set_cons_succ]
  refine take_on (i := 5) (v := ?_) rfl rfl (by kernel_rfl) (by kernel_rfl) (by kernel_rfl) (fun _ _ _ h => h) rfl ?_ hHeld ?_
  rotate_left
  · (intro wq hSq; have q1 := (hSq.cell (p := ⟨w.heap.size, 1, none⟩) hs0).trans s1; have q3 := (hSq.cell (p := ⟨w.heap.size, 3, none⟩) hs0).trans s3; go_simp <;> first | with_reducible rfl | rfl)
  simp only [Act.put, List.setIfInBounds_toArray, List.set_cons_zero, List.set_cons_succ]
  refine take_one (i := 6) rfl (by kernel_rfl) (fun K hK => ?_)
  go_simp
  refine hlo.mono ?_; rintro e y2 ⟨rfl, hb2⟩; have hy2 : Below W0.heap.size W0 y2 := hy1.trans (hb2.mono hy1.size)
  try go_wp2_with fail
  refine hK.out _ _ ?_ (fun hHeld => ?_)
  · exact hy2
  clear hK K
  try simp only [Act.put, List.setIfInBounds_toArray, List.set_cons_zero, List.set_cons_succ]
  refine take_on (i := 7) (v := ?_) rfl rfl (by kernel_rfl) (by kernel_rfl) (by kernel_rfl) (fun _ _ _ h => h) rfl ?_ hHeld ?_
  rotate_left
  · (intro wq hSq; have q1 := (hSq.cell (p := ⟨w.heap.size, 1, none⟩) hs0).trans s1; have q3 := (hSq.cell (p := ⟨w.heap.size, 3, none⟩) hs0).trans s3; go_simp <;> first | with_reducible rfl | rfl)
  simp only [Act.put, List.setIfInBounds_toArray, List.set_cons_zero, List.set_cons_succ]
  refine take_on (i := 8) (v := ?_) rfl rfl (by kernel_rfl) (by kernel_rfl) (by kernel_rfl) (fun _ _ _ h => h) rfl ?_ hHeld ?_
  rotate_left
  · (intro wq hSq; have q1 := (hSq.cell (p := ⟨w.heap.size, 1, none⟩) hs0).trans s1; have q3 := (hSq.cell (p := ⟨w.heap.size, 3, none⟩) hs0).trans s3; go_simp <;> first | with_reducible rfl | rfl)
  simp only [Act.put, List.setIfInBounds_toArray, List.set_cons_zero, List.set_cons_succ]
  refine take_on (i := 9) (v := ?_) rfl rfl (by kernel_rfl) (by kernel_rfl) (by kernel_rfl) (fun _ _ _ h => h) rfl ?_ hHeld ?_
  rotate_left
  · (intro wq hSq; have q1 := (hSq.cell (p := ⟨w.heap.size, 1, none⟩) hs0).trans s1; have q3 := (hSq.cell (p := ⟨w.heap.size, 3, none⟩) hs0).trans s3; go_simp <;> first | with_reducible rfl | rfl)
  simp only [Act.put, List.setIfInBounds_toArray, List.set_cons_zero, List.set_cons_succ]
  refine take_on (i := 10) (v := ?_) rfl rfl (by kernel_rfl) (by kernel_rfl) (by kernel_rfl) (fun _ _ _ h => h) rfl ?_ hHeld ?_
  rotate_left
  · (intro wq hSq; have q1 := (hSq.cell (p := ⟨w.heap.size, 1, none⟩) hs0).trans s1; have q3 := (hSq.cell (p := ⟨w.heap.size, 3, none⟩) hs0).trans s3; go_simp <;> first | with_reducible rfl | rfl)
  simp only [Act.put, List.setIfInBounds_toArray, List.set_cons_zero, List.set_cons_succ]
  refine take_on (i := 11) (v := ?_) rfl rfl (by kernel_rfl) (by kernel_rfl) (by kernel_rfl) (fun _ _ _ h => h) rfl ?_ hHeld ?_
  rotate_left
  · (intro wq hSq; have q1 := (hSq.cell (p := ⟨w.heap.size, 1, none⟩) hs0).trans s1; have q3 := (hSq.cell (p := ⟨w.heap.size, 3, none⟩) hs0).trans s3; go_simp <;> first | with_reducible rfl | rfl)
  simp only [Act.put, List.setIfInBounds_toArray, List.set_cons_zero, List.set_cons_succ]
  refine wpAnyH_done (by kernel_rfl) ?_ _
  have hq2 : BoxS y2 w.heap.size ⟨9, a, b, ⟨xa, xc, zs⟩⟩ := (hy2.block _ hs0).trans hq0
  obtain ⟨t0, t1, t2, t3⟩ := hq2.cells
  have hrl2 := hrl y2
  clear hlo hrun hrl s0 s1 s2 s3
  go_wp2_with fail
  refine hrl2.mono ?_
  rintro e y3 ⟨rfl, hb3⟩
  have hbe := ((hb0.trans (hy2.mono hb0.size)).trans (hb3.mono (Nat.le_trans hb0.size hy2.size)))
  have hfin := Stepd.look hM.out (hbe.alloc hbe.size (.cells #[.int .i64 0, .slice none 0 0, .slice none 0 0] 52))
  clear hrl2 t0 t1 t2 t3 hM
  go_wp2_with fail
  go_ret
  exact hfin

set_option maxRecDepth 100000 in
set_option maxHeartbeats 3200000 in
theorem step9_ok (b : Int) (d : Pc) (w : World) (F : Nat → Prop) (hd : PcOk w d) (pp B : Nat) (bs : List Nat) (k : Nat) (h : Pm w F pp B bs k) (B' : Nat) (ha : B' ≤ 4611686018427387904) :
    Calls Try.prog 17 #[.pointer (some ⟨pp, 0, none⟩), valS ⟨9, (B' : Int), b, d⟩] w fun e w' => Stepd w F pp B' d.p d.p.length e w' := by
  obtain ⟨p, v, da, sa, hM⟩ := h
  have hq0 := BoxS.new w ⟨9, (B' : Int), b, d⟩
  obtain ⟨xa, xc, zs⟩ := d
  obtain ⟨hdr, hd8, hdl, hdn⟩ := hd
  obtain ⟨W0, hW0⟩ : ∃ W0, W0 = w.alloc (.cells #[.int .i64 9, .int .i64 (B' : Int), .int .i64 b, .slice xa zs.length xc] 47) := ⟨_, rfl⟩
  simp only at hq0 hdr hd8 hdn hdl
  rw [← hW0] at hq0
  have hb0 : Below w.heap.size w W0 := by rw [hW0]; exact (Below.refl _ _).alloc (Nat.le_refl _) _
  obtain ⟨s0, s1, s2, s3⟩ := hq0.cells
  have hs0 := hq0.lt
  have hpp := hM.lt
  obtain ⟨x1, x2, y1, hrun, hr1, hn1, hb1⟩ := copy_run (w := W0.drew) 23 xa xc zs (hdr.below (hb0.trans (Below.refl _ _).drew)) hdn (by omega)
  have hy1 : Below W0.heap.size W0 y1 := (Below.refl _ _).drew.trans hb1
  have hlo := load_ok y1 B' ha x1 x2 zs hr1 hd8 (by omega) hn1
  have hrl := fun W (hb : Below w.heap.size w W) => rload_ok W B' ha xa xc zs (hdr.below hb) (by omega) hdn
  replace hM := hide_it hM
  clear ha
  show Calls Try.prog _ #[.pointer (some ⟨pp, 0, none⟩), .agg #[.int .i64 9, .int .i64 (B' : Int), .int .i64 b, .slice xa zs.length xc]] w (fun e w' => Stepd w F pp B' zs zs.length e w')
  go_enter Try.func17, Try.ntmps17
  go_wp2_with fail
  rw [← hW0]
  clear hW0
  refine wp_region_held_drew (S := (fun w' => Below W0.heap.size W0 w')) (by kernel_rfl) ?_ (fun hHeld => ?_)
  · exact (Below.refl _ _).drew
  refine take_on (i := 0) (v := ?_) rfl rfl (by kernel_rfl) (by kernel_rfl) (by kernel_rfl) (fun _ _ _ h => h) rfl ?_ hHeld ?_
  rotate_left
  · (intro wq hSq; have q1 := (hSq.cell (p := ⟨w.heap.size, 1, none⟩) hs0).trans s1; have q3 := (hSq.cell (p := ⟨w.heap.size, 3, none⟩) hs0).trans s3; go_simp <;> first | with_reducible rfl | rfl)
  simp only [Act.put, List.setIfInBounds_toArray, List.set_cons_zero, List.set_cons_succ]
  refine take_on (i := 1) (v := ?_) rfl rfl (by kernel_rfl) (by kernel_rfl) (by kernel_rfl) (fun _ _ _ h => h) rfl ?_ hHeld ?_
  rotate_left
  · (intro wq hSq; have q1 := (hSq.cell (p := ⟨w.heap.size, 1, none⟩) hs0).trans s1; have q3 := (hSq.cell (p := ⟨w.heap.size, 3, none⟩) hs0).trans s3; go_simp <;> first | with_reducible rfl | rfl)
  simp only [Act.put, List.setIfInBounds_toArray, List.set_cons_zero, List.set_cons_succ]
  refine take_on (i := 2) (v := ?_) rfl rfl (by kernel_rfl) (by kernel_rfl) (by kernel_rfl) (fun _ _ _ h => h) rfl ?_ hHeld ?_
  rotate_left
  · (intro wq hSq; have q1 := (hSq.cell (p := ⟨w.heap.size, 1, none⟩) hs0).trans s1; have q3 := (hSq.cell (p := ⟨w.heap.size, 3, none⟩) hs0).trans s3; go_simp <;> first | with_reducible rfl | rfl)
  simp only [Act.put, List.setIfInBounds_toArray, List.set_cons_zero, List.set_cons_succ]
  refine take_on (i := 3) (v := ?_) rfl rfl (by kernel_rfl) (by kernel_rfl) (by kernel_rfl) (fun _ _ _ h => h) rfl ?_ hHeld ?_
  rotate_left
  · (intro wq hSq; have q1 := (hSq.cell (p := ⟨w.heap.size, 1, none⟩) hs0).trans s1; have q3 := (hSq.cell (p := ⟨w.heap.size, 3, none⟩) hs0).trans s3; go_simp <;> first | with_reducible rfl | rfl)
  simp only [Act.put, List.setIfInBounds_toArray, List.set_cons_zero, List.set_cons_succ]
  refine take_one (i := 4) rfl (by kernel_rfl) (fun K hK => ?_)
  refine step_append_run rfl _ _ _ rfl _ _ _ _ rfl rfl hrun ?_
  refine hK.out _ _ ?_ (fun hHeld => ?_)
  · exact hy1
  clear hK K
  try simp only [Act.put, List.setIfInBounds_toArray, List.set_cons_zero, List.set_cons_succ]
  refine take_on (i := 5) (v := ?_) rfl rfl (by kernel_rfl) (by kernel_rfl) (by kernel_rfl) (fun _ _ _ h => h) rfl ?_ hHeld ?_
  rotate_left
  · (intro wq hSq; have q1 := (hSq.cell (p := ⟨w.heap.size, 1, none⟩) hs0).trans s1; have q3 := (hSq.cell (p := ⟨w.heap.size, 3, none⟩) hs0).trans s3; go_simp <;> first | with_reducible rfl | rfl)
  simp only [Act.put, List.setIfInBounds_toArray, List.set_cons_zero, List.set_cons_succ]
  refine take_one (i := 6) rfl (by kernel_rfl) (fun K hK => ?_)
  go_simp
  refine hlo.mono ?_; rintro e y2 ⟨⟨q, v', rfl, hA, hql, hvl⟩, hb2⟩; have hy2 : Below W0.heap.size W0 y2 := hy1.trans (hb2.mono hy1.size)
  try go_wp2_with fail
  refine hK.out _ _ ?_ (fun hHeld => ?_)
  · exact hy2
  clear hK K
  try simp only [Act.put, List.setIfInBounds_toArray, List.set_cons_zero, List.set_cons_succ]
  refine take_on (i := 7) (v := ?_) rfl rfl (by kernel_rfl) (by kernel_rfl) (by kernel_rfl) (fun _ _ _ h => h) rfl ?_ hHeld ?_
  rotate_left
  · (intro wq hSq; have q1 := (hSq.cell (p := ⟨w.heap.size, 1, none⟩) hs0).trans s1; have q3 := (hSq.cell (p := ⟨w.heap.size, 3, none⟩) hs0).trans s3; go_simp <;> first | with_reducible rfl | rfl)
  simp only [Act.put, List.setIfInBounds_toArray, List.set_cons_zero, List.set_cons_succ]
  refine take_on (i := 8) (v := ?_) rfl rfl (by kernel_rfl) (by kernel_rfl) (by kernel_rfl) (fun _ _ _ h => h) rfl ?_ hHeld ?_
  rotate_left
  · (intro wq hSq; have q1 := (hSq.cell (p := ⟨w.heap.size, 1, none⟩) hs0).trans s1; have q3 := (hSq.cell (p := ⟨w.heap.size, 3, none⟩) hs0).trans s3; go_simp <;> first | with_reducible rfl | rfl)
  simp only [Act.put, List.setIfInBounds_toArray, List.set_cons_zero, List.set_cons_succ]
  refine take_on (i := 9) (v := ?_) rfl rfl (by kernel_rfl) (by kernel_rfl) (by kernel_rfl) (fun _ _ _ h => h) rfl ?_ hHeld ?_
  rotate_left
  · (intro wq hSq; have q1 := (hSq.cell (p := ⟨w.heap.size, 1, none⟩) hs0).trans s1; have q3 := (hSq.cell (p := ⟨w.heap.size, 3, none⟩) hs0).trans s3; go_simp <;> first | with_reducible rfl | rfl)
  simp only [Act.put, List.setIfInBounds_toArray, List.set_cons_zero, List.set_cons_succ]
  refine take_on (i := 10) (v := ?_) rfl rfl (by kernel_rfl) (by kernel_rfl) (by kernel_rfl) (fun _ _ _ h => h) rfl ?_ hHeld ?_
  rotate_left
  · (intro wq hSq; have q1 := (hSq.cell (p := ⟨w.heap.size, 1, none⟩) hs0).trans s1; have q3 := (hSq.cell (p := ⟨w.heap.size, 3, none⟩) hs0).trans s3; go_simp <;> first | with_reducible rfl | rfl)
  simp only [Act.put, List.setIfInBounds_toArray, List.set_cons_zero, List.set_cons_succ]
  refine take_on (i := 11) (v := ?_) rfl rfl (by kernel_rfl) (by kernel_rfl) (by kernel_rfl) (fun _ _ _ h => h) rfl ?_ hHeld ?_
  rotate_left
  · (intro wq hSq; have q1 := (hSq.cell (p := ⟨w.heap.size, 1, none⟩) hs0).trans s1; have q3 := (hSq.cell (p := ⟨w.heap.size, 3, none⟩) hs0).trans s3; go_simp <;> first | with_reducible rfl | rfl)
  simp only [Act.put, List.setIfInBounds_toArray, List.set_cons_zero, List.set_cons_succ]
  refine wpAnyH_done (by kernel_rfl) ?_ _
  have hq2 : BoxS y2 w.heap.size ⟨9, (B' : Int), b, ⟨xa, xc, zs⟩⟩ := (hy2.block _ hs0).trans hq0
  obtain ⟨t0, t1, t2, t3⟩ := hq2.cells
  have hbw1 : Below w.heap.size w y1 := hb0.trans (hy1.mono hb0.size)
  have hbw2 : Below w.heap.size w y2 := hb0.trans (hy2.mono hb0.size)
  have hrl2 := hrl y2 hbw2
  clear hlo hrun hrl s0 s1 s2 s3
  go_wp2_with fail
  refine hrl2.mono ?_
  rintro e y3 ⟨da', sa', rfl, hD⟩
  obtain ⟨d1, d2, e1, e2, rfl, rfl, _⟩ := hD.dv.open
  obtain ⟨W3, hW3⟩ : ∃ W3, W3 = y3.alloc (.cells #[.int .i64 (B' : Int), .slice d1 zs.length d2, .slice e1 zs.length e2] 52) := ⟨_, rfl⟩
  have hb3 : Below y3.heap.size y3 W3 := by rw [hW3]; exact (Below.refl _ _).alloc (Nat.le_refl _) _
  have hbx : BoxD W3 y3.heap.size (B' : Int) (.slice d1 zs.length d2) (.slice e1 zs.length e2) := by rw [hW3]; exact BoxD.new _ _ _ _
  have hD3 : Dn y2 (.slice d1 zs.length d2) (.slice e1 zs.length e2) zs zs.length W3.drew := ⟨(hD.by_.below hb3).below (Below.refl _ _).drew, (hD.sf.below hb3).below (Below.refl _ _).drew, hD.le, (hD.bel.trans (hb3.mono hD.bel.size)).drew⟩
  have hfin := load_calls hM.out hbw1 hA hql hvl hb2 hD3
  obtain ⟨⟨r0, r1, r2, r3⟩, f0, f1, f2, f3⟩ := ((hM.out.below hbw2).below (hD.bel.trans (hb3.mono hD.bel.size))).cells
  obtain ⟨g0, g1, g2, _⟩ := hbx.cells
  have hne : pp ≠ y3.heap.size := by have := hbw2.size; have := hD.bel.size; omega
  clear hrl2 t0 t1 t2 t3 hM hD hA hD3 hbx hq2 hHeld
  go_wp2_with fail
  rw [← hW3]
  clear hW3
  go_region
  go_wp2_with fail
  go_ret
  exact hfin

end Go.Proofs.Ytejaaalgnbnalaa

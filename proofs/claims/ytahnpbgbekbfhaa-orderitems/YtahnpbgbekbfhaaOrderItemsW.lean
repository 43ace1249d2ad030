/- Check and Clean of every item: the law's walk. -/
import Derived.Test.YtahnpbgbekbfhaaItm1
namespace Go.Proofs.Ytahnpbgbekbfhaa.orderItems
open Go.RowKit

attribute [local go_sem] st_float st_complex fromBits toBits

theorem forgetH {ops : Array Oper} {Q : Exit → Act → World → Prop} {S : World → Prop} {fuel : Nat} {listed : Array Bool} {a : Act} {w : World} (F : World → Prop) (hF : F w) (h : ∀ w', F w' → wpAnyH Try.prog .any ops Q S fuel listed a w') : wpAnyH Try.prog .any ops Q S fuel listed a w := h w hF
theorem farI {w : World} {g p : Nat} {x : It} (h : BoxI w g x) (hp : g ≠ p) (v0 v1 v2 v3 v4 v5 v6 : Value) : BoxI (((((((w.setCell ⟨p, 0, none⟩ v0).setCell ⟨p, 1, none⟩ v1).setCell ⟨p, 2, none⟩ v2).setCell ⟨p, 3, none⟩ v3).setCell ⟨p, 4, none⟩ v4).setCell ⟨p, 5, none⟩ v5).setCell ⟨p, 6, none⟩ v6) g x :=
  ((((((h.far hp _ _).far hp _ _).far hp _ _).far hp _ _).far hp _ _).far hp _ _).far hp _ _
theorem farD {w : World} {g p : Nat} {x : It} (h : DocB w g x) (hp : g ≠ p) (v0 v1 v2 v3 v4 v5 : Value) : DocB ((((((w.setCell ⟨p, 0, none⟩ v0).setCell ⟨p, 1, none⟩ v1).setCell ⟨p, 2, none⟩ v2).setCell ⟨p, 3, none⟩ v3).setCell ⟨p, 4, none⟩ v4).setCell ⟨p, 5, none⟩ v5) g x :=
  (((((h.far hp _ _).far hp _ _).far hp _ _).far hp _ _).far hp _ _).far hp _ _
/-- The world with the item that came in. -/
abbrev rawW (w : World) (x : It) : World := w.alloc (.cells #[.int .i64 x.k, .bool x.b, .int .i64 x.n, .int .u64 (x.f : Int), .int .u64 (x.r : Int), .int .u64 (x.i : Int), .string x.t] 25)

set_option maxRecDepth 100000 in
set_option maxHeartbeats 400000 in
theorem asItIs_same (a : Nat) (w : World) :
    Calls Try.prog 17 #[.float .f64 a, .int .u64 (a : Int)] w fun e w' => e = .returned (.bool true) ∧ w' = w := by
  go_enter Try.func17, Try.ntmps17
  go_wp2_with fail
  go_ret
  exact ⟨rfl, rfl⟩

set_option maxRecDepth 100000 in
set_option maxHeartbeats 4000000 in
theorem walk (x : It) (w : World) (hx : ItOk x) (_ : x.t.size ≤ 140737488351232) :
    Calls Try.prog 4 #[valR x] w fun e w' => e = .returned (.bool true) ∧ Below w.heap.size w w' := by
  have R0 : RawB (rawW w x) w.heap.size x := heap_alloc_new w _
  have hbW : Below w.heap.size w (rawW w x) := (Below.refl _ _).alloc (Nat.le_refl _) _
  have hbsW : w.heap.size ≤ (rawW w x).heap.size := hbW.size
  have HX := hide_it hx
  clear hx
  go_enter Try.func4, Try.ntmps4
  go_wp2_with fail
  refine wp_region_held_drew (S := fun w' => Below (rawW w x).heap.size (rawW w x) w') (by kernel_rfl) (by exact (Below.refl _ _).drew) (fun hHeld => ?_)
  refine take_on (i := 0) (v := ?_) rfl rfl (by kernel_rfl) (by kernel_rfl) (by kernel_rfl) (fun _ _ _ h => h) rfl ?_ hHeld ?_
  rotate_left
  · (intro wq hSq; obtain ⟨q0, q1, q2, q3, q4, q5, q6⟩ := (R0.below hSq R0.lt).cells; go_simp <;> first | with_reducible rfl | rfl)
  simp only [Act.put, List.setIfInBounds_toArray, List.set_cons_zero, List.set_cons_succ]
  refine take_on (i := 3) (v := ?_) rfl rfl (by kernel_rfl) (by kernel_rfl) (by kernel_rfl) (fun _ _ _ h => h) rfl ?_ hHeld ?_
  rotate_left
  · (intro wq hSq; obtain ⟨q0, q1, q2, q3, q4, q5, q6⟩ := (R0.below hSq R0.lt).cells; go_simp <;> first | with_reducible rfl | rfl)
  simp only [Act.put, List.setIfInBounds_toArray, List.set_cons_zero, List.set_cons_succ]
  refine two_made (x := x) HX.out (b := w.heap.size) (w0 := rawW w x) (by rfl) (by rfl) (by rfl) (by rfl) (by rfl) (by rfl) ?_ (fun w h => h) ?_ 6 0 none none _ (by omega) rfl ⟨hHeld, (fun g e => by cases e), (fun g e => by cases e), (fun g e => by cases e)⟩
  · intro c1 c2 c3 c4 p q g1 g2 g3 g4
    cases c1 <;> cases c2 <;> cases c3 <;> cases c4 <;> first | (exact absurd (g1 rfl) (by decide)) | (exact absurd (g2 rfl) (by decide)) | (exact absurd (g3 rfl) (by decide)) | (cases p <;> cases q <;> first | (exact absurd ⟨rfl, rfl, rfl⟩ g4) | kernel_rfl)
  · intro g3 g4 wf hst
    obtain ⟨B3, l3⟩ := hst.a3 g3 rfl
    obtain ⟨D4, l4⟩ := hst.a4 g4 rfl
    have n34 : g3 ≠ g4 := fun e => hst.ne g3 rfl (by rw [e])
    have hbf := hst.bel
    clear hst hHeld
    unfold actI pl lst
    obtain ⟨z, hz⟩ : ∃ z, z = cln x := ⟨_, rfl⟩
    rw [← hz]
    have HZ := hide_it hz
    clear hz
    obtain ⟨c0, c1, c2, c3, c4, c5⟩ := B3.cells
    have f0 := B3.frozen 0
    have f1 := B3.frozen 1
    have f2 := B3.frozen 2
    have f3 := B3.frozen 3
    have f4 := B3.frozen 4
    have f5 := B3.frozen 5
    simp only [it0] at c0 c1 c2 c3 c4 c5
    refine take_one (i := 8) rfl (by kernel_rfl) (fun K hK => ?_)
    go_simp
    refine hK.out _ _ ?_ (fun hHeld => ?_)
    · exact below_all hbf l3 _ _ _ _ _ _
    clear hK K
    refine forgetH (F := fun w' => BoxI w' g3 z ∧ DocB w' g4 (it0 0) ∧ Below (rawW w x).heap.size (rawW w x) w') ⟨B3.all z, farD D4 n34.symm _ _ _ _ _ _, hHeld⟩ ?_
    clear f0 f1 f2 f3 f4 f5 c0 c1 c2 c3 c4 c5 hHeld hbf B3 D4 wf
    rintro wf ⟨B3, D4, hbf⟩
    try simp only [List.setIfInBounds_toArray, List.set_cons_zero, List.set_cons_succ]
    obtain ⟨c0, c1, c2, c3, c4, c5, c6⟩ := D4.cells
    have f0 := (fun j => frozen_of_row wf g4 j _ _ D4) 0
    have f1 := (fun j => frozen_of_row wf g4 j _ _ D4) 1
    have f2 := (fun j => frozen_of_row wf g4 j _ _ D4) 2
    have f3 := (fun j => frozen_of_row wf g4 j _ _ D4) 3
    have f4 := (fun j => frozen_of_row wf g4 j _ _ D4) 4
    have f5 := (fun j => frozen_of_row wf g4 j _ _ D4) 5
    have f6 := (fun j => frozen_of_row wf g4 j _ _ D4) 6
    simp only [it0] at c0 c1 c2 c3 c4 c5 c6
    refine take_one (i := 9) rfl (by kernel_rfl) (fun K hK => ?_)
    go_simp
    refine hK.out _ _ ?_ (fun hHeld => ?_)
    · exact below_docs hbf l4 _ _ _ _ _ _ _
    clear hK K
    refine forgetH (F := fun w' => BoxI w' g3 z ∧ DocB w' g4 z ∧ Below (rawW w x).heap.size (rawW w x) w') ⟨farI B3 n34 _ _ _ _ _ _ _, D4.all z, hHeld⟩ ?_
    clear f0 f1 f2 f3 f4 f5 f6 c0 c1 c2 c3 c4 c5 c6 hHeld hbf B3 D4 wf
    rintro wf ⟨B3, D4, hbf⟩
    try simp only [List.setIfInBounds_toArray, List.set_cons_zero, List.set_cons_succ]
    refine wpAnyH_done (by kernel_rfl) ?_ _
    have hb2 := hbW.trans (hbf.mono hbsW)
    have hbs2 := hb2.size
    have R1 := R0.below hbf R0.lt
    clear R0 hbW hbsW hbf l3 l4
    have kx := fun w => check_any x w HX.out
    have rx := fun w => rcheck_any x w HX.out
    have ix := fun w => lawItem_any x w
    have dx := fun w => doc_any x w
    cases mx : may x with
    | false =>
      rw [mx] at kx rx
      simp only [Bool.false_eq_true, if_false] at kx rx
      have hz : z = x := by rw [HZ.out]; unfold cln; rw [mx]; rfl
      subst hz
      clear HZ mx HX
      go_wp2_with fail
      refine wp_region_held_drew (S := (fun w' => Below wf.heap.size wf w')) (by kernel_rfl) ?_ (fun hHeld => ?_)
      · exact (Below.refl _ _).drew
      refine take_on (i := 0) (v := ?_) rfl rfl (by kernel_rfl) (by kernel_rfl) (by kernel_rfl) (fun _ _ _ h => h) rfl ?_ hHeld ?_
      rotate_left
      · (intro wq hSq; obtain ⟨q0, q1, q2, q3, q4, q5, q6⟩ := (R1.below hSq R1.lt).cells; go_simp <;> first | with_reducible rfl | rfl)
      simp only [Act.put, List.setIfInBounds_toArray, List.set_cons_zero, List.set_cons_succ]
      refine take_on (i := 3) (v := ?_) rfl rfl (by kernel_rfl) (by kernel_rfl) (by kernel_rfl) (fun _ _ _ h => h) rfl ?_ hHeld ?_
      rotate_left
      · (intro wq hSq; obtain ⟨q0, q1, q2, q3, q4, q5, q6⟩ := (R1.below hSq R1.lt).cells; go_simp <;> first | with_reducible rfl | rfl)
      simp only [Act.put, List.setIfInBounds_toArray, List.set_cons_zero, List.set_cons_succ]
      refine take_one (i := 1) rfl (by kernel_rfl) (fun K hK => ?_)
      go_simp
      refine (ix _).mono ?_; rintro e y1 ⟨rfl, hq1⟩; have hSx := hHeld.trans (hq1.mono hHeld.size); clear hq1
      try go_wp2_with fail
      refine hK.out _ _ ?_ (fun hHeld => ?_)
      · exact hSx
      clear hK K
      try simp only [Act.put, List.setIfInBounds_toArray, List.set_cons_zero, List.set_cons_succ]
      refine take_one (i := 2) rfl (by kernel_rfl) (fun K hK => ?_)
      go_simp
      refine (kx _).mono ?_; rintro e y1 ⟨rfl, hq1⟩; have hSx := hHeld.trans (hq1.mono hHeld.size); clear hq1
      try go_wp2_with fail
      refine hK.out _ _ ?_ (fun hHeld => ?_)
      · exact hSx
      clear hK K
      try simp only [Act.put, List.setIfInBounds_toArray, List.set_cons_zero, List.set_cons_succ]
      refine take_one (i := 4) rfl (by kernel_rfl) (fun K hK => ?_)
      go_simp
      refine (dx _).mono ?_; rintro e y1 ⟨rfl, hq1⟩; have hSx := hHeld.trans (hq1.mono hHeld.size); clear hq1
      try go_wp2_with fail
      refine hK.out _ _ ?_ (fun hHeld => ?_)
      · exact hSx
      clear hK K
      try simp only [Act.put, List.setIfInBounds_toArray, List.set_cons_zero, List.set_cons_succ]
      refine take_one (i := 5) rfl (by kernel_rfl) (fun K hK => ?_)
      go_simp
      refine (rx _).mono ?_; rintro e y1 ⟨rfl, hq1⟩; have hSx := hHeld.trans (hq1.mono hHeld.size); clear hq1
      try go_wp2_with fail
      refine hK.out _ _ ?_ (fun hHeld => ?_)
      · exact hSx
      clear hK K
      try simp only [Act.put, List.setIfInBounds_toArray, List.set_cons_zero, List.set_cons_succ]
      refine take_on (i := 6) (v := ?_) rfl rfl (by kernel_rfl) (by kernel_rfl) (by kernel_rfl) (fun _ _ _ h => h) rfl ?_ hHeld ?_
      rotate_left
      · (intro wq hSq; obtain ⟨q0, q1, q2, q3, q4, q5, q6⟩ := (R1.below hSq R1.lt).cells; go_simp <;> first | with_reducible rfl | rfl)
      simp only [Act.put, List.setIfInBounds_toArray, List.set_cons_zero, List.set_cons_succ]
      refine take_on (i := 7) (v := ?_) rfl rfl (by kernel_rfl) (by kernel_rfl) (by kernel_rfl) (fun _ _ _ h => h) rfl ?_ hHeld ?_
      rotate_left
      · (intro wq hSq; obtain ⟨q0, q1, q2, q3, q4, q5, q6⟩ := (R1.below hSq R1.lt).cells; go_simp <;> first | with_reducible rfl | rfl)
      simp only [Act.put, List.setIfInBounds_toArray, List.set_cons_zero, List.set_cons_succ]
      refine take_one (i := 8) rfl (by kernel_rfl) (fun K hK => ?_)
      go_simp
      refine (awake_any _).mono ?_; rintro e y1 ⟨rfl, hq1⟩; have hSx := hHeld.trans (hq1.mono hHeld.size); clear hq1
      try go_wp2_with fail
      refine hK.out _ _ ?_ (fun hHeld => ?_)
      · exact hSx
      clear hK K
      try simp only [Act.put, List.setIfInBounds_toArray, List.set_cons_zero, List.set_cons_succ]
      refine take_on (i := 9) (v := ?_) rfl rfl (by kernel_rfl) (by kernel_rfl) (by kernel_rfl) (fun _ _ _ h => h) rfl ?_ hHeld ?_
      rotate_left
      · (intro wq hSq; obtain ⟨q0, q1, q2, q3, q4, q5, q6⟩ := (R1.below hSq R1.lt).cells; go_simp <;> first | with_reducible rfl | rfl)
      simp only [Act.put, List.setIfInBounds_toArray, List.set_cons_zero, List.set_cons_succ]
      refine take_on (i := 10) (v := ?_) rfl rfl (by kernel_rfl) (by kernel_rfl) (by kernel_rfl) (fun _ _ _ h => h) rfl ?_ hHeld ?_
      rotate_left
      · (intro wq hSq; obtain ⟨q0, q1, q2, q3, q4, q5, q6⟩ := (R1.below hSq R1.lt).cells; go_simp <;> first | with_reducible rfl | rfl)
      simp only [Act.put, List.setIfInBounds_toArray, List.set_cons_zero, List.set_cons_succ]
      refine wpAnyH_done (by kernel_rfl) ?_ _
      have hb3 := hb2.trans (hHeld.mono hbs2)
      have hbs3 := hb3.size
      have R2 := R1.below hHeld R1.lt
      have B4 := B3.below hHeld B3.lt
      have D5 := D4.below hHeld D4.lt
      obtain ⟨r0, r1, r2, r3, r4, r5, r6⟩ := R2.cells
      clear hHeld hb2 R1 B3 D4 hbs2 ix kx
      go_wp2_with fail
      refine (dx _).mono ?_
      rintro e w5 ⟨rfl, hb5⟩
      have hb6 := hb3.trans (hb5.mono hbs3)
      have hbs6 := hb6.size
      have R3 := R2.below hb5 R2.lt
      have B5 := B4.below hb5 B4.lt
      have D6 := D5.below hb5 D5.lt
      clear r0 r1 r2 r3 r4 r5 r6 hb5 hb3 hbs3 R2 B4 D5 dx
      go_wp2_with fail
      refine (rx _).mono ?_
      rintro e w6 ⟨rfl, hb7⟩
      have hb8 := hb6.trans (hb7.mono hbs6)
      have hbs8 := hb8.size
      have R4 := R3.below hb7 R3.lt
      have B6 := B5.below hb7 B5.lt
      have D7 := D6.below hb7 D6.lt
      clear hb7 hb6 hbs6 R3 B5 D6 rx
      obtain ⟨r0, r1, r2, r3, r4, r5, r6⟩ := R4.cells
      obtain ⟨c0, c1, c2, c3, c4, c5⟩ := B6.cells
      obtain ⟨d0, d1, d2, d3, d4, d5, d6⟩ := D7.cells
      clear D7 d0 d1 d2 d3 d4 d5 d6 R4 B6
      have ha := asItIs_same
      go_wp2_with (go_at_call 17; refine (ha _ _).mono ?_; rintro e w' ⟨rfl, hq⟩; have hq2 := hq.symm; subst hq2; clear hq)
      go_ret
      exact ⟨rfl, hb8⟩
    | true =>
      rw [mx] at kx rx
      simp only [if_true] at kx rx
      have hz : z = clean x := by rw [HZ.out]; unfold cln; rw [mx]; rfl
      clear HZ mx HX
      go_wp2_with fail
      refine wp_region_held_drew (S := (fun w' => Below wf.heap.size wf w')) (by kernel_rfl) ?_ (fun hHeld => ?_)
      · exact (Below.refl _ _).drew
      refine take_on (i := 0) (v := ?_) rfl rfl (by kernel_rfl) (by kernel_rfl) (by kernel_rfl) (fun _ _ _ h => h) rfl ?_ hHeld ?_
      rotate_left
      · (intro wq hSq; obtain ⟨q0, q1, q2, q3, q4, q5, q6⟩ := (R1.below hSq R1.lt).cells; go_simp <;> first | with_reducible rfl | rfl)
      simp only [Act.put, List.setIfInBounds_toArray, List.set_cons_zero, List.set_cons_succ]
      refine take_on (i := 3) (v := ?_) rfl rfl (by kernel_rfl) (by kernel_rfl) (by kernel_rfl) (fun _ _ _ h => h) rfl ?_ hHeld ?_
      rotate_left
      · (intro wq hSq; obtain ⟨q0, q1, q2, q3, q4, q5, q6⟩ := (R1.below hSq R1.lt).cells; go_simp <;> first | with_reducible rfl | rfl)
      simp only [Act.put, List.setIfInBounds_toArray, List.set_cons_zero, List.set_cons_succ]
      refine take_one (i := 1) rfl (by kernel_rfl) (fun K hK => ?_)
      go_simp
      refine (ix _).mono ?_; rintro e y1 ⟨rfl, hq1⟩; have hSx := hHeld.trans (hq1.mono hHeld.size); clear hq1
      try go_wp2_with fail
      refine hK.out _ _ ?_ (fun hHeld => ?_)
      · exact hSx
      clear hK K
      try simp only [Act.put, List.setIfInBounds_toArray, List.set_cons_zero, List.set_cons_succ]
      refine take_one (i := 2) rfl (by kernel_rfl) (fun K hK => ?_)
      go_simp
      refine (kx _).mono ?_; rintro e y1 ⟨rfl, hq1⟩; have hSx := hHeld.trans (hq1.mono hHeld.size); clear hq1
      try go_wp2_with fail
      refine hK.out _ _ ?_ (fun hHeld => ?_)
      · exact hSx
      clear hK K
      try simp only [Act.put, List.setIfInBounds_toArray, List.set_cons_zero, List.set_cons_succ]
      refine take_one (i := 4) rfl (by kernel_rfl) (fun K hK => ?_)
      go_simp
      refine (dx _).mono ?_; rintro e y1 ⟨rfl, hq1⟩; have hSx := hHeld.trans (hq1.mono hHeld.size); clear hq1
      try go_wp2_with fail
      refine hK.out _ _ ?_ (fun hHeld => ?_)
      · exact hSx
      clear hK K
      try simp only [Act.put, List.setIfInBounds_toArray, List.set_cons_zero, List.set_cons_succ]
      refine take_one (i := 5) rfl (by kernel_rfl) (fun K hK => ?_)
      go_simp
      refine (rx _).mono ?_; rintro e y1 ⟨rfl, hq1⟩; have hSx := hHeld.trans (hq1.mono hHeld.size); clear hq1
      try go_wp2_with fail
      refine hK.out _ _ ?_ (fun hHeld => ?_)
      · exact hSx
      clear hK K
      try simp only [Act.put, List.setIfInBounds_toArray, List.set_cons_zero, List.set_cons_succ]
      refine take_on (i := 6) (v := ?_) rfl rfl (by kernel_rfl) (by kernel_rfl) (by kernel_rfl) (fun _ _ _ h => h) rfl ?_ hHeld ?_
      rotate_left
      · (intro wq hSq; obtain ⟨q0, q1, q2, q3, q4, q5, q6⟩ := (R1.below hSq R1.lt).cells; go_simp <;> first | with_reducible rfl | rfl)
      simp only [Act.put, List.setIfInBounds_toArray, List.set_cons_zero, List.set_cons_succ]
      refine take_on (i := 7) (v := ?_) rfl rfl (by kernel_rfl) (by kernel_rfl) (by kernel_rfl) (fun _ _ _ h => h) rfl ?_ hHeld ?_
      rotate_left
      · (intro wq hSq; obtain ⟨q0, q1, q2, q3, q4, q5, q6⟩ := (R1.below hSq R1.lt).cells; go_simp <;> first | with_reducible rfl | rfl)
      simp only [Act.put, List.setIfInBounds_toArray, List.set_cons_zero, List.set_cons_succ]
      refine take_one (i := 8) rfl (by kernel_rfl) (fun K hK => ?_)
      go_simp
      refine (awake_any _).mono ?_; rintro e y1 ⟨rfl, hq1⟩; have hSx := hHeld.trans (hq1.mono hHeld.size); clear hq1
      try go_wp2_with fail
      refine hK.out _ _ ?_ (fun hHeld => ?_)
      · exact hSx
      clear hK K
      try simp only [Act.put, List.setIfInBounds_toArray, List.set_cons_zero, List.set_cons_succ]
      refine take_on (i := 9) (v := ?_) rfl rfl (by kernel_rfl) (by kernel_rfl) (by kernel_rfl) (fun _ _ _ h => h) rfl ?_ hHeld ?_
      rotate_left
      · (intro wq hSq; obtain ⟨q0, q1, q2, q3, q4, q5, q6⟩ := (R1.below hSq R1.lt).cells; go_simp <;> first | with_reducible rfl | rfl)
      simp only [Act.put, List.setIfInBounds_toArray, List.set_cons_zero, List.set_cons_succ]
      refine take_on (i := 10) (v := ?_) rfl rfl (by kernel_rfl) (by kernel_rfl) (by kernel_rfl) (fun _ _ _ h => h) rfl ?_ hHeld ?_
      rotate_left
      · (intro wq hSq; obtain ⟨q0, q1, q2, q3, q4, q5, q6⟩ := (R1.below hSq R1.lt).cells; go_simp <;> first | with_reducible rfl | rfl)
      simp only [Act.put, List.setIfInBounds_toArray, List.set_cons_zero, List.set_cons_succ]
      refine wpAnyH_done (by kernel_rfl) ?_ _
      have hb3 := hb2.trans (hHeld.mono hbs2)
      have hbs3 := hb3.size
      have R2 := R1.below hHeld R1.lt
      have B4 := B3.below hHeld B3.lt
      have D5 := D4.below hHeld D4.lt
      obtain ⟨r0, r1, r2, r3, r4, r5, r6⟩ := R2.cells
      clear hHeld hb2 R1 B3 D4 hbs2 ix kx
      go_wp2_with fail
      refine (dx _).mono ?_
      rintro e w5 ⟨rfl, hb5⟩
      have hb6 := hb3.trans (hb5.mono hbs3)
      have hbs6 := hb6.size
      have R3 := R2.below hb5 R2.lt
      have B5 := B4.below hb5 B4.lt
      have D6 := D5.below hb5 D5.lt
      clear r0 r1 r2 r3 r4 r5 r6 hb5 hb3 hbs3 R2 B4 D5 dx
      go_wp2_with fail
      refine (rx _).mono ?_
      rintro e w6 ⟨rfl, hb7⟩
      have hb8 := hb6.trans (hb7.mono hbs6)
      have hbs8 := hb8.size
      have R4 := R3.below hb7 R3.lt
      have B6 := B5.below hb7 B5.lt
      have D7 := D6.below hb7 D6.lt
      clear hb7 hb6 hbs6 R3 B5 D6 rx
      obtain ⟨r0, r1, r2, r3, r4, r5, r6⟩ := R4.cells
      obtain ⟨c0, c1, c2, c3, c4, c5⟩ := B6.cells
      obtain ⟨d0, d1, d2, d3, d4, d5, d6⟩ := D7.cells
      clear R4 B6 D7 r0 r1 r2 r3 r4 r5 r6 hz
      go_wp2_with fail
      refine (alike_same z _).mono ?_
      rintro e w7 ⟨rfl, hb9⟩
      have hb10 := hb8.trans (hb9.mono hbs8)
      go_wp2_with fail
      go_ret
      exact ⟨rfl, hb10⟩

end Go.Proofs.Ytahnpbgbekbfhaa.orderItems

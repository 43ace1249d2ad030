/- Compare is an order of the items that may be: the law's walk. -/
import Derived.Test.YtahnpbgbekbfhabTot1
namespace Go.Proofs.Ytahnpbgbekbfhab.orderTotal
open Go.RowKit

attribute [local go_sem] st_float st_complex

theorem lexc_strict {l m n : List Nat} (h1 : lexc l m ≤ 0) (h2 : lexc m n ≤ 0) (h3 : lexc l n = 0) : lexc l m = 0 ∧ lexc m n = 0 := by
  have e := lexc_eq h3
  subst e
  have := lexc_neg l m
  omega

/-- What is asked of three items, by their rows. -/
theorem three {x y z : It} (hx : ItOk x) (hy : ItOk y) (hz : ItOk z) (mx : may x = true) (my : may y = true) (mz : may z = true) :
    cmpIt y x = -cmpIt x y ∧ cmpIt x x = 0 ∧ (-1 ≤ cmpIt x y ∧ cmpIt x y ≤ 1) ∧ (-1 ≤ cmpIt y z ∧ cmpIt y z ≤ 1) ∧ (-1 ≤ cmpIt x z ∧ cmpIt x z ≤ 1) ∧ (cmpIt x y ≤ 0 → cmpIt y z ≤ 0 → cmpIt x z ≤ 0 ∧ (cmpIt x z = 0 ↔ cmpIt x y = 0 ∧ cmpIt y z = 0)) := by
  rw [cmpIt_lexc hx hy mx my, cmpIt_lexc hy hx my mx, cmpIt_lexc hx hx mx mx, cmpIt_lexc hy hz my mz, cmpIt_lexc hx hz mx mz]
  have r1 := lexc_range (encI x) (encI y)
  have r2 := lexc_range (encI y) (encI z)
  have r3 := lexc_range (encI x) (encI z)
  refine ⟨lexc_neg _ _, lexc_self _, by omega, by omega, by omega, fun h1 h2 => ⟨lexc_trans h1 h2, ⟨fun h => lexc_strict h1 h2 h, fun h => ?_⟩⟩⟩
  rw [lexc_eq h.1, lexc_eq h.2, lexc_self]

theorem alloc3_new (w : World) (o1 o2 o3 : Obj) : (((w.alloc o1).alloc o2).alloc o3).heap[w.heap.size + 1 + 1]? = some o3 := by
  have h := heap_alloc_new ((w.alloc o1).alloc o2) o3
  rwa [show ((w.alloc o1).alloc o2).heap.size = w.heap.size + 1 + 1 by simp] at h
theorem forgetH {ops : Array Oper} {Q : Exit → Act → World → Prop} {S : World → Prop} {fuel : Nat} {listed : Array Bool} {a : Act} {w : World} (F : World → Prop) (hF : F w) (h : ∀ w', F w' → wpAnyH Try.prog .any ops Q S fuel listed a w') : wpAnyH Try.prog .any ops Q S fuel listed a w := h w hF
theorem far6 {w : World} {g p : Nat} {x : It} (h : BoxI w g x) (hp : g ≠ p) (v0 v1 v2 v3 v4 v5 : Value) : BoxI ((((((w.setCell ⟨p, 0, none⟩ v0).setCell ⟨p, 1, none⟩ v1).setCell ⟨p, 2, none⟩ v2).setCell ⟨p, 3, none⟩ v3).setCell ⟨p, 4, none⟩ v4).setCell ⟨p, 5, none⟩ v5) g x :=
  (((((h.far hp _ _).far hp _ _).far hp _ _).far hp _ _).far hp _ _).far hp _ _

set_option maxRecDepth 100000 in
set_option maxHeartbeats 4000000 in
theorem walk (x y z : It) (w : World) (hx : ItOk x) (_ : x.t.size ≤ 140737488351232) (hy : ItOk y) (_ : y.t.size ≤ 140737488351232) (hz : ItOk z) (_ : z.t.size ≤ 140737488351232) :
    Calls Try.prog 8 #[valR x, valR y, valR z] w fun e w' => e = .returned (.bool true) ∧ Below w.heap.size w w' := by
  have H3 := hide_it (fun mx my mz => three hx hy hz mx my mz)
  go_enter Try.func8, Try.ntmps8
  go_wp2_with fail
  refine (awake_any _).mono ?_
  rintro e w1 ⟨rfl, hb1⟩
  obtain ⟨R0, R1, R2, hbw⟩ : RawB w1 w.heap.size x ∧ RawB w1 (w.heap.size + 1) y ∧ RawB w1 (w.heap.size + 1 + 1) z ∧ Below w.heap.size w w1 := by
    refine ⟨RawB.below (B := w.heap.size + 3) (RawB.below (RawB.below (heap_alloc_new w _) ((Below.refl _ _).alloc (Nat.le_refl _) _) (by simp)) ((Below.refl _ _).alloc (Nat.le_refl _) _) (by simp; omega)) (by simpa using hb1) (by omega), ?_, ?_, ?_⟩
    · exact RawB.below (B := w.heap.size + 3) (RawB.below (heap_alloc2_new w _ _) ((Below.refl _ _).alloc (Nat.le_refl _) _) (by simp)) (by simpa using hb1) (by omega)
    · exact RawB.below (B := w.heap.size + 3) (alloc3_new w _ _ _) (by simpa using hb1) (by omega)
    · have hbA : ∀ o1 o2 o3, Below w.heap.size w (((w.alloc o1).alloc o2).alloc o3) := fun o1 o2 o3 => (((Below.refl _ _).alloc (Nat.le_refl _) _).alloc (by simp) _).alloc (by simp; omega) _
      exact (hbA _ _ _).trans (hb1.mono (by simp; omega))
  have hbs := hbw.size
  clear hb1
  go_wp2_with fail
  refine wp_region_held_drew (S := fun w' => Below w1.heap.size w1 w') (by kernel_rfl) (by exact (Below.refl _ _).drew) (fun hHeld => ?_)
  refine take_on (i := 0) (v := ?_) rfl rfl (by kernel_rfl) (by kernel_rfl) (by kernel_rfl) (fun _ _ _ h => h) rfl ?_ hHeld ?_
  rotate_left
  · (intro wq hSq; obtain ⟨q0, q1, q2, q3, q4, q5, q6⟩ := (R0.below hSq R0.lt).cells; go_simp <;> first | with_reducible rfl | rfl)
  simp only [Act.put, List.setIfInBounds_toArray, List.set_cons_zero, List.set_cons_succ]
  refine take_on (i := 2) (v := ?_) rfl rfl (by kernel_rfl) (by kernel_rfl) (by kernel_rfl) (fun _ _ _ h => h) rfl ?_ hHeld ?_
  rotate_left
  · (intro wq hSq; obtain ⟨q0, q1, q2, q3, q4, q5, q6⟩ := (R1.below hSq R1.lt).cells; go_simp <;> first | with_reducible rfl | rfl)
  simp only [Act.put, List.setIfInBounds_toArray, List.set_cons_zero, List.set_cons_succ]
  refine take_on (i := 4) (v := ?_) rfl rfl (by kernel_rfl) (by kernel_rfl) (by kernel_rfl) (fun _ _ _ h => h) rfl ?_ hHeld ?_
  rotate_left
  · (intro wq hSq; obtain ⟨q0, q1, q2, q3, q4, q5, q6⟩ := (R2.below hSq R2.lt).cells; go_simp <;> first | with_reducible rfl | rfl)
  simp only [Act.put, List.setIfInBounds_toArray, List.set_cons_zero, List.set_cons_succ]
  refine three_made (x := x) (y := y) (z := z) (b := w.heap.size) (w0 := w1) rfl rfl rfl rfl rfl rfl ?_ (fun w h => h) ?_ 6 0 none none none _ (by omega) rfl ⟨hHeld, (fun g e => by cases e), (fun g e => by cases e), (fun g e => by cases e), (fun g e => by cases e), (fun g e => by cases e), (fun g e => by cases e)⟩
  · intro c1 c2 c3 p q r g1 g2 g3
    cases c1 <;> cases c2 <;> cases c3 <;> first | (exact absurd (g1 rfl) (by decide)) | (exact absurd (g2 rfl) (by decide)) | (cases p <;> cases q <;> cases r <;> first | (exact absurd ⟨rfl, rfl, rfl, rfl⟩ g3) | kernel_rfl)
  · intro g7 g8 g9 wf hst
    obtain ⟨B7, l7⟩ := hst.a7 g7 rfl
    obtain ⟨B8, l8⟩ := hst.a8 g8 rfl
    obtain ⟨B9, l9⟩ := hst.a9 g9 rfl
    have n78 : g7 ≠ g8 := fun e => hst.n78 g7 rfl (by rw [e])
    have n79 : g7 ≠ g9 := fun e => hst.n79 g7 rfl (by rw [e])
    have n89 : g8 ≠ g9 := fun e => hst.n89 g8 rfl (by rw [e])
    have hbf := hst.bel
    clear hst hHeld
    unfold actT pl lst
    obtain ⟨c0, c1, c2, c3, c4, c5⟩ := B7.cells
    have f0 := B7.frozen 0
    have f1 := B7.frozen 1
    have f2 := B7.frozen 2
    have f3 := B7.frozen 3
    have f4 := B7.frozen 4
    have f5 := B7.frozen 5
    simp only [it0] at c0 c1 c2 c3 c4 c5
    refine take_one (i := 9) rfl (by kernel_rfl) (fun K hK => ?_)
    go_simp
    refine hK.out _ _ ?_ (fun hHeld => ?_)
    · exact below_all hbf l7 _ _ _ _ _ _
    clear hK K
    refine forgetH (F := fun w' => BoxI w' g7 x ∧ BoxI w' g8 (it0 0) ∧ BoxI w' g9 (it0 0) ∧ Below w1.heap.size w1 w') ⟨B7.all x, far6 B8 n78.symm _ _ _ _ _ _, far6 B9 n79.symm _ _ _ _ _ _, hHeld⟩ ?_
    clear f0 f1 f2 f3 f4 f5 c0 c1 c2 c3 c4 c5 hHeld hbf B7 B8 B9 wf
    rintro wf ⟨B7, B8, B9, hbf⟩
    try simp only [List.setIfInBounds_toArray, List.set_cons_zero, List.set_cons_succ]
    obtain ⟨c0, c1, c2, c3, c4, c5⟩ := B8.cells
    have f0 := B8.frozen 0
    have f1 := B8.frozen 1
    have f2 := B8.frozen 2
    have f3 := B8.frozen 3
    have f4 := B8.frozen 4
    have f5 := B8.frozen 5
    simp only [it0] at c0 c1 c2 c3 c4 c5
    refine take_one (i := 10) rfl (by kernel_rfl) (fun K hK => ?_)
    go_simp
    refine hK.out _ _ ?_ (fun hHeld => ?_)
    · exact below_all hbf l8 _ _ _ _ _ _
    clear hK K
    refine forgetH (F := fun w' => BoxI w' g8 y ∧ BoxI w' g7 x ∧ BoxI w' g9 (it0 0) ∧ Below w1.heap.size w1 w') ⟨B8.all y, far6 B7 n78 _ _ _ _ _ _, far6 B9 n89.symm _ _ _ _ _ _, hHeld⟩ ?_
    clear f0 f1 f2 f3 f4 f5 c0 c1 c2 c3 c4 c5 hHeld hbf B8 B7 B9 wf
    rintro wf ⟨B8, B7, B9, hbf⟩
    try simp only [List.setIfInBounds_toArray, List.set_cons_zero, List.set_cons_succ]
    obtain ⟨c0, c1, c2, c3, c4, c5⟩ := B9.cells
    have f0 := B9.frozen 0
    have f1 := B9.frozen 1
    have f2 := B9.frozen 2
    have f3 := B9.frozen 3
    have f4 := B9.frozen 4
    have f5 := B9.frozen 5
    simp only [it0] at c0 c1 c2 c3 c4 c5
    refine take_one (i := 11) rfl (by kernel_rfl) (fun K hK => ?_)
    go_simp
    refine hK.out _ _ ?_ (fun hHeld => ?_)
    · exact below_all hbf l9 _ _ _ _ _ _
    clear hK K
    refine forgetH (F := fun w' => BoxI w' g9 z ∧ BoxI w' g7 x ∧ BoxI w' g8 y ∧ Below w1.heap.size w1 w') ⟨B9.all z, far6 B7 n79 _ _ _ _ _ _, far6 B8 n89 _ _ _ _ _ _, hHeld⟩ ?_
    clear f0 f1 f2 f3 f4 f5 c0 c1 c2 c3 c4 c5 hHeld hbf B9 B7 B8 wf
    rintro wf ⟨B9, B7, B8, hbf⟩
    try simp only [List.setIfInBounds_toArray, List.set_cons_zero, List.set_cons_succ]
    refine wpAnyH_done (by kernel_rfl) ?_ _
    have hbW := hbw.trans (hbf.mono hbs)
    have hbsW := hbW.size
    clear hbf l7 l8 l9 R0 R1 R2 hbs hbw n78 n79 n89 w1
    have kx := fun w => check_any x w hx
    have ky := fun w => check_any y w hy
    have kz := fun w => check_any z w hz
    have pxy := fun w => compare_any x y w hx hy
    have pyx := fun w => compare_any y x w hy hx
    have pyz := fun w => compare_any y z w hy hz
    have pxz := fun w => compare_any x z w hx hz
    have pxx := fun w => compare_any x x w hx hx
    clear hx hy hz
    obtain ⟨c0, c1, c2, c3, c4, c5⟩ := B7.cells
    go_wp2_with fail
    refine (kx _).mono ?_
    rintro e w2 ⟨rfl, hb2⟩
    have hbW2 := hbW.trans (hb2.mono hbsW)
    have A7 := B7.below hb2 B7.lt
    have A8 := B8.below hb2 B8.lt
    have A9 := B9.below hb2 B9.lt
    clear c0 c1 c2 c3 c4 c5 B7 B8 B9 hb2 hbW kx
    have hbsW2 := hbW2.size
    cases mx : may x with
    | false =>
      simp only [Bool.false_eq_true, if_false]
      go_wp2_with fail
      go_ret
      exact ⟨rfl, hbW2⟩
    | true =>
      simp only [if_true]
      obtain ⟨c0, c1, c2, c3, c4, c5⟩ := A8.cells
      go_wp2_with fail
      refine (ky _).mono ?_
      rintro e w3 ⟨rfl, hb3⟩
      have hbW3 := hbW2.trans (hb3.mono hbsW2)
      have B7 := A7.below hb3 A7.lt
      have B8 := A8.below hb3 A8.lt
      have B9 := A9.below hb3 A9.lt
      clear c0 c1 c2 c3 c4 c5 A7 A8 A9 hb3 hbW2 ky
      have hbsW3 := hbW3.size
      cases my : may y with
      | false =>
        simp only [Bool.false_eq_true, if_false]
        go_wp2_with fail
        go_ret
        exact ⟨rfl, hbW3⟩
      | true =>
        simp only [if_true]
        obtain ⟨c0, c1, c2, c3, c4, c5⟩ := B9.cells
        go_wp2_with fail
        refine (kz _).mono ?_
        rintro e w4 ⟨rfl, hb4⟩
        have hbW4 := hbW3.trans (hb4.mono hbsW3)
        have A7 := B7.below hb4 B7.lt
        have A8 := B8.below hb4 B8.lt
        have A9 := B9.below hb4 B9.lt
        clear c0 c1 c2 c3 c4 c5 B7 B8 B9 hb4 hbW3 kz
        have hbsW4 := hbW4.size
        cases mz : may z with
        | false =>
          simp only [Bool.false_eq_true, if_false]
          go_wp2_with fail
          go_ret
          exact ⟨rfl, hbW4⟩
        | true =>
          simp only [if_true]
          obtain ⟨t1, t2, t3, t4, t5, t6⟩ := H3.out mx my mz
          rw [t1] at pyx
          rw [t2] at pxx
          clear t1 t2
          generalize cmpIt x y = n1 at *
          generalize cmpIt y z = n3 at *
          generalize cmpIt x z = n4 at *
          have T6 := hide_it t6
          clear t6 mx my mz H3
          go_wp2_with fail
          refine wp_region_held_drew (S := (fun w' => Below w4.heap.size w4 w')) (by kernel_rfl) ?_ (fun hHeld => ?_)
          · exact (Below.refl _ _).drew
          refine take_on (i := 0) (v := ?_) rfl rfl (by kernel_rfl) (by kernel_rfl) (by kernel_rfl) (fun _ _ _ h => h) rfl ?_ hHeld ?_
          rotate_left
          · (intro wq hSq; obtain ⟨q0, q1, q2, q3, q4, q5⟩ := (A7.below hSq A7.lt).cells; obtain ⟨r0, r1, r2, r3, r4, r5⟩ := (A8.below hSq A8.lt).cells; obtain ⟨s0, s1, s2, s3, s4, s5⟩ := (A9.below hSq A9.lt).cells; go_simp <;> first | with_reducible rfl | rfl)
          simp only [Act.put, List.setIfInBounds_toArray, List.set_cons_zero, List.set_cons_succ]
          refine take_on (i := 1) (v := ?_) rfl rfl (by kernel_rfl) (by kernel_rfl) (by kernel_rfl) (fun _ _ _ h => h) rfl ?_ hHeld ?_
          rotate_left
          · (intro wq hSq; obtain ⟨q0, q1, q2, q3, q4, q5⟩ := (A7.below hSq A7.lt).cells; obtain ⟨r0, r1, r2, r3, r4, r5⟩ := (A8.below hSq A8.lt).cells; obtain ⟨s0, s1, s2, s3, s4, s5⟩ := (A9.below hSq A9.lt).cells; go_simp <;> first | with_reducible rfl | rfl)
          simp only [Act.put, List.setIfInBounds_toArray, List.set_cons_zero, List.set_cons_succ]
          refine take_on (i := 3) (v := ?_) rfl rfl (by kernel_rfl) (by kernel_rfl) (by kernel_rfl) (fun _ _ _ h => h) rfl ?_ hHeld ?_
          rotate_left
          · (intro wq hSq; obtain ⟨q0, q1, q2, q3, q4, q5⟩ := (A7.below hSq A7.lt).cells; obtain ⟨r0, r1, r2, r3, r4, r5⟩ := (A8.below hSq A8.lt).cells; obtain ⟨s0, s1, s2, s3, s4, s5⟩ := (A9.below hSq A9.lt).cells; go_simp <;> first | with_reducible rfl | rfl)
          simp only [Act.put, List.setIfInBounds_toArray, List.set_cons_zero, List.set_cons_succ]
          refine take_on (i := 4) (v := ?_) rfl rfl (by kernel_rfl) (by kernel_rfl) (by kernel_rfl) (fun _ _ _ h => h) rfl ?_ hHeld ?_
          rotate_left
          · (intro wq hSq; obtain ⟨q0, q1, q2, q3, q4, q5⟩ := (A7.below hSq A7.lt).cells; obtain ⟨r0, r1, r2, r3, r4, r5⟩ := (A8.below hSq A8.lt).cells; obtain ⟨s0, s1, s2, s3, s4, s5⟩ := (A9.below hSq A9.lt).cells; go_simp <;> first | with_reducible rfl | rfl)
          simp only [Act.put, List.setIfInBounds_toArray, List.set_cons_zero, List.set_cons_succ]
          refine take_on (i := 6) (v := ?_) rfl rfl (by kernel_rfl) (by kernel_rfl) (by kernel_rfl) (fun _ _ _ h => h) rfl ?_ hHeld ?_
          rotate_left
          · (intro wq hSq; obtain ⟨q0, q1, q2, q3, q4, q5⟩ := (A7.below hSq A7.lt).cells; obtain ⟨r0, r1, r2, r3, r4, r5⟩ := (A8.below hSq A8.lt).cells; obtain ⟨s0, s1, s2, s3, s4, s5⟩ := (A9.below hSq A9.lt).cells; go_simp <;> first | with_reducible rfl | rfl)
          simp only [Act.put, List.setIfInBounds_toArray, List.set_cons_zero, List.set_cons_succ]
          refine take_on (i := 7) (v := ?_) rfl rfl (by kernel_rfl) (by kernel_rfl) (by kernel_rfl) (fun _ _ _ h => h) rfl ?_ hHeld ?_
          rotate_left
          · (intro wq hSq; obtain ⟨q0, q1, q2, q3, q4, q5⟩ := (A7.below hSq A7.lt).cells; obtain ⟨r0, r1, r2, r3, r4, r5⟩ := (A8.below hSq A8.lt).cells; obtain ⟨s0, s1, s2, s3, s4, s5⟩ := (A9.below hSq A9.lt).cells; go_simp <;> first | with_reducible rfl | rfl)
          simp only [Act.put, List.setIfInBounds_toArray, List.set_cons_zero, List.set_cons_succ]
          refine take_on (i := 9) (v := ?_) rfl rfl (by kernel_rfl) (by kernel_rfl) (by kernel_rfl) (fun _ _ _ h => h) rfl ?_ hHeld ?_
          rotate_left
          · (intro wq hSq; obtain ⟨q0, q1, q2, q3, q4, q5⟩ := (A7.below hSq A7.lt).cells; obtain ⟨r0, r1, r2, r3, r4, r5⟩ := (A8.below hSq A8.lt).cells; obtain ⟨s0, s1, s2, s3, s4, s5⟩ := (A9.below hSq A9.lt).cells; go_simp <;> first | with_reducible rfl | rfl)
          simp only [Act.put, List.setIfInBounds_toArray, List.set_cons_zero, List.set_cons_succ]
          refine take_on (i := 10) (v := ?_) rfl rfl (by kernel_rfl) (by kernel_rfl) (by kernel_rfl) (fun _ _ _ h => h) rfl ?_ hHeld ?_
          rotate_left
          · (intro wq hSq; obtain ⟨q0, q1, q2, q3, q4, q5⟩ := (A7.below hSq A7.lt).cells; obtain ⟨r0, r1, r2, r3, r4, r5⟩ := (A8.below hSq A8.lt).cells; obtain ⟨s0, s1, s2, s3, s4, s5⟩ := (A9.below hSq A9.lt).cells; go_simp <;> first | with_reducible rfl | rfl)
          simp only [Act.put, List.setIfInBounds_toArray, List.set_cons_zero, List.set_cons_succ]
          refine take_one (i := 2) rfl (by kernel_rfl) (fun K hK => ?_)
          go_simp
          refine (pxy _).mono ?_; rintro e y1 ⟨rfl, hq1⟩; have hSx := hHeld.trans (hq1.mono hHeld.size); clear hq1
          try go_wp2_with fail
          refine hK.out _ _ ?_ (fun hHeld => ?_)
          · exact hSx
          clear hK K
          try simp only [Act.put, List.setIfInBounds_toArray, List.set_cons_zero, List.set_cons_succ]
          refine take_one (i := 5) rfl (by kernel_rfl) (fun K hK => ?_)
          go_simp
          refine (pyx _).mono ?_; rintro e y1 ⟨rfl, hq1⟩; have hSx := hHeld.trans (hq1.mono hHeld.size); clear hq1
          try go_wp2_with fail
          refine hK.out _ _ ?_ (fun hHeld => ?_)
          · exact hSx
          clear hK K
          try simp only [Act.put, List.setIfInBounds_toArray, List.set_cons_zero, List.set_cons_succ]
          refine take_one (i := 8) rfl (by kernel_rfl) (fun K hK => ?_)
          go_simp
          refine (pyz _).mono ?_; rintro e y1 ⟨rfl, hq1⟩; have hSx := hHeld.trans (hq1.mono hHeld.size); clear hq1
          try go_wp2_with fail
          refine hK.out _ _ ?_ (fun hHeld => ?_)
          · exact hSx
          clear hK K
          try simp only [Act.put, List.setIfInBounds_toArray, List.set_cons_zero, List.set_cons_succ]
          refine take_one (i := 11) rfl (by kernel_rfl) (fun K hK => ?_)
          go_simp
          refine (pxz _).mono ?_; rintro e y1 ⟨rfl, hq1⟩; have hSx := hHeld.trans (hq1.mono hHeld.size); clear hq1
          try go_wp2_with fail
          refine hK.out _ _ ?_ (fun hHeld => ?_)
          · exact hSx
          clear hK K
          try simp only [Act.put, List.setIfInBounds_toArray, List.set_cons_zero, List.set_cons_succ]
          refine take_on (i := 12) (v := ?_) rfl rfl (by kernel_rfl) (by kernel_rfl) (by kernel_rfl) (fun _ _ _ h => h) rfl ?_ hHeld ?_
          rotate_left
          · (intro wq hSq; obtain ⟨q0, q1, q2, q3, q4, q5⟩ := (A7.below hSq A7.lt).cells; obtain ⟨r0, r1, r2, r3, r4, r5⟩ := (A8.below hSq A8.lt).cells; obtain ⟨s0, s1, s2, s3, s4, s5⟩ := (A9.below hSq A9.lt).cells; go_simp <;> first | with_reducible rfl | rfl)
          simp only [Act.put, List.setIfInBounds_toArray, List.set_cons_zero, List.set_cons_succ]
          refine take_on (i := 13) (v := ?_) rfl rfl (by kernel_rfl) (by kernel_rfl) (by kernel_rfl) (fun _ _ _ h => h) rfl ?_ hHeld ?_
          rotate_left
          · (intro wq hSq; obtain ⟨q0, q1, q2, q3, q4, q5⟩ := (A7.below hSq A7.lt).cells; obtain ⟨r0, r1, r2, r3, r4, r5⟩ := (A8.below hSq A8.lt).cells; obtain ⟨s0, s1, s2, s3, s4, s5⟩ := (A9.below hSq A9.lt).cells; go_simp <;> first | with_reducible rfl | rfl)
          simp only [Act.put, List.setIfInBounds_toArray, List.set_cons_zero, List.set_cons_succ]
          refine take_on (i := 14) (v := ?_) rfl rfl (by kernel_rfl) (by kernel_rfl) (by kernel_rfl) (fun _ _ _ h => h) rfl ?_ hHeld ?_
          rotate_left
          · (intro wq hSq; obtain ⟨q0, q1, q2, q3, q4, q5⟩ := (A7.below hSq A7.lt).cells; obtain ⟨r0, r1, r2, r3, r4, r5⟩ := (A8.below hSq A8.lt).cells; obtain ⟨s0, s1, s2, s3, s4, s5⟩ := (A9.below hSq A9.lt).cells; go_simp <;> first | with_reducible rfl | rfl)
          simp only [Act.put, List.setIfInBounds_toArray, List.set_cons_zero, List.set_cons_succ]
          refine take_on (i := 15) (v := ?_) rfl rfl (by kernel_rfl) (by kernel_rfl) (by kernel_rfl) (fun _ _ _ h => h) rfl ?_ hHeld ?_
          rotate_left
          · (intro wq hSq; obtain ⟨q0, q1, q2, q3, q4, q5⟩ := (A7.below hSq A7.lt).cells; obtain ⟨r0, r1, r2, r3, r4, r5⟩ := (A8.below hSq A8.lt).cells; obtain ⟨s0, s1, s2, s3, s4, s5⟩ := (A9.below hSq A9.lt).cells; go_simp <;> first | with_reducible rfl | rfl)
          simp only [Act.put, List.setIfInBounds_toArray, List.set_cons_zero, List.set_cons_succ]
          refine wpAnyH_done (by kernel_rfl) ?_ _
          have hbW5 := hbW4.trans (hHeld.mono hbsW4)
          have hbsW5 := hbW5.size
          obtain ⟨c0, c1, c2, c3, c4, c5⟩ := (A7.below hHeld A7.lt).cells
          clear hHeld A7 A8 A9 hbW4 hbsW4 pxy pyx pyz pxz
          have hn1 : n1 = -1 ∨ n1 = 0 ∨ n1 = 1 := by omega
          have hn3 : n3 = -1 ∨ n3 = 0 ∨ n3 = 1 := by omega
          have hn4 : n4 = -1 ∨ n4 = 0 ∨ n4 = 1 := by omega
          clear t3 t4 t5
          rcases hn1 with rfl | rfl | rfl <;> rcases hn3 with rfl | rfl | rfl <;> rcases hn4 with rfl | rfl | rfl <;> first
            | (exfalso; have := T6.out; omega)
            | (clear T6
               go_wp2_with fail
               refine (pxx _).mono ?_
               rintro e w6 ⟨rfl, hb6⟩
               have hbW6 := hbW5.trans (hb6.mono hbsW5)
               go_wp2_with fail
               go_ret
               exact ⟨rfl, hbW6⟩)

end Go.Proofs.Ytahnpbgbekbfhab.orderTotal

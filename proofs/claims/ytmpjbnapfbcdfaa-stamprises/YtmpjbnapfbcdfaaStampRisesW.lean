/- The law on Next, one by one, walked. -/
import Derived.Test.YtmpjbnapfbcdfaaCk4
import Derived.Test.YtmpjbnapfbcdfaaOpenSta
namespace Go.Proofs.Ytmpjbnapfbcdfaa.stampRises
open Go.RowKit

/-- The box of the start, the clock that counts, what is unchanged. -/
structure Rs (w0 w : World) (q p : Nat) (a b : Int) (c : Ck) : Prop where
  box : w.heap[q]? = some (.cells #[.int .i64 a, .int .i64 b] 56 (0, 0))
  pk : Pk w p c
  ok : CkOk c
  there : c.t = true
  win : c.k = b
  qp : q ≠ p
  low : w0.heap.size ≤ q ∧ w0.heap.size ≤ p
  bel : Below w0.heap.size w0 w
theorem Rs.below {w0 w w' : World} {q p : Nat} {a b : Int} {c : Ck} (h : Rs w0 w q p a b c) (hb : Below w.heap.size w w') : Rs w0 w' q p a b c :=
  ⟨(hb.block q (Array.getElem?_eq_some_iff.1 h.box).1).trans h.box, h.pk.below hb, h.ok, h.there, h.win, h.qp, h.low, h.bel.trans (hb.mono h.bel.size)⟩
theorem Rs.tick {w0 w w' : World} {q p : Nat} {a b : Int} {c : Ck} (h : Rs w0 w q p a b c) (ht : Ticked w p c (nextC c) w') : Rs w0 w' q p a b (nextC c) := by
  refine ⟨(ht.chg.block q (Array.getElem?_eq_some_iff.1 h.box).1 (fun e => h.qp e.2)).trans h.box, ht.pk, nextC_ok h.ok, (nextC_t c).trans h.there, ?_, h.qp, h.low, h.bel.trans (ht.chg.below (fun k hk => by rw [hk.2]; exact h.low.2) h.bel.size)⟩
  have := h.win
  unfold nextC; split <;> (try split) <;> exact this
theorem Rs.cells {w0 w : World} {q p : Nat} {a b : Int} {c : Ck} (h : Rs w0 w q p a b c) : w.cell? ⟨q, 0, none⟩ = some (.int .i64 a) ∧ w.cell? ⟨q, 1, none⟩ = some (.int .i64 b) :=
  ⟨cell_of_row _ _ _ _ _ _ h.box, cell_of_row _ _ _ _ _ _ h.box⟩

set_option maxRecDepth 100000 in
set_option maxHeartbeats 2000000 in
theorem main1 (a b : Int) (hf : fine a b) (t : Int) (ht : t < 0) (w : World) :
    Calls Try.prog 6 #[.agg #[.int .i64 a, .int .i64 b], .int .i64 t] w fun e w' => e = .returned (.bool true) ∧ Below w.heap.size w w' := by
  obtain ⟨W0, hW0⟩ : ∃ W0, W0 = w.alloc (.cells #[.int .i64 a, .int .i64 b] 56) := ⟨_, rfl⟩
  have hb0 : Below w.heap.size w W0 := by rw [hW0]; exact (Below.refl _ _).alloc (Nat.le_refl _) _
  have hs0 : W0.heap.size = w.heap.size + 1 := by rw [hW0]; simp
  have hx0 : W0.heap[w.heap.size]? = some (.cells #[.int .i64 a, .int .i64 b] 56 (0, 0)) := by rw [hW0]; exact heap_alloc_new w _
  have HF := hide_it hf
  clear hf
  go_enter Try.func6, Try.ntmps6
  go_wp2_with fail
  rw [← hW0]
  clear hW0
  refine (head_any _).mono ?_
  rintro e w1 ⟨rfl, b1⟩
  have z1 := b1.size
  have hx1 := (b1.block _ (by omega)).trans hx0
  have hb1 := hb0.trans (b1.mono (by omega))
  have c0 : w1.cell? ⟨w.heap.size, 0, none⟩ = some (.int .i64 a) := cell_of_row _ _ _ _ _ _ hx1
  have c1 : w1.cell? ⟨w.heap.size, 1, none⟩ = some (.int .i64 b) := cell_of_row _ _ _ _ _ _ hx1
  have hnew := new_ok a b HF.out w1
  obtain ⟨W2, hW2⟩ : ∃ W2, W2 = w1.alloc (.cells #[.int .i64 a, .int .i64 b] 62) := ⟨_, rfl⟩
  have hR2 : Rs w W2 w.heap.size w1.heap.size a b ⟨true, a, b⟩ := by
    have hbb : Below w1.heap.size w1 W2 := by rw [hW2]; exact (Below.refl _ _).alloc (Nat.le_refl _) _
    have hf := HF.out
    unfold fine at hf
    exact ⟨(hbb.block _ (by omega)).trans hx1, fun _ => by rw [hW2]; exact heap_alloc_new w1 _, ⟨fun h => (by cases h), by simp; omega, by simp; omega⟩, rfl, rfl, by omega, ⟨Nat.le_refl _, by omega⟩, hb1.trans (hbb.mono (by omega))⟩
  rw [← hW2] at hnew
  clear hW2
  go_wp2_with fail
  refine hnew.mono ?_
  rintro e w2 ⟨rfl, hq⟩
  have hq2 := hq.symm
  subst hq2
  clear hq hnew c0 c1 hx0 hx1 hb0 hb1 b1
  obtain ⟨c0, c1⟩ := hR2.cells
  obtain ⟨q, hqe⟩ : ∃ q, q = w.heap.size := ⟨_, rfl⟩
  obtain ⟨p, hpe⟩ : ∃ p, p = w1.heap.size := ⟨_, rfl⟩
  rw [← hqe] at c0 c1 ⊢
  have hR : Rs w W2 q p a b ⟨true, a, b⟩ := by rw [hqe, hpe]; exact hR2
  rw [← hpe]
  clear hR2 hqe hpe z1 hs0
  have HR := hide_it hR
  clear hR
  go_wp2_with fail
  go_loopw [7, 8] (fun v i wr => ∃ (k : Nat) (c : Ck), k ≤ 1000 ∧ i = .int .i64 k ∧ v = .int .i64 c.n ∧ Rs w wr q p a b c) (fun _ i _ => 1000 - (intOf i).toNat)
  case atStart => exact ⟨0, ⟨true, a, b⟩, by omega, rfl, rfl, HR.out⟩
  case round =>
    clear HR c0 c1
    obtain ⟨k, c, hk, rfl, rfl, hR⟩ := hrel
    by_cases hlt : (k : Int) < 1000
    · have hk2 : k < 1000 := by omega
      have hw1 : IntKind.i64.wrap ((k : Int) + 1) = (k : Int) + 1 := i64_in (by omega) (by omega)
      have hnx := next_any c hR.ok p wr hR.pk
      have ep : ptrK c p = .pointer (some ⟨p, 0, none⟩) := by simp [ptrK, hR.there]
      rw [ep] at hnx
      have hlow := hR.ok.low
      have hwin := hR.ok.win
      cases hwn : worn c with
      | true =>
        have e1 : nextN c = 0 := by simp [nextN, hwn]
        have e2 : nextE c = 120 := by simp [nextE, hR.there, hwn]
        have e3 : nextC c = c := by simp [nextC, hwn]
        have hn : c.n = 4611686018427387904 := by simpa [worn] using hwn
        have hsub : IntKind.i64.wrap ((4611686018427387904 : Int) - b) = 4611686018427387904 - b := by
          have h1 := hR.win
          rw [h1] at hwin
          exact i64_in (by omega) (by omega)
        rw [e1, e2] at hnx
        rw [hn]
        clear hlow hwin
        go_wp2_with fail
        refine hnx.mono ?_
        rintro e w3 ⟨rfl, htk⟩
        have hR3 := hR.tick htk
        rw [e3] at hR3
        have hwo := worn_any c hR3.ok p w3 hR3.pk
        rw [ep, hwn] at hwo
        have hR4 := hR3.below ((Below.refl _ _).drew)
        have hnow := now_any c hR4.ok p w3.drew hR4.pk
        rw [ep, hn] at hnow
        have hhor := horizon_any c hR4.ok p w3.drew hR4.pk
        rw [ep, hn, hR3.win] at hhor
        have HR4 := hide_it hR4
        clear hR4
        have HR3 := hide_it hR3
        have HN := hide_it hn
        clear hnx htk hR hR3 e1 e2 e3 hwn hn ep
        go_wp2_with fail
        refine hwo.mono ?_
        rintro e w4 ⟨rfl, hq⟩
        have hq2 := hq.symm
        subst hq2
        clear hq hwo
        go_wp2_with fail
        refine wp_region_held_drew (S := (fun w' => w'.cell? ⟨q, 1, none⟩ = some (.int .i64 b))) (by kernel_rfl) ?_ (fun hHeld => ?_)
        · exact HR3.out.cells.2
        refine take_on (i := 0) (v := ?_) rfl rfl (by kernel_rfl) (by kernel_rfl) (by kernel_rfl) (fun _ _ _ h => h) rfl ?_ hHeld ?_
        rotate_left
        · (intro wq hSq; have p1 := hSq; go_simp <;> first | with_reducible rfl | rfl)
        simp only [Act.put, List.setIfInBounds_toArray, List.set_cons_zero, List.set_cons_succ]
        refine take_on (i := 2) (v := ?_) rfl rfl (by kernel_rfl) (by kernel_rfl) (by kernel_rfl) (fun _ _ _ h => h) rfl ?_ hHeld ?_
        rotate_left
        · (intro wq hSq; have p1 := hSq; go_simp <;> first | with_reducible rfl | rfl)
        simp only [Act.put, List.setIfInBounds_toArray, List.set_cons_zero, List.set_cons_succ]
        refine take_one (i := 1) rfl (by kernel_rfl) (fun K hK => ?_)
        go_simp
        (refine hnow.mono ?_; rintro e w5 ⟨rfl, hq⟩; have hq2 := hq.symm; subst hq2; clear hq)
        try go_wp2_with fail
        refine hK.out _ _ ?_ (fun hHeld => ?_)
        · exact HR4.out.cells.2
        clear hK K
        try simp only [Act.put, List.setIfInBounds_toArray, List.set_cons_zero, List.set_cons_succ]
        refine take_on (i := 3) (v := ?_) rfl rfl (by kernel_rfl) (by kernel_rfl) (by kernel_rfl) (fun _ _ _ h => h) rfl ?_ hHeld ?_
        rotate_left
        · (intro wq hSq; have p1 := hSq; go_simp <;> first | with_reducible rfl | rfl)
        simp only [Act.put, List.setIfInBounds_toArray, List.set_cons_zero, List.set_cons_succ]
        refine take_on (i := 4) (v := ?_) rfl rfl (by kernel_rfl) (by kernel_rfl) (by kernel_rfl) (fun _ _ _ h => h) rfl ?_ hHeld ?_
        rotate_left
        · (intro wq hSq; have p1 := hSq; go_simp <;> first | with_reducible rfl | rfl)
        simp only [Act.put, List.setIfInBounds_toArray, List.set_cons_zero, List.set_cons_succ]
        refine take_on (i := 5) (v := ?_) rfl rfl (by kernel_rfl) (by kernel_rfl) (by kernel_rfl) (fun _ _ _ h => h) rfl ?_ hHeld ?_
        rotate_left
        · (intro wq hSq; have p1 := hSq; go_simp <;> first | with_reducible rfl | rfl)
        simp only [Act.put, List.setIfInBounds_toArray, List.set_cons_zero, List.set_cons_succ]
        refine take_on (i := 7) (v := ?_) rfl rfl (by kernel_rfl) (by kernel_rfl) (by kernel_rfl) (fun _ _ _ h => h) rfl ?_ hHeld ?_
        rotate_left
        · (intro wq hSq; have p1 := hSq; go_simp <;> first | with_reducible rfl | rfl)
        simp only [Act.put, List.setIfInBounds_toArray, List.set_cons_zero, List.set_cons_succ]
        refine take_on (i := 8) (v := ?_) rfl rfl (by kernel_rfl) (by kernel_rfl) (by kernel_rfl) (fun _ _ _ h => h) rfl ?_ hHeld ?_
        rotate_left
        · (intro wq hSq; have p1 := hSq; go_simp <;> first | with_reducible rfl | rfl)
        simp only [Act.put, List.setIfInBounds_toArray, List.set_cons_zero, List.set_cons_succ]
        refine take_on (i := 9) (v := ?_) rfl rfl (by kernel_rfl) (by kernel_rfl) (by kernel_rfl) (fun _ _ _ h => h) rfl ?_ hHeld ?_
        rotate_left
        · (intro wq hSq; have p1 := hSq; go_simp <;> first | with_reducible rfl | rfl)
        simp only [Act.put, List.setIfInBounds_toArray, List.set_cons_zero, List.set_cons_succ]
        refine take_on (i := 10) (v := ?_) rfl rfl (by kernel_rfl) (by kernel_rfl) (by kernel_rfl) (fun _ _ _ h => h) rfl ?_ hHeld ?_
        rotate_left
        · (intro wq hSq; have p1 := hSq; go_simp <;> first | with_reducible rfl | rfl)
        simp only [Act.put, List.setIfInBounds_toArray, List.set_cons_zero, List.set_cons_succ]
        refine take_one (i := 6) rfl (by kernel_rfl) (fun K hK => ?_)
        go_simp
        (refine hhor.mono ?_; rintro e w6 ⟨rfl, hb6⟩)
        try go_wp2_with fail
        refine hK.out _ _ ?_ (fun hHeld => ?_)
        · exact (HR4.out.below hb6).cells.2
        clear hK K
        try simp only [Act.put, List.setIfInBounds_toArray, List.set_cons_zero, List.set_cons_succ]
        refine take_on (i := 11) (v := ?_) rfl rfl (by kernel_rfl) (by kernel_rfl) (by kernel_rfl) (fun _ _ _ h => h) rfl ?_ hHeld ?_
        rotate_left
        · (intro wq hSq; have p1 := hSq; go_simp <;> first | with_reducible rfl | rfl)
        simp only [Act.put, List.setIfInBounds_toArray, List.set_cons_zero, List.set_cons_succ]
        refine take_on (i := 12) (v := ?_) rfl rfl (by kernel_rfl) (by kernel_rfl) (by kernel_rfl) (fun _ _ _ h => h) rfl ?_ hHeld ?_
        rotate_left
        · (intro wq hSq; have p1 := hSq; go_simp <;> first | with_reducible rfl | rfl)
        simp only [Act.put, List.setIfInBounds_toArray, List.set_cons_zero, List.set_cons_succ]
        refine wpAnyH_done (by kernel_rfl) ?_ _
        go_wp2
        go_roundw
        case rel => exact ⟨k + 1, c, by omega, by go_num, by rw [HN.out], HR4.out.below hb6⟩
        case measure => simp [intOf]; omega
      | false =>
        have e1 : nextN c = c.n + 1 := by simp [nextN, hR.there, hwn]
        have e2 : nextE c = 0 := by simp [nextE, hR.there, hwn]
        have e3 : nextC c = { c with n := c.n + 1 } := by simp [nextC, hR.there, hwn]
        have hne : (c.n == 4611686018427387904) = false := hwn
        have hne2 : ¬ c.n = 4611686018427387904 := by simpa using hne
        have hwr : IntKind.i64.wrap (c.n + 1) = c.n + 1 := i64_in (by omega) (by omega)
        have hsub : IntKind.i64.wrap (c.n + 1 - b) = c.n + 1 - b := by
          have h1 := hR.win
          rw [h1] at hwin
          exact i64_in (by omega) (by omega)
        rw [e1, e2] at hnx
        have hR3h := hide_it (fun w' h => e3 ▸ hR.tick (w' := w') h)
        have HE3 := hide_it e3
        have HW := hide_it hR.win
        have HTH := hide_it hR.there
        clear hlow hwin hne2 hwn e1 e2 e3 hR
        obtain ⟨N, hN⟩ : ∃ N, N = c.n := ⟨_, rfl⟩
        rw [← hN] at hnx hne hwr hsub ⊢
        have HN := hide_it hN
        clear hN
        go_wp2_with fail
        refine hnx.mono ?_
        rintro e w3 ⟨rfl, htk⟩
        have hR3 : Rs w w3 q p a b { c with n := N + 1 } := by
          have := hR3h.out w3 htk
          rw [HN.out]; exact this
        have hR4 := hR3.below ((Below.refl _ _).drew)
        have ep2 : ptrK { c with n := N + 1 } p = .pointer (some ⟨p, 0, none⟩) := by simp [ptrK, HTH.out]
        have hnow := now_any _ hR4.ok p w3.drew hR4.pk
        rw [ep2] at hnow
        have hhor := horizon_any _ hR4.ok p w3.drew hR4.pk
        rw [ep2, hR3.win] at hhor
        have HR4 := hide_it hR4
        have HR3 := hide_it hR3
        clear hnx htk hR3 hR4 ep ep2
        go_wp2_with fail
        refine wp_region_held_drew (S := (fun w' => w'.cell? ⟨q, 1, none⟩ = some (.int .i64 b))) (by kernel_rfl) ?_ (fun hHeld => ?_)
        · exact HR3.out.cells.2
        refine take_on (i := 0) (v := ?_) rfl rfl (by kernel_rfl) (by kernel_rfl) (by kernel_rfl) (fun _ _ _ h => h) rfl ?_ hHeld ?_
        rotate_left
        · (intro wq hSq; have p1 := hSq; go_simp <;> first | with_reducible rfl | rfl)
        simp only [Act.put, List.setIfInBounds_toArray, List.set_cons_zero, List.set_cons_succ]
        refine take_on (i := 2) (v := ?_) rfl rfl (by kernel_rfl) (by kernel_rfl) (by kernel_rfl) (fun _ _ _ h => h) rfl ?_ hHeld ?_
        rotate_left
        · (intro wq hSq; have p1 := hSq; go_simp <;> first | with_reducible rfl | rfl)
        simp only [Act.put, List.setIfInBounds_toArray, List.set_cons_zero, List.set_cons_succ]
        refine take_one (i := 1) rfl (by kernel_rfl) (fun K hK => ?_)
        go_simp
        (refine hnow.mono ?_; rintro e w5 ⟨rfl, hq⟩; have hq2 := hq.symm; subst hq2; clear hq)
        try go_wp2_with fail
        refine hK.out _ _ ?_ (fun hHeld => ?_)
        · exact HR4.out.cells.2
        clear hK K
        try simp only [Act.put, List.setIfInBounds_toArray, List.set_cons_zero, List.set_cons_succ]
        refine take_on (i := 3) (v := ?_) rfl rfl (by kernel_rfl) (by kernel_rfl) (by kernel_rfl) (fun _ _ _ h => h) rfl ?_ hHeld ?_
        rotate_left
        · (intro wq hSq; have p1 := hSq; go_simp <;> first | with_reducible rfl | rfl)
        simp only [Act.put, List.setIfInBounds_toArray, List.set_cons_zero, List.set_cons_succ]
        refine take_on (i := 4) (v := ?_) rfl rfl (by kernel_rfl) (by kernel_rfl) (by kernel_rfl) (fun _ _ _ h => h) rfl ?_ hHeld ?_
        rotate_left
        · (intro wq hSq; have p1 := hSq; go_simp <;> first | with_reducible rfl | rfl)
        simp only [Act.put, List.setIfInBounds_toArray, List.set_cons_zero, List.set_cons_succ]
        refine take_on (i := 5) (v := ?_) rfl rfl (by kernel_rfl) (by kernel_rfl) (by kernel_rfl) (fun _ _ _ h => h) rfl ?_ hHeld ?_
        rotate_left
        · (intro wq hSq; have p1 := hSq; go_simp <;> first | with_reducible rfl | rfl)
        simp only [Act.put, List.setIfInBounds_toArray, List.set_cons_zero, List.set_cons_succ]
        refine take_on (i := 7) (v := ?_) rfl rfl (by kernel_rfl) (by kernel_rfl) (by kernel_rfl) (fun _ _ _ h => h) rfl ?_ hHeld ?_
        rotate_left
        · (intro wq hSq; have p1 := hSq; go_simp <;> first | with_reducible rfl | rfl)
        simp only [Act.put, List.setIfInBounds_toArray, List.set_cons_zero, List.set_cons_succ]
        refine take_on (i := 8) (v := ?_) rfl rfl (by kernel_rfl) (by kernel_rfl) (by kernel_rfl) (fun _ _ _ h => h) rfl ?_ hHeld ?_
        rotate_left
        · (intro wq hSq; have p1 := hSq; go_simp <;> first | with_reducible rfl | rfl)
        simp only [Act.put, List.setIfInBounds_toArray, List.set_cons_zero, List.set_cons_succ]
        refine take_on (i := 9) (v := ?_) rfl rfl (by kernel_rfl) (by kernel_rfl) (by kernel_rfl) (fun _ _ _ h => h) rfl ?_ hHeld ?_
        rotate_left
        · (intro wq hSq; have p1 := hSq; go_simp <;> first | with_reducible rfl | rfl)
        simp only [Act.put, List.setIfInBounds_toArray, List.set_cons_zero, List.set_cons_succ]
        refine take_on (i := 10) (v := ?_) rfl rfl (by kernel_rfl) (by kernel_rfl) (by kernel_rfl) (fun _ _ _ h => h) rfl ?_ hHeld ?_
        rotate_left
        · (intro wq hSq; have p1 := hSq; go_simp <;> first | with_reducible rfl | rfl)
        simp only [Act.put, List.setIfInBounds_toArray, List.set_cons_zero, List.set_cons_succ]
        refine take_one (i := 6) rfl (by kernel_rfl) (fun K hK => ?_)
        go_simp
        (refine hhor.mono ?_; rintro e w6 ⟨rfl, hb6⟩)
        try go_wp2_with fail
        refine hK.out _ _ ?_ (fun hHeld => ?_)
        · exact (HR4.out.below hb6).cells.2
        clear hK K
        try simp only [Act.put, List.setIfInBounds_toArray, List.set_cons_zero, List.set_cons_succ]
        refine take_on (i := 11) (v := ?_) rfl rfl (by kernel_rfl) (by kernel_rfl) (by kernel_rfl) (fun _ _ _ h => h) rfl ?_ hHeld ?_
        rotate_left
        · (intro wq hSq; have p1 := hSq; go_simp <;> first | with_reducible rfl | rfl)
        simp only [Act.put, List.setIfInBounds_toArray, List.set_cons_zero, List.set_cons_succ]
        refine take_on (i := 12) (v := ?_) rfl rfl (by kernel_rfl) (by kernel_rfl) (by kernel_rfl) (fun _ _ _ h => h) rfl ?_ hHeld ?_
        rotate_left
        · (intro wq hSq; have p1 := hSq; go_simp <;> first | with_reducible rfl | rfl)
        simp only [Act.put, List.setIfInBounds_toArray, List.set_cons_zero, List.set_cons_succ]
        refine wpAnyH_done (by kernel_rfl) ?_ _
        go_wp2
        go_roundw
        case rel => exact ⟨k + 1, _, by omega, by go_num, rfl, HR4.out.below hb6⟩
        case measure => simp [intOf]; omega
    · have hwo := worn_any c hR.ok p wr hR.pk
      have ep : ptrK c p = .pointer (some ⟨p, 0, none⟩) := by simp [ptrK, hR.there]
      rw [ep] at hwo
      unfold worn at hwo
      have HB := hide_it hR.bel
      clear hR ep
      generalize c.n = N at *
      go_wp2_with (refine hwo.mono ?_; rintro e w3 ⟨rfl, hq⟩; have hq2 := hq.symm; subst hq2; clear hq)
      go_ret
      exact ⟨by simp, HB.out⟩

set_option maxRecDepth 100000 in
set_option maxHeartbeats 2000000 in
theorem main2 (a b : Int) (hf : fine a b) (t : Int) (ht : 1000 < t) (w : World) :
    Calls Try.prog 6 #[.agg #[.int .i64 a, .int .i64 b], .int .i64 t] w fun e w' => e = .returned (.bool true) ∧ Below w.heap.size w w' := by
  obtain ⟨W0, hW0⟩ : ∃ W0, W0 = w.alloc (.cells #[.int .i64 a, .int .i64 b] 56) := ⟨_, rfl⟩
  have hb0 : Below w.heap.size w W0 := by rw [hW0]; exact (Below.refl _ _).alloc (Nat.le_refl _) _
  have hs0 : W0.heap.size = w.heap.size + 1 := by rw [hW0]; simp
  have hx0 : W0.heap[w.heap.size]? = some (.cells #[.int .i64 a, .int .i64 b] 56 (0, 0)) := by rw [hW0]; exact heap_alloc_new w _
  have HF := hide_it hf
  clear hf
  go_enter Try.func6, Try.ntmps6
  go_wp2_with fail
  rw [← hW0]
  clear hW0
  refine (head_any _).mono ?_
  rintro e w1 ⟨rfl, b1⟩
  have z1 := b1.size
  have hx1 := (b1.block _ (by omega)).trans hx0
  have hb1 := hb0.trans (b1.mono (by omega))
  have c0 : w1.cell? ⟨w.heap.size, 0, none⟩ = some (.int .i64 a) := cell_of_row _ _ _ _ _ _ hx1
  have c1 : w1.cell? ⟨w.heap.size, 1, none⟩ = some (.int .i64 b) := cell_of_row _ _ _ _ _ _ hx1
  have hnew := new_ok a b HF.out w1
  obtain ⟨W2, hW2⟩ : ∃ W2, W2 = w1.alloc (.cells #[.int .i64 a, .int .i64 b] 62) := ⟨_, rfl⟩
  have hR2 : Rs w W2 w.heap.size w1.heap.size a b ⟨true, a, b⟩ := by
    have hbb : Below w1.heap.size w1 W2 := by rw [hW2]; exact (Below.refl _ _).alloc (Nat.le_refl _) _
    have hf := HF.out
    unfold fine at hf
    exact ⟨(hbb.block _ (by omega)).trans hx1, fun _ => by rw [hW2]; exact heap_alloc_new w1 _, ⟨fun h => (by cases h), by simp; omega, by simp; omega⟩, rfl, rfl, by omega, ⟨Nat.le_refl _, by omega⟩, hb1.trans (hbb.mono (by omega))⟩
  rw [← hW2] at hnew
  clear hW2
  go_wp2_with fail
  refine hnew.mono ?_
  rintro e w2 ⟨rfl, hq⟩
  have hq2 := hq.symm
  subst hq2
  clear hq hnew c0 c1 hx0 hx1 hb0 hb1 b1
  obtain ⟨c0, c1⟩ := hR2.cells
  obtain ⟨q, hqe⟩ : ∃ q, q = w.heap.size := ⟨_, rfl⟩
  obtain ⟨p, hpe⟩ : ∃ p, p = w1.heap.size := ⟨_, rfl⟩
  rw [← hqe] at c0 c1 ⊢
  have hR : Rs w W2 q p a b ⟨true, a, b⟩ := by rw [hqe, hpe]; exact hR2
  rw [← hpe]
  clear hR2 hqe hpe z1 hs0
  have HR := hide_it hR
  clear hR
  go_wp2_with fail
  go_loopw [7, 8] (fun v i wr => ∃ (k : Nat) (c : Ck), k ≤ 1000 ∧ i = .int .i64 k ∧ v = .int .i64 c.n ∧ Rs w wr q p a b c) (fun _ i _ => 1000 - (intOf i).toNat)
  case atStart => exact ⟨0, ⟨true, a, b⟩, by omega, rfl, rfl, HR.out⟩
  case round =>
    clear HR c0 c1
    obtain ⟨k, c, hk, rfl, rfl, hR⟩ := hrel
    by_cases hlt : (k : Int) < 1000
    · have hk2 : k < 1000 := by omega
      have hw1 : IntKind.i64.wrap ((k : Int) + 1) = (k : Int) + 1 := i64_in (by omega) (by omega)
      have hnx := next_any c hR.ok p wr hR.pk
      have ep : ptrK c p = .pointer (some ⟨p, 0, none⟩) := by simp [ptrK, hR.there]
      rw [ep] at hnx
      have hlow := hR.ok.low
      have hwin := hR.ok.win
      cases hwn : worn c with
      | true =>
        have e1 : nextN c = 0 := by simp [nextN, hwn]
        have e2 : nextE c = 120 := by simp [nextE, hR.there, hwn]
        have e3 : nextC c = c := by simp [nextC, hwn]
        have hn : c.n = 4611686018427387904 := by simpa [worn] using hwn
        have hsub : IntKind.i64.wrap ((4611686018427387904 : Int) - b) = 4611686018427387904 - b := by
          have h1 := hR.win
          rw [h1] at hwin
          exact i64_in (by omega) (by omega)
        rw [e1, e2] at hnx
        rw [hn]
        clear hlow hwin
        go_wp2_with fail
        refine hnx.mono ?_
        rintro e w3 ⟨rfl, htk⟩
        have hR3 := hR.tick htk
        rw [e3] at hR3
        have hwo := worn_any c hR3.ok p w3 hR3.pk
        rw [ep, hwn] at hwo
        have hR4 := hR3.below ((Below.refl _ _).drew)
        have hnow := now_any c hR4.ok p w3.drew hR4.pk
        rw [ep, hn] at hnow
        have hhor := horizon_any c hR4.ok p w3.drew hR4.pk
        rw [ep, hn, hR3.win] at hhor
        have HR4 := hide_it hR4
        clear hR4
        have HR3 := hide_it hR3
        have HN := hide_it hn
        clear hnx htk hR hR3 e1 e2 e3 hwn hn ep
        go_wp2_with fail
        refine hwo.mono ?_
        rintro e w4 ⟨rfl, hq⟩
        have hq2 := hq.symm
        subst hq2
        clear hq hwo
        go_wp2_with fail
        refine wp_region_held_drew (S := (fun w' => w'.cell? ⟨q, 1, none⟩ = some (.int .i64 b))) (by kernel_rfl) ?_ (fun hHeld => ?_)
        · exact HR3.out.cells.2
        refine take_on (i := 0) (v := ?_) rfl rfl (by kernel_rfl) (by kernel_rfl) (by kernel_rfl) (fun _ _ _ h => h) rfl ?_ hHeld ?_
        rotate_left
        · (intro wq hSq; have p1 := hSq; go_simp <;> first | with_reducible rfl | rfl)
        simp only [Act.put, List.setIfInBounds_toArray, List.set_cons_zero, List.set_cons_succ]
        refine take_on (i := 2) (v := ?_) rfl rfl (by kernel_rfl) (by kernel_rfl) (by kernel_rfl) (fun _ _ _ h => h) rfl ?_ hHeld ?_
        rotate_left
        · (intro wq hSq; have p1 := hSq; go_simp <;> first | with_reducible rfl | rfl)
        simp only [Act.put, List.setIfInBounds_toArray, List.set_cons_zero, List.set_cons_succ]
        refine take_one (i := 1) rfl (by kernel_rfl) (fun K hK => ?_)
        go_simp
        (refine hnow.mono ?_; rintro e w5 ⟨rfl, hq⟩; have hq2 := hq.symm; subst hq2; clear hq)
        try go_wp2_with fail
        refine hK.out _ _ ?_ (fun hHeld => ?_)
        · exact HR4.out.cells.2
        clear hK K
        try simp only [Act.put, List.setIfInBounds_toArray, List.set_cons_zero, List.set_cons_succ]
        refine take_on (i := 3) (v := ?_) rfl rfl (by kernel_rfl) (by kernel_rfl) (by kernel_rfl) (fun _ _ _ h => h) rfl ?_ hHeld ?_
        rotate_left
        · (intro wq hSq; have p1 := hSq; go_simp <;> first | with_reducible rfl | rfl)
        simp only [Act.put, List.setIfInBounds_toArray, List.set_cons_zero, List.set_cons_succ]
        refine take_on (i := 4) (v := ?_) rfl rfl (by kernel_rfl) (by kernel_rfl) (by kernel_rfl) (fun _ _ _ h => h) rfl ?_ hHeld ?_
        rotate_left
        · (intro wq hSq; have p1 := hSq; go_simp <;> first | with_reducible rfl | rfl)
        simp only [Act.put, List.setIfInBounds_toArray, List.set_cons_zero, List.set_cons_succ]
        refine take_on (i := 5) (v := ?_) rfl rfl (by kernel_rfl) (by kernel_rfl) (by kernel_rfl) (fun _ _ _ h => h) rfl ?_ hHeld ?_
        rotate_left
        · (intro wq hSq; have p1 := hSq; go_simp <;> first | with_reducible rfl | rfl)
        simp only [Act.put, List.setIfInBounds_toArray, List.set_cons_zero, List.set_cons_succ]
        refine take_on (i := 7) (v := ?_) rfl rfl (by kernel_rfl) (by kernel_rfl) (by kernel_rfl) (fun _ _ _ h => h) rfl ?_ hHeld ?_
        rotate_left
        · (intro wq hSq; have p1 := hSq; go_simp <;> first | with_reducible rfl | rfl)
        simp only [Act.put, List.setIfInBounds_toArray, List.set_cons_zero, List.set_cons_succ]
        refine take_on (i := 8) (v := ?_) rfl rfl (by kernel_rfl) (by kernel_rfl) (by kernel_rfl) (fun _ _ _ h => h) rfl ?_ hHeld ?_
        rotate_left
        · (intro wq hSq; have p1 := hSq; go_simp <;> first | with_reducible rfl | rfl)
        simp only [Act.put, List.setIfInBounds_toArray, List.set_cons_zero, List.set_cons_succ]
        refine take_on (i := 9) (v := ?_) rfl rfl (by kernel_rfl) (by kernel_rfl) (by kernel_rfl) (fun _ _ _ h => h) rfl ?_ hHeld ?_
        rotate_left
        · (intro wq hSq; have p1 := hSq; go_simp <;> first | with_reducible rfl | rfl)
        simp only [Act.put, List.setIfInBounds_toArray, List.set_cons_zero, List.set_cons_succ]
        refine take_on (i := 10) (v := ?_) rfl rfl (by kernel_rfl) (by kernel_rfl) (by kernel_rfl) (fun _ _ _ h => h) rfl ?_ hHeld ?_
        rotate_left
        · (intro wq hSq; have p1 := hSq; go_simp <;> first | with_reducible rfl | rfl)
        simp only [Act.put, List.setIfInBounds_toArray, List.set_cons_zero, List.set_cons_succ]
        refine take_one (i := 6) rfl (by kernel_rfl) (fun K hK => ?_)
        go_simp
        (refine hhor.mono ?_; rintro e w6 ⟨rfl, hb6⟩)
        try go_wp2_with fail
        refine hK.out _ _ ?_ (fun hHeld => ?_)
        · exact (HR4.out.below hb6).cells.2
        clear hK K
        try simp only [Act.put, List.setIfInBounds_toArray, List.set_cons_zero, List.set_cons_succ]
        refine take_on (i := 11) (v := ?_) rfl rfl (by kernel_rfl) (by kernel_rfl) (by kernel_rfl) (fun _ _ _ h => h) rfl ?_ hHeld ?_
        rotate_left
        · (intro wq hSq; have p1 := hSq; go_simp <;> first | with_reducible rfl | rfl)
        simp only [Act.put, List.setIfInBounds_toArray, List.set_cons_zero, List.set_cons_succ]
        refine take_on (i := 12) (v := ?_) rfl rfl (by kernel_rfl) (by kernel_rfl) (by kernel_rfl) (fun _ _ _ h => h) rfl ?_ hHeld ?_
        rotate_left
        · (intro wq hSq; have p1 := hSq; go_simp <;> first | with_reducible rfl | rfl)
        simp only [Act.put, List.setIfInBounds_toArray, List.set_cons_zero, List.set_cons_succ]
        refine wpAnyH_done (by kernel_rfl) ?_ _
        go_wp2
        go_roundw
        case rel => exact ⟨k + 1, c, by omega, by go_num, by rw [HN.out], HR4.out.below hb6⟩
        case measure => simp [intOf]; omega
      | false =>
        have e1 : nextN c = c.n + 1 := by simp [nextN, hR.there, hwn]
        have e2 : nextE c = 0 := by simp [nextE, hR.there, hwn]
        have e3 : nextC c = { c with n := c.n + 1 } := by simp [nextC, hR.there, hwn]
        have hne : (c.n == 4611686018427387904) = false := hwn
        have hne2 : ¬ c.n = 4611686018427387904 := by simpa using hne
        have hwr : IntKind.i64.wrap (c.n + 1) = c.n + 1 := i64_in (by omega) (by omega)
        have hsub : IntKind.i64.wrap (c.n + 1 - b) = c.n + 1 - b := by
          have h1 := hR.win
          rw [h1] at hwin
          exact i64_in (by omega) (by omega)
        rw [e1, e2] at hnx
        have hR3h := hide_it (fun w' h => e3 ▸ hR.tick (w' := w') h)
        have HE3 := hide_it e3
        have HW := hide_it hR.win
        have HTH := hide_it hR.there
        clear hlow hwin hne2 hwn e1 e2 e3 hR
        obtain ⟨N, hN⟩ : ∃ N, N = c.n := ⟨_, rfl⟩
        rw [← hN] at hnx hne hwr hsub ⊢
        have HN := hide_it hN
        clear hN
        go_wp2_with fail
        refine hnx.mono ?_
        rintro e w3 ⟨rfl, htk⟩
        have hR3 : Rs w w3 q p a b { c with n := N + 1 } := by
          have := hR3h.out w3 htk
          rw [HN.out]; exact this
        have hR4 := hR3.below ((Below.refl _ _).drew)
        have ep2 : ptrK { c with n := N + 1 } p = .pointer (some ⟨p, 0, none⟩) := by simp [ptrK, HTH.out]
        have hnow := now_any _ hR4.ok p w3.drew hR4.pk
        rw [ep2] at hnow
        have hhor := horizon_any _ hR4.ok p w3.drew hR4.pk
        rw [ep2, hR3.win] at hhor
        have HR4 := hide_it hR4
        have HR3 := hide_it hR3
        clear hnx htk hR3 hR4 ep ep2
        go_wp2_with fail
        refine wp_region_held_drew (S := (fun w' => w'.cell? ⟨q, 1, none⟩ = some (.int .i64 b))) (by kernel_rfl) ?_ (fun hHeld => ?_)
        · exact HR3.out.cells.2
        refine take_on (i := 0) (v := ?_) rfl rfl (by kernel_rfl) (by kernel_rfl) (by kernel_rfl) (fun _ _ _ h => h) rfl ?_ hHeld ?_
        rotate_left
        · (intro wq hSq; have p1 := hSq; go_simp <;> first | with_reducible rfl | rfl)
        simp only [Act.put, List.setIfInBounds_toArray, List.set_cons_zero, List.set_cons_succ]
        refine take_on (i := 2) (v := ?_) rfl rfl (by kernel_rfl) (by kernel_rfl) (by kernel_rfl) (fun _ _ _ h => h) rfl ?_ hHeld ?_
        rotate_left
        · (intro wq hSq; have p1 := hSq; go_simp <;> first | with_reducible rfl | rfl)
        simp only [Act.put, List.setIfInBounds_toArray, List.set_cons_zero, List.set_cons_succ]
        refine take_one (i := 1) rfl (by kernel_rfl) (fun K hK => ?_)
        go_simp
        (refine hnow.mono ?_; rintro e w5 ⟨rfl, hq⟩; have hq2 := hq.symm; subst hq2; clear hq)
        try go_wp2_with fail
        refine hK.out _ _ ?_ (fun hHeld => ?_)
        · exact HR4.out.cells.2
        clear hK K
        try simp only [Act.put, List.setIfInBounds_toArray, List.set_cons_zero, List.set_cons_succ]
        refine take_on (i := 3) (v := ?_) rfl rfl (by kernel_rfl) (by kernel_rfl) (by kernel_rfl) (fun _ _ _ h => h) rfl ?_ hHeld ?_
        rotate_left
        · (intro wq hSq; have p1 := hSq; go_simp <;> first | with_reducible rfl | rfl)
        simp only [Act.put, List.setIfInBounds_toArray, List.set_cons_zero, List.set_cons_succ]
        refine take_on (i := 4) (v := ?_) rfl rfl (by kernel_rfl) (by kernel_rfl) (by kernel_rfl) (fun _ _ _ h => h) rfl ?_ hHeld ?_
        rotate_left
        · (intro wq hSq; have p1 := hSq; go_simp <;> first | with_reducible rfl | rfl)
        simp only [Act.put, List.setIfInBounds_toArray, List.set_cons_zero, List.set_cons_succ]
        refine take_on (i := 5) (v := ?_) rfl rfl (by kernel_rfl) (by kernel_rfl) (by kernel_rfl) (fun _ _ _ h => h) rfl ?_ hHeld ?_
        rotate_left
        · (intro wq hSq; have p1 := hSq; go_simp <;> first | with_reducible rfl | rfl)
        simp only [Act.put, List.setIfInBounds_toArray, List.set_cons_zero, List.set_cons_succ]
        refine take_on (i := 7) (v := ?_) rfl rfl (by kernel_rfl) (by kernel_rfl) (by kernel_rfl) (fun _ _ _ h => h) rfl ?_ hHeld ?_
        rotate_left
        · (intro wq hSq; have p1 := hSq; go_simp <;> first | with_reducible rfl | rfl)
        simp only [Act.put, List.setIfInBounds_toArray, List.set_cons_zero, List.set_cons_succ]
        refine take_on (i := 8) (v := ?_) rfl rfl (by kernel_rfl) (by kernel_rfl) (by kernel_rfl) (fun _ _ _ h => h) rfl ?_ hHeld ?_
        rotate_left
        · (intro wq hSq; have p1 := hSq; go_simp <;> first | with_reducible rfl | rfl)
        simp only [Act.put, List.setIfInBounds_toArray, List.set_cons_zero, List.set_cons_succ]
        refine take_on (i := 9) (v := ?_) rfl rfl (by kernel_rfl) (by kernel_rfl) (by kernel_rfl) (fun _ _ _ h => h) rfl ?_ hHeld ?_
        rotate_left
        · (intro wq hSq; have p1 := hSq; go_simp <;> first | with_reducible rfl | rfl)
        simp only [Act.put, List.setIfInBounds_toArray, List.set_cons_zero, List.set_cons_succ]
        refine take_on (i := 10) (v := ?_) rfl rfl (by kernel_rfl) (by kernel_rfl) (by kernel_rfl) (fun _ _ _ h => h) rfl ?_ hHeld ?_
        rotate_left
        · (intro wq hSq; have p1 := hSq; go_simp <;> first | with_reducible rfl | rfl)
        simp only [Act.put, List.setIfInBounds_toArray, List.set_cons_zero, List.set_cons_succ]
        refine take_one (i := 6) rfl (by kernel_rfl) (fun K hK => ?_)
        go_simp
        (refine hhor.mono ?_; rintro e w6 ⟨rfl, hb6⟩)
        try go_wp2_with fail
        refine hK.out _ _ ?_ (fun hHeld => ?_)
        · exact (HR4.out.below hb6).cells.2
        clear hK K
        try simp only [Act.put, List.setIfInBounds_toArray, List.set_cons_zero, List.set_cons_succ]
        refine take_on (i := 11) (v := ?_) rfl rfl (by kernel_rfl) (by kernel_rfl) (by kernel_rfl) (fun _ _ _ h => h) rfl ?_ hHeld ?_
        rotate_left
        · (intro wq hSq; have p1 := hSq; go_simp <;> first | with_reducible rfl | rfl)
        simp only [Act.put, List.setIfInBounds_toArray, List.set_cons_zero, List.set_cons_succ]
        refine take_on (i := 12) (v := ?_) rfl rfl (by kernel_rfl) (by kernel_rfl) (by kernel_rfl) (fun _ _ _ h => h) rfl ?_ hHeld ?_
        rotate_left
        · (intro wq hSq; have p1 := hSq; go_simp <;> first | with_reducible rfl | rfl)
        simp only [Act.put, List.setIfInBounds_toArray, List.set_cons_zero, List.set_cons_succ]
        refine wpAnyH_done (by kernel_rfl) ?_ _
        go_wp2
        go_roundw
        case rel => exact ⟨k + 1, _, by omega, by go_num, rfl, HR4.out.below hb6⟩
        case measure => simp [intOf]; omega
    · have hwo := worn_any c hR.ok p wr hR.pk
      have ep : ptrK c p = .pointer (some ⟨p, 0, none⟩) := by simp [ptrK, hR.there]
      rw [ep] at hwo
      unfold worn at hwo
      have HB := hide_it hR.bel
      clear hR ep
      generalize c.n = N at *
      go_wp2_with (refine hwo.mono ?_; rintro e w3 ⟨rfl, hq⟩; have hq2 := hq.symm; subst hq2; clear hq)
      go_ret
      exact ⟨by simp, HB.out⟩

set_option maxRecDepth 100000 in
set_option maxHeartbeats 2000000 in
theorem main3 (a b : Int) (hf : fine a b) (t : Int) (ht : 0 ≤ t) (ht2 : t ≤ 1000) (w : World) :
    Calls Try.prog 6 #[.agg #[.int .i64 a, .int .i64 b], .int .i64 t] w fun e w' => e = .returned (.bool true) ∧ Below w.heap.size w w' := by
  obtain ⟨W0, hW0⟩ : ∃ W0, W0 = w.alloc (.cells #[.int .i64 a, .int .i64 b] 56) := ⟨_, rfl⟩
  have hb0 : Below w.heap.size w W0 := by rw [hW0]; exact (Below.refl _ _).alloc (Nat.le_refl _) _
  have hs0 : W0.heap.size = w.heap.size + 1 := by rw [hW0]; simp
  have hx0 : W0.heap[w.heap.size]? = some (.cells #[.int .i64 a, .int .i64 b] 56 (0, 0)) := by rw [hW0]; exact heap_alloc_new w _
  have HF := hide_it hf
  clear hf
  go_enter Try.func6, Try.ntmps6
  go_wp2_with fail
  rw [← hW0]
  clear hW0
  refine (head_any _).mono ?_
  rintro e w1 ⟨rfl, b1⟩
  have z1 := b1.size
  have hx1 := (b1.block _ (by omega)).trans hx0
  have hb1 := hb0.trans (b1.mono (by omega))
  have c0 : w1.cell? ⟨w.heap.size, 0, none⟩ = some (.int .i64 a) := cell_of_row _ _ _ _ _ _ hx1
  have c1 : w1.cell? ⟨w.heap.size, 1, none⟩ = some (.int .i64 b) := cell_of_row _ _ _ _ _ _ hx1
  have hnew := new_ok a b HF.out w1
  obtain ⟨W2, hW2⟩ : ∃ W2, W2 = w1.alloc (.cells #[.int .i64 a, .int .i64 b] 62) := ⟨_, rfl⟩
  have hR2 : Rs w W2 w.heap.size w1.heap.size a b ⟨true, a, b⟩ := by
    have hbb : Below w1.heap.size w1 W2 := by rw [hW2]; exact (Below.refl _ _).alloc (Nat.le_refl _) _
    have hf := HF.out
    unfold fine at hf
    exact ⟨(hbb.block _ (by omega)).trans hx1, fun _ => by rw [hW2]; exact heap_alloc_new w1 _, ⟨fun h => (by cases h), by simp; omega, by simp; omega⟩, rfl, rfl, by omega, ⟨Nat.le_refl _, by omega⟩, hb1.trans (hbb.mono (by omega))⟩
  rw [← hW2] at hnew
  clear hW2
  go_wp2_with fail
  refine hnew.mono ?_
  rintro e w2 ⟨rfl, hq⟩
  have hq2 := hq.symm
  subst hq2
  clear hq hnew c0 c1 hx0 hx1 hb0 hb1 b1
  obtain ⟨c0, c1⟩ := hR2.cells
  obtain ⟨q, hqe⟩ : ∃ q, q = w.heap.size := ⟨_, rfl⟩
  obtain ⟨p, hpe⟩ : ∃ p, p = w1.heap.size := ⟨_, rfl⟩
  rw [← hqe] at c0 c1 ⊢
  have hR : Rs w W2 q p a b ⟨true, a, b⟩ := by rw [hqe, hpe]; exact hR2
  rw [← hpe]
  clear hR2 hqe hpe z1 hs0
  have HR := hide_it hR
  clear hR
  go_wp2_with fail
  go_loopw [7, 8] (fun v i wr => ∃ (k : Nat) (c : Ck), k ≤ 1000 ∧ i = .int .i64 k ∧ v = .int .i64 c.n ∧ Rs w wr q p a b c) (fun _ i _ => 1000 - (intOf i).toNat)
  case atStart => exact ⟨0, ⟨true, a, b⟩, by omega, rfl, rfl, HR.out⟩
  case round =>
    clear HR c0 c1
    obtain ⟨k, c, hk, rfl, rfl, hR⟩ := hrel
    by_cases hlt : (k : Int) < t
    · have hk2 : k < 1000 := by omega
      have hw1 : IntKind.i64.wrap ((k : Int) + 1) = (k : Int) + 1 := i64_in (by omega) (by omega)
      have hnx := next_any c hR.ok p wr hR.pk
      have ep : ptrK c p = .pointer (some ⟨p, 0, none⟩) := by simp [ptrK, hR.there]
      rw [ep] at hnx
      have hlow := hR.ok.low
      have hwin := hR.ok.win
      cases hwn : worn c with
      | true =>
        have e1 : nextN c = 0 := by simp [nextN, hwn]
        have e2 : nextE c = 120 := by simp [nextE, hR.there, hwn]
        have e3 : nextC c = c := by simp [nextC, hwn]
        have hn : c.n = 4611686018427387904 := by simpa [worn] using hwn
        have hsub : IntKind.i64.wrap ((4611686018427387904 : Int) - b) = 4611686018427387904 - b := by
          have h1 := hR.win
          rw [h1] at hwin
          exact i64_in (by omega) (by omega)
        rw [e1, e2] at hnx
        rw [hn]
        clear hlow hwin
        go_wp2_with fail
        refine hnx.mono ?_
        rintro e w3 ⟨rfl, htk⟩
        have hR3 := hR.tick htk
        rw [e3] at hR3
        have hwo := worn_any c hR3.ok p w3 hR3.pk
        rw [ep, hwn] at hwo
        have hR4 := hR3.below ((Below.refl _ _).drew)
        have hnow := now_any c hR4.ok p w3.drew hR4.pk
        rw [ep, hn] at hnow
        have hhor := horizon_any c hR4.ok p w3.drew hR4.pk
        rw [ep, hn, hR3.win] at hhor
        have HR4 := hide_it hR4
        clear hR4
        have HR3 := hide_it hR3
        have HN := hide_it hn
        clear hnx htk hR hR3 e1 e2 e3 hwn hn ep
        go_wp2_with fail
        refine hwo.mono ?_
        rintro e w4 ⟨rfl, hq⟩
        have hq2 := hq.symm
        subst hq2
        clear hq hwo
        go_wp2_with fail
        refine wp_region_held_drew (S := (fun w' => w'.cell? ⟨q, 1, none⟩ = some (.int .i64 b))) (by kernel_rfl) ?_ (fun hHeld => ?_)
        · exact HR3.out.cells.2
        refine take_on (i := 0) (v := ?_) rfl rfl (by kernel_rfl) (by kernel_rfl) (by kernel_rfl) (fun _ _ _ h => h) rfl ?_ hHeld ?_
        rotate_left
        · (intro wq hSq; have p1 := hSq; go_simp <;> first | with_reducible rfl | rfl)
        simp only [Act.put, List.setIfInBounds_toArray, List.set_cons_zero, List.set_cons_succ]
        refine take_on (i := 2) (v := ?_) rfl rfl (by kernel_rfl) (by kernel_rfl) (by kernel_rfl) (fun _ _ _ h => h) rfl ?_ hHeld ?_
        rotate_left
        · (intro wq hSq; have p1 := hSq; go_simp <;> first | with_reducible rfl | rfl)
        simp only [Act.put, List.setIfInBounds_toArray, List.set_cons_zero, List.set_cons_succ]
        refine take_one (i := 1) rfl (by kernel_rfl) (fun K hK => ?_)
        go_simp
        (refine hnow.mono ?_; rintro e w5 ⟨rfl, hq⟩; have hq2 := hq.symm; subst hq2; clear hq)
        try go_wp2_with fail
        refine hK.out _ _ ?_ (fun hHeld => ?_)
        · exact HR4.out.cells.2
        clear hK K
        try simp only [Act.put, List.setIfInBounds_toArray, List.set_cons_zero, List.set_cons_succ]
        refine take_on (i := 3) (v := ?_) rfl rfl (by kernel_rfl) (by kernel_rfl) (by kernel_rfl) (fun _ _ _ h => h) rfl ?_ hHeld ?_
        rotate_left
        · (intro wq hSq; have p1 := hSq; go_simp <;> first | with_reducible rfl | rfl)
        simp only [Act.put, List.setIfInBounds_toArray, List.set_cons_zero, List.set_cons_succ]
        refine take_on (i := 4) (v := ?_) rfl rfl (by kernel_rfl) (by kernel_rfl) (by kernel_rfl) (fun _ _ _ h => h) rfl ?_ hHeld ?_
        rotate_left
        · (intro wq hSq; have p1 := hSq; go_simp <;> first | with_reducible rfl | rfl)
        simp only [Act.put, List.setIfInBounds_toArray, List.set_cons_zero, List.set_cons_succ]
        refine take_on (i := 5) (v := ?_) rfl rfl (by kernel_rfl) (by kernel_rfl) (by kernel_rfl) (fun _ _ _ h => h) rfl ?_ hHeld ?_
        rotate_left
        · (intro wq hSq; have p1 := hSq; go_simp <;> first | with_reducible rfl | rfl)
        simp only [Act.put, List.setIfInBounds_toArray, List.set_cons_zero, List.set_cons_succ]
        refine take_on (i := 7) (v := ?_) rfl rfl (by kernel_rfl) (by kernel_rfl) (by kernel_rfl) (fun _ _ _ h => h) rfl ?_ hHeld ?_
        rotate_left
        · (intro wq hSq; have p1 := hSq; go_simp <;> first | with_reducible rfl | rfl)
        simp only [Act.put, List.setIfInBounds_toArray, List.set_cons_zero, List.set_cons_succ]
        refine take_on (i := 8) (v := ?_) rfl rfl (by kernel_rfl) (by kernel_rfl) (by kernel_rfl) (fun _ _ _ h => h) rfl ?_ hHeld ?_
        rotate_left
        · (intro wq hSq; have p1 := hSq; go_simp <;> first | with_reducible rfl | rfl)
        simp only [Act.put, List.setIfInBounds_toArray, List.set_cons_zero, List.set_cons_succ]
        refine take_on (i := 9) (v := ?_) rfl rfl (by kernel_rfl) (by kernel_rfl) (by kernel_rfl) (fun _ _ _ h => h) rfl ?_ hHeld ?_
        rotate_left
        · (intro wq hSq; have p1 := hSq; go_simp <;> first | with_reducible rfl | rfl)
        simp only [Act.put, List.setIfInBounds_toArray, List.set_cons_zero, List.set_cons_succ]
        refine take_on (i := 10) (v := ?_) rfl rfl (by kernel_rfl) (by kernel_rfl) (by kernel_rfl) (fun _ _ _ h => h) rfl ?_ hHeld ?_
        rotate_left
        · (intro wq hSq; have p1 := hSq; go_simp <;> first | with_reducible rfl | rfl)
        simp only [Act.put, List.setIfInBounds_toArray, List.set_cons_zero, List.set_cons_succ]
        refine take_one (i := 6) rfl (by kernel_rfl) (fun K hK => ?_)
        go_simp
        (refine hhor.mono ?_; rintro e w6 ⟨rfl, hb6⟩)
        try go_wp2_with fail
        refine hK.out _ _ ?_ (fun hHeld => ?_)
        · exact (HR4.out.below hb6).cells.2
        clear hK K
        try simp only [Act.put, List.setIfInBounds_toArray, List.set_cons_zero, List.set_cons_succ]
        refine take_on (i := 11) (v := ?_) rfl rfl (by kernel_rfl) (by kernel_rfl) (by kernel_rfl) (fun _ _ _ h => h) rfl ?_ hHeld ?_
        rotate_left
        · (intro wq hSq; have p1 := hSq; go_simp <;> first | with_reducible rfl | rfl)
        simp only [Act.put, List.setIfInBounds_toArray, List.set_cons_zero, List.set_cons_succ]
        refine take_on (i := 12) (v := ?_) rfl rfl (by kernel_rfl) (by kernel_rfl) (by kernel_rfl) (fun _ _ _ h => h) rfl ?_ hHeld ?_
        rotate_left
        · (intro wq hSq; have p1 := hSq; go_simp <;> first | with_reducible rfl | rfl)
        simp only [Act.put, List.setIfInBounds_toArray, List.set_cons_zero, List.set_cons_succ]
        refine wpAnyH_done (by kernel_rfl) ?_ _
        go_wp2
        go_roundw
        case rel => exact ⟨k + 1, c, by omega, by go_num, by rw [HN.out], HR4.out.below hb6⟩
        case measure => simp [intOf]; omega
      | false =>
        have e1 : nextN c = c.n + 1 := by simp [nextN, hR.there, hwn]
        have e2 : nextE c = 0 := by simp [nextE, hR.there, hwn]
        have e3 : nextC c = { c with n := c.n + 1 } := by simp [nextC, hR.there, hwn]
        have hne : (c.n == 4611686018427387904) = false := hwn
        have hne2 : ¬ c.n = 4611686018427387904 := by simpa using hne
        have hwr : IntKind.i64.wrap (c.n + 1) = c.n + 1 := i64_in (by omega) (by omega)
        have hsub : IntKind.i64.wrap (c.n + 1 - b) = c.n + 1 - b := by
          have h1 := hR.win
          rw [h1] at hwin
          exact i64_in (by omega) (by omega)
        rw [e1, e2] at hnx
        have hR3h := hide_it (fun w' h => e3 ▸ hR.tick (w' := w') h)
        have HE3 := hide_it e3
        have HW := hide_it hR.win
        have HTH := hide_it hR.there
        clear hlow hwin hne2 hwn e1 e2 e3 hR
        obtain ⟨N, hN⟩ : ∃ N, N = c.n := ⟨_, rfl⟩
        rw [← hN] at hnx hne hwr hsub ⊢
        have HN := hide_it hN
        clear hN
        go_wp2_with fail
        refine hnx.mono ?_
        rintro e w3 ⟨rfl, htk⟩
        have hR3 : Rs w w3 q p a b { c with n := N + 1 } := by
          have := hR3h.out w3 htk
          rw [HN.out]; exact this
        have hR4 := hR3.below ((Below.refl _ _).drew)
        have ep2 : ptrK { c with n := N + 1 } p = .pointer (some ⟨p, 0, none⟩) := by simp [ptrK, HTH.out]
        have hnow := now_any _ hR4.ok p w3.drew hR4.pk
        rw [ep2] at hnow
        have hhor := horizon_any _ hR4.ok p w3.drew hR4.pk
        rw [ep2, hR3.win] at hhor
        have HR4 := hide_it hR4
        have HR3 := hide_it hR3
        clear hnx htk hR3 hR4 ep ep2
        go_wp2_with fail
        refine wp_region_held_drew (S := (fun w' => w'.cell? ⟨q, 1, none⟩ = some (.int .i64 b))) (by kernel_rfl) ?_ (fun hHeld => ?_)
        · exact HR3.out.cells.2
        refine take_on (i := 0) (v := ?_) rfl rfl (by kernel_rfl) (by kernel_rfl) (by kernel_rfl) (fun _ _ _ h => h) rfl ?_ hHeld ?_
        rotate_left
        · (intro wq hSq; have p1 := hSq; go_simp <;> first | with_reducible rfl | rfl)
        simp only [Act.put, List.setIfInBounds_toArray, List.set_cons_zero, List.set_cons_succ]
        refine take_on (i := 2) (v := ?_) rfl rfl (by kernel_rfl) (by kernel_rfl) (by kernel_rfl) (fun _ _ _ h => h) rfl ?_ hHeld ?_
        rotate_left
        · (intro wq hSq; have p1 := hSq; go_simp <;> first | with_reducible rfl | rfl)
        simp only [Act.put, List.setIfInBounds_toArray, List.set_cons_zero, List.set_cons_succ]
        refine take_one (i := 1) rfl (by kernel_rfl) (fun K hK => ?_)
        go_simp
        (refine hnow.mono ?_; rintro e w5 ⟨rfl, hq⟩; have hq2 := hq.symm; subst hq2; clear hq)
        try go_wp2_with fail
        refine hK.out _ _ ?_ (fun hHeld => ?_)
        · exact HR4.out.cells.2
        clear hK K
        try simp only [Act.put, List.setIfInBounds_toArray, List.set_cons_zero, List.set_cons_succ]
        refine take_on (i := 3) (v := ?_) rfl rfl (by kernel_rfl) (by kernel_rfl) (by kernel_rfl) (fun _ _ _ h => h) rfl ?_ hHeld ?_
        rotate_left
        · (intro wq hSq; have p1 := hSq; go_simp <;> first | with_reducible rfl | rfl)
        simp only [Act.put, List.setIfInBounds_toArray, List.set_cons_zero, List.set_cons_succ]
        refine take_on (i := 4) (v := ?_) rfl rfl (by kernel_rfl) (by kernel_rfl) (by kernel_rfl) (fun _ _ _ h => h) rfl ?_ hHeld ?_
        rotate_left
        · (intro wq hSq; have p1 := hSq; go_simp <;> first | with_reducible rfl | rfl)
        simp only [Act.put, List.setIfInBounds_toArray, List.set_cons_zero, List.set_cons_succ]
        refine take_on (i := 5) (v := ?_) rfl rfl (by kernel_rfl) (by kernel_rfl) (by kernel_rfl) (fun _ _ _ h => h) rfl ?_ hHeld ?_
        rotate_left
        · (intro wq hSq; have p1 := hSq; go_simp <;> first | with_reducible rfl | rfl)
        simp only [Act.put, List.setIfInBounds_toArray, List.set_cons_zero, List.set_cons_succ]
        refine take_on (i := 7) (v := ?_) rfl rfl (by kernel_rfl) (by kernel_rfl) (by kernel_rfl) (fun _ _ _ h => h) rfl ?_ hHeld ?_
        rotate_left
        · (intro wq hSq; have p1 := hSq; go_simp <;> first | with_reducible rfl | rfl)
        simp only [Act.put, List.setIfInBounds_toArray, List.set_cons_zero, List.set_cons_succ]
        refine take_on (i := 8) (v := ?_) rfl rfl (by kernel_rfl) (by kernel_rfl) (by kernel_rfl) (fun _ _ _ h => h) rfl ?_ hHeld ?_
        rotate_left
        · (intro wq hSq; have p1 := hSq; go_simp <;> first | with_reducible rfl | rfl)
        simp only [Act.put, List.setIfInBounds_toArray, List.set_cons_zero, List.set_cons_succ]
        refine take_on (i := 9) (v := ?_) rfl rfl (by kernel_rfl) (by kernel_rfl) (by kernel_rfl) (fun _ _ _ h => h) rfl ?_ hHeld ?_
        rotate_left
        · (intro wq hSq; have p1 := hSq; go_simp <;> first | with_reducible rfl | rfl)
        simp only [Act.put, List.setIfInBounds_toArray, List.set_cons_zero, List.set_cons_succ]
        refine take_on (i := 10) (v := ?_) rfl rfl (by kernel_rfl) (by kernel_rfl) (by kernel_rfl) (fun _ _ _ h => h) rfl ?_ hHeld ?_
        rotate_left
        · (intro wq hSq; have p1 := hSq; go_simp <;> first | with_reducible rfl | rfl)
        simp only [Act.put, List.setIfInBounds_toArray, List.set_cons_zero, List.set_cons_succ]
        refine take_one (i := 6) rfl (by kernel_rfl) (fun K hK => ?_)
        go_simp
        (refine hhor.mono ?_; rintro e w6 ⟨rfl, hb6⟩)
        try go_wp2_with fail
        refine hK.out _ _ ?_ (fun hHeld => ?_)
        · exact (HR4.out.below hb6).cells.2
        clear hK K
        try simp only [Act.put, List.setIfInBounds_toArray, List.set_cons_zero, List.set_cons_succ]
        refine take_on (i := 11) (v := ?_) rfl rfl (by kernel_rfl) (by kernel_rfl) (by kernel_rfl) (fun _ _ _ h => h) rfl ?_ hHeld ?_
        rotate_left
        · (intro wq hSq; have p1 := hSq; go_simp <;> first | with_reducible rfl | rfl)
        simp only [Act.put, List.setIfInBounds_toArray, List.set_cons_zero, List.set_cons_succ]
        refine take_on (i := 12) (v := ?_) rfl rfl (by kernel_rfl) (by kernel_rfl) (by kernel_rfl) (fun _ _ _ h => h) rfl ?_ hHeld ?_
        rotate_left
        · (intro wq hSq; have p1 := hSq; go_simp <;> first | with_reducible rfl | rfl)
        simp only [Act.put, List.setIfInBounds_toArray, List.set_cons_zero, List.set_cons_succ]
        refine wpAnyH_done (by kernel_rfl) ?_ _
        go_wp2
        go_roundw
        case rel => exact ⟨k + 1, _, by omega, by go_num, rfl, HR4.out.below hb6⟩
        case measure => simp [intOf]; omega
    · have hwo := worn_any c hR.ok p wr hR.pk
      have ep : ptrK c p = .pointer (some ⟨p, 0, none⟩) := by simp [ptrK, hR.there]
      rw [ep] at hwo
      unfold worn at hwo
      have HB := hide_it hR.bel
      clear hR ep
      generalize c.n = N at *
      go_wp2_with (refine hwo.mono ?_; rintro e w3 ⟨rfl, hq⟩; have hq2 := hq.symm; subst hq2; clear hq)
      go_ret
      exact ⟨by simp, HB.out⟩

set_option maxRecDepth 100000 in
set_option maxHeartbeats 2000000 in
theorem none_ (a b : Int) (hf : ¬ fine a b) (t : Int) (w : World) :
    Calls Try.prog 6 #[.agg #[.int .i64 a, .int .i64 b], .int .i64 t] w fun e w' => e = .returned (.bool true) ∧ Below w.heap.size w w' := by
  have ways : a < 0 ∨ (¬ a < 0 ∧ 4611686018427387904 < a) ∨ (¬ a < 0 ∧ ¬ 4611686018427387904 < a ∧ b < 0) ∨ (¬ a < 0 ∧ ¬ 4611686018427387904 < a ∧ ¬ b < 0 ∧ 1048576 < b) := by unfold fine at hf; omega
  obtain ⟨W0, hW0⟩ : ∃ W0, W0 = w.alloc (.cells #[.int .i64 a, .int .i64 b] 56) := ⟨_, rfl⟩
  have hb0 : Below w.heap.size w W0 := by rw [hW0]; exact (Below.refl _ _).alloc (Nat.le_refl _) _
  have hs0 : W0.heap.size = w.heap.size + 1 := by rw [hW0]; simp
  have hx0 : W0.heap[w.heap.size]? = some (.cells #[.int .i64 a, .int .i64 b] 56 (0, 0)) := by rw [hW0]; exact heap_alloc_new w _
  have HF := hide_it hf
  have HW := hide_it ways
  clear hf ways
  go_enter Try.func6, Try.ntmps6
  go_wp2_with fail
  rw [← hW0]
  clear hW0
  refine (head_any _).mono ?_
  rintro e w1 ⟨rfl, b1⟩
  have z1 := b1.size
  have hx1 := (b1.block _ (by omega)).trans hx0
  have hb1 := hide_it (hb0.trans (b1.mono (by omega)))
  have c0 : w1.cell? ⟨w.heap.size, 0, none⟩ = some (.int .i64 a) := cell_of_row _ _ _ _ _ _ hx1
  have c1 : w1.cell? ⟨w.heap.size, 1, none⟩ = some (.int .i64 b) := cell_of_row _ _ _ _ _ _ hx1
  have hnew := new_no a b HF.out w1
  clear hx0 hx1 hb0 b1 z1 hs0 HF
  go_wp2_with fail
  refine hnew.mono ?_
  rintro e w2 ⟨rfl, hq⟩
  have hq2 := hq.symm
  subst hq2
  clear hq hnew
  rcases HW.out with h1 | ⟨h1, h2⟩ | ⟨h1, h2, h3⟩ | ⟨h1, h2, h3, h4⟩
  all_goals
    go_wp2
    go_ret
    exact ⟨rfl, hb1.out⟩

theorem walk (x : Sta) (t : Int) (_ht : -9223372036854775808 ≤ t ∧ t ≤ 9223372036854775807) (w : World) (_hx : StaOk w x) :
    Calls Try.prog 6 #[.agg #[.int .i64 x.a, .int .i64 x.b], .int .i64 t] w fun e w' => e = .returned (.bool true) ∧ Below w.heap.size w w' := by
  by_cases hf : fine x.a x.b
  · by_cases h1 : t < 0
    · exact main1 x.a x.b hf t h1 w
    · by_cases h2 : 1000 < t
      · exact main2 x.a x.b hf t h2 w
      · exact main3 x.a x.b hf t (by omega) (by omega) w
  · exact none_ x.a x.b hf t w

end Go.Proofs.Ytmpjbnapfbcdfaa.stampRises

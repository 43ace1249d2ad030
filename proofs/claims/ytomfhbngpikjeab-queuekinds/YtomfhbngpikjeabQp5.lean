/- A queue of pairs: Push. -/
import Derived.Test.YtomfhbngpikjeabQp4
namespace Go.Proofs.Ytomfhbngpikjeab
open Go.RowKit

/-- The pair that Push laid in a place of its own. -/
theorem QrP.put {w w' : World} {b g most R f : Nat} {xs : List (Int × Bool)} (h : QrP w b g most R f xs) (hl : xs.length < R) (x : Int × Bool) {K : Nat} (hK : K = (f + xs.length) % R)
    (hw : w' = ((w.setCell ⟨g, K * 2, none⟩ (.int .i64 x.1)).setCell ⟨g, K * 2 + 1, none⟩ (.bool x.2)).setCell ⟨b, 2, none⟩ (.int .i64 ((xs.length : Int) + 1))) : QuP w' b g most (xs ++ [x]) ∧ Only b g w w' := by
  subst hw
  obtain ⟨v, hb, ⟨rfl, _⟩ | ⟨cur, rfl, hgb, hR, hg, hla⟩⟩ := h.blk
  · omega
  refine ⟨⟨R, f, ?_, h.room, h.most_le⟩, (((Only.refl _ _ _).setG _ _).setG _ _).setB _ _⟩
  have hb1 := (Below.heap_setCell w ⟨g, K * 2, none⟩ (.int .i64 x.1) b (by simpa using fun e => hgb e.symm)).trans hb
  have hb1' := (Below.heap_setCell (w.setCell ⟨g, K * 2, none⟩ (.int .i64 x.1)) ⟨g, K * 2 + 1, none⟩ (.bool x.2) b (by simpa using fun e => hgb e.symm)).trans hb1
  have hb2 := heap_setCell_same _ b 2 _ _ (.int .i64 ((xs.length : Int) + 1)) hb1'
  have hg1 := heap_setCell_same _ g (K * 2) _ _ (.int .i64 x.1) hg
  have hg2 := heap_setCell_same _ g (K * 2 + 1) _ _ (.bool x.2) hg1
  refine ⟨_, by rw [hb2]; simp, .inr ⟨cur.set K x, rfl, hgb, by simpa using hR, ?_, ?_⟩⟩
  · rw [Below.heap_setCell _ _ _ _ (by simpa using hgb), hg2, flP_set]
    simp
  · rw [hK, ← hR]
    exact hla.push (by omega) x

set_option maxRecDepth 100000 in
set_option maxHeartbeats 1000000 in
theorem pushP_any (b g most : Nat) (xs : List (Int × Bool)) (x : Int × Bool) (w0 : World) (h0 : QuP w0 b g most xs) (hl : xs.length < most) :
    Calls Try.prog 9 #[.pointer (some ⟨b, 0, none⟩), valP x] w0 fun e w' => e = .returned (.int .i64 0) ∧ (∃ g', (g' = g ∨ w0.heap.size ≤ g') ∧ QuP w' b g' most (xs ++ [x])) ∧ Only b g w0 w' := by
  obtain ⟨w, hw⟩ : ∃ w, w = w0.alloc (.cells #[.int .i64 x.1, .bool x.2] 28) := ⟨_, rfl⟩
  have hB0 : Below w0.heap.size w0 w := by rw [hw]; exact (Below.refl _ _).alloc (Nat.le_refl _) _
  have hN : PairB w w0.heap.size x := by rw [hw]; exact PairB.new w0 x
  have hsz : w0.heap.size < w.heap.size := by rw [hw]; simp
  obtain ⟨hbl0, hgl0⟩ := h0.lt
  have h := h0.below hB0
  have HB0 := hide_it hB0
  have HN := hide_it hN
  clear h0 hB0 hN
  obtain ⟨R, f, h⟩ := h
  have hmm := h.most_le
  have hxR := h.len
  have hRm := h.room
  obtain ⟨a, hblk⟩ := h.slice
  have c0 : w.cell? ⟨b, 0, none⟩ = some (.int .i64 (most : Int)) := cell_of_row _ _ _ _ _ _ hblk
  have c2 : w.cell? ⟨b, 2, none⟩ = some (.int .i64 (xs.length : Int)) := cell_of_row _ _ _ _ _ _ hblk
  have c3 : w.cell? ⟨b, 3, none⟩ = some (.slice a R R) := cell_of_row _ _ _ _ _ _ hblk
  have hnm : ¬ (most : Int) ≤ (xs.length : Int) := by omega
  have hnm2 : decide (most ≤ xs.length) = false := decide_eq_false (by omega)
  by_cases hx : xs.length = R
  · obtain ⟨M, hM⟩ : ∃ M, M = min (2 * R + 1) most := ⟨_, rfl⟩
    have hgr : ∀ q, Calls Try.prog 20 #[.pointer (some ⟨b, 0, none⟩)] (w.drewN q) fun e w' => e = .returned (.tuple #[]) ∧ QrP w' b w.heap.size most M 0 xs ∧ Only b g w w' := fun q =>
      (growP_any b g most R f xs (w.drewN q) (h.keep (by simp) (by simp)) hx (by omega)).mono fun e w' ⟨h1, h2, h3⟩ => ⟨h1, by rw [hM]; simpa using h2, (Only.of_below (below_drewN (Below.refl _ _) q)).trans h3 (.inl rfl)⟩
    rw [hx] at c2 hnm
    have hMR : xs.length < M := by omega
    have hRR : ¬ most ≤ R := by omega
    clear h hblk hM hx hnm2
    go_enter Try.func9, Try.ntmps9
    go_wp2
    rw [← hw]
    clear hw
    go_quiet (fail)
    go_wp2
    go_quiet (fail)
    go_wp2_with fail
    refine (hgr _).mono ?_
    rintro e W ⟨rfl, hT, hO⟩
    have HW := hide_it hO
    have hTl := hMR
    clear hgr hO c0 c2 c3 hnm hMR hRR hRm hxR hl
    obtain ⟨G, hG⟩ : ∃ G, G = w.heap.size := ⟨_, rfl⟩
    obtain ⟨F, hF⟩ : ∃ F, F = 0 := ⟨_, rfl⟩
    have hGg : G = g ∨ w.heap.size ≤ G := .inr (by omega)
    rw [← hG] at hT
    rw [← hF] at hT
    have hG1 : w0.heap.size < G := by omega
    clear hG hF
    have HT := hide_it hT
    clear hT
    go_wp2_with fail
    have hT := HT.out
    clear HT
    obtain ⟨hbl, hgl⟩ := hT.lt
    obtain ⟨v, hb, ⟨h0, _⟩ | ⟨cur, rfl, hgb, hR, hg, hla⟩⟩ := hT.blk
    · omega
    have hf := hla.at_
    have hGN : G ≠ w0.heap.size := by omega
    obtain ⟨y0, y1, _, _⟩ : W.cell? ⟨w0.heap.size, 0, none⟩ = some (.int .i64 x.1) ∧ W.cell? ⟨w0.heap.size, 1, none⟩ = some (.bool x.2) ∧ True ∧ True := by
      have hk := HW.out.block w0.heap.size (by omega) (by omega) (by omega)
      have hNW : PairB W w0.heap.size x := by unfold PairB; rw [hk]; exact HN.out
      exact ⟨hNW.cells.1, hNW.cells.2.1, trivial, trivial⟩
    have d1 : W.cell? ⟨b, 1, none⟩ = some (.int .i64 (F : Int)) := cell_of_row _ _ _ _ _ _ hb
    have d2 : W.cell? ⟨b, 2, none⟩ = some (.int .i64 (xs.length : Int)) := cell_of_row _ _ _ _ _ _ hb
    have d3 : W.cell? ⟨b, 3, none⟩ = some (.slice (some ⟨G, 0, none⟩) M M) := cell_of_row _ _ _ _ _ _ hb
    obtain ⟨K, hK⟩ : ∃ K, K = (F + xs.length) % M := ⟨_, rfl⟩
    have hKM : K < M := by rw [hK]; exact Nat.mod_lt _ (by omega)
    obtain ⟨u, cK⟩ : ∃ u, W.cell? ⟨G, K * 2, none⟩ = some u := by
      rw [cell_of_row _ _ _ _ _ _ hg]
      exact ⟨_, List.getElem?_toArray.trans (List.getElem?_eq_getElem (by rw [flP_len]; omega))⟩
    obtain ⟨u', cK'⟩ : ∃ u, W.cell? ⟨G, K * 2 + 1, none⟩ = some u := by
      rw [cell_of_row _ _ _ _ _ _ hg]
      exact ⟨_, List.getElem?_toArray.trans (List.getElem?_eq_getElem (by rw [flP_len]; omega))⟩
    have fK := frozen_of_row W G (K * 2) _ _ hg
    have fK' := frozen_of_row W G (K * 2 + 1) _ _ hg
    have f2 := frozen_of_row W b 2 _ _ hb
    have hKi : (K : Int) < (M : Int) := by omega
    have hM0 : ¬ M = 0 := by omega
    obtain ⟨n, hn⟩ : ∃ n, n = xs.length := ⟨_, rfl⟩
    have hMm : M ≤ 65536 := by have := hT.room; omega
    have hnM : n < M := by omega
    have hFM : F < M := by omega
    have e1 : IntKind.i64.wrap ((F : Int) + (n : Int)) = (F : Int) + (n : Int) := i64_in (by omega) (by omega)
    have e2 : ((F : Int) + (n : Int)).tmod (M : Int) = (K : Int) := by
      rw [Int.tmod_eq_emod_of_nonneg (by omega), hK, hn]; simp
    have e3 : IntKind.i64.wrap ((n : Int) + 1) = (n : Int) + 1 := i64_in (by omega) (by omega)
    obtain ⟨hQ, hO⟩ := hT.put (w' := ((W.setCell ⟨G, K * 2, none⟩ (.int .i64 x.1)).setCell ⟨G, K * 2 + 1, none⟩ (.bool x.2)).setCell ⟨b, 2, none⟩ (.int .i64 ((n : Int) + 1))) hTl x hK (by rw [hn])
    have HQ := hide_it hQ
    have HO := hide_it hO
    rw [← hn] at d2
    clear hT hb hg hla hK hn hQ hO hf hR hTl
    refine wp_region_held_drew (S := (fun w' => w'.heap[b]? = W.heap[b]? ∧ w'.heap[w0.heap.size]? = W.heap[w0.heap.size]?)) (by kernel_rfl) ?_ (fun hHeld => ?_)
    · exact ⟨rfl, rfl⟩
    refine take_on (i := 0) (v := ?_) rfl rfl (by kernel_rfl) (by kernel_rfl) (by kernel_rfl) (fun _ _ _ h => h) rfl ?_ hHeld ?_
    rotate_left
    · (intro wq hSq; have q1 := (World.cell?_of_block (w := W) (a := ⟨b, 1, none⟩) hSq.1).trans d1; have q2 := (World.cell?_of_block (w := W) (a := ⟨b, 2, none⟩) hSq.1).trans d2; have q3 := (World.cell?_of_block (w := W) (a := ⟨b, 3, none⟩) hSq.1).trans d3; have q4 := (World.cell?_of_block (w := W) (a := ⟨w0.heap.size, 0, none⟩) hSq.2).trans y0; have q5 := (World.cell?_of_block (w := W) (a := ⟨w0.heap.size, 1, none⟩) hSq.2).trans y1; go_simp <;> first | with_reducible rfl | rfl)
    simp only [Act.put, List.setIfInBounds_toArray, List.set_cons_zero, List.set_cons_succ]
    refine take_on (i := 1) (v := ?_) rfl rfl (by kernel_rfl) (by kernel_rfl) (by kernel_rfl) (fun _ _ _ h => h) rfl ?_ hHeld ?_
    rotate_left
    · (intro wq hSq; have q1 := (World.cell?_of_block (w := W) (a := ⟨b, 1, none⟩) hSq.1).trans d1; have q2 := (World.cell?_of_block (w := W) (a := ⟨b, 2, none⟩) hSq.1).trans d2; have q3 := (World.cell?_of_block (w := W) (a := ⟨b, 3, none⟩) hSq.1).trans d3; have q4 := (World.cell?_of_block (w := W) (a := ⟨w0.heap.size, 0, none⟩) hSq.2).trans y0; have q5 := (World.cell?_of_block (w := W) (a := ⟨w0.heap.size, 1, none⟩) hSq.2).trans y1; go_simp <;> first | with_reducible rfl | rfl)
    simp only [Act.put, List.setIfInBounds_toArray, List.set_cons_zero, List.set_cons_succ]
    refine take_on (i := 2) (v := ?_) rfl rfl (by kernel_rfl) (by kernel_rfl) (by kernel_rfl) (fun _ _ _ h => h) rfl ?_ hHeld ?_
    rotate_left
    · (intro wq hSq; have q1 := (World.cell?_of_block (w := W) (a := ⟨b, 1, none⟩) hSq.1).trans d1; have q2 := (World.cell?_of_block (w := W) (a := ⟨b, 2, none⟩) hSq.1).trans d2; have q3 := (World.cell?_of_block (w := W) (a := ⟨b, 3, none⟩) hSq.1).trans d3; have q4 := (World.cell?_of_block (w := W) (a := ⟨w0.heap.size, 0, none⟩) hSq.2).trans y0; have q5 := (World.cell?_of_block (w := W) (a := ⟨w0.heap.size, 1, none⟩) hSq.2).trans y1; go_simp <;> first | with_reducible rfl | rfl)
    simp only [Act.put, List.setIfInBounds_toArray, List.set_cons_zero, List.set_cons_succ]
    refine take_on (i := 3) (v := ?_) rfl rfl (by kernel_rfl) (by kernel_rfl) (by kernel_rfl) (fun _ _ _ h => h) rfl ?_ hHeld ?_
    rotate_left
    · (intro wq hSq; have q1 := (World.cell?_of_block (w := W) (a := ⟨b, 1, none⟩) hSq.1).trans d1; have q2 := (World.cell?_of_block (w := W) (a := ⟨b, 2, none⟩) hSq.1).trans d2; have q3 := (World.cell?_of_block (w := W) (a := ⟨b, 3, none⟩) hSq.1).trans d3; have q4 := (World.cell?_of_block (w := W) (a := ⟨w0.heap.size, 0, none⟩) hSq.2).trans y0; have q5 := (World.cell?_of_block (w := W) (a := ⟨w0.heap.size, 1, none⟩) hSq.2).trans y1; go_simp <;> first | with_reducible rfl | rfl)
    simp only [Act.put, List.setIfInBounds_toArray, List.set_cons_zero, List.set_cons_succ]
    refine take_on (i := 4) (v := ?_) rfl rfl (by kernel_rfl) (by kernel_rfl) (by kernel_rfl) (fun _ _ _ h => h) rfl ?_ hHeld ?_
    rotate_left
    · (intro wq hSq; have q1 := (World.cell?_of_block (w := W) (a := ⟨b, 1, none⟩) hSq.1).trans d1; have q2 := (World.cell?_of_block (w := W) (a := ⟨b, 2, none⟩) hSq.1).trans d2; have q3 := (World.cell?_of_block (w := W) (a := ⟨b, 3, none⟩) hSq.1).trans d3; have q4 := (World.cell?_of_block (w := W) (a := ⟨w0.heap.size, 0, none⟩) hSq.2).trans y0; have q5 := (World.cell?_of_block (w := W) (a := ⟨w0.heap.size, 1, none⟩) hSq.2).trans y1; go_simp <;> first | with_reducible rfl | rfl)
    simp only [Act.put, List.setIfInBounds_toArray, List.set_cons_zero, List.set_cons_succ]
    refine take_on (i := 5) (v := ?_) rfl rfl (by kernel_rfl) (by kernel_rfl) (by kernel_rfl) (fun _ _ _ h => h) rfl ?_ hHeld ?_
    rotate_left
    · (intro wq hSq; have q1 := (World.cell?_of_block (w := W) (a := ⟨b, 1, none⟩) hSq.1).trans d1; have q2 := (World.cell?_of_block (w := W) (a := ⟨b, 2, none⟩) hSq.1).trans d2; have q3 := (World.cell?_of_block (w := W) (a := ⟨b, 3, none⟩) hSq.1).trans d3; have q4 := (World.cell?_of_block (w := W) (a := ⟨w0.heap.size, 0, none⟩) hSq.2).trans y0; have q5 := (World.cell?_of_block (w := W) (a := ⟨w0.heap.size, 1, none⟩) hSq.2).trans y1; go_simp <;> first | with_reducible rfl | rfl)
    simp only [Act.put, List.setIfInBounds_toArray, List.set_cons_zero, List.set_cons_succ]
    refine take_on (i := 6) (v := ?_) rfl rfl (by kernel_rfl) (by kernel_rfl) (by kernel_rfl) (fun _ _ _ h => h) rfl ?_ hHeld ?_
    rotate_left
    · (intro wq hSq; have q1 := (World.cell?_of_block (w := W) (a := ⟨b, 1, none⟩) hSq.1).trans d1; have q2 := (World.cell?_of_block (w := W) (a := ⟨b, 2, none⟩) hSq.1).trans d2; have q3 := (World.cell?_of_block (w := W) (a := ⟨b, 3, none⟩) hSq.1).trans d3; have q4 := (World.cell?_of_block (w := W) (a := ⟨w0.heap.size, 0, none⟩) hSq.2).trans y0; have q5 := (World.cell?_of_block (w := W) (a := ⟨w0.heap.size, 1, none⟩) hSq.2).trans y1; go_simp <;> first | with_reducible rfl | rfl)
    simp only [Act.put, List.setIfInBounds_toArray, List.set_cons_zero, List.set_cons_succ]
    refine take_on (i := 7) (v := ?_) rfl rfl (by kernel_rfl) (by kernel_rfl) (by kernel_rfl) (fun _ _ _ h => h) rfl ?_ hHeld ?_
    rotate_left
    · (intro wq hSq; have q1 := (World.cell?_of_block (w := W) (a := ⟨b, 1, none⟩) hSq.1).trans d1; have q2 := (World.cell?_of_block (w := W) (a := ⟨b, 2, none⟩) hSq.1).trans d2; have q3 := (World.cell?_of_block (w := W) (a := ⟨b, 3, none⟩) hSq.1).trans d3; have q4 := (World.cell?_of_block (w := W) (a := ⟨w0.heap.size, 0, none⟩) hSq.2).trans y0; have q5 := (World.cell?_of_block (w := W) (a := ⟨w0.heap.size, 1, none⟩) hSq.2).trans y1; go_simp <;> first | with_reducible rfl | rfl)
    simp only [Act.put, List.setIfInBounds_toArray, List.set_cons_zero, List.set_cons_succ]
    refine take_on (i := 8) (v := ?_) rfl rfl (by kernel_rfl) (by kernel_rfl) (by kernel_rfl) (fun _ _ _ h => h) rfl ?_ hHeld ?_
    rotate_left
    · (intro wq hSq; have q1 := (World.cell?_of_block (w := W) (a := ⟨b, 1, none⟩) hSq.1).trans d1; have q2 := (World.cell?_of_block (w := W) (a := ⟨b, 2, none⟩) hSq.1).trans d2; have q3 := (World.cell?_of_block (w := W) (a := ⟨b, 3, none⟩) hSq.1).trans d3; have q4 := (World.cell?_of_block (w := W) (a := ⟨w0.heap.size, 0, none⟩) hSq.2).trans y0; have q5 := (World.cell?_of_block (w := W) (a := ⟨w0.heap.size, 1, none⟩) hSq.2).trans y1; go_simp <;> first | with_reducible rfl | rfl)
    simp only [Act.put, List.setIfInBounds_toArray, List.set_cons_zero, List.set_cons_succ]
    refine take_on (i := 9) (v := ?_) rfl rfl (by kernel_rfl) (by kernel_rfl) (by kernel_rfl) (fun _ _ _ h => h) rfl ?_ hHeld ?_
    rotate_left
    · (intro wq hSq; have q1 := (World.cell?_of_block (w := W) (a := ⟨b, 1, none⟩) hSq.1).trans d1; have q2 := (World.cell?_of_block (w := W) (a := ⟨b, 2, none⟩) hSq.1).trans d2; have q3 := (World.cell?_of_block (w := W) (a := ⟨b, 3, none⟩) hSq.1).trans d3; have q4 := (World.cell?_of_block (w := W) (a := ⟨w0.heap.size, 0, none⟩) hSq.2).trans y0; have q5 := (World.cell?_of_block (w := W) (a := ⟨w0.heap.size, 1, none⟩) hSq.2).trans y1; go_simp <;> first | with_reducible rfl | rfl)
    simp only [Act.put, List.setIfInBounds_toArray, List.set_cons_zero, List.set_cons_succ]
    refine take_on (i := 10) (v := ?_) rfl rfl (by kernel_rfl) (by kernel_rfl) (by kernel_rfl) (fun _ _ _ h => h) rfl ?_ hHeld ?_
    rotate_left
    · (intro wq hSq; have q1 := (World.cell?_of_block (w := W) (a := ⟨b, 1, none⟩) hSq.1).trans d1; have q2 := (World.cell?_of_block (w := W) (a := ⟨b, 2, none⟩) hSq.1).trans d2; have q3 := (World.cell?_of_block (w := W) (a := ⟨b, 3, none⟩) hSq.1).trans d3; have q4 := (World.cell?_of_block (w := W) (a := ⟨w0.heap.size, 0, none⟩) hSq.2).trans y0; have q5 := (World.cell?_of_block (w := W) (a := ⟨w0.heap.size, 1, none⟩) hSq.2).trans y1; go_simp <;> first | with_reducible rfl | rfl)
    simp only [Act.put, List.setIfInBounds_toArray, List.set_cons_zero, List.set_cons_succ]
    refine take_on (i := 11) (v := ?_) rfl rfl (by kernel_rfl) (by kernel_rfl) (by kernel_rfl) (fun _ _ _ h => h) rfl ?_ hHeld ?_
    rotate_left
    · (intro wq hSq; have q1 := (World.cell?_of_block (w := W) (a := ⟨b, 1, none⟩) hSq.1).trans d1; have q2 := (World.cell?_of_block (w := W) (a := ⟨b, 2, none⟩) hSq.1).trans d2; have q3 := (World.cell?_of_block (w := W) (a := ⟨b, 3, none⟩) hSq.1).trans d3; have q4 := (World.cell?_of_block (w := W) (a := ⟨w0.heap.size, 0, none⟩) hSq.2).trans y0; have q5 := (World.cell?_of_block (w := W) (a := ⟨w0.heap.size, 1, none⟩) hSq.2).trans y1; go_simp <;> first | with_reducible rfl | rfl)
    simp only [Act.put, List.setIfInBounds_toArray, List.set_cons_zero, List.set_cons_succ]
    refine take_on (i := 12) (v := ?_) rfl rfl (by kernel_rfl) (by kernel_rfl) (by kernel_rfl) (fun _ _ _ h => h) rfl ?_ hHeld ?_
    rotate_left
    · (intro wq hSq; have q1 := (World.cell?_of_block (w := W) (a := ⟨b, 1, none⟩) hSq.1).trans d1; have q2 := (World.cell?_of_block (w := W) (a := ⟨b, 2, none⟩) hSq.1).trans d2; have q3 := (World.cell?_of_block (w := W) (a := ⟨b, 3, none⟩) hSq.1).trans d3; have q4 := (World.cell?_of_block (w := W) (a := ⟨w0.heap.size, 0, none⟩) hSq.2).trans y0; have q5 := (World.cell?_of_block (w := W) (a := ⟨w0.heap.size, 1, none⟩) hSq.2).trans y1; go_simp <;> first | with_reducible rfl | rfl)
    simp only [Act.put, List.setIfInBounds_toArray, List.set_cons_zero, List.set_cons_succ]
    refine take_on (i := 13) (v := ?_) rfl rfl (by kernel_rfl) (by kernel_rfl) (by kernel_rfl) (fun _ _ _ h => h) rfl ?_ hHeld ?_
    rotate_left
    · (intro wq hSq; have q1 := (World.cell?_of_block (w := W) (a := ⟨b, 1, none⟩) hSq.1).trans d1; have q2 := (World.cell?_of_block (w := W) (a := ⟨b, 2, none⟩) hSq.1).trans d2; have q3 := (World.cell?_of_block (w := W) (a := ⟨b, 3, none⟩) hSq.1).trans d3; have q4 := (World.cell?_of_block (w := W) (a := ⟨w0.heap.size, 0, none⟩) hSq.2).trans y0; have q5 := (World.cell?_of_block (w := W) (a := ⟨w0.heap.size, 1, none⟩) hSq.2).trans y1; go_simp <;> first | with_reducible rfl | rfl)
    simp only [Act.put, List.setIfInBounds_toArray, List.set_cons_zero, List.set_cons_succ]
    refine take_on (i := 14) (v := ?_) rfl rfl (by kernel_rfl) (by kernel_rfl) (by kernel_rfl) (fun _ _ _ h => h) rfl ?_ hHeld ?_
    rotate_left
    · (intro wq hSq; have q1 := (World.cell?_of_block (w := W) (a := ⟨b, 1, none⟩) hSq.1).trans d1; have q2 := (World.cell?_of_block (w := W) (a := ⟨b, 2, none⟩) hSq.1).trans d2; have q3 := (World.cell?_of_block (w := W) (a := ⟨b, 3, none⟩) hSq.1).trans d3; have q4 := (World.cell?_of_block (w := W) (a := ⟨w0.heap.size, 0, none⟩) hSq.2).trans y0; have q5 := (World.cell?_of_block (w := W) (a := ⟨w0.heap.size, 1, none⟩) hSq.2).trans y1; go_simp <;> first | with_reducible rfl | rfl)
    simp only [Act.put, List.setIfInBounds_toArray, List.set_cons_zero, List.set_cons_succ]
    refine take_on (i := 15) (v := ?_) rfl rfl (by kernel_rfl) (by kernel_rfl) (by kernel_rfl) (fun _ _ _ h => h) rfl ?_ hHeld ?_
    rotate_left
    · (intro wq hSq; have q1 := (World.cell?_of_block (w := W) (a := ⟨b, 1, none⟩) hSq.1).trans d1; have q2 := (World.cell?_of_block (w := W) (a := ⟨b, 2, none⟩) hSq.1).trans d2; have q3 := (World.cell?_of_block (w := W) (a := ⟨b, 3, none⟩) hSq.1).trans d3; have q4 := (World.cell?_of_block (w := W) (a := ⟨w0.heap.size, 0, none⟩) hSq.2).trans y0; have q5 := (World.cell?_of_block (w := W) (a := ⟨w0.heap.size, 1, none⟩) hSq.2).trans y1; go_simp <;> first | with_reducible rfl | rfl)
    simp only [Act.put, List.setIfInBounds_toArray, List.set_cons_zero, List.set_cons_succ]
    refine take_on (i := 16) (v := ?_) rfl rfl (by kernel_rfl) (by kernel_rfl) (by kernel_rfl) (fun _ _ _ h => h) rfl ?_ hHeld ?_
    rotate_left
    · (intro wq hSq; have q1 := (World.cell?_of_block (w := W) (a := ⟨b, 1, none⟩) hSq.1).trans d1; have q2 := (World.cell?_of_block (w := W) (a := ⟨b, 2, none⟩) hSq.1).trans d2; have q3 := (World.cell?_of_block (w := W) (a := ⟨b, 3, none⟩) hSq.1).trans d3; have q4 := (World.cell?_of_block (w := W) (a := ⟨w0.heap.size, 0, none⟩) hSq.2).trans y0; have q5 := (World.cell?_of_block (w := W) (a := ⟨w0.heap.size, 1, none⟩) hSq.2).trans y1; go_simp <;> first | with_reducible rfl | rfl)
    simp only [Act.put, List.setIfInBounds_toArray, List.set_cons_zero, List.set_cons_succ]
    refine take_on (i := 17) (v := ?_) rfl rfl (by kernel_rfl) (by kernel_rfl) (by kernel_rfl) (fun _ _ _ h => h) rfl ?_ hHeld ?_
    rotate_left
    · (intro wq hSq; have q1 := (World.cell?_of_block (w := W) (a := ⟨b, 1, none⟩) hSq.1).trans d1; have q2 := (World.cell?_of_block (w := W) (a := ⟨b, 2, none⟩) hSq.1).trans d2; have q3 := (World.cell?_of_block (w := W) (a := ⟨b, 3, none⟩) hSq.1).trans d3; have q4 := (World.cell?_of_block (w := W) (a := ⟨w0.heap.size, 0, none⟩) hSq.2).trans y0; have q5 := (World.cell?_of_block (w := W) (a := ⟨w0.heap.size, 1, none⟩) hSq.2).trans y1; go_simp <;> first | with_reducible rfl | rfl)
    simp only [Act.put, List.setIfInBounds_toArray, List.set_cons_zero, List.set_cons_succ]
    refine take_on (i := 18) (v := ?_) rfl rfl (by kernel_rfl) (by kernel_rfl) (by kernel_rfl) (fun _ _ _ h => h) rfl ?_ hHeld ?_
    rotate_left
    · (intro wq hSq; have q1 := (World.cell?_of_block (w := W) (a := ⟨b, 1, none⟩) hSq.1).trans d1; have q2 := (World.cell?_of_block (w := W) (a := ⟨b, 2, none⟩) hSq.1).trans d2; have q3 := (World.cell?_of_block (w := W) (a := ⟨b, 3, none⟩) hSq.1).trans d3; have q4 := (World.cell?_of_block (w := W) (a := ⟨w0.heap.size, 0, none⟩) hSq.2).trans y0; have q5 := (World.cell?_of_block (w := W) (a := ⟨w0.heap.size, 1, none⟩) hSq.2).trans y1; go_simp <;> first | with_reducible rfl | rfl)
    simp only [Act.put, List.setIfInBounds_toArray, List.set_cons_zero, List.set_cons_succ]
    refine take_on (i := 19) (v := ?_) rfl rfl (by kernel_rfl) (by kernel_rfl) (by kernel_rfl) (fun _ _ _ h => h) rfl ?_ hHeld ?_
    rotate_left
    · (intro wq hSq; have q1 := (World.cell?_of_block (w := W) (a := ⟨b, 1, none⟩) hSq.1).trans d1; have q2 := (World.cell?_of_block (w := W) (a := ⟨b, 2, none⟩) hSq.1).trans d2; have q3 := (World.cell?_of_block (w := W) (a := ⟨b, 3, none⟩) hSq.1).trans d3; have q4 := (World.cell?_of_block (w := W) (a := ⟨w0.heap.size, 0, none⟩) hSq.2).trans y0; have q5 := (World.cell?_of_block (w := W) (a := ⟨w0.heap.size, 1, none⟩) hSq.2).trans y1; go_simp <;> first | with_reducible rfl | rfl)
    simp only [Act.put, List.setIfInBounds_toArray, List.set_cons_zero, List.set_cons_succ]
    refine take_on (i := 20) (v := ?_) rfl rfl (by kernel_rfl) (by kernel_rfl) (by kernel_rfl) (fun _ _ _ h => h) rfl ?_ hHeld ?_
    rotate_left
    · (intro wq hSq; have q1 := (World.cell?_of_block (w := W) (a := ⟨b, 1, none⟩) hSq.1).trans d1; have q2 := (World.cell?_of_block (w := W) (a := ⟨b, 2, none⟩) hSq.1).trans d2; have q3 := (World.cell?_of_block (w := W) (a := ⟨b, 3, none⟩) hSq.1).trans d3; have q4 := (World.cell?_of_block (w := W) (a := ⟨w0.heap.size, 0, none⟩) hSq.2).trans y0; have q5 := (World.cell?_of_block (w := W) (a := ⟨w0.heap.size, 1, none⟩) hSq.2).trans y1; go_simp <;> first | with_reducible rfl | rfl)
    simp only [Act.put, List.setIfInBounds_toArray, List.set_cons_zero, List.set_cons_succ]
    refine take_one (i := 21) rfl (by kernel_rfl) (fun K hK => ?_)
    go_simp
    skip
    try go_wp2_with fail
    refine hK.out _ _ ?_ (fun hHeld => ?_)
    · exact ⟨((Below.heap_setCell _ _ _ _ (by simpa using fun e => hgb e.symm)).trans (Below.heap_setCell _ _ _ _ (by simpa using fun e => hgb e.symm))).trans hHeld.1, ((Below.heap_setCell _ _ _ _ (by simpa using fun e => hGN e.symm)).trans (Below.heap_setCell _ _ _ _ (by simpa using fun e => hGN e.symm))).trans hHeld.2⟩
    clear hK K
    try simp only [Act.put, List.setIfInBounds_toArray, List.set_cons_zero, List.set_cons_succ]
    refine wpAnyH_done (by kernel_rfl) ?_ _
    go_wp2
    go_ret
    refine ⟨rfl, ⟨G, (by omega), HQ.out.keep rfl rfl⟩, (Only.of_below HB0.out).trans (HW.out.trans HO.out.drew hGg) (.inl rfl)⟩
  · have hne : ¬ (xs.length : Int) = (R : Int) := by omega
    have H := hide_it h
    have hxR2 : xs.length < R := by omega
    have HXR := hide_it hxR2
    clear h hblk hx hxR hxR2
    go_enter Try.func9, Try.ntmps9
    go_wp2
    rw [← hw]
    clear hw
    go_quiet (fail)
    go_wp2
    go_quiet (fail)
    go_wp2_with fail
    generalize hW : World.drewN (World.drewN w _) nq = W
    obtain ⟨G, hG⟩ : ∃ G, G = g := ⟨_, rfl⟩
    obtain ⟨F, hF⟩ : ∃ F, F = f := ⟨_, rfl⟩
    obtain ⟨M, hM⟩ : ∃ M, M = R := ⟨_, rfl⟩
    have hT : QrP W b G most M F xs := by rw [← hW, hG, hF, hM]; exact H.out.keep (by simp) (by simp)
    have hTl : xs.length < M := by rw [hM]; exact HXR.out
    have HW := hide_it (show Only b g w W by rw [← hW]; exact Only.of_below (below_drewN (below_drewN (Below.refl _ _) _) _))
    have hGg : G = g ∨ w.heap.size ≤ G := .inl hG
    have hG1 : G < w0.heap.size := by omega
    clear H HXR hW hF hM hG c0 c2 c3 hnm hnm2 hne
    obtain ⟨hbl, hgl⟩ := hT.lt
    obtain ⟨v, hb, ⟨h0, _⟩ | ⟨cur, rfl, hgb, hR, hg, hla⟩⟩ := hT.blk
    · omega
    have hf := hla.at_
    have hGN : G ≠ w0.heap.size := by omega
    obtain ⟨y0, y1, _, _⟩ : W.cell? ⟨w0.heap.size, 0, none⟩ = some (.int .i64 x.1) ∧ W.cell? ⟨w0.heap.size, 1, none⟩ = some (.bool x.2) ∧ True ∧ True := by
      have hk := HW.out.block w0.heap.size (by omega) (by omega) (by omega)
      have hNW : PairB W w0.heap.size x := by unfold PairB; rw [hk]; exact HN.out
      exact ⟨hNW.cells.1, hNW.cells.2.1, trivial, trivial⟩
    have d1 : W.cell? ⟨b, 1, none⟩ = some (.int .i64 (F : Int)) := cell_of_row _ _ _ _ _ _ hb
    have d2 : W.cell? ⟨b, 2, none⟩ = some (.int .i64 (xs.length : Int)) := cell_of_row _ _ _ _ _ _ hb
    have d3 : W.cell? ⟨b, 3, none⟩ = some (.slice (some ⟨G, 0, none⟩) M M) := cell_of_row _ _ _ _ _ _ hb
    obtain ⟨K, hK⟩ : ∃ K, K = (F + xs.length) % M := ⟨_, rfl⟩
    have hKM : K < M := by rw [hK]; exact Nat.mod_lt _ (by omega)
    obtain ⟨u, cK⟩ : ∃ u, W.cell? ⟨G, K * 2, none⟩ = some u := by
      rw [cell_of_row _ _ _ _ _ _ hg]
      exact ⟨_, List.getElem?_toArray.trans (List.getElem?_eq_getElem (by rw [flP_len]; omega))⟩
    obtain ⟨u', cK'⟩ : ∃ u, W.cell? ⟨G, K * 2 + 1, none⟩ = some u := by
      rw [cell_of_row _ _ _ _ _ _ hg]
      exact ⟨_, List.getElem?_toArray.trans (List.getElem?_eq_getElem (by rw [flP_len]; omega))⟩
    have fK := frozen_of_row W G (K * 2) _ _ hg
    have fK' := frozen_of_row W G (K * 2 + 1) _ _ hg
    have f2 := frozen_of_row W b 2 _ _ hb
    have hKi : (K : Int) < (M : Int) := by omega
    have hM0 : ¬ M = 0 := by omega
    obtain ⟨n, hn⟩ : ∃ n, n = xs.length := ⟨_, rfl⟩
    have hMm : M ≤ 65536 := by have := hT.room; omega
    have hnM : n < M := by omega
    have hFM : F < M := by omega
    have e1 : IntKind.i64.wrap ((F : Int) + (n : Int)) = (F : Int) + (n : Int) := i64_in (by omega) (by omega)
    have e2 : ((F : Int) + (n : Int)).tmod (M : Int) = (K : Int) := by
      rw [Int.tmod_eq_emod_of_nonneg (by omega), hK, hn]; simp
    have e3 : IntKind.i64.wrap ((n : Int) + 1) = (n : Int) + 1 := i64_in (by omega) (by omega)
    obtain ⟨hQ, hO⟩ := hT.put (w' := ((W.setCell ⟨G, K * 2, none⟩ (.int .i64 x.1)).setCell ⟨G, K * 2 + 1, none⟩ (.bool x.2)).setCell ⟨b, 2, none⟩ (.int .i64 ((n : Int) + 1))) hTl x hK (by rw [hn])
    have HQ := hide_it hQ
    have HO := hide_it hO
    rw [← hn] at d2
    clear hT hb hg hla hK hn hQ hO hf hR hTl
    refine wp_region_held_drew (S := (fun w' => w'.heap[b]? = W.heap[b]? ∧ w'.heap[w0.heap.size]? = W.heap[w0.heap.size]?)) (by kernel_rfl) ?_ (fun hHeld => ?_)
    · exact ⟨rfl, rfl⟩
    refine take_on (i := 0) (v := ?_) rfl rfl (by kernel_rfl) (by kernel_rfl) (by kernel_rfl) (fun _ _ _ h => h) rfl ?_ hHeld ?_
    rotate_left
    · (intro wq hSq; have q1 := (World.cell?_of_block (w := W) (a := ⟨b, 1, none⟩) hSq.1).trans d1; have q2 := (World.cell?_of_block (w := W) (a := ⟨b, 2, none⟩) hSq.1).trans d2; have q3 := (World.cell?_of_block (w := W) (a := ⟨b, 3, none⟩) hSq.1).trans d3; have q4 := (World.cell?_of_block (w := W) (a := ⟨w0.heap.size, 0, none⟩) hSq.2).trans y0; have q5 := (World.cell?_of_block (w := W) (a := ⟨w0.heap.size, 1, none⟩) hSq.2).trans y1; go_simp <;> first | with_reducible rfl | rfl)
    simp only [Act.put, List.setIfInBounds_toArray, List.set_cons_zero, List.set_cons_succ]
    refine take_on (i := 1) (v := ?_) rfl rfl (by kernel_rfl) (by kernel_rfl) (by kernel_rfl) (fun _ _ _ h => h) rfl ?_ hHeld ?_
    rotate_left
    · (intro wq hSq; have q1 := (World.cell?_of_block (w := W) (a := ⟨b, 1, none⟩) hSq.1).trans d1; have q2 := (World.cell?_of_block (w := W) (a := ⟨b, 2, none⟩) hSq.1).trans d2; have q3 := (World.cell?_of_block (w := W) (a := ⟨b, 3, none⟩) hSq.1).trans d3; have q4 := (World.cell?_of_block (w := W) (a := ⟨w0.heap.size, 0, none⟩) hSq.2).trans y0; have q5 := (World.cell?_of_block (w := W) (a := ⟨w0.heap.size, 1, none⟩) hSq.2).trans y1; go_simp <;> first | with_reducible rfl | rfl)
    simp only [Act.put, List.setIfInBounds_toArray, List.set_cons_zero, List.set_cons_succ]
    refine take_on (i := 2) (v := ?_) rfl rfl (by kernel_rfl) (by kernel_rfl) (by kernel_rfl) (fun _ _ _ h => h) rfl ?_ hHeld ?_
    rotate_left
    · (intro wq hSq; have q1 := (World.cell?_of_block (w := W) (a := ⟨b, 1, none⟩) hSq.1).trans d1; have q2 := (World.cell?_of_block (w := W) (a := ⟨b, 2, none⟩) hSq.1).trans d2; have q3 := (World.cell?_of_block (w := W) (a := ⟨b, 3, none⟩) hSq.1).trans d3; have q4 := (World.cell?_of_block (w := W) (a := ⟨w0.heap.size, 0, none⟩) hSq.2).trans y0; have q5 := (World.cell?_of_block (w := W) (a := ⟨w0.heap.size, 1, none⟩) hSq.2).trans y1; go_simp <;> first | with_reducible rfl | rfl)
    simp only [Act.put, List.setIfInBounds_toArray, List.set_cons_zero, List.set_cons_succ]
    refine take_on (i := 3) (v := ?_) rfl rfl (by kernel_rfl) (by kernel_rfl) (by kernel_rfl) (fun _ _ _ h => h) rfl ?_ hHeld ?_
    rotate_left
    · (intro wq hSq; have q1 := (World.cell?_of_block (w := W) (a := ⟨b, 1, none⟩) hSq.1).trans d1; have q2 := (World.cell?_of_block (w := W) (a := ⟨b, 2, none⟩) hSq.1).trans d2; have q3 := (World.cell?_of_block (w := W) (a := ⟨b, 3, none⟩) hSq.1).trans d3; have q4 := (World.cell?_of_block (w := W) (a := ⟨w0.heap.size, 0, none⟩) hSq.2).trans y0; have q5 := (World.cell?_of_block (w := W) (a := ⟨w0.heap.size, 1, none⟩) hSq.2).trans y1; go_simp <;> first | with_reducible rfl | rfl)
    simp only [Act.put, List.setIfInBounds_toArray, List.set_cons_zero, List.set_cons_succ]
    refine take_on (i := 4) (v := ?_) rfl rfl (by kernel_rfl) (by kernel_rfl) (by kernel_rfl) (fun _ _ _ h => h) rfl ?_ hHeld ?_
    rotate_left
    · (intro wq hSq; have q1 := (World.cell?_of_block (w := W) (a := ⟨b, 1, none⟩) hSq.1).trans d1; have q2 := (World.cell?_of_block (w := W) (a := ⟨b, 2, none⟩) hSq.1).trans d2; have q3 := (World.cell?_of_block (w := W) (a := ⟨b, 3, none⟩) hSq.1).trans d3; have q4 := (World.cell?_of_block (w := W) (a := ⟨w0.heap.size, 0, none⟩) hSq.2).trans y0; have q5 := (World.cell?_of_block (w := W) (a := ⟨w0.heap.size, 1, none⟩) hSq.2).trans y1; go_simp <;> first | with_reducible rfl | rfl)
    simp only [Act.put, List.setIfInBounds_toArray, List.set_cons_zero, List.set_cons_succ]
    refine take_on (i := 5) (v := ?_) rfl rfl (by kernel_rfl) (by kernel_rfl) (by kernel_rfl) (fun _ _ _ h => h) rfl ?_ hHeld ?_
    rotate_left
    · (intro wq hSq; have q1 := (World.cell?_of_block (w := W) (a := ⟨b, 1, none⟩) hSq.1).trans d1; have q2 := (World.cell?_of_block (w := W) (a := ⟨b, 2, none⟩) hSq.1).trans d2; have q3 := (World.cell?_of_block (w := W) (a := ⟨b, 3, none⟩) hSq.1).trans d3; have q4 := (World.cell?_of_block (w := W) (a := ⟨w0.heap.size, 0, none⟩) hSq.2).trans y0; have q5 := (World.cell?_of_block (w := W) (a := ⟨w0.heap.size, 1, none⟩) hSq.2).trans y1; go_simp <;> first | with_reducible rfl | rfl)
    simp only [Act.put, List.setIfInBounds_toArray, List.set_cons_zero, List.set_cons_succ]
    refine take_on (i := 6) (v := ?_) rfl rfl (by kernel_rfl) (by kernel_rfl) (by kernel_rfl) (fun _ _ _ h => h) rfl ?_ hHeld ?_
    rotate_left
    · (intro wq hSq; have q1 := (World.cell?_of_block (w := W) (a := ⟨b, 1, none⟩) hSq.1).trans d1; have q2 := (World.cell?_of_block (w := W) (a := ⟨b, 2, none⟩) hSq.1).trans d2; have q3 := (World.cell?_of_block (w := W) (a := ⟨b, 3, none⟩) hSq.1).trans d3; have q4 := (World.cell?_of_block (w := W) (a := ⟨w0.heap.size, 0, none⟩) hSq.2).trans y0; have q5 := (World.cell?_of_block (w := W) (a := ⟨w0.heap.size, 1, none⟩) hSq.2).trans y1; go_simp <;> first | with_reducible rfl | rfl)
    simp only [Act.put, List.setIfInBounds_toArray, List.set_cons_zero, List.set_cons_succ]
    refine take_on (i := 7) (v := ?_) rfl rfl (by kernel_rfl) (by kernel_rfl) (by kernel_rfl) (fun _ _ _ h => h) rfl ?_ hHeld ?_
    rotate_left
    · (intro wq hSq; have q1 := (World.cell?_of_block (w := W) (a := ⟨b, 1, none⟩) hSq.1).trans d1; have q2 := (World.cell?_of_block (w := W) (a := ⟨b, 2, none⟩) hSq.1).trans d2; have q3 := (World.cell?_of_block (w := W) (a := ⟨b, 3, none⟩) hSq.1).trans d3; have q4 := (World.cell?_of_block (w := W) (a := ⟨w0.heap.size, 0, none⟩) hSq.2).trans y0; have q5 := (World.cell?_of_block (w := W) (a := ⟨w0.heap.size, 1, none⟩) hSq.2).trans y1; go_simp <;> first | with_reducible rfl | rfl)
    simp only [Act.put, List.setIfInBounds_toArray, List.set_cons_zero, List.set_cons_succ]
    refine take_on (i := 8) (v := ?_) rfl rfl (by kernel_rfl) (by kernel_rfl) (by kernel_rfl) (fun _ _ _ h => h) rfl ?_ hHeld ?_
    rotate_left
    · (intro wq hSq; have q1 := (World.cell?_of_block (w := W) (a := ⟨b, 1, none⟩) hSq.1).trans d1; have q2 := (World.cell?_of_block (w := W) (a := ⟨b, 2, none⟩) hSq.1).trans d2; have q3 := (World.cell?_of_block (w := W) (a := ⟨b, 3, none⟩) hSq.1).trans d3; have q4 := (World.cell?_of_block (w := W) (a := ⟨w0.heap.size, 0, none⟩) hSq.2).trans y0; have q5 := (World.cell?_of_block (w := W) (a := ⟨w0.heap.size, 1, none⟩) hSq.2).trans y1; go_simp <;> first | with_reducible rfl | rfl)
    simp only [Act.put, List.setIfInBounds_toArray, List.set_cons_zero, List.set_cons_succ]
    refine take_on (i := 9) (v := ?_) rfl rfl (by kernel_rfl) (by kernel_rfl) (by kernel_rfl) (fun _ _ _ h => h) rfl ?_ hHeld ?_
    rotate_left
    · (intro wq hSq; have q1 := (World.cell?_of_block (w := W) (a := ⟨b, 1, none⟩) hSq.1).trans d1; have q2 := (World.cell?_of_block (w := W) (a := ⟨b, 2, none⟩) hSq.1).trans d2; have q3 := (World.cell?_of_block (w := W) (a := ⟨b, 3, none⟩) hSq.1).trans d3; have q4 := (World.cell?_of_block (w := W) (a := ⟨w0.heap.size, 0, none⟩) hSq.2).trans y0; have q5 := (World.cell?_of_block (w := W) (a := ⟨w0.heap.size, 1, none⟩) hSq.2).trans y1; go_simp <;> first | with_reducible rfl | rfl)
    simp only [Act.put, List.setIfInBounds_toArray, List.set_cons_zero, List.set_cons_succ]
    refine take_on (i := 10) (v := ?_) rfl rfl (by kernel_rfl) (by kernel_rfl) (by kernel_rfl) (fun _ _ _ h => h) rfl ?_ hHeld ?_
    rotate_left
    · (intro wq hSq; have q1 := (World.cell?_of_block (w := W) (a := ⟨b, 1, none⟩) hSq.1).trans d1; have q2 := (World.cell?_of_block (w := W) (a := ⟨b, 2, none⟩) hSq.1).trans d2; have q3 := (World.cell?_of_block (w := W) (a := ⟨b, 3, none⟩) hSq.1).trans d3; have q4 := (World.cell?_of_block (w := W) (a := ⟨w0.heap.size, 0, none⟩) hSq.2).trans y0; have q5 := (World.cell?_of_block (w := W) (a := ⟨w0.heap.size, 1, none⟩) hSq.2).trans y1; go_simp <;> first | with_reducible rfl | rfl)
    simp only [Act.put, List.setIfInBounds_toArray, List.set_cons_zero, List.set_cons_succ]
    refine take_on (i := 11) (v := ?_) rfl rfl (by kernel_rfl) (by kernel_rfl) (by kernel_rfl) (fun _ _ _ h => h) rfl ?_ hHeld ?_
    rotate_left
    · (intro wq hSq; have q1 := (World.cell?_of_block (w := W) (a := ⟨b, 1, none⟩) hSq.1).trans d1; have q2 := (World.cell?_of_block (w := W) (a := ⟨b, 2, none⟩) hSq.1).trans d2; have q3 := (World.cell?_of_block (w := W) (a := ⟨b, 3, none⟩) hSq.1).trans d3; have q4 := (World.cell?_of_block (w := W) (a := ⟨w0.heap.size, 0, none⟩) hSq.2).trans y0; have q5 := (World.cell?_of_block (w := W) (a := ⟨w0.heap.size, 1, none⟩) hSq.2).trans y1; go_simp <;> first | with_reducible rfl | rfl)
    simp only [Act.put, List.setIfInBounds_toArray, List.set_cons_zero, List.set_cons_succ]
    refine take_on (i := 12) (v := ?_) rfl rfl (by kernel_rfl) (by kernel_rfl) (by kernel_rfl) (fun _ _ _ h => h) rfl ?_ hHeld ?_
    rotate_left
    · (intro wq hSq; have q1 := (World.cell?_of_block (w := W) (a := ⟨b, 1, none⟩) hSq.1).trans d1; have q2 := (World.cell?_of_block (w := W) (a := ⟨b, 2, none⟩) hSq.1).trans d2; have q3 := (World.cell?_of_block (w := W) (a := ⟨b, 3, none⟩) hSq.1).trans d3; have q4 := (World.cell?_of_block (w := W) (a := ⟨w0.heap.size, 0, none⟩) hSq.2).trans y0; have q5 := (World.cell?_of_block (w := W) (a := ⟨w0.heap.size, 1, none⟩) hSq.2).trans y1; go_simp <;> first | with_reducible rfl | rfl)
    simp only [Act.put, List.setIfInBounds_toArray, List.set_cons_zero, List.set_cons_succ]
    refine take_on (i := 13) (v := ?_) rfl rfl (by kernel_rfl) (by kernel_rfl) (by kernel_rfl) (fun _ _ _ h => h) rfl ?_ hHeld ?_
    rotate_left
    · (intro wq hSq; have q1 := (World.cell?_of_block (w := W) (a := ⟨b, 1, none⟩) hSq.1).trans d1; have q2 := (World.cell?_of_block (w := W) (a := ⟨b, 2, none⟩) hSq.1).trans d2; have q3 := (World.cell?_of_block (w := W) (a := ⟨b, 3, none⟩) hSq.1).trans d3; have q4 := (World.cell?_of_block (w := W) (a := ⟨w0.heap.size, 0, none⟩) hSq.2).trans y0; have q5 := (World.cell?_of_block (w := W) (a := ⟨w0.heap.size, 1, none⟩) hSq.2).trans y1; go_simp <;> first | with_reducible rfl | rfl)
    simp only [Act.put, List.setIfInBounds_toArray, List.set_cons_zero, List.set_cons_succ]
    refine take_on (i := 14) (v := ?_) rfl rfl (by kernel_rfl) (by kernel_rfl) (by kernel_rfl) (fun _ _ _ h => h) rfl ?_ hHeld ?_
    rotate_left
    · (intro wq hSq; have q1 := (World.cell?_of_block (w := W) (a := ⟨b, 1, none⟩) hSq.1).trans d1; have q2 := (World.cell?_of_block (w := W) (a := ⟨b, 2, none⟩) hSq.1).trans d2; have q3 := (World.cell?_of_block (w := W) (a := ⟨b, 3, none⟩) hSq.1).trans d3; have q4 := (World.cell?_of_block (w := W) (a := ⟨w0.heap.size, 0, none⟩) hSq.2).trans y0; have q5 := (World.cell?_of_block (w := W) (a := ⟨w0.heap.size, 1, none⟩) hSq.2).trans y1; go_simp <;> first | with_reducible rfl | rfl)
    simp only [Act.put, List.setIfInBounds_toArray, List.set_cons_zero, List.set_cons_succ]
    refine take_on (i := 15) (v := ?_) rfl rfl (by kernel_rfl) (by kernel_rfl) (by kernel_rfl) (fun _ _ _ h => h) rfl ?_ hHeld ?_
    rotate_left
    · (intro wq hSq; have q1 := (World.cell?_of_block (w := W) (a := ⟨b, 1, none⟩) hSq.1).trans d1; have q2 := (World.cell?_of_block (w := W) (a := ⟨b, 2, none⟩) hSq.1).trans d2; have q3 := (World.cell?_of_block (w := W) (a := ⟨b, 3, none⟩) hSq.1).trans d3; have q4 := (World.cell?_of_block (w := W) (a := ⟨w0.heap.size, 0, none⟩) hSq.2).trans y0; have q5 := (World.cell?_of_block (w := W) (a := ⟨w0.heap.size, 1, none⟩) hSq.2).trans y1; go_simp <;> first | with_reducible rfl | rfl)
    simp only [Act.put, List.setIfInBounds_toArray, List.set_cons_zero, List.set_cons_succ]
    refine take_on (i := 16) (v := ?_) rfl rfl (by kernel_rfl) (by kernel_rfl) (by kernel_rfl) (fun _ _ _ h => h) rfl ?_ hHeld ?_
    rotate_left
    · (intro wq hSq; have q1 := (World.cell?_of_block (w := W) (a := ⟨b, 1, none⟩) hSq.1).trans d1; have q2 := (World.cell?_of_block (w := W) (a := ⟨b, 2, none⟩) hSq.1).trans d2; have q3 := (World.cell?_of_block (w := W) (a := ⟨b, 3, none⟩) hSq.1).trans d3; have q4 := (World.cell?_of_block (w := W) (a := ⟨w0.heap.size, 0, none⟩) hSq.2).trans y0; have q5 := (World.cell?_of_block (w := W) (a := ⟨w0.heap.size, 1, none⟩) hSq.2).trans y1; go_simp <;> first | with_reducible rfl | rfl)
    simp only [Act.put, List.setIfInBounds_toArray, List.set_cons_zero, List.set_cons_succ]
    refine take_on (i := 17) (v := ?_) rfl rfl (by kernel_rfl) (by kernel_rfl) (by kernel_rfl) (fun _ _ _ h => h) rfl ?_ hHeld ?_
    rotate_left
    · (intro wq hSq; have q1 := (World.cell?_of_block (w := W) (a := ⟨b, 1, none⟩) hSq.1).trans d1; have q2 := (World.cell?_of_block (w := W) (a := ⟨b, 2, none⟩) hSq.1).trans d2; have q3 := (World.cell?_of_block (w := W) (a := ⟨b, 3, none⟩) hSq.1).trans d3; have q4 := (World.cell?_of_block (w := W) (a := ⟨w0.heap.size, 0, none⟩) hSq.2).trans y0; have q5 := (World.cell?_of_block (w := W) (a := ⟨w0.heap.size, 1, none⟩) hSq.2).trans y1; go_simp <;> first | with_reducible rfl | rfl)
    simp only [Act.put, List.setIfInBounds_toArray, List.set_cons_zero, List.set_cons_succ]
    refine take_on (i := 18) (v := ?_) rfl rfl (by kernel_rfl) (by kernel_rfl) (by kernel_rfl) (fun _ _ _ h => h) rfl ?_ hHeld ?_
    rotate_left
    · (intro wq hSq; have q1 := (World.cell?_of_block (w := W) (a := ⟨b, 1, none⟩) hSq.1).trans d1; have q2 := (World.cell?_of_block (w := W) (a := ⟨b, 2, none⟩) hSq.1).trans d2; have q3 := (World.cell?_of_block (w := W) (a := ⟨b, 3, none⟩) hSq.1).trans d3; have q4 := (World.cell?_of_block (w := W) (a := ⟨w0.heap.size, 0, none⟩) hSq.2).trans y0; have q5 := (World.cell?_of_block (w := W) (a := ⟨w0.heap.size, 1, none⟩) hSq.2).trans y1; go_simp <;> first | with_reducible rfl | rfl)
    simp only [Act.put, List.setIfInBounds_toArray, List.set_cons_zero, List.set_cons_succ]
    refine take_on (i := 19) (v := ?_) rfl rfl (by kernel_rfl) (by kernel_rfl) (by kernel_rfl) (fun _ _ _ h => h) rfl ?_ hHeld ?_
    rotate_left
    · (intro wq hSq; have q1 := (World.cell?_of_block (w := W) (a := ⟨b, 1, none⟩) hSq.1).trans d1; have q2 := (World.cell?_of_block (w := W) (a := ⟨b, 2, none⟩) hSq.1).trans d2; have q3 := (World.cell?_of_block (w := W) (a := ⟨b, 3, none⟩) hSq.1).trans d3; have q4 := (World.cell?_of_block (w := W) (a := ⟨w0.heap.size, 0, none⟩) hSq.2).trans y0; have q5 := (World.cell?_of_block (w := W) (a := ⟨w0.heap.size, 1, none⟩) hSq.2).trans y1; go_simp <;> first | with_reducible rfl | rfl)
    simp only [Act.put, List.setIfInBounds_toArray, List.set_cons_zero, List.set_cons_succ]
    refine take_on (i := 20) (v := ?_) rfl rfl (by kernel_rfl) (by kernel_rfl) (by kernel_rfl) (fun _ _ _ h => h) rfl ?_ hHeld ?_
    rotate_left
    · (intro wq hSq; have q1 := (World.cell?_of_block (w := W) (a := ⟨b, 1, none⟩) hSq.1).trans d1; have q2 := (World.cell?_of_block (w := W) (a := ⟨b, 2, none⟩) hSq.1).trans d2; have q3 := (World.cell?_of_block (w := W) (a := ⟨b, 3, none⟩) hSq.1).trans d3; have q4 := (World.cell?_of_block (w := W) (a := ⟨w0.heap.size, 0, none⟩) hSq.2).trans y0; have q5 := (World.cell?_of_block (w := W) (a := ⟨w0.heap.size, 1, none⟩) hSq.2).trans y1; go_simp <;> first | with_reducible rfl | rfl)
    simp only [Act.put, List.setIfInBounds_toArray, List.set_cons_zero, List.set_cons_succ]
    refine take_one (i := 21) rfl (by kernel_rfl) (fun K hK => ?_)
    go_simp
    skip
    try go_wp2_with fail
    refine hK.out _ _ ?_ (fun hHeld => ?_)
    · exact ⟨((Below.heap_setCell _ _ _ _ (by simpa using fun e => hgb e.symm)).trans (Below.heap_setCell _ _ _ _ (by simpa using fun e => hgb e.symm))).trans hHeld.1, ((Below.heap_setCell _ _ _ _ (by simpa using fun e => hGN e.symm)).trans (Below.heap_setCell _ _ _ _ (by simpa using fun e => hGN e.symm))).trans hHeld.2⟩
    clear hK K
    try simp only [Act.put, List.setIfInBounds_toArray, List.set_cons_zero, List.set_cons_succ]
    refine wpAnyH_done (by kernel_rfl) ?_ _
    go_wp2
    go_ret
    refine ⟨rfl, ⟨G, (by omega), HQ.out.keep rfl rfl⟩, (Only.of_below HB0.out).trans (HW.out.trans HO.out.drew hGg) (.inl rfl)⟩

end Go.Proofs.Ytomfhbngpikjeab

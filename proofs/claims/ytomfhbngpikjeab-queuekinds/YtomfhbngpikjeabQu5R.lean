/- A queue of pointers: Push. -/
import Derived.Test.YtomfhbngpikjeabQu4R
namespace Go.Proofs.Ytomfhbngpikjeab
open Go.RowKit

set_option maxRecDepth 100000 in
set_option maxHeartbeats 400000 in
theorem pushR_none (x : (Option Addr)) (w : World) : Calls Try.prog 10 #[.pointer none, .pointer x] w fun e w' => e = .returned (.int .i64 1) ∧ w' = w := by
  go_enter Try.func10, Try.ntmps10
  go_wp2
  go_ret
  exact ⟨rfl, rfl⟩
set_option maxRecDepth 100000 in
set_option maxHeartbeats 400000 in
theorem pushR_full (b g most : Nat) (xs : List (Option Addr)) (x : (Option Addr)) (w : World) (h : QuR w b g most xs) (hl : xs.length = most) :
    Calls Try.prog 10 #[.pointer (some ⟨b, 0, none⟩), .pointer x] w fun e w' => e = .returned (.int .i64 50) ∧ Below w.heap.size w w' := by
  obtain ⟨R, f, h⟩ := h
  obtain ⟨v, c0, c1, c2, c3, _⟩ := h.cells
  rw [hl] at c2
  clear h hl c1 c3
  have hle : (most : Int) ≤ (most : Int) := Int.le_refl _
  go_enter Try.func10, Try.ntmps10
  go_wp2
  go_quiet (fail)
  go_wp2
  go_ret
  exact ⟨rfl, below_drewN (Below.refl _ _) _⟩

theorem QrR.put {w w' : World} {b g most R f : Nat} {xs : List (Option Addr)} (h : QrR w b g most R f xs) (hl : xs.length < R) (x : (Option Addr)) {K : Nat} (hK : K = (f + xs.length) % R)
    (hw : w' = (w.setCell ⟨g, K, none⟩ (.pointer x)).setCell ⟨b, 2, none⟩ (.int .i64 ((xs.length : Int) + 1))) : QuR w' b g most (xs ++ [x]) ∧ Only b g w w' := by
  subst hw
  obtain ⟨v, hb, ⟨rfl, _⟩ | ⟨cur, rfl, hgb, hR, hg, hla⟩⟩ := h.blk
  · omega
  refine ⟨⟨R, f, ?_, h.room, h.most_le⟩, ((Only.refl _ _ _).setG _ _).setB _ _⟩
  have hb1 := (Below.heap_setCell w ⟨g, K, none⟩ (.pointer x) b (by simpa using fun e => hgb e.symm)).trans hb
  have hb2 := heap_setCell_same _ b 2 _ _ (.int .i64 ((xs.length : Int) + 1)) hb1
  have hg1 := heap_setCell_same _ g K _ _ (.pointer x) hg
  refine ⟨_, by rw [hb2]; simp, .inr ⟨cur.set K (.pointer x), rfl, hgb, by simpa using hR, ?_, ?_⟩⟩
  · rw [Below.heap_setCell _ _ _ _ (by simpa using hgb), hg1]
    simp
  · rw [hK, ← hR, List.map_append]
    have := hla.push (by simp; omega) (.pointer x)
    simpa [encR] using this

set_option maxRecDepth 100000 in
set_option maxHeartbeats 1000000 in
theorem pushR_any (b g most : Nat) (xs : List (Option Addr)) (x : (Option Addr)) (w : World) (h : QuR w b g most xs) (hl : xs.length < most) :
    Calls Try.prog 10 #[.pointer (some ⟨b, 0, none⟩), .pointer x] w fun e w' => e = .returned (.int .i64 0) ∧ (∃ g', (g' = g ∨ w.heap.size ≤ g') ∧ QuR w' b g' most (xs ++ [x])) ∧ Only b g w w' := by
  obtain ⟨R, f, h⟩ := h
  have hmm := h.most_le
  have hxR := h.len
  have hRm := h.room
  obtain ⟨a, hblk⟩ := h.slice
  have c0 : w.cell? ⟨b, 0, none⟩ = some (.int .i64 (most : Int)) := cell_of_row _ _ _ _ _ _ hblk
  have c2 : w.cell? ⟨b, 2, none⟩ = some (.int .i64 (xs.length : Int)) := cell_of_row _ _ _ _ _ _ hblk
  have c3 : w.cell? ⟨b, 3, none⟩ = some (.slice a R R) := cell_of_row _ _ _ _ _ _ hblk
  have hnm : ¬ (most : Int) ≤ (xs.length : Int) := by omega
  have hnm2 : decide (most ≤ xs.length) = false := decide_eq_false (by omega)
  by_cases hx : xs.length = R
  · obtain ⟨M, hM⟩ : ∃ M, M = min (2 * R + 1) most := ⟨_, rfl⟩
    have hgr : ∀ q, Calls Try.prog 21 #[.pointer (some ⟨b, 0, none⟩)] (w.drewN q) fun e w' => e = .returned (.tuple #[]) ∧ QrR w' b w.heap.size most M 0 xs ∧ Only b g w w' := fun q =>
      (growR_any b g most R f xs (w.drewN q) (h.keep (by simp) (by simp)) hx (by omega)).mono fun e w' ⟨h1, h2, h3⟩ => ⟨h1, by rw [hM]; simpa using h2, (Only.of_below (below_drewN (Below.refl _ _) q)).trans h3 (.inl rfl)⟩
    rw [hx] at c2 hnm
    have hMR : xs.length < M := by omega
    have hRR : ¬ most ≤ R := by omega
    clear h hblk hM hx hnm2
    go_enter Try.func10, Try.ntmps10
    go_wp2
    go_quiet (fail)
    go_wp2
    go_quiet (fail)
    go_wp2_with fail
    refine (hgr _).mono ?_
    rintro e W ⟨rfl, hT, hO⟩
    have HW := hide_it hO
    have hTl := hMR
    clear hgr hO c0 c2 c3 hnm hMR hRR hRm hxR hl
    obtain ⟨G, hG⟩ : ∃ G, G = w.heap.size := ⟨_, rfl⟩
    obtain ⟨F, hF⟩ : ∃ F, F = 0 := ⟨_, rfl⟩
    have hGg : G = g ∨ w.heap.size ≤ G := .inr (by omega)
    rw [← hG] at hT
    rw [← hF] at hT
    clear hG hF
    have HT := hide_it hT
    clear hT
    go_wp2_with fail
    have hT := HT.out
    clear HT
    obtain ⟨hbl, hgl⟩ := hT.lt
    obtain ⟨v, hb, ⟨h0, _⟩ | ⟨cur, rfl, hgb, hR, hg, hla⟩⟩ := hT.blk
    · omega
    have hf := hla.at_
    have d1 : W.cell? ⟨b, 1, none⟩ = some (.int .i64 (F : Int)) := cell_of_row _ _ _ _ _ _ hb
    have d2 : W.cell? ⟨b, 2, none⟩ = some (.int .i64 (xs.length : Int)) := cell_of_row _ _ _ _ _ _ hb
    have d3 : W.cell? ⟨b, 3, none⟩ = some (.slice (some ⟨G, 0, none⟩) M M) := cell_of_row _ _ _ _ _ _ hb
    obtain ⟨K, hK⟩ : ∃ K, K = (F + xs.length) % M := ⟨_, rfl⟩
    have hKM : K < M := by rw [hK]; exact Nat.mod_lt _ (by omega)
    obtain ⟨u, cK⟩ : ∃ u, W.cell? ⟨G, K, none⟩ = some u := by
      rw [cell_of_row _ _ _ _ _ _ hg]
      exact ⟨_, List.getElem?_toArray.trans (List.getElem?_eq_getElem (by omega))⟩
    have fK := frozen_of_row W G K _ _ hg
    have f2 := frozen_of_row W b 2 _ _ hb
    have hKi : (K : Int) < (M : Int) := by omega
    have hM0 : ¬ M = 0 := by omega
    obtain ⟨n, hn⟩ : ∃ n, n = xs.length := ⟨_, rfl⟩
    have hMm : M ≤ 65536 := by have := hT.room; omega
    have hnM : n < M := by omega
    have hFM : F < M := by omega
    have e1 : IntKind.i64.wrap ((F : Int) + (n : Int)) = (F : Int) + (n : Int) := i64_in (by omega) (by omega)
    have e2 : ((F : Int) + (n : Int)).tmod (M : Int) = (K : Int) := by
      rw [Int.tmod_eq_emod_of_nonneg (by omega), hK, hn]; simp
    have e3 : IntKind.i64.wrap ((n : Int) + 1) = (n : Int) + 1 := i64_in (by omega) (by omega)
    obtain ⟨hQ, hO⟩ := hT.put (w' := (W.setCell ⟨G, K, none⟩ (.pointer x)).setCell ⟨b, 2, none⟩ (.int .i64 ((n : Int) + 1))) hTl x hK (by rw [hn])
    have HQ := hide_it hQ
    have HO := hide_it hO
    rw [← hn] at d2
    clear hT hb hg hla hK hn hQ hO hf hR hTl
    refine wp_region_held_drew (S := (fun w' => w'.heap[b]? = W.heap[b]?)) (by kernel_rfl) ?_ (fun hHeld => ?_)
    · rfl
    refine take_on (i := 0) (v := ?_) rfl rfl (by kernel_rfl) (by kernel_rfl) (by kernel_rfl) (fun _ _ _ h => h) rfl ?_ hHeld ?_
    rotate_left
    · (intro wq hSq; have q1 := (World.cell?_of_block (w := W) (a := ⟨b, 1, none⟩) hSq).trans d1; have q2 := (World.cell?_of_block (w := W) (a := ⟨b, 2, none⟩) hSq).trans d2; have q3 := (World.cell?_of_block (w := W) (a := ⟨b, 3, none⟩) hSq).trans d3; go_simp <;> first | with_reducible rfl | rfl)
    simp only [Act.put, List.setIfInBounds_toArray, List.set_cons_zero, List.set_cons_succ]
    refine take_on (i := 1) (v := ?_) rfl rfl (by kernel_rfl) (by kernel_rfl) (by kernel_rfl) (fun _ _ _ h => h) rfl ?_ hHeld ?_
    rotate_left
    · (intro wq hSq; have q1 := (World.cell?_of_block (w := W) (a := ⟨b, 1, none⟩) hSq).trans d1; have q2 := (World.cell?_of_block (w := W) (a := ⟨b, 2, none⟩) hSq).trans d2; have q3 := (World.cell?_of_block (w := W) (a := ⟨b, 3, none⟩) hSq).trans d3; go_simp <;> first | with_reducible rfl | rfl)
    simp only [Act.put, List.setIfInBounds_toArray, List.set_cons_zero, List.set_cons_succ]
    refine take_on (i := 2) (v := ?_) rfl rfl (by kernel_rfl) (by kernel_rfl) (by kernel_rfl) (fun _ _ _ h => h) rfl ?_ hHeld ?_
    rotate_left
    · (intro wq hSq; have q1 := (World.cell?_of_block (w := W) (a := ⟨b, 1, none⟩) hSq).trans d1; have q2 := (World.cell?_of_block (w := W) (a := ⟨b, 2, none⟩) hSq).trans d2; have q3 := (World.cell?_of_block (w := W) (a := ⟨b, 3, none⟩) hSq).trans d3; go_simp <;> first | with_reducible rfl | rfl)
    simp only [Act.put, List.setIfInBounds_toArray, List.set_cons_zero, List.set_cons_succ]
    refine take_on (i := 3) (v := ?_) rfl rfl (by kernel_rfl) (by kernel_rfl) (by kernel_rfl) (fun _ _ _ h => h) rfl ?_ hHeld ?_
    rotate_left
    · (intro wq hSq; have q1 := (World.cell?_of_block (w := W) (a := ⟨b, 1, none⟩) hSq).trans d1; have q2 := (World.cell?_of_block (w := W) (a := ⟨b, 2, none⟩) hSq).trans d2; have q3 := (World.cell?_of_block (w := W) (a := ⟨b, 3, none⟩) hSq).trans d3; go_simp <;> first | with_reducible rfl | rfl)
    simp only [Act.put, List.setIfInBounds_toArray, List.set_cons_zero, List.set_cons_succ]
    refine take_on (i := 4) (v := ?_) rfl rfl (by kernel_rfl) (by kernel_rfl) (by kernel_rfl) (fun _ _ _ h => h) rfl ?_ hHeld ?_
    rotate_left
    · (intro wq hSq; have q1 := (World.cell?_of_block (w := W) (a := ⟨b, 1, none⟩) hSq).trans d1; have q2 := (World.cell?_of_block (w := W) (a := ⟨b, 2, none⟩) hSq).trans d2; have q3 := (World.cell?_of_block (w := W) (a := ⟨b, 3, none⟩) hSq).trans d3; go_simp <;> first | with_reducible rfl | rfl)
    simp only [Act.put, List.setIfInBounds_toArray, List.set_cons_zero, List.set_cons_succ]
    refine take_on (i := 5) (v := ?_) rfl rfl (by kernel_rfl) (by kernel_rfl) (by kernel_rfl) (fun _ _ _ h => h) rfl ?_ hHeld ?_
    rotate_left
    · (intro wq hSq; have q1 := (World.cell?_of_block (w := W) (a := ⟨b, 1, none⟩) hSq).trans d1; have q2 := (World.cell?_of_block (w := W) (a := ⟨b, 2, none⟩) hSq).trans d2; have q3 := (World.cell?_of_block (w := W) (a := ⟨b, 3, none⟩) hSq).trans d3; go_simp <;> first | with_reducible rfl | rfl)
    simp only [Act.put, List.setIfInBounds_toArray, List.set_cons_zero, List.set_cons_succ]
    refine take_on (i := 6) (v := ?_) rfl rfl (by kernel_rfl) (by kernel_rfl) (by kernel_rfl) (fun _ _ _ h => h) rfl ?_ hHeld ?_
    rotate_left
    · (intro wq hSq; have q1 := (World.cell?_of_block (w := W) (a := ⟨b, 1, none⟩) hSq).trans d1; have q2 := (World.cell?_of_block (w := W) (a := ⟨b, 2, none⟩) hSq).trans d2; have q3 := (World.cell?_of_block (w := W) (a := ⟨b, 3, none⟩) hSq).trans d3; go_simp <;> first | with_reducible rfl | rfl)
    simp only [Act.put, List.setIfInBounds_toArray, List.set_cons_zero, List.set_cons_succ]
    refine take_on (i := 7) (v := ?_) rfl rfl (by kernel_rfl) (by kernel_rfl) (by kernel_rfl) (fun _ _ _ h => h) rfl ?_ hHeld ?_
    rotate_left
    · (intro wq hSq; have q1 := (World.cell?_of_block (w := W) (a := ⟨b, 1, none⟩) hSq).trans d1; have q2 := (World.cell?_of_block (w := W) (a := ⟨b, 2, none⟩) hSq).trans d2; have q3 := (World.cell?_of_block (w := W) (a := ⟨b, 3, none⟩) hSq).trans d3; go_simp <;> first | with_reducible rfl | rfl)
    simp only [Act.put, List.setIfInBounds_toArray, List.set_cons_zero, List.set_cons_succ]
    refine take_on (i := 8) (v := ?_) rfl rfl (by kernel_rfl) (by kernel_rfl) (by kernel_rfl) (fun _ _ _ h => h) rfl ?_ hHeld ?_
    rotate_left
    · (intro wq hSq; have q1 := (World.cell?_of_block (w := W) (a := ⟨b, 1, none⟩) hSq).trans d1; have q2 := (World.cell?_of_block (w := W) (a := ⟨b, 2, none⟩) hSq).trans d2; have q3 := (World.cell?_of_block (w := W) (a := ⟨b, 3, none⟩) hSq).trans d3; go_simp <;> first | with_reducible rfl | rfl)
    simp only [Act.put, List.setIfInBounds_toArray, List.set_cons_zero, List.set_cons_succ]
    refine take_on (i := 9) (v := ?_) rfl rfl (by kernel_rfl) (by kernel_rfl) (by kernel_rfl) (fun _ _ _ h => h) rfl ?_ hHeld ?_
    rotate_left
    · (intro wq hSq; have q1 := (World.cell?_of_block (w := W) (a := ⟨b, 1, none⟩) hSq).trans d1; have q2 := (World.cell?_of_block (w := W) (a := ⟨b, 2, none⟩) hSq).trans d2; have q3 := (World.cell?_of_block (w := W) (a := ⟨b, 3, none⟩) hSq).trans d3; go_simp <;> first | with_reducible rfl | rfl)
    simp only [Act.put, List.setIfInBounds_toArray, List.set_cons_zero, List.set_cons_succ]
    refine take_on (i := 10) (v := ?_) rfl rfl (by kernel_rfl) (by kernel_rfl) (by kernel_rfl) (fun _ _ _ h => h) rfl ?_ hHeld ?_
    rotate_left
    · (intro wq hSq; have q1 := (World.cell?_of_block (w := W) (a := ⟨b, 1, none⟩) hSq).trans d1; have q2 := (World.cell?_of_block (w := W) (a := ⟨b, 2, none⟩) hSq).trans d2; have q3 := (World.cell?_of_block (w := W) (a := ⟨b, 3, none⟩) hSq).trans d3; go_simp <;> first | with_reducible rfl | rfl)
    simp only [Act.put, List.setIfInBounds_toArray, List.set_cons_zero, List.set_cons_succ]
    refine take_on (i := 11) (v := ?_) rfl rfl (by kernel_rfl) (by kernel_rfl) (by kernel_rfl) (fun _ _ _ h => h) rfl ?_ hHeld ?_
    rotate_left
    · (intro wq hSq; have q1 := (World.cell?_of_block (w := W) (a := ⟨b, 1, none⟩) hSq).trans d1; have q2 := (World.cell?_of_block (w := W) (a := ⟨b, 2, none⟩) hSq).trans d2; have q3 := (World.cell?_of_block (w := W) (a := ⟨b, 3, none⟩) hSq).trans d3; go_simp <;> first | with_reducible rfl | rfl)
    simp only [Act.put, List.setIfInBounds_toArray, List.set_cons_zero, List.set_cons_succ]
    refine take_on (i := 12) (v := ?_) rfl rfl (by kernel_rfl) (by kernel_rfl) (by kernel_rfl) (fun _ _ _ h => h) rfl ?_ hHeld ?_
    rotate_left
    · (intro wq hSq; have q1 := (World.cell?_of_block (w := W) (a := ⟨b, 1, none⟩) hSq).trans d1; have q2 := (World.cell?_of_block (w := W) (a := ⟨b, 2, none⟩) hSq).trans d2; have q3 := (World.cell?_of_block (w := W) (a := ⟨b, 3, none⟩) hSq).trans d3; go_simp <;> first | with_reducible rfl | rfl)
    simp only [Act.put, List.setIfInBounds_toArray, List.set_cons_zero, List.set_cons_succ]
    refine take_on (i := 13) (v := ?_) rfl rfl (by kernel_rfl) (by kernel_rfl) (by kernel_rfl) (fun _ _ _ h => h) rfl ?_ hHeld ?_
    rotate_left
    · (intro wq hSq; have q1 := (World.cell?_of_block (w := W) (a := ⟨b, 1, none⟩) hSq).trans d1; have q2 := (World.cell?_of_block (w := W) (a := ⟨b, 2, none⟩) hSq).trans d2; have q3 := (World.cell?_of_block (w := W) (a := ⟨b, 3, none⟩) hSq).trans d3; go_simp <;> first | with_reducible rfl | rfl)
    simp only [Act.put, List.setIfInBounds_toArray, List.set_cons_zero, List.set_cons_succ]
    refine take_on (i := 14) (v := ?_) rfl rfl (by kernel_rfl) (by kernel_rfl) (by kernel_rfl) (fun _ _ _ h => h) rfl ?_ hHeld ?_
    rotate_left
    · (intro wq hSq; have q1 := (World.cell?_of_block (w := W) (a := ⟨b, 1, none⟩) hSq).trans d1; have q2 := (World.cell?_of_block (w := W) (a := ⟨b, 2, none⟩) hSq).trans d2; have q3 := (World.cell?_of_block (w := W) (a := ⟨b, 3, none⟩) hSq).trans d3; go_simp <;> first | with_reducible rfl | rfl)
    simp only [Act.put, List.setIfInBounds_toArray, List.set_cons_zero, List.set_cons_succ]
    refine take_on (i := 15) (v := ?_) rfl rfl (by kernel_rfl) (by kernel_rfl) (by kernel_rfl) (fun _ _ _ h => h) rfl ?_ hHeld ?_
    rotate_left
    · (intro wq hSq; have q1 := (World.cell?_of_block (w := W) (a := ⟨b, 1, none⟩) hSq).trans d1; have q2 := (World.cell?_of_block (w := W) (a := ⟨b, 2, none⟩) hSq).trans d2; have q3 := (World.cell?_of_block (w := W) (a := ⟨b, 3, none⟩) hSq).trans d3; go_simp <;> first | with_reducible rfl | rfl)
    simp only [Act.put, List.setIfInBounds_toArray, List.set_cons_zero, List.set_cons_succ]
    refine take_on (i := 16) (v := ?_) rfl rfl (by kernel_rfl) (by kernel_rfl) (by kernel_rfl) (fun _ _ _ h => h) rfl ?_ hHeld ?_
    rotate_left
    · (intro wq hSq; have q1 := (World.cell?_of_block (w := W) (a := ⟨b, 1, none⟩) hSq).trans d1; have q2 := (World.cell?_of_block (w := W) (a := ⟨b, 2, none⟩) hSq).trans d2; have q3 := (World.cell?_of_block (w := W) (a := ⟨b, 3, none⟩) hSq).trans d3; go_simp <;> first | with_reducible rfl | rfl)
    simp only [Act.put, List.setIfInBounds_toArray, List.set_cons_zero, List.set_cons_succ]
    refine take_on (i := 17) (v := ?_) rfl rfl (by kernel_rfl) (by kernel_rfl) (by kernel_rfl) (fun _ _ _ h => h) rfl ?_ hHeld ?_
    rotate_left
    · (intro wq hSq; have q1 := (World.cell?_of_block (w := W) (a := ⟨b, 1, none⟩) hSq).trans d1; have q2 := (World.cell?_of_block (w := W) (a := ⟨b, 2, none⟩) hSq).trans d2; have q3 := (World.cell?_of_block (w := W) (a := ⟨b, 3, none⟩) hSq).trans d3; go_simp <;> first | with_reducible rfl | rfl)
    simp only [Act.put, List.setIfInBounds_toArray, List.set_cons_zero, List.set_cons_succ]
    refine take_on (i := 18) (v := ?_) rfl rfl (by kernel_rfl) (by kernel_rfl) (by kernel_rfl) (fun _ _ _ h => h) rfl ?_ hHeld ?_
    rotate_left
    · (intro wq hSq; have q1 := (World.cell?_of_block (w := W) (a := ⟨b, 1, none⟩) hSq).trans d1; have q2 := (World.cell?_of_block (w := W) (a := ⟨b, 2, none⟩) hSq).trans d2; have q3 := (World.cell?_of_block (w := W) (a := ⟨b, 3, none⟩) hSq).trans d3; go_simp <;> first | with_reducible rfl | rfl)
    simp only [Act.put, List.setIfInBounds_toArray, List.set_cons_zero, List.set_cons_succ]
    refine take_on (i := 19) (v := ?_) rfl rfl (by kernel_rfl) (by kernel_rfl) (by kernel_rfl) (fun _ _ _ h => h) rfl ?_ hHeld ?_
    rotate_left
    · (intro wq hSq; have q1 := (World.cell?_of_block (w := W) (a := ⟨b, 1, none⟩) hSq).trans d1; have q2 := (World.cell?_of_block (w := W) (a := ⟨b, 2, none⟩) hSq).trans d2; have q3 := (World.cell?_of_block (w := W) (a := ⟨b, 3, none⟩) hSq).trans d3; go_simp <;> first | with_reducible rfl | rfl)
    simp only [Act.put, List.setIfInBounds_toArray, List.set_cons_zero, List.set_cons_succ]
    refine take_on (i := 20) (v := ?_) rfl rfl (by kernel_rfl) (by kernel_rfl) (by kernel_rfl) (fun _ _ _ h => h) rfl ?_ hHeld ?_
    rotate_left
    · (intro wq hSq; have q1 := (World.cell?_of_block (w := W) (a := ⟨b, 1, none⟩) hSq).trans d1; have q2 := (World.cell?_of_block (w := W) (a := ⟨b, 2, none⟩) hSq).trans d2; have q3 := (World.cell?_of_block (w := W) (a := ⟨b, 3, none⟩) hSq).trans d3; go_simp <;> first | with_reducible rfl | rfl)
    simp only [Act.put, List.setIfInBounds_toArray, List.set_cons_zero, List.set_cons_succ]
    refine take_one (i := 21) rfl (by kernel_rfl) (fun K hK => ?_)
    go_simp
    skip
    try go_wp2_with fail
    refine hK.out _ _ ?_ (fun hHeld => ?_)
    · exact (Below.heap_setCell _ _ _ _ (by simpa using fun e => hgb e.symm)).trans hHeld
    clear hK K
    try simp only [Act.put, List.setIfInBounds_toArray, List.set_cons_zero, List.set_cons_succ]
    refine wpAnyH_done (by kernel_rfl) ?_ _
    go_wp2
    go_ret
    refine ⟨rfl, ⟨G, hGg, HQ.out.keep rfl rfl⟩, HW.out.trans HO.out.drew hGg⟩
  · have hne : ¬ (xs.length : Int) = (R : Int) := by omega
    have H := hide_it h
    have hxR2 : xs.length < R := by omega
    have HXR := hide_it hxR2
    clear h hblk hx hxR hxR2
    go_enter Try.func10, Try.ntmps10
    go_wp2
    go_quiet (fail)
    go_wp2
    go_quiet (fail)
    go_wp2_with fail
    generalize hW : World.drewN (World.drewN w _) nq = W
    obtain ⟨G, hG⟩ : ∃ G, G = g := ⟨_, rfl⟩
    obtain ⟨F, hF⟩ : ∃ F, F = f := ⟨_, rfl⟩
    obtain ⟨M, hM⟩ : ∃ M, M = R := ⟨_, rfl⟩
    have hT : QrR W b G most M F xs := by rw [← hW, hG, hF, hM]; exact H.out.keep (by simp) (by simp)
    have hTl : xs.length < M := by rw [hM]; exact HXR.out
    have HW := hide_it (show Only b g w W by rw [← hW]; exact Only.of_below (below_drewN (below_drewN (Below.refl _ _) _) _))
    have hGg : G = g ∨ w.heap.size ≤ G := .inl hG
    clear H HXR hW hF hM hG c0 c2 c3 hnm hnm2 hne
    obtain ⟨hbl, hgl⟩ := hT.lt
    obtain ⟨v, hb, ⟨h0, _⟩ | ⟨cur, rfl, hgb, hR, hg, hla⟩⟩ := hT.blk
    · omega
    have hf := hla.at_
    have d1 : W.cell? ⟨b, 1, none⟩ = some (.int .i64 (F : Int)) := cell_of_row _ _ _ _ _ _ hb
    have d2 : W.cell? ⟨b, 2, none⟩ = some (.int .i64 (xs.length : Int)) := cell_of_row _ _ _ _ _ _ hb
    have d3 : W.cell? ⟨b, 3, none⟩ = some (.slice (some ⟨G, 0, none⟩) M M) := cell_of_row _ _ _ _ _ _ hb
    obtain ⟨K, hK⟩ : ∃ K, K = (F + xs.length) % M := ⟨_, rfl⟩
    have hKM : K < M := by rw [hK]; exact Nat.mod_lt _ (by omega)
    obtain ⟨u, cK⟩ : ∃ u, W.cell? ⟨G, K, none⟩ = some u := by
      rw [cell_of_row _ _ _ _ _ _ hg]
      exact ⟨_, List.getElem?_toArray.trans (List.getElem?_eq_getElem (by omega))⟩
    have fK := frozen_of_row W G K _ _ hg
    have f2 := frozen_of_row W b 2 _ _ hb
    have hKi : (K : Int) < (M : Int) := by omega
    have hM0 : ¬ M = 0 := by omega
    obtain ⟨n, hn⟩ : ∃ n, n = xs.length := ⟨_, rfl⟩
    have hMm : M ≤ 65536 := by have := hT.room; omega
    have hnM : n < M := by omega
    have hFM : F < M := by omega
    have e1 : IntKind.i64.wrap ((F : Int) + (n : Int)) = (F : Int) + (n : Int) := i64_in (by omega) (by omega)
    have e2 : ((F : Int) + (n : Int)).tmod (M : Int) = (K : Int) := by
      rw [Int.tmod_eq_emod_of_nonneg (by omega), hK, hn]; simp
    have e3 : IntKind.i64.wrap ((n : Int) + 1) = (n : Int) + 1 := i64_in (by omega) (by omega)
    obtain ⟨hQ, hO⟩ := hT.put (w' := (W.setCell ⟨G, K, none⟩ (.pointer x)).setCell ⟨b, 2, none⟩ (.int .i64 ((n : Int) + 1))) hTl x hK (by rw [hn])
    have HQ := hide_it hQ
    have HO := hide_it hO
    rw [← hn] at d2
    clear hT hb hg hla hK hn hQ hO hf hR hTl
    refine wp_region_held_drew (S := (fun w' => w'.heap[b]? = W.heap[b]?)) (by kernel_rfl) ?_ (fun hHeld => ?_)
    · rfl
    refine take_on (i := 0) (v := ?_) rfl rfl (by kernel_rfl) (by kernel_rfl) (by kernel_rfl) (fun _ _ _ h => h) rfl ?_ hHeld ?_
    rotate_left
    · (intro wq hSq; have q1 := (World.cell?_of_block (w := W) (a := ⟨b, 1, none⟩) hSq).trans d1; have q2 := (World.cell?_of_block (w := W) (a := ⟨b, 2, none⟩) hSq).trans d2; have q3 := (World.cell?_of_block (w := W) (a := ⟨b, 3, none⟩) hSq).trans d3; go_simp <;> first | with_reducible rfl | rfl)
    simp only [Act.put, List.setIfInBounds_toArray, List.set_cons_zero, List.set_cons_succ]
    refine take_on (i := 1) (v := ?_) rfl rfl (by kernel_rfl) (by kernel_rfl) (by kernel_rfl) (fun _ _ _ h => h) rfl ?_ hHeld ?_
    rotate_left
    · (intro wq hSq; have q1 := (World.cell?_of_block (w := W) (a := ⟨b, 1, none⟩) hSq).trans d1; have q2 := (World.cell?_of_block (w := W) (a := ⟨b, 2, none⟩) hSq).trans d2; have q3 := (World.cell?_of_block (w := W) (a := ⟨b, 3, none⟩) hSq).trans d3; go_simp <;> first | with_reducible rfl | rfl)
    simp only [Act.put, List.setIfInBounds_toArray, List.set_cons_zero, List.set_cons_succ]
    refine take_on (i := 2) (v := ?_) rfl rfl (by kernel_rfl) (by kernel_rfl) (by kernel_rfl) (fun _ _ _ h => h) rfl ?_ hHeld ?_
    rotate_left
    · (intro wq hSq; have q1 := (World.cell?_of_block (w := W) (a := ⟨b, 1, none⟩) hSq).trans d1; have q2 := (World.cell?_of_block (w := W) (a := ⟨b, 2, none⟩) hSq).trans d2; have q3 := (World.cell?_of_block (w := W) (a := ⟨b, 3, none⟩) hSq).trans d3; go_simp <;> first | with_reducible rfl | rfl)
    simp only [Act.put, List.setIfInBounds_toArray, List.set_cons_zero, List.set_cons_succ]
    refine take_on (i := 3) (v := ?_) rfl rfl (by kernel_rfl) (by kernel_rfl) (by kernel_rfl) (fun _ _ _ h => h) rfl ?_ hHeld ?_
    rotate_left
    · (intro wq hSq; have q1 := (World.cell?_of_block (w := W) (a := ⟨b, 1, none⟩) hSq).trans d1; have q2 := (World.cell?_of_block (w := W) (a := ⟨b, 2, none⟩) hSq).trans d2; have q3 := (World.cell?_of_block (w := W) (a := ⟨b, 3, none⟩) hSq).trans d3; go_simp <;> first | with_reducible rfl | rfl)
    simp only [Act.put, List.setIfInBounds_toArray, List.set_cons_zero, List.set_cons_succ]
    refine take_on (i := 4) (v := ?_) rfl rfl (by kernel_rfl) (by kernel_rfl) (by kernel_rfl) (fun _ _ _ h => h) rfl ?_ hHeld ?_
    rotate_left
    · (intro wq hSq; have q1 := (World.cell?_of_block (w := W) (a := ⟨b, 1, none⟩) hSq).trans d1; have q2 := (World.cell?_of_block (w := W) (a := ⟨b, 2, none⟩) hSq).trans d2; have q3 := (World.cell?_of_block (w := W) (a := ⟨b, 3, none⟩) hSq).trans d3; go_simp <;> first | with_reducible rfl | rfl)
    simp only [Act.put, List.setIfInBounds_toArray, List.set_cons_zero, List.set_cons_succ]
    refine take_on (i := 5) (v := ?_) rfl rfl (by kernel_rfl) (by kernel_rfl) (by kernel_rfl) (fun _ _ _ h => h) rfl ?_ hHeld ?_
    rotate_left
    · (intro wq hSq; have q1 := (World.cell?_of_block (w := W) (a := ⟨b, 1, none⟩) hSq).trans d1; have q2 := (World.cell?_of_block (w := W) (a := ⟨b, 2, none⟩) hSq).trans d2; have q3 := (World.cell?_of_block (w := W) (a := ⟨b, 3, none⟩) hSq).trans d3; go_simp <;> first | with_reducible rfl | rfl)
    simp only [Act.put, List.setIfInBounds_toArray, List.set_cons_zero, List.set_cons_succ]
    refine take_on (i := 6) (v := ?_) rfl rfl (by kernel_rfl) (by kernel_rfl) (by kernel_rfl) (fun _ _ _ h => h) rfl ?_ hHeld ?_
    rotate_left
    · (intro wq hSq; have q1 := (World.cell?_of_block (w := W) (a := ⟨b, 1, none⟩) hSq).trans d1; have q2 := (World.cell?_of_block (w := W) (a := ⟨b, 2, none⟩) hSq).trans d2; have q3 := (World.cell?_of_block (w := W) (a := ⟨b, 3, none⟩) hSq).trans d3; go_simp <;> first | with_reducible rfl | rfl)
    simp only [Act.put, List.setIfInBounds_toArray, List.set_cons_zero, List.set_cons_succ]
    refine take_on (i := 7) (v := ?_) rfl rfl (by kernel_rfl) (by kernel_rfl) (by kernel_rfl) (fun _ _ _ h => h) rfl ?_ hHeld ?_
    rotate_left
    · (intro wq hSq; have q1 := (World.cell?_of_block (w := W) (a := ⟨b, 1, none⟩) hSq).trans d1; have q2 := (World.cell?_of_block (w := W) (a := ⟨b, 2, none⟩) hSq).trans d2; have q3 := (World.cell?_of_block (w := W) (a := ⟨b, 3, none⟩) hSq).trans d3; go_simp <;> first | with_reducible rfl | rfl)
    simp only [Act.put, List.setIfInBounds_toArray, List.set_cons_zero, List.set_cons_succ]
    refine take_on (i := 8) (v := ?_) rfl rfl (by kernel_rfl) (by kernel_rfl) (by kernel_rfl) (fun _ _ _ h => h) rfl ?_ hHeld ?_
    rotate_left
    · (intro wq hSq; have q1 := (World.cell?_of_block (w := W) (a := ⟨b, 1, none⟩) hSq).trans d1; have q2 := (World.cell?_of_block (w := W) (a := ⟨b, 2, none⟩) hSq).trans d2; have q3 := (World.cell?_of_block (w := W) (a := ⟨b, 3, none⟩) hSq).trans d3; go_simp <;> first | with_reducible rfl | rfl)
    simp only [Act.put, List.setIfInBounds_toArray, List.set_cons_zero, List.set_cons_succ]
    refine take_on (i := 9) (v := ?_) rfl rfl (by kernel_rfl) (by kernel_rfl) (by kernel_rfl) (fun _ _ _ h => h) rfl ?_ hHeld ?_
    rotate_left
    · (intro wq hSq; have q1 := (World.cell?_of_block (w := W) (a := ⟨b, 1, none⟩) hSq).trans d1; have q2 := (World.cell?_of_block (w := W) (a := ⟨b, 2, none⟩) hSq).trans d2; have q3 := (World.cell?_of_block (w := W) (a := ⟨b, 3, none⟩) hSq).trans d3; go_simp <;> first | with_reducible rfl | rfl)
    simp only [Act.put, List.setIfInBounds_toArray, List.set_cons_zero, List.set_cons_succ]
    refine take_on (i := 10) (v := ?_) rfl rfl (by kernel_rfl) (by kernel_rfl) (by kernel_rfl) (fun _ _ _ h => h) rfl ?_ hHeld ?_
    rotate_left
    · (intro wq hSq; have q1 := (World.cell?_of_block (w := W) (a := ⟨b, 1, none⟩) hSq).trans d1; have q2 := (World.cell?_of_block (w := W) (a := ⟨b, 2, none⟩) hSq).trans d2; have q3 := (World.cell?_of_block (w := W) (a := ⟨b, 3, none⟩) hSq).trans d3; go_simp <;> first | with_reducible rfl | rfl)
    simp only [Act.put, List.setIfInBounds_toArray, List.set_cons_zero, List.set_cons_succ]
    refine take_on (i := 11) (v := ?_) rfl rfl (by kernel_rfl) (by kernel_rfl) (by kernel_rfl) (fun _ _ _ h => h) rfl ?_ hHeld ?_
    rotate_left
    · (intro wq hSq; have q1 := (World.cell?_of_block (w := W) (a := ⟨b, 1, none⟩) hSq).trans d1; have q2 := (World.cell?_of_block (w := W) (a := ⟨b, 2, none⟩) hSq).trans d2; have q3 := (World.cell?_of_block (w := W) (a := ⟨b, 3, none⟩) hSq).trans d3; go_simp <;> first | with_reducible rfl | rfl)
    simp only [Act.put, List.setIfInBounds_toArray, List.set_cons_zero, List.set_cons_succ]
    refine take_on (i := 12) (v := ?_) rfl rfl (by kernel_rfl) (by kernel_rfl) (by kernel_rfl) (fun _ _ _ h => h) rfl ?_ hHeld ?_
    rotate_left
    · (intro wq hSq; have q1 := (World.cell?_of_block (w := W) (a := ⟨b, 1, none⟩) hSq).trans d1; have q2 := (World.cell?_of_block (w := W) (a := ⟨b, 2, none⟩) hSq).trans d2; have q3 := (World.cell?_of_block (w := W) (a := ⟨b, 3, none⟩) hSq).trans d3; go_simp <;> first | with_reducible rfl | rfl)
    simp only [Act.put, List.setIfInBounds_toArray, List.set_cons_zero, List.set_cons_succ]
    refine take_on (i := 13) (v := ?_) rfl rfl (by kernel_rfl) (by kernel_rfl) (by kernel_rfl) (fun _ _ _ h => h) rfl ?_ hHeld ?_
    rotate_left
    · (intro wq hSq; have q1 := (World.cell?_of_block (w := W) (a := ⟨b, 1, none⟩) hSq).trans d1; have q2 := (World.cell?_of_block (w := W) (a := ⟨b, 2, none⟩) hSq).trans d2; have q3 := (World.cell?_of_block (w := W) (a := ⟨b, 3, none⟩) hSq).trans d3; go_simp <;> first | with_reducible rfl | rfl)
    simp only [Act.put, List.setIfInBounds_toArray, List.set_cons_zero, List.set_cons_succ]
    refine take_on (i := 14) (v := ?_) rfl rfl (by kernel_rfl) (by kernel_rfl) (by kernel_rfl) (fun _ _ _ h => h) rfl ?_ hHeld ?_
    rotate_left
    · (intro wq hSq; have q1 := (World.cell?_of_block (w := W) (a := ⟨b, 1, none⟩) hSq).trans d1; have q2 := (World.cell?_of_block (w := W) (a := ⟨b, 2, none⟩) hSq).trans d2; have q3 := (World.cell?_of_block (w := W) (a := ⟨b, 3, none⟩) hSq).trans d3; go_simp <;> first | with_reducible rfl | rfl)
    simp only [Act.put, List.setIfInBounds_toArray, List.set_cons_zero, List.set_cons_succ]
    refine take_on (i := 15) (v := ?_) rfl rfl (by kernel_rfl) (by kernel_rfl) (by kernel_rfl) (fun _ _ _ h => h) rfl ?_ hHeld ?_
    rotate_left
    · (intro wq hSq; have q1 := (World.cell?_of_block (w := W) (a := ⟨b, 1, none⟩) hSq).trans d1; have q2 := (World.cell?_of_block (w := W) (a := ⟨b, 2, none⟩) hSq).trans d2; have q3 := (World.cell?_of_block (w := W) (a := ⟨b, 3, none⟩) hSq).trans d3; go_simp <;> first | with_reducible rfl | rfl)
    simp only [Act.put, List.setIfInBounds_toArray, List.set_cons_zero, List.set_cons_succ]
    refine take_on (i := 16) (v := ?_) rfl rfl (by kernel_rfl) (by kernel_rfl) (by kernel_rfl) (fun _ _ _ h => h) rfl ?_ hHeld ?_
    rotate_left
    · (intro wq hSq; have q1 := (World.cell?_of_block (w := W) (a := ⟨b, 1, none⟩) hSq).trans d1; have q2 := (World.cell?_of_block (w := W) (a := ⟨b, 2, none⟩) hSq).trans d2; have q3 := (World.cell?_of_block (w := W) (a := ⟨b, 3, none⟩) hSq).trans d3; go_simp <;> first | with_reducible rfl | rfl)
    simp only [Act.put, List.setIfInBounds_toArray, List.set_cons_zero, List.set_cons_succ]
    refine take_on (i := 17) (v := ?_) rfl rfl (by kernel_rfl) (by kernel_rfl) (by kernel_rfl) (fun _ _ _ h => h) rfl ?_ hHeld ?_
    rotate_left
    · (intro wq hSq; have q1 := (World.cell?_of_block (w := W) (a := ⟨b, 1, none⟩) hSq).trans d1; have q2 := (World.cell?_of_block (w := W) (a := ⟨b, 2, none⟩) hSq).trans d2; have q3 := (World.cell?_of_block (w := W) (a := ⟨b, 3, none⟩) hSq).trans d3; go_simp <;> first | with_reducible rfl | rfl)
    simp only [Act.put, List.setIfInBounds_toArray, List.set_cons_zero, List.set_cons_succ]
    refine take_on (i := 18) (v := ?_) rfl rfl (by kernel_rfl) (by kernel_rfl) (by kernel_rfl) (fun _ _ _ h => h) rfl ?_ hHeld ?_
    rotate_left
    · (intro wq hSq; have q1 := (World.cell?_of_block (w := W) (a := ⟨b, 1, none⟩) hSq).trans d1; have q2 := (World.cell?_of_block (w := W) (a := ⟨b, 2, none⟩) hSq).trans d2; have q3 := (World.cell?_of_block (w := W) (a := ⟨b, 3, none⟩) hSq).trans d3; go_simp <;> first | with_reducible rfl | rfl)
    simp only [Act.put, List.setIfInBounds_toArray, List.set_cons_zero, List.set_cons_succ]
    refine take_on (i := 19) (v := ?_) rfl rfl (by kernel_rfl) (by kernel_rfl) (by kernel_rfl) (fun _ _ _ h => h) rfl ?_ hHeld ?_
    rotate_left
    · (intro wq hSq; have q1 := (World.cell?_of_block (w := W) (a := ⟨b, 1, none⟩) hSq).trans d1; have q2 := (World.cell?_of_block (w := W) (a := ⟨b, 2, none⟩) hSq).trans d2; have q3 := (World.cell?_of_block (w := W) (a := ⟨b, 3, none⟩) hSq).trans d3; go_simp <;> first | with_reducible rfl | rfl)
    simp only [Act.put, List.setIfInBounds_toArray, List.set_cons_zero, List.set_cons_succ]
    refine take_on (i := 20) (v := ?_) rfl rfl (by kernel_rfl) (by kernel_rfl) (by kernel_rfl) (fun _ _ _ h => h) rfl ?_ hHeld ?_
    rotate_left
    · (intro wq hSq; have q1 := (World.cell?_of_block (w := W) (a := ⟨b, 1, none⟩) hSq).trans d1; have q2 := (World.cell?_of_block (w := W) (a := ⟨b, 2, none⟩) hSq).trans d2; have q3 := (World.cell?_of_block (w := W) (a := ⟨b, 3, none⟩) hSq).trans d3; go_simp <;> first | with_reducible rfl | rfl)
    simp only [Act.put, List.setIfInBounds_toArray, List.set_cons_zero, List.set_cons_succ]
    refine take_one (i := 21) rfl (by kernel_rfl) (fun K hK => ?_)
    go_simp
    skip
    try go_wp2_with fail
    refine hK.out _ _ ?_ (fun hHeld => ?_)
    · exact (Below.heap_setCell _ _ _ _ (by simpa using fun e => hgb e.symm)).trans hHeld
    clear hK K
    try simp only [Act.put, List.setIfInBounds_toArray, List.set_cons_zero, List.set_cons_succ]
    refine wpAnyH_done (by kernel_rfl) ?_ _
    go_wp2
    go_ret
    refine ⟨rfl, ⟨G, hGg, HQ.out.keep rfl rfl⟩, HW.out.trans HO.out.drew hGg⟩

end Go.Proofs.Ytomfhbngpikjeab

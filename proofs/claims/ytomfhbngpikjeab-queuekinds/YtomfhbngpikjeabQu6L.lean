/- A queue of lists: Pop, Clear. -/
import Derived.Test.YtomfhbngpikjeabQu5L
namespace Go.Proofs.Ytomfhbngpikjeab
open Go.RowKit

set_option maxRecDepth 100000 in
set_option maxHeartbeats 400000 in
theorem popL_nil (b g most : Nat) (w : World) (h : QuL w b g most []) :
    Calls Try.prog 14 #[.pointer (some ⟨b, 0, none⟩)] w fun e w' => e = .returned (.tuple #[.slice none 0 0, .bool false]) ∧ w' = w := by
  have hl := firstL_nil b g most w h
  clear h
  go_enter Try.func14, Try.ntmps14
  go_wp2_with fail
  refine hl.mono ?_
  rintro e w1 ⟨rfl, hq⟩
  have hq2 := hq.symm
  subst hq2
  clear hq hl
  go_wp2
  refine bodyPost_ret (v := .tuple #[.slice none 0 0, .bool false]) (by simp [results, Try.results14, go_sem]) rfl ?_
  exact ⟨rfl, rfl⟩
set_option maxRecDepth 100000 in
set_option maxHeartbeats 400000 in
theorem popL_none (w : World) :
    Calls Try.prog 14 #[.pointer none] w fun e w' => e = .returned (.tuple #[.slice none 0 0, .bool false]) ∧ w' = w := by
  have hl := firstL_none w
  go_enter Try.func14, Try.ntmps14
  go_wp2_with fail
  refine hl.mono ?_
  rintro e w1 ⟨rfl, hq⟩
  have hq2 := hq.symm
  subst hq2
  clear hq hl
  go_wp2
  refine bodyPost_ret (v := .tuple #[.slice none 0 0, .bool false]) (by simp [results, Try.results14, go_sem]) rfl ?_
  exact ⟨rfl, rfl⟩

theorem QrL.took {w w' : World} {b g most R f : Nat} {x : (Option Addr × Nat × Nat)} {xs : List (Option Addr × Nat × Nat)} (h : QrL w b g most R f (x :: xs)) {K : Nat} (hK : K = (f + 1) % R)
    (hw : w' = ((w.setCell ⟨g, f, none⟩ (.slice none 0 0)).setCell ⟨b, 1, none⟩ (.int .i64 (K : Int))).setCell ⟨b, 2, none⟩ (.int .i64 (xs.length : Int))) : QuL w' b g most xs ∧ Only b g w w' := by
  subst hw
  obtain ⟨v, hb, ⟨_, _, h0, _⟩ | ⟨cur, rfl, hgb, hR, hg, hla⟩⟩ := h.blk
  · cases h0
  refine ⟨⟨R, K, ?_, h.room, h.most_le⟩, (((Only.refl _ _ _).setG _ _).setB _ _).setB _ _⟩
  have hb1 := (Below.heap_setCell w ⟨g, f, none⟩ (.slice none 0 0) b (by simpa using fun e => hgb e.symm)).trans hb
  have hb2 := heap_setCell_same _ b 1 _ _ (.int .i64 (K : Int)) hb1
  have hb3 := heap_setCell_same _ b 2 _ _ (.int .i64 (xs.length : Int)) hb2
  have hg1 := heap_setCell_same _ g f _ _ (.slice none 0 0) hg
  refine ⟨_, by rw [hb3]; simp, .inr ⟨cur.set f (.slice none 0 0), rfl, hgb, by simpa using hR, ?_, ?_⟩⟩
  · rw [Below.heap_setCell _ _ _ _ (by simpa using hgb), Below.heap_setCell _ _ _ _ (by simpa using hgb), hg1]
    simp
  · rw [hK, ← hR]
    exact hla.pop _

set_option maxRecDepth 100000 in
set_option maxHeartbeats 1000000 in
theorem popL_cons (b g most : Nat) (x : (Option Addr × Nat × Nat)) (xs : List (Option Addr × Nat × Nat)) (w : World) (h : QuL w b g most (x :: xs)) :
    Calls Try.prog 14 #[.pointer (some ⟨b, 0, none⟩)] w fun e w' => e = .returned (.tuple #[.slice x.1 x.2.1 x.2.2, .bool true]) ∧ QuL w' b g most xs ∧ Only b g w w' := by
  have hfi := firstL_cons b g most x xs w h
  obtain ⟨R, f, h⟩ := h
  have H := hide_it h
  clear h
  go_enter Try.func14, Try.ntmps14
  go_wp2_with fail
  refine hfi.mono ?_
  rintro e W ⟨rfl, hB⟩
  clear hfi
  have hT : QrL W b g most R f (x :: xs) := H.out.keep (hB.block _ H.out.lt.1) (hB.block _ H.out.lt.2)
  have HW := hide_it (show Only b g w W from Only.of_below hB)
  have HT := hide_it hT
  obtain ⟨v, hb, ⟨_, _, h0, _⟩ | ⟨cur, rfl, hgb, hR, hg, hla⟩⟩ := hT.blk
  · cases h0
  have hf := hla.at_
  obtain ⟨n, hn⟩ : ∃ n, n = xs.length := ⟨_, rfl⟩
  have hMm : R ≤ 65536 := by have := hT.room; have := hT.most_le; omega
  have hxR := hT.len
  simp only [List.length_cons] at hxR hb
  rw [← hn] at hb hxR
  have d1 : W.cell? ⟨b, 1, none⟩ = some (.int .i64 (f : Int)) := cell_of_row _ _ _ _ _ _ hb
  have d2 : W.cell? ⟨b, 2, none⟩ = some (.int .i64 ((n + 1 : Nat) : Int)) := cell_of_row _ _ _ _ _ _ hb
  have d3 : W.cell? ⟨b, 3, none⟩ = some (.slice (some ⟨g, 0, none⟩) R R) := cell_of_row _ _ _ _ _ _ hb
  obtain ⟨u, cK⟩ : ∃ u, W.cell? ⟨g, f, none⟩ = some u := by
    rw [cell_of_row _ _ _ _ _ _ hg]
    exact ⟨_, List.getElem?_toArray.trans (List.getElem?_eq_getElem (by omega))⟩
  have fK := frozen_of_row W g f _ _ hg
  have f1 := frozen_of_row W b 1 _ _ hb
  have f2 := frozen_of_row W b 2 _ _ hb
  have hfR : f < R := by omega
  have hfRi : (f : Int) < (R : Int) := by omega
  have hR0 : ¬ R = 0 := by omega
  obtain ⟨K, hK⟩ : ∃ K, K = (f + 1) % R := ⟨_, rfl⟩
  have e1 : IntKind.i64.wrap ((f : Int) + 1) = (f : Int) + 1 := i64_in (by omega) (by omega)
  have e2 : ((f : Int) + 1).tmod (R : Int) = (K : Int) := by
    rw [Int.tmod_eq_emod_of_nonneg (by omega), hK]; simp
  have e3 : IntKind.i64.wrap ((n : Int) + 1 - 1) = (n : Int) := by rw [Int.add_sub_cancel]; exact i64_in (by omega) (by omega)
  have e4 : IntKind.i64.wrap (n : Int) = (n : Int) := i64_in (by omega) (by omega)
  obtain ⟨hQ, hO⟩ := hT.took (w' := ((W.setCell ⟨g, f, none⟩ (.slice none 0 0)).setCell ⟨b, 1, none⟩ (.int .i64 (K : Int))).setCell ⟨b, 2, none⟩ (.int .i64 (n : Int))) hK (by rw [hn])
  have HQ := hide_it hQ
  have HO := hide_it hO
  have HGB := hide_it hgb
  clear hT hb hg hla hK hn hQ hO hf hR hB
  go_wp2_with fail
  refine wp_region_held_drew (S := (fun w' => w'.heap[b]? = W.heap[b]?)) (by kernel_rfl) ?_ (fun hHeld => ?_)
  · rfl
  refine take_on (i := 0) (v := ?_) rfl rfl (by kernel_rfl) (by kernel_rfl) (by kernel_rfl) (fun _ _ _ h => h) rfl ?_ hHeld ?_
  rotate_left
  · (intro wq hSq; have q1 := (World.cell?_of_block (w := W) (a := ⟨b, 1, none⟩) hSq).trans d1; have q2 := (World.cell?_of_block (w := W) (a := ⟨b, 2, none⟩) hSq).trans d2; have q3 := (World.cell?_of_block (w := W) (a := ⟨b, 3, none⟩) hSq).trans d3; go_simp <;> first | with_reducible rfl | rfl)
  simp only [Act.put, List.setIfInBounds_toArray, List.set_cons_zero, List.set_cons_succ]
  refine take_on (i := 1) (v := ?_) rfl rfl (by kernel_rfl) (by kernel_rfl) (by kernel_rfl) (fun _ _ _ h => h) rfl ?_ hHeld ?_
  rotate_left
  · (intro wq hSq; have q1 := (World.cell?_of_block (w := W) (a := ⟨b, 1, none⟩) hSq).trans d1; have q2 := (World.cell?_of_block (w := W) (a := ⟨b, 2, none⟩) hSq).trans d2; have q3 := (World.cell?_of_block (w := W) (a := ⟨b, 3, none⟩) hSq).trans d3; go_simp <;> first | with_reducible rfl | rfl)
  simp only [Act.put, List.setIfInBounds_toArray, List.set_cons_zero, List.set_cons_succ]
  refine take_on (i := 2) (v := ?_) rfl rfl (by kernel_rfl) (by kernel_rfl) (by kernel_rfl) (fun _ _ _ h => h) rfl ?_ hHeld ?_
  rotate_left
  · (intro wq hSq; have q1 := (World.cell?_of_block (w := W) (a := ⟨b, 1, none⟩) hSq).trans d1; have q2 := (World.cell?_of_block (w := W) (a := ⟨b, 2, none⟩) hSq).trans d2; have q3 := (World.cell?_of_block (w := W) (a := ⟨b, 3, none⟩) hSq).trans d3; go_simp <;> first | with_reducible rfl | rfl)
  simp only [Act.put, List.setIfInBounds_toArray, List.set_cons_zero, List.set_cons_succ]
  refine take_on (i := 3) (v := ?_) rfl rfl (by kernel_rfl) (by kernel_rfl) (by kernel_rfl) (fun _ _ _ h => h) rfl ?_ hHeld ?_
  rotate_left
  · (intro wq hSq; have q1 := (World.cell?_of_block (w := W) (a := ⟨b, 1, none⟩) hSq).trans d1; have q2 := (World.cell?_of_block (w := W) (a := ⟨b, 2, none⟩) hSq).trans d2; have q3 := (World.cell?_of_block (w := W) (a := ⟨b, 3, none⟩) hSq).trans d3; go_simp <;> first | with_reducible rfl | rfl)
  simp only [Act.put, List.setIfInBounds_toArray, List.set_cons_zero, List.set_cons_succ]
  refine take_on (i := 4) (v := ?_) rfl rfl (by kernel_rfl) (by kernel_rfl) (by kernel_rfl) (fun _ _ _ h => h) rfl ?_ hHeld ?_
  rotate_left
  · (intro wq hSq; have q1 := (World.cell?_of_block (w := W) (a := ⟨b, 1, none⟩) hSq).trans d1; have q2 := (World.cell?_of_block (w := W) (a := ⟨b, 2, none⟩) hSq).trans d2; have q3 := (World.cell?_of_block (w := W) (a := ⟨b, 3, none⟩) hSq).trans d3; go_simp <;> first | with_reducible rfl | rfl)
  simp only [Act.put, List.setIfInBounds_toArray, List.set_cons_zero, List.set_cons_succ]
  refine take_on (i := 5) (v := ?_) rfl rfl (by kernel_rfl) (by kernel_rfl) (by kernel_rfl) (fun _ _ _ h => h) rfl ?_ hHeld ?_
  rotate_left
  · (intro wq hSq; have q1 := (World.cell?_of_block (w := W) (a := ⟨b, 1, none⟩) hSq).trans d1; have q2 := (World.cell?_of_block (w := W) (a := ⟨b, 2, none⟩) hSq).trans d2; have q3 := (World.cell?_of_block (w := W) (a := ⟨b, 3, none⟩) hSq).trans d3; go_simp <;> first | with_reducible rfl | rfl)
  simp only [Act.put, List.setIfInBounds_toArray, List.set_cons_zero, List.set_cons_succ]
  refine take_on (i := 6) (v := ?_) rfl rfl (by kernel_rfl) (by kernel_rfl) (by kernel_rfl) (fun _ _ _ h => h) rfl ?_ hHeld ?_
  rotate_left
  · (intro wq hSq; have q1 := (World.cell?_of_block (w := W) (a := ⟨b, 1, none⟩) hSq).trans d1; have q2 := (World.cell?_of_block (w := W) (a := ⟨b, 2, none⟩) hSq).trans d2; have q3 := (World.cell?_of_block (w := W) (a := ⟨b, 3, none⟩) hSq).trans d3; go_simp <;> first | with_reducible rfl | rfl)
  simp only [Act.put, List.setIfInBounds_toArray, List.set_cons_zero, List.set_cons_succ]
  refine take_on (i := 7) (v := ?_) rfl rfl (by kernel_rfl) (by kernel_rfl) (by kernel_rfl) (fun _ _ _ h => h) rfl ?_ hHeld ?_
  rotate_left
  · (intro wq hSq; have q1 := (World.cell?_of_block (w := W) (a := ⟨b, 1, none⟩) hSq).trans d1; have q2 := (World.cell?_of_block (w := W) (a := ⟨b, 2, none⟩) hSq).trans d2; have q3 := (World.cell?_of_block (w := W) (a := ⟨b, 3, none⟩) hSq).trans d3; go_simp <;> first | with_reducible rfl | rfl)
  simp only [Act.put, List.setIfInBounds_toArray, List.set_cons_zero, List.set_cons_succ]
  refine take_on (i := 8) (v := ?_) rfl rfl (by kernel_rfl) (by kernel_rfl) (by kernel_rfl) (fun _ _ _ h => h) rfl ?_ hHeld ?_
  rotate_left
  · (intro wq hSq; have q1 := (World.cell?_of_block (w := W) (a := ⟨b, 1, none⟩) hSq).trans d1; have q2 := (World.cell?_of_block (w := W) (a := ⟨b, 2, none⟩) hSq).trans d2; have q3 := (World.cell?_of_block (w := W) (a := ⟨b, 3, none⟩) hSq).trans d3; go_simp <;> first | with_reducible rfl | rfl)
  simp only [Act.put, List.setIfInBounds_toArray, List.set_cons_zero, List.set_cons_succ]
  refine take_on (i := 9) (v := ?_) rfl rfl (by kernel_rfl) (by kernel_rfl) (by kernel_rfl) (fun _ _ _ h => h) rfl ?_ hHeld ?_
  rotate_left
  · (intro wq hSq; have q1 := (World.cell?_of_block (w := W) (a := ⟨b, 1, none⟩) hSq).trans d1; have q2 := (World.cell?_of_block (w := W) (a := ⟨b, 2, none⟩) hSq).trans d2; have q3 := (World.cell?_of_block (w := W) (a := ⟨b, 3, none⟩) hSq).trans d3; go_simp <;> first | with_reducible rfl | rfl)
  simp only [Act.put, List.setIfInBounds_toArray, List.set_cons_zero, List.set_cons_succ]
  refine take_one (i := 10) rfl (by kernel_rfl) (fun K hK => ?_)
  go_simp
  skip
  try go_wp2_with fail
  refine hK.out _ _ ?_ (fun hHeld => ?_)
  · exact (Below.heap_setCell _ _ _ _ (by simpa using fun e => HGB.out e.symm)).trans hHeld
  clear hK K
  try simp only [Act.put, List.setIfInBounds_toArray, List.set_cons_zero, List.set_cons_succ]
  refine wpAnyH_done (by kernel_rfl) ?_ _
  go_wp2_with fail
  obtain ⟨W2, hW2⟩ : ∃ W2, W2 = (W.setCell ⟨g, f, none⟩ (.slice none 0 0)).drew := ⟨_, rfl⟩
  rw [← hW2]
  have hb2 : W2.heap[b]? = W.heap[b]? := by rw [hW2]; exact Below.heap_setCell W ⟨g, f, none⟩ _ b (by simpa using fun e => hgb e.symm)
  have g1 := (World.cell?_of_block (w := W) (a := ⟨b, 1, none⟩) hb2).trans d1
  have g2 := (World.cell?_of_block (w := W) (a := ⟨b, 2, none⟩) hb2).trans d2
  have g3 := (World.cell?_of_block (w := W) (a := ⟨b, 3, none⟩) hb2).trans d3
  have k1 := (World.frozen?_of_block (w := W) (a := ⟨b, 1, none⟩) hb2).trans f1
  have k2 := (World.frozen?_of_block (w := W) (a := ⟨b, 2, none⟩) hb2).trans f2
  have HW2 := hide_it hW2
  clear d1 d2 d3 f1 f2 fK cK hb2 hW2 HT H
  refine wp_region_held_drew (S := (fun _ => True)) (by kernel_rfl) ?_ (fun hHeld => ?_)
  · trivial
  refine take_on (i := 0) (v := ?_) rfl rfl (by kernel_rfl) (by kernel_rfl) (by kernel_rfl) (fun _ _ _ h => h) rfl ?_ hHeld ?_
  rotate_left
  · (intro wq hSq; skip; go_simp <;> first | with_reducible rfl | rfl)
  simp only [Act.put, List.setIfInBounds_toArray, List.set_cons_zero, List.set_cons_succ]
  refine take_on (i := 1) (v := ?_) rfl rfl (by kernel_rfl) (by kernel_rfl) (by kernel_rfl) (fun _ _ _ h => h) rfl ?_ hHeld ?_
  rotate_left
  · (intro wq hSq; skip; go_simp <;> first | with_reducible rfl | rfl)
  simp only [Act.put, List.setIfInBounds_toArray, List.set_cons_zero, List.set_cons_succ]
  refine take_on (i := 2) (v := ?_) rfl rfl (by kernel_rfl) (by kernel_rfl) (by kernel_rfl) (fun _ _ _ h => h) rfl ?_ hHeld ?_
  rotate_left
  · (intro wq hSq; skip; go_simp <;> first | with_reducible rfl | rfl)
  simp only [Act.put, List.setIfInBounds_toArray, List.set_cons_zero, List.set_cons_succ]
  refine take_on (i := 3) (v := ?_) rfl rfl (by kernel_rfl) (by kernel_rfl) (by kernel_rfl) (fun _ _ _ h => h) rfl ?_ hHeld ?_
  rotate_left
  · (intro wq hSq; skip; go_simp <;> first | with_reducible rfl | rfl)
  simp only [Act.put, List.setIfInBounds_toArray, List.set_cons_zero, List.set_cons_succ]
  refine take_on (i := 6) (v := ?_) rfl rfl (by kernel_rfl) (by kernel_rfl) (by kernel_rfl) (fun _ _ _ h => h) rfl ?_ hHeld ?_
  rotate_left
  · (intro wq hSq; skip; go_simp <;> first | with_reducible rfl | rfl)
  simp only [Act.put, List.setIfInBounds_toArray, List.set_cons_zero, List.set_cons_succ]
  refine take_on (i := 7) (v := ?_) rfl rfl (by kernel_rfl) (by kernel_rfl) (by kernel_rfl) (fun _ _ _ h => h) rfl ?_ hHeld ?_
  rotate_left
  · (intro wq hSq; skip; go_simp <;> first | with_reducible rfl | rfl)
  simp only [Act.put, List.setIfInBounds_toArray, List.set_cons_zero, List.set_cons_succ]
  refine take_on (i := 8) (v := ?_) rfl rfl (by kernel_rfl) (by kernel_rfl) (by kernel_rfl) (fun _ _ _ h => h) rfl ?_ hHeld ?_
  rotate_left
  · (intro wq hSq; skip; go_simp <;> first | with_reducible rfl | rfl)
  simp only [Act.put, List.setIfInBounds_toArray, List.set_cons_zero, List.set_cons_succ]
  refine take_two (i := 4) (j := 9) rfl rfl (by kernel_rfl) (fun K hK => ?_) (fun K hK => ?_)
  · go_simp
    skip
    try go_wp2_with fail
    refine hK.out _ _ ?_ (fun hHeld => ?_)
    · trivial
    clear hK K
    try simp only [Act.put, List.setIfInBounds_toArray, List.set_cons_zero, List.set_cons_succ]
    refine take_on (i := 5) (v := ?_) rfl rfl (by kernel_rfl) (by kernel_rfl) (by kernel_rfl) (fun _ _ _ h => h) rfl ?_ hHeld ?_
    rotate_left
    · (intro wq hSq; skip; go_simp <;> first | with_reducible rfl | rfl)
    simp only [Act.put, List.setIfInBounds_toArray, List.set_cons_zero, List.set_cons_succ]
    refine take_one (i := 9) rfl (by kernel_rfl) (fun K hK => ?_)
    go_simp
    skip
    try go_wp2_with fail
    refine hK.out _ _ ?_ (fun hHeld => ?_)
    · trivial
    clear hK K
    try simp only [Act.put, List.setIfInBounds_toArray, List.set_cons_zero, List.set_cons_succ]
    refine take_on (i := 10) (v := ?_) rfl rfl (by kernel_rfl) (by kernel_rfl) (by kernel_rfl) (fun _ _ _ h => h) rfl ?_ hHeld ?_
    rotate_left
    · (intro wq hSq; skip; go_simp <;> first | with_reducible rfl | rfl)
    simp only [Act.put, List.setIfInBounds_toArray, List.set_cons_zero, List.set_cons_succ]
    refine take_on (i := 11) (v := ?_) rfl rfl (by kernel_rfl) (by kernel_rfl) (by kernel_rfl) (fun _ _ _ h => h) rfl ?_ hHeld ?_
    rotate_left
    · (intro wq hSq; skip; go_simp <;> first | with_reducible rfl | rfl)
    simp only [Act.put, List.setIfInBounds_toArray, List.set_cons_zero, List.set_cons_succ]
    refine take_on (i := 12) (v := ?_) rfl rfl (by kernel_rfl) (by kernel_rfl) (by kernel_rfl) (fun _ _ _ h => h) rfl ?_ hHeld ?_
    rotate_left
    · (intro wq hSq; skip; go_simp <;> first | with_reducible rfl | rfl)
    simp only [Act.put, List.setIfInBounds_toArray, List.set_cons_zero, List.set_cons_succ]
    refine take_on (i := 13) (v := ?_) rfl rfl (by kernel_rfl) (by kernel_rfl) (by kernel_rfl) (fun _ _ _ h => h) rfl ?_ hHeld ?_
    rotate_left
    · (intro wq hSq; skip; go_simp <;> first | with_reducible rfl | rfl)
    simp only [Act.put, List.setIfInBounds_toArray, List.set_cons_zero, List.set_cons_succ]
    refine take_one (i := 14) rfl (by kernel_rfl) (fun K hK => ?_)
    go_simp
    skip
    try go_wp2_with fail
    refine hK.out _ _ ?_ (fun hHeld => ?_)
    · trivial
    clear hK K
    try simp only [Act.put, List.setIfInBounds_toArray, List.set_cons_zero, List.set_cons_succ]
    refine wpAnyH_done (by kernel_rfl) ?_ _
    go_wp2
    refine bodyPost_ret (v := .tuple #[.slice x.1 x.2.1 x.2.2, .bool true]) (by simp [results, Try.results14, go_sem]) rfl ?_
    rw [HW2.out]
    exact ⟨rfl, HQ.out.keep rfl rfl, HW.out.trans (show Only b g W _ from ⟨HO.out.os, HO.out.tape, HO.out.output, HO.out.size, HO.out.block⟩) (.inl rfl)⟩
  · go_simp
    skip
    try go_wp2_with fail
    refine hK.out _ _ ?_ (fun hHeld => ?_)
    · trivial
    clear hK K
    try simp only [Act.put, List.setIfInBounds_toArray, List.set_cons_zero, List.set_cons_succ]
    refine take_on (i := 10) (v := ?_) rfl rfl (by kernel_rfl) (by kernel_rfl) (by kernel_rfl) (fun _ _ _ h => h) rfl ?_ hHeld ?_
    rotate_left
    · (intro wq hSq; skip; go_simp <;> first | with_reducible rfl | rfl)
    simp only [Act.put, List.setIfInBounds_toArray, List.set_cons_zero, List.set_cons_succ]
    refine take_one (i := 4) rfl (by kernel_rfl) (fun K hK => ?_)
    go_simp
    skip
    try go_wp2_with fail
    refine hK.out _ _ ?_ (fun hHeld => ?_)
    · trivial
    clear hK K
    try simp only [Act.put, List.setIfInBounds_toArray, List.set_cons_zero, List.set_cons_succ]
    refine take_on (i := 5) (v := ?_) rfl rfl (by kernel_rfl) (by kernel_rfl) (by kernel_rfl) (fun _ _ _ h => h) rfl ?_ hHeld ?_
    rotate_left
    · (intro wq hSq; skip; go_simp <;> first | with_reducible rfl | rfl)
    simp only [Act.put, List.setIfInBounds_toArray, List.set_cons_zero, List.set_cons_succ]
    refine take_on (i := 11) (v := ?_) rfl rfl (by kernel_rfl) (by kernel_rfl) (by kernel_rfl) (fun _ _ _ h => h) rfl ?_ hHeld ?_
    rotate_left
    · (intro wq hSq; skip; go_simp <;> first | with_reducible rfl | rfl)
    simp only [Act.put, List.setIfInBounds_toArray, List.set_cons_zero, List.set_cons_succ]
    refine take_on (i := 12) (v := ?_) rfl rfl (by kernel_rfl) (by kernel_rfl) (by kernel_rfl) (fun _ _ _ h => h) rfl ?_ hHeld ?_
    rotate_left
    · (intro wq hSq; skip; go_simp <;> first | with_reducible rfl | rfl)
    simp only [Act.put, List.setIfInBounds_toArray, List.set_cons_zero, List.set_cons_succ]
    refine take_on (i := 13) (v := ?_) rfl rfl (by kernel_rfl) (by kernel_rfl) (by kernel_rfl) (fun _ _ _ h => h) rfl ?_ hHeld ?_
    rotate_left
    · (intro wq hSq; skip; go_simp <;> first | with_reducible rfl | rfl)
    simp only [Act.put, List.setIfInBounds_toArray, List.set_cons_zero, List.set_cons_succ]
    refine take_one (i := 14) rfl (by kernel_rfl) (fun K hK => ?_)
    go_simp
    skip
    try go_wp2_with fail
    refine hK.out _ _ ?_ (fun hHeld => ?_)
    · trivial
    clear hK K
    try simp only [Act.put, List.setIfInBounds_toArray, List.set_cons_zero, List.set_cons_succ]
    refine wpAnyH_done (by kernel_rfl) ?_ _
    go_wp2
    refine bodyPost_ret (v := .tuple #[.slice x.1 x.2.1 x.2.2, .bool true]) (by simp [results, Try.results14, go_sem]) rfl ?_
    rw [HW2.out]
    exact ⟨rfl, HQ.out.keep rfl rfl, HW.out.trans (show Only b g W _ from ⟨HO.out.os, HO.out.tape, HO.out.output, HO.out.size, HO.out.block⟩) (.inl rfl)⟩


end Go.Proofs.Ytomfhbngpikjeab

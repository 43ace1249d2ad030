/- A queue of pairs: Pop. -/
import Derived.Test.YtomfhbngpikjeabQp5
namespace Go.Proofs.Ytomfhbngpikjeab
open Go.RowKit

theorem PairB.far {w : World} {g c : Nat} {p : Int × Bool} (h : PairB w g p) (hc : g ≠ c) (j : Nat) (u : Value) : PairB (w.setCell ⟨c, j, none⟩ u) g p := by
  unfold PairB; rw [Below.heap_setCell _ _ _ _ hc]; exact h
theorem PairB.drew {w : World} {g : Nat} {p : Int × Bool} (h : PairB w g p) : PairB w.drew g p := h

theorem QrP.took {w w' : World} {b g most R f : Nat} {x : Int × Bool} {xs : List (Int × Bool)} (h : QrP w b g most R f (x :: xs)) {K : Nat} (hK : K = (f + 1) % R)
    (hw : w' = (((w.setCell ⟨g, f * 2, none⟩ (.int .i64 0)).setCell ⟨g, f * 2 + 1, none⟩ (.bool false)).setCell ⟨b, 1, none⟩ (.int .i64 (K : Int))).setCell ⟨b, 2, none⟩ (.int .i64 (xs.length : Int))) : QuP w' b g most xs ∧ Only b g w w' := by
  subst hw
  obtain ⟨v, hb, ⟨_, _, h0, _⟩ | ⟨cur, rfl, hgb, hR, hg, hla⟩⟩ := h.blk
  · cases h0
  refine ⟨⟨R, K, ?_, h.room, h.most_le⟩, ((((Only.refl _ _ _).setG _ _).setG _ _).setB _ _).setB _ _⟩
  have hb1 := (Below.heap_setCell w ⟨g, f * 2, none⟩ (.int .i64 0) b (by simpa using fun e => hgb e.symm)).trans hb
  have hb1' := (Below.heap_setCell (w.setCell ⟨g, f * 2, none⟩ (.int .i64 0)) ⟨g, f * 2 + 1, none⟩ (.bool false) b (by simpa using fun e => hgb e.symm)).trans hb1
  have hb2 := heap_setCell_same _ b 1 _ _ (.int .i64 (K : Int)) hb1'
  have hb3 := heap_setCell_same _ b 2 _ _ (.int .i64 (xs.length : Int)) hb2
  have hg1 := heap_setCell_same _ g (f * 2) _ _ (.int .i64 0) hg
  have hg2 := heap_setCell_same _ g (f * 2 + 1) _ _ (.bool false) hg1
  refine ⟨_, by rw [hb3]; simp, .inr ⟨cur.set f (0, false), rfl, hgb, by simpa using hR, ?_, ?_⟩⟩
  · rw [Below.heap_setCell _ _ _ _ (by simpa using hgb), Below.heap_setCell _ _ _ _ (by simpa using hgb), hg2, flP_set]
    simp
  · rw [hK, ← hR]
    exact hla.pop _

theorem two_more {w W Y W2 : World} {b g most p i j : Nat} {u v : Value} {xs : List (Int × Bool)} (hQ : QuP Y b g most xs) (hO : Only b g W Y) (hW : Only b g w W) (hp : w.heap.size ≤ p) (nb : ¬ b = p) (ng : ¬ g = p)
    (hV : ((W2.setCell ⟨b, i, none⟩ u).setCell ⟨b, j, none⟩ v).heap = Y.heap ∧ W2.os = W.os ∧ W2.tape = W.tape ∧ W2.output = W.output) (u0 u1 : Value) :
    QuP ((((W2.setCell ⟨b, i, none⟩ u).setCell ⟨b, j, none⟩ v).setCell ⟨p, 0, none⟩ u0).setCell ⟨p, 1, none⟩ u1).drew b g most xs ∧ Only b g w ((((W2.setCell ⟨b, i, none⟩ u).setCell ⟨b, j, none⟩ v).setCell ⟨p, 0, none⟩ u0).setCell ⟨p, 1, none⟩ u1).drew := by
  obtain ⟨h1, h2, h3, h4⟩ := hV
  have hk : ∀ k, ¬ k = p → ((((W2.setCell ⟨b, i, none⟩ u).setCell ⟨b, j, none⟩ v).setCell ⟨p, 0, none⟩ u0).setCell ⟨p, 1, none⟩ u1).heap[k]? = Y.heap[k]? := fun k hk => by
    rw [Below.heap_setCell _ _ _ _ hk, Below.heap_setCell _ _ _ _ hk, h1]
  refine ⟨hQ.keep (hk b nb) (hk g ng), ?_⟩
  have hO2 : Only b g W ((W2.setCell ⟨b, i, none⟩ u).setCell ⟨b, j, none⟩ v) := ⟨h2, h3, h4, by rw [h1]; exact hO.size, fun k a1 a2 a3 => by rw [h1]; exact hO.block k a1 a2 a3⟩
  exact (((hW.trans hO2 (.inl rfl)).setN hp _ _).setN hp _ _).drew

set_option maxRecDepth 100000 in
set_option maxHeartbeats 2000000 in
theorem popP_cons (b g most : Nat) (x : Int × Bool) (xs : List (Int × Bool)) (w : World) (h : QuP w b g most (x :: xs)) :
    Calls Try.prog 12 #[.pointer (some ⟨b, 0, none⟩)] w fun e w' => e = .returned (.tuple #[valP x, .bool true]) ∧ QuP w' b g most xs ∧ Only b g w w' := by
  obtain ⟨w1, hw1⟩ : ∃ w1, w1 = w.alloc (.cells #[.int .i64 0, .bool false] 28) := ⟨_, rfl⟩
  have hB1 : Below w.heap.size w w1 := by rw [hw1]; exact (Below.refl _ _).alloc (Nat.le_refl _) _
  have hN1 : PairB w1 w.heap.size (0, false) := by rw [hw1]; exact PairB.new w (0, false)
  have hs1 : w.heap.size < w1.heap.size := by rw [hw1]; simp
  have hfi := firstP_cons b g most x xs w1 (h.below hB1)
  obtain ⟨hbl, hgl⟩ := h.lt
  obtain ⟨R, f, h⟩ := h
  have H := hide_it h
  have HB1 := hide_it hB1
  have HN1 := hide_it hN1
  clear h hB1 hN1
  go_enter Try.func12, Try.ntmps12
  go_wp2_with fail
  rw [← hw1]
  clear hw1
  refine hfi.mono ?_
  rintro e W1 ⟨rfl, hB2⟩
  clear hfi
  have HB2 := hide_it (HB1.out.trans (hB2.mono HB1.out.size))
  have HN2 := hide_it (HN1.out.below hB2 hs1)
  have hs2 : w.heap.size < W1.heap.size := Nat.lt_of_lt_of_le hs1 hB2.size
  clear hB2 HB1 HN1
  go_wp2_with fail
  obtain ⟨W, hW⟩ : ∃ W, W = (W1.alloc (.cells #[.int .i64 x.1, .bool x.2] 28)).alloc (.cells #[.int .i64 0, .bool false] 28) := ⟨_, rfl⟩
  rw [← hW]
  have hBW : Below W1.heap.size W1 W := by rw [hW]; exact ((Below.refl _ _).alloc (Nat.le_refl _) _).alloc (by simp) _
  have hN4 : PairB W W1.heap.size x := by rw [hW]; exact (PairB.new W1 x).below ((Below.refl _ _).alloc (Nat.le_refl _) _) (by simp)
  have hN6 : PairB W (W1.heap.size + 1) (0, false) := by rw [hW]; exact heap_alloc2_new W1 _ _
  have hN2 := HN2.out.below hBW hs2
  have hB := HB2.out.trans (hBW.mono HB2.out.size)
  clear hW hBW HN2 HB2
  have hT : QrP W b g most R f (x :: xs) := H.out.keep (hB.block _ H.out.lt.1) (hB.block _ H.out.lt.2)
  have HW := hide_it (show Only b g w W from Only.of_below hB)
  have HT := hide_it hT
  obtain ⟨v, hb, ⟨_, _, h0, _⟩ | ⟨cur, rfl, hgb, hR, hg, hla⟩⟩ := hT.blk
  · cases h0
  have hf := hla.at_
  obtain ⟨n, hn⟩ : ∃ n, n = xs.length := ⟨_, rfl⟩
  have hMm : R ≤ 65536 := by have := hT.room; have := hT.most_le; omega
  have hxR := hT.len
  simp only [List.length_cons] at hxR hb
  rw [← hn] at hb hxR
  have d1 : W.cell? ⟨b, 1, none⟩ = some (.int .i64 (f : Int)) := cell_of_row _ _ _ _ _ _ hb
  have d2 : W.cell? ⟨b, 2, none⟩ = some (.int .i64 ((n + 1 : Nat) : Int)) := cell_of_row _ _ _ _ _ _ hb
  have d3 : W.cell? ⟨b, 3, none⟩ = some (.slice (some ⟨g, 0, none⟩) R R) := cell_of_row _ _ _ _ _ _ hb
  obtain ⟨u, cK⟩ : ∃ u, W.cell? ⟨g, f * 2, none⟩ = some u := by
    rw [cell_of_row _ _ _ _ _ _ hg]
    exact ⟨_, List.getElem?_toArray.trans (List.getElem?_eq_getElem (by rw [flP_len]; omega))⟩
  obtain ⟨u', cK'⟩ : ∃ u, W.cell? ⟨g, f * 2 + 1, none⟩ = some u := by
    rw [cell_of_row _ _ _ _ _ _ hg]
    exact ⟨_, List.getElem?_toArray.trans (List.getElem?_eq_getElem (by rw [flP_len]; omega))⟩
  have fK := frozen_of_row W g (f * 2) _ _ hg
  have fK' := frozen_of_row W g (f * 2 + 1) _ _ hg
  have f1 := frozen_of_row W b 1 _ _ hb
  have f2 := frozen_of_row W b 2 _ _ hb
  obtain ⟨y0, y1, _, _⟩ := hN6.cells
  have hfR : f < R := by omega
  have hfRi : (f : Int) < (R : Int) := by omega
  have hR0 : ¬ R = 0 := by omega
  obtain ⟨K, hK⟩ : ∃ K, K = (f + 1) % R := ⟨_, rfl⟩
  have e1 : IntKind.i64.wrap ((f : Int) + 1) = (f : Int) + 1 := i64_in (by omega) (by omega)
  have e2 : ((f : Int) + 1).tmod (R : Int) = (K : Int) := by
    rw [Int.tmod_eq_emod_of_nonneg (by omega), hK]; simp
  have e3 : IntKind.i64.wrap ((n : Int) + 1 - 1) = (n : Int) := by rw [Int.add_sub_cancel]; exact i64_in (by omega) (by omega)
  have e4 : IntKind.i64.wrap (n : Int) = (n : Int) := i64_in (by omega) (by omega)
  obtain ⟨hQ, hO⟩ := hT.took (w' := (((W.setCell ⟨g, f * 2, none⟩ (.int .i64 0)).setCell ⟨g, f * 2 + 1, none⟩ (.bool false)).setCell ⟨b, 1, none⟩ (.int .i64 (K : Int))).setCell ⟨b, 2, none⟩ (.int .i64 (n : Int))) hK (by rw [hn])
  have HQ := hide_it hQ
  have HO := hide_it hO
  have HGB := hide_it hgb
  have HN4 := hide_it hN4
  have HN2 := hide_it hN2
  clear hT hb hg hla hK hn hQ hO hf hR hB hN4 hN6 hN2
  refine wp_region_held_drew (S := (fun w' => w'.heap[b]? = W.heap[b]? ∧ w'.heap[W1.heap.size + 1]? = W.heap[W1.heap.size + 1]?)) (by kernel_rfl) ?_ (fun hHeld => ?_)
  · exact ⟨rfl, rfl⟩
  refine take_on (i := 0) (v := ?_) rfl rfl (by kernel_rfl) (by kernel_rfl) (by kernel_rfl) (fun _ _ _ h => h) rfl ?_ hHeld ?_
  rotate_left
  · (intro wq hSq; have q1 := (World.cell?_of_block (w := W) (a := ⟨b, 1, none⟩) hSq.1).trans d1; have q2 := (World.cell?_of_block (w := W) (a := ⟨b, 2, none⟩) hSq.1).trans d2; have q3 := (World.cell?_of_block (w := W) (a := ⟨b, 3, none⟩) hSq.1).trans d3; have q4 := (World.cell?_of_block (w := W) (a := ⟨W1.heap.size + 1, 0, none⟩) hSq.2).trans y0; have q5 := (World.cell?_of_block (w := W) (a := ⟨W1.heap.size + 1, 1, none⟩) hSq.2).trans y1; go_simp <;> first | with_reducible rfl | rfl)
  simp only [Act.put, List.setIfInBounds_toArray, List.set_cons_zero, List.set_cons_succ]
  refine take_on (i := 1) (v := ?_) rfl rfl (by kernel_rfl) (by kernel_rfl) (by kernel_rfl) (fun _ _ _ h => h) rfl ?_ hHeld ?_
  rotate_left
  · (intro wq hSq; have q1 := (World.cell?_of_block (w := W) (a := ⟨b, 1, none⟩) hSq.1).trans d1; have q2 := (World.cell?_of_block (w := W) (a := ⟨b, 2, none⟩) hSq.1).trans d2; have q3 := (World.cell?_of_block (w := W) (a := ⟨b, 3, none⟩) hSq.1).trans d3; have q4 := (World.cell?_of_block (w := W) (a := ⟨W1.heap.size + 1, 0, none⟩) hSq.2).trans y0; have q5 := (World.cell?_of_block (w := W) (a := ⟨W1.heap.size + 1, 1, none⟩) hSq.2).trans y1; go_simp <;> first | with_reducible rfl | rfl)
  simp only [Act.put, List.setIfInBounds_toArray, List.set_cons_zero, List.set_cons_succ]
  refine take_on (i := 2) (v := ?_) rfl rfl (by kernel_rfl) (by kernel_rfl) (by kernel_rfl) (fun _ _ _ h => h) rfl ?_ hHeld ?_
  rotate_left
  · (intro wq hSq; have q1 := (World.cell?_of_block (w := W) (a := ⟨b, 1, none⟩) hSq.1).trans d1; have q2 := (World.cell?_of_block (w := W) (a := ⟨b, 2, none⟩) hSq.1).trans d2; have q3 := (World.cell?_of_block (w := W) (a := ⟨b, 3, none⟩) hSq.1).trans d3; have q4 := (World.cell?_of_block (w := W) (a := ⟨W1.heap.size + 1, 0, none⟩) hSq.2).trans y0; have q5 := (World.cell?_of_block (w := W) (a := ⟨W1.heap.size + 1, 1, none⟩) hSq.2).trans y1; go_simp <;> first | with_reducible rfl | rfl)
  simp only [Act.put, List.setIfInBounds_toArray, List.set_cons_zero, List.set_cons_succ]
  refine take_on (i := 3) (v := ?_) rfl rfl (by kernel_rfl) (by kernel_rfl) (by kernel_rfl) (fun _ _ _ h => h) rfl ?_ hHeld ?_
  rotate_left
  · (intro wq hSq; have q1 := (World.cell?_of_block (w := W) (a := ⟨b, 1, none⟩) hSq.1).trans d1; have q2 := (World.cell?_of_block (w := W) (a := ⟨b, 2, none⟩) hSq.1).trans d2; have q3 := (World.cell?_of_block (w := W) (a := ⟨b, 3, none⟩) hSq.1).trans d3; have q4 := (World.cell?_of_block (w := W) (a := ⟨W1.heap.size + 1, 0, none⟩) hSq.2).trans y0; have q5 := (World.cell?_of_block (w := W) (a := ⟨W1.heap.size + 1, 1, none⟩) hSq.2).trans y1; go_simp <;> first | with_reducible rfl | rfl)
  simp only [Act.put, List.setIfInBounds_toArray, List.set_cons_zero, List.set_cons_succ]
  refine take_on (i := 4) (v := ?_) rfl rfl (by kernel_rfl) (by kernel_rfl) (by kernel_rfl) (fun _ _ _ h => h) rfl ?_ hHeld ?_
  rotate_left
  · (intro wq hSq; have q1 := (World.cell?_of_block (w := W) (a := ⟨b, 1, none⟩) hSq.1).trans d1; have q2 := (World.cell?_of_block (w := W) (a := ⟨b, 2, none⟩) hSq.1).trans d2; have q3 := (World.cell?_of_block (w := W) (a := ⟨b, 3, none⟩) hSq.1).trans d3; have q4 := (World.cell?_of_block (w := W) (a := ⟨W1.heap.size + 1, 0, none⟩) hSq.2).trans y0; have q5 := (World.cell?_of_block (w := W) (a := ⟨W1.heap.size + 1, 1, none⟩) hSq.2).trans y1; go_simp <;> first | with_reducible rfl | rfl)
  simp only [Act.put, List.setIfInBounds_toArray, List.set_cons_zero, List.set_cons_succ]
  refine take_on (i := 5) (v := ?_) rfl rfl (by kernel_rfl) (by kernel_rfl) (by kernel_rfl) (fun _ _ _ h => h) rfl ?_ hHeld ?_
  rotate_left
  · (intro wq hSq; have q1 := (World.cell?_of_block (w := W) (a := ⟨b, 1, none⟩) hSq.1).trans d1; have q2 := (World.cell?_of_block (w := W) (a := ⟨b, 2, none⟩) hSq.1).trans d2; have q3 := (World.cell?_of_block (w := W) (a := ⟨b, 3, none⟩) hSq.1).trans d3; have q4 := (World.cell?_of_block (w := W) (a := ⟨W1.heap.size + 1, 0, none⟩) hSq.2).trans y0; have q5 := (World.cell?_of_block (w := W) (a := ⟨W1.heap.size + 1, 1, none⟩) hSq.2).trans y1; go_simp <;> first | with_reducible rfl | rfl)
  simp only [Act.put, List.setIfInBounds_toArray, List.set_cons_zero, List.set_cons_succ]
  refine take_on (i := 6) (v := ?_) rfl rfl (by kernel_rfl) (by kernel_rfl) (by kernel_rfl) (fun _ _ _ h => h) rfl ?_ hHeld ?_
  rotate_left
  · (intro wq hSq; have q1 := (World.cell?_of_block (w := W) (a := ⟨b, 1, none⟩) hSq.1).trans d1; have q2 := (World.cell?_of_block (w := W) (a := ⟨b, 2, none⟩) hSq.1).trans d2; have q3 := (World.cell?_of_block (w := W) (a := ⟨b, 3, none⟩) hSq.1).trans d3; have q4 := (World.cell?_of_block (w := W) (a := ⟨W1.heap.size + 1, 0, none⟩) hSq.2).trans y0; have q5 := (World.cell?_of_block (w := W) (a := ⟨W1.heap.size + 1, 1, none⟩) hSq.2).trans y1; go_simp <;> first | with_reducible rfl | rfl)
  simp only [Act.put, List.setIfInBounds_toArray, List.set_cons_zero, List.set_cons_succ]
  refine take_on (i := 7) (v := ?_) rfl rfl (by kernel_rfl) (by kernel_rfl) (by kernel_rfl) (fun _ _ _ h => h) rfl ?_ hHeld ?_
  rotate_left
  · (intro wq hSq; have q1 := (World.cell?_of_block (w := W) (a := ⟨b, 1, none⟩) hSq.1).trans d1; have q2 := (World.cell?_of_block (w := W) (a := ⟨b, 2, none⟩) hSq.1).trans d2; have q3 := (World.cell?_of_block (w := W) (a := ⟨b, 3, none⟩) hSq.1).trans d3; have q4 := (World.cell?_of_block (w := W) (a := ⟨W1.heap.size + 1, 0, none⟩) hSq.2).trans y0; have q5 := (World.cell?_of_block (w := W) (a := ⟨W1.heap.size + 1, 1, none⟩) hSq.2).trans y1; go_simp <;> first | with_reducible rfl | rfl)
  simp only [Act.put, List.setIfInBounds_toArray, List.set_cons_zero, List.set_cons_succ]
  refine take_on (i := 8) (v := ?_) rfl rfl (by kernel_rfl) (by kernel_rfl) (by kernel_rfl) (fun _ _ _ h => h) rfl ?_ hHeld ?_
  rotate_left
  · (intro wq hSq; have q1 := (World.cell?_of_block (w := W) (a := ⟨b, 1, none⟩) hSq.1).trans d1; have q2 := (World.cell?_of_block (w := W) (a := ⟨b, 2, none⟩) hSq.1).trans d2; have q3 := (World.cell?_of_block (w := W) (a := ⟨b, 3, none⟩) hSq.1).trans d3; have q4 := (World.cell?_of_block (w := W) (a := ⟨W1.heap.size + 1, 0, none⟩) hSq.2).trans y0; have q5 := (World.cell?_of_block (w := W) (a := ⟨W1.heap.size + 1, 1, none⟩) hSq.2).trans y1; go_simp <;> first | with_reducible rfl | rfl)
  simp only [Act.put, List.setIfInBounds_toArray, List.set_cons_zero, List.set_cons_succ]
  refine take_on (i := 9) (v := ?_) rfl rfl (by kernel_rfl) (by kernel_rfl) (by kernel_rfl) (fun _ _ _ h => h) rfl ?_ hHeld ?_
  rotate_left
  · (intro wq hSq; have q1 := (World.cell?_of_block (w := W) (a := ⟨b, 1, none⟩) hSq.1).trans d1; have q2 := (World.cell?_of_block (w := W) (a := ⟨b, 2, none⟩) hSq.1).trans d2; have q3 := (World.cell?_of_block (w := W) (a := ⟨b, 3, none⟩) hSq.1).trans d3; have q4 := (World.cell?_of_block (w := W) (a := ⟨W1.heap.size + 1, 0, none⟩) hSq.2).trans y0; have q5 := (World.cell?_of_block (w := W) (a := ⟨W1.heap.size + 1, 1, none⟩) hSq.2).trans y1; go_simp <;> first | with_reducible rfl | rfl)
  simp only [Act.put, List.setIfInBounds_toArray, List.set_cons_zero, List.set_cons_succ]
  refine take_one (i := 10) rfl (by kernel_rfl) (fun K hK => ?_)
  go_simp
  skip
  try go_wp2_with fail
  refine hK.out _ _ ?_ (fun hHeld => ?_)
  · exact ⟨((Below.heap_setCell _ _ _ _ (by simpa using fun e => HGB.out e.symm)).trans (Below.heap_setCell _ _ _ _ (by simpa using fun e => HGB.out e.symm))).trans hHeld.1, ((Below.heap_setCell _ _ _ _ (by simp; omega)).trans (Below.heap_setCell _ _ _ _ (by simp; omega))).trans hHeld.2⟩
  clear hK K
  try simp only [Act.put, List.setIfInBounds_toArray, List.set_cons_zero, List.set_cons_succ]
  refine wpAnyH_done (by kernel_rfl) ?_ _
  go_wp2_with fail
  obtain ⟨W2, hW2⟩ : ∃ W2, W2 = ((W.setCell ⟨g, f * 2, none⟩ (.int .i64 0)).setCell ⟨g, f * 2 + 1, none⟩ (.bool false)).drew := ⟨_, rfl⟩
  rw [← hW2]
  have hb2 : W2.heap[b]? = W.heap[b]? := by rw [hW2]; exact (Below.heap_setCell _ _ _ b (by simpa using fun e => hgb e.symm)).trans (Below.heap_setCell W ⟨g, f * 2, none⟩ _ b (by simpa using fun e => hgb e.symm))
  have g1 := (World.cell?_of_block (w := W) (a := ⟨b, 1, none⟩) hb2).trans d1
  have g2 := (World.cell?_of_block (w := W) (a := ⟨b, 2, none⟩) hb2).trans d2
  have g3 := (World.cell?_of_block (w := W) (a := ⟨b, 3, none⟩) hb2).trans d3
  have k1 := (World.frozen?_of_block (w := W) (a := ⟨b, 1, none⟩) hb2).trans f1
  have k2 := (World.frozen?_of_block (w := W) (a := ⟨b, 2, none⟩) hb2).trans f2
  have hM4 : PairB W2 W1.heap.size x := by rw [hW2]; exact (HN4.out.far (by omega) _ _).far (by omega) _ _
  have hM2 : PairB W2 w.heap.size (0, false) := by rw [hW2]; exact (HN2.out.far (by omega) _ _).far (by omega) _ _
  obtain ⟨j0, j1, _, _⟩ := hM4.cells
  obtain ⟨l0, l1, l2, l3⟩ := hM2.cells
  have HM2 := hide_it hM2
  have HV := hide_it (show ((W2.setCell ⟨b, 1, none⟩ (.int .i64 (K : Int))).setCell ⟨b, 2, none⟩ (.int .i64 (n : Int))).heap = ((((W.setCell ⟨g, f * 2, none⟩ (.int .i64 0)).setCell ⟨g, f * 2 + 1, none⟩ (.bool false)).setCell ⟨b, 1, none⟩ (.int .i64 (K : Int))).setCell ⟨b, 2, none⟩ (.int .i64 (n : Int))).heap ∧ W2.os = W.os ∧ W2.tape = W.tape ∧ W2.output = W.output by rw [hW2]; exact ⟨rfl, rfl, rfl, rfl⟩)
  have n1 : ¬ W1.heap.size = b := by omega
  have n2 : ¬ b = W1.heap.size := by omega
  have n3 : ¬ w.heap.size = b := by omega
  have n4 : ¬ b = w.heap.size := by omega
  have n5 : ¬ g = w.heap.size := by omega
  clear d1 d2 d3 f1 f2 fK cK fK' cK' hb2 hW2 HT H hM4 hM2 y0 y1 HN4 HN2
  refine wp_region_held_drew (S := (fun _ => True)) (by kernel_rfl) ?_ (fun hHeld => ?_)
  · trivial
  refine take_on (i := 0) (v := ?_) rfl rfl (by kernel_rfl) (by kernel_rfl) (by kernel_rfl) (fun _ _ _ h => h) rfl ?_ hHeld ?_
  rotate_left
  · (intro wq hSq; skip; go_simp <;> first | with_reducible rfl | rfl)
  simp only [Act.put, List.setIfInBounds_toArray, List.set_cons_zero, List.set_cons_succ]
  refine take_on (i := 1) (v := ?_) rfl rfl (by kernel_rfl) (by kernel_rfl) (by kernel_rfl) (fun _ _ _ h => h) rfl ?_ hHeld ?_
  rotate_left
  · (intro wq hSq; skip; go_simp <;> first | with_reducible rfl | rfl)
  simp only [Act.put, List.setIfInBounds_toArray, List.set_cons_zero, List.set_cons_succ]
  refine take_on (i := 2) (v := ?_) rfl rfl (by kernel_rfl) (by kernel_rfl) (by kernel_rfl) (fun _ _ _ h => h) rfl ?_ hHeld ?_
  rotate_left
  · (intro wq hSq; skip; go_simp <;> first | with_reducible rfl | rfl)
  simp only [Act.put, List.setIfInBounds_toArray, List.set_cons_zero, List.set_cons_succ]
  refine take_on (i := 3) (v := ?_) rfl rfl (by kernel_rfl) (by kernel_rfl) (by kernel_rfl) (fun _ _ _ h => h) rfl ?_ hHeld ?_
  rotate_left
  · (intro wq hSq; skip; go_simp <;> first | with_reducible rfl | rfl)
  simp only [Act.put, List.setIfInBounds_toArray, List.set_cons_zero, List.set_cons_succ]
  refine take_on (i := 6) (v := ?_) rfl rfl (by kernel_rfl) (by kernel_rfl) (by kernel_rfl) (fun _ _ _ h => h) rfl ?_ hHeld ?_
  rotate_left
  · (intro wq hSq; skip; go_simp <;> first | with_reducible rfl | rfl)
  simp only [Act.put, List.setIfInBounds_toArray, List.set_cons_zero, List.set_cons_succ]
  refine take_on (i := 7) (v := ?_) rfl rfl (by kernel_rfl) (by kernel_rfl) (by kernel_rfl) (fun _ _ _ h => h) rfl ?_ hHeld ?_
  rotate_left
  · (intro wq hSq; skip; go_simp <;> first | with_reducible rfl | rfl)
  simp only [Act.put, List.setIfInBounds_toArray, List.set_cons_zero, List.set_cons_succ]
  refine take_on (i := 8) (v := ?_) rfl rfl (by kernel_rfl) (by kernel_rfl) (by kernel_rfl) (fun _ _ _ h => h) rfl ?_ hHeld ?_
  rotate_left
  · (intro wq hSq; skip; go_simp <;> first | with_reducible rfl | rfl)
  simp only [Act.put, List.setIfInBounds_toArray, List.set_cons_zero, List.set_cons_succ]
  refine take_two (i := 4) (j := 9) rfl rfl (by kernel_rfl) (fun K hK => ?_) (fun K hK => ?_)
  · go_simp
    skip
    try go_wp2_with fail
    refine hK.out _ _ ?_ (fun hHeld => ?_)
    · trivial
    clear hK K
    try simp only [Act.put, List.setIfInBounds_toArray, List.set_cons_zero, List.set_cons_succ]
    refine take_on (i := 5) (v := ?_) rfl rfl (by kernel_rfl) (by kernel_rfl) (by kernel_rfl) (fun _ _ _ h => h) rfl ?_ hHeld ?_
    rotate_left
    · (intro wq hSq; skip; go_simp <;> first | with_reducible rfl | rfl)
    simp only [Act.put, List.setIfInBounds_toArray, List.set_cons_zero, List.set_cons_succ]
    refine take_one (i := 9) rfl (by kernel_rfl) (fun K hK => ?_)
    go_simp
    skip
    try go_wp2_with fail
    refine hK.out _ _ ?_ (fun hHeld => ?_)
    · trivial
    clear hK K
    try simp only [Act.put, List.setIfInBounds_toArray, List.set_cons_zero, List.set_cons_succ]
    refine take_on (i := 10) (v := ?_) rfl rfl (by kernel_rfl) (by kernel_rfl) (by kernel_rfl) (fun _ _ _ h => h) rfl ?_ hHeld ?_
    rotate_left
    · (intro wq hSq; skip; go_simp <;> first | with_reducible rfl | rfl)
    simp only [Act.put, List.setIfInBounds_toArray, List.set_cons_zero, List.set_cons_succ]
    refine take_on (i := 11) (v := ?_) rfl rfl (by kernel_rfl) (by kernel_rfl) (by kernel_rfl) (fun _ _ _ h => h) rfl ?_ hHeld ?_
    rotate_left
    · (intro wq hSq; skip; go_simp <;> first | with_reducible rfl | rfl)
    simp only [Act.put, List.setIfInBounds_toArray, List.set_cons_zero, List.set_cons_succ]
    refine take_on (i := 12) (v := ?_) rfl rfl (by kernel_rfl) (by kernel_rfl) (by kernel_rfl) (fun _ _ _ h => h) rfl ?_ hHeld ?_
    rotate_left
    · (intro wq hSq; skip; go_simp <;> first | with_reducible rfl | rfl)
    simp only [Act.put, List.setIfInBounds_toArray, List.set_cons_zero, List.set_cons_succ]
    refine take_on (i := 13) (v := ?_) rfl rfl (by kernel_rfl) (by kernel_rfl) (by kernel_rfl) (fun _ _ _ h => h) rfl ?_ hHeld ?_
    rotate_left
    · (intro wq hSq; skip; go_simp <;> first | with_reducible rfl | rfl)
    simp only [Act.put, List.setIfInBounds_toArray, List.set_cons_zero, List.set_cons_succ]
    refine take_one (i := 14) rfl (by kernel_rfl) (fun K hK => ?_)
    go_simp
    skip
    try go_wp2_with fail
    refine hK.out _ _ ?_ (fun hHeld => ?_)
    · trivial
    clear hK K
    try simp only [Act.put, List.setIfInBounds_toArray, List.set_cons_zero, List.set_cons_succ]
    refine wpAnyH_done (by kernel_rfl) ?_ _
    go_wp2
    refine bodyPost_ret (ret_pair2 rfl _ _ w.heap.size x _ rfl rfl ((((HM2.out.far n3 _ _).far n3 _ _).all x).drew)) rfl ?_
    obtain ⟨z1, z2⟩ := two_more HQ.out HO.out HW.out (Nat.le_refl _) n4 n5 HV.out (.int .i64 x.1) (.bool x.2)
    exact ⟨rfl, z1, z2⟩
  · go_simp
    skip
    try go_wp2_with fail
    refine hK.out _ _ ?_ (fun hHeld => ?_)
    · trivial
    clear hK K
    try simp only [Act.put, List.setIfInBounds_toArray, List.set_cons_zero, List.set_cons_succ]
    refine take_on (i := 10) (v := ?_) rfl rfl (by kernel_rfl) (by kernel_rfl) (by kernel_rfl) (fun _ _ _ h => h) rfl ?_ hHeld ?_
    rotate_left
    · (intro wq hSq; skip; go_simp <;> first | with_reducible rfl | rfl)
    simp only [Act.put, List.setIfInBounds_toArray, List.set_cons_zero, List.set_cons_succ]
    refine take_one (i := 4) rfl (by kernel_rfl) (fun K hK => ?_)
    go_simp
    skip
    try go_wp2_with fail
    refine hK.out _ _ ?_ (fun hHeld => ?_)
    · trivial
    clear hK K
    try simp only [Act.put, List.setIfInBounds_toArray, List.set_cons_zero, List.set_cons_succ]
    refine take_on (i := 5) (v := ?_) rfl rfl (by kernel_rfl) (by kernel_rfl) (by kernel_rfl) (fun _ _ _ h => h) rfl ?_ hHeld ?_
    rotate_left
    · (intro wq hSq; skip; go_simp <;> first | with_reducible rfl | rfl)
    simp only [Act.put, List.setIfInBounds_toArray, List.set_cons_zero, List.set_cons_succ]
    refine take_on (i := 11) (v := ?_) rfl rfl (by kernel_rfl) (by kernel_rfl) (by kernel_rfl) (fun _ _ _ h => h) rfl ?_ hHeld ?_
    rotate_left
    · (intro wq hSq; skip; go_simp <;> first | with_reducible rfl | rfl)
    simp only [Act.put, List.setIfInBounds_toArray, List.set_cons_zero, List.set_cons_succ]
    refine take_on (i := 12) (v := ?_) rfl rfl (by kernel_rfl) (by kernel_rfl) (by kernel_rfl) (fun _ _ _ h => h) rfl ?_ hHeld ?_
    rotate_left
    · (intro wq hSq; skip; go_simp <;> first | with_reducible rfl | rfl)
    simp only [Act.put, List.setIfInBounds_toArray, List.set_cons_zero, List.set_cons_succ]
    refine take_on (i := 13) (v := ?_) rfl rfl (by kernel_rfl) (by kernel_rfl) (by kernel_rfl) (fun _ _ _ h => h) rfl ?_ hHeld ?_
    rotate_left
    · (intro wq hSq; skip; go_simp <;> first | with_reducible rfl | rfl)
    simp only [Act.put, List.setIfInBounds_toArray, List.set_cons_zero, List.set_cons_succ]
    refine take_one (i := 14) rfl (by kernel_rfl) (fun K hK => ?_)
    go_simp
    skip
    try go_wp2_with fail
    refine hK.out _ _ ?_ (fun hHeld => ?_)
    · trivial
    clear hK K
    try simp only [Act.put, List.setIfInBounds_toArray, List.set_cons_zero, List.set_cons_succ]
    refine wpAnyH_done (by kernel_rfl) ?_ _
    go_wp2
    refine bodyPost_ret (ret_pair2 rfl _ _ w.heap.size x _ rfl rfl ((((HM2.out.far n3 _ _).far n3 _ _).all x).drew)) rfl ?_
    obtain ⟨z1, z2⟩ := two_more HQ.out HO.out HW.out (Nat.le_refl _) n4 n5 HV.out (.int .i64 x.1) (.bool x.2)
    exact ⟨rfl, z1, z2⟩

end Go.Proofs.Ytomfhbngpikjeab

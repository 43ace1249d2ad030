/- That LabelWays answers true of every list of at most 1048576 labels and every two places. -/
import Derived.Test.YthclmkmajlinhaaWy1
import Derived.Test.YthclmkmajlinhaaCv3
import Derived.Test.YthclmkmajlinhaaHg3
import Derived.Test.YthclmkmajlinhaaAwake2
import Derived.Test.YthclmkmajlinhaaOpen
namespace Go.Proofs.Ythclmkmajlinhaa.labelWays
open Go.RowKit

theorem brow_first (w : World) (n i : Nat) : BRow (w.alloc (.cells ((madeCells #[.bool false] n).setIfInBounds i (.bool true)) 4)) w.heap.size n (fun p => if p = i then true else false) := by
  have hs : ((madeCells #[.bool false] n).setIfInBounds i (.bool true)).size = n := by simp [madeCells]
  have h1 := World.rowIs_alloc w ((madeCells #[.bool false] n).setIfInBounds i (.bool true)) 4 (fun p => .bool (if p = i then true else false)) (fun p hp => by
    rw [hs] at hp
    have hmc := (BRow.made w n).cell hp
    rw [cell_of_row _ _ _ _ _ _ (heap_alloc_new w _)] at hmc
    rw [Array.getElem?_setIfInBounds]
    by_cases e : i = p
    · subst e
      have hz : (madeCells #[.bool false] n).size = n := by simp [madeCells]
      rw [if_pos rfl, if_pos (by rw [hz]; exact hp), if_pos rfl]
    · rw [if_neg e, if_neg (fun e2 => e e2.symm)]
      exact hmc)
  rw [hs] at h1
  exact h1
theorem owns_other {w : World} {B T s n p : Nat} {v : Value} {xs : List Value} (h : w.ownsRow B T s v n xs) (hp : p < B) (i : Nat) (u : Value) : (w.setCell ⟨p, i, none⟩ u).ownsRow B T s v n xs := by
  refine ⟨h.1, ?_⟩
  rcases h.2 with h2 | ⟨g, cap, cur, e, h3, hh, h4⟩
  · exact .inl h2
  · exact .inr ⟨g, cap, cur, e, h3, by rw [Below.heap_setCell _ _ _ _ (show g ≠ p by omega)]; exact hh, h4⟩

set_option maxRecDepth 100000 in
set_option maxHeartbeats 8000000 in
theorem inside (N : Nat) (hN : SortsL N) (hbig : 1048576 ≤ N) (M : Nat) (hM : SortsI M) (hbigM : 1048576 ≤ M) (a : Option Addr) (cap : Nat) (zs : List Nat) (i j : Nat) (w : World) (h : Came1 w a cap zs) (hl : zs.length ≤ 1048576) (hi : i < zs.length) (hj : j < zs.length) :
    Calls Try.prog 7 #[.slice a zs.length cap, .int .i64 (i : Int), .int .i64 (j : Int)] w fun e w' => e = .returned (.bool true) ∧ Below w.heap.size w w' := by
  have hmb := run_make_row' (P := Try.prog) 50 4 (.bool false) 1 Try.underlying50 infoBool rfl .i64 .i64 zs.length (by omega) (by omega)
  have hdO : DistinctOk zs := distinct_any N hN zs (by omega) (by omega)
  have hi0 : ¬ (i : Int) < 0 := by omega
  have hj0 : ¬ (j : Int) < 0 := by omega
  have hi1 : (i : Int) < (zs.length : Int) := by omega
  have hj1 : (j : Int) < (zs.length : Int) := by omega
  go_enter Try.func7, Try.ntmps7
  go_wp2_with fail
  refine (awake_any _).mono ?_
  rintro e w1 ⟨rfl, hb1⟩
  have hr1 := h.row.below hb1
  obtain ⟨b, o, rfl, hbb, hcz⟩ := hr1.here hi
  have c1 := hcz i hi
  have c2 := hcz j hj
  have hX := h.all.at i
  have hY := h.all.at j
  have hdn := fun w' (hw : Below w1.heap.size w1 w') => down_any (at0 zs j) (some ⟨b, o, none⟩) cap zs w' hY (hr1.below hw) h.all (by omega)
  have hup := fun w' (hw : Below w1.heap.size w1 w') => up_any (at0 zs i) (some ⟨b, o, none⟩) cap zs w' hX (hr1.below hw) h.all (by omega)
  have hdm := plOf_mem (fun y => lq y (at0 zs j)) zs hi
  have hum := plOf_mem (fun y => lq (at0 zs i) y) zs hj
  have hdl := plOf_len (fun y => lq y (at0 zs j)) zs zs.length
  have hul := plOf_len (fun y => lq (at0 zs i) y) zs zs.length
  have hht := heights_any (some ⟨b, o, none⟩) cap zs
  have hlt := fun hb => hgt_ge (S := zs) (x := at0 zs j) (at0_mem hi) hb
  have hbe : bel (at0 zs i) (at0 zs j) = (decide (at0 zs i ≠ at0 zs j) && lq (at0 zs i) (at0 zs j)) := rfl
  obtain ⟨D, hD⟩ : ∃ D, D = plOf (fun y => lq y (at0 zs j)) zs zs.length := ⟨_, rfl⟩
  obtain ⟨U, hU⟩ : ∃ U, U = plOf (fun y => lq (at0 zs i) y) zs zs.length := ⟨_, rfl⟩
  rw [← hD] at hdm hdl
  rw [← hU] at hum hul
  simp only [← hD] at hdn
  simp only [← hU] at hup
  have hee : decide (i ∈ D) = decide (j ∈ U) := by rw [hdm, hum]
  have HBE := hidden hbe
  have HLT := hidden hlt
  obtain ⟨X, hXe⟩ : ∃ X, X = at0 zs i := ⟨_, rfl⟩
  obtain ⟨Y, hYe⟩ : ∃ Y, Y = at0 zs j := ⟨_, rfl⟩
  have HXE := hidden hXe
  have HYE := hidden hYe
  rw [← hXe] at c1 hX hup HBE
  rw [← hYe] at c2 hY hdn HBE
  have hle := leq_any X Y
  obtain ⟨V, hV⟩ : ∃ V, V = decide (i ∈ D) := ⟨_, rfl⟩
  have hhD : ∀ g c w', RowI w' g D → Calls Try.prog 22 #[.slice g D.length c, .int .i64 (i : Int)] w' fun e w'' => e = .returned (.bool V) ∧ w'' = w' := fun g c w' hr => by
    have := hasI_any g c D i w' hr (by unfold maxLen; omega)
    rwa [← hV] at this
  have hhU : ∀ g c w', RowI w' g U → Calls Try.prog 22 #[.slice g U.length c, .int .i64 (j : Int)] w' fun e w'' => e = .returned (.bool V) ∧ w'' = w' := fun g c w' hr => by
    have := hasI_any g c U j w' hr (by unfold maxLen; omega)
    rwa [← hee, ← hV] at this
  clear hD hU hbe hlt hXe hYe hcz hdm hum hee hV hdl hul
  have hvv : (V != V) = false := by simp
  go_wp2_with fail
  refine wp_region_held_drew (S := (fun w' => Below w1.heap.size w1 w')) (by kernel_rfl) ?_ (fun hHeld => ?_)
  · exact (Below.refl _ _).drew
  refine take_on (i := 0) (v := ?_) rfl rfl (by kernel_rfl) (by kernel_rfl) (by kernel_rfl) (fun _ _ _ h => h) rfl ?_ hHeld ?_
  rotate_left
  · (intro wq hSq; have q1 := (hSq.cell (p := ⟨b, o + i, none⟩) hbb).trans c1; have q2 := (hSq.cell (p := ⟨b, o + j, none⟩) hbb).trans c2; go_simp <;> first | with_reducible rfl | rfl)
  simp only [Act.put, List.setIfInBounds_toArray, List.set_cons_zero, List.set_cons_succ]
  refine take_on (i := 1) (v := ?_) rfl rfl (by kernel_rfl) (by kernel_rfl) (by kernel_rfl) (fun _ _ _ h => h) rfl ?_ hHeld ?_
  rotate_left
  · (intro wq hSq; have q1 := (hSq.cell (p := ⟨b, o + i, none⟩) hbb).trans c1; have q2 := (hSq.cell (p := ⟨b, o + j, none⟩) hbb).trans c2; go_simp <;> first | with_reducible rfl | rfl)
  simp only [Act.put, List.setIfInBounds_toArray, List.set_cons_zero, List.set_cons_succ]
  refine take_on (i := 2) (v := ?_) rfl rfl (by kernel_rfl) (by kernel_rfl) (by kernel_rfl) (fun _ _ _ h => h) rfl ?_ hHeld ?_
  rotate_left
  · (intro wq hSq; have q1 := (hSq.cell (p := ⟨b, o + i, none⟩) hbb).trans c1; have q2 := (hSq.cell (p := ⟨b, o + j, none⟩) hbb).trans c2; go_simp <;> first | with_reducible rfl | rfl)
  simp only [Act.put, List.setIfInBounds_toArray, List.set_cons_zero, List.set_cons_succ]
  refine take_on (i := 3) (v := ?_) rfl rfl (by kernel_rfl) (by kernel_rfl) (by kernel_rfl) (fun _ _ _ h => h) rfl ?_ hHeld ?_
  rotate_left
  · (intro wq hSq; have q1 := (hSq.cell (p := ⟨b, o + i, none⟩) hbb).trans c1; have q2 := (hSq.cell (p := ⟨b, o + j, none⟩) hbb).trans c2; go_simp <;> first | with_reducible rfl | rfl)
  simp only [Act.put, List.setIfInBounds_toArray, List.set_cons_zero, List.set_cons_succ]
  refine take_on (i := 4) (v := ?_) rfl rfl (by kernel_rfl) (by kernel_rfl) (by kernel_rfl) (fun _ _ _ h => h) rfl ?_ hHeld ?_
  rotate_left
  · (intro wq hSq; have q1 := (hSq.cell (p := ⟨b, o + i, none⟩) hbb).trans c1; have q2 := (hSq.cell (p := ⟨b, o + j, none⟩) hbb).trans c2; go_simp <;> first | with_reducible rfl | rfl)
  simp only [Act.put, List.setIfInBounds_toArray, List.set_cons_zero, List.set_cons_succ]
  refine take_on (i := 6) (v := ?_) rfl rfl (by kernel_rfl) (by kernel_rfl) (by kernel_rfl) (fun _ _ _ h => h) rfl ?_ hHeld ?_
  rotate_left
  · (intro wq hSq; have q1 := (hSq.cell (p := ⟨b, o + i, none⟩) hbb).trans c1; have q2 := (hSq.cell (p := ⟨b, o + j, none⟩) hbb).trans c2; go_simp <;> first | with_reducible rfl | rfl)
  simp only [Act.put, List.setIfInBounds_toArray, List.set_cons_zero, List.set_cons_succ]
  refine take_on (i := 8) (v := ?_) rfl rfl (by kernel_rfl) (by kernel_rfl) (by kernel_rfl) (fun _ _ _ h => h) rfl ?_ hHeld ?_
  rotate_left
  · (intro wq hSq; have q1 := (hSq.cell (p := ⟨b, o + i, none⟩) hbb).trans c1; have q2 := (hSq.cell (p := ⟨b, o + j, none⟩) hbb).trans c2; go_simp <;> first | with_reducible rfl | rfl)
  simp only [Act.put, List.setIfInBounds_toArray, List.set_cons_zero, List.set_cons_succ]
  refine take_on (i := 9) (v := ?_) rfl rfl (by kernel_rfl) (by kernel_rfl) (by kernel_rfl) (fun _ _ _ h => h) rfl ?_ hHeld ?_
  rotate_left
  · (intro wq hSq; have q1 := (hSq.cell (p := ⟨b, o + i, none⟩) hbb).trans c1; have q2 := (hSq.cell (p := ⟨b, o + j, none⟩) hbb).trans c2; go_simp <;> first | with_reducible rfl | rfl)
  simp only [Act.put, List.setIfInBounds_toArray, List.set_cons_zero, List.set_cons_succ]
  refine take_on (i := 10) (v := ?_) rfl rfl (by kernel_rfl) (by kernel_rfl) (by kernel_rfl) (fun _ _ _ h => h) rfl ?_ hHeld ?_
  rotate_left
  · (intro wq hSq; have q1 := (hSq.cell (p := ⟨b, o + i, none⟩) hbb).trans c1; have q2 := (hSq.cell (p := ⟨b, o + j, none⟩) hbb).trans c2; go_simp <;> first | with_reducible rfl | rfl)
  simp only [Act.put, List.setIfInBounds_toArray, List.set_cons_zero, List.set_cons_succ]
  refine take_on (i := 11) (v := ?_) rfl rfl (by kernel_rfl) (by kernel_rfl) (by kernel_rfl) (fun _ _ _ h => h) rfl ?_ hHeld ?_
  rotate_left
  · (intro wq hSq; have q1 := (hSq.cell (p := ⟨b, o + i, none⟩) hbb).trans c1; have q2 := (hSq.cell (p := ⟨b, o + j, none⟩) hbb).trans c2; go_simp <;> first | with_reducible rfl | rfl)
  simp only [Act.put, List.setIfInBounds_toArray, List.set_cons_zero, List.set_cons_succ]
  refine take_on (i := 12) (v := ?_) rfl rfl (by kernel_rfl) (by kernel_rfl) (by kernel_rfl) (fun _ _ _ h => h) rfl ?_ hHeld ?_
  rotate_left
  · (intro wq hSq; have q1 := (hSq.cell (p := ⟨b, o + i, none⟩) hbb).trans c1; have q2 := (hSq.cell (p := ⟨b, o + j, none⟩) hbb).trans c2; go_simp <;> first | with_reducible rfl | rfl)
  simp only [Act.put, List.setIfInBounds_toArray, List.set_cons_zero, List.set_cons_succ]
  refine take_on (i := 14) (v := ?_) rfl rfl (by kernel_rfl) (by kernel_rfl) (by kernel_rfl) (fun _ _ _ h => h) rfl ?_ hHeld ?_
  rotate_left
  · (intro wq hSq; have q1 := (hSq.cell (p := ⟨b, o + i, none⟩) hbb).trans c1; have q2 := (hSq.cell (p := ⟨b, o + j, none⟩) hbb).trans c2; go_simp <;> first | with_reducible rfl | rfl)
  simp only [Act.put, List.setIfInBounds_toArray, List.set_cons_zero, List.set_cons_succ]
  refine take_one (i := 5) rfl (by kernel_rfl) (fun K hK => ?_)
  go_simp
  refine (hdn _ hHeld).mono ?_; rintro e y1 ⟨⟨gd, cd, rfl, hrd⟩, hbd⟩
  try go_wp2_with fail
  refine hK.out _ _ ?_ (fun hHeld => ?_)
  · exact hHeld.trans (hbd.mono hHeld.size)
  clear hK K
  try simp only [Act.put, List.setIfInBounds_toArray, List.set_cons_zero, List.set_cons_succ]
  refine take_one (i := 7) rfl (by kernel_rfl) (fun K hK => ?_)
  go_simp
  refine (hhD gd cd _ hrd).mono ?_; rintro e y2 ⟨rfl, hq1⟩; have hq2 := hq1.symm; subst hq2; clear hq1 hrd hbd
  try go_wp2_with fail
  refine hK.out _ _ ?_ (fun hHeld => ?_)
  · exact hHeld
  clear hK K
  try simp only [Act.put, List.setIfInBounds_toArray, List.set_cons_zero, List.set_cons_succ]
  refine take_one (i := 13) rfl (by kernel_rfl) (fun K hK => ?_)
  go_simp
  refine (hup _ hHeld).mono ?_; rintro e y3 ⟨⟨gu, cu, rfl, hru⟩, hbu⟩
  try go_wp2_with fail
  refine hK.out _ _ ?_ (fun hHeld => ?_)
  · exact hHeld.trans (hbu.mono hHeld.size)
  clear hK K
  try simp only [Act.put, List.setIfInBounds_toArray, List.set_cons_zero, List.set_cons_succ]
  refine take_one (i := 15) rfl (by kernel_rfl) (fun K hK => ?_)
  go_simp
  refine (hhU gu cu _ hru).mono ?_; rintro e y4 ⟨rfl, hq1⟩; have hq2 := hq1.symm; subst hq2; clear hq1 hru hbu
  try go_wp2_with fail
  refine hK.out _ _ ?_ (fun hHeld => ?_)
  · exact hHeld
  clear hK K
  try simp only [Act.put, List.setIfInBounds_toArray, List.set_cons_zero, List.set_cons_succ]
  refine take_on (i := 16) (v := ?_) rfl rfl (by kernel_rfl) (by kernel_rfl) (by kernel_rfl) (fun _ _ _ h => h) rfl ?_ hHeld ?_
  rotate_left
  · (intro wq hSq; have q1 := (hSq.cell (p := ⟨b, o + i, none⟩) hbb).trans c1; have q2 := (hSq.cell (p := ⟨b, o + j, none⟩) hbb).trans c2; go_simp <;> first | with_reducible rfl | rfl)
  simp only [Act.put, List.setIfInBounds_toArray, List.set_cons_zero, List.set_cons_succ]
  refine wpAnyH_done (by kernel_rfl) ?_ _
  go_wp2_with fail
  have hb13 := hb1.trans (hHeld.mono hb1.size)
  have hr3 := hr1.below hHeld
  have d1 := (hHeld.cell (p := ⟨b, o + i, none⟩) hbb).trans c1
  have d2 := (hHeld.cell (p := ⟨b, o + j, none⟩) hbb).trans c2
  have hw3 : b < y3.heap.size := by have := hHeld.size; omega
  clear hHeld hdn hup hhD hhU c1 c2 hvv
  by_cases hXY : X = Y
  · have hd : ((X : Int) == (Y : Int)) = true := by simp [hXY]
    clear hXY
    go_wp2_with fail
    refine wp_region_held_drew (S := (fun w' => Below y3.heap.size y3 w')) (by kernel_rfl) ?_ (fun hHeld => ?_)
    · exact (Below.refl _ _).drew
    refine take_on (i := 0) (v := ?_) rfl rfl (by kernel_rfl) (by kernel_rfl) (by kernel_rfl) (fun _ _ _ h => h) rfl ?_ hHeld ?_
    rotate_left
    · (intro wq hSq; have q1 := (hSq.cell (p := ⟨b, o + i, none⟩) hw3).trans d1; have q2 := (hSq.cell (p := ⟨b, o + j, none⟩) hw3).trans d2; go_simp <;> first | with_reducible rfl | rfl)
    simp only [Act.put, List.setIfInBounds_toArray, List.set_cons_zero, List.set_cons_succ]
    refine take_on (i := 1) (v := ?_) rfl rfl (by kernel_rfl) (by kernel_rfl) (by kernel_rfl) (fun _ _ _ h => h) rfl ?_ hHeld ?_
    rotate_left
    · (intro wq hSq; have q1 := (hSq.cell (p := ⟨b, o + i, none⟩) hw3).trans d1; have q2 := (hSq.cell (p := ⟨b, o + j, none⟩) hw3).trans d2; go_simp <;> first | with_reducible rfl | rfl)
    simp only [Act.put, List.setIfInBounds_toArray, List.set_cons_zero, List.set_cons_succ]
    refine take_on (i := 2) (v := ?_) rfl rfl (by kernel_rfl) (by kernel_rfl) (by kernel_rfl) (fun _ _ _ h => h) rfl ?_ hHeld ?_
    rotate_left
    · (intro wq hSq; have q1 := (hSq.cell (p := ⟨b, o + i, none⟩) hw3).trans d1; have q2 := (hSq.cell (p := ⟨b, o + j, none⟩) hw3).trans d2; go_simp <;> first | with_reducible rfl | rfl)
    simp only [Act.put, List.setIfInBounds_toArray, List.set_cons_zero, List.set_cons_succ]
    refine take_on (i := 3) (v := ?_) rfl rfl (by kernel_rfl) (by kernel_rfl) (by kernel_rfl) (fun _ _ _ h => h) rfl ?_ hHeld ?_
    rotate_left
    · (intro wq hSq; have q1 := (hSq.cell (p := ⟨b, o + i, none⟩) hw3).trans d1; have q2 := (hSq.cell (p := ⟨b, o + j, none⟩) hw3).trans d2; go_simp <;> first | with_reducible rfl | rfl)
    simp only [Act.put, List.setIfInBounds_toArray, List.set_cons_zero, List.set_cons_succ]
    refine take_on (i := 4) (v := ?_) rfl rfl (by kernel_rfl) (by kernel_rfl) (by kernel_rfl) (fun _ _ _ h => h) rfl ?_ hHeld ?_
    rotate_left
    · (intro wq hSq; have q1 := (hSq.cell (p := ⟨b, o + i, none⟩) hw3).trans d1; have q2 := (hSq.cell (p := ⟨b, o + j, none⟩) hw3).trans d2; go_simp <;> first | with_reducible rfl | rfl)
    simp only [Act.put, List.setIfInBounds_toArray, List.set_cons_zero, List.set_cons_succ]
    refine take_on (i := 5) (v := ?_) rfl rfl (by kernel_rfl) (by kernel_rfl) (by kernel_rfl) (fun _ _ _ h => h) rfl ?_ hHeld ?_
    rotate_left
    · (intro wq hSq; have q1 := (hSq.cell (p := ⟨b, o + i, none⟩) hw3).trans d1; have q2 := (hSq.cell (p := ⟨b, o + j, none⟩) hw3).trans d2; go_simp <;> first | with_reducible rfl | rfl)
    simp only [Act.put, List.setIfInBounds_toArray, List.set_cons_zero, List.set_cons_succ]
    refine take_on (i := 6) (v := ?_) rfl rfl (by kernel_rfl) (by kernel_rfl) (by kernel_rfl) (fun _ _ _ h => h) rfl ?_ hHeld ?_
    rotate_left
    · (intro wq hSq; have q1 := (hSq.cell (p := ⟨b, o + i, none⟩) hw3).trans d1; have q2 := (hSq.cell (p := ⟨b, o + j, none⟩) hw3).trans d2; go_simp <;> first | with_reducible rfl | rfl)
    simp only [Act.put, List.setIfInBounds_toArray, List.set_cons_zero, List.set_cons_succ]
    refine take_on (i := 7) (v := ?_) rfl rfl (by kernel_rfl) (by kernel_rfl) (by kernel_rfl) (fun _ _ _ h => h) rfl ?_ hHeld ?_
    rotate_left
    · (intro wq hSq; have q1 := (hSq.cell (p := ⟨b, o + i, none⟩) hw3).trans d1; have q2 := (hSq.cell (p := ⟨b, o + j, none⟩) hw3).trans d2; go_simp <;> first | with_reducible rfl | rfl)
    simp only [Act.put, List.setIfInBounds_toArray, List.set_cons_zero, List.set_cons_succ]
    refine take_on (i := 8) (v := ?_) rfl rfl (by kernel_rfl) (by kernel_rfl) (by kernel_rfl) (fun _ _ _ h => h) rfl ?_ hHeld ?_
    rotate_left
    · (intro wq hSq; have q1 := (hSq.cell (p := ⟨b, o + i, none⟩) hw3).trans d1; have q2 := (hSq.cell (p := ⟨b, o + j, none⟩) hw3).trans d2; go_simp <;> first | with_reducible rfl | rfl)
    simp only [Act.put, List.setIfInBounds_toArray, List.set_cons_zero, List.set_cons_succ]
    refine take_on (i := 9) (v := ?_) rfl rfl (by kernel_rfl) (by kernel_rfl) (by kernel_rfl) (fun _ _ _ h => h) rfl ?_ hHeld ?_
    rotate_left
    · (intro wq hSq; have q1 := (hSq.cell (p := ⟨b, o + i, none⟩) hw3).trans d1; have q2 := (hSq.cell (p := ⟨b, o + j, none⟩) hw3).trans d2; go_simp <;> first | with_reducible rfl | rfl)
    simp only [Act.put, List.setIfInBounds_toArray, List.set_cons_zero, List.set_cons_succ]
    refine take_off (i := 10) rfl rfl (by kernel_rfl) (by kernel_rfl) (by kernel_rfl) (fun _ _ _ h => h) rfl hHeld ?_
    simp only [Act.put, List.setIfInBounds_toArray, List.set_cons_zero, List.set_cons_succ]
    refine take_off (i := 11) rfl rfl (by kernel_rfl) (by kernel_rfl) (by kernel_rfl) (fun _ _ _ h => h) rfl hHeld ?_
    simp only [Act.put, List.setIfInBounds_toArray, List.set_cons_zero, List.set_cons_succ]
    refine take_off (i := 12) rfl rfl (by kernel_rfl) (by kernel_rfl) (by kernel_rfl) (fun _ _ _ h => h) rfl hHeld ?_
    simp only [Act.put, List.setIfInBounds_toArray, List.set_cons_zero, List.set_cons_succ]
    refine take_off (i := 13) rfl rfl (by kernel_rfl) (by kernel_rfl) (by kernel_rfl) (fun _ _ _ h => h) rfl hHeld ?_
    simp only [Act.put, List.setIfInBounds_toArray, List.set_cons_zero, List.set_cons_succ]
    refine take_off (i := 14) rfl rfl (by kernel_rfl) (by kernel_rfl) (by kernel_rfl) (fun _ _ _ h => h) rfl hHeld ?_
    simp only [Act.put, List.setIfInBounds_toArray, List.set_cons_zero, List.set_cons_succ]
    refine take_off (i := 15) rfl rfl (by kernel_rfl) (by kernel_rfl) (by kernel_rfl) (fun _ _ _ h => h) rfl hHeld ?_
    simp only [Act.put, List.setIfInBounds_toArray, List.set_cons_zero, List.set_cons_succ]
    refine take_off (i := 16) rfl rfl (by kernel_rfl) (by kernel_rfl) (by kernel_rfl) (fun _ _ _ h => h) rfl hHeld ?_
    simp only [Act.put, List.setIfInBounds_toArray, List.set_cons_zero, List.set_cons_succ]
    refine take_off (i := 17) rfl rfl (by kernel_rfl) (by kernel_rfl) (by kernel_rfl) (fun _ _ _ h => h) rfl hHeld ?_
    simp only [Act.put, List.setIfInBounds_toArray, List.set_cons_zero, List.set_cons_succ]
    refine take_off (i := 18) rfl rfl (by kernel_rfl) (by kernel_rfl) (by kernel_rfl) (fun _ _ _ h => h) rfl hHeld ?_
    simp only [Act.put, List.setIfInBounds_toArray, List.set_cons_zero, List.set_cons_succ]
    refine take_off (i := 19) rfl rfl (by kernel_rfl) (by kernel_rfl) (by kernel_rfl) (fun _ _ _ h => h) rfl hHeld ?_
    simp only [Act.put, List.setIfInBounds_toArray, List.set_cons_zero, List.set_cons_succ]
    refine take_on (i := 20) (v := ?_) rfl rfl (by kernel_rfl) (by kernel_rfl) (by kernel_rfl) (fun _ _ _ h => h) rfl ?_ hHeld ?_
    rotate_left
    · (intro wq hSq; have q1 := (hSq.cell (p := ⟨b, o + i, none⟩) hw3).trans d1; have q2 := (hSq.cell (p := ⟨b, o + j, none⟩) hw3).trans d2; go_simp <;> first | with_reducible rfl | rfl)
    simp only [Act.put, List.setIfInBounds_toArray, List.set_cons_zero, List.set_cons_succ]
    refine wpAnyH_done (by kernel_rfl) ?_ _
    go_wp2_with fail
    go_ret
    exact ⟨rfl, hb13.drew⟩
  · have hd : ((X : Int) == (Y : Int)) = false := by simp; omega
    have HNE := hidden hXY
    clear hXY
    cases hlq : lq X Y with
    | false =>
      have HB := hidden hlq
      clear hlq
      go_wp2_with fail
      refine wp_region_held_drew (S := (fun w' => Below y3.heap.size y3 w')) (by kernel_rfl) ?_ (fun hHeld => ?_)
      · exact (Below.refl _ _).drew
      refine take_on (i := 0) (v := ?_) rfl rfl (by kernel_rfl) (by kernel_rfl) (by kernel_rfl) (fun _ _ _ h => h) rfl ?_ hHeld ?_
      rotate_left
      · (intro wq hSq; have q1 := (hSq.cell (p := ⟨b, o + i, none⟩) hw3).trans d1; have q2 := (hSq.cell (p := ⟨b, o + j, none⟩) hw3).trans d2; go_simp <;> first | with_reducible rfl | rfl)
      simp only [Act.put, List.setIfInBounds_toArray, List.set_cons_zero, List.set_cons_succ]
      refine take_on (i := 1) (v := ?_) rfl rfl (by kernel_rfl) (by kernel_rfl) (by kernel_rfl) (fun _ _ _ h => h) rfl ?_ hHeld ?_
      rotate_left
      · (intro wq hSq; have q1 := (hSq.cell (p := ⟨b, o + i, none⟩) hw3).trans d1; have q2 := (hSq.cell (p := ⟨b, o + j, none⟩) hw3).trans d2; go_simp <;> first | with_reducible rfl | rfl)
      simp only [Act.put, List.setIfInBounds_toArray, List.set_cons_zero, List.set_cons_succ]
      refine take_on (i := 2) (v := ?_) rfl rfl (by kernel_rfl) (by kernel_rfl) (by kernel_rfl) (fun _ _ _ h => h) rfl ?_ hHeld ?_
      rotate_left
      · (intro wq hSq; have q1 := (hSq.cell (p := ⟨b, o + i, none⟩) hw3).trans d1; have q2 := (hSq.cell (p := ⟨b, o + j, none⟩) hw3).trans d2; go_simp <;> first | with_reducible rfl | rfl)
      simp only [Act.put, List.setIfInBounds_toArray, List.set_cons_zero, List.set_cons_succ]
      refine take_on (i := 3) (v := ?_) rfl rfl (by kernel_rfl) (by kernel_rfl) (by kernel_rfl) (fun _ _ _ h => h) rfl ?_ hHeld ?_
      rotate_left
      · (intro wq hSq; have q1 := (hSq.cell (p := ⟨b, o + i, none⟩) hw3).trans d1; have q2 := (hSq.cell (p := ⟨b, o + j, none⟩) hw3).trans d2; go_simp <;> first | with_reducible rfl | rfl)
      simp only [Act.put, List.setIfInBounds_toArray, List.set_cons_zero, List.set_cons_succ]
      refine take_on (i := 4) (v := ?_) rfl rfl (by kernel_rfl) (by kernel_rfl) (by kernel_rfl) (fun _ _ _ h => h) rfl ?_ hHeld ?_
      rotate_left
      · (intro wq hSq; have q1 := (hSq.cell (p := ⟨b, o + i, none⟩) hw3).trans d1; have q2 := (hSq.cell (p := ⟨b, o + j, none⟩) hw3).trans d2; go_simp <;> first | with_reducible rfl | rfl)
      simp only [Act.put, List.setIfInBounds_toArray, List.set_cons_zero, List.set_cons_succ]
      refine take_on (i := 5) (v := ?_) rfl rfl (by kernel_rfl) (by kernel_rfl) (by kernel_rfl) (fun _ _ _ h => h) rfl ?_ hHeld ?_
      rotate_left
      · (intro wq hSq; have q1 := (hSq.cell (p := ⟨b, o + i, none⟩) hw3).trans d1; have q2 := (hSq.cell (p := ⟨b, o + j, none⟩) hw3).trans d2; go_simp <;> first | with_reducible rfl | rfl)
      simp only [Act.put, List.setIfInBounds_toArray, List.set_cons_zero, List.set_cons_succ]
      refine take_on (i := 6) (v := ?_) rfl rfl (by kernel_rfl) (by kernel_rfl) (by kernel_rfl) (fun _ _ _ h => h) rfl ?_ hHeld ?_
      rotate_left
      · (intro wq hSq; have q1 := (hSq.cell (p := ⟨b, o + i, none⟩) hw3).trans d1; have q2 := (hSq.cell (p := ⟨b, o + j, none⟩) hw3).trans d2; go_simp <;> first | with_reducible rfl | rfl)
      simp only [Act.put, List.setIfInBounds_toArray, List.set_cons_zero, List.set_cons_succ]
      refine take_on (i := 7) (v := ?_) rfl rfl (by kernel_rfl) (by kernel_rfl) (by kernel_rfl) (fun _ _ _ h => h) rfl ?_ hHeld ?_
      rotate_left
      · (intro wq hSq; have q1 := (hSq.cell (p := ⟨b, o + i, none⟩) hw3).trans d1; have q2 := (hSq.cell (p := ⟨b, o + j, none⟩) hw3).trans d2; go_simp <;> first | with_reducible rfl | rfl)
      simp only [Act.put, List.setIfInBounds_toArray, List.set_cons_zero, List.set_cons_succ]
      refine take_on (i := 8) (v := ?_) rfl rfl (by kernel_rfl) (by kernel_rfl) (by kernel_rfl) (fun _ _ _ h => h) rfl ?_ hHeld ?_
      rotate_left
      · (intro wq hSq; have q1 := (hSq.cell (p := ⟨b, o + i, none⟩) hw3).trans d1; have q2 := (hSq.cell (p := ⟨b, o + j, none⟩) hw3).trans d2; go_simp <;> first | with_reducible rfl | rfl)
      simp only [Act.put, List.setIfInBounds_toArray, List.set_cons_zero, List.set_cons_succ]
      refine take_on (i := 9) (v := ?_) rfl rfl (by kernel_rfl) (by kernel_rfl) (by kernel_rfl) (fun _ _ _ h => h) rfl ?_ hHeld ?_
      rotate_left
      · (intro wq hSq; have q1 := (hSq.cell (p := ⟨b, o + i, none⟩) hw3).trans d1; have q2 := (hSq.cell (p := ⟨b, o + j, none⟩) hw3).trans d2; go_simp <;> first | with_reducible rfl | rfl)
      simp only [Act.put, List.setIfInBounds_toArray, List.set_cons_zero, List.set_cons_succ]
      refine take_on (i := 10) (v := ?_) rfl rfl (by kernel_rfl) (by kernel_rfl) (by kernel_rfl) (fun _ _ _ h => h) rfl ?_ hHeld ?_
      rotate_left
      · (intro wq hSq; have q1 := (hSq.cell (p := ⟨b, o + i, none⟩) hw3).trans d1; have q2 := (hSq.cell (p := ⟨b, o + j, none⟩) hw3).trans d2; go_simp <;> first | with_reducible rfl | rfl)
      simp only [Act.put, List.setIfInBounds_toArray, List.set_cons_zero, List.set_cons_succ]
      refine take_on (i := 11) (v := ?_) rfl rfl (by kernel_rfl) (by kernel_rfl) (by kernel_rfl) (fun _ _ _ h => h) rfl ?_ hHeld ?_
      rotate_left
      · (intro wq hSq; have q1 := (hSq.cell (p := ⟨b, o + i, none⟩) hw3).trans d1; have q2 := (hSq.cell (p := ⟨b, o + j, none⟩) hw3).trans d2; go_simp <;> first | with_reducible rfl | rfl)
      simp only [Act.put, List.setIfInBounds_toArray, List.set_cons_zero, List.set_cons_succ]
      refine take_on (i := 12) (v := ?_) rfl rfl (by kernel_rfl) (by kernel_rfl) (by kernel_rfl) (fun _ _ _ h => h) rfl ?_ hHeld ?_
      rotate_left
      · (intro wq hSq; have q1 := (hSq.cell (p := ⟨b, o + i, none⟩) hw3).trans d1; have q2 := (hSq.cell (p := ⟨b, o + j, none⟩) hw3).trans d2; go_simp <;> first | with_reducible rfl | rfl)
      simp only [Act.put, List.setIfInBounds_toArray, List.set_cons_zero, List.set_cons_succ]
      refine take_on (i := 13) (v := ?_) rfl rfl (by kernel_rfl) (by kernel_rfl) (by kernel_rfl) (fun _ _ _ h => h) rfl ?_ hHeld ?_
      rotate_left
      · (intro wq hSq; have q1 := (hSq.cell (p := ⟨b, o + i, none⟩) hw3).trans d1; have q2 := (hSq.cell (p := ⟨b, o + j, none⟩) hw3).trans d2; go_simp <;> first | with_reducible rfl | rfl)
      simp only [Act.put, List.setIfInBounds_toArray, List.set_cons_zero, List.set_cons_succ]
      refine take_on (i := 14) (v := ?_) rfl rfl (by kernel_rfl) (by kernel_rfl) (by kernel_rfl) (fun _ _ _ h => h) rfl ?_ hHeld ?_
      rotate_left
      · (intro wq hSq; have q1 := (hSq.cell (p := ⟨b, o + i, none⟩) hw3).trans d1; have q2 := (hSq.cell (p := ⟨b, o + j, none⟩) hw3).trans d2; go_simp <;> first | with_reducible rfl | rfl)
      simp only [Act.put, List.setIfInBounds_toArray, List.set_cons_zero, List.set_cons_succ]
      refine take_on (i := 15) (v := ?_) rfl rfl (by kernel_rfl) (by kernel_rfl) (by kernel_rfl) (fun _ _ _ h => h) rfl ?_ hHeld ?_
      rotate_left
      · (intro wq hSq; have q1 := (hSq.cell (p := ⟨b, o + i, none⟩) hw3).trans d1; have q2 := (hSq.cell (p := ⟨b, o + j, none⟩) hw3).trans d2; go_simp <;> first | with_reducible rfl | rfl)
      simp only [Act.put, List.setIfInBounds_toArray, List.set_cons_zero, List.set_cons_succ]
      refine take_on (i := 16) (v := ?_) rfl rfl (by kernel_rfl) (by kernel_rfl) (by kernel_rfl) (fun _ _ _ h => h) rfl ?_ hHeld ?_
      rotate_left
      · (intro wq hSq; have q1 := (hSq.cell (p := ⟨b, o + i, none⟩) hw3).trans d1; have q2 := (hSq.cell (p := ⟨b, o + j, none⟩) hw3).trans d2; go_simp <;> first | with_reducible rfl | rfl)
      simp only [Act.put, List.setIfInBounds_toArray, List.set_cons_zero, List.set_cons_succ]
      refine take_on (i := 17) (v := ?_) rfl rfl (by kernel_rfl) (by kernel_rfl) (by kernel_rfl) (fun _ _ _ h => h) rfl ?_ hHeld ?_
      rotate_left
      · (intro wq hSq; have q1 := (hSq.cell (p := ⟨b, o + i, none⟩) hw3).trans d1; have q2 := (hSq.cell (p := ⟨b, o + j, none⟩) hw3).trans d2; go_simp <;> first | with_reducible rfl | rfl)
      simp only [Act.put, List.setIfInBounds_toArray, List.set_cons_zero, List.set_cons_succ]
      refine take_one (i := 18) rfl (by kernel_rfl) (fun K hK => ?_)
      go_simp
      refine (hle _ hX hY).mono ?_; rw [HB.out]; rintro e y5 ⟨rfl, hq1⟩; have hq2 := hq1.symm; subst hq2; clear hq1
      try go_wp2_with fail
      refine hK.out _ _ ?_ (fun hHeld => ?_)
      · exact hHeld
      clear hK K
      try simp only [Act.put, List.setIfInBounds_toArray, List.set_cons_zero, List.set_cons_succ]
      refine take_on (i := 19) (v := ?_) rfl rfl (by kernel_rfl) (by kernel_rfl) (by kernel_rfl) (fun _ _ _ h => h) rfl ?_ hHeld ?_
      rotate_left
      · (intro wq hSq; have q1 := (hSq.cell (p := ⟨b, o + i, none⟩) hw3).trans d1; have q2 := (hSq.cell (p := ⟨b, o + j, none⟩) hw3).trans d2; go_simp <;> first | with_reducible rfl | rfl)
      simp only [Act.put, List.setIfInBounds_toArray, List.set_cons_zero, List.set_cons_succ]
      refine take_on (i := 20) (v := ?_) rfl rfl (by kernel_rfl) (by kernel_rfl) (by kernel_rfl) (fun _ _ _ h => h) rfl ?_ hHeld ?_
      rotate_left
      · (intro wq hSq; have q1 := (hSq.cell (p := ⟨b, o + i, none⟩) hw3).trans d1; have q2 := (hSq.cell (p := ⟨b, o + j, none⟩) hw3).trans d2; go_simp <;> first | with_reducible rfl | rfl)
      simp only [Act.put, List.setIfInBounds_toArray, List.set_cons_zero, List.set_cons_succ]
      refine wpAnyH_done (by kernel_rfl) ?_ _
      go_wp2_with fail
      go_ret
      exact ⟨rfl, hb13.drew⟩
    | true =>
      have HB := hidden hlq
      clear hlq
      have hbel : bel X Y = true := by rw [HBE.out, decide_eq_true HNE.out, HB.out]; rfl
      have hgts := HLT.out (by rw [← HXE.out, ← HYE.out]; exact hbel)
      have HBEL : Hid (bel (at0 zs i) (at0 zs j) = true) := by rw [← HXE.out, ← HYE.out]; exact hbel
      clear hbel
      go_wp2_with fail
      refine wp_region_held_drew (S := (fun w' => Below y3.heap.size y3 w')) (by kernel_rfl) ?_ (fun hHeld => ?_)
      · exact (Below.refl _ _).drew
      refine take_on (i := 0) (v := ?_) rfl rfl (by kernel_rfl) (by kernel_rfl) (by kernel_rfl) (fun _ _ _ h => h) rfl ?_ hHeld ?_
      rotate_left
      · (intro wq hSq; have q1 := (hSq.cell (p := ⟨b, o + i, none⟩) hw3).trans d1; have q2 := (hSq.cell (p := ⟨b, o + j, none⟩) hw3).trans d2; go_simp <;> first | with_reducible rfl | rfl)
      simp only [Act.put, List.setIfInBounds_toArray, List.set_cons_zero, List.set_cons_succ]
      refine take_on (i := 1) (v := ?_) rfl rfl (by kernel_rfl) (by kernel_rfl) (by kernel_rfl) (fun _ _ _ h => h) rfl ?_ hHeld ?_
      rotate_left
      · (intro wq hSq; have q1 := (hSq.cell (p := ⟨b, o + i, none⟩) hw3).trans d1; have q2 := (hSq.cell (p := ⟨b, o + j, none⟩) hw3).trans d2; go_simp <;> first | with_reducible rfl | rfl)
      simp only [Act.put, List.setIfInBounds_toArray, List.set_cons_zero, List.set_cons_succ]
      refine take_on (i := 2) (v := ?_) rfl rfl (by kernel_rfl) (by kernel_rfl) (by kernel_rfl) (fun _ _ _ h => h) rfl ?_ hHeld ?_
      rotate_left
      · (intro wq hSq; have q1 := (hSq.cell (p := ⟨b, o + i, none⟩) hw3).trans d1; have q2 := (hSq.cell (p := ⟨b, o + j, none⟩) hw3).trans d2; go_simp <;> first | with_reducible rfl | rfl)
      simp only [Act.put, List.setIfInBounds_toArray, List.set_cons_zero, List.set_cons_succ]
      refine take_on (i := 3) (v := ?_) rfl rfl (by kernel_rfl) (by kernel_rfl) (by kernel_rfl) (fun _ _ _ h => h) rfl ?_ hHeld ?_
      rotate_left
      · (intro wq hSq; have q1 := (hSq.cell (p := ⟨b, o + i, none⟩) hw3).trans d1; have q2 := (hSq.cell (p := ⟨b, o + j, none⟩) hw3).trans d2; go_simp <;> first | with_reducible rfl | rfl)
      simp only [Act.put, List.setIfInBounds_toArray, List.set_cons_zero, List.set_cons_succ]
      refine take_on (i := 4) (v := ?_) rfl rfl (by kernel_rfl) (by kernel_rfl) (by kernel_rfl) (fun _ _ _ h => h) rfl ?_ hHeld ?_
      rotate_left
      · (intro wq hSq; have q1 := (hSq.cell (p := ⟨b, o + i, none⟩) hw3).trans d1; have q2 := (hSq.cell (p := ⟨b, o + j, none⟩) hw3).trans d2; go_simp <;> first | with_reducible rfl | rfl)
      simp only [Act.put, List.setIfInBounds_toArray, List.set_cons_zero, List.set_cons_succ]
      refine take_on (i := 5) (v := ?_) rfl rfl (by kernel_rfl) (by kernel_rfl) (by kernel_rfl) (fun _ _ _ h => h) rfl ?_ hHeld ?_
      rotate_left
      · (intro wq hSq; have q1 := (hSq.cell (p := ⟨b, o + i, none⟩) hw3).trans d1; have q2 := (hSq.cell (p := ⟨b, o + j, none⟩) hw3).trans d2; go_simp <;> first | with_reducible rfl | rfl)
      simp only [Act.put, List.setIfInBounds_toArray, List.set_cons_zero, List.set_cons_succ]
      refine take_on (i := 6) (v := ?_) rfl rfl (by kernel_rfl) (by kernel_rfl) (by kernel_rfl) (fun _ _ _ h => h) rfl ?_ hHeld ?_
      rotate_left
      · (intro wq hSq; have q1 := (hSq.cell (p := ⟨b, o + i, none⟩) hw3).trans d1; have q2 := (hSq.cell (p := ⟨b, o + j, none⟩) hw3).trans d2; go_simp <;> first | with_reducible rfl | rfl)
      simp only [Act.put, List.setIfInBounds_toArray, List.set_cons_zero, List.set_cons_succ]
      refine take_on (i := 7) (v := ?_) rfl rfl (by kernel_rfl) (by kernel_rfl) (by kernel_rfl) (fun _ _ _ h => h) rfl ?_ hHeld ?_
      rotate_left
      · (intro wq hSq; have q1 := (hSq.cell (p := ⟨b, o + i, none⟩) hw3).trans d1; have q2 := (hSq.cell (p := ⟨b, o + j, none⟩) hw3).trans d2; go_simp <;> first | with_reducible rfl | rfl)
      simp only [Act.put, List.setIfInBounds_toArray, List.set_cons_zero, List.set_cons_succ]
      refine take_on (i := 8) (v := ?_) rfl rfl (by kernel_rfl) (by kernel_rfl) (by kernel_rfl) (fun _ _ _ h => h) rfl ?_ hHeld ?_
      rotate_left
      · (intro wq hSq; have q1 := (hSq.cell (p := ⟨b, o + i, none⟩) hw3).trans d1; have q2 := (hSq.cell (p := ⟨b, o + j, none⟩) hw3).trans d2; go_simp <;> first | with_reducible rfl | rfl)
      simp only [Act.put, List.setIfInBounds_toArray, List.set_cons_zero, List.set_cons_succ]
      refine take_on (i := 9) (v := ?_) rfl rfl (by kernel_rfl) (by kernel_rfl) (by kernel_rfl) (fun _ _ _ h => h) rfl ?_ hHeld ?_
      rotate_left
      · (intro wq hSq; have q1 := (hSq.cell (p := ⟨b, o + i, none⟩) hw3).trans d1; have q2 := (hSq.cell (p := ⟨b, o + j, none⟩) hw3).trans d2; go_simp <;> first | with_reducible rfl | rfl)
      simp only [Act.put, List.setIfInBounds_toArray, List.set_cons_zero, List.set_cons_succ]
      refine take_on (i := 10) (v := ?_) rfl rfl (by kernel_rfl) (by kernel_rfl) (by kernel_rfl) (fun _ _ _ h => h) rfl ?_ hHeld ?_
      rotate_left
      · (intro wq hSq; have q1 := (hSq.cell (p := ⟨b, o + i, none⟩) hw3).trans d1; have q2 := (hSq.cell (p := ⟨b, o + j, none⟩) hw3).trans d2; go_simp <;> first | with_reducible rfl | rfl)
      simp only [Act.put, List.setIfInBounds_toArray, List.set_cons_zero, List.set_cons_succ]
      refine take_on (i := 11) (v := ?_) rfl rfl (by kernel_rfl) (by kernel_rfl) (by kernel_rfl) (fun _ _ _ h => h) rfl ?_ hHeld ?_
      rotate_left
      · (intro wq hSq; have q1 := (hSq.cell (p := ⟨b, o + i, none⟩) hw3).trans d1; have q2 := (hSq.cell (p := ⟨b, o + j, none⟩) hw3).trans d2; go_simp <;> first | with_reducible rfl | rfl)
      simp only [Act.put, List.setIfInBounds_toArray, List.set_cons_zero, List.set_cons_succ]
      refine take_on (i := 12) (v := ?_) rfl rfl (by kernel_rfl) (by kernel_rfl) (by kernel_rfl) (fun _ _ _ h => h) rfl ?_ hHeld ?_
      rotate_left
      · (intro wq hSq; have q1 := (hSq.cell (p := ⟨b, o + i, none⟩) hw3).trans d1; have q2 := (hSq.cell (p := ⟨b, o + j, none⟩) hw3).trans d2; go_simp <;> first | with_reducible rfl | rfl)
      simp only [Act.put, List.setIfInBounds_toArray, List.set_cons_zero, List.set_cons_succ]
      refine take_on (i := 13) (v := ?_) rfl rfl (by kernel_rfl) (by kernel_rfl) (by kernel_rfl) (fun _ _ _ h => h) rfl ?_ hHeld ?_
      rotate_left
      · (intro wq hSq; have q1 := (hSq.cell (p := ⟨b, o + i, none⟩) hw3).trans d1; have q2 := (hSq.cell (p := ⟨b, o + j, none⟩) hw3).trans d2; go_simp <;> first | with_reducible rfl | rfl)
      simp only [Act.put, List.setIfInBounds_toArray, List.set_cons_zero, List.set_cons_succ]
      refine take_on (i := 14) (v := ?_) rfl rfl (by kernel_rfl) (by kernel_rfl) (by kernel_rfl) (fun _ _ _ h => h) rfl ?_ hHeld ?_
      rotate_left
      · (intro wq hSq; have q1 := (hSq.cell (p := ⟨b, o + i, none⟩) hw3).trans d1; have q2 := (hSq.cell (p := ⟨b, o + j, none⟩) hw3).trans d2; go_simp <;> first | with_reducible rfl | rfl)
      simp only [Act.put, List.setIfInBounds_toArray, List.set_cons_zero, List.set_cons_succ]
      refine take_on (i := 15) (v := ?_) rfl rfl (by kernel_rfl) (by kernel_rfl) (by kernel_rfl) (fun _ _ _ h => h) rfl ?_ hHeld ?_
      rotate_left
      · (intro wq hSq; have q1 := (hSq.cell (p := ⟨b, o + i, none⟩) hw3).trans d1; have q2 := (hSq.cell (p := ⟨b, o + j, none⟩) hw3).trans d2; go_simp <;> first | with_reducible rfl | rfl)
      simp only [Act.put, List.setIfInBounds_toArray, List.set_cons_zero, List.set_cons_succ]
      refine take_on (i := 16) (v := ?_) rfl rfl (by kernel_rfl) (by kernel_rfl) (by kernel_rfl) (fun _ _ _ h => h) rfl ?_ hHeld ?_
      rotate_left
      · (intro wq hSq; have q1 := (hSq.cell (p := ⟨b, o + i, none⟩) hw3).trans d1; have q2 := (hSq.cell (p := ⟨b, o + j, none⟩) hw3).trans d2; go_simp <;> first | with_reducible rfl | rfl)
      simp only [Act.put, List.setIfInBounds_toArray, List.set_cons_zero, List.set_cons_succ]
      refine take_on (i := 17) (v := ?_) rfl rfl (by kernel_rfl) (by kernel_rfl) (by kernel_rfl) (fun _ _ _ h => h) rfl ?_ hHeld ?_
      rotate_left
      · (intro wq hSq; have q1 := (hSq.cell (p := ⟨b, o + i, none⟩) hw3).trans d1; have q2 := (hSq.cell (p := ⟨b, o + j, none⟩) hw3).trans d2; go_simp <;> first | with_reducible rfl | rfl)
      simp only [Act.put, List.setIfInBounds_toArray, List.set_cons_zero, List.set_cons_succ]
      refine take_one (i := 18) rfl (by kernel_rfl) (fun K hK => ?_)
      go_simp
      refine (hle _ hX hY).mono ?_; rw [HB.out]; rintro e y5 ⟨rfl, hq1⟩; have hq2 := hq1.symm; subst hq2; clear hq1
      try go_wp2_with fail
      refine hK.out _ _ ?_ (fun hHeld => ?_)
      · exact hHeld
      clear hK K
      try simp only [Act.put, List.setIfInBounds_toArray, List.set_cons_zero, List.set_cons_succ]
      refine take_on (i := 19) (v := ?_) rfl rfl (by kernel_rfl) (by kernel_rfl) (by kernel_rfl) (fun _ _ _ h => h) rfl ?_ hHeld ?_
      rotate_left
      · (intro wq hSq; have q1 := (hSq.cell (p := ⟨b, o + i, none⟩) hw3).trans d1; have q2 := (hSq.cell (p := ⟨b, o + j, none⟩) hw3).trans d2; go_simp <;> first | with_reducible rfl | rfl)
      simp only [Act.put, List.setIfInBounds_toArray, List.set_cons_zero, List.set_cons_succ]
      refine take_on (i := 20) (v := ?_) rfl rfl (by kernel_rfl) (by kernel_rfl) (by kernel_rfl) (fun _ _ _ h => h) rfl ?_ hHeld ?_
      rotate_left
      · (intro wq hSq; have q1 := (hSq.cell (p := ⟨b, o + i, none⟩) hw3).trans d1; have q2 := (hSq.cell (p := ⟨b, o + j, none⟩) hw3).trans d2; go_simp <;> first | with_reducible rfl | rfl)
      simp only [Act.put, List.setIfInBounds_toArray, List.set_cons_zero, List.set_cons_succ]
      refine wpAnyH_done (by kernel_rfl) ?_ _
      go_wp2_with fail
      have hht1 := hht y3.drew hdO (hr3.below (Below.refl _ _).drew) h.all (by omega) (fun e => by cases e)
      refine hht1.mono ?_
      rintro e w6 ⟨⟨g, rfl, hrw6, _⟩, hb6⟩
      have hb16 : Below w.heap.size w w6 := hb13.drew.trans (hb6.mono hb13.size)
      have hr6 := (hr3.below (Below.refl _ _).drew).below hb6
      have e1 := hrw6.cell hi
      have e2 := hrw6.cell hj
      have hgw := hrw6.lt
      obtain ⟨P, hP⟩ : ∃ P, P = hgt zs (at0 zs i) := ⟨_, rfl⟩
      obtain ⟨Q, hQ⟩ : ∃ Q, Q = hgt zs (at0 zs j) := ⟨_, rfl⟩
      rw [← hP] at e1 hgts
      rw [← hQ] at e2 hgts
      have hpq : ¬ (Q : Int) ≤ (P : Int) := by omega
      have hne : ((zs.length : Int) != (zs.length : Int)) = false := by simp
      have hmc := (BRow.made w6 zs.length).cell hi
      rw [cell_of_row _ _ _ _ _ _ (heap_alloc_new w6 _)] at hmc
      clear hP hQ hht hht1 hb6 hrw6 hb13 hr3 hr1
      go_wp2_with fail
      refine wp_region_held_drew (S := (fun w' => Below w6.heap.size w6 w')) (by kernel_rfl) ?_ (fun hHeld => ?_)
      · exact (Below.refl _ _).drew
      refine take_on (i := 0) (v := ?_) rfl rfl (by kernel_rfl) (by kernel_rfl) (by kernel_rfl) (fun _ _ _ h => h) rfl ?_ hHeld ?_
      rotate_left
      · (intro wq hSq; have q1 := (hSq.cell (p := ⟨g, i, none⟩) hgw).trans e1; have q2 := (hSq.cell (p := ⟨g, j, none⟩) hgw).trans e2; go_simp <;> first | with_reducible rfl | rfl)
      simp only [Act.put, List.setIfInBounds_toArray, List.set_cons_zero, List.set_cons_succ]
      refine take_on (i := 1) (v := ?_) rfl rfl (by kernel_rfl) (by kernel_rfl) (by kernel_rfl) (fun _ _ _ h => h) rfl ?_ hHeld ?_
      rotate_left
      · (intro wq hSq; have q1 := (hSq.cell (p := ⟨g, i, none⟩) hgw).trans e1; have q2 := (hSq.cell (p := ⟨g, j, none⟩) hgw).trans e2; go_simp <;> first | with_reducible rfl | rfl)
      simp only [Act.put, List.setIfInBounds_toArray, List.set_cons_zero, List.set_cons_succ]
      refine take_on (i := 2) (v := ?_) rfl rfl (by kernel_rfl) (by kernel_rfl) (by kernel_rfl) (fun _ _ _ h => h) rfl ?_ hHeld ?_
      rotate_left
      · (intro wq hSq; have q1 := (hSq.cell (p := ⟨g, i, none⟩) hgw).trans e1; have q2 := (hSq.cell (p := ⟨g, j, none⟩) hgw).trans e2; go_simp <;> first | with_reducible rfl | rfl)
      simp only [Act.put, List.setIfInBounds_toArray, List.set_cons_zero, List.set_cons_succ]
      refine take_on (i := 3) (v := ?_) rfl rfl (by kernel_rfl) (by kernel_rfl) (by kernel_rfl) (fun _ _ _ h => h) rfl ?_ hHeld ?_
      rotate_left
      · (intro wq hSq; have q1 := (hSq.cell (p := ⟨g, i, none⟩) hgw).trans e1; have q2 := (hSq.cell (p := ⟨g, j, none⟩) hgw).trans e2; go_simp <;> first | with_reducible rfl | rfl)
      simp only [Act.put, List.setIfInBounds_toArray, List.set_cons_zero, List.set_cons_succ]
      refine take_on (i := 4) (v := ?_) rfl rfl (by kernel_rfl) (by kernel_rfl) (by kernel_rfl) (fun _ _ _ h => h) rfl ?_ hHeld ?_
      rotate_left
      · (intro wq hSq; have q1 := (hSq.cell (p := ⟨g, i, none⟩) hgw).trans e1; have q2 := (hSq.cell (p := ⟨g, j, none⟩) hgw).trans e2; go_simp <;> first | with_reducible rfl | rfl)
      simp only [Act.put, List.setIfInBounds_toArray, List.set_cons_zero, List.set_cons_succ]
      refine take_on (i := 5) (v := ?_) rfl rfl (by kernel_rfl) (by kernel_rfl) (by kernel_rfl) (fun _ _ _ h => h) rfl ?_ hHeld ?_
      rotate_left
      · (intro wq hSq; have q1 := (hSq.cell (p := ⟨g, i, none⟩) hgw).trans e1; have q2 := (hSq.cell (p := ⟨g, j, none⟩) hgw).trans e2; go_simp <;> first | with_reducible rfl | rfl)
      simp only [Act.put, List.setIfInBounds_toArray, List.set_cons_zero, List.set_cons_succ]
      refine take_on (i := 6) (v := ?_) rfl rfl (by kernel_rfl) (by kernel_rfl) (by kernel_rfl) (fun _ _ _ h => h) rfl ?_ hHeld ?_
      rotate_left
      · (intro wq hSq; have q1 := (hSq.cell (p := ⟨g, i, none⟩) hgw).trans e1; have q2 := (hSq.cell (p := ⟨g, j, none⟩) hgw).trans e2; go_simp <;> first | with_reducible rfl | rfl)
      simp only [Act.put, List.setIfInBounds_toArray, List.set_cons_zero, List.set_cons_succ]
      refine take_on (i := 7) (v := ?_) rfl rfl (by kernel_rfl) (by kernel_rfl) (by kernel_rfl) (fun _ _ _ h => h) rfl ?_ hHeld ?_
      rotate_left
      · (intro wq hSq; have q1 := (hSq.cell (p := ⟨g, i, none⟩) hgw).trans e1; have q2 := (hSq.cell (p := ⟨g, j, none⟩) hgw).trans e2; go_simp <;> first | with_reducible rfl | rfl)
      simp only [Act.put, List.setIfInBounds_toArray, List.set_cons_zero, List.set_cons_succ]
      refine take_on (i := 8) (v := ?_) rfl rfl (by kernel_rfl) (by kernel_rfl) (by kernel_rfl) (fun _ _ _ h => h) rfl ?_ hHeld ?_
      rotate_left
      · (intro wq hSq; have q1 := (hSq.cell (p := ⟨g, i, none⟩) hgw).trans e1; have q2 := (hSq.cell (p := ⟨g, j, none⟩) hgw).trans e2; go_simp <;> first | with_reducible rfl | rfl)
      simp only [Act.put, List.setIfInBounds_toArray, List.set_cons_zero, List.set_cons_succ]
      refine take_on (i := 9) (v := ?_) rfl rfl (by kernel_rfl) (by kernel_rfl) (by kernel_rfl) (fun _ _ _ h => h) rfl ?_ hHeld ?_
      rotate_left
      · (intro wq hSq; have q1 := (hSq.cell (p := ⟨g, i, none⟩) hgw).trans e1; have q2 := (hSq.cell (p := ⟨g, j, none⟩) hgw).trans e2; go_simp <;> first | with_reducible rfl | rfl)
      simp only [Act.put, List.setIfInBounds_toArray, List.set_cons_zero, List.set_cons_succ]
      refine take_on (i := 10) (v := ?_) rfl rfl (by kernel_rfl) (by kernel_rfl) (by kernel_rfl) (fun _ _ _ h => h) rfl ?_ hHeld ?_
      rotate_left
      · (intro wq hSq; have q1 := (hSq.cell (p := ⟨g, i, none⟩) hgw).trans e1; have q2 := (hSq.cell (p := ⟨g, j, none⟩) hgw).trans e2; go_simp <;> first | with_reducible rfl | rfl)
      simp only [Act.put, List.setIfInBounds_toArray, List.set_cons_zero, List.set_cons_succ]
      refine take_on (i := 11) (v := ?_) rfl rfl (by kernel_rfl) (by kernel_rfl) (by kernel_rfl) (fun _ _ _ h => h) rfl ?_ hHeld ?_
      rotate_left
      · (intro wq hSq; have q1 := (hSq.cell (p := ⟨g, i, none⟩) hgw).trans e1; have q2 := (hSq.cell (p := ⟨g, j, none⟩) hgw).trans e2; go_simp <;> first | with_reducible rfl | rfl)
      simp only [Act.put, List.setIfInBounds_toArray, List.set_cons_zero, List.set_cons_succ]
      refine take_on (i := 12) (v := ?_) rfl rfl (by kernel_rfl) (by kernel_rfl) (by kernel_rfl) (fun _ _ _ h => h) rfl ?_ hHeld ?_
      rotate_left
      · (intro wq hSq; have q1 := (hSq.cell (p := ⟨g, i, none⟩) hgw).trans e1; have q2 := (hSq.cell (p := ⟨g, j, none⟩) hgw).trans e2; go_simp <;> first | with_reducible rfl | rfl)
      simp only [Act.put, List.setIfInBounds_toArray, List.set_cons_zero, List.set_cons_succ]
      refine take_on (i := 13) (v := ?_) rfl rfl (by kernel_rfl) (by kernel_rfl) (by kernel_rfl) (fun _ _ _ h => h) rfl ?_ hHeld ?_
      rotate_left
      · (intro wq hSq; have q1 := (hSq.cell (p := ⟨g, i, none⟩) hgw).trans e1; have q2 := (hSq.cell (p := ⟨g, j, none⟩) hgw).trans e2; go_simp <;> first | with_reducible rfl | rfl)
      simp only [Act.put, List.setIfInBounds_toArray, List.set_cons_zero, List.set_cons_succ]
      refine take_on (i := 14) (v := ?_) rfl rfl (by kernel_rfl) (by kernel_rfl) (by kernel_rfl) (fun _ _ _ h => h) rfl ?_ hHeld ?_
      rotate_left
      · (intro wq hSq; have q1 := (hSq.cell (p := ⟨g, i, none⟩) hgw).trans e1; have q2 := (hSq.cell (p := ⟨g, j, none⟩) hgw).trans e2; go_simp <;> first | with_reducible rfl | rfl)
      simp only [Act.put, List.setIfInBounds_toArray, List.set_cons_zero, List.set_cons_succ]
      refine take_on (i := 15) (v := ?_) rfl rfl (by kernel_rfl) (by kernel_rfl) (by kernel_rfl) (fun _ _ _ h => h) rfl ?_ hHeld ?_
      rotate_left
      · (intro wq hSq; have q1 := (hSq.cell (p := ⟨g, i, none⟩) hgw).trans e1; have q2 := (hSq.cell (p := ⟨g, j, none⟩) hgw).trans e2; go_simp <;> first | with_reducible rfl | rfl)
      simp only [Act.put, List.setIfInBounds_toArray, List.set_cons_zero, List.set_cons_succ]
      refine wpAnyH_done (by kernel_rfl) ?_ _
      go_wp2_with fail
      have hb7 : Below w6.heap.size w6 (w6.alloc (.cells ((madeCells #[.bool false] zs.length).setIfInBounds i (.bool true)) 4)).drew := ((Below.refl _ _).alloc (Nat.le_refl _) _).drew
      have hbr7 : BRow (w6.alloc (.cells ((madeCells #[.bool false] zs.length).setIfInBounds i (.bool true)) 4)).drew w6.heap.size zs.length (fun p => if p = i then true else false) := (brow_first w6 zs.length i).drewN 1
      have hgb : w.heap.size ≤ w6.heap.size := hb16.size
      obtain ⟨W7, hW7⟩ : ∃ W7, W7 = (w6.alloc (.cells ((madeCells #[.bool false] zs.length).setIfInBounds i (.bool true)) 4)).drew := ⟨_, rfl⟩
      rw [← hW7] at hb7 hbr7 ⊢
      have hr7 := hr6.below hb7
      have hb17 := hb16.trans (hb7.mono hgb)
      obtain ⟨gb, hg⟩ : ∃ gb, gb = w6.heap.size := ⟨_, rfl⟩
      rw [← hg] at hbr7 hgb ⊢
      clear hW7 hg hmc hb7 hr6 hb16 hmb hgw e1 e2 hne hgts hpq hle hd
      refine (covers_any (some ⟨b, o, none⟩) cap zs W7 M hM (by omega) hdO hr7 h.all hl (fun e => by cases e)).mono ?_
      rintro e w8 ⟨hb8, v8, C, fa, rfl, hm8, hst8, hab8, hown8⟩
      rw [prsTo_eq hm8 hst8 hab8] at hown8
      have hbr8 := hbr7.keep (hb8.block _ hbr7.lt)
      have hgl := hbr7.lt
      have hb18 := hb17.trans (hb8.mono hb17.size)
      have hst := hidden (Got.start (zs := zs) h.all (i := i))
      have hpl := prs_len zs zs.length
      have hpm : zs.length * zs.length ≤ 1048576 * 1048576 := Nat.mul_le_mul hl hl
      have hpr : (prs zs zs.length).length ≤ 1048576 * 1048576 := Nat.le_trans hpl hpm
      obtain ⟨pa, pcc, hv, _, _⟩ := rowP_of_owns hown8
      subst hv
      clear hm8 hst8 hab8 hb8 hbr7 hb17 hr7 hpl hpm
      go_wp2_with fail
      go_loopw [10] (fun t wr => ∃ (tt : Nat) (R : Nat → Bool), tt ≤ 65 ∧ t = .int .i64 tt ∧ BRow wr gb zs.length R ∧ Hid (Got zs i tt 0 R) ∧ wr.ownsRow W7.heap.size 51 2 (.slice pa (prs zs zs.length).length pcc) (prs zs zs.length).length ((prs zs zs.length).flatMap encP) ∧ Below w.heap.size w wr) (fun t _ => 65 - (intOf t).toNat)
      case atStart => exact ⟨0, _, by omega, rfl, hbr8, hst.out, hown8, hb18⟩
      case round =>
        clear hbr8 hown8 hb18 hst
        obtain ⟨tt, R, htt, rfl, hbr, hgot, hown, hbl⟩ := hrel
        by_cases ht : tt ≤ 64
        · have hti : (tt : Int) ≤ 64 := by omega
          go_wp2_with fail
          go_loopw [11] (fun t wr => ∃ (k : Nat) (R : Nat → Bool), k ≤ (prs zs zs.length).length ∧ t = .int .i64 k ∧ BRow wr gb zs.length R ∧ Hid (Got zs i tt k R) ∧ wr.ownsRow W7.heap.size 51 2 (.slice pa (prs zs zs.length).length pcc) (prs zs zs.length).length ((prs zs zs.length).flatMap encP) ∧ Below w.heap.size w wr) (fun t _ => (prs zs zs.length).length - (intOf t).toNat)
          case atStart => exact ⟨0, R, by omega, rfl, hbr, hgot, hown, hbl⟩
          case round =>
            clear hbr hown hbl hgot
            obtain ⟨k, R, hk, rfl, hbr, hgot, hown, hbl⟩ := hrel
            by_cases hkp : k < (prs zs zs.length).length
            · have hki : (k : Int) < ((prs zs zs.length).length : Int) := by omega
              obtain ⟨pa', pc', hv, hrp, _⟩ := rowP_of_owns hown
              cases hv
              obtain ⟨pb, rfl, hpb, hpc⟩ := hrp.here hkp
              have p1 := (hpc k hkp).1
              have p2 := (hpc k hkp).2
              have hin := prs_in (pair_at hkp)
              have hyes := hgot.out.yes
              have hno := hgot.out.no hkp
              obtain ⟨A, hA⟩ : ∃ A, A = fstAt (prs zs zs.length) k := ⟨_, rfl⟩
              obtain ⟨B, hB⟩ : ∃ B, B = sndAt (prs zs zs.length) k := ⟨_, rfl⟩
              rw [← hA] at p1 hin hno
              rw [← hB] at p2 hin hyes
              have hA1 : A < zs.length := hin.1
              have hB1 : B < zs.length := hin.2
              have hA0 : ¬ (A : Int) < 0 := by omega
              have hB0 : ¬ (B : Int) < 0 := by omega
              have hAi : (A : Int) < (zs.length : Int) := by omega
              have hBi : (B : Int) < (zs.length : Int) := by omega
              have HYES := hidden hyes
              have HNO := hidden hno
              have c5 := hbr.cell hA1
              have c6 := hbr.cell hB1
              have f6 := hbr.frozen B
              have HBR := hidden hbr
              have HOWN := hidden hown
              obtain ⟨V, hV⟩ : ∃ V, V = R A := ⟨_, rfl⟩
              rw [← hV] at c5 HNO
              clear hpc hA hB hin hyes hno hV hbr hown hgot hrp
              cases V with
              | false =>
                have HN2 := hidden (HNO.out rfl)
                clear HNO HYES
                go_wp2_with fail
                refine wp_region_held_drew (S := (fun w' => Below wr.heap.size wr w')) (by kernel_rfl) ?_ (fun hHeld => ?_)
                · exact (Below.refl _ _).drew
                refine take_on (i := 0) (v := ?_) rfl rfl (by kernel_rfl) (by kernel_rfl) (by kernel_rfl) (fun _ _ _ h => h) rfl ?_ hHeld ?_
                rotate_left
                · (intro wq hSq; have q1 := (hSq.cell (p := ⟨pb, k * 2, none⟩) hpb).trans p1; have q2 := (hSq.cell (p := ⟨pb, k * 2 + 1, none⟩) hpb).trans p2; go_simp <;> first | with_reducible rfl | rfl)
                simp only [Act.put, List.setIfInBounds_toArray, List.set_cons_zero, List.set_cons_succ]
                refine take_on (i := 1) (v := ?_) rfl rfl (by kernel_rfl) (by kernel_rfl) (by kernel_rfl) (fun _ _ _ h => h) rfl ?_ hHeld ?_
                rotate_left
                · (intro wq hSq; have q1 := (hSq.cell (p := ⟨pb, k * 2, none⟩) hpb).trans p1; have q2 := (hSq.cell (p := ⟨pb, k * 2 + 1, none⟩) hpb).trans p2; go_simp <;> first | with_reducible rfl | rfl)
                simp only [Act.put, List.setIfInBounds_toArray, List.set_cons_zero, List.set_cons_succ]
                refine take_on (i := 2) (v := ?_) rfl rfl (by kernel_rfl) (by kernel_rfl) (by kernel_rfl) (fun _ _ _ h => h) rfl ?_ hHeld ?_
                rotate_left
                · (intro wq hSq; have q1 := (hSq.cell (p := ⟨pb, k * 2, none⟩) hpb).trans p1; have q2 := (hSq.cell (p := ⟨pb, k * 2 + 1, none⟩) hpb).trans p2; go_simp <;> first | with_reducible rfl | rfl)
                simp only [Act.put, List.setIfInBounds_toArray, List.set_cons_zero, List.set_cons_succ]
                refine take_on (i := 3) (v := ?_) rfl rfl (by kernel_rfl) (by kernel_rfl) (by kernel_rfl) (fun _ _ _ h => h) rfl ?_ hHeld ?_
                rotate_left
                · (intro wq hSq; have q1 := (hSq.cell (p := ⟨pb, k * 2, none⟩) hpb).trans p1; have q2 := (hSq.cell (p := ⟨pb, k * 2 + 1, none⟩) hpb).trans p2; go_simp <;> first | with_reducible rfl | rfl)
                simp only [Act.put, List.setIfInBounds_toArray, List.set_cons_zero, List.set_cons_succ]
                refine take_on (i := 4) (v := ?_) rfl rfl (by kernel_rfl) (by kernel_rfl) (by kernel_rfl) (fun _ _ _ h => h) rfl ?_ hHeld ?_
                rotate_left
                · (intro wq hSq; have q1 := (hSq.cell (p := ⟨pb, k * 2, none⟩) hpb).trans p1; have q2 := (hSq.cell (p := ⟨pb, k * 2 + 1, none⟩) hpb).trans p2; go_simp <;> first | with_reducible rfl | rfl)
                simp only [Act.put, List.setIfInBounds_toArray, List.set_cons_zero, List.set_cons_succ]
                refine take_on (i := 5) (v := ?_) rfl rfl (by kernel_rfl) (by kernel_rfl) (by kernel_rfl) (fun _ _ _ h => h) rfl ?_ hHeld ?_
                rotate_left
                · (intro wq hSq; have q1 := (hSq.cell (p := ⟨pb, k * 2, none⟩) hpb).trans p1; have q2 := (hSq.cell (p := ⟨pb, k * 2 + 1, none⟩) hpb).trans p2; go_simp <;> first | with_reducible rfl | rfl)
                simp only [Act.put, List.setIfInBounds_toArray, List.set_cons_zero, List.set_cons_succ]
                refine take_on (i := 6) (v := ?_) rfl rfl (by kernel_rfl) (by kernel_rfl) (by kernel_rfl) (fun _ _ _ h => h) rfl ?_ hHeld ?_
                rotate_left
                · (intro wq hSq; have q1 := (hSq.cell (p := ⟨pb, k * 2, none⟩) hpb).trans p1; have q2 := (hSq.cell (p := ⟨pb, k * 2 + 1, none⟩) hpb).trans p2; go_simp <;> first | with_reducible rfl | rfl)
                simp only [Act.put, List.setIfInBounds_toArray, List.set_cons_zero, List.set_cons_succ]
                refine take_on (i := 7) (v := ?_) rfl rfl (by kernel_rfl) (by kernel_rfl) (by kernel_rfl) (fun _ _ _ h => h) rfl ?_ hHeld ?_
                rotate_left
                · (intro wq hSq; have q1 := (hSq.cell (p := ⟨pb, k * 2, none⟩) hpb).trans p1; have q2 := (hSq.cell (p := ⟨pb, k * 2 + 1, none⟩) hpb).trans p2; go_simp <;> first | with_reducible rfl | rfl)
                simp only [Act.put, List.setIfInBounds_toArray, List.set_cons_zero, List.set_cons_succ]
                refine take_on (i := 8) (v := ?_) rfl rfl (by kernel_rfl) (by kernel_rfl) (by kernel_rfl) (fun _ _ _ h => h) rfl ?_ hHeld ?_
                rotate_left
                · (intro wq hSq; have q1 := (hSq.cell (p := ⟨pb, k * 2, none⟩) hpb).trans p1; have q2 := (hSq.cell (p := ⟨pb, k * 2 + 1, none⟩) hpb).trans p2; go_simp <;> first | with_reducible rfl | rfl)
                simp only [Act.put, List.setIfInBounds_toArray, List.set_cons_zero, List.set_cons_succ]
                refine take_on (i := 9) (v := ?_) rfl rfl (by kernel_rfl) (by kernel_rfl) (by kernel_rfl) (fun _ _ _ h => h) rfl ?_ hHeld ?_
                rotate_left
                · (intro wq hSq; have q1 := (hSq.cell (p := ⟨pb, k * 2, none⟩) hpb).trans p1; have q2 := (hSq.cell (p := ⟨pb, k * 2 + 1, none⟩) hpb).trans p2; go_simp <;> first | with_reducible rfl | rfl)
                simp only [Act.put, List.setIfInBounds_toArray, List.set_cons_zero, List.set_cons_succ]
                refine take_on (i := 10) (v := ?_) rfl rfl (by kernel_rfl) (by kernel_rfl) (by kernel_rfl) (fun _ _ _ h => h) rfl ?_ hHeld ?_
                rotate_left
                · (intro wq hSq; have q1 := (hSq.cell (p := ⟨pb, k * 2, none⟩) hpb).trans p1; have q2 := (hSq.cell (p := ⟨pb, k * 2 + 1, none⟩) hpb).trans p2; go_simp <;> first | with_reducible rfl | rfl)
                simp only [Act.put, List.setIfInBounds_toArray, List.set_cons_zero, List.set_cons_succ]
                refine take_on (i := 11) (v := ?_) rfl rfl (by kernel_rfl) (by kernel_rfl) (by kernel_rfl) (fun _ _ _ h => h) rfl ?_ hHeld ?_
                rotate_left
                · (intro wq hSq; have q1 := (hSq.cell (p := ⟨pb, k * 2, none⟩) hpb).trans p1; have q2 := (hSq.cell (p := ⟨pb, k * 2 + 1, none⟩) hpb).trans p2; go_simp <;> first | with_reducible rfl | rfl)
                simp only [Act.put, List.setIfInBounds_toArray, List.set_cons_zero, List.set_cons_succ]
                refine wpAnyH_done (by kernel_rfl) ?_ _
                go_wp2_with fail
                go_roundw
                case rel => exact ⟨k + 1, R, by omega, by go_num, HBR.out.drewN 1, HN2.out, HOWN.out, hbl.drew⟩
                case measure => simp [intOf]; omega
              | true =>
                clear HNO
                go_wp2_with fail
                refine wp_region_held_drew (S := (fun w' => Below wr.heap.size wr w')) (by kernel_rfl) ?_ (fun hHeld => ?_)
                · exact (Below.refl _ _).drew
                refine take_on (i := 0) (v := ?_) rfl rfl (by kernel_rfl) (by kernel_rfl) (by kernel_rfl) (fun _ _ _ h => h) rfl ?_ hHeld ?_
                rotate_left
                · (intro wq hSq; have q1 := (hSq.cell (p := ⟨pb, k * 2, none⟩) hpb).trans p1; have q2 := (hSq.cell (p := ⟨pb, k * 2 + 1, none⟩) hpb).trans p2; go_simp <;> first | with_reducible rfl | rfl)
                simp only [Act.put, List.setIfInBounds_toArray, List.set_cons_zero, List.set_cons_succ]
                refine take_on (i := 1) (v := ?_) rfl rfl (by kernel_rfl) (by kernel_rfl) (by kernel_rfl) (fun _ _ _ h => h) rfl ?_ hHeld ?_
                rotate_left
                · (intro wq hSq; have q1 := (hSq.cell (p := ⟨pb, k * 2, none⟩) hpb).trans p1; have q2 := (hSq.cell (p := ⟨pb, k * 2 + 1, none⟩) hpb).trans p2; go_simp <;> first | with_reducible rfl | rfl)
                simp only [Act.put, List.setIfInBounds_toArray, List.set_cons_zero, List.set_cons_succ]
                refine take_on (i := 2) (v := ?_) rfl rfl (by kernel_rfl) (by kernel_rfl) (by kernel_rfl) (fun _ _ _ h => h) rfl ?_ hHeld ?_
                rotate_left
                · (intro wq hSq; have q1 := (hSq.cell (p := ⟨pb, k * 2, none⟩) hpb).trans p1; have q2 := (hSq.cell (p := ⟨pb, k * 2 + 1, none⟩) hpb).trans p2; go_simp <;> first | with_reducible rfl | rfl)
                simp only [Act.put, List.setIfInBounds_toArray, List.set_cons_zero, List.set_cons_succ]
                refine take_on (i := 3) (v := ?_) rfl rfl (by kernel_rfl) (by kernel_rfl) (by kernel_rfl) (fun _ _ _ h => h) rfl ?_ hHeld ?_
                rotate_left
                · (intro wq hSq; have q1 := (hSq.cell (p := ⟨pb, k * 2, none⟩) hpb).trans p1; have q2 := (hSq.cell (p := ⟨pb, k * 2 + 1, none⟩) hpb).trans p2; go_simp <;> first | with_reducible rfl | rfl)
                simp only [Act.put, List.setIfInBounds_toArray, List.set_cons_zero, List.set_cons_succ]
                refine take_on (i := 4) (v := ?_) rfl rfl (by kernel_rfl) (by kernel_rfl) (by kernel_rfl) (fun _ _ _ h => h) rfl ?_ hHeld ?_
                rotate_left
                · (intro wq hSq; have q1 := (hSq.cell (p := ⟨pb, k * 2, none⟩) hpb).trans p1; have q2 := (hSq.cell (p := ⟨pb, k * 2 + 1, none⟩) hpb).trans p2; go_simp <;> first | with_reducible rfl | rfl)
                simp only [Act.put, List.setIfInBounds_toArray, List.set_cons_zero, List.set_cons_succ]
                refine take_on (i := 5) (v := ?_) rfl rfl (by kernel_rfl) (by kernel_rfl) (by kernel_rfl) (fun _ _ _ h => h) rfl ?_ hHeld ?_
                rotate_left
                · (intro wq hSq; have q1 := (hSq.cell (p := ⟨pb, k * 2, none⟩) hpb).trans p1; have q2 := (hSq.cell (p := ⟨pb, k * 2 + 1, none⟩) hpb).trans p2; go_simp <;> first | with_reducible rfl | rfl)
                simp only [Act.put, List.setIfInBounds_toArray, List.set_cons_zero, List.set_cons_succ]
                refine take_on (i := 6) (v := ?_) rfl rfl (by kernel_rfl) (by kernel_rfl) (by kernel_rfl) (fun _ _ _ h => h) rfl ?_ hHeld ?_
                rotate_left
                · (intro wq hSq; have q1 := (hSq.cell (p := ⟨pb, k * 2, none⟩) hpb).trans p1; have q2 := (hSq.cell (p := ⟨pb, k * 2 + 1, none⟩) hpb).trans p2; go_simp <;> first | with_reducible rfl | rfl)
                simp only [Act.put, List.setIfInBounds_toArray, List.set_cons_zero, List.set_cons_succ]
                refine take_on (i := 7) (v := ?_) rfl rfl (by kernel_rfl) (by kernel_rfl) (by kernel_rfl) (fun _ _ _ h => h) rfl ?_ hHeld ?_
                rotate_left
                · (intro wq hSq; have q1 := (hSq.cell (p := ⟨pb, k * 2, none⟩) hpb).trans p1; have q2 := (hSq.cell (p := ⟨pb, k * 2 + 1, none⟩) hpb).trans p2; go_simp <;> first | with_reducible rfl | rfl)
                simp only [Act.put, List.setIfInBounds_toArray, List.set_cons_zero, List.set_cons_succ]
                refine take_on (i := 8) (v := ?_) rfl rfl (by kernel_rfl) (by kernel_rfl) (by kernel_rfl) (fun _ _ _ h => h) rfl ?_ hHeld ?_
                rotate_left
                · (intro wq hSq; have q1 := (hSq.cell (p := ⟨pb, k * 2, none⟩) hpb).trans p1; have q2 := (hSq.cell (p := ⟨pb, k * 2 + 1, none⟩) hpb).trans p2; go_simp <;> first | with_reducible rfl | rfl)
                simp only [Act.put, List.setIfInBounds_toArray, List.set_cons_zero, List.set_cons_succ]
                refine take_on (i := 9) (v := ?_) rfl rfl (by kernel_rfl) (by kernel_rfl) (by kernel_rfl) (fun _ _ _ h => h) rfl ?_ hHeld ?_
                rotate_left
                · (intro wq hSq; have q1 := (hSq.cell (p := ⟨pb, k * 2, none⟩) hpb).trans p1; have q2 := (hSq.cell (p := ⟨pb, k * 2 + 1, none⟩) hpb).trans p2; go_simp <;> first | with_reducible rfl | rfl)
                simp only [Act.put, List.setIfInBounds_toArray, List.set_cons_zero, List.set_cons_succ]
                refine take_on (i := 10) (v := ?_) rfl rfl (by kernel_rfl) (by kernel_rfl) (by kernel_rfl) (fun _ _ _ h => h) rfl ?_ hHeld ?_
                rotate_left
                · (intro wq hSq; have q1 := (hSq.cell (p := ⟨pb, k * 2, none⟩) hpb).trans p1; have q2 := (hSq.cell (p := ⟨pb, k * 2 + 1, none⟩) hpb).trans p2; go_simp <;> first | with_reducible rfl | rfl)
                simp only [Act.put, List.setIfInBounds_toArray, List.set_cons_zero, List.set_cons_succ]
                refine take_on (i := 11) (v := ?_) rfl rfl (by kernel_rfl) (by kernel_rfl) (by kernel_rfl) (fun _ _ _ h => h) rfl ?_ hHeld ?_
                rotate_left
                · (intro wq hSq; have q1 := (hSq.cell (p := ⟨pb, k * 2, none⟩) hpb).trans p1; have q2 := (hSq.cell (p := ⟨pb, k * 2 + 1, none⟩) hpb).trans p2; go_simp <;> first | with_reducible rfl | rfl)
                simp only [Act.put, List.setIfInBounds_toArray, List.set_cons_zero, List.set_cons_succ]
                refine wpAnyH_done (by kernel_rfl) ?_ _
                go_wp2_with fail
                go_roundw
                case rel => exact ⟨k + 1, _, by omega, by go_num, (HBR.out.drewN 1).set B true (fun _ _ => rfl), HYES.out, owns_other (w := wr.drew) HOWN.out hgl B (.bool true), hbl.drew.setCell hgb _⟩
                case measure => simp [intOf]; omega
            · have hke : k = (prs zs zs.length).length := by omega
              have hg2 := hgot.out
              rw [hke] at hg2
              have HG := hidden (Got.turn h.all hi hg2)
              clear hg2 hke hgot
              go_wp2_with fail
              go_roundw
              case rel => exact ⟨tt + 1, R, by omega, by go_num, hbr, HG.out, hown, hbl⟩
              case measure => simp [intOf]; omega
        · have hte : tt = 65 := by omega
          subst hte
          have hfin := Got.fin hgot.out hj HBEL.out
          have c9 := hbr.cell hj
          rw [hfin] at c9
          clear hfin
          go_wp2_with fail
          go_ret
          exact ⟨rfl, hbl⟩

end Go.Proofs.Ythclmkmajlinhaa.labelWays

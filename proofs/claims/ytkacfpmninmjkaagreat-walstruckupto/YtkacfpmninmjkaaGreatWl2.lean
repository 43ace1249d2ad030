/- The program's log, walked: Sync, Cut, Trim, Bounds, bytes, Group. -/
import Derived.Test.YtkacfpmninmjkaaGreatWl1
namespace Go.Proofs.YtkacfpmninmjkaaGreat
open Go.RowKit

section
variable {w : World} {F : Nat → Prop} {L p i : Nat} {am : Bool} {n : Nat} {s : Nat → Pt}

set_option maxRecDepth 100000 in
set_option maxHeartbeats 400000 in
theorem lsync_any (h : Dsk w F p am n s) (hi : i < n) (hL : Lg w L p i) (hFL : ¬ F L) (hcb : (s i).c ≤ 4611686018427387904) :
    Calls Tryz.prog 45 #[.pointer (some ⟨L, 0, none⟩)] w fun e w' => Opd w F p am n (upd s i (opS am (s i) 1 0 []).2) (opS am (s i) 1 0 []).1 e w' := by
  have hFl := h.lt
  have hap := opSync (h.below (Below.refl _ _).drew) i hi 0 [] hcb
  obtain ⟨l0, l1⟩ := hL.cells
  have hLt := hL.lt
  generalize opS am (s i) 1 0 [] = T at *
  clear h hL
  go_enter Tryz.func45, Tryz.ntmps45
  go_wp2_with fail
  refine wp_region_held_drew (S := (fun w' => w'.heap[L]? = w.heap[L]?)) (by kernel_rfl) ?_ (fun hHeld => ?_)
  · rfl
  refine take_on (i := 0) (v := ?_) rfl rfl (by kernel_rfl) (by kernel_rfl) (by kernel_rfl) (fun _ _ _ h => h) rfl ?_ hHeld ?_
  rotate_left
  · (intro wq hSq; have q0 := (World.cell?_of_block (w := w) (a := ⟨L, 0, none⟩) hSq).trans l0; have q1 := (World.cell?_of_block (w := w) (a := ⟨L, 1, none⟩) hSq).trans l1; go_simp <;> first | with_reducible rfl | rfl)
  simp only [Act.put, List.setIfInBounds_toArray, List.set_cons_zero, List.set_cons_succ]
  refine take_on (i := 1) (v := ?_) rfl rfl (by kernel_rfl) (by kernel_rfl) (by kernel_rfl) (fun _ _ _ h => h) rfl ?_ hHeld ?_
  rotate_left
  · (intro wq hSq; have q0 := (World.cell?_of_block (w := w) (a := ⟨L, 0, none⟩) hSq).trans l0; have q1 := (World.cell?_of_block (w := w) (a := ⟨L, 1, none⟩) hSq).trans l1; go_simp <;> first | with_reducible rfl | rfl)
  simp only [Act.put, List.setIfInBounds_toArray, List.set_cons_zero, List.set_cons_succ]
  refine take_on (i := 2) (v := ?_) rfl rfl (by kernel_rfl) (by kernel_rfl) (by kernel_rfl) (fun _ _ _ h => h) rfl ?_ hHeld ?_
  rotate_left
  · (intro wq hSq; have q0 := (World.cell?_of_block (w := w) (a := ⟨L, 0, none⟩) hSq).trans l0; have q1 := (World.cell?_of_block (w := w) (a := ⟨L, 1, none⟩) hSq).trans l1; go_simp <;> first | with_reducible rfl | rfl)
  simp only [Act.put, List.setIfInBounds_toArray, List.set_cons_zero, List.set_cons_succ]
  refine take_on (i := 3) (v := ?_) rfl rfl (by kernel_rfl) (by kernel_rfl) (by kernel_rfl) (fun _ _ _ h => h) rfl ?_ hHeld ?_
  rotate_left
  · (intro wq hSq; have q0 := (World.cell?_of_block (w := w) (a := ⟨L, 0, none⟩) hSq).trans l0; have q1 := (World.cell?_of_block (w := w) (a := ⟨L, 1, none⟩) hSq).trans l1; go_simp <;> first | with_reducible rfl | rfl)
  simp only [Act.put, List.setIfInBounds_toArray, List.set_cons_zero, List.set_cons_succ]
  refine take_on (i := 4) (v := ?_) rfl rfl (by kernel_rfl) (by kernel_rfl) (by kernel_rfl) (fun _ _ _ h => h) rfl ?_ hHeld ?_
  rotate_left
  · (intro wq hSq; have q0 := (World.cell?_of_block (w := w) (a := ⟨L, 0, none⟩) hSq).trans l0; have q1 := (World.cell?_of_block (w := w) (a := ⟨L, 1, none⟩) hSq).trans l1; go_simp <;> first | with_reducible rfl | rfl)
  simp only [Act.put, List.setIfInBounds_toArray, List.set_cons_zero, List.set_cons_succ]
  refine take_on (i := 5) (v := ?_) rfl rfl (by kernel_rfl) (by kernel_rfl) (by kernel_rfl) (fun _ _ _ h => h) rfl ?_ hHeld ?_
  rotate_left
  · (intro wq hSq; have q0 := (World.cell?_of_block (w := w) (a := ⟨L, 0, none⟩) hSq).trans l0; have q1 := (World.cell?_of_block (w := w) (a := ⟨L, 1, none⟩) hSq).trans l1; go_simp <;> first | with_reducible rfl | rfl)
  simp only [Act.put, List.setIfInBounds_toArray, List.set_cons_zero, List.set_cons_succ]
  refine take_on (i := 6) (v := ?_) rfl rfl (by kernel_rfl) (by kernel_rfl) (by kernel_rfl) (fun _ _ _ h => h) rfl ?_ hHeld ?_
  rotate_left
  · (intro wq hSq; have q0 := (World.cell?_of_block (w := w) (a := ⟨L, 0, none⟩) hSq).trans l0; have q1 := (World.cell?_of_block (w := w) (a := ⟨L, 1, none⟩) hSq).trans l1; go_simp <;> first | with_reducible rfl | rfl)
  simp only [Act.put, List.setIfInBounds_toArray, List.set_cons_zero, List.set_cons_succ]
  refine take_on (i := 7) (v := ?_) rfl rfl (by kernel_rfl) (by kernel_rfl) (by kernel_rfl) (fun _ _ _ h => h) rfl ?_ hHeld ?_
  rotate_left
  · (intro wq hSq; have q0 := (World.cell?_of_block (w := w) (a := ⟨L, 0, none⟩) hSq).trans l0; have q1 := (World.cell?_of_block (w := w) (a := ⟨L, 1, none⟩) hSq).trans l1; go_simp <;> first | with_reducible rfl | rfl)
  simp only [Act.put, List.setIfInBounds_toArray, List.set_cons_zero, List.set_cons_succ]
  refine take_one (i := 8) rfl (by kernel_rfl) (fun K hK => ?_)
  go_simp
  refine hap.mono ?_; rintro e4 w4 hq4; have he4 := hq4.ans; subst he4
  try go_wp2_with fail
  refine hK.out _ _ ?_ (fun hHeld => ?_)
  · exact hq4.went.chg.block L hLt hFL
  clear hK K
  try simp only [Act.put, List.setIfInBounds_toArray, List.set_cons_zero, List.set_cons_succ]
  refine take_on (i := 9) (v := ?_) rfl rfl (by kernel_rfl) (by kernel_rfl) (by kernel_rfl) (fun _ _ _ h => h) rfl ?_ hHeld ?_
  rotate_left
  · (intro wq hSq; have q0 := (World.cell?_of_block (w := w) (a := ⟨L, 0, none⟩) hSq).trans l0; have q1 := (World.cell?_of_block (w := w) (a := ⟨L, 1, none⟩) hSq).trans l1; go_simp <;> first | with_reducible rfl | rfl)
  simp only [Act.put, List.setIfInBounds_toArray, List.set_cons_zero, List.set_cons_succ]
  refine wpAnyH_done (by kernel_rfl) ?_ _
  go_wp2_with fail
  go_ret
  exact ⟨rfl, Went.behind (Below.refl _ _).drew hq4.went hFl⟩

set_option maxRecDepth 100000 in
set_option maxHeartbeats 400000 in
theorem lcut_any (h : Dsk w F p am n s) (hi : i < n) (hL : Lg w L p i) (hFL : ¬ F L) (hcb : (s i).c ≤ 4611686018427387904) (A : Int) :
    Calls Tryz.prog 30 #[.pointer (some ⟨L, 0, none⟩), .int .i64 A] w fun e w' => Opd w F p am n (upd s i (opS am (s i) 2 A []).2) (opS am (s i) 2 A []).1 e w' := by
  have hFl := h.lt
  have hap := opCut (h.below (Below.refl _ _).drew) i hi A [] hcb
  obtain ⟨l0, l1⟩ := hL.cells
  have hLt := hL.lt
  generalize opS am (s i) 2 A [] = T at *
  clear h hL
  go_enter Tryz.func30, Tryz.ntmps30
  go_wp2_with fail
  refine wp_region_held_drew (S := (fun w' => w'.heap[L]? = w.heap[L]?)) (by kernel_rfl) ?_ (fun hHeld => ?_)
  · rfl
  refine take_on (i := 0) (v := ?_) rfl rfl (by kernel_rfl) (by kernel_rfl) (by kernel_rfl) (fun _ _ _ h => h) rfl ?_ hHeld ?_
  rotate_left
  · (intro wq hSq; have q0 := (World.cell?_of_block (w := w) (a := ⟨L, 0, none⟩) hSq).trans l0; have q1 := (World.cell?_of_block (w := w) (a := ⟨L, 1, none⟩) hSq).trans l1; go_simp <;> first | with_reducible rfl | rfl)
  simp only [Act.put, List.setIfInBounds_toArray, List.set_cons_zero, List.set_cons_succ]
  refine take_on (i := 1) (v := ?_) rfl rfl (by kernel_rfl) (by kernel_rfl) (by kernel_rfl) (fun _ _ _ h => h) rfl ?_ hHeld ?_
  rotate_left
  · (intro wq hSq; have q0 := (World.cell?_of_block (w := w) (a := ⟨L, 0, none⟩) hSq).trans l0; have q1 := (World.cell?_of_block (w := w) (a := ⟨L, 1, none⟩) hSq).trans l1; go_simp <;> first | with_reducible rfl | rfl)
  simp only [Act.put, List.setIfInBounds_toArray, List.set_cons_zero, List.set_cons_succ]
  refine take_on (i := 2) (v := ?_) rfl rfl (by kernel_rfl) (by kernel_rfl) (by kernel_rfl) (fun _ _ _ h => h) rfl ?_ hHeld ?_
  rotate_left
  · (intro wq hSq; have q0 := (World.cell?_of_block (w := w) (a := ⟨L, 0, none⟩) hSq).trans l0; have q1 := (World.cell?_of_block (w := w) (a := ⟨L, 1, none⟩) hSq).trans l1; go_simp <;> first | with_reducible rfl | rfl)
  simp only [Act.put, List.setIfInBounds_toArray, List.set_cons_zero, List.set_cons_succ]
  refine take_on (i := 3) (v := ?_) rfl rfl (by kernel_rfl) (by kernel_rfl) (by kernel_rfl) (fun _ _ _ h => h) rfl ?_ hHeld ?_
  rotate_left
  · (intro wq hSq; have q0 := (World.cell?_of_block (w := w) (a := ⟨L, 0, none⟩) hSq).trans l0; have q1 := (World.cell?_of_block (w := w) (a := ⟨L, 1, none⟩) hSq).trans l1; go_simp <;> first | with_reducible rfl | rfl)
  simp only [Act.put, List.setIfInBounds_toArray, List.set_cons_zero, List.set_cons_succ]
  refine take_on (i := 4) (v := ?_) rfl rfl (by kernel_rfl) (by kernel_rfl) (by kernel_rfl) (fun _ _ _ h => h) rfl ?_ hHeld ?_
  rotate_left
  · (intro wq hSq; have q0 := (World.cell?_of_block (w := w) (a := ⟨L, 0, none⟩) hSq).trans l0; have q1 := (World.cell?_of_block (w := w) (a := ⟨L, 1, none⟩) hSq).trans l1; go_simp <;> first | with_reducible rfl | rfl)
  simp only [Act.put, List.setIfInBounds_toArray, List.set_cons_zero, List.set_cons_succ]
  refine take_on (i := 5) (v := ?_) rfl rfl (by kernel_rfl) (by kernel_rfl) (by kernel_rfl) (fun _ _ _ h => h) rfl ?_ hHeld ?_
  rotate_left
  · (intro wq hSq; have q0 := (World.cell?_of_block (w := w) (a := ⟨L, 0, none⟩) hSq).trans l0; have q1 := (World.cell?_of_block (w := w) (a := ⟨L, 1, none⟩) hSq).trans l1; go_simp <;> first | with_reducible rfl | rfl)
  simp only [Act.put, List.setIfInBounds_toArray, List.set_cons_zero, List.set_cons_succ]
  refine take_on (i := 6) (v := ?_) rfl rfl (by kernel_rfl) (by kernel_rfl) (by kernel_rfl) (fun _ _ _ h => h) rfl ?_ hHeld ?_
  rotate_left
  · (intro wq hSq; have q0 := (World.cell?_of_block (w := w) (a := ⟨L, 0, none⟩) hSq).trans l0; have q1 := (World.cell?_of_block (w := w) (a := ⟨L, 1, none⟩) hSq).trans l1; go_simp <;> first | with_reducible rfl | rfl)
  simp only [Act.put, List.setIfInBounds_toArray, List.set_cons_zero, List.set_cons_succ]
  refine take_on (i := 7) (v := ?_) rfl rfl (by kernel_rfl) (by kernel_rfl) (by kernel_rfl) (fun _ _ _ h => h) rfl ?_ hHeld ?_
  rotate_left
  · (intro wq hSq; have q0 := (World.cell?_of_block (w := w) (a := ⟨L, 0, none⟩) hSq).trans l0; have q1 := (World.cell?_of_block (w := w) (a := ⟨L, 1, none⟩) hSq).trans l1; go_simp <;> first | with_reducible rfl | rfl)
  simp only [Act.put, List.setIfInBounds_toArray, List.set_cons_zero, List.set_cons_succ]
  refine take_on (i := 8) (v := ?_) rfl rfl (by kernel_rfl) (by kernel_rfl) (by kernel_rfl) (fun _ _ _ h => h) rfl ?_ hHeld ?_
  rotate_left
  · (intro wq hSq; have q0 := (World.cell?_of_block (w := w) (a := ⟨L, 0, none⟩) hSq).trans l0; have q1 := (World.cell?_of_block (w := w) (a := ⟨L, 1, none⟩) hSq).trans l1; go_simp <;> first | with_reducible rfl | rfl)
  simp only [Act.put, List.setIfInBounds_toArray, List.set_cons_zero, List.set_cons_succ]
  refine take_one (i := 9) rfl (by kernel_rfl) (fun K hK => ?_)
  go_simp
  refine hap.mono ?_; rintro e4 w4 hq4; have he4 := hq4.ans; subst he4
  try go_wp2_with fail
  refine hK.out _ _ ?_ (fun hHeld => ?_)
  · exact hq4.went.chg.block L hLt hFL
  clear hK K
  try simp only [Act.put, List.setIfInBounds_toArray, List.set_cons_zero, List.set_cons_succ]
  refine take_on (i := 10) (v := ?_) rfl rfl (by kernel_rfl) (by kernel_rfl) (by kernel_rfl) (fun _ _ _ h => h) rfl ?_ hHeld ?_
  rotate_left
  · (intro wq hSq; have q0 := (World.cell?_of_block (w := w) (a := ⟨L, 0, none⟩) hSq).trans l0; have q1 := (World.cell?_of_block (w := w) (a := ⟨L, 1, none⟩) hSq).trans l1; go_simp <;> first | with_reducible rfl | rfl)
  simp only [Act.put, List.setIfInBounds_toArray, List.set_cons_zero, List.set_cons_succ]
  refine wpAnyH_done (by kernel_rfl) ?_ _
  go_wp2_with fail
  go_ret
  exact ⟨rfl, Went.behind (Below.refl _ _).drew hq4.went hFl⟩

set_option maxRecDepth 100000 in
set_option maxHeartbeats 400000 in
theorem ltrim_any (h : Dsk w F p am n s) (hi : i < n) (hL : Lg w L p i) (hFL : ¬ F L) (hcb : (s i).c ≤ 4611686018427387904) (A : Int) :
    Calls Tryz.prog 28 #[.pointer (some ⟨L, 0, none⟩), .int .i64 A] w fun e w' => Opd w F p am n (upd s i (opS am (s i) 3 A []).2) (opS am (s i) 3 A []).1 e w' := by
  have hFl := h.lt
  have hap := opTrim (h.below (Below.refl _ _).drew) i hi A [] hcb
  obtain ⟨l0, l1⟩ := hL.cells
  have hLt := hL.lt
  generalize opS am (s i) 3 A [] = T at *
  clear h hL
  go_enter Tryz.func28, Tryz.ntmps28
  go_wp2_with fail
  refine wp_region_held_drew (S := (fun w' => w'.heap[L]? = w.heap[L]?)) (by kernel_rfl) ?_ (fun hHeld => ?_)
  · rfl
  refine take_on (i := 0) (v := ?_) rfl rfl (by kernel_rfl) (by kernel_rfl) (by kernel_rfl) (fun _ _ _ h => h) rfl ?_ hHeld ?_
  rotate_left
  · (intro wq hSq; have q0 := (World.cell?_of_block (w := w) (a := ⟨L, 0, none⟩) hSq).trans l0; have q1 := (World.cell?_of_block (w := w) (a := ⟨L, 1, none⟩) hSq).trans l1; go_simp <;> first | with_reducible rfl | rfl)
  simp only [Act.put, List.setIfInBounds_toArray, List.set_cons_zero, List.set_cons_succ]
  refine take_on (i := 1) (v := ?_) rfl rfl (by kernel_rfl) (by kernel_rfl) (by kernel_rfl) (fun _ _ _ h => h) rfl ?_ hHeld ?_
  rotate_left
  · (intro wq hSq; have q0 := (World.cell?_of_block (w := w) (a := ⟨L, 0, none⟩) hSq).trans l0; have q1 := (World.cell?_of_block (w := w) (a := ⟨L, 1, none⟩) hSq).trans l1; go_simp <;> first | with_reducible rfl | rfl)
  simp only [Act.put, List.setIfInBounds_toArray, List.set_cons_zero, List.set_cons_succ]
  refine take_on (i := 2) (v := ?_) rfl rfl (by kernel_rfl) (by kernel_rfl) (by kernel_rfl) (fun _ _ _ h => h) rfl ?_ hHeld ?_
  rotate_left
  · (intro wq hSq; have q0 := (World.cell?_of_block (w := w) (a := ⟨L, 0, none⟩) hSq).trans l0; have q1 := (World.cell?_of_block (w := w) (a := ⟨L, 1, none⟩) hSq).trans l1; go_simp <;> first | with_reducible rfl | rfl)
  simp only [Act.put, List.setIfInBounds_toArray, List.set_cons_zero, List.set_cons_succ]
  refine take_on (i := 3) (v := ?_) rfl rfl (by kernel_rfl) (by kernel_rfl) (by kernel_rfl) (fun _ _ _ h => h) rfl ?_ hHeld ?_
  rotate_left
  · (intro wq hSq; have q0 := (World.cell?_of_block (w := w) (a := ⟨L, 0, none⟩) hSq).trans l0; have q1 := (World.cell?_of_block (w := w) (a := ⟨L, 1, none⟩) hSq).trans l1; go_simp <;> first | with_reducible rfl | rfl)
  simp only [Act.put, List.setIfInBounds_toArray, List.set_cons_zero, List.set_cons_succ]
  refine take_on (i := 4) (v := ?_) rfl rfl (by kernel_rfl) (by kernel_rfl) (by kernel_rfl) (fun _ _ _ h => h) rfl ?_ hHeld ?_
  rotate_left
  · (intro wq hSq; have q0 := (World.cell?_of_block (w := w) (a := ⟨L, 0, none⟩) hSq).trans l0; have q1 := (World.cell?_of_block (w := w) (a := ⟨L, 1, none⟩) hSq).trans l1; go_simp <;> first | with_reducible rfl | rfl)
  simp only [Act.put, List.setIfInBounds_toArray, List.set_cons_zero, List.set_cons_succ]
  refine take_on (i := 5) (v := ?_) rfl rfl (by kernel_rfl) (by kernel_rfl) (by kernel_rfl) (fun _ _ _ h => h) rfl ?_ hHeld ?_
  rotate_left
  · (intro wq hSq; have q0 := (World.cell?_of_block (w := w) (a := ⟨L, 0, none⟩) hSq).trans l0; have q1 := (World.cell?_of_block (w := w) (a := ⟨L, 1, none⟩) hSq).trans l1; go_simp <;> first | with_reducible rfl | rfl)
  simp only [Act.put, List.setIfInBounds_toArray, List.set_cons_zero, List.set_cons_succ]
  refine take_on (i := 6) (v := ?_) rfl rfl (by kernel_rfl) (by kernel_rfl) (by kernel_rfl) (fun _ _ _ h => h) rfl ?_ hHeld ?_
  rotate_left
  · (intro wq hSq; have q0 := (World.cell?_of_block (w := w) (a := ⟨L, 0, none⟩) hSq).trans l0; have q1 := (World.cell?_of_block (w := w) (a := ⟨L, 1, none⟩) hSq).trans l1; go_simp <;> first | with_reducible rfl | rfl)
  simp only [Act.put, List.setIfInBounds_toArray, List.set_cons_zero, List.set_cons_succ]
  refine take_on (i := 7) (v := ?_) rfl rfl (by kernel_rfl) (by kernel_rfl) (by kernel_rfl) (fun _ _ _ h => h) rfl ?_ hHeld ?_
  rotate_left
  · (intro wq hSq; have q0 := (World.cell?_of_block (w := w) (a := ⟨L, 0, none⟩) hSq).trans l0; have q1 := (World.cell?_of_block (w := w) (a := ⟨L, 1, none⟩) hSq).trans l1; go_simp <;> first | with_reducible rfl | rfl)
  simp only [Act.put, List.setIfInBounds_toArray, List.set_cons_zero, List.set_cons_succ]
  refine take_on (i := 8) (v := ?_) rfl rfl (by kernel_rfl) (by kernel_rfl) (by kernel_rfl) (fun _ _ _ h => h) rfl ?_ hHeld ?_
  rotate_left
  · (intro wq hSq; have q0 := (World.cell?_of_block (w := w) (a := ⟨L, 0, none⟩) hSq).trans l0; have q1 := (World.cell?_of_block (w := w) (a := ⟨L, 1, none⟩) hSq).trans l1; go_simp <;> first | with_reducible rfl | rfl)
  simp only [Act.put, List.setIfInBounds_toArray, List.set_cons_zero, List.set_cons_succ]
  refine take_one (i := 9) rfl (by kernel_rfl) (fun K hK => ?_)
  go_simp
  refine hap.mono ?_; rintro e4 w4 hq4; have he4 := hq4.ans; subst he4
  try go_wp2_with fail
  refine hK.out _ _ ?_ (fun hHeld => ?_)
  · exact hq4.went.chg.block L hLt hFL
  clear hK K
  try simp only [Act.put, List.setIfInBounds_toArray, List.set_cons_zero, List.set_cons_succ]
  refine take_on (i := 10) (v := ?_) rfl rfl (by kernel_rfl) (by kernel_rfl) (by kernel_rfl) (fun _ _ _ h => h) rfl ?_ hHeld ?_
  rotate_left
  · (intro wq hSq; have q0 := (World.cell?_of_block (w := w) (a := ⟨L, 0, none⟩) hSq).trans l0; have q1 := (World.cell?_of_block (w := w) (a := ⟨L, 1, none⟩) hSq).trans l1; go_simp <;> first | with_reducible rfl | rfl)
  simp only [Act.put, List.setIfInBounds_toArray, List.set_cons_zero, List.set_cons_succ]
  refine wpAnyH_done (by kernel_rfl) ?_ _
  go_wp2_with fail
  go_ret
  exact ⟨rfl, Went.behind (Below.refl _ _).drew hq4.went hFl⟩

set_option maxRecDepth 100000 in
set_option maxHeartbeats 400000 in
theorem lbounds_any (h : Dsk w F p am n s) (hi : i < n) (hL : Lg w L p i) :
    Calls Tryz.prog 24 #[.pointer (some ⟨L, 0, none⟩)] w fun e w' => e = .returned (.tuple #[.int .i64 ((s i).B : Int), .int .i64 (((s i).B + (s i).k : Nat) : Int), .int .i64 (((s i).B + (s i).bs.length : Nat) : Int)]) ∧ Below w.heap.size w w' := by
  have hbd := bounds_ok (h.below (Below.refl _ _).drew) i hi
  obtain ⟨l0, l1⟩ := hL.cells
  have hLt := hL.lt
  generalize ((s i).B + (s i).k) = X1 at *
  generalize ((s i).B + (s i).bs.length) = X2 at *
  clear h hL
  go_enter Tryz.func24, Tryz.ntmps24
  go_wp2_with fail
  refine wp_region_held_drew (S := (fun w' => w'.heap[L]? = w.heap[L]?)) (by kernel_rfl) ?_ (fun hHeld => ?_)
  · rfl
  refine take_on (i := 0) (v := ?_) rfl rfl (by kernel_rfl) (by kernel_rfl) (by kernel_rfl) (fun _ _ _ h => h) rfl ?_ hHeld ?_
  rotate_left
  · (intro wq hSq; have q0 := (World.cell?_of_block (w := w) (a := ⟨L, 0, none⟩) hSq).trans l0; have q1 := (World.cell?_of_block (w := w) (a := ⟨L, 1, none⟩) hSq).trans l1; go_simp <;> first | with_reducible rfl | rfl)
  simp only [Act.put, List.setIfInBounds_toArray, List.set_cons_zero, List.set_cons_succ]
  refine take_on (i := 1) (v := ?_) rfl rfl (by kernel_rfl) (by kernel_rfl) (by kernel_rfl) (fun _ _ _ h => h) rfl ?_ hHeld ?_
  rotate_left
  · (intro wq hSq; have q0 := (World.cell?_of_block (w := w) (a := ⟨L, 0, none⟩) hSq).trans l0; have q1 := (World.cell?_of_block (w := w) (a := ⟨L, 1, none⟩) hSq).trans l1; go_simp <;> first | with_reducible rfl | rfl)
  simp only [Act.put, List.setIfInBounds_toArray, List.set_cons_zero, List.set_cons_succ]
  refine take_on (i := 2) (v := ?_) rfl rfl (by kernel_rfl) (by kernel_rfl) (by kernel_rfl) (fun _ _ _ h => h) rfl ?_ hHeld ?_
  rotate_left
  · (intro wq hSq; have q0 := (World.cell?_of_block (w := w) (a := ⟨L, 0, none⟩) hSq).trans l0; have q1 := (World.cell?_of_block (w := w) (a := ⟨L, 1, none⟩) hSq).trans l1; go_simp <;> first | with_reducible rfl | rfl)
  simp only [Act.put, List.setIfInBounds_toArray, List.set_cons_zero, List.set_cons_succ]
  refine take_on (i := 3) (v := ?_) rfl rfl (by kernel_rfl) (by kernel_rfl) (by kernel_rfl) (fun _ _ _ h => h) rfl ?_ hHeld ?_
  rotate_left
  · (intro wq hSq; have q0 := (World.cell?_of_block (w := w) (a := ⟨L, 0, none⟩) hSq).trans l0; have q1 := (World.cell?_of_block (w := w) (a := ⟨L, 1, none⟩) hSq).trans l1; go_simp <;> first | with_reducible rfl | rfl)
  simp only [Act.put, List.setIfInBounds_toArray, List.set_cons_zero, List.set_cons_succ]
  refine take_on (i := 4) (v := ?_) rfl rfl (by kernel_rfl) (by kernel_rfl) (by kernel_rfl) (fun _ _ _ h => h) rfl ?_ hHeld ?_
  rotate_left
  · (intro wq hSq; have q0 := (World.cell?_of_block (w := w) (a := ⟨L, 0, none⟩) hSq).trans l0; have q1 := (World.cell?_of_block (w := w) (a := ⟨L, 1, none⟩) hSq).trans l1; go_simp <;> first | with_reducible rfl | rfl)
  simp only [Act.put, List.setIfInBounds_toArray, List.set_cons_zero, List.set_cons_succ]
  refine take_on (i := 5) (v := ?_) rfl rfl (by kernel_rfl) (by kernel_rfl) (by kernel_rfl) (fun _ _ _ h => h) rfl ?_ hHeld ?_
  rotate_left
  · (intro wq hSq; have q0 := (World.cell?_of_block (w := w) (a := ⟨L, 0, none⟩) hSq).trans l0; have q1 := (World.cell?_of_block (w := w) (a := ⟨L, 1, none⟩) hSq).trans l1; go_simp <;> first | with_reducible rfl | rfl)
  simp only [Act.put, List.setIfInBounds_toArray, List.set_cons_zero, List.set_cons_succ]
  refine take_on (i := 6) (v := ?_) rfl rfl (by kernel_rfl) (by kernel_rfl) (by kernel_rfl) (fun _ _ _ h => h) rfl ?_ hHeld ?_
  rotate_left
  · (intro wq hSq; have q0 := (World.cell?_of_block (w := w) (a := ⟨L, 0, none⟩) hSq).trans l0; have q1 := (World.cell?_of_block (w := w) (a := ⟨L, 1, none⟩) hSq).trans l1; go_simp <;> first | with_reducible rfl | rfl)
  simp only [Act.put, List.setIfInBounds_toArray, List.set_cons_zero, List.set_cons_succ]
  refine take_on (i := 7) (v := ?_) rfl rfl (by kernel_rfl) (by kernel_rfl) (by kernel_rfl) (fun _ _ _ h => h) rfl ?_ hHeld ?_
  rotate_left
  · (intro wq hSq; have q0 := (World.cell?_of_block (w := w) (a := ⟨L, 0, none⟩) hSq).trans l0; have q1 := (World.cell?_of_block (w := w) (a := ⟨L, 1, none⟩) hSq).trans l1; go_simp <;> first | with_reducible rfl | rfl)
  simp only [Act.put, List.setIfInBounds_toArray, List.set_cons_zero, List.set_cons_succ]
  refine take_one (i := 8) rfl (by kernel_rfl) (fun K hK => ?_)
  go_simp
  refine hbd.mono ?_; rintro e4 w4 ⟨rfl, hb4⟩
  try go_wp2_with fail
  refine hK.out _ _ ?_ (fun hHeld => ?_)
  · exact hb4.block L hLt
  clear hK K
  try simp only [Act.put, List.setIfInBounds_toArray, List.set_cons_zero, List.set_cons_succ]
  refine take_on (i := 9) (v := ?_) rfl rfl (by kernel_rfl) (by kernel_rfl) (by kernel_rfl) (fun _ _ _ h => h) rfl ?_ hHeld ?_
  rotate_left
  · (intro wq hSq; have q0 := (World.cell?_of_block (w := w) (a := ⟨L, 0, none⟩) hSq).trans l0; have q1 := (World.cell?_of_block (w := w) (a := ⟨L, 1, none⟩) hSq).trans l1; go_simp <;> first | with_reducible rfl | rfl)
  simp only [Act.put, List.setIfInBounds_toArray, List.set_cons_zero, List.set_cons_succ]
  refine take_on (i := 10) (v := ?_) rfl rfl (by kernel_rfl) (by kernel_rfl) (by kernel_rfl) (fun _ _ _ h => h) rfl ?_ hHeld ?_
  rotate_left
  · (intro wq hSq; have q0 := (World.cell?_of_block (w := w) (a := ⟨L, 0, none⟩) hSq).trans l0; have q1 := (World.cell?_of_block (w := w) (a := ⟨L, 1, none⟩) hSq).trans l1; go_simp <;> first | with_reducible rfl | rfl)
  simp only [Act.put, List.setIfInBounds_toArray, List.set_cons_zero, List.set_cons_succ]
  refine take_on (i := 11) (v := ?_) rfl rfl (by kernel_rfl) (by kernel_rfl) (by kernel_rfl) (fun _ _ _ h => h) rfl ?_ hHeld ?_
  rotate_left
  · (intro wq hSq; have q0 := (World.cell?_of_block (w := w) (a := ⟨L, 0, none⟩) hSq).trans l0; have q1 := (World.cell?_of_block (w := w) (a := ⟨L, 1, none⟩) hSq).trans l1; go_simp <;> first | with_reducible rfl | rfl)
  simp only [Act.put, List.setIfInBounds_toArray, List.set_cons_zero, List.set_cons_succ]
  refine take_on (i := 12) (v := ?_) rfl rfl (by kernel_rfl) (by kernel_rfl) (by kernel_rfl) (fun _ _ _ h => h) rfl ?_ hHeld ?_
  rotate_left
  · (intro wq hSq; have q0 := (World.cell?_of_block (w := w) (a := ⟨L, 0, none⟩) hSq).trans l0; have q1 := (World.cell?_of_block (w := w) (a := ⟨L, 1, none⟩) hSq).trans l1; go_simp <;> first | with_reducible rfl | rfl)
  simp only [Act.put, List.setIfInBounds_toArray, List.set_cons_zero, List.set_cons_succ]
  refine take_on (i := 13) (v := ?_) rfl rfl (by kernel_rfl) (by kernel_rfl) (by kernel_rfl) (fun _ _ _ h => h) rfl ?_ hHeld ?_
  rotate_left
  · (intro wq hSq; have q0 := (World.cell?_of_block (w := w) (a := ⟨L, 0, none⟩) hSq).trans l0; have q1 := (World.cell?_of_block (w := w) (a := ⟨L, 1, none⟩) hSq).trans l1; go_simp <;> first | with_reducible rfl | rfl)
  simp only [Act.put, List.setIfInBounds_toArray, List.set_cons_zero, List.set_cons_succ]
  refine take_on (i := 14) (v := ?_) rfl rfl (by kernel_rfl) (by kernel_rfl) (by kernel_rfl) (fun _ _ _ h => h) rfl ?_ hHeld ?_
  rotate_left
  · (intro wq hSq; have q0 := (World.cell?_of_block (w := w) (a := ⟨L, 0, none⟩) hSq).trans l0; have q1 := (World.cell?_of_block (w := w) (a := ⟨L, 1, none⟩) hSq).trans l1; go_simp <;> first | with_reducible rfl | rfl)
  simp only [Act.put, List.setIfInBounds_toArray, List.set_cons_zero, List.set_cons_succ]
  refine take_on (i := 15) (v := ?_) rfl rfl (by kernel_rfl) (by kernel_rfl) (by kernel_rfl) (fun _ _ _ h => h) rfl ?_ hHeld ?_
  rotate_left
  · (intro wq hSq; have q0 := (World.cell?_of_block (w := w) (a := ⟨L, 0, none⟩) hSq).trans l0; have q1 := (World.cell?_of_block (w := w) (a := ⟨L, 1, none⟩) hSq).trans l1; go_simp <;> first | with_reducible rfl | rfl)
  simp only [Act.put, List.setIfInBounds_toArray, List.set_cons_zero, List.set_cons_succ]
  refine take_on (i := 16) (v := ?_) rfl rfl (by kernel_rfl) (by kernel_rfl) (by kernel_rfl) (fun _ _ _ h => h) rfl ?_ hHeld ?_
  rotate_left
  · (intro wq hSq; have q0 := (World.cell?_of_block (w := w) (a := ⟨L, 0, none⟩) hSq).trans l0; have q1 := (World.cell?_of_block (w := w) (a := ⟨L, 1, none⟩) hSq).trans l1; go_simp <;> first | with_reducible rfl | rfl)
  simp only [Act.put, List.setIfInBounds_toArray, List.set_cons_zero, List.set_cons_succ]
  refine take_on (i := 17) (v := ?_) rfl rfl (by kernel_rfl) (by kernel_rfl) (by kernel_rfl) (fun _ _ _ h => h) rfl ?_ hHeld ?_
  rotate_left
  · (intro wq hSq; have q0 := (World.cell?_of_block (w := w) (a := ⟨L, 0, none⟩) hSq).trans l0; have q1 := (World.cell?_of_block (w := w) (a := ⟨L, 1, none⟩) hSq).trans l1; go_simp <;> first | with_reducible rfl | rfl)
  simp only [Act.put, List.setIfInBounds_toArray, List.set_cons_zero, List.set_cons_succ]
  refine wpAnyH_done (by kernel_rfl) ?_ _
  go_wp2_with fail
  exact bodyPost_ret (v := .tuple #[.int .i64 ((s i).B : Int), .int .i64 (X1 : Int), .int .i64 (X2 : Int)]) (by simp [results, Tryz.results24, go_sem]) rfl ⟨rfl, (Below.refl _ w).drew.trans hb4⟩

set_option maxRecDepth 100000 in
set_option maxHeartbeats 800000 in
theorem lbytes_any (h : Dsk w F p am n s) (hi : i < n) (hL : Lg w L p i) :
    Calls Tryz.prog 53 #[.pointer (some ⟨L, 0, none⟩)] w fun e w' => (∃ v, e = .returned (.tuple #[.int .i64 ((s i).B : Int), v]) ∧ OwB w' w.heap.size v (s i).bs) ∧ Below w.heap.size w w' := by
  have hbd := lbounds_any h hi hL
  have hrm := (h.room i hi)
  have HD := hide_it h
  have HLG := hide_it hL
  obtain ⟨X2, hX2⟩ : ∃ X, X = (s i).B + (s i).bs.length := ⟨_, rfl⟩
  rw [← hX2] at hbd
  have hsub : IntKind.i64.wrap ((X2 : Int) - ((s i).B : Int)) = (((s i).bs.length : Nat) : Int) := by
    rw [hX2]
    simp only [IntKind.wrap, IntKind.bits, IntKind.signed]
    push_cast
    obtain ⟨h1, h2, _⟩ := hrm
    simp
    omega
  generalize ((s i).B + (s i).k) = X1 at *
  clear h hL hrm hX2
  go_enter Tryz.func53, Tryz.ntmps53
  go_wp2_with fail
  refine hbd.mono ?_
  rintro e w1 ⟨rfl, hb1⟩
  have hL1 := HLG.out.below hb1
  obtain ⟨l0, l1⟩ := hL1.cells
  have hLt := hL1.lt
  have hrd := readD_ok ((HD.out.below hb1).below (Below.refl _ _).drew) i hi 0 (s i).bs.length (by omega) ((s i).B : Int) (by simp)
  rw [Nat.zero_add, List.take_length, List.drop_zero] at hrd
  have hs1 := hb1.size
  clear hL1 hbd
  go_wp2_with fail
  refine wp_region_held_drew (S := (fun w' => w'.heap[L]? = w1.heap[L]?)) (by kernel_rfl) ?_ (fun hHeld => ?_)
  · rfl
  refine take_on (i := 0) (v := ?_) rfl rfl (by kernel_rfl) (by kernel_rfl) (by kernel_rfl) (fun _ _ _ h => h) rfl ?_ hHeld ?_
  rotate_left
  · (intro wq hSq; have q0 := (World.cell?_of_block (w := w1) (a := ⟨L, 0, none⟩) hSq).trans l0; have q1 := (World.cell?_of_block (w := w1) (a := ⟨L, 1, none⟩) hSq).trans l1; go_simp <;> first | with_reducible rfl | rfl)
  simp only [Act.put, List.setIfInBounds_toArray, List.set_cons_zero, List.set_cons_succ]
  refine take_on (i := 1) (v := ?_) rfl rfl (by kernel_rfl) (by kernel_rfl) (by kernel_rfl) (fun _ _ _ h => h) rfl ?_ hHeld ?_
  rotate_left
  · (intro wq hSq; have q0 := (World.cell?_of_block (w := w1) (a := ⟨L, 0, none⟩) hSq).trans l0; have q1 := (World.cell?_of_block (w := w1) (a := ⟨L, 1, none⟩) hSq).trans l1; go_simp <;> first | with_reducible rfl | rfl)
  simp only [Act.put, List.setIfInBounds_toArray, List.set_cons_zero, List.set_cons_succ]
  refine take_on (i := 2) (v := ?_) rfl rfl (by kernel_rfl) (by kernel_rfl) (by kernel_rfl) (fun _ _ _ h => h) rfl ?_ hHeld ?_
  rotate_left
  · (intro wq hSq; have q0 := (World.cell?_of_block (w := w1) (a := ⟨L, 0, none⟩) hSq).trans l0; have q1 := (World.cell?_of_block (w := w1) (a := ⟨L, 1, none⟩) hSq).trans l1; go_simp <;> first | with_reducible rfl | rfl)
  simp only [Act.put, List.setIfInBounds_toArray, List.set_cons_zero, List.set_cons_succ]
  refine take_on (i := 3) (v := ?_) rfl rfl (by kernel_rfl) (by kernel_rfl) (by kernel_rfl) (fun _ _ _ h => h) rfl ?_ hHeld ?_
  rotate_left
  · (intro wq hSq; have q0 := (World.cell?_of_block (w := w1) (a := ⟨L, 0, none⟩) hSq).trans l0; have q1 := (World.cell?_of_block (w := w1) (a := ⟨L, 1, none⟩) hSq).trans l1; go_simp <;> first | with_reducible rfl | rfl)
  simp only [Act.put, List.setIfInBounds_toArray, List.set_cons_zero, List.set_cons_succ]
  refine take_on (i := 4) (v := ?_) rfl rfl (by kernel_rfl) (by kernel_rfl) (by kernel_rfl) (fun _ _ _ h => h) rfl ?_ hHeld ?_
  rotate_left
  · (intro wq hSq; have q0 := (World.cell?_of_block (w := w1) (a := ⟨L, 0, none⟩) hSq).trans l0; have q1 := (World.cell?_of_block (w := w1) (a := ⟨L, 1, none⟩) hSq).trans l1; go_simp <;> first | with_reducible rfl | rfl)
  simp only [Act.put, List.setIfInBounds_toArray, List.set_cons_zero, List.set_cons_succ]
  refine take_on (i := 5) (v := ?_) rfl rfl (by kernel_rfl) (by kernel_rfl) (by kernel_rfl) (fun _ _ _ h => h) rfl ?_ hHeld ?_
  rotate_left
  · (intro wq hSq; have q0 := (World.cell?_of_block (w := w1) (a := ⟨L, 0, none⟩) hSq).trans l0; have q1 := (World.cell?_of_block (w := w1) (a := ⟨L, 1, none⟩) hSq).trans l1; go_simp <;> first | with_reducible rfl | rfl)
  simp only [Act.put, List.setIfInBounds_toArray, List.set_cons_zero, List.set_cons_succ]
  refine take_on (i := 6) (v := ?_) rfl rfl (by kernel_rfl) (by kernel_rfl) (by kernel_rfl) (fun _ _ _ h => h) rfl ?_ hHeld ?_
  rotate_left
  · (intro wq hSq; have q0 := (World.cell?_of_block (w := w1) (a := ⟨L, 0, none⟩) hSq).trans l0; have q1 := (World.cell?_of_block (w := w1) (a := ⟨L, 1, none⟩) hSq).trans l1; go_simp <;> first | with_reducible rfl | rfl)
  simp only [Act.put, List.setIfInBounds_toArray, List.set_cons_zero, List.set_cons_succ]
  refine take_on (i := 7) (v := ?_) rfl rfl (by kernel_rfl) (by kernel_rfl) (by kernel_rfl) (fun _ _ _ h => h) rfl ?_ hHeld ?_
  rotate_left
  · (intro wq hSq; have q0 := (World.cell?_of_block (w := w1) (a := ⟨L, 0, none⟩) hSq).trans l0; have q1 := (World.cell?_of_block (w := w1) (a := ⟨L, 1, none⟩) hSq).trans l1; go_simp <;> first | with_reducible rfl | rfl)
  simp only [Act.put, List.setIfInBounds_toArray, List.set_cons_zero, List.set_cons_succ]
  refine take_on (i := 8) (v := ?_) rfl rfl (by kernel_rfl) (by kernel_rfl) (by kernel_rfl) (fun _ _ _ h => h) rfl ?_ hHeld ?_
  rotate_left
  · (intro wq hSq; have q0 := (World.cell?_of_block (w := w1) (a := ⟨L, 0, none⟩) hSq).trans l0; have q1 := (World.cell?_of_block (w := w1) (a := ⟨L, 1, none⟩) hSq).trans l1; go_simp <;> first | with_reducible rfl | rfl)
  simp only [Act.put, List.setIfInBounds_toArray, List.set_cons_zero, List.set_cons_succ]
  refine take_on (i := 9) (v := ?_) rfl rfl (by kernel_rfl) (by kernel_rfl) (by kernel_rfl) (fun _ _ _ h => h) rfl ?_ hHeld ?_
  rotate_left
  · (intro wq hSq; have q0 := (World.cell?_of_block (w := w1) (a := ⟨L, 0, none⟩) hSq).trans l0; have q1 := (World.cell?_of_block (w := w1) (a := ⟨L, 1, none⟩) hSq).trans l1; go_simp <;> first | with_reducible rfl | rfl)
  simp only [Act.put, List.setIfInBounds_toArray, List.set_cons_zero, List.set_cons_succ]
  refine take_on (i := 10) (v := ?_) rfl rfl (by kernel_rfl) (by kernel_rfl) (by kernel_rfl) (fun _ _ _ h => h) rfl ?_ hHeld ?_
  rotate_left
  · (intro wq hSq; have q0 := (World.cell?_of_block (w := w1) (a := ⟨L, 0, none⟩) hSq).trans l0; have q1 := (World.cell?_of_block (w := w1) (a := ⟨L, 1, none⟩) hSq).trans l1; go_simp <;> first | with_reducible rfl | rfl)
  simp only [Act.put, List.setIfInBounds_toArray, List.set_cons_zero, List.set_cons_succ]
  refine take_on (i := 11) (v := ?_) rfl rfl (by kernel_rfl) (by kernel_rfl) (by kernel_rfl) (fun _ _ _ h => h) rfl ?_ hHeld ?_
  rotate_left
  · (intro wq hSq; have q0 := (World.cell?_of_block (w := w1) (a := ⟨L, 0, none⟩) hSq).trans l0; have q1 := (World.cell?_of_block (w := w1) (a := ⟨L, 1, none⟩) hSq).trans l1; go_simp <;> first | with_reducible rfl | rfl)
  simp only [Act.put, List.setIfInBounds_toArray, List.set_cons_zero, List.set_cons_succ]
  refine take_one (i := 12) rfl (by kernel_rfl) (fun K hK => ?_)
  go_simp
  refine hrd.mono ?_; rintro e4 w4 ⟨⟨v4, rfl, ho4⟩, hb4⟩; obtain ⟨a4, c4, rfl, _⟩ := ho4.row
  try go_wp2_with fail
  refine hK.out _ _ ?_ (fun hHeld => ?_)
  · exact hb4.block L hLt
  clear hK K
  try simp only [Act.put, List.setIfInBounds_toArray, List.set_cons_zero, List.set_cons_succ]
  refine take_on (i := 13) (v := ?_) rfl rfl (by kernel_rfl) (by kernel_rfl) (by kernel_rfl) (fun _ _ _ h => h) rfl ?_ hHeld ?_
  rotate_left
  · (intro wq hSq; have q0 := (World.cell?_of_block (w := w1) (a := ⟨L, 0, none⟩) hSq).trans l0; have q1 := (World.cell?_of_block (w := w1) (a := ⟨L, 1, none⟩) hSq).trans l1; go_simp <;> first | with_reducible rfl | rfl)
  simp only [Act.put, List.setIfInBounds_toArray, List.set_cons_zero, List.set_cons_succ]
  refine take_on (i := 14) (v := ?_) rfl rfl (by kernel_rfl) (by kernel_rfl) (by kernel_rfl) (fun _ _ _ h => h) rfl ?_ hHeld ?_
  rotate_left
  · (intro wq hSq; have q0 := (World.cell?_of_block (w := w1) (a := ⟨L, 0, none⟩) hSq).trans l0; have q1 := (World.cell?_of_block (w := w1) (a := ⟨L, 1, none⟩) hSq).trans l1; go_simp <;> first | with_reducible rfl | rfl)
  simp only [Act.put, List.setIfInBounds_toArray, List.set_cons_zero, List.set_cons_succ]
  refine take_on (i := 15) (v := ?_) rfl rfl (by kernel_rfl) (by kernel_rfl) (by kernel_rfl) (fun _ _ _ h => h) rfl ?_ hHeld ?_
  rotate_left
  · (intro wq hSq; have q0 := (World.cell?_of_block (w := w1) (a := ⟨L, 0, none⟩) hSq).trans l0; have q1 := (World.cell?_of_block (w := w1) (a := ⟨L, 1, none⟩) hSq).trans l1; go_simp <;> first | with_reducible rfl | rfl)
  simp only [Act.put, List.setIfInBounds_toArray, List.set_cons_zero, List.set_cons_succ]
  refine take_on (i := 16) (v := ?_) rfl rfl (by kernel_rfl) (by kernel_rfl) (by kernel_rfl) (fun _ _ _ h => h) rfl ?_ hHeld ?_
  rotate_left
  · (intro wq hSq; have q0 := (World.cell?_of_block (w := w1) (a := ⟨L, 0, none⟩) hSq).trans l0; have q1 := (World.cell?_of_block (w := w1) (a := ⟨L, 1, none⟩) hSq).trans l1; go_simp <;> first | with_reducible rfl | rfl)
  simp only [Act.put, List.setIfInBounds_toArray, List.set_cons_zero, List.set_cons_succ]
  refine take_on (i := 17) (v := ?_) rfl rfl (by kernel_rfl) (by kernel_rfl) (by kernel_rfl) (fun _ _ _ h => h) rfl ?_ hHeld ?_
  rotate_left
  · (intro wq hSq; have q0 := (World.cell?_of_block (w := w1) (a := ⟨L, 0, none⟩) hSq).trans l0; have q1 := (World.cell?_of_block (w := w1) (a := ⟨L, 1, none⟩) hSq).trans l1; go_simp <;> first | with_reducible rfl | rfl)
  simp only [Act.put, List.setIfInBounds_toArray, List.set_cons_zero, List.set_cons_succ]
  refine wpAnyH_done (by kernel_rfl) ?_ _
  go_wp2_with fail
  refine bodyPost_ret (v := .tuple #[.int .i64 ((s i).B : Int), .slice a4 (s i).bs.length c4]) (by simp [results, Tryz.results53, go_sem]) rfl ⟨⟨_, rfl, ho4.mono ?_⟩, hb1.trans (((Below.refl _ w1).drew.trans hb4).mono hs1)⟩
  exact hs1

set_option maxRecDepth 100000 in
set_option maxHeartbeats 1600000 in
theorem group_any (h : Dsk w F p am n s) (hi : i < n) (hL : Lg w L p i) (hFL : ¬ F L) (a : Option Addr) (cap : Nat) (xs : List Ent) (hx : Ets w F a xs) (hl : (s i).bs.length + 4402 * xs.length ≤ 211106232532800) (hB : (s i).B + (s i).bs.length + 4402 * xs.length ≤ 9223372036854775807) (hcb : (s i).c + xs.length ≤ 4611686018427387904) :
    Calls Tryz.prog 21 #[.pointer (some ⟨L, 0, none⟩), .slice a xs.length cap] w fun e w' => Opd w F p am n (upd s i (grX am (s i) (xs.map Ent.en)).2) (grX am (s i) (xs.map Ent.en)).1 e w' := by
  obtain ⟨T, hT⟩ : ∃ T, T = grX am (s i) (xs.map Ent.en) := ⟨_, rfl⟩
  rw [← hT]
  have HT := hide_it hT
  have HA0 : Hid ((xs.map Ent.en).all mayE = ((xs.drop 0).map Ent.en).all mayE) := by unfold Hid; rw [List.drop_zero]
  have HX := hide_it hx
  have HLG := hide_it hL
  have HD := hide_it h
  have HB := hide_it (And.intro hl (And.intro hB hcb))
  have hLt := hL.lt
  have hFl := h.lt
  have hxl : xs.length < 140737488355328 := by omega
  clear h hx hL hT hl hB hcb
  go_enter Tryz.func21, Tryz.ntmps21
  go_wp2_with fail
  go_loopw [13] (fun iv wr => ∃ k : Nat, k ≤ xs.length ∧ iv = .int .i64 (k : Int) ∧ Hid ((xs.map Ent.en).all mayE = ((xs.drop k).map Ent.en).all mayE) ∧ Below w.heap.size w wr) (fun iv _ => xs.length - (intOf iv).toNat)
  case atStart => exact ⟨0, Nat.zero_le _, rfl, HA0, Below.refl _ _⟩
  case round =>
    obtain ⟨k, hk, rfl, HAk, hbw⟩ := hrel
    clear HA0
    by_cases hlt : k < xs.length
    · have hd : decide ((k : Int) < (xs.length : Int)) = true := by simp; omega
      obtain ⟨x, hxe⟩ : ∃ x, x = xs[k] := ⟨_, rfl⟩
      have hxg : xs[k]? = some x := by rw [List.getElem?_eq_getElem hlt, hxe]
      have hdrop : xs.drop k = x :: xs.drop (k + 1) := by rw [hxe]; exact List.drop_eq_getElem_cons hlt
      have hEw := HX.out.below hbw
      obtain ⟨b, o, rfl, hbl, hbF, hrow⟩ : ∃ b o, a = some ⟨b, o, none⟩ ∧ b < wr.heap.size ∧ ¬ F b ∧ ∀ i x, xs[i]? = some x → Six wr b (o + i * 6) x := by
        rcases hEw.row with h0 | h0
        · omega
        · exact h0
      obtain ⟨d0, d1, d2, d3, d4, d5⟩ := hrow k x hxg
      have hbx := boxE_below wr x.en x.val.a x.val.c
      have hck := check_any x.en x.val.a x.val.c (boxE wr x.en x.val.a x.val.c)
      have hAk := HAk.out
      rw [hdrop, List.map_cons, List.all_cons] at hAk
      have hs := hbw.size
      clear hEw hrow hdrop hxg hxe HAk
      cases hm : mayE x.en
      · have hc : chkE x.en = 100 := by unfold chkE; rw [hm]; rfl
        have hT2 : T = (100, s i) := by rw [HT.out]; unfold grX; rw [hAk, hm]; simp
        have HF : ∀ w', Below w.heap.size w w' → Opd w F p am n (upd s i (s i)) 100 (.returned (.int .i64 100)) w' := fun w' hb => by rw [upd_self]; exact Opd.of_below HD.out rfl hb
        clear HT
        subst hT2
        rw [hc] at hck
        clear hAk
        go_wp2_with fail
        refine hck.mono ?_
        rintro e w4 ⟨rfl, hb4⟩
        clear hck d0 d1 d2 d3 d4 d5
        go_wp2_with fail
        go_ret
        exact HF _ (hbw.trans ((hbx.trans (hb4.mono hbx.size)).mono hs))
      · have hc : chkE x.en = 0 := by unfold chkE; rw [hm]; rfl
        rw [hm, Bool.true_and] at hAk
        rw [hc] at hck
        replace hAk := hide_it hAk
        go_wp2_with fail
        refine hck.mono ?_
        rintro e w4 ⟨rfl, hb4⟩
        have hb5 := hide_it (hbw.trans ((hbx.trans (hb4.mono hbx.size)).mono hs))
        clear hck d0 d1 d2 d3 d4 d5 hbx hb4
        go_wp2_with fail
        go_roundw
        case rel => exact ⟨k + 1, by omega, by go_num, hAk, hb5.out⟩
        case measure => simp [intOf]; omega
    · have hd : decide ((k : Int) < (xs.length : Int)) = false := by simp; omega
      have hall : (xs.map Ent.en).all mayE = true := by
        rw [HAk.out, List.drop_eq_nil_of_le (by omega)]; rfl
      obtain ⟨hl, hB, hcb⟩ := HB.out
      have hT2 : T = if (wrX am (s i) (xs.map Ent.en)).1 = 0 then opS am (wrX am (s i) (xs.map Ent.en)).2 1 0 [] else wrX am (s i) (xs.map Ent.en) := by rw [HT.out]; unfold grX; rw [if_pos hall]
      have hw := write_any (HD.out.below hbw) hi (HLG.out.below hbw) hFL a cap xs (HX.out.below hbw) hl hB hcb
      have hsm := wrX_small am (xs.map Ent.en) (s i)
      rw [List.length_map] at hsm
      obtain ⟨R, hR⟩ : ∃ R, R = wrX am (s i) (xs.map Ent.en) := ⟨_, rfl⟩
      rw [← hR] at hw hT2 hsm
      have hsmc : R.2.c ≤ 4611686018427387904 := by omega
      clear hR hsm hall HAk HT
      go_wp2_with fail
      refine hw.mono ?_
      rintro e w4 hq4
      have he4 := hq4.ans
      subst he4
      have hW4 := Went.behind hbw hq4.went hFl
      clear hw hq4
      obtain ⟨r, y⟩ := R
      simp only at hT2 hW4 hsmc ⊢
      by_cases hz : r = 0
      · subst hz
        rw [if_pos rfl] at hT2
        have hat : upd s i y i = y := upd_at s i y
        have hsy := lsync_any (i := i) hW4.dsk hi ((hW4.chg.block L hLt hFL).trans HLG.out) (upto_not hFL hLt) (by rw [hat]; exact hsmc)
        rw [hat, upd_upd, ← hT2] at hsy
        clear hT2
        replace hW4 := hide_it hW4
        go_wp2_with fail
        refine hsy.mono ?_
        rintro e w5 hq5
        have he5 := hq5.ans
        subst he5
        clear hsy
        go_wp2_with fail
        go_ret
        exact ⟨rfl, hW4.out.trans hq5.went⟩
      · rw [if_neg hz] at hT2
        have hz2 : (r != 0) = true := by simpa using hz
        subst hT2
        go_wp2_with fail
        go_ret
        exact ⟨rfl, hW4⟩
end

end Go.Proofs.YtkacfpmninmjkaaGreat

/- The program's area, walked: Trim, Read, Bounds. -/
import Derived.Test.YtdodnegdpdhbiaaAr3
import Derived.Test.YtdodnegdpdhbiaaReg2
namespace Go.Proofs.Ytdodnegdpdhbiaa
open Go.RowKit

set_option maxRecDepth 100000 in
set_option maxHeartbeats 400000 in
theorem trim_no {p o : Nat} {v : Value} {B : Nat} {bs : List Nat} {k : Nat} (w : World) (h : Ar w p o v B bs k) (hk : k ≤ bs.length) (E : Int) (hE : E < (B : Int) ∨ (B : Int) + (k : Int) < E) :
    Calls Try.prog 41 #[.pointer (some ⟨p, o, none⟩), .int .i64 E] w fun e w' => e = .returned (.int .i64 70) ∧ Moved w p o v B bs k w' := by
  obtain ⟨c0, c1, c2, f0, f1, f2⟩ := h.cells
  have hroom := h.room
  have hw : IntKind.i64.wrap ((B : Int) + (k : Int)) = (B : Int) + (k : Int) := by rw [IntKind.wrap_i64]; omega
  have hmv := (Moved.of_below h (Below.refl _ _)).drew
  have hplt := h.plt
  obtain ⟨F, hF⟩ : ∃ F : Int, F = (B : Int) + (k : Int) := ⟨_, rfl⟩
  rw [← hF] at hE
  rw [hw.trans hF.symm |> fun e => (show (B : Int) + (k : Int) = F from hF.symm)] at hw
  by_cases h1 : E < (B : Int)
  · have hd : decide (E < (B : Int)) = true := by simpa using h1
    clear hE h hroom hF hk hw
    generalize (B : Int) = Bi at *
    go_enter Try.func41, Try.ntmps41
    go_wp2_with fail
    refine wp_region_held_drew (S := (fun w' => Below w.heap.size w w')) (by kernel_rfl) ?_ (fun hHeld => ?_)
    · exact (Below.refl _ _).drew
    refine take_on (i := 0) (v := ?_) rfl rfl (by kernel_rfl) (by kernel_rfl) (by kernel_rfl) (fun _ _ _ h => h) rfl ?_ hHeld ?_
    rotate_left
    · (intro wq hSq; have q0 := (hSq.cell (p := ⟨p, o, none⟩) hplt).trans c0; have q1 := (hSq.cell (p := ⟨p, o + 1, none⟩) hplt).trans c1; go_simp <;> first | with_reducible rfl | rfl)
    simp only [Act.put, List.setIfInBounds_toArray, List.set_cons_zero, List.set_cons_succ]
    refine take_on (i := 1) (v := ?_) rfl rfl (by kernel_rfl) (by kernel_rfl) (by kernel_rfl) (fun _ _ _ h => h) rfl ?_ hHeld ?_
    rotate_left
    · (intro wq hSq; have q0 := (hSq.cell (p := ⟨p, o, none⟩) hplt).trans c0; have q1 := (hSq.cell (p := ⟨p, o + 1, none⟩) hplt).trans c1; go_simp <;> first | with_reducible rfl | rfl)
    simp only [Act.put, List.setIfInBounds_toArray, List.set_cons_zero, List.set_cons_succ]
    refine take_on (i := 2) (v := ?_) rfl rfl (by kernel_rfl) (by kernel_rfl) (by kernel_rfl) (fun _ _ _ h => h) rfl ?_ hHeld ?_
    rotate_left
    · (intro wq hSq; have q0 := (hSq.cell (p := ⟨p, o, none⟩) hplt).trans c0; have q1 := (hSq.cell (p := ⟨p, o + 1, none⟩) hplt).trans c1; go_simp <;> first | with_reducible rfl | rfl)
    simp only [Act.put, List.setIfInBounds_toArray, List.set_cons_zero, List.set_cons_succ]
    refine take_on (i := 3) (v := ?_) rfl rfl (by kernel_rfl) (by kernel_rfl) (by kernel_rfl) (fun _ _ _ h => h) rfl ?_ hHeld ?_
    rotate_left
    · (intro wq hSq; have q0 := (hSq.cell (p := ⟨p, o, none⟩) hplt).trans c0; have q1 := (hSq.cell (p := ⟨p, o + 1, none⟩) hplt).trans c1; go_simp <;> first | with_reducible rfl | rfl)
    simp only [Act.put, List.setIfInBounds_toArray, List.set_cons_zero, List.set_cons_succ]
    refine take_on (i := 4) (v := ?_) rfl rfl (by kernel_rfl) (by kernel_rfl) (by kernel_rfl) (fun _ _ _ h => h) rfl ?_ hHeld ?_
    rotate_left
    · (intro wq hSq; have q0 := (hSq.cell (p := ⟨p, o, none⟩) hplt).trans c0; have q1 := (hSq.cell (p := ⟨p, o + 1, none⟩) hplt).trans c1; go_simp <;> first | with_reducible rfl | rfl)
    simp only [Act.put, List.setIfInBounds_toArray, List.set_cons_zero, List.set_cons_succ]
    refine take_on (i := 5) (v := ?_) rfl rfl (by kernel_rfl) (by kernel_rfl) (by kernel_rfl) (fun _ _ _ h => h) rfl ?_ hHeld ?_
    rotate_left
    · (intro wq hSq; have q0 := (hSq.cell (p := ⟨p, o, none⟩) hplt).trans c0; have q1 := (hSq.cell (p := ⟨p, o + 1, none⟩) hplt).trans c1; go_simp <;> first | with_reducible rfl | rfl)
    simp only [Act.put, List.setIfInBounds_toArray, List.set_cons_zero, List.set_cons_succ]
    refine take_on (i := 6) (v := ?_) rfl rfl (by kernel_rfl) (by kernel_rfl) (by kernel_rfl) (fun _ _ _ h => h) rfl ?_ hHeld ?_
    rotate_left
    · (intro wq hSq; have q0 := (hSq.cell (p := ⟨p, o, none⟩) hplt).trans c0; have q1 := (hSq.cell (p := ⟨p, o + 1, none⟩) hplt).trans c1; go_simp <;> first | with_reducible rfl | rfl)
    simp only [Act.put, List.setIfInBounds_toArray, List.set_cons_zero, List.set_cons_succ]
    refine take_off (i := 7) rfl rfl (by kernel_rfl) (by kernel_rfl) (by kernel_rfl) (fun _ _ _ h => h) rfl hHeld ?_
    simp only [Act.put, List.setIfInBounds_toArray, List.set_cons_zero, List.set_cons_succ]
    refine take_off (i := 8) rfl rfl (by kernel_rfl) (by kernel_rfl) (by kernel_rfl) (fun _ _ _ h => h) rfl hHeld ?_
    simp only [Act.put, List.setIfInBounds_toArray, List.set_cons_zero, List.set_cons_succ]
    refine take_off (i := 9) rfl rfl (by kernel_rfl) (by kernel_rfl) (by kernel_rfl) (fun _ _ _ h => h) rfl hHeld ?_
    simp only [Act.put, List.setIfInBounds_toArray, List.set_cons_zero, List.set_cons_succ]
    refine take_off (i := 10) rfl rfl (by kernel_rfl) (by kernel_rfl) (by kernel_rfl) (fun _ _ _ h => h) rfl hHeld ?_
    simp only [Act.put, List.setIfInBounds_toArray, List.set_cons_zero, List.set_cons_succ]
    refine take_off (i := 11) rfl rfl (by kernel_rfl) (by kernel_rfl) (by kernel_rfl) (fun _ _ _ h => h) rfl hHeld ?_
    simp only [Act.put, List.setIfInBounds_toArray, List.set_cons_zero, List.set_cons_succ]
    refine take_off (i := 12) rfl rfl (by kernel_rfl) (by kernel_rfl) (by kernel_rfl) (fun _ _ _ h => h) rfl hHeld ?_
    simp only [Act.put, List.setIfInBounds_toArray, List.set_cons_zero, List.set_cons_succ]
    refine take_off (i := 13) rfl rfl (by kernel_rfl) (by kernel_rfl) (by kernel_rfl) (fun _ _ _ h => h) rfl hHeld ?_
    simp only [Act.put, List.setIfInBounds_toArray, List.set_cons_zero, List.set_cons_succ]
    refine take_off (i := 14) rfl rfl (by kernel_rfl) (by kernel_rfl) (by kernel_rfl) (fun _ _ _ h => h) rfl hHeld ?_
    simp only [Act.put, List.setIfInBounds_toArray, List.set_cons_zero, List.set_cons_succ]
    refine take_off (i := 15) rfl rfl (by kernel_rfl) (by kernel_rfl) (by kernel_rfl) (fun _ _ _ h => h) rfl hHeld ?_
    simp only [Act.put, List.setIfInBounds_toArray, List.set_cons_zero, List.set_cons_succ]
    refine take_off (i := 16) rfl rfl (by kernel_rfl) (by kernel_rfl) (by kernel_rfl) (fun _ _ _ h => h) rfl hHeld ?_
    simp only [Act.put, List.setIfInBounds_toArray, List.set_cons_zero, List.set_cons_succ]
    refine take_off (i := 17) rfl rfl (by kernel_rfl) (by kernel_rfl) (by kernel_rfl) (fun _ _ _ h => h) rfl hHeld ?_
    simp only [Act.put, List.setIfInBounds_toArray, List.set_cons_zero, List.set_cons_succ]
    refine take_on (i := 18) (v := ?_) rfl rfl (by kernel_rfl) (by kernel_rfl) (by kernel_rfl) (fun _ _ _ h => h) rfl ?_ hHeld ?_
    rotate_left
    · (intro wq hSq; have q0 := (hSq.cell (p := ⟨p, o, none⟩) hplt).trans c0; have q1 := (hSq.cell (p := ⟨p, o + 1, none⟩) hplt).trans c1; go_simp <;> first | with_reducible rfl | rfl)
    simp only [Act.put, List.setIfInBounds_toArray, List.set_cons_zero, List.set_cons_succ]
    refine wpAnyH_done (by kernel_rfl) ?_ _
    go_wp2_with fail
    go_ret
    exact ⟨rfl, hmv⟩
  · have h2 : F < E := by omega
    have hw2 : IntKind.i64.wrap ((B : Int) + (k : Int)) = F := by rw [hF, IntKind.wrap_i64]; omega
    have hd : decide (E < (B : Int)) = false := by simp; omega
    clear hE h hroom hF hk hw
    generalize (B : Int) = Bi at *
    go_enter Try.func41, Try.ntmps41
    go_wp2_with fail
    refine wp_region_held_drew (S := (fun w' => Below w.heap.size w w')) (by kernel_rfl) ?_ (fun hHeld => ?_)
    · exact (Below.refl _ _).drew
    refine take_on (i := 0) (v := ?_) rfl rfl (by kernel_rfl) (by kernel_rfl) (by kernel_rfl) (fun _ _ _ h => h) rfl ?_ hHeld ?_
    rotate_left
    · (intro wq hSq; have q0 := (hSq.cell (p := ⟨p, o, none⟩) hplt).trans c0; have q1 := (hSq.cell (p := ⟨p, o + 1, none⟩) hplt).trans c1; go_simp <;> first | with_reducible rfl | rfl)
    simp only [Act.put, List.setIfInBounds_toArray, List.set_cons_zero, List.set_cons_succ]
    refine take_on (i := 1) (v := ?_) rfl rfl (by kernel_rfl) (by kernel_rfl) (by kernel_rfl) (fun _ _ _ h => h) rfl ?_ hHeld ?_
    rotate_left
    · (intro wq hSq; have q0 := (hSq.cell (p := ⟨p, o, none⟩) hplt).trans c0; have q1 := (hSq.cell (p := ⟨p, o + 1, none⟩) hplt).trans c1; go_simp <;> first | with_reducible rfl | rfl)
    simp only [Act.put, List.setIfInBounds_toArray, List.set_cons_zero, List.set_cons_succ]
    refine take_on (i := 2) (v := ?_) rfl rfl (by kernel_rfl) (by kernel_rfl) (by kernel_rfl) (fun _ _ _ h => h) rfl ?_ hHeld ?_
    rotate_left
    · (intro wq hSq; have q0 := (hSq.cell (p := ⟨p, o, none⟩) hplt).trans c0; have q1 := (hSq.cell (p := ⟨p, o + 1, none⟩) hplt).trans c1; go_simp <;> first | with_reducible rfl | rfl)
    simp only [Act.put, List.setIfInBounds_toArray, List.set_cons_zero, List.set_cons_succ]
    refine take_on (i := 3) (v := ?_) rfl rfl (by kernel_rfl) (by kernel_rfl) (by kernel_rfl) (fun _ _ _ h => h) rfl ?_ hHeld ?_
    rotate_left
    · (intro wq hSq; have q0 := (hSq.cell (p := ⟨p, o, none⟩) hplt).trans c0; have q1 := (hSq.cell (p := ⟨p, o + 1, none⟩) hplt).trans c1; go_simp <;> first | with_reducible rfl | rfl)
    simp only [Act.put, List.setIfInBounds_toArray, List.set_cons_zero, List.set_cons_succ]
    refine take_on (i := 4) (v := ?_) rfl rfl (by kernel_rfl) (by kernel_rfl) (by kernel_rfl) (fun _ _ _ h => h) rfl ?_ hHeld ?_
    rotate_left
    · (intro wq hSq; have q0 := (hSq.cell (p := ⟨p, o, none⟩) hplt).trans c0; have q1 := (hSq.cell (p := ⟨p, o + 1, none⟩) hplt).trans c1; go_simp <;> first | with_reducible rfl | rfl)
    simp only [Act.put, List.setIfInBounds_toArray, List.set_cons_zero, List.set_cons_succ]
    refine take_on (i := 5) (v := ?_) rfl rfl (by kernel_rfl) (by kernel_rfl) (by kernel_rfl) (fun _ _ _ h => h) rfl ?_ hHeld ?_
    rotate_left
    · (intro wq hSq; have q0 := (hSq.cell (p := ⟨p, o, none⟩) hplt).trans c0; have q1 := (hSq.cell (p := ⟨p, o + 1, none⟩) hplt).trans c1; go_simp <;> first | with_reducible rfl | rfl)
    simp only [Act.put, List.setIfInBounds_toArray, List.set_cons_zero, List.set_cons_succ]
    refine take_on (i := 6) (v := ?_) rfl rfl (by kernel_rfl) (by kernel_rfl) (by kernel_rfl) (fun _ _ _ h => h) rfl ?_ hHeld ?_
    rotate_left
    · (intro wq hSq; have q0 := (hSq.cell (p := ⟨p, o, none⟩) hplt).trans c0; have q1 := (hSq.cell (p := ⟨p, o + 1, none⟩) hplt).trans c1; go_simp <;> first | with_reducible rfl | rfl)
    simp only [Act.put, List.setIfInBounds_toArray, List.set_cons_zero, List.set_cons_succ]
    refine take_on (i := 7) (v := ?_) rfl rfl (by kernel_rfl) (by kernel_rfl) (by kernel_rfl) (fun _ _ _ h => h) rfl ?_ hHeld ?_
    rotate_left
    · (intro wq hSq; have q0 := (hSq.cell (p := ⟨p, o, none⟩) hplt).trans c0; have q1 := (hSq.cell (p := ⟨p, o + 1, none⟩) hplt).trans c1; go_simp <;> first | with_reducible rfl | rfl)
    simp only [Act.put, List.setIfInBounds_toArray, List.set_cons_zero, List.set_cons_succ]
    refine take_on (i := 8) (v := ?_) rfl rfl (by kernel_rfl) (by kernel_rfl) (by kernel_rfl) (fun _ _ _ h => h) rfl ?_ hHeld ?_
    rotate_left
    · (intro wq hSq; have q0 := (hSq.cell (p := ⟨p, o, none⟩) hplt).trans c0; have q1 := (hSq.cell (p := ⟨p, o + 1, none⟩) hplt).trans c1; go_simp <;> first | with_reducible rfl | rfl)
    simp only [Act.put, List.setIfInBounds_toArray, List.set_cons_zero, List.set_cons_succ]
    refine take_on (i := 9) (v := ?_) rfl rfl (by kernel_rfl) (by kernel_rfl) (by kernel_rfl) (fun _ _ _ h => h) rfl ?_ hHeld ?_
    rotate_left
    · (intro wq hSq; have q0 := (hSq.cell (p := ⟨p, o, none⟩) hplt).trans c0; have q1 := (hSq.cell (p := ⟨p, o + 1, none⟩) hplt).trans c1; go_simp <;> first | with_reducible rfl | rfl)
    simp only [Act.put, List.setIfInBounds_toArray, List.set_cons_zero, List.set_cons_succ]
    refine take_on (i := 10) (v := ?_) rfl rfl (by kernel_rfl) (by kernel_rfl) (by kernel_rfl) (fun _ _ _ h => h) rfl ?_ hHeld ?_
    rotate_left
    · (intro wq hSq; have q0 := (hSq.cell (p := ⟨p, o, none⟩) hplt).trans c0; have q1 := (hSq.cell (p := ⟨p, o + 1, none⟩) hplt).trans c1; go_simp <;> first | with_reducible rfl | rfl)
    simp only [Act.put, List.setIfInBounds_toArray, List.set_cons_zero, List.set_cons_succ]
    refine take_on (i := 11) (v := ?_) rfl rfl (by kernel_rfl) (by kernel_rfl) (by kernel_rfl) (fun _ _ _ h => h) rfl ?_ hHeld ?_
    rotate_left
    · (intro wq hSq; have q0 := (hSq.cell (p := ⟨p, o, none⟩) hplt).trans c0; have q1 := (hSq.cell (p := ⟨p, o + 1, none⟩) hplt).trans c1; go_simp <;> first | with_reducible rfl | rfl)
    simp only [Act.put, List.setIfInBounds_toArray, List.set_cons_zero, List.set_cons_succ]
    refine take_on (i := 12) (v := ?_) rfl rfl (by kernel_rfl) (by kernel_rfl) (by kernel_rfl) (fun _ _ _ h => h) rfl ?_ hHeld ?_
    rotate_left
    · (intro wq hSq; have q0 := (hSq.cell (p := ⟨p, o, none⟩) hplt).trans c0; have q1 := (hSq.cell (p := ⟨p, o + 1, none⟩) hplt).trans c1; go_simp <;> first | with_reducible rfl | rfl)
    simp only [Act.put, List.setIfInBounds_toArray, List.set_cons_zero, List.set_cons_succ]
    refine take_on (i := 13) (v := ?_) rfl rfl (by kernel_rfl) (by kernel_rfl) (by kernel_rfl) (fun _ _ _ h => h) rfl ?_ hHeld ?_
    rotate_left
    · (intro wq hSq; have q0 := (hSq.cell (p := ⟨p, o, none⟩) hplt).trans c0; have q1 := (hSq.cell (p := ⟨p, o + 1, none⟩) hplt).trans c1; go_simp <;> first | with_reducible rfl | rfl)
    simp only [Act.put, List.setIfInBounds_toArray, List.set_cons_zero, List.set_cons_succ]
    refine take_on (i := 14) (v := ?_) rfl rfl (by kernel_rfl) (by kernel_rfl) (by kernel_rfl) (fun _ _ _ h => h) rfl ?_ hHeld ?_
    rotate_left
    · (intro wq hSq; have q0 := (hSq.cell (p := ⟨p, o, none⟩) hplt).trans c0; have q1 := (hSq.cell (p := ⟨p, o + 1, none⟩) hplt).trans c1; go_simp <;> first | with_reducible rfl | rfl)
    simp only [Act.put, List.setIfInBounds_toArray, List.set_cons_zero, List.set_cons_succ]
    refine take_on (i := 15) (v := ?_) rfl rfl (by kernel_rfl) (by kernel_rfl) (by kernel_rfl) (fun _ _ _ h => h) rfl ?_ hHeld ?_
    rotate_left
    · (intro wq hSq; have q0 := (hSq.cell (p := ⟨p, o, none⟩) hplt).trans c0; have q1 := (hSq.cell (p := ⟨p, o + 1, none⟩) hplt).trans c1; go_simp <;> first | with_reducible rfl | rfl)
    simp only [Act.put, List.setIfInBounds_toArray, List.set_cons_zero, List.set_cons_succ]
    refine take_on (i := 16) (v := ?_) rfl rfl (by kernel_rfl) (by kernel_rfl) (by kernel_rfl) (fun _ _ _ h => h) rfl ?_ hHeld ?_
    rotate_left
    · (intro wq hSq; have q0 := (hSq.cell (p := ⟨p, o, none⟩) hplt).trans c0; have q1 := (hSq.cell (p := ⟨p, o + 1, none⟩) hplt).trans c1; go_simp <;> first | with_reducible rfl | rfl)
    simp only [Act.put, List.setIfInBounds_toArray, List.set_cons_zero, List.set_cons_succ]
    refine take_on (i := 17) (v := ?_) rfl rfl (by kernel_rfl) (by kernel_rfl) (by kernel_rfl) (fun _ _ _ h => h) rfl ?_ hHeld ?_
    rotate_left
    · (intro wq hSq; have q0 := (hSq.cell (p := ⟨p, o, none⟩) hplt).trans c0; have q1 := (hSq.cell (p := ⟨p, o + 1, none⟩) hplt).trans c1; go_simp <;> first | with_reducible rfl | rfl)
    simp only [Act.put, List.setIfInBounds_toArray, List.set_cons_zero, List.set_cons_succ]
    refine take_on (i := 18) (v := ?_) rfl rfl (by kernel_rfl) (by kernel_rfl) (by kernel_rfl) (fun _ _ _ h => h) rfl ?_ hHeld ?_
    rotate_left
    · (intro wq hSq; have q0 := (hSq.cell (p := ⟨p, o, none⟩) hplt).trans c0; have q1 := (hSq.cell (p := ⟨p, o + 1, none⟩) hplt).trans c1; go_simp <;> first | with_reducible rfl | rfl)
    simp only [Act.put, List.setIfInBounds_toArray, List.set_cons_zero, List.set_cons_succ]
    refine wpAnyH_done (by kernel_rfl) ?_ _
    go_wp2_with fail
    go_ret
    exact ⟨rfl, hmv⟩

set_option maxRecDepth 100000 in
set_option maxHeartbeats 800000 in
theorem trim_ok {p o : Nat} {v : Value} {B : Nat} {bs : List Nat} {k : Nat} (w : World) (h : Ar w p o v B bs k) (hk : k ≤ bs.length) (m : Nat) (hm : m ≤ k) (E : Int) (hE : E = (B : Int) + (m : Int)) :
    Calls Try.prog 41 #[.pointer (some ⟨p, o, none⟩), .int .i64 E] w fun e w' => e = .returned (.int .i64 0) ∧ Moved w p o v (B + m) (bs.drop m) (k - m) w' := by
  have hroom := h.room
  have hA1 := h.drew
  have hplt := h.plt
  obtain ⟨c0, c1, c2, f0, f1, f2⟩ := h.cells
  obtain ⟨d0, d1, d2, _⟩ := hA1.cells
  have hlv := leave_any w.drew hA1 m bs.length (by omega) (Nat.le_refl _)
  rw [List.take_length] at hlv
  obtain ⟨a, cap, rfl, _⟩ := h.own.row
  have hH := hide_it h
  have hw : IntKind.i64.wrap (E - (B : Int)) = (m : Int) := by rw [IntKind.wrap_i64]; omega
  have hw2 : IntKind.i64.wrap ((k : Int) - (m : Int)) = ((k - m : Nat) : Int) := by rw [IntKind.wrap_i64]; omega
  obtain ⟨F, hF⟩ : ∃ F : Int, F = (B : Int) + (k : Int) := ⟨_, rfl⟩
  have hw3 : IntKind.i64.wrap ((B : Int) + (k : Int)) = F := by rw [hF, IntKind.wrap_i64]; omega
  have h1 : ¬ E < (B : Int) := by omega
  have hd : decide (E < (B : Int)) = false := by simpa using h1
  have h2 : ¬ F < E := by omega
  have hB2 : (B + m) + (bs.drop m).length ≤ 9223372036854775807 := by rw [List.length_drop]; omega
  have hEe : E = ((B + m : Nat) : Int) := by omega
  replace hB2 := hide_it hB2
  replace hEe := hide_it hEe
  obtain ⟨Bi, hBi⟩ : ∃ Bi : Int, Bi = (B : Int) := ⟨_, rfl⟩
  rw [← hBi] at c0 d0 h1 hw hw3 hd
  clear h hE hF hroom hBi hA1
  go_enter Try.func41, Try.ntmps41
  go_wp2_with fail
  refine wp_region_held_drew (S := (fun w' => Below w.heap.size w w')) (by kernel_rfl) ?_ (fun hHeld => ?_)
  · exact (Below.refl _ _).drew
  refine take_on (i := 0) (v := ?_) rfl rfl (by kernel_rfl) (by kernel_rfl) (by kernel_rfl) (fun _ _ _ h => h) rfl ?_ hHeld ?_
  rotate_left
  · (intro wq hSq; have q0 := (hSq.cell (p := ⟨p, o, none⟩) hplt).trans c0; have q1 := (hSq.cell (p := ⟨p, o + 1, none⟩) hplt).trans c1; go_simp <;> first | with_reducible rfl | rfl)
  simp only [Act.put, List.setIfInBounds_toArray, List.set_cons_zero, List.set_cons_succ]
  refine take_on (i := 1) (v := ?_) rfl rfl (by kernel_rfl) (by kernel_rfl) (by kernel_rfl) (fun _ _ _ h => h) rfl ?_ hHeld ?_
  rotate_left
  · (intro wq hSq; have q0 := (hSq.cell (p := ⟨p, o, none⟩) hplt).trans c0; have q1 := (hSq.cell (p := ⟨p, o + 1, none⟩) hplt).trans c1; go_simp <;> first | with_reducible rfl | rfl)
  simp only [Act.put, List.setIfInBounds_toArray, List.set_cons_zero, List.set_cons_succ]
  refine take_on (i := 2) (v := ?_) rfl rfl (by kernel_rfl) (by kernel_rfl) (by kernel_rfl) (fun _ _ _ h => h) rfl ?_ hHeld ?_
  rotate_left
  · (intro wq hSq; have q0 := (hSq.cell (p := ⟨p, o, none⟩) hplt).trans c0; have q1 := (hSq.cell (p := ⟨p, o + 1, none⟩) hplt).trans c1; go_simp <;> first | with_reducible rfl | rfl)
  simp only [Act.put, List.setIfInBounds_toArray, List.set_cons_zero, List.set_cons_succ]
  refine take_on (i := 3) (v := ?_) rfl rfl (by kernel_rfl) (by kernel_rfl) (by kernel_rfl) (fun _ _ _ h => h) rfl ?_ hHeld ?_
  rotate_left
  · (intro wq hSq; have q0 := (hSq.cell (p := ⟨p, o, none⟩) hplt).trans c0; have q1 := (hSq.cell (p := ⟨p, o + 1, none⟩) hplt).trans c1; go_simp <;> first | with_reducible rfl | rfl)
  simp only [Act.put, List.setIfInBounds_toArray, List.set_cons_zero, List.set_cons_succ]
  refine take_on (i := 4) (v := ?_) rfl rfl (by kernel_rfl) (by kernel_rfl) (by kernel_rfl) (fun _ _ _ h => h) rfl ?_ hHeld ?_
  rotate_left
  · (intro wq hSq; have q0 := (hSq.cell (p := ⟨p, o, none⟩) hplt).trans c0; have q1 := (hSq.cell (p := ⟨p, o + 1, none⟩) hplt).trans c1; go_simp <;> first | with_reducible rfl | rfl)
  simp only [Act.put, List.setIfInBounds_toArray, List.set_cons_zero, List.set_cons_succ]
  refine take_on (i := 5) (v := ?_) rfl rfl (by kernel_rfl) (by kernel_rfl) (by kernel_rfl) (fun _ _ _ h => h) rfl ?_ hHeld ?_
  rotate_left
  · (intro wq hSq; have q0 := (hSq.cell (p := ⟨p, o, none⟩) hplt).trans c0; have q1 := (hSq.cell (p := ⟨p, o + 1, none⟩) hplt).trans c1; go_simp <;> first | with_reducible rfl | rfl)
  simp only [Act.put, List.setIfInBounds_toArray, List.set_cons_zero, List.set_cons_succ]
  refine take_on (i := 6) (v := ?_) rfl rfl (by kernel_rfl) (by kernel_rfl) (by kernel_rfl) (fun _ _ _ h => h) rfl ?_ hHeld ?_
  rotate_left
  · (intro wq hSq; have q0 := (hSq.cell (p := ⟨p, o, none⟩) hplt).trans c0; have q1 := (hSq.cell (p := ⟨p, o + 1, none⟩) hplt).trans c1; go_simp <;> first | with_reducible rfl | rfl)
  simp only [Act.put, List.setIfInBounds_toArray, List.set_cons_zero, List.set_cons_succ]
  refine take_on (i := 7) (v := ?_) rfl rfl (by kernel_rfl) (by kernel_rfl) (by kernel_rfl) (fun _ _ _ h => h) rfl ?_ hHeld ?_
  rotate_left
  · (intro wq hSq; have q0 := (hSq.cell (p := ⟨p, o, none⟩) hplt).trans c0; have q1 := (hSq.cell (p := ⟨p, o + 1, none⟩) hplt).trans c1; go_simp <;> first | with_reducible rfl | rfl)
  simp only [Act.put, List.setIfInBounds_toArray, List.set_cons_zero, List.set_cons_succ]
  refine take_on (i := 8) (v := ?_) rfl rfl (by kernel_rfl) (by kernel_rfl) (by kernel_rfl) (fun _ _ _ h => h) rfl ?_ hHeld ?_
  rotate_left
  · (intro wq hSq; have q0 := (hSq.cell (p := ⟨p, o, none⟩) hplt).trans c0; have q1 := (hSq.cell (p := ⟨p, o + 1, none⟩) hplt).trans c1; go_simp <;> first | with_reducible rfl | rfl)
  simp only [Act.put, List.setIfInBounds_toArray, List.set_cons_zero, List.set_cons_succ]
  refine take_on (i := 9) (v := ?_) rfl rfl (by kernel_rfl) (by kernel_rfl) (by kernel_rfl) (fun _ _ _ h => h) rfl ?_ hHeld ?_
  rotate_left
  · (intro wq hSq; have q0 := (hSq.cell (p := ⟨p, o, none⟩) hplt).trans c0; have q1 := (hSq.cell (p := ⟨p, o + 1, none⟩) hplt).trans c1; go_simp <;> first | with_reducible rfl | rfl)
  simp only [Act.put, List.setIfInBounds_toArray, List.set_cons_zero, List.set_cons_succ]
  refine take_on (i := 10) (v := ?_) rfl rfl (by kernel_rfl) (by kernel_rfl) (by kernel_rfl) (fun _ _ _ h => h) rfl ?_ hHeld ?_
  rotate_left
  · (intro wq hSq; have q0 := (hSq.cell (p := ⟨p, o, none⟩) hplt).trans c0; have q1 := (hSq.cell (p := ⟨p, o + 1, none⟩) hplt).trans c1; go_simp <;> first | with_reducible rfl | rfl)
  simp only [Act.put, List.setIfInBounds_toArray, List.set_cons_zero, List.set_cons_succ]
  refine take_on (i := 11) (v := ?_) rfl rfl (by kernel_rfl) (by kernel_rfl) (by kernel_rfl) (fun _ _ _ h => h) rfl ?_ hHeld ?_
  rotate_left
  · (intro wq hSq; have q0 := (hSq.cell (p := ⟨p, o, none⟩) hplt).trans c0; have q1 := (hSq.cell (p := ⟨p, o + 1, none⟩) hplt).trans c1; go_simp <;> first | with_reducible rfl | rfl)
  simp only [Act.put, List.setIfInBounds_toArray, List.set_cons_zero, List.set_cons_succ]
  refine take_on (i := 12) (v := ?_) rfl rfl (by kernel_rfl) (by kernel_rfl) (by kernel_rfl) (fun _ _ _ h => h) rfl ?_ hHeld ?_
  rotate_left
  · (intro wq hSq; have q0 := (hSq.cell (p := ⟨p, o, none⟩) hplt).trans c0; have q1 := (hSq.cell (p := ⟨p, o + 1, none⟩) hplt).trans c1; go_simp <;> first | with_reducible rfl | rfl)
  simp only [Act.put, List.setIfInBounds_toArray, List.set_cons_zero, List.set_cons_succ]
  refine take_on (i := 13) (v := ?_) rfl rfl (by kernel_rfl) (by kernel_rfl) (by kernel_rfl) (fun _ _ _ h => h) rfl ?_ hHeld ?_
  rotate_left
  · (intro wq hSq; have q0 := (hSq.cell (p := ⟨p, o, none⟩) hplt).trans c0; have q1 := (hSq.cell (p := ⟨p, o + 1, none⟩) hplt).trans c1; go_simp <;> first | with_reducible rfl | rfl)
  simp only [Act.put, List.setIfInBounds_toArray, List.set_cons_zero, List.set_cons_succ]
  refine take_on (i := 14) (v := ?_) rfl rfl (by kernel_rfl) (by kernel_rfl) (by kernel_rfl) (fun _ _ _ h => h) rfl ?_ hHeld ?_
  rotate_left
  · (intro wq hSq; have q0 := (hSq.cell (p := ⟨p, o, none⟩) hplt).trans c0; have q1 := (hSq.cell (p := ⟨p, o + 1, none⟩) hplt).trans c1; go_simp <;> first | with_reducible rfl | rfl)
  simp only [Act.put, List.setIfInBounds_toArray, List.set_cons_zero, List.set_cons_succ]
  refine take_on (i := 15) (v := ?_) rfl rfl (by kernel_rfl) (by kernel_rfl) (by kernel_rfl) (fun _ _ _ h => h) rfl ?_ hHeld ?_
  rotate_left
  · (intro wq hSq; have q0 := (hSq.cell (p := ⟨p, o, none⟩) hplt).trans c0; have q1 := (hSq.cell (p := ⟨p, o + 1, none⟩) hplt).trans c1; go_simp <;> first | with_reducible rfl | rfl)
  simp only [Act.put, List.setIfInBounds_toArray, List.set_cons_zero, List.set_cons_succ]
  refine take_on (i := 16) (v := ?_) rfl rfl (by kernel_rfl) (by kernel_rfl) (by kernel_rfl) (fun _ _ _ h => h) rfl ?_ hHeld ?_
  rotate_left
  · (intro wq hSq; have q0 := (hSq.cell (p := ⟨p, o, none⟩) hplt).trans c0; have q1 := (hSq.cell (p := ⟨p, o + 1, none⟩) hplt).trans c1; go_simp <;> first | with_reducible rfl | rfl)
  simp only [Act.put, List.setIfInBounds_toArray, List.set_cons_zero, List.set_cons_succ]
  refine take_on (i := 17) (v := ?_) rfl rfl (by kernel_rfl) (by kernel_rfl) (by kernel_rfl) (fun _ _ _ h => h) rfl ?_ hHeld ?_
  rotate_left
  · (intro wq hSq; have q0 := (hSq.cell (p := ⟨p, o, none⟩) hplt).trans c0; have q1 := (hSq.cell (p := ⟨p, o + 1, none⟩) hplt).trans c1; go_simp <;> first | with_reducible rfl | rfl)
  simp only [Act.put, List.setIfInBounds_toArray, List.set_cons_zero, List.set_cons_succ]
  refine take_on (i := 18) (v := ?_) rfl rfl (by kernel_rfl) (by kernel_rfl) (by kernel_rfl) (fun _ _ _ h => h) rfl ?_ hHeld ?_
  rotate_left
  · (intro wq hSq; have q0 := (hSq.cell (p := ⟨p, o, none⟩) hplt).trans c0; have q1 := (hSq.cell (p := ⟨p, o + 1, none⟩) hplt).trans c1; go_simp <;> first | with_reducible rfl | rfl)
  simp only [Act.put, List.setIfInBounds_toArray, List.set_cons_zero, List.set_cons_succ]
  refine wpAnyH_done (by kernel_rfl) ?_ _
  go_wp2_with fail
  refine hlv.mono ?_
  rintro e w2 ⟨rfl, hmv⟩
  have hm2 := Moved.behind hH.out (Below.refl _ _).drew hmv
  obtain ⟨v2, hA2, _⟩ := hmv.ex
  obtain ⟨e0, e1, e2, g0, g1, g2⟩ := hA2.cells
  have hm3 := hm2.put1 (k - m)
  have hm4 := hm3.put0 (B + m) hB2.out
  rw [← hEe.out] at hm4
  have q0 : (w2.setCell ⟨p, o + 1, none⟩ (.int .i64 ((k - m : Nat) : Int))).frozen? ⟨p, o, none⟩ = false := by
    obtain ⟨v3, hA3, _⟩ := hm3.ex
    exact hA3.cells.2.2.2.1
  have q1 : ∃ u, (w2.setCell ⟨p, o + 1, none⟩ (.int .i64 ((k - m : Nat) : Int))).cell? ⟨p, o, none⟩ = some u := by
    obtain ⟨v3, hA3, _⟩ := hm3.ex
    exact ⟨_, hA3.cells.1⟩
  obtain ⟨u, q1⟩ := q1
  clear hmv hm2 hA2 hlv c0 c1 c2 d0 d1 d2 hm3
  go_wp2_with fail
  go_ret
  exact ⟨rfl, hm4⟩

set_option maxRecDepth 100000 in
set_option maxHeartbeats 400000 in
theorem bounds_any {p o : Nat} {v : Value} {B : Nat} {bs : List Nat} {k : Nat} (w : World) (h : Ar w p o v B bs k) (hk : k ≤ bs.length) :
    Calls Try.prog 43 #[.pointer (some ⟨p, o, none⟩)] w fun e w' => e = .returned (.tuple #[.int .i64 (B : Int), .int .i64 ((B + k : Nat) : Int), .int .i64 ((B + bs.length : Nat) : Int)]) ∧ Below w.heap.size w w' := by
  have hroom := h.room
  have hen := end_any w.drew h.drew
  obtain ⟨c0, c1, c2, f0, f1, f2⟩ := h.cells
  have hw : IntKind.i64.wrap ((B : Int) + (k : Int)) = ((B + k : Nat) : Int) := by rw [IntKind.wrap_i64]; omega
  have hplt := h.plt
  obtain ⟨F, hF⟩ : ∃ F : Nat, F = B + k := ⟨_, rfl⟩
  obtain ⟨G, hG⟩ : ∃ G : Nat, G = B + bs.length := ⟨_, rfl⟩
  rw [← hF] at hw
  rw [← hG] at hen
  rw [← hF, ← hG]
  clear hF hG hroom h hk
  go_enter Try.func43, Try.ntmps43
  go_wp2_with fail
  refine wp_region_held_drew (S := (fun w' => Below w.heap.size w w')) (by kernel_rfl) ?_ (fun hHeld => ?_)
  · exact (Below.refl _ _).drew
  refine take_on (i := 0) (v := ?_) rfl rfl (by kernel_rfl) (by kernel_rfl) (by kernel_rfl) (fun _ _ _ h => h) rfl ?_ hHeld ?_
  rotate_left
  · (intro wq hSq; have q0 := (hSq.cell (p := ⟨p, o, none⟩) hplt).trans c0; have q1 := (hSq.cell (p := ⟨p, o + 1, none⟩) hplt).trans c1; have q2 := (hSq.cell (p := ⟨p, o + 2, none⟩) hplt).trans c2; go_simp <;> first | with_reducible rfl | rfl)
  simp only [Act.put, List.setIfInBounds_toArray, List.set_cons_zero, List.set_cons_succ]
  refine take_on (i := 1) (v := ?_) rfl rfl (by kernel_rfl) (by kernel_rfl) (by kernel_rfl) (fun _ _ _ h => h) rfl ?_ hHeld ?_
  rotate_left
  · (intro wq hSq; have q0 := (hSq.cell (p := ⟨p, o, none⟩) hplt).trans c0; have q1 := (hSq.cell (p := ⟨p, o + 1, none⟩) hplt).trans c1; have q2 := (hSq.cell (p := ⟨p, o + 2, none⟩) hplt).trans c2; go_simp <;> first | with_reducible rfl | rfl)
  simp only [Act.put, List.setIfInBounds_toArray, List.set_cons_zero, List.set_cons_succ]
  refine take_on (i := 2) (v := ?_) rfl rfl (by kernel_rfl) (by kernel_rfl) (by kernel_rfl) (fun _ _ _ h => h) rfl ?_ hHeld ?_
  rotate_left
  · (intro wq hSq; have q0 := (hSq.cell (p := ⟨p, o, none⟩) hplt).trans c0; have q1 := (hSq.cell (p := ⟨p, o + 1, none⟩) hplt).trans c1; have q2 := (hSq.cell (p := ⟨p, o + 2, none⟩) hplt).trans c2; go_simp <;> first | with_reducible rfl | rfl)
  simp only [Act.put, List.setIfInBounds_toArray, List.set_cons_zero, List.set_cons_succ]
  refine take_on (i := 3) (v := ?_) rfl rfl (by kernel_rfl) (by kernel_rfl) (by kernel_rfl) (fun _ _ _ h => h) rfl ?_ hHeld ?_
  rotate_left
  · (intro wq hSq; have q0 := (hSq.cell (p := ⟨p, o, none⟩) hplt).trans c0; have q1 := (hSq.cell (p := ⟨p, o + 1, none⟩) hplt).trans c1; have q2 := (hSq.cell (p := ⟨p, o + 2, none⟩) hplt).trans c2; go_simp <;> first | with_reducible rfl | rfl)
  simp only [Act.put, List.setIfInBounds_toArray, List.set_cons_zero, List.set_cons_succ]
  refine take_on (i := 4) (v := ?_) rfl rfl (by kernel_rfl) (by kernel_rfl) (by kernel_rfl) (fun _ _ _ h => h) rfl ?_ hHeld ?_
  rotate_left
  · (intro wq hSq; have q0 := (hSq.cell (p := ⟨p, o, none⟩) hplt).trans c0; have q1 := (hSq.cell (p := ⟨p, o + 1, none⟩) hplt).trans c1; have q2 := (hSq.cell (p := ⟨p, o + 2, none⟩) hplt).trans c2; go_simp <;> first | with_reducible rfl | rfl)
  simp only [Act.put, List.setIfInBounds_toArray, List.set_cons_zero, List.set_cons_succ]
  refine take_on (i := 5) (v := ?_) rfl rfl (by kernel_rfl) (by kernel_rfl) (by kernel_rfl) (fun _ _ _ h => h) rfl ?_ hHeld ?_
  rotate_left
  · (intro wq hSq; have q0 := (hSq.cell (p := ⟨p, o, none⟩) hplt).trans c0; have q1 := (hSq.cell (p := ⟨p, o + 1, none⟩) hplt).trans c1; have q2 := (hSq.cell (p := ⟨p, o + 2, none⟩) hplt).trans c2; go_simp <;> first | with_reducible rfl | rfl)
  simp only [Act.put, List.setIfInBounds_toArray, List.set_cons_zero, List.set_cons_succ]
  refine take_on (i := 6) (v := ?_) rfl rfl (by kernel_rfl) (by kernel_rfl) (by kernel_rfl) (fun _ _ _ h => h) rfl ?_ hHeld ?_
  rotate_left
  · (intro wq hSq; have q0 := (hSq.cell (p := ⟨p, o, none⟩) hplt).trans c0; have q1 := (hSq.cell (p := ⟨p, o + 1, none⟩) hplt).trans c1; have q2 := (hSq.cell (p := ⟨p, o + 2, none⟩) hplt).trans c2; go_simp <;> first | with_reducible rfl | rfl)
  simp only [Act.put, List.setIfInBounds_toArray, List.set_cons_zero, List.set_cons_succ]
  refine take_on (i := 7) (v := ?_) rfl rfl (by kernel_rfl) (by kernel_rfl) (by kernel_rfl) (fun _ _ _ h => h) rfl ?_ hHeld ?_
  rotate_left
  · (intro wq hSq; have q0 := (hSq.cell (p := ⟨p, o, none⟩) hplt).trans c0; have q1 := (hSq.cell (p := ⟨p, o + 1, none⟩) hplt).trans c1; have q2 := (hSq.cell (p := ⟨p, o + 2, none⟩) hplt).trans c2; go_simp <;> first | with_reducible rfl | rfl)
  simp only [Act.put, List.setIfInBounds_toArray, List.set_cons_zero, List.set_cons_succ]
  refine take_on (i := 8) (v := ?_) rfl rfl (by kernel_rfl) (by kernel_rfl) (by kernel_rfl) (fun _ _ _ h => h) rfl ?_ hHeld ?_
  rotate_left
  · (intro wq hSq; have q0 := (hSq.cell (p := ⟨p, o, none⟩) hplt).trans c0; have q1 := (hSq.cell (p := ⟨p, o + 1, none⟩) hplt).trans c1; have q2 := (hSq.cell (p := ⟨p, o + 2, none⟩) hplt).trans c2; go_simp <;> first | with_reducible rfl | rfl)
  simp only [Act.put, List.setIfInBounds_toArray, List.set_cons_zero, List.set_cons_succ]
  refine take_on (i := 9) (v := ?_) rfl rfl (by kernel_rfl) (by kernel_rfl) (by kernel_rfl) (fun _ _ _ h => h) rfl ?_ hHeld ?_
  rotate_left
  · (intro wq hSq; have q0 := (hSq.cell (p := ⟨p, o, none⟩) hplt).trans c0; have q1 := (hSq.cell (p := ⟨p, o + 1, none⟩) hplt).trans c1; have q2 := (hSq.cell (p := ⟨p, o + 2, none⟩) hplt).trans c2; go_simp <;> first | with_reducible rfl | rfl)
  simp only [Act.put, List.setIfInBounds_toArray, List.set_cons_zero, List.set_cons_succ]
  refine take_on (i := 10) (v := ?_) rfl rfl (by kernel_rfl) (by kernel_rfl) (by kernel_rfl) (fun _ _ _ h => h) rfl ?_ hHeld ?_
  rotate_left
  · (intro wq hSq; have q0 := (hSq.cell (p := ⟨p, o, none⟩) hplt).trans c0; have q1 := (hSq.cell (p := ⟨p, o + 1, none⟩) hplt).trans c1; have q2 := (hSq.cell (p := ⟨p, o + 2, none⟩) hplt).trans c2; go_simp <;> first | with_reducible rfl | rfl)
  simp only [Act.put, List.setIfInBounds_toArray, List.set_cons_zero, List.set_cons_succ]
  refine take_on (i := 11) (v := ?_) rfl rfl (by kernel_rfl) (by kernel_rfl) (by kernel_rfl) (fun _ _ _ h => h) rfl ?_ hHeld ?_
  rotate_left
  · (intro wq hSq; have q0 := (hSq.cell (p := ⟨p, o, none⟩) hplt).trans c0; have q1 := (hSq.cell (p := ⟨p, o + 1, none⟩) hplt).trans c1; have q2 := (hSq.cell (p := ⟨p, o + 2, none⟩) hplt).trans c2; go_simp <;> first | with_reducible rfl | rfl)
  simp only [Act.put, List.setIfInBounds_toArray, List.set_cons_zero, List.set_cons_succ]
  refine take_on (i := 12) (v := ?_) rfl rfl (by kernel_rfl) (by kernel_rfl) (by kernel_rfl) (fun _ _ _ h => h) rfl ?_ hHeld ?_
  rotate_left
  · (intro wq hSq; have q0 := (hSq.cell (p := ⟨p, o, none⟩) hplt).trans c0; have q1 := (hSq.cell (p := ⟨p, o + 1, none⟩) hplt).trans c1; have q2 := (hSq.cell (p := ⟨p, o + 2, none⟩) hplt).trans c2; go_simp <;> first | with_reducible rfl | rfl)
  simp only [Act.put, List.setIfInBounds_toArray, List.set_cons_zero, List.set_cons_succ]
  refine take_on (i := 13) (v := ?_) rfl rfl (by kernel_rfl) (by kernel_rfl) (by kernel_rfl) (fun _ _ _ h => h) rfl ?_ hHeld ?_
  rotate_left
  · (intro wq hSq; have q0 := (hSq.cell (p := ⟨p, o, none⟩) hplt).trans c0; have q1 := (hSq.cell (p := ⟨p, o + 1, none⟩) hplt).trans c1; have q2 := (hSq.cell (p := ⟨p, o + 2, none⟩) hplt).trans c2; go_simp <;> first | with_reducible rfl | rfl)
  simp only [Act.put, List.setIfInBounds_toArray, List.set_cons_zero, List.set_cons_succ]
  refine take_one (i := 14) rfl (by kernel_rfl) (fun K hK => ?_)
  go_simp
  refine hen.mono ?_; rintro e y1 ⟨rfl, hb1⟩
  try go_wp2_with fail
  refine hK.out _ _ ?_ (fun hHeld => ?_)
  · exact hHeld.trans hb1
  clear hK K
  try simp only [Act.put, List.setIfInBounds_toArray, List.set_cons_zero, List.set_cons_succ]
  refine take_on (i := 15) (v := ?_) rfl rfl (by kernel_rfl) (by kernel_rfl) (by kernel_rfl) (fun _ _ _ h => h) rfl ?_ hHeld ?_
  rotate_left
  · (intro wq hSq; have q0 := (hSq.cell (p := ⟨p, o, none⟩) hplt).trans c0; have q1 := (hSq.cell (p := ⟨p, o + 1, none⟩) hplt).trans c1; have q2 := (hSq.cell (p := ⟨p, o + 2, none⟩) hplt).trans c2; go_simp <;> first | with_reducible rfl | rfl)
  simp only [Act.put, List.setIfInBounds_toArray, List.set_cons_zero, List.set_cons_succ]
  refine take_on (i := 16) (v := ?_) rfl rfl (by kernel_rfl) (by kernel_rfl) (by kernel_rfl) (fun _ _ _ h => h) rfl ?_ hHeld ?_
  rotate_left
  · (intro wq hSq; have q0 := (hSq.cell (p := ⟨p, o, none⟩) hplt).trans c0; have q1 := (hSq.cell (p := ⟨p, o + 1, none⟩) hplt).trans c1; have q2 := (hSq.cell (p := ⟨p, o + 2, none⟩) hplt).trans c2; go_simp <;> first | with_reducible rfl | rfl)
  simp only [Act.put, List.setIfInBounds_toArray, List.set_cons_zero, List.set_cons_succ]
  refine take_on (i := 17) (v := ?_) rfl rfl (by kernel_rfl) (by kernel_rfl) (by kernel_rfl) (fun _ _ _ h => h) rfl ?_ hHeld ?_
  rotate_left
  · (intro wq hSq; have q0 := (hSq.cell (p := ⟨p, o, none⟩) hplt).trans c0; have q1 := (hSq.cell (p := ⟨p, o + 1, none⟩) hplt).trans c1; have q2 := (hSq.cell (p := ⟨p, o + 2, none⟩) hplt).trans c2; go_simp <;> first | with_reducible rfl | rfl)
  simp only [Act.put, List.setIfInBounds_toArray, List.set_cons_zero, List.set_cons_succ]
  refine wpAnyH_done (by kernel_rfl) ?_ _
  go_wp2_with fail
  refine bodyPost_ret (v := .tuple #[.int .i64 (B : Int), .int .i64 (F : Int), .int .i64 (G : Int)]) (by simp [results, Try.results43, go_sem]) rfl ?_
  exact ⟨rfl, hHeld⟩

set_option maxRecDepth 100000 in
set_option maxHeartbeats 400000 in
theorem read_no {p o : Nat} {v : Value} {B : Nat} {bs : List Nat} {k : Nat} (w : World) (h : Ar w p o v B bs k) (E N : Int) (hEb : E ≤ 9223372036854775807) (hE : N < 0 ∨ E < (B : Int) ∨ (B : Int) + (bs.length : Int) < E + N) :
    Calls Try.prog 15 #[.pointer (some ⟨p, o, none⟩), .int .i64 E, .int .i64 N] w fun e w' => e = .returned (.tuple #[.slice none 0 0, .int .i64 70]) ∧ Below w.heap.size w w' := by
  obtain ⟨c0, c1, c2, f0, f1, f2⟩ := h.cells
  have hen := end_any w h
  have hroom := h.room
  by_cases h0 : N < 0
  · have hd : decide (N < 0) = true := by simpa using h0
    clear hE h hroom hen hEb
    go_enter Try.func15, Try.ntmps15
    go_wp2_with fail
    refine bodyPost_ret (v := .tuple #[.slice none 0 0, .int .i64 70]) (by simp [results, Try.results15, go_sem]) rfl ?_
    exact ⟨rfl, Below.refl _ _⟩
  · have hd : decide (N < 0) = false := by simp; omega
    by_cases h1 : E < (B : Int)
    · have hd1 : decide (E < (B : Int)) = true := by simpa using h1
      clear hE h hroom hen hEb
      generalize (B : Int) = Bi at *
      go_enter Try.func15, Try.ntmps15
      go_wp2_with fail
      refine bodyPost_ret (v := .tuple #[.slice none 0 0, .int .i64 70]) (by simp [results, Try.results15, go_sem]) rfl ?_
      exact ⟨rfl, Below.refl _ _⟩
    · have hd1 : decide (E < (B : Int)) = false := by simp; omega
      obtain ⟨F, hF⟩ : ∃ F : Int, F = ((B + bs.length : Nat) : Int) := ⟨_, rfl⟩
      obtain ⟨G, hG⟩ : ∃ G : Int, G = F - E := ⟨_, rfl⟩
      have hw : IntKind.i64.wrap (F - E) = G := by rw [IntKind.wrap_i64]; omega
      have h2 : G < N := by omega
      rw [← hF] at hen
      clear hE h hroom hF hG hEb
      generalize (B : Int) = Bi at *
      go_enter Try.func15, Try.ntmps15
      go_wp2_with fail
      refine hen.mono ?_
      rintro e w1 ⟨rfl, hb1⟩
      go_wp2_with fail
      refine bodyPost_ret (v := .tuple #[.slice none 0 0, .int .i64 70]) (by simp [results, Try.results15, go_sem]) rfl ?_
      exact ⟨rfl, hb1⟩

/-- What a call that tells bytes answers: new memory. -/
structure Tells (w : World) (zs : List Nat) (c : Int) (e : Ending) (w' : World) : Prop where
  ex : ∃ r, e = .returned (.tuple #[r, .int .i64 c]) ∧ OwB w' w.heap.size r zs
  bel : Below w.heap.size w w'

set_option maxRecDepth 100000 in
set_option maxHeartbeats 400000 in
theorem read_ok {p o : Nat} {v : Value} {B : Nat} {bs : List Nat} {k : Nat} (w : World) (h : Ar w p o v B bs k) (i m : Nat) (him : i + m ≤ bs.length) (E : Int) (hE : E = (B : Int) + (i : Int)) :
    Calls Try.prog 15 #[.pointer (some ⟨p, o, none⟩), .int .i64 E, .int .i64 (m : Int)] w fun e w' => Tells w ((bs.take (i + m)).drop i) 0 e w' := by
  obtain ⟨c0, c1, c2, f0, f1, f2⟩ := h.cells
  have hen := end_any w h
  have hH := hide_it h
  have hroom := h.room
  have hl := h.len
  obtain ⟨a, cap, rfl, hrow, hcap, hcm, hnil⟩ := h.own.row
  have hcut := OwB.drop (m := i) (zs := bs.take (i + m)) (by rw [List.length_take, Nat.min_eq_left him]; exact OwB.take h.own him) (by rw [List.length_take, Nat.min_eq_left him]; omega)
  rw [List.length_take, Nat.min_eq_left him] at hcut
  obtain ⟨A, hA⟩ : ∃ A, (if cap = i then a else a.map (·.add i)) = A := ⟨_, rfl⟩
  rw [hA, Nat.add_sub_cancel_left] at hcut
  have hlen : ((bs.take (i + m)).drop i).length = m := by simp; omega
  obtain ⟨zs, hzs⟩ : ∃ zs, zs = (bs.take (i + m)).drop i := ⟨_, rfl⟩
  rw [← hzs] at hcut hlen
  rw [← hzs]
  obtain ⟨a2, c2', e2, hrow2, _, _, hnil2⟩ := hcut.row
  rw [hlen] at e2
  cases e2
  obtain ⟨F, hF⟩ : ∃ F : Int, F = ((B + bs.length : Nat) : Int) := ⟨_, rfl⟩
  obtain ⟨G, hG⟩ : ∃ G : Int, G = F - E := ⟨_, rfl⟩
  have hw : IntKind.i64.wrap (F - E) = G := by rw [IntKind.wrap_i64]; omega
  have h2 : ¬ G < (m : Int) := by omega
  have hw2 : IntKind.i64.wrap (E - (B : Int)) = (i : Int) := by rw [IntKind.wrap_i64]; omega
  have hw3 : IntKind.i64.wrap ((i : Int) + (m : Int)) = ((i + m : Nat) : Int) := by rw [IntKind.wrap_i64]; omega
  have hd1 : decide (E < (B : Int)) = false := by simp; omega
  have hd0 : decide ((m : Int) < 0) = false := by simp
  have hfr := fun w1 hb => fresh_any A (cap - i) zs w1 (RowB.below hrow2 hb) (by omega) hnil2
  rw [hlen] at hfr
  obtain ⟨J, hJ⟩ : ∃ J, J = i + m := ⟨_, rfl⟩
  have hJi : J - i = m := by omega
  have hJc : J ≤ cap := by omega
  have hJl : i ≤ J := by omega
  rw [← hJ] at hw3
  rw [← hF] at hen
  clear hE hF hG hroom h hl hcut hrow hrow2 hnil hnil2 hzs hJ hlen him hcap
  obtain ⟨Bi, hBi⟩ : ∃ Bi : Int, Bi = (B : Int) := ⟨_, rfl⟩
  rw [← hBi] at c0 hd1 hw2
  replace hBi := hide_it hBi
  go_enter Try.func15, Try.ntmps15
  go_wp2_with fail
  refine hen.mono ?_
  rintro e w1 ⟨rfl, hb1⟩
  have hA1 := hH.out.below hb1
  obtain ⟨d0, d1, d2, _⟩ := hA1.cells
  rw [← hBi.out] at d0
  have hfr1 := hfr w1 hb1
  clear hen hA1 c0 c1 c2 hfr
  go_wp2_with fail
  refine hfr1.mono ?_
  rintro e w2 ⟨⟨r, rfl, hown⟩, hb2⟩
  clear hfr1 d0 d1 d2
  go_wp2_with fail
  refine bodyPost_ret (v := .tuple #[r, .int .i64 0]) (by simp [results, Try.results15, go_sem]) rfl ?_
  exact ⟨⟨r, rfl, hown.mono hb1.size⟩, hb1.trans (hb2.mono hb1.size)⟩

end Go.Proofs.Ytdodnegdpdhbiaa

/- Two lists of items that are the same, bit by bit. -/
import Derived.Test.YtelcfmjhbjnkoaaRf10
import Derived.Test.YtelcfmjhbjnkoaaOw17
namespace Go.Proofs.Ytelcfmjhbjnkoaa
open Go.RowKit

set_option maxRecDepth 100000 in
set_option maxHeartbeats 1000000 in
theorem allAlike_same (a b : Option Addr) (ca cc : Nat) (ys : List It) (w : World) (ha : RowI w a ys) (hb : RowR w b ys) (hl : ys.length ≤ 1000000000) :
    Calls Try.prog 14 #[.slice a ys.length ca, .slice b ys.length cc] w fun e w' => e = .returned (.bool true) ∧ Below w.heap.size w w' := by
  have HA := hide_it ha
  have HB := hide_it hb
  clear ha hb
  go_enter Try.func14, Try.ntmps14
  go_wp2_with fail
  go_loopw [5] (fun i wr => ∃ k : Nat, k ≤ ys.length ∧ i = .int .i64 (k : Int) ∧ Below w.heap.size w wr) (fun i _ => ys.length - (intOf i).toNat)
  case atStart => exact ⟨0, by omega, rfl, Below.refl _ _⟩
  case round =>
    obtain ⟨k, hk, rfl, hbl⟩ := hrel
    have hbs := hbl.size
    by_cases hlt : k < ys.length
    · have hd1 : decide ((k : Int) < (ys.length : Int)) = true := by simp; omega
      obtain ⟨b1, o1, rfl, hb1, at1⟩ := HA.out.here hlt
      obtain ⟨b2, o2, rfl, hb2, at2⟩ := HB.out.here hlt
      have at1' := at1.below hbl hb1
      have at2' := at2.below hbl hb2
      have hal := fun w => alike_same ys[k] w
      generalize ys[k] = x at *
      have lw1 : b1 < wr.heap.size := by omega
      have lw2 : b2 < wr.heap.size := by omega
      clear at1 at2
      go_wp2_with fail
      refine wp_region_held_drew (S := (fun w' => Below wr.heap.size wr w')) (by kernel_rfl) ?_ (fun hHeld => ?_)
      · exact (Below.refl _ _).drew
      refine take_on (i := 0) (v := ?_) rfl rfl (by kernel_rfl) (by kernel_rfl) (by kernel_rfl) (fun _ _ _ h => h) rfl ?_ hHeld ?_
      rotate_left
      · (intro wq hSq; obtain ⟨q0, q1, q2, q3, q4, q5⟩ := at1'.below hSq lw1; obtain ⟨r0, r1, r2, r3, r4, r5, r6⟩ := at2'.below hSq lw2; go_simp <;> first | with_reducible rfl | rfl)
      simp only [Act.put, List.setIfInBounds_toArray, List.set_cons_zero, List.set_cons_succ]
      refine take_on (i := 1) (v := ?_) rfl rfl (by kernel_rfl) (by kernel_rfl) (by kernel_rfl) (fun _ _ _ h => h) rfl ?_ hHeld ?_
      rotate_left
      · (intro wq hSq; obtain ⟨q0, q1, q2, q3, q4, q5⟩ := at1'.below hSq lw1; obtain ⟨r0, r1, r2, r3, r4, r5, r6⟩ := at2'.below hSq lw2; go_simp <;> first | with_reducible rfl | rfl)
      simp only [Act.put, List.setIfInBounds_toArray, List.set_cons_zero, List.set_cons_succ]
      refine take_on (i := 2) (v := ?_) rfl rfl (by kernel_rfl) (by kernel_rfl) (by kernel_rfl) (fun _ _ _ h => h) rfl ?_ hHeld ?_
      rotate_left
      · (intro wq hSq; obtain ⟨q0, q1, q2, q3, q4, q5⟩ := at1'.below hSq lw1; obtain ⟨r0, r1, r2, r3, r4, r5, r6⟩ := at2'.below hSq lw2; go_simp <;> first | with_reducible rfl | rfl)
      simp only [Act.put, List.setIfInBounds_toArray, List.set_cons_zero, List.set_cons_succ]
      refine take_on (i := 3) (v := ?_) rfl rfl (by kernel_rfl) (by kernel_rfl) (by kernel_rfl) (fun _ _ _ h => h) rfl ?_ hHeld ?_
      rotate_left
      · (intro wq hSq; obtain ⟨q0, q1, q2, q3, q4, q5⟩ := at1'.below hSq lw1; obtain ⟨r0, r1, r2, r3, r4, r5, r6⟩ := at2'.below hSq lw2; go_simp <;> first | with_reducible rfl | rfl)
      simp only [Act.put, List.setIfInBounds_toArray, List.set_cons_zero, List.set_cons_succ]
      refine take_on (i := 4) (v := ?_) rfl rfl (by kernel_rfl) (by kernel_rfl) (by kernel_rfl) (fun _ _ _ h => h) rfl ?_ hHeld ?_
      rotate_left
      · (intro wq hSq; obtain ⟨q0, q1, q2, q3, q4, q5⟩ := at1'.below hSq lw1; obtain ⟨r0, r1, r2, r3, r4, r5, r6⟩ := at2'.below hSq lw2; go_simp <;> first | with_reducible rfl | rfl)
      simp only [Act.put, List.setIfInBounds_toArray, List.set_cons_zero, List.set_cons_succ]
      refine take_on (i := 5) (v := ?_) rfl rfl (by kernel_rfl) (by kernel_rfl) (by kernel_rfl) (fun _ _ _ h => h) rfl ?_ hHeld ?_
      rotate_left
      · (intro wq hSq; obtain ⟨q0, q1, q2, q3, q4, q5⟩ := at1'.below hSq lw1; obtain ⟨r0, r1, r2, r3, r4, r5, r6⟩ := at2'.below hSq lw2; go_simp <;> first | with_reducible rfl | rfl)
      simp only [Act.put, List.setIfInBounds_toArray, List.set_cons_zero, List.set_cons_succ]
      refine take_on (i := 6) (v := ?_) rfl rfl (by kernel_rfl) (by kernel_rfl) (by kernel_rfl) (fun _ _ _ h => h) rfl ?_ hHeld ?_
      rotate_left
      · (intro wq hSq; obtain ⟨q0, q1, q2, q3, q4, q5⟩ := at1'.below hSq lw1; obtain ⟨r0, r1, r2, r3, r4, r5, r6⟩ := at2'.below hSq lw2; go_simp <;> first | with_reducible rfl | rfl)
      simp only [Act.put, List.setIfInBounds_toArray, List.set_cons_zero, List.set_cons_succ]
      refine take_on (i := 7) (v := ?_) rfl rfl (by kernel_rfl) (by kernel_rfl) (by kernel_rfl) (fun _ _ _ h => h) rfl ?_ hHeld ?_
      rotate_left
      · (intro wq hSq; obtain ⟨q0, q1, q2, q3, q4, q5⟩ := at1'.below hSq lw1; obtain ⟨r0, r1, r2, r3, r4, r5, r6⟩ := at2'.below hSq lw2; go_simp <;> first | with_reducible rfl | rfl)
      simp only [Act.put, List.setIfInBounds_toArray, List.set_cons_zero, List.set_cons_succ]
      refine take_one (i := 8) rfl (by kernel_rfl) (fun K hK => ?_)
      go_simp
      refine (hal _).mono ?_; rintro e y1 ⟨rfl, hq1⟩; have hSx := hHeld.trans (hq1.mono hHeld.size); clear hq1
      try go_wp2_with fail
      refine hK.out _ _ ?_ (fun hHeld => ?_)
      · exact hSx
      clear hK K
      try simp only [Act.put, List.setIfInBounds_toArray, List.set_cons_zero, List.set_cons_succ]
      refine take_on (i := 9) (v := ?_) rfl rfl (by kernel_rfl) (by kernel_rfl) (by kernel_rfl) (fun _ _ _ h => h) rfl ?_ hHeld ?_
      rotate_left
      · (intro wq hSq; obtain ⟨q0, q1, q2, q3, q4, q5⟩ := at1'.below hSq lw1; obtain ⟨r0, r1, r2, r3, r4, r5, r6⟩ := at2'.below hSq lw2; go_simp <;> first | with_reducible rfl | rfl)
      simp only [Act.put, List.setIfInBounds_toArray, List.set_cons_zero, List.set_cons_succ]
      refine wpAnyH_done (by kernel_rfl) ?_ _
      have hb5 := hbl.trans (hHeld.mono hbs)
      go_wp2_with fail
      go_roundw
      case rel => exact ⟨k + 1, by omega, by go_num, hb5⟩
      case measure => simp [intOf]; omega
    · have hke : k = ys.length := by omega
      subst hke
      have hd1 : decide ((ys.length : Int) < (ys.length : Int)) = false := by simp
      go_wp2_with fail
      go_ret
      exact ⟨rfl, hbl⟩

end Go.Proofs.Ytelcfmjhbjnkoaa

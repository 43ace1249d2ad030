/- The document's disk: whether the power is gone; the bounds. -/
import Derived.Test.YtdodnegdpdhbiaaDr1
namespace Go.Proofs.Ytdodnegdpdhbiaa
open Go.RowKit

/-- Why an operation is refused ahead of all else (0: it is not). -/
def dnR (am : Bool) (n : Nat) (s : Nat → Pt) (I : Int) : Int := if inD n I = true then (if down am (s I.toNat) = true then 80 else 0) else 81

section
variable {w : World} {F : Nat → Prop} {a : Option Addr} {n c : Nat} {am : Bool} {s : Nat → Pt}
set_option maxRecDepth 100000 in
set_option maxHeartbeats 1600000 in
theorem downR (h : Dd w F a n s) (I : Int) : Calls Try.prog 80 #[valD a n c am, .int .i64 I] w fun e w' => e = .returned (.int .i64 (dnR am n s I)) ∧ Below w.heap.size w w' := by
  have hb0 : Below w.heap.size w (w.alloc (.cells #[.slice a n c, .bool am] 45)) := (Below.refl _ _).alloc (Nat.le_refl _) _
  have hh := has_any (a := a) (n := n) (c := c) (am := am) I (w.alloc (.cells #[.slice a n c, .bool am] 45))
  unfold dnR
  by_cases hi : inD n I = true
  · rw [if_pos hi]
    rw [hi] at hh
    obtain ⟨i1, i2⟩ := inD_iff hi
    have x1 : 0 ≤ I := by omega
    have x2 : I < (n : Int) := by omega
    have hd := hide_it h
    clear h i1 hi
    obtain ⟨y, hy⟩ : ∃ y, y = s I.toNat := ⟨_, rfl⟩
    rw [← hy]
    cases am with
    | false =>
      rw [if_neg (by simp [down])]
      go_enter Try.func80, Try.ntmps80
      go_wp2_with fail
      refine hh.mono ?_
      rintro e w1 ⟨rfl, hb1⟩
      have hbw := hb0.trans (hb1.mono hb0.size)
      obtain ⟨e0, e1⟩ := boxD w a n c false (by simpa using hb1)
      have hl : w.heap.size < w1.heap.size := by have := hb1.size; simp at this; omega
      clear hh hd hy
      go_wp2_with fail
      refine wp_region_held_drew (S := (fun w' => Below w1.heap.size w1 w')) (by kernel_rfl) ?_ (fun hHeld => ?_)
      · exact (Below.refl _ _).drew
      refine take_on (i := 0) (v := ?_) rfl rfl (by kernel_rfl) (by kernel_rfl) (by kernel_rfl) (fun _ _ _ h => h) rfl ?_ hHeld ?_
      rotate_left
      · (intro wq hSq; have q1 := (hSq.cell (p := ⟨w.heap.size, 1, none⟩) hl).trans e1; go_simp <;> first | with_reducible rfl | rfl)
      simp only [Act.put, List.setIfInBounds_toArray, List.set_cons_zero, List.set_cons_succ]
      refine take_on (i := 1) (v := ?_) rfl rfl (by kernel_rfl) (by kernel_rfl) (by kernel_rfl) (fun _ _ _ h => h) rfl ?_ hHeld ?_
      rotate_left
      · (intro wq hSq; have q1 := (hSq.cell (p := ⟨w.heap.size, 1, none⟩) hl).trans e1; go_simp <;> first | with_reducible rfl | rfl)
      simp only [Act.put, List.setIfInBounds_toArray, List.set_cons_zero, List.set_cons_succ]
      refine take_on (i := 2) (v := ?_) rfl rfl (by kernel_rfl) (by kernel_rfl) (by kernel_rfl) (fun _ _ _ h => h) rfl ?_ hHeld ?_
      rotate_left
      · (intro wq hSq; have q1 := (hSq.cell (p := ⟨w.heap.size, 1, none⟩) hl).trans e1; go_simp <;> first | with_reducible rfl | rfl)
      simp only [Act.put, List.setIfInBounds_toArray, List.set_cons_zero, List.set_cons_succ]
      refine take_off (i := 3) rfl rfl (by kernel_rfl) (by kernel_rfl) (by kernel_rfl) (fun _ _ _ h => h) rfl hHeld ?_
      simp only [Act.put, List.setIfInBounds_toArray, List.set_cons_zero, List.set_cons_succ]
      refine take_off (i := 4) rfl rfl (by kernel_rfl) (by kernel_rfl) (by kernel_rfl) (fun _ _ _ h => h) rfl hHeld ?_
      simp only [Act.put, List.setIfInBounds_toArray, List.set_cons_zero, List.set_cons_succ]
      refine take_off (i := 5) rfl rfl (by kernel_rfl) (by kernel_rfl) (by kernel_rfl) (fun _ _ _ h => h) rfl hHeld ?_
      simp only [Act.put, List.setIfInBounds_toArray, List.set_cons_zero, List.set_cons_succ]
      refine take_off (i := 6) rfl rfl (by kernel_rfl) (by kernel_rfl) (by kernel_rfl) (fun _ _ _ h => h) rfl hHeld ?_
      simp only [Act.put, List.setIfInBounds_toArray, List.set_cons_zero, List.set_cons_succ]
      refine take_off (i := 7) rfl rfl (by kernel_rfl) (by kernel_rfl) (by kernel_rfl) (fun _ _ _ h => h) rfl hHeld ?_
      simp only [Act.put, List.setIfInBounds_toArray, List.set_cons_zero, List.set_cons_succ]
      refine take_off (i := 8) rfl rfl (by kernel_rfl) (by kernel_rfl) (by kernel_rfl) (fun _ _ _ h => h) rfl hHeld ?_
      simp only [Act.put, List.setIfInBounds_toArray, List.set_cons_zero, List.set_cons_succ]
      refine take_off (i := 9) rfl rfl (by kernel_rfl) (by kernel_rfl) (by kernel_rfl) (fun _ _ _ h => h) rfl hHeld ?_
      simp only [Act.put, List.setIfInBounds_toArray, List.set_cons_zero, List.set_cons_succ]
      refine take_off (i := 10) rfl rfl (by kernel_rfl) (by kernel_rfl) (by kernel_rfl) (fun _ _ _ h => h) rfl hHeld ?_
      simp only [Act.put, List.setIfInBounds_toArray, List.set_cons_zero, List.set_cons_succ]
      refine take_off (i := 11) rfl rfl (by kernel_rfl) (by kernel_rfl) (by kernel_rfl) (fun _ _ _ h => h) rfl hHeld ?_
      simp only [Act.put, List.setIfInBounds_toArray, List.set_cons_zero, List.set_cons_succ]
      refine take_off (i := 12) rfl rfl (by kernel_rfl) (by kernel_rfl) (by kernel_rfl) (fun _ _ _ h => h) rfl hHeld ?_
      simp only [Act.put, List.setIfInBounds_toArray, List.set_cons_zero, List.set_cons_succ]
      refine take_off (i := 13) rfl rfl (by kernel_rfl) (by kernel_rfl) (by kernel_rfl) (fun _ _ _ h => h) rfl hHeld ?_
      simp only [Act.put, List.setIfInBounds_toArray, List.set_cons_zero, List.set_cons_succ]
      refine take_off (i := 14) rfl rfl (by kernel_rfl) (by kernel_rfl) (by kernel_rfl) (fun _ _ _ h => h) rfl hHeld ?_
      simp only [Act.put, List.setIfInBounds_toArray, List.set_cons_zero, List.set_cons_succ]
      refine take_off (i := 15) rfl rfl (by kernel_rfl) (by kernel_rfl) (by kernel_rfl) (fun _ _ _ h => h) rfl hHeld ?_
      simp only [Act.put, List.setIfInBounds_toArray, List.set_cons_zero, List.set_cons_succ]
      refine take_off (i := 16) rfl rfl (by kernel_rfl) (by kernel_rfl) (by kernel_rfl) (fun _ _ _ h => h) rfl hHeld ?_
      simp only [Act.put, List.setIfInBounds_toArray, List.set_cons_zero, List.set_cons_succ]
      refine take_on (i := 17) (v := ?_) rfl rfl (by kernel_rfl) (by kernel_rfl) (by kernel_rfl) (fun _ _ _ h => h) rfl ?_ hHeld ?_
      rotate_left
      · (intro wq hSq; have q1 := (hSq.cell (p := ⟨w.heap.size, 1, none⟩) hl).trans e1; go_simp <;> first | with_reducible rfl | rfl)
      simp only [Act.put, List.setIfInBounds_toArray, List.set_cons_zero, List.set_cons_succ]
      refine wpAnyH_done (by kernel_rfl) ?_ _
      have hfin := hbw.trans (hHeld.mono hbw.size)
      go_wp2_with fail
      go_ret
      exact ⟨rfl, hfin⟩
    | true =>
      by_cases hdn : down true y = true
      · rw [if_pos hdn]
        have hcc : y.fd ≤ (y.c : Int) := by unfold down at hdn; simpa using hdn
        clear hdn
        go_enter Try.func80, Try.ntmps80
        go_wp2_with fail
        refine hh.mono ?_
        rintro e w1 ⟨rfl, hb1⟩
        have hbw := hb0.trans (hb1.mono hb0.size)
        obtain ⟨e0, e1⟩ := boxD w a n c true (by simpa using hb1)
        have hl : w.heap.size < w1.heap.size := by have := hb1.size; simp at this; omega
        obtain ⟨b, o, hab, hbl, _, hr⟩ := (hd.out.below hbw).row
        subst hab
        obtain ⟨ra, rc, hv, _⟩ := hr I.toNat i2
        rw [← hy] at hv
        have c2 := hv.c2
        have c4 := hv.c4
        clear hh hd hy hr hv
        go_wp2_with fail
        refine wp_region_held_drew (S := (fun w' => Below w1.heap.size w1 w')) (by kernel_rfl) ?_ (fun hHeld => ?_)
        · exact (Below.refl _ _).drew
        refine take_on (i := 0) (v := ?_) rfl rfl (by kernel_rfl) (by kernel_rfl) (by kernel_rfl) (fun _ _ _ h => h) rfl ?_ hHeld ?_
        rotate_left
        · (intro wq hSq; have q0 := (hSq.cell (p := ⟨w.heap.size, 0, none⟩) hl).trans e0; have q1 := (hSq.cell (p := ⟨w.heap.size, 1, none⟩) hl).trans e1; have q2 := (hSq.cell (p := ⟨b, o + I.toNat * 7 + 2, none⟩) hbl).trans c2; have q4 := (hSq.cell (p := ⟨b, o + I.toNat * 7 + 4, none⟩) hbl).trans c4; go_simp <;> first | with_reducible rfl | rfl)
        simp only [Act.put, List.setIfInBounds_toArray, List.set_cons_zero, List.set_cons_succ]
        refine take_on (i := 1) (v := ?_) rfl rfl (by kernel_rfl) (by kernel_rfl) (by kernel_rfl) (fun _ _ _ h => h) rfl ?_ hHeld ?_
        rotate_left
        · (intro wq hSq; have q0 := (hSq.cell (p := ⟨w.heap.size, 0, none⟩) hl).trans e0; have q1 := (hSq.cell (p := ⟨w.heap.size, 1, none⟩) hl).trans e1; have q2 := (hSq.cell (p := ⟨b, o + I.toNat * 7 + 2, none⟩) hbl).trans c2; have q4 := (hSq.cell (p := ⟨b, o + I.toNat * 7 + 4, none⟩) hbl).trans c4; go_simp <;> first | with_reducible rfl | rfl)
        simp only [Act.put, List.setIfInBounds_toArray, List.set_cons_zero, List.set_cons_succ]
        refine take_on (i := 2) (v := ?_) rfl rfl (by kernel_rfl) (by kernel_rfl) (by kernel_rfl) (fun _ _ _ h => h) rfl ?_ hHeld ?_
        rotate_left
        · (intro wq hSq; have q0 := (hSq.cell (p := ⟨w.heap.size, 0, none⟩) hl).trans e0; have q1 := (hSq.cell (p := ⟨w.heap.size, 1, none⟩) hl).trans e1; have q2 := (hSq.cell (p := ⟨b, o + I.toNat * 7 + 2, none⟩) hbl).trans c2; have q4 := (hSq.cell (p := ⟨b, o + I.toNat * 7 + 4, none⟩) hbl).trans c4; go_simp <;> first | with_reducible rfl | rfl)
        simp only [Act.put, List.setIfInBounds_toArray, List.set_cons_zero, List.set_cons_succ]
        refine take_on (i := 3) (v := ?_) rfl rfl (by kernel_rfl) (by kernel_rfl) (by kernel_rfl) (fun _ _ _ h => h) rfl ?_ hHeld ?_
        rotate_left
        · (intro wq hSq; have q0 := (hSq.cell (p := ⟨w.heap.size, 0, none⟩) hl).trans e0; have q1 := (hSq.cell (p := ⟨w.heap.size, 1, none⟩) hl).trans e1; have q2 := (hSq.cell (p := ⟨b, o + I.toNat * 7 + 2, none⟩) hbl).trans c2; have q4 := (hSq.cell (p := ⟨b, o + I.toNat * 7 + 4, none⟩) hbl).trans c4; go_simp <;> first | with_reducible rfl | rfl)
        simp only [Act.put, List.setIfInBounds_toArray, List.set_cons_zero, List.set_cons_succ]
        refine take_on (i := 4) (v := ?_) rfl rfl (by kernel_rfl) (by kernel_rfl) (by kernel_rfl) (fun _ _ _ h => h) rfl ?_ hHeld ?_
        rotate_left
        · (intro wq hSq; have q0 := (hSq.cell (p := ⟨w.heap.size, 0, none⟩) hl).trans e0; have q1 := (hSq.cell (p := ⟨w.heap.size, 1, none⟩) hl).trans e1; have q2 := (hSq.cell (p := ⟨b, o + I.toNat * 7 + 2, none⟩) hbl).trans c2; have q4 := (hSq.cell (p := ⟨b, o + I.toNat * 7 + 4, none⟩) hbl).trans c4; go_simp <;> first | with_reducible rfl | rfl)
        simp only [Act.put, List.setIfInBounds_toArray, List.set_cons_zero, List.set_cons_succ]
        refine take_on (i := 5) (v := ?_) rfl rfl (by kernel_rfl) (by kernel_rfl) (by kernel_rfl) (fun _ _ _ h => h) rfl ?_ hHeld ?_
        rotate_left
        · (intro wq hSq; have q0 := (hSq.cell (p := ⟨w.heap.size, 0, none⟩) hl).trans e0; have q1 := (hSq.cell (p := ⟨w.heap.size, 1, none⟩) hl).trans e1; have q2 := (hSq.cell (p := ⟨b, o + I.toNat * 7 + 2, none⟩) hbl).trans c2; have q4 := (hSq.cell (p := ⟨b, o + I.toNat * 7 + 4, none⟩) hbl).trans c4; go_simp <;> first | with_reducible rfl | rfl)
        simp only [Act.put, List.setIfInBounds_toArray, List.set_cons_zero, List.set_cons_succ]
        refine take_on (i := 6) (v := ?_) rfl rfl (by kernel_rfl) (by kernel_rfl) (by kernel_rfl) (fun _ _ _ h => h) rfl ?_ hHeld ?_
        rotate_left
        · (intro wq hSq; have q0 := (hSq.cell (p := ⟨w.heap.size, 0, none⟩) hl).trans e0; have q1 := (hSq.cell (p := ⟨w.heap.size, 1, none⟩) hl).trans e1; have q2 := (hSq.cell (p := ⟨b, o + I.toNat * 7 + 2, none⟩) hbl).trans c2; have q4 := (hSq.cell (p := ⟨b, o + I.toNat * 7 + 4, none⟩) hbl).trans c4; go_simp <;> first | with_reducible rfl | rfl)
        simp only [Act.put, List.setIfInBounds_toArray, List.set_cons_zero, List.set_cons_succ]
        refine take_on (i := 7) (v := ?_) rfl rfl (by kernel_rfl) (by kernel_rfl) (by kernel_rfl) (fun _ _ _ h => h) rfl ?_ hHeld ?_
        rotate_left
        · (intro wq hSq; have q0 := (hSq.cell (p := ⟨w.heap.size, 0, none⟩) hl).trans e0; have q1 := (hSq.cell (p := ⟨w.heap.size, 1, none⟩) hl).trans e1; have q2 := (hSq.cell (p := ⟨b, o + I.toNat * 7 + 2, none⟩) hbl).trans c2; have q4 := (hSq.cell (p := ⟨b, o + I.toNat * 7 + 4, none⟩) hbl).trans c4; go_simp <;> first | with_reducible rfl | rfl)
        simp only [Act.put, List.setIfInBounds_toArray, List.set_cons_zero, List.set_cons_succ]
        refine take_on (i := 8) (v := ?_) rfl rfl (by kernel_rfl) (by kernel_rfl) (by kernel_rfl) (fun _ _ _ h => h) rfl ?_ hHeld ?_
        rotate_left
        · (intro wq hSq; have q0 := (hSq.cell (p := ⟨w.heap.size, 0, none⟩) hl).trans e0; have q1 := (hSq.cell (p := ⟨w.heap.size, 1, none⟩) hl).trans e1; have q2 := (hSq.cell (p := ⟨b, o + I.toNat * 7 + 2, none⟩) hbl).trans c2; have q4 := (hSq.cell (p := ⟨b, o + I.toNat * 7 + 4, none⟩) hbl).trans c4; go_simp <;> first | with_reducible rfl | rfl)
        simp only [Act.put, List.setIfInBounds_toArray, List.set_cons_zero, List.set_cons_succ]
        refine take_on (i := 9) (v := ?_) rfl rfl (by kernel_rfl) (by kernel_rfl) (by kernel_rfl) (fun _ _ _ h => h) rfl ?_ hHeld ?_
        rotate_left
        · (intro wq hSq; have q0 := (hSq.cell (p := ⟨w.heap.size, 0, none⟩) hl).trans e0; have q1 := (hSq.cell (p := ⟨w.heap.size, 1, none⟩) hl).trans e1; have q2 := (hSq.cell (p := ⟨b, o + I.toNat * 7 + 2, none⟩) hbl).trans c2; have q4 := (hSq.cell (p := ⟨b, o + I.toNat * 7 + 4, none⟩) hbl).trans c4; go_simp <;> first | with_reducible rfl | rfl)
        simp only [Act.put, List.setIfInBounds_toArray, List.set_cons_zero, List.set_cons_succ]
        refine take_on (i := 10) (v := ?_) rfl rfl (by kernel_rfl) (by kernel_rfl) (by kernel_rfl) (fun _ _ _ h => h) rfl ?_ hHeld ?_
        rotate_left
        · (intro wq hSq; have q0 := (hSq.cell (p := ⟨w.heap.size, 0, none⟩) hl).trans e0; have q1 := (hSq.cell (p := ⟨w.heap.size, 1, none⟩) hl).trans e1; have q2 := (hSq.cell (p := ⟨b, o + I.toNat * 7 + 2, none⟩) hbl).trans c2; have q4 := (hSq.cell (p := ⟨b, o + I.toNat * 7 + 4, none⟩) hbl).trans c4; go_simp <;> first | with_reducible rfl | rfl)
        simp only [Act.put, List.setIfInBounds_toArray, List.set_cons_zero, List.set_cons_succ]
        refine take_on (i := 11) (v := ?_) rfl rfl (by kernel_rfl) (by kernel_rfl) (by kernel_rfl) (fun _ _ _ h => h) rfl ?_ hHeld ?_
        rotate_left
        · (intro wq hSq; have q0 := (hSq.cell (p := ⟨w.heap.size, 0, none⟩) hl).trans e0; have q1 := (hSq.cell (p := ⟨w.heap.size, 1, none⟩) hl).trans e1; have q2 := (hSq.cell (p := ⟨b, o + I.toNat * 7 + 2, none⟩) hbl).trans c2; have q4 := (hSq.cell (p := ⟨b, o + I.toNat * 7 + 4, none⟩) hbl).trans c4; go_simp <;> first | with_reducible rfl | rfl)
        simp only [Act.put, List.setIfInBounds_toArray, List.set_cons_zero, List.set_cons_succ]
        refine take_on (i := 12) (v := ?_) rfl rfl (by kernel_rfl) (by kernel_rfl) (by kernel_rfl) (fun _ _ _ h => h) rfl ?_ hHeld ?_
        rotate_left
        · (intro wq hSq; have q0 := (hSq.cell (p := ⟨w.heap.size, 0, none⟩) hl).trans e0; have q1 := (hSq.cell (p := ⟨w.heap.size, 1, none⟩) hl).trans e1; have q2 := (hSq.cell (p := ⟨b, o + I.toNat * 7 + 2, none⟩) hbl).trans c2; have q4 := (hSq.cell (p := ⟨b, o + I.toNat * 7 + 4, none⟩) hbl).trans c4; go_simp <;> first | with_reducible rfl | rfl)
        simp only [Act.put, List.setIfInBounds_toArray, List.set_cons_zero, List.set_cons_succ]
        refine take_on (i := 13) (v := ?_) rfl rfl (by kernel_rfl) (by kernel_rfl) (by kernel_rfl) (fun _ _ _ h => h) rfl ?_ hHeld ?_
        rotate_left
        · (intro wq hSq; have q0 := (hSq.cell (p := ⟨w.heap.size, 0, none⟩) hl).trans e0; have q1 := (hSq.cell (p := ⟨w.heap.size, 1, none⟩) hl).trans e1; have q2 := (hSq.cell (p := ⟨b, o + I.toNat * 7 + 2, none⟩) hbl).trans c2; have q4 := (hSq.cell (p := ⟨b, o + I.toNat * 7 + 4, none⟩) hbl).trans c4; go_simp <;> first | with_reducible rfl | rfl)
        simp only [Act.put, List.setIfInBounds_toArray, List.set_cons_zero, List.set_cons_succ]
        refine take_on (i := 14) (v := ?_) rfl rfl (by kernel_rfl) (by kernel_rfl) (by kernel_rfl) (fun _ _ _ h => h) rfl ?_ hHeld ?_
        rotate_left
        · (intro wq hSq; have q0 := (hSq.cell (p := ⟨w.heap.size, 0, none⟩) hl).trans e0; have q1 := (hSq.cell (p := ⟨w.heap.size, 1, none⟩) hl).trans e1; have q2 := (hSq.cell (p := ⟨b, o + I.toNat * 7 + 2, none⟩) hbl).trans c2; have q4 := (hSq.cell (p := ⟨b, o + I.toNat * 7 + 4, none⟩) hbl).trans c4; go_simp <;> first | with_reducible rfl | rfl)
        simp only [Act.put, List.setIfInBounds_toArray, List.set_cons_zero, List.set_cons_succ]
        refine take_on (i := 15) (v := ?_) rfl rfl (by kernel_rfl) (by kernel_rfl) (by kernel_rfl) (fun _ _ _ h => h) rfl ?_ hHeld ?_
        rotate_left
        · (intro wq hSq; have q0 := (hSq.cell (p := ⟨w.heap.size, 0, none⟩) hl).trans e0; have q1 := (hSq.cell (p := ⟨w.heap.size, 1, none⟩) hl).trans e1; have q2 := (hSq.cell (p := ⟨b, o + I.toNat * 7 + 2, none⟩) hbl).trans c2; have q4 := (hSq.cell (p := ⟨b, o + I.toNat * 7 + 4, none⟩) hbl).trans c4; go_simp <;> first | with_reducible rfl | rfl)
        simp only [Act.put, List.setIfInBounds_toArray, List.set_cons_zero, List.set_cons_succ]
        refine take_on (i := 16) (v := ?_) rfl rfl (by kernel_rfl) (by kernel_rfl) (by kernel_rfl) (fun _ _ _ h => h) rfl ?_ hHeld ?_
        rotate_left
        · (intro wq hSq; have q0 := (hSq.cell (p := ⟨w.heap.size, 0, none⟩) hl).trans e0; have q1 := (hSq.cell (p := ⟨w.heap.size, 1, none⟩) hl).trans e1; have q2 := (hSq.cell (p := ⟨b, o + I.toNat * 7 + 2, none⟩) hbl).trans c2; have q4 := (hSq.cell (p := ⟨b, o + I.toNat * 7 + 4, none⟩) hbl).trans c4; go_simp <;> first | with_reducible rfl | rfl)
        simp only [Act.put, List.setIfInBounds_toArray, List.set_cons_zero, List.set_cons_succ]
        refine take_on (i := 17) (v := ?_) rfl rfl (by kernel_rfl) (by kernel_rfl) (by kernel_rfl) (fun _ _ _ h => h) rfl ?_ hHeld ?_
        rotate_left
        · (intro wq hSq; have q0 := (hSq.cell (p := ⟨w.heap.size, 0, none⟩) hl).trans e0; have q1 := (hSq.cell (p := ⟨w.heap.size, 1, none⟩) hl).trans e1; have q2 := (hSq.cell (p := ⟨b, o + I.toNat * 7 + 2, none⟩) hbl).trans c2; have q4 := (hSq.cell (p := ⟨b, o + I.toNat * 7 + 4, none⟩) hbl).trans c4; go_simp <;> first | with_reducible rfl | rfl)
        simp only [Act.put, List.setIfInBounds_toArray, List.set_cons_zero, List.set_cons_succ]
        refine wpAnyH_done (by kernel_rfl) ?_ _
        have hfin := hbw.trans (hHeld.mono hbw.size)
        go_wp2_with fail
        go_ret
        exact ⟨rfl, hfin⟩
      · rw [if_neg hdn]
        have hcc : (y.c : Int) < y.fd := by unfold down at hdn; simpa using hdn
        clear hdn
        go_enter Try.func80, Try.ntmps80
        go_wp2_with fail
        refine hh.mono ?_
        rintro e w1 ⟨rfl, hb1⟩
        have hbw := hb0.trans (hb1.mono hb0.size)
        obtain ⟨e0, e1⟩ := boxD w a n c true (by simpa using hb1)
        have hl : w.heap.size < w1.heap.size := by have := hb1.size; simp at this; omega
        obtain ⟨b, o, hab, hbl, _, hr⟩ := (hd.out.below hbw).row
        subst hab
        obtain ⟨ra, rc, hv, _⟩ := hr I.toNat i2
        rw [← hy] at hv
        have c2 := hv.c2
        have c4 := hv.c4
        clear hh hd hy hr hv
        go_wp2_with fail
        refine wp_region_held_drew (S := (fun w' => Below w1.heap.size w1 w')) (by kernel_rfl) ?_ (fun hHeld => ?_)
        · exact (Below.refl _ _).drew
        refine take_on (i := 0) (v := ?_) rfl rfl (by kernel_rfl) (by kernel_rfl) (by kernel_rfl) (fun _ _ _ h => h) rfl ?_ hHeld ?_
        rotate_left
        · (intro wq hSq; have q0 := (hSq.cell (p := ⟨w.heap.size, 0, none⟩) hl).trans e0; have q1 := (hSq.cell (p := ⟨w.heap.size, 1, none⟩) hl).trans e1; have q2 := (hSq.cell (p := ⟨b, o + I.toNat * 7 + 2, none⟩) hbl).trans c2; have q4 := (hSq.cell (p := ⟨b, o + I.toNat * 7 + 4, none⟩) hbl).trans c4; go_simp <;> first | with_reducible rfl | rfl)
        simp only [Act.put, List.setIfInBounds_toArray, List.set_cons_zero, List.set_cons_succ]
        refine take_on (i := 1) (v := ?_) rfl rfl (by kernel_rfl) (by kernel_rfl) (by kernel_rfl) (fun _ _ _ h => h) rfl ?_ hHeld ?_
        rotate_left
        · (intro wq hSq; have q0 := (hSq.cell (p := ⟨w.heap.size, 0, none⟩) hl).trans e0; have q1 := (hSq.cell (p := ⟨w.heap.size, 1, none⟩) hl).trans e1; have q2 := (hSq.cell (p := ⟨b, o + I.toNat * 7 + 2, none⟩) hbl).trans c2; have q4 := (hSq.cell (p := ⟨b, o + I.toNat * 7 + 4, none⟩) hbl).trans c4; go_simp <;> first | with_reducible rfl | rfl)
        simp only [Act.put, List.setIfInBounds_toArray, List.set_cons_zero, List.set_cons_succ]
        refine take_on (i := 2) (v := ?_) rfl rfl (by kernel_rfl) (by kernel_rfl) (by kernel_rfl) (fun _ _ _ h => h) rfl ?_ hHeld ?_
        rotate_left
        · (intro wq hSq; have q0 := (hSq.cell (p := ⟨w.heap.size, 0, none⟩) hl).trans e0; have q1 := (hSq.cell (p := ⟨w.heap.size, 1, none⟩) hl).trans e1; have q2 := (hSq.cell (p := ⟨b, o + I.toNat * 7 + 2, none⟩) hbl).trans c2; have q4 := (hSq.cell (p := ⟨b, o + I.toNat * 7 + 4, none⟩) hbl).trans c4; go_simp <;> first | with_reducible rfl | rfl)
        simp only [Act.put, List.setIfInBounds_toArray, List.set_cons_zero, List.set_cons_succ]
        refine take_on (i := 3) (v := ?_) rfl rfl (by kernel_rfl) (by kernel_rfl) (by kernel_rfl) (fun _ _ _ h => h) rfl ?_ hHeld ?_
        rotate_left
        · (intro wq hSq; have q0 := (hSq.cell (p := ⟨w.heap.size, 0, none⟩) hl).trans e0; have q1 := (hSq.cell (p := ⟨w.heap.size, 1, none⟩) hl).trans e1; have q2 := (hSq.cell (p := ⟨b, o + I.toNat * 7 + 2, none⟩) hbl).trans c2; have q4 := (hSq.cell (p := ⟨b, o + I.toNat * 7 + 4, none⟩) hbl).trans c4; go_simp <;> first | with_reducible rfl | rfl)
        simp only [Act.put, List.setIfInBounds_toArray, List.set_cons_zero, List.set_cons_succ]
        refine take_on (i := 4) (v := ?_) rfl rfl (by kernel_rfl) (by kernel_rfl) (by kernel_rfl) (fun _ _ _ h => h) rfl ?_ hHeld ?_
        rotate_left
        · (intro wq hSq; have q0 := (hSq.cell (p := ⟨w.heap.size, 0, none⟩) hl).trans e0; have q1 := (hSq.cell (p := ⟨w.heap.size, 1, none⟩) hl).trans e1; have q2 := (hSq.cell (p := ⟨b, o + I.toNat * 7 + 2, none⟩) hbl).trans c2; have q4 := (hSq.cell (p := ⟨b, o + I.toNat * 7 + 4, none⟩) hbl).trans c4; go_simp <;> first | with_reducible rfl | rfl)
        simp only [Act.put, List.setIfInBounds_toArray, List.set_cons_zero, List.set_cons_succ]
        refine take_on (i := 5) (v := ?_) rfl rfl (by kernel_rfl) (by kernel_rfl) (by kernel_rfl) (fun _ _ _ h => h) rfl ?_ hHeld ?_
        rotate_left
        · (intro wq hSq; have q0 := (hSq.cell (p := ⟨w.heap.size, 0, none⟩) hl).trans e0; have q1 := (hSq.cell (p := ⟨w.heap.size, 1, none⟩) hl).trans e1; have q2 := (hSq.cell (p := ⟨b, o + I.toNat * 7 + 2, none⟩) hbl).trans c2; have q4 := (hSq.cell (p := ⟨b, o + I.toNat * 7 + 4, none⟩) hbl).trans c4; go_simp <;> first | with_reducible rfl | rfl)
        simp only [Act.put, List.setIfInBounds_toArray, List.set_cons_zero, List.set_cons_succ]
        refine take_on (i := 6) (v := ?_) rfl rfl (by kernel_rfl) (by kernel_rfl) (by kernel_rfl) (fun _ _ _ h => h) rfl ?_ hHeld ?_
        rotate_left
        · (intro wq hSq; have q0 := (hSq.cell (p := ⟨w.heap.size, 0, none⟩) hl).trans e0; have q1 := (hSq.cell (p := ⟨w.heap.size, 1, none⟩) hl).trans e1; have q2 := (hSq.cell (p := ⟨b, o + I.toNat * 7 + 2, none⟩) hbl).trans c2; have q4 := (hSq.cell (p := ⟨b, o + I.toNat * 7 + 4, none⟩) hbl).trans c4; go_simp <;> first | with_reducible rfl | rfl)
        simp only [Act.put, List.setIfInBounds_toArray, List.set_cons_zero, List.set_cons_succ]
        refine take_on (i := 7) (v := ?_) rfl rfl (by kernel_rfl) (by kernel_rfl) (by kernel_rfl) (fun _ _ _ h => h) rfl ?_ hHeld ?_
        rotate_left
        · (intro wq hSq; have q0 := (hSq.cell (p := ⟨w.heap.size, 0, none⟩) hl).trans e0; have q1 := (hSq.cell (p := ⟨w.heap.size, 1, none⟩) hl).trans e1; have q2 := (hSq.cell (p := ⟨b, o + I.toNat * 7 + 2, none⟩) hbl).trans c2; have q4 := (hSq.cell (p := ⟨b, o + I.toNat * 7 + 4, none⟩) hbl).trans c4; go_simp <;> first | with_reducible rfl | rfl)
        simp only [Act.put, List.setIfInBounds_toArray, List.set_cons_zero, List.set_cons_succ]
        refine take_on (i := 8) (v := ?_) rfl rfl (by kernel_rfl) (by kernel_rfl) (by kernel_rfl) (fun _ _ _ h => h) rfl ?_ hHeld ?_
        rotate_left
        · (intro wq hSq; have q0 := (hSq.cell (p := ⟨w.heap.size, 0, none⟩) hl).trans e0; have q1 := (hSq.cell (p := ⟨w.heap.size, 1, none⟩) hl).trans e1; have q2 := (hSq.cell (p := ⟨b, o + I.toNat * 7 + 2, none⟩) hbl).trans c2; have q4 := (hSq.cell (p := ⟨b, o + I.toNat * 7 + 4, none⟩) hbl).trans c4; go_simp <;> first | with_reducible rfl | rfl)
        simp only [Act.put, List.setIfInBounds_toArray, List.set_cons_zero, List.set_cons_succ]
        refine take_on (i := 9) (v := ?_) rfl rfl (by kernel_rfl) (by kernel_rfl) (by kernel_rfl) (fun _ _ _ h => h) rfl ?_ hHeld ?_
        rotate_left
        · (intro wq hSq; have q0 := (hSq.cell (p := ⟨w.heap.size, 0, none⟩) hl).trans e0; have q1 := (hSq.cell (p := ⟨w.heap.size, 1, none⟩) hl).trans e1; have q2 := (hSq.cell (p := ⟨b, o + I.toNat * 7 + 2, none⟩) hbl).trans c2; have q4 := (hSq.cell (p := ⟨b, o + I.toNat * 7 + 4, none⟩) hbl).trans c4; go_simp <;> first | with_reducible rfl | rfl)
        simp only [Act.put, List.setIfInBounds_toArray, List.set_cons_zero, List.set_cons_succ]
        refine take_on (i := 10) (v := ?_) rfl rfl (by kernel_rfl) (by kernel_rfl) (by kernel_rfl) (fun _ _ _ h => h) rfl ?_ hHeld ?_
        rotate_left
        · (intro wq hSq; have q0 := (hSq.cell (p := ⟨w.heap.size, 0, none⟩) hl).trans e0; have q1 := (hSq.cell (p := ⟨w.heap.size, 1, none⟩) hl).trans e1; have q2 := (hSq.cell (p := ⟨b, o + I.toNat * 7 + 2, none⟩) hbl).trans c2; have q4 := (hSq.cell (p := ⟨b, o + I.toNat * 7 + 4, none⟩) hbl).trans c4; go_simp <;> first | with_reducible rfl | rfl)
        simp only [Act.put, List.setIfInBounds_toArray, List.set_cons_zero, List.set_cons_succ]
        refine take_on (i := 11) (v := ?_) rfl rfl (by kernel_rfl) (by kernel_rfl) (by kernel_rfl) (fun _ _ _ h => h) rfl ?_ hHeld ?_
        rotate_left
        · (intro wq hSq; have q0 := (hSq.cell (p := ⟨w.heap.size, 0, none⟩) hl).trans e0; have q1 := (hSq.cell (p := ⟨w.heap.size, 1, none⟩) hl).trans e1; have q2 := (hSq.cell (p := ⟨b, o + I.toNat * 7 + 2, none⟩) hbl).trans c2; have q4 := (hSq.cell (p := ⟨b, o + I.toNat * 7 + 4, none⟩) hbl).trans c4; go_simp <;> first | with_reducible rfl | rfl)
        simp only [Act.put, List.setIfInBounds_toArray, List.set_cons_zero, List.set_cons_succ]
        refine take_on (i := 12) (v := ?_) rfl rfl (by kernel_rfl) (by kernel_rfl) (by kernel_rfl) (fun _ _ _ h => h) rfl ?_ hHeld ?_
        rotate_left
        · (intro wq hSq; have q0 := (hSq.cell (p := ⟨w.heap.size, 0, none⟩) hl).trans e0; have q1 := (hSq.cell (p := ⟨w.heap.size, 1, none⟩) hl).trans e1; have q2 := (hSq.cell (p := ⟨b, o + I.toNat * 7 + 2, none⟩) hbl).trans c2; have q4 := (hSq.cell (p := ⟨b, o + I.toNat * 7 + 4, none⟩) hbl).trans c4; go_simp <;> first | with_reducible rfl | rfl)
        simp only [Act.put, List.setIfInBounds_toArray, List.set_cons_zero, List.set_cons_succ]
        refine take_on (i := 13) (v := ?_) rfl rfl (by kernel_rfl) (by kernel_rfl) (by kernel_rfl) (fun _ _ _ h => h) rfl ?_ hHeld ?_
        rotate_left
        · (intro wq hSq; have q0 := (hSq.cell (p := ⟨w.heap.size, 0, none⟩) hl).trans e0; have q1 := (hSq.cell (p := ⟨w.heap.size, 1, none⟩) hl).trans e1; have q2 := (hSq.cell (p := ⟨b, o + I.toNat * 7 + 2, none⟩) hbl).trans c2; have q4 := (hSq.cell (p := ⟨b, o + I.toNat * 7 + 4, none⟩) hbl).trans c4; go_simp <;> first | with_reducible rfl | rfl)
        simp only [Act.put, List.setIfInBounds_toArray, List.set_cons_zero, List.set_cons_succ]
        refine take_on (i := 14) (v := ?_) rfl rfl (by kernel_rfl) (by kernel_rfl) (by kernel_rfl) (fun _ _ _ h => h) rfl ?_ hHeld ?_
        rotate_left
        · (intro wq hSq; have q0 := (hSq.cell (p := ⟨w.heap.size, 0, none⟩) hl).trans e0; have q1 := (hSq.cell (p := ⟨w.heap.size, 1, none⟩) hl).trans e1; have q2 := (hSq.cell (p := ⟨b, o + I.toNat * 7 + 2, none⟩) hbl).trans c2; have q4 := (hSq.cell (p := ⟨b, o + I.toNat * 7 + 4, none⟩) hbl).trans c4; go_simp <;> first | with_reducible rfl | rfl)
        simp only [Act.put, List.setIfInBounds_toArray, List.set_cons_zero, List.set_cons_succ]
        refine take_on (i := 15) (v := ?_) rfl rfl (by kernel_rfl) (by kernel_rfl) (by kernel_rfl) (fun _ _ _ h => h) rfl ?_ hHeld ?_
        rotate_left
        · (intro wq hSq; have q0 := (hSq.cell (p := ⟨w.heap.size, 0, none⟩) hl).trans e0; have q1 := (hSq.cell (p := ⟨w.heap.size, 1, none⟩) hl).trans e1; have q2 := (hSq.cell (p := ⟨b, o + I.toNat * 7 + 2, none⟩) hbl).trans c2; have q4 := (hSq.cell (p := ⟨b, o + I.toNat * 7 + 4, none⟩) hbl).trans c4; go_simp <;> first | with_reducible rfl | rfl)
        simp only [Act.put, List.setIfInBounds_toArray, List.set_cons_zero, List.set_cons_succ]
        refine take_on (i := 16) (v := ?_) rfl rfl (by kernel_rfl) (by kernel_rfl) (by kernel_rfl) (fun _ _ _ h => h) rfl ?_ hHeld ?_
        rotate_left
        · (intro wq hSq; have q0 := (hSq.cell (p := ⟨w.heap.size, 0, none⟩) hl).trans e0; have q1 := (hSq.cell (p := ⟨w.heap.size, 1, none⟩) hl).trans e1; have q2 := (hSq.cell (p := ⟨b, o + I.toNat * 7 + 2, none⟩) hbl).trans c2; have q4 := (hSq.cell (p := ⟨b, o + I.toNat * 7 + 4, none⟩) hbl).trans c4; go_simp <;> first | with_reducible rfl | rfl)
        simp only [Act.put, List.setIfInBounds_toArray, List.set_cons_zero, List.set_cons_succ]
        refine take_on (i := 17) (v := ?_) rfl rfl (by kernel_rfl) (by kernel_rfl) (by kernel_rfl) (fun _ _ _ h => h) rfl ?_ hHeld ?_
        rotate_left
        · (intro wq hSq; have q0 := (hSq.cell (p := ⟨w.heap.size, 0, none⟩) hl).trans e0; have q1 := (hSq.cell (p := ⟨w.heap.size, 1, none⟩) hl).trans e1; have q2 := (hSq.cell (p := ⟨b, o + I.toNat * 7 + 2, none⟩) hbl).trans c2; have q4 := (hSq.cell (p := ⟨b, o + I.toNat * 7 + 4, none⟩) hbl).trans c4; go_simp <;> first | with_reducible rfl | rfl)
        simp only [Act.put, List.setIfInBounds_toArray, List.set_cons_zero, List.set_cons_succ]
        refine wpAnyH_done (by kernel_rfl) ?_ _
        have hfin := hbw.trans (hHeld.mono hbw.size)
        go_wp2_with fail
        go_ret
        exact ⟨rfl, hfin⟩
  · rw [if_neg hi]
    have hi' : inD n I = false := by simpa using hi
    rw [hi'] at hh
    clear h
    go_enter Try.func80, Try.ntmps80
    go_wp2_with fail
    refine hh.mono ?_
    rintro e w1 ⟨rfl, hb1⟩
    have hbw := hb0.trans (hb1.mono hb0.size)
    clear hh
    go_wp2_with fail
    go_ret
    exact ⟨rfl, hbw⟩

set_option maxRecDepth 100000 in
set_option maxHeartbeats 1600000 in
theorem boundsR (h : Dd w F a n s) (I : Int) : Calls Try.prog 57 #[valD a n c am, .int .i64 I] w fun e w' => e = .returned (.tuple #[.int .i64 (boundsA n s I).X, .int .i64 (boundsA n s I).Y, .int .i64 (boundsA n s I).Z, .int .i64 (boundsA n s I).E]) ∧ Below w.heap.size w w' := by
  have hb0 : Below w.heap.size w (w.alloc (.cells #[.slice a n c, .bool am] 45)) := (Below.refl _ _).alloc (Nat.le_refl _) _
  have hh := has_any (a := a) (n := n) (c := c) (am := am) I (w.alloc (.cells #[.slice a n c, .bool am] 45))
  unfold boundsA
  by_cases hi : inD n I = true
  · rw [if_pos hi]
    rw [hi] at hh
    obtain ⟨i1, i2⟩ := inD_iff hi
    have x1 : 0 ≤ I := by omega
    have x2 : I < (n : Int) := by omega
    have hok := h.ok I.toNat i2
    have hd := hide_it h
    clear h i1 hi
    obtain ⟨y, hy⟩ : ∃ y, y = s I.toNat := ⟨_, rfl⟩
    rw [← hy] at hok ⊢
    have hle := hok.le
    have hro := hok.room
    have hw1 : IntKind.i64.wrap ((y.B : Int) + (y.k : Int)) = ((y.B + y.k : Nat) : Int) := by rw [IntKind.wrap_i64]; omega
    have hw2 : IntKind.i64.wrap ((y.B : Int) + (y.bs.length : Int)) = ((y.B + y.bs.length : Nat) : Int) := by rw [IntKind.wrap_i64]; omega
    show Calls _ _ _ _ fun e w' => e = .returned (.tuple #[.int .i64 (y.B : Int), .int .i64 ((y.B + y.k : Nat) : Int), .int .i64 ((y.B + y.bs.length : Nat) : Int), .int .i64 0]) ∧ Below w.heap.size w w'
    obtain ⟨P1, hP1⟩ : ∃ p, p = y.B + y.k := ⟨_, rfl⟩
    obtain ⟨P2, hP2⟩ : ∃ p, p = y.B + y.bs.length := ⟨_, rfl⟩
    rw [← hP1] at hw1 ⊢
    rw [← hP2] at hw2 ⊢
    clear hP1 hP2 hok hle hro
    go_enter Try.func57, Try.ntmps57
    go_wp2_with fail
    refine hh.mono ?_
    rintro e w1 ⟨rfl, hb1⟩
    have hbw := hb0.trans (hb1.mono hb0.size)
    obtain ⟨e0, e1⟩ := boxD w a n c am (by simpa using hb1)
    obtain ⟨b, o, hab, hbl, _, hr⟩ := (hd.out.below hbw).row
    subst hab
    obtain ⟨ra, rc, hv, _⟩ := hr I.toNat i2
    rw [← hy] at hv
    obtain ⟨c0, c1, c2, c3, c4, c5, c6⟩ := hv
    clear hh hd hy hr
    go_wp2_with fail
    obtain ⟨X, hX⟩ : ∃ X, X = w1.heap.size := ⟨_, rfl⟩
    obtain ⟨W, hW⟩ : ∃ W, W = w1.alloc (.cells #[.int .i64 (y.B : Int), .int .i64 (y.k : Int), .int .i64 (y.c : Int), .slice ra y.bs.length rc, .int .i64 y.fd, .int .i64 y.fk, .int .u8 (y.ft : Int)] 108) := ⟨_, rfl⟩
    have hbW : Below w1.heap.size w1 W := by rw [hW]; exact (Below.refl _ _).alloc (Nat.le_refl _) _
    have hnW : W.heap[X]? = some (.cells #[.int .i64 (y.B : Int), .int .i64 (y.k : Int), .int .i64 (y.c : Int), .slice ra y.bs.length rc, .int .i64 y.fd, .int .i64 y.fk, .int .u8 (y.ft : Int)] 108 (0, 0)) := by rw [hW, hX]; exact heap_alloc_new w1 _
    have hXl : X < W.heap.size := (Array.getElem?_eq_some_iff.1 hnW).1
    have d0 := cell_of_row _ _ 0 _ _ _ hnW
    have d1 := cell_of_row _ _ 1 _ _ _ hnW
    have d3 := cell_of_row _ _ 3 _ _ _ hnW
    rw [← hW, ← hX]
    have hbw2 := hbw.trans (hbW.mono hbw.size)
    clear hW hX hnW hbW c0 c1 c2 c3 c4 c5 c6 e0 e1
    refine wp_region_held_drew (S := (fun w' => Below W.heap.size W w')) (by kernel_rfl) ?_ (fun hHeld => ?_)
    · exact (Below.refl _ _).drew
    refine take_on (i := 0) (v := ?_) rfl rfl (by kernel_rfl) (by kernel_rfl) (by kernel_rfl) (fun _ _ _ h => h) rfl ?_ hHeld ?_
    rotate_left
    · (intro wq hSq; have q0 := (hSq.cell (p := ⟨X, 0, none⟩) hXl).trans d0; have q1 := (hSq.cell (p := ⟨X, 1, none⟩) hXl).trans d1; have q3 := (hSq.cell (p := ⟨X, 3, none⟩) hXl).trans d3; go_simp <;> first | with_reducible rfl | rfl)
    simp only [Act.put, List.setIfInBounds_toArray, List.set_cons_zero, List.set_cons_succ]
    refine take_on (i := 1) (v := ?_) rfl rfl (by kernel_rfl) (by kernel_rfl) (by kernel_rfl) (fun _ _ _ h => h) rfl ?_ hHeld ?_
    rotate_left
    · (intro wq hSq; have q0 := (hSq.cell (p := ⟨X, 0, none⟩) hXl).trans d0; have q1 := (hSq.cell (p := ⟨X, 1, none⟩) hXl).trans d1; have q3 := (hSq.cell (p := ⟨X, 3, none⟩) hXl).trans d3; go_simp <;> first | with_reducible rfl | rfl)
    simp only [Act.put, List.setIfInBounds_toArray, List.set_cons_zero, List.set_cons_succ]
    refine take_on (i := 2) (v := ?_) rfl rfl (by kernel_rfl) (by kernel_rfl) (by kernel_rfl) (fun _ _ _ h => h) rfl ?_ hHeld ?_
    rotate_left
    · (intro wq hSq; have q0 := (hSq.cell (p := ⟨X, 0, none⟩) hXl).trans d0; have q1 := (hSq.cell (p := ⟨X, 1, none⟩) hXl).trans d1; have q3 := (hSq.cell (p := ⟨X, 3, none⟩) hXl).trans d3; go_simp <;> first | with_reducible rfl | rfl)
    simp only [Act.put, List.setIfInBounds_toArray, List.set_cons_zero, List.set_cons_succ]
    refine take_on (i := 3) (v := ?_) rfl rfl (by kernel_rfl) (by kernel_rfl) (by kernel_rfl) (fun _ _ _ h => h) rfl ?_ hHeld ?_
    rotate_left
    · (intro wq hSq; have q0 := (hSq.cell (p := ⟨X, 0, none⟩) hXl).trans d0; have q1 := (hSq.cell (p := ⟨X, 1, none⟩) hXl).trans d1; have q3 := (hSq.cell (p := ⟨X, 3, none⟩) hXl).trans d3; go_simp <;> first | with_reducible rfl | rfl)
    simp only [Act.put, List.setIfInBounds_toArray, List.set_cons_zero, List.set_cons_succ]
    refine take_on (i := 4) (v := ?_) rfl rfl (by kernel_rfl) (by kernel_rfl) (by kernel_rfl) (fun _ _ _ h => h) rfl ?_ hHeld ?_
    rotate_left
    · (intro wq hSq; have q0 := (hSq.cell (p := ⟨X, 0, none⟩) hXl).trans d0; have q1 := (hSq.cell (p := ⟨X, 1, none⟩) hXl).trans d1; have q3 := (hSq.cell (p := ⟨X, 3, none⟩) hXl).trans d3; go_simp <;> first | with_reducible rfl | rfl)
    simp only [Act.put, List.setIfInBounds_toArray, List.set_cons_zero, List.set_cons_succ]
    refine take_on (i := 5) (v := ?_) rfl rfl (by kernel_rfl) (by kernel_rfl) (by kernel_rfl) (fun _ _ _ h => h) rfl ?_ hHeld ?_
    rotate_left
    · (intro wq hSq; have q0 := (hSq.cell (p := ⟨X, 0, none⟩) hXl).trans d0; have q1 := (hSq.cell (p := ⟨X, 1, none⟩) hXl).trans d1; have q3 := (hSq.cell (p := ⟨X, 3, none⟩) hXl).trans d3; go_simp <;> first | with_reducible rfl | rfl)
    simp only [Act.put, List.setIfInBounds_toArray, List.set_cons_zero, List.set_cons_succ]
    refine take_on (i := 6) (v := ?_) rfl rfl (by kernel_rfl) (by kernel_rfl) (by kernel_rfl) (fun _ _ _ h => h) rfl ?_ hHeld ?_
    rotate_left
    · (intro wq hSq; have q0 := (hSq.cell (p := ⟨X, 0, none⟩) hXl).trans d0; have q1 := (hSq.cell (p := ⟨X, 1, none⟩) hXl).trans d1; have q3 := (hSq.cell (p := ⟨X, 3, none⟩) hXl).trans d3; go_simp <;> first | with_reducible rfl | rfl)
    simp only [Act.put, List.setIfInBounds_toArray, List.set_cons_zero, List.set_cons_succ]
    refine take_on (i := 7) (v := ?_) rfl rfl (by kernel_rfl) (by kernel_rfl) (by kernel_rfl) (fun _ _ _ h => h) rfl ?_ hHeld ?_
    rotate_left
    · (intro wq hSq; have q0 := (hSq.cell (p := ⟨X, 0, none⟩) hXl).trans d0; have q1 := (hSq.cell (p := ⟨X, 1, none⟩) hXl).trans d1; have q3 := (hSq.cell (p := ⟨X, 3, none⟩) hXl).trans d3; go_simp <;> first | with_reducible rfl | rfl)
    simp only [Act.put, List.setIfInBounds_toArray, List.set_cons_zero, List.set_cons_succ]
    refine take_on (i := 8) (v := ?_) rfl rfl (by kernel_rfl) (by kernel_rfl) (by kernel_rfl) (fun _ _ _ h => h) rfl ?_ hHeld ?_
    rotate_left
    · (intro wq hSq; have q0 := (hSq.cell (p := ⟨X, 0, none⟩) hXl).trans d0; have q1 := (hSq.cell (p := ⟨X, 1, none⟩) hXl).trans d1; have q3 := (hSq.cell (p := ⟨X, 3, none⟩) hXl).trans d3; go_simp <;> first | with_reducible rfl | rfl)
    simp only [Act.put, List.setIfInBounds_toArray, List.set_cons_zero, List.set_cons_succ]
    refine take_on (i := 9) (v := ?_) rfl rfl (by kernel_rfl) (by kernel_rfl) (by kernel_rfl) (fun _ _ _ h => h) rfl ?_ hHeld ?_
    rotate_left
    · (intro wq hSq; have q0 := (hSq.cell (p := ⟨X, 0, none⟩) hXl).trans d0; have q1 := (hSq.cell (p := ⟨X, 1, none⟩) hXl).trans d1; have q3 := (hSq.cell (p := ⟨X, 3, none⟩) hXl).trans d3; go_simp <;> first | with_reducible rfl | rfl)
    simp only [Act.put, List.setIfInBounds_toArray, List.set_cons_zero, List.set_cons_succ]
    refine take_on (i := 10) (v := ?_) rfl rfl (by kernel_rfl) (by kernel_rfl) (by kernel_rfl) (fun _ _ _ h => h) rfl ?_ hHeld ?_
    rotate_left
    · (intro wq hSq; have q0 := (hSq.cell (p := ⟨X, 0, none⟩) hXl).trans d0; have q1 := (hSq.cell (p := ⟨X, 1, none⟩) hXl).trans d1; have q3 := (hSq.cell (p := ⟨X, 3, none⟩) hXl).trans d3; go_simp <;> first | with_reducible rfl | rfl)
    simp only [Act.put, List.setIfInBounds_toArray, List.set_cons_zero, List.set_cons_succ]
    refine take_on (i := 11) (v := ?_) rfl rfl (by kernel_rfl) (by kernel_rfl) (by kernel_rfl) (fun _ _ _ h => h) rfl ?_ hHeld ?_
    rotate_left
    · (intro wq hSq; have q0 := (hSq.cell (p := ⟨X, 0, none⟩) hXl).trans d0; have q1 := (hSq.cell (p := ⟨X, 1, none⟩) hXl).trans d1; have q3 := (hSq.cell (p := ⟨X, 3, none⟩) hXl).trans d3; go_simp <;> first | with_reducible rfl | rfl)
    simp only [Act.put, List.setIfInBounds_toArray, List.set_cons_zero, List.set_cons_succ]
    refine take_on (i := 12) (v := ?_) rfl rfl (by kernel_rfl) (by kernel_rfl) (by kernel_rfl) (fun _ _ _ h => h) rfl ?_ hHeld ?_
    rotate_left
    · (intro wq hSq; have q0 := (hSq.cell (p := ⟨X, 0, none⟩) hXl).trans d0; have q1 := (hSq.cell (p := ⟨X, 1, none⟩) hXl).trans d1; have q3 := (hSq.cell (p := ⟨X, 3, none⟩) hXl).trans d3; go_simp <;> first | with_reducible rfl | rfl)
    simp only [Act.put, List.setIfInBounds_toArray, List.set_cons_zero, List.set_cons_succ]
    refine take_on (i := 13) (v := ?_) rfl rfl (by kernel_rfl) (by kernel_rfl) (by kernel_rfl) (fun _ _ _ h => h) rfl ?_ hHeld ?_
    rotate_left
    · (intro wq hSq; have q0 := (hSq.cell (p := ⟨X, 0, none⟩) hXl).trans d0; have q1 := (hSq.cell (p := ⟨X, 1, none⟩) hXl).trans d1; have q3 := (hSq.cell (p := ⟨X, 3, none⟩) hXl).trans d3; go_simp <;> first | with_reducible rfl | rfl)
    simp only [Act.put, List.setIfInBounds_toArray, List.set_cons_zero, List.set_cons_succ]
    refine take_on (i := 14) (v := ?_) rfl rfl (by kernel_rfl) (by kernel_rfl) (by kernel_rfl) (fun _ _ _ h => h) rfl ?_ hHeld ?_
    rotate_left
    · (intro wq hSq; have q0 := (hSq.cell (p := ⟨X, 0, none⟩) hXl).trans d0; have q1 := (hSq.cell (p := ⟨X, 1, none⟩) hXl).trans d1; have q3 := (hSq.cell (p := ⟨X, 3, none⟩) hXl).trans d3; go_simp <;> first | with_reducible rfl | rfl)
    simp only [Act.put, List.setIfInBounds_toArray, List.set_cons_zero, List.set_cons_succ]
    refine take_on (i := 15) (v := ?_) rfl rfl (by kernel_rfl) (by kernel_rfl) (by kernel_rfl) (fun _ _ _ h => h) rfl ?_ hHeld ?_
    rotate_left
    · (intro wq hSq; have q0 := (hSq.cell (p := ⟨X, 0, none⟩) hXl).trans d0; have q1 := (hSq.cell (p := ⟨X, 1, none⟩) hXl).trans d1; have q3 := (hSq.cell (p := ⟨X, 3, none⟩) hXl).trans d3; go_simp <;> first | with_reducible rfl | rfl)
    simp only [Act.put, List.setIfInBounds_toArray, List.set_cons_zero, List.set_cons_succ]
    refine take_on (i := 16) (v := ?_) rfl rfl (by kernel_rfl) (by kernel_rfl) (by kernel_rfl) (fun _ _ _ h => h) rfl ?_ hHeld ?_
    rotate_left
    · (intro wq hSq; have q0 := (hSq.cell (p := ⟨X, 0, none⟩) hXl).trans d0; have q1 := (hSq.cell (p := ⟨X, 1, none⟩) hXl).trans d1; have q3 := (hSq.cell (p := ⟨X, 3, none⟩) hXl).trans d3; go_simp <;> first | with_reducible rfl | rfl)
    simp only [Act.put, List.setIfInBounds_toArray, List.set_cons_zero, List.set_cons_succ]
    refine wpAnyH_done (by kernel_rfl) ?_ _
    have hfin := hbw2.trans (hHeld.mono hbw2.size)
    go_wp2_with fail
    exact bodyPost_ret (v := .tuple #[.int .i64 (y.B : Int), .int .i64 (P1 : Int), .int .i64 (P2 : Int), .int .i64 0]) (by simp [results, Try.results57, go_sem]) rfl ⟨rfl, hfin⟩
  · rw [if_neg hi]
    have hi' : inD n I = false := by simpa using hi
    rw [hi'] at hh
    clear h
    show Calls _ _ _ _ fun e w' => e = .returned (.tuple #[.int .i64 0, .int .i64 0, .int .i64 0, .int .i64 81]) ∧ Below w.heap.size w w'
    go_enter Try.func57, Try.ntmps57
    go_wp2_with fail
    refine hh.mono ?_
    rintro e w1 ⟨rfl, hb1⟩
    have hbw := hb0.trans (hb1.mono hb0.size)
    clear hh
    go_wp2_with fail
    exact bodyPost_ret (v := .tuple #[.int .i64 0, .int .i64 0, .int .i64 0, .int .i64 81]) (by simp [results, Try.results57, go_sem]) rfl ⟨rfl, hbw⟩
end

end Go.Proofs.Ytdodnegdpdhbiaa

/- The document's Check, kind by kind. -/
import Derived.Test.YtkacfpmninmjkaaGreatEh1
namespace Go.Proofs.YtkacfpmninmjkaaGreat
open Go.RowKit

set_option maxRecDepth 100000 in
set_option maxHeartbeats 2000000 in
theorem rcheck_1 (stamp count : Int) (key : ByteArray) (val : List Nat) (dead : Bool) (a : Option Addr) (cp : Nat) (w : World) :
    Calls Tryz.prog 50 #[valE ⟨1, stamp, count, key, val, dead⟩ a cp] w fun e w' => e = .returned (.int .i64 ((chkE ⟨1, stamp, count, key, val, dead⟩ : Nat) : Int)) ∧ Below w.heap.size w w' := by
  have hky : ∀ w, Calls Tryz.prog 72 #[.int .i64 1] w fun e w' => e = .returned (.bool true) ∧ w' = w := fun w => rkeyed_any 1 w
  have hvl : ∀ w, Calls Tryz.prog 73 #[.int .i64 1] w fun e w' => e = .returned (.bool true) ∧ w' = w := fun w => rvalued_any 1 w
  have hst : ∀ w, Calls Tryz.prog 74 #[.int .i64 1] w fun e w' => e = .returned (.bool false) ∧ w' = w := fun w => rstamped_any 1 w
  have hcn : ∀ w, Calls Tryz.prog 75 #[.int .i64 1] w fun e w' => e = .returned (.bool false) ∧ w' = w := fun w => rcounted_any 1 w
  have hb := boxE_below w ⟨1, stamp, count, key, val, dead⟩ a cp
  obtain ⟨n, hn⟩ : ∃ n : Int, (key.size : Int) = n := ⟨_, rfl⟩
  obtain ⟨l, hl⟩ : ∃ l : Int, (val.length : Int) = l := ⟨_, rfl⟩
  have hn0 : 0 ≤ n := by omega
  by_cases h1 : n < 1
  · have h1d : decide (n < 1) = true := decide_eq_true h1
    have HC : Hid (chkE ⟨1, stamp, count, key, val, dead⟩ = 100) := hide_it (chk_no fun h => by
      have m := may_parts h
      have q := m.key1 rfl; simp only at q; omega)
    go_enter Tryz.func50, Tryz.ntmps50
    go_wp2_with (first | (go_at_call 72; refine (hky _).mono ?_; rintro e w1 ⟨rfl, hq⟩; have hq2 := hq.symm; subst hq2; clear hq) | (go_at_call 73; refine (hvl _).mono ?_; rintro e w1 ⟨rfl, hq⟩; have hq2 := hq.symm; subst hq2; clear hq) | (go_at_call 74; refine (hst _).mono ?_; rintro e w1 ⟨rfl, hq⟩; have hq2 := hq.symm; subst hq2; clear hq) | (go_at_call 75; refine (hcn _).mono ?_; rintro e w1 ⟨rfl, hq⟩; have hq2 := hq.symm; subst hq2; clear hq))
    go_ret
    rw [HC.out]
    exact ⟨rfl, hb⟩
  have h1d : decide (n < 1) = false := decide_eq_false h1
  by_cases h2 : 255 < n
  · have h2d : decide (255 < n) = true := decide_eq_true h2
    have HC : Hid (chkE ⟨1, stamp, count, key, val, dead⟩ = 100) := hide_it (chk_no fun h => by
      have m := may_parts h
      have q := m.key1 rfl; simp only at q; omega)
    go_enter Tryz.func50, Tryz.ntmps50
    go_wp2_with (first | (go_at_call 72; refine (hky _).mono ?_; rintro e w1 ⟨rfl, hq⟩; have hq2 := hq.symm; subst hq2; clear hq) | (go_at_call 73; refine (hvl _).mono ?_; rintro e w1 ⟨rfl, hq⟩; have hq2 := hq.symm; subst hq2; clear hq) | (go_at_call 74; refine (hst _).mono ?_; rintro e w1 ⟨rfl, hq⟩; have hq2 := hq.symm; subst hq2; clear hq) | (go_at_call 75; refine (hcn _).mono ?_; rintro e w1 ⟨rfl, hq⟩; have hq2 := hq.symm; subst hq2; clear hq))
    go_ret
    rw [HC.out]
    exact ⟨rfl, hb⟩
  have h2d : decide (255 < n) = false := decide_eq_false h2
  by_cases h3 : 4096 < l
  · have h3d : decide (4096 < l) = true := decide_eq_true h3
    have HC : Hid (chkE ⟨1, stamp, count, key, val, dead⟩ = 100) := hide_it (chk_no fun h => by
      have m := may_parts h
      have q := m.val; simp only at q; omega)
    go_enter Tryz.func50, Tryz.ntmps50
    go_wp2_with (first | (go_at_call 72; refine (hky _).mono ?_; rintro e w1 ⟨rfl, hq⟩; have hq2 := hq.symm; subst hq2; clear hq) | (go_at_call 73; refine (hvl _).mono ?_; rintro e w1 ⟨rfl, hq⟩; have hq2 := hq.symm; subst hq2; clear hq) | (go_at_call 74; refine (hst _).mono ?_; rintro e w1 ⟨rfl, hq⟩; have hq2 := hq.symm; subst hq2; clear hq) | (go_at_call 75; refine (hcn _).mono ?_; rintro e w1 ⟨rfl, hq⟩; have hq2 := hq.symm; subst hq2; clear hq))
    go_ret
    rw [HC.out]
    exact ⟨rfl, hb⟩
  have h3d : decide (4096 < l) = false := decide_eq_false h3
  by_cases h4 : 0 < l
  · have h4d : decide (0 < l) = true := decide_eq_true h4
    cases dead
    · skip
      by_cases h5 : stamp < 0
      · have h5d : decide (stamp < 0) = true := decide_eq_true h5
        have HC : Hid (chkE ⟨1, stamp, count, key, val, false⟩ = 100) := hide_it (chk_no fun h => by
          have m := may_parts h
          have q := m.st0 rfl; simp only at q; omega)
        go_enter Tryz.func50, Tryz.ntmps50
        go_wp2_with (first | (go_at_call 72; refine (hky _).mono ?_; rintro e w1 ⟨rfl, hq⟩; have hq2 := hq.symm; subst hq2; clear hq) | (go_at_call 73; refine (hvl _).mono ?_; rintro e w1 ⟨rfl, hq⟩; have hq2 := hq.symm; subst hq2; clear hq) | (go_at_call 74; refine (hst _).mono ?_; rintro e w1 ⟨rfl, hq⟩; have hq2 := hq.symm; subst hq2; clear hq) | (go_at_call 75; refine (hcn _).mono ?_; rintro e w1 ⟨rfl, hq⟩; have hq2 := hq.symm; subst hq2; clear hq))
        go_ret
        rw [HC.out]
        exact ⟨rfl, hb⟩
      have h5d : decide (stamp < 0) = false := decide_eq_false h5
      by_cases h6 : 4611686018427387904 < stamp
      · have h6d : decide (4611686018427387904 < stamp) = true := decide_eq_true h6
        have HC : Hid (chkE ⟨1, stamp, count, key, val, false⟩ = 100) := hide_it (chk_no fun h => by
          have m := may_parts h
          have q := m.st0 rfl; simp only at q; omega)
        go_enter Tryz.func50, Tryz.ntmps50
        go_wp2_with (first | (go_at_call 72; refine (hky _).mono ?_; rintro e w1 ⟨rfl, hq⟩; have hq2 := hq.symm; subst hq2; clear hq) | (go_at_call 73; refine (hvl _).mono ?_; rintro e w1 ⟨rfl, hq⟩; have hq2 := hq.symm; subst hq2; clear hq) | (go_at_call 74; refine (hst _).mono ?_; rintro e w1 ⟨rfl, hq⟩; have hq2 := hq.symm; subst hq2; clear hq) | (go_at_call 75; refine (hcn _).mono ?_; rintro e w1 ⟨rfl, hq⟩; have hq2 := hq.symm; subst hq2; clear hq))
        go_ret
        rw [HC.out]
        exact ⟨rfl, hb⟩
      have h6d : decide (4611686018427387904 < stamp) = false := decide_eq_false h6
      by_cases h7 : stamp = 0
      rotate_left 1
      · have h7d : (stamp != 0) = true := by rw [bne_iff_ne]; exact h7
        have HC : Hid (chkE ⟨1, stamp, count, key, val, false⟩ = 100) := hide_it (chk_no fun h => by
          have m := may_parts h
          have q := m.st0 rfl; simp only at q; omega)
        go_enter Tryz.func50, Tryz.ntmps50
        go_wp2_with (first | (go_at_call 72; refine (hky _).mono ?_; rintro e w1 ⟨rfl, hq⟩; have hq2 := hq.symm; subst hq2; clear hq) | (go_at_call 73; refine (hvl _).mono ?_; rintro e w1 ⟨rfl, hq⟩; have hq2 := hq.symm; subst hq2; clear hq) | (go_at_call 74; refine (hst _).mono ?_; rintro e w1 ⟨rfl, hq⟩; have hq2 := hq.symm; subst hq2; clear hq) | (go_at_call 75; refine (hcn _).mono ?_; rintro e w1 ⟨rfl, hq⟩; have hq2 := hq.symm; subst hq2; clear hq))
        go_ret
        rw [HC.out]
        exact ⟨rfl, hb⟩
      subst h7
      by_cases h8 : count < 0
      · have h8d : decide (count < 0) = true := decide_eq_true h8
        have HC : Hid (chkE ⟨1, 0, count, key, val, false⟩ = 100) := hide_it (chk_no fun h => by
          have m := may_parts h
          have q := m.ct0 rfl; simp only at q; omega)
        go_enter Tryz.func50, Tryz.ntmps50
        go_wp2_with (first | (go_at_call 72; refine (hky _).mono ?_; rintro e w1 ⟨rfl, hq⟩; have hq2 := hq.symm; subst hq2; clear hq) | (go_at_call 73; refine (hvl _).mono ?_; rintro e w1 ⟨rfl, hq⟩; have hq2 := hq.symm; subst hq2; clear hq) | (go_at_call 74; refine (hst _).mono ?_; rintro e w1 ⟨rfl, hq⟩; have hq2 := hq.symm; subst hq2; clear hq) | (go_at_call 75; refine (hcn _).mono ?_; rintro e w1 ⟨rfl, hq⟩; have hq2 := hq.symm; subst hq2; clear hq))
        go_ret
        rw [HC.out]
        exact ⟨rfl, hb⟩
      have h8d : decide (count < 0) = false := decide_eq_false h8
      by_cases h9 : 2147483647 < count
      · have h9d : decide (2147483647 < count) = true := decide_eq_true h9
        have HC : Hid (chkE ⟨1, 0, count, key, val, false⟩ = 100) := hide_it (chk_no fun h => by
          have m := may_parts h
          have q := m.ct0 rfl; simp only at q; omega)
        go_enter Tryz.func50, Tryz.ntmps50
        go_wp2_with (first | (go_at_call 72; refine (hky _).mono ?_; rintro e w1 ⟨rfl, hq⟩; have hq2 := hq.symm; subst hq2; clear hq) | (go_at_call 73; refine (hvl _).mono ?_; rintro e w1 ⟨rfl, hq⟩; have hq2 := hq.symm; subst hq2; clear hq) | (go_at_call 74; refine (hst _).mono ?_; rintro e w1 ⟨rfl, hq⟩; have hq2 := hq.symm; subst hq2; clear hq) | (go_at_call 75; refine (hcn _).mono ?_; rintro e w1 ⟨rfl, hq⟩; have hq2 := hq.symm; subst hq2; clear hq))
        go_ret
        rw [HC.out]
        exact ⟨rfl, hb⟩
      have h9d : decide (2147483647 < count) = false := decide_eq_false h9
      by_cases h10 : count = 0
      rotate_left 1
      · have h10d : (count != 0) = true := by rw [bne_iff_ne]; exact h10
        have HC : Hid (chkE ⟨1, 0, count, key, val, false⟩ = 100) := hide_it (chk_no fun h => by
          have m := may_parts h
          have q := m.ct0 rfl; simp only at q; omega)
        go_enter Tryz.func50, Tryz.ntmps50
        go_wp2_with (first | (go_at_call 72; refine (hky _).mono ?_; rintro e w1 ⟨rfl, hq⟩; have hq2 := hq.symm; subst hq2; clear hq) | (go_at_call 73; refine (hvl _).mono ?_; rintro e w1 ⟨rfl, hq⟩; have hq2 := hq.symm; subst hq2; clear hq) | (go_at_call 74; refine (hst _).mono ?_; rintro e w1 ⟨rfl, hq⟩; have hq2 := hq.symm; subst hq2; clear hq) | (go_at_call 75; refine (hcn _).mono ?_; rintro e w1 ⟨rfl, hq⟩; have hq2 := hq.symm; subst hq2; clear hq))
        go_ret
        rw [HC.out]
        exact ⟨rfl, hb⟩
      subst h10
      have HC : Hid (chkE ⟨1, 0, 0, key, val, false⟩ = 0) := hide_it (chk_yes (by
        (unfold mayE fitI hk hs hc hd hv; simp; try omega)))
      go_enter Tryz.func50, Tryz.ntmps50
      go_wp2_with (first | (go_at_call 72; refine (hky _).mono ?_; rintro e w1 ⟨rfl, hq⟩; have hq2 := hq.symm; subst hq2; clear hq) | (go_at_call 73; refine (hvl _).mono ?_; rintro e w1 ⟨rfl, hq⟩; have hq2 := hq.symm; subst hq2; clear hq) | (go_at_call 74; refine (hst _).mono ?_; rintro e w1 ⟨rfl, hq⟩; have hq2 := hq.symm; subst hq2; clear hq) | (go_at_call 75; refine (hcn _).mono ?_; rintro e w1 ⟨rfl, hq⟩; have hq2 := hq.symm; subst hq2; clear hq))
      go_ret
      rw [HC.out]
      exact ⟨rfl, hb⟩
    · skip
      have HC : Hid (chkE ⟨1, stamp, count, key, val, true⟩ = 100) := hide_it (chk_no fun h => by
        have m := may_parts h
        have q := m.valD rfl; simp only at q; rw [q] at hl; simp at hl; omega)
      go_enter Tryz.func50, Tryz.ntmps50
      go_wp2_with (first | (go_at_call 72; refine (hky _).mono ?_; rintro e w1 ⟨rfl, hq⟩; have hq2 := hq.symm; subst hq2; clear hq) | (go_at_call 73; refine (hvl _).mono ?_; rintro e w1 ⟨rfl, hq⟩; have hq2 := hq.symm; subst hq2; clear hq) | (go_at_call 74; refine (hst _).mono ?_; rintro e w1 ⟨rfl, hq⟩; have hq2 := hq.symm; subst hq2; clear hq) | (go_at_call 75; refine (hcn _).mono ?_; rintro e w1 ⟨rfl, hq⟩; have hq2 := hq.symm; subst hq2; clear hq))
      go_ret
      rw [HC.out]
      exact ⟨rfl, hb⟩
  · have hv0 : val = [] := List.eq_nil_of_length_eq_zero (by omega)
    subst hv0
    clear hl h3 h3d h4
    cases dead
    · skip
      by_cases h5 : stamp < 0
      · have h5d : decide (stamp < 0) = true := decide_eq_true h5
        have HC : Hid (chkE ⟨1, stamp, count, key, [], false⟩ = 100) := hide_it (chk_no fun h => by
          have m := may_parts h
          have q := m.st0 rfl; simp only at q; omega)
        go_enter Tryz.func50, Tryz.ntmps50
        go_wp2_with (first | (go_at_call 72; refine (hky _).mono ?_; rintro e w1 ⟨rfl, hq⟩; have hq2 := hq.symm; subst hq2; clear hq) | (go_at_call 73; refine (hvl _).mono ?_; rintro e w1 ⟨rfl, hq⟩; have hq2 := hq.symm; subst hq2; clear hq) | (go_at_call 74; refine (hst _).mono ?_; rintro e w1 ⟨rfl, hq⟩; have hq2 := hq.symm; subst hq2; clear hq) | (go_at_call 75; refine (hcn _).mono ?_; rintro e w1 ⟨rfl, hq⟩; have hq2 := hq.symm; subst hq2; clear hq))
        go_ret
        rw [HC.out]
        exact ⟨rfl, hb⟩
      have h5d : decide (stamp < 0) = false := decide_eq_false h5
      by_cases h6 : 4611686018427387904 < stamp
      · have h6d : decide (4611686018427387904 < stamp) = true := decide_eq_true h6
        have HC : Hid (chkE ⟨1, stamp, count, key, [], false⟩ = 100) := hide_it (chk_no fun h => by
          have m := may_parts h
          have q := m.st0 rfl; simp only at q; omega)
        go_enter Tryz.func50, Tryz.ntmps50
        go_wp2_with (first | (go_at_call 72; refine (hky _).mono ?_; rintro e w1 ⟨rfl, hq⟩; have hq2 := hq.symm; subst hq2; clear hq) | (go_at_call 73; refine (hvl _).mono ?_; rintro e w1 ⟨rfl, hq⟩; have hq2 := hq.symm; subst hq2; clear hq) | (go_at_call 74; refine (hst _).mono ?_; rintro e w1 ⟨rfl, hq⟩; have hq2 := hq.symm; subst hq2; clear hq) | (go_at_call 75; refine (hcn _).mono ?_; rintro e w1 ⟨rfl, hq⟩; have hq2 := hq.symm; subst hq2; clear hq))
        go_ret
        rw [HC.out]
        exact ⟨rfl, hb⟩
      have h6d : decide (4611686018427387904 < stamp) = false := decide_eq_false h6
      by_cases h7 : stamp = 0
      rotate_left 1
      · have h7d : (stamp != 0) = true := by rw [bne_iff_ne]; exact h7
        have HC : Hid (chkE ⟨1, stamp, count, key, [], false⟩ = 100) := hide_it (chk_no fun h => by
          have m := may_parts h
          have q := m.st0 rfl; simp only at q; omega)
        go_enter Tryz.func50, Tryz.ntmps50
        go_wp2_with (first | (go_at_call 72; refine (hky _).mono ?_; rintro e w1 ⟨rfl, hq⟩; have hq2 := hq.symm; subst hq2; clear hq) | (go_at_call 73; refine (hvl _).mono ?_; rintro e w1 ⟨rfl, hq⟩; have hq2 := hq.symm; subst hq2; clear hq) | (go_at_call 74; refine (hst _).mono ?_; rintro e w1 ⟨rfl, hq⟩; have hq2 := hq.symm; subst hq2; clear hq) | (go_at_call 75; refine (hcn _).mono ?_; rintro e w1 ⟨rfl, hq⟩; have hq2 := hq.symm; subst hq2; clear hq))
        go_ret
        rw [HC.out]
        exact ⟨rfl, hb⟩
      subst h7
      by_cases h8 : count < 0
      · have h8d : decide (count < 0) = true := decide_eq_true h8
        have HC : Hid (chkE ⟨1, 0, count, key, [], false⟩ = 100) := hide_it (chk_no fun h => by
          have m := may_parts h
          have q := m.ct0 rfl; simp only at q; omega)
        go_enter Tryz.func50, Tryz.ntmps50
        go_wp2_with (first | (go_at_call 72; refine (hky _).mono ?_; rintro e w1 ⟨rfl, hq⟩; have hq2 := hq.symm; subst hq2; clear hq) | (go_at_call 73; refine (hvl _).mono ?_; rintro e w1 ⟨rfl, hq⟩; have hq2 := hq.symm; subst hq2; clear hq) | (go_at_call 74; refine (hst _).mono ?_; rintro e w1 ⟨rfl, hq⟩; have hq2 := hq.symm; subst hq2; clear hq) | (go_at_call 75; refine (hcn _).mono ?_; rintro e w1 ⟨rfl, hq⟩; have hq2 := hq.symm; subst hq2; clear hq))
        go_ret
        rw [HC.out]
        exact ⟨rfl, hb⟩
      have h8d : decide (count < 0) = false := decide_eq_false h8
      by_cases h9 : 2147483647 < count
      · have h9d : decide (2147483647 < count) = true := decide_eq_true h9
        have HC : Hid (chkE ⟨1, 0, count, key, [], false⟩ = 100) := hide_it (chk_no fun h => by
          have m := may_parts h
          have q := m.ct0 rfl; simp only at q; omega)
        go_enter Tryz.func50, Tryz.ntmps50
        go_wp2_with (first | (go_at_call 72; refine (hky _).mono ?_; rintro e w1 ⟨rfl, hq⟩; have hq2 := hq.symm; subst hq2; clear hq) | (go_at_call 73; refine (hvl _).mono ?_; rintro e w1 ⟨rfl, hq⟩; have hq2 := hq.symm; subst hq2; clear hq) | (go_at_call 74; refine (hst _).mono ?_; rintro e w1 ⟨rfl, hq⟩; have hq2 := hq.symm; subst hq2; clear hq) | (go_at_call 75; refine (hcn _).mono ?_; rintro e w1 ⟨rfl, hq⟩; have hq2 := hq.symm; subst hq2; clear hq))
        go_ret
        rw [HC.out]
        exact ⟨rfl, hb⟩
      have h9d : decide (2147483647 < count) = false := decide_eq_false h9
      by_cases h10 : count = 0
      rotate_left 1
      · have h10d : (count != 0) = true := by rw [bne_iff_ne]; exact h10
        have HC : Hid (chkE ⟨1, 0, count, key, [], false⟩ = 100) := hide_it (chk_no fun h => by
          have m := may_parts h
          have q := m.ct0 rfl; simp only at q; omega)
        go_enter Tryz.func50, Tryz.ntmps50
        go_wp2_with (first | (go_at_call 72; refine (hky _).mono ?_; rintro e w1 ⟨rfl, hq⟩; have hq2 := hq.symm; subst hq2; clear hq) | (go_at_call 73; refine (hvl _).mono ?_; rintro e w1 ⟨rfl, hq⟩; have hq2 := hq.symm; subst hq2; clear hq) | (go_at_call 74; refine (hst _).mono ?_; rintro e w1 ⟨rfl, hq⟩; have hq2 := hq.symm; subst hq2; clear hq) | (go_at_call 75; refine (hcn _).mono ?_; rintro e w1 ⟨rfl, hq⟩; have hq2 := hq.symm; subst hq2; clear hq))
        go_ret
        rw [HC.out]
        exact ⟨rfl, hb⟩
      subst h10
      have HC : Hid (chkE ⟨1, 0, 0, key, [], false⟩ = 0) := hide_it (chk_yes (by
        (unfold mayE fitI hk hs hc hd hv; simp; try omega)))
      go_enter Tryz.func50, Tryz.ntmps50
      go_wp2_with (first | (go_at_call 72; refine (hky _).mono ?_; rintro e w1 ⟨rfl, hq⟩; have hq2 := hq.symm; subst hq2; clear hq) | (go_at_call 73; refine (hvl _).mono ?_; rintro e w1 ⟨rfl, hq⟩; have hq2 := hq.symm; subst hq2; clear hq) | (go_at_call 74; refine (hst _).mono ?_; rintro e w1 ⟨rfl, hq⟩; have hq2 := hq.symm; subst hq2; clear hq) | (go_at_call 75; refine (hcn _).mono ?_; rintro e w1 ⟨rfl, hq⟩; have hq2 := hq.symm; subst hq2; clear hq))
      go_ret
      rw [HC.out]
      exact ⟨rfl, hb⟩
    · skip
      have HC : Hid (chkE ⟨1, stamp, count, key, [], true⟩ = 100) := hide_it (chk_no fun h => by
        have m := may_parts h
        have q := m.dd rfl; simp only at q; cases q)
      go_enter Tryz.func50, Tryz.ntmps50
      go_wp2_with (first | (go_at_call 72; refine (hky _).mono ?_; rintro e w1 ⟨rfl, hq⟩; have hq2 := hq.symm; subst hq2; clear hq) | (go_at_call 73; refine (hvl _).mono ?_; rintro e w1 ⟨rfl, hq⟩; have hq2 := hq.symm; subst hq2; clear hq) | (go_at_call 74; refine (hst _).mono ?_; rintro e w1 ⟨rfl, hq⟩; have hq2 := hq.symm; subst hq2; clear hq) | (go_at_call 75; refine (hcn _).mono ?_; rintro e w1 ⟨rfl, hq⟩; have hq2 := hq.symm; subst hq2; clear hq))
      go_ret
      rw [HC.out]
      exact ⟨rfl, hb⟩

set_option maxRecDepth 100000 in
set_option maxHeartbeats 2000000 in
theorem rcheck_2 (stamp count : Int) (key : ByteArray) (val : List Nat) (dead : Bool) (a : Option Addr) (cp : Nat) (w : World) :
    Calls Tryz.prog 50 #[valE ⟨2, stamp, count, key, val, dead⟩ a cp] w fun e w' => e = .returned (.int .i64 ((chkE ⟨2, stamp, count, key, val, dead⟩ : Nat) : Int)) ∧ Below w.heap.size w w' := by
  have hky : ∀ w, Calls Tryz.prog 72 #[.int .i64 2] w fun e w' => e = .returned (.bool true) ∧ w' = w := fun w => rkeyed_any 2 w
  have hvl : ∀ w, Calls Tryz.prog 73 #[.int .i64 2] w fun e w' => e = .returned (.bool false) ∧ w' = w := fun w => rvalued_any 2 w
  have hst : ∀ w, Calls Tryz.prog 74 #[.int .i64 2] w fun e w' => e = .returned (.bool false) ∧ w' = w := fun w => rstamped_any 2 w
  have hcn : ∀ w, Calls Tryz.prog 75 #[.int .i64 2] w fun e w' => e = .returned (.bool false) ∧ w' = w := fun w => rcounted_any 2 w
  have hb := boxE_below w ⟨2, stamp, count, key, val, dead⟩ a cp
  obtain ⟨n, hn⟩ : ∃ n : Int, (key.size : Int) = n := ⟨_, rfl⟩
  obtain ⟨l, hl⟩ : ∃ l : Int, (val.length : Int) = l := ⟨_, rfl⟩
  have hn0 : 0 ≤ n := by omega
  by_cases h1 : n < 1
  · have h1d : decide (n < 1) = true := decide_eq_true h1
    have HC : Hid (chkE ⟨2, stamp, count, key, val, dead⟩ = 100) := hide_it (chk_no fun h => by
      have m := may_parts h
      have q := m.key1 rfl; simp only at q; omega)
    go_enter Tryz.func50, Tryz.ntmps50
    go_wp2_with (first | (go_at_call 72; refine (hky _).mono ?_; rintro e w1 ⟨rfl, hq⟩; have hq2 := hq.symm; subst hq2; clear hq) | (go_at_call 73; refine (hvl _).mono ?_; rintro e w1 ⟨rfl, hq⟩; have hq2 := hq.symm; subst hq2; clear hq) | (go_at_call 74; refine (hst _).mono ?_; rintro e w1 ⟨rfl, hq⟩; have hq2 := hq.symm; subst hq2; clear hq) | (go_at_call 75; refine (hcn _).mono ?_; rintro e w1 ⟨rfl, hq⟩; have hq2 := hq.symm; subst hq2; clear hq))
    go_ret
    rw [HC.out]
    exact ⟨rfl, hb⟩
  have h1d : decide (n < 1) = false := decide_eq_false h1
  by_cases h2 : 255 < n
  · have h2d : decide (255 < n) = true := decide_eq_true h2
    have HC : Hid (chkE ⟨2, stamp, count, key, val, dead⟩ = 100) := hide_it (chk_no fun h => by
      have m := may_parts h
      have q := m.key1 rfl; simp only at q; omega)
    go_enter Tryz.func50, Tryz.ntmps50
    go_wp2_with (first | (go_at_call 72; refine (hky _).mono ?_; rintro e w1 ⟨rfl, hq⟩; have hq2 := hq.symm; subst hq2; clear hq) | (go_at_call 73; refine (hvl _).mono ?_; rintro e w1 ⟨rfl, hq⟩; have hq2 := hq.symm; subst hq2; clear hq) | (go_at_call 74; refine (hst _).mono ?_; rintro e w1 ⟨rfl, hq⟩; have hq2 := hq.symm; subst hq2; clear hq) | (go_at_call 75; refine (hcn _).mono ?_; rintro e w1 ⟨rfl, hq⟩; have hq2 := hq.symm; subst hq2; clear hq))
    go_ret
    rw [HC.out]
    exact ⟨rfl, hb⟩
  have h2d : decide (255 < n) = false := decide_eq_false h2
  by_cases h3 : 4096 < l
  · have h3d : decide (4096 < l) = true := decide_eq_true h3
    have HC : Hid (chkE ⟨2, stamp, count, key, val, dead⟩ = 100) := hide_it (chk_no fun h => by
      have m := may_parts h
      have q := m.val; simp only at q; omega)
    go_enter Tryz.func50, Tryz.ntmps50
    go_wp2_with (first | (go_at_call 72; refine (hky _).mono ?_; rintro e w1 ⟨rfl, hq⟩; have hq2 := hq.symm; subst hq2; clear hq) | (go_at_call 73; refine (hvl _).mono ?_; rintro e w1 ⟨rfl, hq⟩; have hq2 := hq.symm; subst hq2; clear hq) | (go_at_call 74; refine (hst _).mono ?_; rintro e w1 ⟨rfl, hq⟩; have hq2 := hq.symm; subst hq2; clear hq) | (go_at_call 75; refine (hcn _).mono ?_; rintro e w1 ⟨rfl, hq⟩; have hq2 := hq.symm; subst hq2; clear hq))
    go_ret
    rw [HC.out]
    exact ⟨rfl, hb⟩
  have h3d : decide (4096 < l) = false := decide_eq_false h3
  by_cases h4 : 0 < l
  · have h4d : decide (0 < l) = true := decide_eq_true h4
    have HC : Hid (chkE ⟨2, stamp, count, key, val, dead⟩ = 100) := hide_it (chk_no fun h => by
      have m := may_parts h
      have q := m.val0 rfl; simp only at q; rw [q] at hl; simp at hl; omega)
    go_enter Tryz.func50, Tryz.ntmps50
    go_wp2_with (first | (go_at_call 72; refine (hky _).mono ?_; rintro e w1 ⟨rfl, hq⟩; have hq2 := hq.symm; subst hq2; clear hq) | (go_at_call 73; refine (hvl _).mono ?_; rintro e w1 ⟨rfl, hq⟩; have hq2 := hq.symm; subst hq2; clear hq) | (go_at_call 74; refine (hst _).mono ?_; rintro e w1 ⟨rfl, hq⟩; have hq2 := hq.symm; subst hq2; clear hq) | (go_at_call 75; refine (hcn _).mono ?_; rintro e w1 ⟨rfl, hq⟩; have hq2 := hq.symm; subst hq2; clear hq))
    go_ret
    rw [HC.out]
    exact ⟨rfl, hb⟩
  · have hv0 : val = [] := List.eq_nil_of_length_eq_zero (by omega)
    subst hv0
    clear hl h3 h3d h4
    cases dead
    · skip
      by_cases h5 : stamp < 0
      · have h5d : decide (stamp < 0) = true := decide_eq_true h5
        have HC : Hid (chkE ⟨2, stamp, count, key, [], false⟩ = 100) := hide_it (chk_no fun h => by
          have m := may_parts h
          have q := m.st0 rfl; simp only at q; omega)
        go_enter Tryz.func50, Tryz.ntmps50
        go_wp2_with (first | (go_at_call 72; refine (hky _).mono ?_; rintro e w1 ⟨rfl, hq⟩; have hq2 := hq.symm; subst hq2; clear hq) | (go_at_call 73; refine (hvl _).mono ?_; rintro e w1 ⟨rfl, hq⟩; have hq2 := hq.symm; subst hq2; clear hq) | (go_at_call 74; refine (hst _).mono ?_; rintro e w1 ⟨rfl, hq⟩; have hq2 := hq.symm; subst hq2; clear hq) | (go_at_call 75; refine (hcn _).mono ?_; rintro e w1 ⟨rfl, hq⟩; have hq2 := hq.symm; subst hq2; clear hq))
        go_ret
        rw [HC.out]
        exact ⟨rfl, hb⟩
      have h5d : decide (stamp < 0) = false := decide_eq_false h5
      by_cases h6 : 4611686018427387904 < stamp
      · have h6d : decide (4611686018427387904 < stamp) = true := decide_eq_true h6
        have HC : Hid (chkE ⟨2, stamp, count, key, [], false⟩ = 100) := hide_it (chk_no fun h => by
          have m := may_parts h
          have q := m.st0 rfl; simp only at q; omega)
        go_enter Tryz.func50, Tryz.ntmps50
        go_wp2_with (first | (go_at_call 72; refine (hky _).mono ?_; rintro e w1 ⟨rfl, hq⟩; have hq2 := hq.symm; subst hq2; clear hq) | (go_at_call 73; refine (hvl _).mono ?_; rintro e w1 ⟨rfl, hq⟩; have hq2 := hq.symm; subst hq2; clear hq) | (go_at_call 74; refine (hst _).mono ?_; rintro e w1 ⟨rfl, hq⟩; have hq2 := hq.symm; subst hq2; clear hq) | (go_at_call 75; refine (hcn _).mono ?_; rintro e w1 ⟨rfl, hq⟩; have hq2 := hq.symm; subst hq2; clear hq))
        go_ret
        rw [HC.out]
        exact ⟨rfl, hb⟩
      have h6d : decide (4611686018427387904 < stamp) = false := decide_eq_false h6
      by_cases h7 : stamp = 0
      rotate_left 1
      · have h7d : (stamp != 0) = true := by rw [bne_iff_ne]; exact h7
        have HC : Hid (chkE ⟨2, stamp, count, key, [], false⟩ = 100) := hide_it (chk_no fun h => by
          have m := may_parts h
          have q := m.st0 rfl; simp only at q; omega)
        go_enter Tryz.func50, Tryz.ntmps50
        go_wp2_with (first | (go_at_call 72; refine (hky _).mono ?_; rintro e w1 ⟨rfl, hq⟩; have hq2 := hq.symm; subst hq2; clear hq) | (go_at_call 73; refine (hvl _).mono ?_; rintro e w1 ⟨rfl, hq⟩; have hq2 := hq.symm; subst hq2; clear hq) | (go_at_call 74; refine (hst _).mono ?_; rintro e w1 ⟨rfl, hq⟩; have hq2 := hq.symm; subst hq2; clear hq) | (go_at_call 75; refine (hcn _).mono ?_; rintro e w1 ⟨rfl, hq⟩; have hq2 := hq.symm; subst hq2; clear hq))
        go_ret
        rw [HC.out]
        exact ⟨rfl, hb⟩
      subst h7
      by_cases h8 : count < 0
      · have h8d : decide (count < 0) = true := decide_eq_true h8
        have HC : Hid (chkE ⟨2, 0, count, key, [], false⟩ = 100) := hide_it (chk_no fun h => by
          have m := may_parts h
          have q := m.ct0 rfl; simp only at q; omega)
        go_enter Tryz.func50, Tryz.ntmps50
        go_wp2_with (first | (go_at_call 72; refine (hky _).mono ?_; rintro e w1 ⟨rfl, hq⟩; have hq2 := hq.symm; subst hq2; clear hq) | (go_at_call 73; refine (hvl _).mono ?_; rintro e w1 ⟨rfl, hq⟩; have hq2 := hq.symm; subst hq2; clear hq) | (go_at_call 74; refine (hst _).mono ?_; rintro e w1 ⟨rfl, hq⟩; have hq2 := hq.symm; subst hq2; clear hq) | (go_at_call 75; refine (hcn _).mono ?_; rintro e w1 ⟨rfl, hq⟩; have hq2 := hq.symm; subst hq2; clear hq))
        go_ret
        rw [HC.out]
        exact ⟨rfl, hb⟩
      have h8d : decide (count < 0) = false := decide_eq_false h8
      by_cases h9 : 2147483647 < count
      · have h9d : decide (2147483647 < count) = true := decide_eq_true h9
        have HC : Hid (chkE ⟨2, 0, count, key, [], false⟩ = 100) := hide_it (chk_no fun h => by
          have m := may_parts h
          have q := m.ct0 rfl; simp only at q; omega)
        go_enter Tryz.func50, Tryz.ntmps50
        go_wp2_with (first | (go_at_call 72; refine (hky _).mono ?_; rintro e w1 ⟨rfl, hq⟩; have hq2 := hq.symm; subst hq2; clear hq) | (go_at_call 73; refine (hvl _).mono ?_; rintro e w1 ⟨rfl, hq⟩; have hq2 := hq.symm; subst hq2; clear hq) | (go_at_call 74; refine (hst _).mono ?_; rintro e w1 ⟨rfl, hq⟩; have hq2 := hq.symm; subst hq2; clear hq) | (go_at_call 75; refine (hcn _).mono ?_; rintro e w1 ⟨rfl, hq⟩; have hq2 := hq.symm; subst hq2; clear hq))
        go_ret
        rw [HC.out]
        exact ⟨rfl, hb⟩
      have h9d : decide (2147483647 < count) = false := decide_eq_false h9
      by_cases h10 : count = 0
      rotate_left 1
      · have h10d : (count != 0) = true := by rw [bne_iff_ne]; exact h10
        have HC : Hid (chkE ⟨2, 0, count, key, [], false⟩ = 100) := hide_it (chk_no fun h => by
          have m := may_parts h
          have q := m.ct0 rfl; simp only at q; omega)
        go_enter Tryz.func50, Tryz.ntmps50
        go_wp2_with (first | (go_at_call 72; refine (hky _).mono ?_; rintro e w1 ⟨rfl, hq⟩; have hq2 := hq.symm; subst hq2; clear hq) | (go_at_call 73; refine (hvl _).mono ?_; rintro e w1 ⟨rfl, hq⟩; have hq2 := hq.symm; subst hq2; clear hq) | (go_at_call 74; refine (hst _).mono ?_; rintro e w1 ⟨rfl, hq⟩; have hq2 := hq.symm; subst hq2; clear hq) | (go_at_call 75; refine (hcn _).mono ?_; rintro e w1 ⟨rfl, hq⟩; have hq2 := hq.symm; subst hq2; clear hq))
        go_ret
        rw [HC.out]
        exact ⟨rfl, hb⟩
      subst h10
      have HC : Hid (chkE ⟨2, 0, 0, key, [], false⟩ = 0) := hide_it (chk_yes (by
        (unfold mayE fitI hk hs hc hd hv; simp; try omega)))
      go_enter Tryz.func50, Tryz.ntmps50
      go_wp2_with (first | (go_at_call 72; refine (hky _).mono ?_; rintro e w1 ⟨rfl, hq⟩; have hq2 := hq.symm; subst hq2; clear hq) | (go_at_call 73; refine (hvl _).mono ?_; rintro e w1 ⟨rfl, hq⟩; have hq2 := hq.symm; subst hq2; clear hq) | (go_at_call 74; refine (hst _).mono ?_; rintro e w1 ⟨rfl, hq⟩; have hq2 := hq.symm; subst hq2; clear hq) | (go_at_call 75; refine (hcn _).mono ?_; rintro e w1 ⟨rfl, hq⟩; have hq2 := hq.symm; subst hq2; clear hq))
      go_ret
      rw [HC.out]
      exact ⟨rfl, hb⟩
    · skip
      have HC : Hid (chkE ⟨2, stamp, count, key, [], true⟩ = 100) := hide_it (chk_no fun h => by
        have m := may_parts h
        have q := m.dd rfl; simp only at q; cases q)
      go_enter Tryz.func50, Tryz.ntmps50
      go_wp2_with (first | (go_at_call 72; refine (hky _).mono ?_; rintro e w1 ⟨rfl, hq⟩; have hq2 := hq.symm; subst hq2; clear hq) | (go_at_call 73; refine (hvl _).mono ?_; rintro e w1 ⟨rfl, hq⟩; have hq2 := hq.symm; subst hq2; clear hq) | (go_at_call 74; refine (hst _).mono ?_; rintro e w1 ⟨rfl, hq⟩; have hq2 := hq.symm; subst hq2; clear hq) | (go_at_call 75; refine (hcn _).mono ?_; rintro e w1 ⟨rfl, hq⟩; have hq2 := hq.symm; subst hq2; clear hq))
      go_ret
      rw [HC.out]
      exact ⟨rfl, hb⟩

set_option maxRecDepth 100000 in
set_option maxHeartbeats 2000000 in
theorem rcheck_3 (stamp count : Int) (key : ByteArray) (val : List Nat) (dead : Bool) (a : Option Addr) (cp : Nat) (w : World) :
    Calls Tryz.prog 50 #[valE ⟨3, stamp, count, key, val, dead⟩ a cp] w fun e w' => e = .returned (.int .i64 ((chkE ⟨3, stamp, count, key, val, dead⟩ : Nat) : Int)) ∧ Below w.heap.size w w' := by
  have hky : ∀ w, Calls Tryz.prog 72 #[.int .i64 3] w fun e w' => e = .returned (.bool false) ∧ w' = w := fun w => rkeyed_any 3 w
  have hvl : ∀ w, Calls Tryz.prog 73 #[.int .i64 3] w fun e w' => e = .returned (.bool false) ∧ w' = w := fun w => rvalued_any 3 w
  have hst : ∀ w, Calls Tryz.prog 74 #[.int .i64 3] w fun e w' => e = .returned (.bool true) ∧ w' = w := fun w => rstamped_any 3 w
  have hcn : ∀ w, Calls Tryz.prog 75 #[.int .i64 3] w fun e w' => e = .returned (.bool true) ∧ w' = w := fun w => rcounted_any 3 w
  have hb := boxE_below w ⟨3, stamp, count, key, val, dead⟩ a cp
  obtain ⟨n, hn⟩ : ∃ n : Int, (key.size : Int) = n := ⟨_, rfl⟩
  obtain ⟨l, hl⟩ : ∃ l : Int, (val.length : Int) = l := ⟨_, rfl⟩
  have hn0 : 0 ≤ n := by omega
  by_cases h1 : 0 < n
  · have h1d : decide (0 < n) = true := decide_eq_true h1
    have HC : Hid (chkE ⟨3, stamp, count, key, val, dead⟩ = 100) := hide_it (chk_no fun h => by
      have m := may_parts h
      have q := m.key0 rfl; simp only at q; omega)
    go_enter Tryz.func50, Tryz.ntmps50
    go_wp2_with (first | (go_at_call 72; refine (hky _).mono ?_; rintro e w1 ⟨rfl, hq⟩; have hq2 := hq.symm; subst hq2; clear hq) | (go_at_call 73; refine (hvl _).mono ?_; rintro e w1 ⟨rfl, hq⟩; have hq2 := hq.symm; subst hq2; clear hq) | (go_at_call 74; refine (hst _).mono ?_; rintro e w1 ⟨rfl, hq⟩; have hq2 := hq.symm; subst hq2; clear hq) | (go_at_call 75; refine (hcn _).mono ?_; rintro e w1 ⟨rfl, hq⟩; have hq2 := hq.symm; subst hq2; clear hq))
    go_ret
    rw [HC.out]
    exact ⟨rfl, hb⟩
  have h1d : decide (0 < n) = false := decide_eq_false h1
  by_cases h3 : 4096 < l
  · have h3d : decide (4096 < l) = true := decide_eq_true h3
    have HC : Hid (chkE ⟨3, stamp, count, key, val, dead⟩ = 100) := hide_it (chk_no fun h => by
      have m := may_parts h
      have q := m.val; simp only at q; omega)
    go_enter Tryz.func50, Tryz.ntmps50
    go_wp2_with (first | (go_at_call 72; refine (hky _).mono ?_; rintro e w1 ⟨rfl, hq⟩; have hq2 := hq.symm; subst hq2; clear hq) | (go_at_call 73; refine (hvl _).mono ?_; rintro e w1 ⟨rfl, hq⟩; have hq2 := hq.symm; subst hq2; clear hq) | (go_at_call 74; refine (hst _).mono ?_; rintro e w1 ⟨rfl, hq⟩; have hq2 := hq.symm; subst hq2; clear hq) | (go_at_call 75; refine (hcn _).mono ?_; rintro e w1 ⟨rfl, hq⟩; have hq2 := hq.symm; subst hq2; clear hq))
    go_ret
    rw [HC.out]
    exact ⟨rfl, hb⟩
  have h3d : decide (4096 < l) = false := decide_eq_false h3
  by_cases h4 : 0 < l
  · have h4d : decide (0 < l) = true := decide_eq_true h4
    have HC : Hid (chkE ⟨3, stamp, count, key, val, dead⟩ = 100) := hide_it (chk_no fun h => by
      have m := may_parts h
      have q := m.val0 rfl; simp only at q; rw [q] at hl; simp at hl; omega)
    go_enter Tryz.func50, Tryz.ntmps50
    go_wp2_with (first | (go_at_call 72; refine (hky _).mono ?_; rintro e w1 ⟨rfl, hq⟩; have hq2 := hq.symm; subst hq2; clear hq) | (go_at_call 73; refine (hvl _).mono ?_; rintro e w1 ⟨rfl, hq⟩; have hq2 := hq.symm; subst hq2; clear hq) | (go_at_call 74; refine (hst _).mono ?_; rintro e w1 ⟨rfl, hq⟩; have hq2 := hq.symm; subst hq2; clear hq) | (go_at_call 75; refine (hcn _).mono ?_; rintro e w1 ⟨rfl, hq⟩; have hq2 := hq.symm; subst hq2; clear hq))
    go_ret
    rw [HC.out]
    exact ⟨rfl, hb⟩
  · have hv0 : val = [] := List.eq_nil_of_length_eq_zero (by omega)
    subst hv0
    clear hl h3 h3d h4
    cases dead
    · skip
      by_cases h5 : stamp < 0
      · have h5d : decide (stamp < 0) = true := decide_eq_true h5
        have HC : Hid (chkE ⟨3, stamp, count, key, [], false⟩ = 100) := hide_it (chk_no fun h => by
          have m := may_parts h
          have q := m.st1 rfl; simp only at q; omega)
        go_enter Tryz.func50, Tryz.ntmps50
        go_wp2_with (first | (go_at_call 72; refine (hky _).mono ?_; rintro e w1 ⟨rfl, hq⟩; have hq2 := hq.symm; subst hq2; clear hq) | (go_at_call 73; refine (hvl _).mono ?_; rintro e w1 ⟨rfl, hq⟩; have hq2 := hq.symm; subst hq2; clear hq) | (go_at_call 74; refine (hst _).mono ?_; rintro e w1 ⟨rfl, hq⟩; have hq2 := hq.symm; subst hq2; clear hq) | (go_at_call 75; refine (hcn _).mono ?_; rintro e w1 ⟨rfl, hq⟩; have hq2 := hq.symm; subst hq2; clear hq))
        go_ret
        rw [HC.out]
        exact ⟨rfl, hb⟩
      have h5d : decide (stamp < 0) = false := decide_eq_false h5
      by_cases h6 : 4611686018427387904 < stamp
      · have h6d : decide (4611686018427387904 < stamp) = true := decide_eq_true h6
        have HC : Hid (chkE ⟨3, stamp, count, key, [], false⟩ = 100) := hide_it (chk_no fun h => by
          have m := may_parts h
          have q := m.st1 rfl; simp only at q; omega)
        go_enter Tryz.func50, Tryz.ntmps50
        go_wp2_with (first | (go_at_call 72; refine (hky _).mono ?_; rintro e w1 ⟨rfl, hq⟩; have hq2 := hq.symm; subst hq2; clear hq) | (go_at_call 73; refine (hvl _).mono ?_; rintro e w1 ⟨rfl, hq⟩; have hq2 := hq.symm; subst hq2; clear hq) | (go_at_call 74; refine (hst _).mono ?_; rintro e w1 ⟨rfl, hq⟩; have hq2 := hq.symm; subst hq2; clear hq) | (go_at_call 75; refine (hcn _).mono ?_; rintro e w1 ⟨rfl, hq⟩; have hq2 := hq.symm; subst hq2; clear hq))
        go_ret
        rw [HC.out]
        exact ⟨rfl, hb⟩
      have h6d : decide (4611686018427387904 < stamp) = false := decide_eq_false h6
      by_cases h8 : count < 0
      · have h8d : decide (count < 0) = true := decide_eq_true h8
        have HC : Hid (chkE ⟨3, stamp, count, key, [], false⟩ = 100) := hide_it (chk_no fun h => by
          have m := may_parts h
          have q := m.ct1 rfl; simp only at q; omega)
        go_enter Tryz.func50, Tryz.ntmps50
        go_wp2_with (first | (go_at_call 72; refine (hky _).mono ?_; rintro e w1 ⟨rfl, hq⟩; have hq2 := hq.symm; subst hq2; clear hq) | (go_at_call 73; refine (hvl _).mono ?_; rintro e w1 ⟨rfl, hq⟩; have hq2 := hq.symm; subst hq2; clear hq) | (go_at_call 74; refine (hst _).mono ?_; rintro e w1 ⟨rfl, hq⟩; have hq2 := hq.symm; subst hq2; clear hq) | (go_at_call 75; refine (hcn _).mono ?_; rintro e w1 ⟨rfl, hq⟩; have hq2 := hq.symm; subst hq2; clear hq))
        go_ret
        rw [HC.out]
        exact ⟨rfl, hb⟩
      have h8d : decide (count < 0) = false := decide_eq_false h8
      by_cases h9 : 2147483647 < count
      · have h9d : decide (2147483647 < count) = true := decide_eq_true h9
        have HC : Hid (chkE ⟨3, stamp, count, key, [], false⟩ = 100) := hide_it (chk_no fun h => by
          have m := may_parts h
          have q := m.ct1 rfl; simp only at q; omega)
        go_enter Tryz.func50, Tryz.ntmps50
        go_wp2_with (first | (go_at_call 72; refine (hky _).mono ?_; rintro e w1 ⟨rfl, hq⟩; have hq2 := hq.symm; subst hq2; clear hq) | (go_at_call 73; refine (hvl _).mono ?_; rintro e w1 ⟨rfl, hq⟩; have hq2 := hq.symm; subst hq2; clear hq) | (go_at_call 74; refine (hst _).mono ?_; rintro e w1 ⟨rfl, hq⟩; have hq2 := hq.symm; subst hq2; clear hq) | (go_at_call 75; refine (hcn _).mono ?_; rintro e w1 ⟨rfl, hq⟩; have hq2 := hq.symm; subst hq2; clear hq))
        go_ret
        rw [HC.out]
        exact ⟨rfl, hb⟩
      have h9d : decide (2147483647 < count) = false := decide_eq_false h9
      have HC : Hid (chkE ⟨3, stamp, count, key, [], false⟩ = 0) := hide_it (chk_yes (by
        (have hk0 : key.size = 0 := (by omega); unfold mayE fitI hk hs hc hd hv; simp [hk0]; try omega)))
      go_enter Tryz.func50, Tryz.ntmps50
      go_wp2_with (first | (go_at_call 72; refine (hky _).mono ?_; rintro e w1 ⟨rfl, hq⟩; have hq2 := hq.symm; subst hq2; clear hq) | (go_at_call 73; refine (hvl _).mono ?_; rintro e w1 ⟨rfl, hq⟩; have hq2 := hq.symm; subst hq2; clear hq) | (go_at_call 74; refine (hst _).mono ?_; rintro e w1 ⟨rfl, hq⟩; have hq2 := hq.symm; subst hq2; clear hq) | (go_at_call 75; refine (hcn _).mono ?_; rintro e w1 ⟨rfl, hq⟩; have hq2 := hq.symm; subst hq2; clear hq))
      go_ret
      rw [HC.out]
      exact ⟨rfl, hb⟩
    · skip
      have HC : Hid (chkE ⟨3, stamp, count, key, [], true⟩ = 100) := hide_it (chk_no fun h => by
        have m := may_parts h
        have q := m.dd rfl; simp only at q; cases q)
      go_enter Tryz.func50, Tryz.ntmps50
      go_wp2_with (first | (go_at_call 72; refine (hky _).mono ?_; rintro e w1 ⟨rfl, hq⟩; have hq2 := hq.symm; subst hq2; clear hq) | (go_at_call 73; refine (hvl _).mono ?_; rintro e w1 ⟨rfl, hq⟩; have hq2 := hq.symm; subst hq2; clear hq) | (go_at_call 74; refine (hst _).mono ?_; rintro e w1 ⟨rfl, hq⟩; have hq2 := hq.symm; subst hq2; clear hq) | (go_at_call 75; refine (hcn _).mono ?_; rintro e w1 ⟨rfl, hq⟩; have hq2 := hq.symm; subst hq2; clear hq))
      go_ret
      rw [HC.out]
      exact ⟨rfl, hb⟩

set_option maxRecDepth 100000 in
set_option maxHeartbeats 2000000 in
theorem rcheck_4 (stamp count : Int) (key : ByteArray) (val : List Nat) (dead : Bool) (a : Option Addr) (cp : Nat) (w : World) :
    Calls Tryz.prog 50 #[valE ⟨4, stamp, count, key, val, dead⟩ a cp] w fun e w' => e = .returned (.int .i64 ((chkE ⟨4, stamp, count, key, val, dead⟩ : Nat) : Int)) ∧ Below w.heap.size w w' := by
  have hky : ∀ w, Calls Tryz.prog 72 #[.int .i64 4] w fun e w' => e = .returned (.bool false) ∧ w' = w := fun w => rkeyed_any 4 w
  have hvl : ∀ w, Calls Tryz.prog 73 #[.int .i64 4] w fun e w' => e = .returned (.bool false) ∧ w' = w := fun w => rvalued_any 4 w
  have hst : ∀ w, Calls Tryz.prog 74 #[.int .i64 4] w fun e w' => e = .returned (.bool true) ∧ w' = w := fun w => rstamped_any 4 w
  have hcn : ∀ w, Calls Tryz.prog 75 #[.int .i64 4] w fun e w' => e = .returned (.bool true) ∧ w' = w := fun w => rcounted_any 4 w
  have hb := boxE_below w ⟨4, stamp, count, key, val, dead⟩ a cp
  obtain ⟨n, hn⟩ : ∃ n : Int, (key.size : Int) = n := ⟨_, rfl⟩
  obtain ⟨l, hl⟩ : ∃ l : Int, (val.length : Int) = l := ⟨_, rfl⟩
  have hn0 : 0 ≤ n := by omega
  by_cases h1 : 0 < n
  · have h1d : decide (0 < n) = true := decide_eq_true h1
    have HC : Hid (chkE ⟨4, stamp, count, key, val, dead⟩ = 100) := hide_it (chk_no fun h => by
      have m := may_parts h
      have q := m.key0 rfl; simp only at q; omega)
    go_enter Tryz.func50, Tryz.ntmps50
    go_wp2_with (first | (go_at_call 72; refine (hky _).mono ?_; rintro e w1 ⟨rfl, hq⟩; have hq2 := hq.symm; subst hq2; clear hq) | (go_at_call 73; refine (hvl _).mono ?_; rintro e w1 ⟨rfl, hq⟩; have hq2 := hq.symm; subst hq2; clear hq) | (go_at_call 74; refine (hst _).mono ?_; rintro e w1 ⟨rfl, hq⟩; have hq2 := hq.symm; subst hq2; clear hq) | (go_at_call 75; refine (hcn _).mono ?_; rintro e w1 ⟨rfl, hq⟩; have hq2 := hq.symm; subst hq2; clear hq))
    go_ret
    rw [HC.out]
    exact ⟨rfl, hb⟩
  have h1d : decide (0 < n) = false := decide_eq_false h1
  by_cases h3 : 4096 < l
  · have h3d : decide (4096 < l) = true := decide_eq_true h3
    have HC : Hid (chkE ⟨4, stamp, count, key, val, dead⟩ = 100) := hide_it (chk_no fun h => by
      have m := may_parts h
      have q := m.val; simp only at q; omega)
    go_enter Tryz.func50, Tryz.ntmps50
    go_wp2_with (first | (go_at_call 72; refine (hky _).mono ?_; rintro e w1 ⟨rfl, hq⟩; have hq2 := hq.symm; subst hq2; clear hq) | (go_at_call 73; refine (hvl _).mono ?_; rintro e w1 ⟨rfl, hq⟩; have hq2 := hq.symm; subst hq2; clear hq) | (go_at_call 74; refine (hst _).mono ?_; rintro e w1 ⟨rfl, hq⟩; have hq2 := hq.symm; subst hq2; clear hq) | (go_at_call 75; refine (hcn _).mono ?_; rintro e w1 ⟨rfl, hq⟩; have hq2 := hq.symm; subst hq2; clear hq))
    go_ret
    rw [HC.out]
    exact ⟨rfl, hb⟩
  have h3d : decide (4096 < l) = false := decide_eq_false h3
  by_cases h4 : 0 < l
  · have h4d : decide (0 < l) = true := decide_eq_true h4
    have HC : Hid (chkE ⟨4, stamp, count, key, val, dead⟩ = 100) := hide_it (chk_no fun h => by
      have m := may_parts h
      have q := m.val0 rfl; simp only at q; rw [q] at hl; simp at hl; omega)
    go_enter Tryz.func50, Tryz.ntmps50
    go_wp2_with (first | (go_at_call 72; refine (hky _).mono ?_; rintro e w1 ⟨rfl, hq⟩; have hq2 := hq.symm; subst hq2; clear hq) | (go_at_call 73; refine (hvl _).mono ?_; rintro e w1 ⟨rfl, hq⟩; have hq2 := hq.symm; subst hq2; clear hq) | (go_at_call 74; refine (hst _).mono ?_; rintro e w1 ⟨rfl, hq⟩; have hq2 := hq.symm; subst hq2; clear hq) | (go_at_call 75; refine (hcn _).mono ?_; rintro e w1 ⟨rfl, hq⟩; have hq2 := hq.symm; subst hq2; clear hq))
    go_ret
    rw [HC.out]
    exact ⟨rfl, hb⟩
  · have hv0 : val = [] := List.eq_nil_of_length_eq_zero (by omega)
    subst hv0
    clear hl h3 h3d h4
    cases dead
    · skip
      by_cases h5 : stamp < 0
      · have h5d : decide (stamp < 0) = true := decide_eq_true h5
        have HC : Hid (chkE ⟨4, stamp, count, key, [], false⟩ = 100) := hide_it (chk_no fun h => by
          have m := may_parts h
          have q := m.st1 rfl; simp only at q; omega)
        go_enter Tryz.func50, Tryz.ntmps50
        go_wp2_with (first | (go_at_call 72; refine (hky _).mono ?_; rintro e w1 ⟨rfl, hq⟩; have hq2 := hq.symm; subst hq2; clear hq) | (go_at_call 73; refine (hvl _).mono ?_; rintro e w1 ⟨rfl, hq⟩; have hq2 := hq.symm; subst hq2; clear hq) | (go_at_call 74; refine (hst _).mono ?_; rintro e w1 ⟨rfl, hq⟩; have hq2 := hq.symm; subst hq2; clear hq) | (go_at_call 75; refine (hcn _).mono ?_; rintro e w1 ⟨rfl, hq⟩; have hq2 := hq.symm; subst hq2; clear hq))
        go_ret
        rw [HC.out]
        exact ⟨rfl, hb⟩
      have h5d : decide (stamp < 0) = false := decide_eq_false h5
      by_cases h6 : 4611686018427387904 < stamp
      · have h6d : decide (4611686018427387904 < stamp) = true := decide_eq_true h6
        have HC : Hid (chkE ⟨4, stamp, count, key, [], false⟩ = 100) := hide_it (chk_no fun h => by
          have m := may_parts h
          have q := m.st1 rfl; simp only at q; omega)
        go_enter Tryz.func50, Tryz.ntmps50
        go_wp2_with (first | (go_at_call 72; refine (hky _).mono ?_; rintro e w1 ⟨rfl, hq⟩; have hq2 := hq.symm; subst hq2; clear hq) | (go_at_call 73; refine (hvl _).mono ?_; rintro e w1 ⟨rfl, hq⟩; have hq2 := hq.symm; subst hq2; clear hq) | (go_at_call 74; refine (hst _).mono ?_; rintro e w1 ⟨rfl, hq⟩; have hq2 := hq.symm; subst hq2; clear hq) | (go_at_call 75; refine (hcn _).mono ?_; rintro e w1 ⟨rfl, hq⟩; have hq2 := hq.symm; subst hq2; clear hq))
        go_ret
        rw [HC.out]
        exact ⟨rfl, hb⟩
      have h6d : decide (4611686018427387904 < stamp) = false := decide_eq_false h6
      by_cases h8 : count < 0
      · have h8d : decide (count < 0) = true := decide_eq_true h8
        have HC : Hid (chkE ⟨4, stamp, count, key, [], false⟩ = 100) := hide_it (chk_no fun h => by
          have m := may_parts h
          have q := m.ct1 rfl; simp only at q; omega)
        go_enter Tryz.func50, Tryz.ntmps50
        go_wp2_with (first | (go_at_call 72; refine (hky _).mono ?_; rintro e w1 ⟨rfl, hq⟩; have hq2 := hq.symm; subst hq2; clear hq) | (go_at_call 73; refine (hvl _).mono ?_; rintro e w1 ⟨rfl, hq⟩; have hq2 := hq.symm; subst hq2; clear hq) | (go_at_call 74; refine (hst _).mono ?_; rintro e w1 ⟨rfl, hq⟩; have hq2 := hq.symm; subst hq2; clear hq) | (go_at_call 75; refine (hcn _).mono ?_; rintro e w1 ⟨rfl, hq⟩; have hq2 := hq.symm; subst hq2; clear hq))
        go_ret
        rw [HC.out]
        exact ⟨rfl, hb⟩
      have h8d : decide (count < 0) = false := decide_eq_false h8
      by_cases h9 : 2147483647 < count
      · have h9d : decide (2147483647 < count) = true := decide_eq_true h9
        have HC : Hid (chkE ⟨4, stamp, count, key, [], false⟩ = 100) := hide_it (chk_no fun h => by
          have m := may_parts h
          have q := m.ct1 rfl; simp only at q; omega)
        go_enter Tryz.func50, Tryz.ntmps50
        go_wp2_with (first | (go_at_call 72; refine (hky _).mono ?_; rintro e w1 ⟨rfl, hq⟩; have hq2 := hq.symm; subst hq2; clear hq) | (go_at_call 73; refine (hvl _).mono ?_; rintro e w1 ⟨rfl, hq⟩; have hq2 := hq.symm; subst hq2; clear hq) | (go_at_call 74; refine (hst _).mono ?_; rintro e w1 ⟨rfl, hq⟩; have hq2 := hq.symm; subst hq2; clear hq) | (go_at_call 75; refine (hcn _).mono ?_; rintro e w1 ⟨rfl, hq⟩; have hq2 := hq.symm; subst hq2; clear hq))
        go_ret
        rw [HC.out]
        exact ⟨rfl, hb⟩
      have h9d : decide (2147483647 < count) = false := decide_eq_false h9
      have HC : Hid (chkE ⟨4, stamp, count, key, [], false⟩ = 0) := hide_it (chk_yes (by
        (have hk0 : key.size = 0 := (by omega); unfold mayE fitI hk hs hc hd hv; simp [hk0]; try omega)))
      go_enter Tryz.func50, Tryz.ntmps50
      go_wp2_with (first | (go_at_call 72; refine (hky _).mono ?_; rintro e w1 ⟨rfl, hq⟩; have hq2 := hq.symm; subst hq2; clear hq) | (go_at_call 73; refine (hvl _).mono ?_; rintro e w1 ⟨rfl, hq⟩; have hq2 := hq.symm; subst hq2; clear hq) | (go_at_call 74; refine (hst _).mono ?_; rintro e w1 ⟨rfl, hq⟩; have hq2 := hq.symm; subst hq2; clear hq) | (go_at_call 75; refine (hcn _).mono ?_; rintro e w1 ⟨rfl, hq⟩; have hq2 := hq.symm; subst hq2; clear hq))
      go_ret
      rw [HC.out]
      exact ⟨rfl, hb⟩
    · skip
      have HC : Hid (chkE ⟨4, stamp, count, key, [], true⟩ = 100) := hide_it (chk_no fun h => by
        have m := may_parts h
        have q := m.dd rfl; simp only at q; cases q)
      go_enter Tryz.func50, Tryz.ntmps50
      go_wp2_with (first | (go_at_call 72; refine (hky _).mono ?_; rintro e w1 ⟨rfl, hq⟩; have hq2 := hq.symm; subst hq2; clear hq) | (go_at_call 73; refine (hvl _).mono ?_; rintro e w1 ⟨rfl, hq⟩; have hq2 := hq.symm; subst hq2; clear hq) | (go_at_call 74; refine (hst _).mono ?_; rintro e w1 ⟨rfl, hq⟩; have hq2 := hq.symm; subst hq2; clear hq) | (go_at_call 75; refine (hcn _).mono ?_; rintro e w1 ⟨rfl, hq⟩; have hq2 := hq.symm; subst hq2; clear hq))
      go_ret
      rw [HC.out]
      exact ⟨rfl, hb⟩

set_option maxRecDepth 100000 in
set_option maxHeartbeats 2000000 in
theorem rcheck_5 (stamp count : Int) (key : ByteArray) (val : List Nat) (dead : Bool) (a : Option Addr) (cp : Nat) (w : World) :
    Calls Tryz.prog 50 #[valE ⟨5, stamp, count, key, val, dead⟩ a cp] w fun e w' => e = .returned (.int .i64 ((chkE ⟨5, stamp, count, key, val, dead⟩ : Nat) : Int)) ∧ Below w.heap.size w w' := by
  have hky : ∀ w, Calls Tryz.prog 72 #[.int .i64 5] w fun e w' => e = .returned (.bool true) ∧ w' = w := fun w => rkeyed_any 5 w
  have hvl : ∀ w, Calls Tryz.prog 73 #[.int .i64 5] w fun e w' => e = .returned (.bool true) ∧ w' = w := fun w => rvalued_any 5 w
  have hst : ∀ w, Calls Tryz.prog 74 #[.int .i64 5] w fun e w' => e = .returned (.bool true) ∧ w' = w := fun w => rstamped_any 5 w
  have hcn : ∀ w, Calls Tryz.prog 75 #[.int .i64 5] w fun e w' => e = .returned (.bool false) ∧ w' = w := fun w => rcounted_any 5 w
  have hb := boxE_below w ⟨5, stamp, count, key, val, dead⟩ a cp
  obtain ⟨n, hn⟩ : ∃ n : Int, (key.size : Int) = n := ⟨_, rfl⟩
  obtain ⟨l, hl⟩ : ∃ l : Int, (val.length : Int) = l := ⟨_, rfl⟩
  have hn0 : 0 ≤ n := by omega
  by_cases h1 : n < 1
  · have h1d : decide (n < 1) = true := decide_eq_true h1
    have HC : Hid (chkE ⟨5, stamp, count, key, val, dead⟩ = 100) := hide_it (chk_no fun h => by
      have m := may_parts h
      have q := m.key1 rfl; simp only at q; omega)
    go_enter Tryz.func50, Tryz.ntmps50
    go_wp2_with (first | (go_at_call 72; refine (hky _).mono ?_; rintro e w1 ⟨rfl, hq⟩; have hq2 := hq.symm; subst hq2; clear hq) | (go_at_call 73; refine (hvl _).mono ?_; rintro e w1 ⟨rfl, hq⟩; have hq2 := hq.symm; subst hq2; clear hq) | (go_at_call 74; refine (hst _).mono ?_; rintro e w1 ⟨rfl, hq⟩; have hq2 := hq.symm; subst hq2; clear hq) | (go_at_call 75; refine (hcn _).mono ?_; rintro e w1 ⟨rfl, hq⟩; have hq2 := hq.symm; subst hq2; clear hq))
    go_ret
    rw [HC.out]
    exact ⟨rfl, hb⟩
  have h1d : decide (n < 1) = false := decide_eq_false h1
  by_cases h2 : 255 < n
  · have h2d : decide (255 < n) = true := decide_eq_true h2
    have HC : Hid (chkE ⟨5, stamp, count, key, val, dead⟩ = 100) := hide_it (chk_no fun h => by
      have m := may_parts h
      have q := m.key1 rfl; simp only at q; omega)
    go_enter Tryz.func50, Tryz.ntmps50
    go_wp2_with (first | (go_at_call 72; refine (hky _).mono ?_; rintro e w1 ⟨rfl, hq⟩; have hq2 := hq.symm; subst hq2; clear hq) | (go_at_call 73; refine (hvl _).mono ?_; rintro e w1 ⟨rfl, hq⟩; have hq2 := hq.symm; subst hq2; clear hq) | (go_at_call 74; refine (hst _).mono ?_; rintro e w1 ⟨rfl, hq⟩; have hq2 := hq.symm; subst hq2; clear hq) | (go_at_call 75; refine (hcn _).mono ?_; rintro e w1 ⟨rfl, hq⟩; have hq2 := hq.symm; subst hq2; clear hq))
    go_ret
    rw [HC.out]
    exact ⟨rfl, hb⟩
  have h2d : decide (255 < n) = false := decide_eq_false h2
  by_cases h3 : 4096 < l
  · have h3d : decide (4096 < l) = true := decide_eq_true h3
    have HC : Hid (chkE ⟨5, stamp, count, key, val, dead⟩ = 100) := hide_it (chk_no fun h => by
      have m := may_parts h
      have q := m.val; simp only at q; omega)
    go_enter Tryz.func50, Tryz.ntmps50
    go_wp2_with (first | (go_at_call 72; refine (hky _).mono ?_; rintro e w1 ⟨rfl, hq⟩; have hq2 := hq.symm; subst hq2; clear hq) | (go_at_call 73; refine (hvl _).mono ?_; rintro e w1 ⟨rfl, hq⟩; have hq2 := hq.symm; subst hq2; clear hq) | (go_at_call 74; refine (hst _).mono ?_; rintro e w1 ⟨rfl, hq⟩; have hq2 := hq.symm; subst hq2; clear hq) | (go_at_call 75; refine (hcn _).mono ?_; rintro e w1 ⟨rfl, hq⟩; have hq2 := hq.symm; subst hq2; clear hq))
    go_ret
    rw [HC.out]
    exact ⟨rfl, hb⟩
  have h3d : decide (4096 < l) = false := decide_eq_false h3
  by_cases h4 : 0 < l
  · have h4d : decide (0 < l) = true := decide_eq_true h4
    cases dead
    · skip
      by_cases h5 : stamp < 0
      · have h5d : decide (stamp < 0) = true := decide_eq_true h5
        have HC : Hid (chkE ⟨5, stamp, count, key, val, false⟩ = 100) := hide_it (chk_no fun h => by
          have m := may_parts h
          have q := m.st1 rfl; simp only at q; omega)
        go_enter Tryz.func50, Tryz.ntmps50
        go_wp2_with (first | (go_at_call 72; refine (hky _).mono ?_; rintro e w1 ⟨rfl, hq⟩; have hq2 := hq.symm; subst hq2; clear hq) | (go_at_call 73; refine (hvl _).mono ?_; rintro e w1 ⟨rfl, hq⟩; have hq2 := hq.symm; subst hq2; clear hq) | (go_at_call 74; refine (hst _).mono ?_; rintro e w1 ⟨rfl, hq⟩; have hq2 := hq.symm; subst hq2; clear hq) | (go_at_call 75; refine (hcn _).mono ?_; rintro e w1 ⟨rfl, hq⟩; have hq2 := hq.symm; subst hq2; clear hq))
        go_ret
        rw [HC.out]
        exact ⟨rfl, hb⟩
      have h5d : decide (stamp < 0) = false := decide_eq_false h5
      by_cases h6 : 4611686018427387904 < stamp
      · have h6d : decide (4611686018427387904 < stamp) = true := decide_eq_true h6
        have HC : Hid (chkE ⟨5, stamp, count, key, val, false⟩ = 100) := hide_it (chk_no fun h => by
          have m := may_parts h
          have q := m.st1 rfl; simp only at q; omega)
        go_enter Tryz.func50, Tryz.ntmps50
        go_wp2_with (first | (go_at_call 72; refine (hky _).mono ?_; rintro e w1 ⟨rfl, hq⟩; have hq2 := hq.symm; subst hq2; clear hq) | (go_at_call 73; refine (hvl _).mono ?_; rintro e w1 ⟨rfl, hq⟩; have hq2 := hq.symm; subst hq2; clear hq) | (go_at_call 74; refine (hst _).mono ?_; rintro e w1 ⟨rfl, hq⟩; have hq2 := hq.symm; subst hq2; clear hq) | (go_at_call 75; refine (hcn _).mono ?_; rintro e w1 ⟨rfl, hq⟩; have hq2 := hq.symm; subst hq2; clear hq))
        go_ret
        rw [HC.out]
        exact ⟨rfl, hb⟩
      have h6d : decide (4611686018427387904 < stamp) = false := decide_eq_false h6
      by_cases h8 : count < 0
      · have h8d : decide (count < 0) = true := decide_eq_true h8
        have HC : Hid (chkE ⟨5, stamp, count, key, val, false⟩ = 100) := hide_it (chk_no fun h => by
          have m := may_parts h
          have q := m.ct0 rfl; simp only at q; omega)
        go_enter Tryz.func50, Tryz.ntmps50
        go_wp2_with (first | (go_at_call 72; refine (hky _).mono ?_; rintro e w1 ⟨rfl, hq⟩; have hq2 := hq.symm; subst hq2; clear hq) | (go_at_call 73; refine (hvl _).mono ?_; rintro e w1 ⟨rfl, hq⟩; have hq2 := hq.symm; subst hq2; clear hq) | (go_at_call 74; refine (hst _).mono ?_; rintro e w1 ⟨rfl, hq⟩; have hq2 := hq.symm; subst hq2; clear hq) | (go_at_call 75; refine (hcn _).mono ?_; rintro e w1 ⟨rfl, hq⟩; have hq2 := hq.symm; subst hq2; clear hq))
        go_ret
        rw [HC.out]
        exact ⟨rfl, hb⟩
      have h8d : decide (count < 0) = false := decide_eq_false h8
      by_cases h9 : 2147483647 < count
      · have h9d : decide (2147483647 < count) = true := decide_eq_true h9
        have HC : Hid (chkE ⟨5, stamp, count, key, val, false⟩ = 100) := hide_it (chk_no fun h => by
          have m := may_parts h
          have q := m.ct0 rfl; simp only at q; omega)
        go_enter Tryz.func50, Tryz.ntmps50
        go_wp2_with (first | (go_at_call 72; refine (hky _).mono ?_; rintro e w1 ⟨rfl, hq⟩; have hq2 := hq.symm; subst hq2; clear hq) | (go_at_call 73; refine (hvl _).mono ?_; rintro e w1 ⟨rfl, hq⟩; have hq2 := hq.symm; subst hq2; clear hq) | (go_at_call 74; refine (hst _).mono ?_; rintro e w1 ⟨rfl, hq⟩; have hq2 := hq.symm; subst hq2; clear hq) | (go_at_call 75; refine (hcn _).mono ?_; rintro e w1 ⟨rfl, hq⟩; have hq2 := hq.symm; subst hq2; clear hq))
        go_ret
        rw [HC.out]
        exact ⟨rfl, hb⟩
      have h9d : decide (2147483647 < count) = false := decide_eq_false h9
      by_cases h10 : count = 0
      rotate_left 1
      · have h10d : (count != 0) = true := by rw [bne_iff_ne]; exact h10
        have HC : Hid (chkE ⟨5, stamp, count, key, val, false⟩ = 100) := hide_it (chk_no fun h => by
          have m := may_parts h
          have q := m.ct0 rfl; simp only at q; omega)
        go_enter Tryz.func50, Tryz.ntmps50
        go_wp2_with (first | (go_at_call 72; refine (hky _).mono ?_; rintro e w1 ⟨rfl, hq⟩; have hq2 := hq.symm; subst hq2; clear hq) | (go_at_call 73; refine (hvl _).mono ?_; rintro e w1 ⟨rfl, hq⟩; have hq2 := hq.symm; subst hq2; clear hq) | (go_at_call 74; refine (hst _).mono ?_; rintro e w1 ⟨rfl, hq⟩; have hq2 := hq.symm; subst hq2; clear hq) | (go_at_call 75; refine (hcn _).mono ?_; rintro e w1 ⟨rfl, hq⟩; have hq2 := hq.symm; subst hq2; clear hq))
        go_ret
        rw [HC.out]
        exact ⟨rfl, hb⟩
      subst h10
      have HC : Hid (chkE ⟨5, stamp, 0, key, val, false⟩ = 0) := hide_it (chk_yes (by
        (unfold mayE fitI hk hs hc hd hv; simp; try omega)))
      go_enter Tryz.func50, Tryz.ntmps50
      go_wp2_with (first | (go_at_call 72; refine (hky _).mono ?_; rintro e w1 ⟨rfl, hq⟩; have hq2 := hq.symm; subst hq2; clear hq) | (go_at_call 73; refine (hvl _).mono ?_; rintro e w1 ⟨rfl, hq⟩; have hq2 := hq.symm; subst hq2; clear hq) | (go_at_call 74; refine (hst _).mono ?_; rintro e w1 ⟨rfl, hq⟩; have hq2 := hq.symm; subst hq2; clear hq) | (go_at_call 75; refine (hcn _).mono ?_; rintro e w1 ⟨rfl, hq⟩; have hq2 := hq.symm; subst hq2; clear hq))
      go_ret
      rw [HC.out]
      exact ⟨rfl, hb⟩
    · skip
      have HC : Hid (chkE ⟨5, stamp, count, key, val, true⟩ = 100) := hide_it (chk_no fun h => by
        have m := may_parts h
        have q := m.valD rfl; simp only at q; rw [q] at hl; simp at hl; omega)
      go_enter Tryz.func50, Tryz.ntmps50
      go_wp2_with (first | (go_at_call 72; refine (hky _).mono ?_; rintro e w1 ⟨rfl, hq⟩; have hq2 := hq.symm; subst hq2; clear hq) | (go_at_call 73; refine (hvl _).mono ?_; rintro e w1 ⟨rfl, hq⟩; have hq2 := hq.symm; subst hq2; clear hq) | (go_at_call 74; refine (hst _).mono ?_; rintro e w1 ⟨rfl, hq⟩; have hq2 := hq.symm; subst hq2; clear hq) | (go_at_call 75; refine (hcn _).mono ?_; rintro e w1 ⟨rfl, hq⟩; have hq2 := hq.symm; subst hq2; clear hq))
      go_ret
      rw [HC.out]
      exact ⟨rfl, hb⟩
  · have hv0 : val = [] := List.eq_nil_of_length_eq_zero (by omega)
    subst hv0
    clear hl h3 h3d h4
    cases dead
    · skip
      by_cases h5 : stamp < 0
      · have h5d : decide (stamp < 0) = true := decide_eq_true h5
        have HC : Hid (chkE ⟨5, stamp, count, key, [], false⟩ = 100) := hide_it (chk_no fun h => by
          have m := may_parts h
          have q := m.st1 rfl; simp only at q; omega)
        go_enter Tryz.func50, Tryz.ntmps50
        go_wp2_with (first | (go_at_call 72; refine (hky _).mono ?_; rintro e w1 ⟨rfl, hq⟩; have hq2 := hq.symm; subst hq2; clear hq) | (go_at_call 73; refine (hvl _).mono ?_; rintro e w1 ⟨rfl, hq⟩; have hq2 := hq.symm; subst hq2; clear hq) | (go_at_call 74; refine (hst _).mono ?_; rintro e w1 ⟨rfl, hq⟩; have hq2 := hq.symm; subst hq2; clear hq) | (go_at_call 75; refine (hcn _).mono ?_; rintro e w1 ⟨rfl, hq⟩; have hq2 := hq.symm; subst hq2; clear hq))
        go_ret
        rw [HC.out]
        exact ⟨rfl, hb⟩
      have h5d : decide (stamp < 0) = false := decide_eq_false h5
      by_cases h6 : 4611686018427387904 < stamp
      · have h6d : decide (4611686018427387904 < stamp) = true := decide_eq_true h6
        have HC : Hid (chkE ⟨5, stamp, count, key, [], false⟩ = 100) := hide_it (chk_no fun h => by
          have m := may_parts h
          have q := m.st1 rfl; simp only at q; omega)
        go_enter Tryz.func50, Tryz.ntmps50
        go_wp2_with (first | (go_at_call 72; refine (hky _).mono ?_; rintro e w1 ⟨rfl, hq⟩; have hq2 := hq.symm; subst hq2; clear hq) | (go_at_call 73; refine (hvl _).mono ?_; rintro e w1 ⟨rfl, hq⟩; have hq2 := hq.symm; subst hq2; clear hq) | (go_at_call 74; refine (hst _).mono ?_; rintro e w1 ⟨rfl, hq⟩; have hq2 := hq.symm; subst hq2; clear hq) | (go_at_call 75; refine (hcn _).mono ?_; rintro e w1 ⟨rfl, hq⟩; have hq2 := hq.symm; subst hq2; clear hq))
        go_ret
        rw [HC.out]
        exact ⟨rfl, hb⟩
      have h6d : decide (4611686018427387904 < stamp) = false := decide_eq_false h6
      by_cases h8 : count < 0
      · have h8d : decide (count < 0) = true := decide_eq_true h8
        have HC : Hid (chkE ⟨5, stamp, count, key, [], false⟩ = 100) := hide_it (chk_no fun h => by
          have m := may_parts h
          have q := m.ct0 rfl; simp only at q; omega)
        go_enter Tryz.func50, Tryz.ntmps50
        go_wp2_with (first | (go_at_call 72; refine (hky _).mono ?_; rintro e w1 ⟨rfl, hq⟩; have hq2 := hq.symm; subst hq2; clear hq) | (go_at_call 73; refine (hvl _).mono ?_; rintro e w1 ⟨rfl, hq⟩; have hq2 := hq.symm; subst hq2; clear hq) | (go_at_call 74; refine (hst _).mono ?_; rintro e w1 ⟨rfl, hq⟩; have hq2 := hq.symm; subst hq2; clear hq) | (go_at_call 75; refine (hcn _).mono ?_; rintro e w1 ⟨rfl, hq⟩; have hq2 := hq.symm; subst hq2; clear hq))
        go_ret
        rw [HC.out]
        exact ⟨rfl, hb⟩
      have h8d : decide (count < 0) = false := decide_eq_false h8
      by_cases h9 : 2147483647 < count
      · have h9d : decide (2147483647 < count) = true := decide_eq_true h9
        have HC : Hid (chkE ⟨5, stamp, count, key, [], false⟩ = 100) := hide_it (chk_no fun h => by
          have m := may_parts h
          have q := m.ct0 rfl; simp only at q; omega)
        go_enter Tryz.func50, Tryz.ntmps50
        go_wp2_with (first | (go_at_call 72; refine (hky _).mono ?_; rintro e w1 ⟨rfl, hq⟩; have hq2 := hq.symm; subst hq2; clear hq) | (go_at_call 73; refine (hvl _).mono ?_; rintro e w1 ⟨rfl, hq⟩; have hq2 := hq.symm; subst hq2; clear hq) | (go_at_call 74; refine (hst _).mono ?_; rintro e w1 ⟨rfl, hq⟩; have hq2 := hq.symm; subst hq2; clear hq) | (go_at_call 75; refine (hcn _).mono ?_; rintro e w1 ⟨rfl, hq⟩; have hq2 := hq.symm; subst hq2; clear hq))
        go_ret
        rw [HC.out]
        exact ⟨rfl, hb⟩
      have h9d : decide (2147483647 < count) = false := decide_eq_false h9
      by_cases h10 : count = 0
      rotate_left 1
      · have h10d : (count != 0) = true := by rw [bne_iff_ne]; exact h10
        have HC : Hid (chkE ⟨5, stamp, count, key, [], false⟩ = 100) := hide_it (chk_no fun h => by
          have m := may_parts h
          have q := m.ct0 rfl; simp only at q; omega)
        go_enter Tryz.func50, Tryz.ntmps50
        go_wp2_with (first | (go_at_call 72; refine (hky _).mono ?_; rintro e w1 ⟨rfl, hq⟩; have hq2 := hq.symm; subst hq2; clear hq) | (go_at_call 73; refine (hvl _).mono ?_; rintro e w1 ⟨rfl, hq⟩; have hq2 := hq.symm; subst hq2; clear hq) | (go_at_call 74; refine (hst _).mono ?_; rintro e w1 ⟨rfl, hq⟩; have hq2 := hq.symm; subst hq2; clear hq) | (go_at_call 75; refine (hcn _).mono ?_; rintro e w1 ⟨rfl, hq⟩; have hq2 := hq.symm; subst hq2; clear hq))
        go_ret
        rw [HC.out]
        exact ⟨rfl, hb⟩
      subst h10
      have HC : Hid (chkE ⟨5, stamp, 0, key, [], false⟩ = 0) := hide_it (chk_yes (by
        (unfold mayE fitI hk hs hc hd hv; simp; try omega)))
      go_enter Tryz.func50, Tryz.ntmps50
      go_wp2_with (first | (go_at_call 72; refine (hky _).mono ?_; rintro e w1 ⟨rfl, hq⟩; have hq2 := hq.symm; subst hq2; clear hq) | (go_at_call 73; refine (hvl _).mono ?_; rintro e w1 ⟨rfl, hq⟩; have hq2 := hq.symm; subst hq2; clear hq) | (go_at_call 74; refine (hst _).mono ?_; rintro e w1 ⟨rfl, hq⟩; have hq2 := hq.symm; subst hq2; clear hq) | (go_at_call 75; refine (hcn _).mono ?_; rintro e w1 ⟨rfl, hq⟩; have hq2 := hq.symm; subst hq2; clear hq))
      go_ret
      rw [HC.out]
      exact ⟨rfl, hb⟩
    · skip
      by_cases h5 : stamp < 0
      · have h5d : decide (stamp < 0) = true := decide_eq_true h5
        have HC : Hid (chkE ⟨5, stamp, count, key, [], true⟩ = 100) := hide_it (chk_no fun h => by
          have m := may_parts h
          have q := m.st1 rfl; simp only at q; omega)
        go_enter Tryz.func50, Tryz.ntmps50
        go_wp2_with (first | (go_at_call 72; refine (hky _).mono ?_; rintro e w1 ⟨rfl, hq⟩; have hq2 := hq.symm; subst hq2; clear hq) | (go_at_call 73; refine (hvl _).mono ?_; rintro e w1 ⟨rfl, hq⟩; have hq2 := hq.symm; subst hq2; clear hq) | (go_at_call 74; refine (hst _).mono ?_; rintro e w1 ⟨rfl, hq⟩; have hq2 := hq.symm; subst hq2; clear hq) | (go_at_call 75; refine (hcn _).mono ?_; rintro e w1 ⟨rfl, hq⟩; have hq2 := hq.symm; subst hq2; clear hq))
        go_ret
        rw [HC.out]
        exact ⟨rfl, hb⟩
      have h5d : decide (stamp < 0) = false := decide_eq_false h5
      by_cases h6 : 4611686018427387904 < stamp
      · have h6d : decide (4611686018427387904 < stamp) = true := decide_eq_true h6
        have HC : Hid (chkE ⟨5, stamp, count, key, [], true⟩ = 100) := hide_it (chk_no fun h => by
          have m := may_parts h
          have q := m.st1 rfl; simp only at q; omega)
        go_enter Tryz.func50, Tryz.ntmps50
        go_wp2_with (first | (go_at_call 72; refine (hky _).mono ?_; rintro e w1 ⟨rfl, hq⟩; have hq2 := hq.symm; subst hq2; clear hq) | (go_at_call 73; refine (hvl _).mono ?_; rintro e w1 ⟨rfl, hq⟩; have hq2 := hq.symm; subst hq2; clear hq) | (go_at_call 74; refine (hst _).mono ?_; rintro e w1 ⟨rfl, hq⟩; have hq2 := hq.symm; subst hq2; clear hq) | (go_at_call 75; refine (hcn _).mono ?_; rintro e w1 ⟨rfl, hq⟩; have hq2 := hq.symm; subst hq2; clear hq))
        go_ret
        rw [HC.out]
        exact ⟨rfl, hb⟩
      have h6d : decide (4611686018427387904 < stamp) = false := decide_eq_false h6
      by_cases h8 : count < 0
      · have h8d : decide (count < 0) = true := decide_eq_true h8
        have HC : Hid (chkE ⟨5, stamp, count, key, [], true⟩ = 100) := hide_it (chk_no fun h => by
          have m := may_parts h
          have q := m.ct0 rfl; simp only at q; omega)
        go_enter Tryz.func50, Tryz.ntmps50
        go_wp2_with (first | (go_at_call 72; refine (hky _).mono ?_; rintro e w1 ⟨rfl, hq⟩; have hq2 := hq.symm; subst hq2; clear hq) | (go_at_call 73; refine (hvl _).mono ?_; rintro e w1 ⟨rfl, hq⟩; have hq2 := hq.symm; subst hq2; clear hq) | (go_at_call 74; refine (hst _).mono ?_; rintro e w1 ⟨rfl, hq⟩; have hq2 := hq.symm; subst hq2; clear hq) | (go_at_call 75; refine (hcn _).mono ?_; rintro e w1 ⟨rfl, hq⟩; have hq2 := hq.symm; subst hq2; clear hq))
        go_ret
        rw [HC.out]
        exact ⟨rfl, hb⟩
      have h8d : decide (count < 0) = false := decide_eq_false h8
      by_cases h9 : 2147483647 < count
      · have h9d : decide (2147483647 < count) = true := decide_eq_true h9
        have HC : Hid (chkE ⟨5, stamp, count, key, [], true⟩ = 100) := hide_it (chk_no fun h => by
          have m := may_parts h
          have q := m.ct0 rfl; simp only at q; omega)
        go_enter Tryz.func50, Tryz.ntmps50
        go_wp2_with (first | (go_at_call 72; refine (hky _).mono ?_; rintro e w1 ⟨rfl, hq⟩; have hq2 := hq.symm; subst hq2; clear hq) | (go_at_call 73; refine (hvl _).mono ?_; rintro e w1 ⟨rfl, hq⟩; have hq2 := hq.symm; subst hq2; clear hq) | (go_at_call 74; refine (hst _).mono ?_; rintro e w1 ⟨rfl, hq⟩; have hq2 := hq.symm; subst hq2; clear hq) | (go_at_call 75; refine (hcn _).mono ?_; rintro e w1 ⟨rfl, hq⟩; have hq2 := hq.symm; subst hq2; clear hq))
        go_ret
        rw [HC.out]
        exact ⟨rfl, hb⟩
      have h9d : decide (2147483647 < count) = false := decide_eq_false h9
      by_cases h10 : count = 0
      rotate_left 1
      · have h10d : (count != 0) = true := by rw [bne_iff_ne]; exact h10
        have HC : Hid (chkE ⟨5, stamp, count, key, [], true⟩ = 100) := hide_it (chk_no fun h => by
          have m := may_parts h
          have q := m.ct0 rfl; simp only at q; omega)
        go_enter Tryz.func50, Tryz.ntmps50
        go_wp2_with (first | (go_at_call 72; refine (hky _).mono ?_; rintro e w1 ⟨rfl, hq⟩; have hq2 := hq.symm; subst hq2; clear hq) | (go_at_call 73; refine (hvl _).mono ?_; rintro e w1 ⟨rfl, hq⟩; have hq2 := hq.symm; subst hq2; clear hq) | (go_at_call 74; refine (hst _).mono ?_; rintro e w1 ⟨rfl, hq⟩; have hq2 := hq.symm; subst hq2; clear hq) | (go_at_call 75; refine (hcn _).mono ?_; rintro e w1 ⟨rfl, hq⟩; have hq2 := hq.symm; subst hq2; clear hq))
        go_ret
        rw [HC.out]
        exact ⟨rfl, hb⟩
      subst h10
      have HC : Hid (chkE ⟨5, stamp, 0, key, [], true⟩ = 0) := hide_it (chk_yes (by
        (unfold mayE fitI hk hs hc hd hv; simp; try omega)))
      go_enter Tryz.func50, Tryz.ntmps50
      go_wp2_with (first | (go_at_call 72; refine (hky _).mono ?_; rintro e w1 ⟨rfl, hq⟩; have hq2 := hq.symm; subst hq2; clear hq) | (go_at_call 73; refine (hvl _).mono ?_; rintro e w1 ⟨rfl, hq⟩; have hq2 := hq.symm; subst hq2; clear hq) | (go_at_call 74; refine (hst _).mono ?_; rintro e w1 ⟨rfl, hq⟩; have hq2 := hq.symm; subst hq2; clear hq) | (go_at_call 75; refine (hcn _).mono ?_; rintro e w1 ⟨rfl, hq⟩; have hq2 := hq.symm; subst hq2; clear hq))
      go_ret
      rw [HC.out]
      exact ⟨rfl, hb⟩

set_option maxRecDepth 100000 in
set_option maxHeartbeats 2000000 in
theorem rcheck_6 (stamp count : Int) (key : ByteArray) (val : List Nat) (dead : Bool) (a : Option Addr) (cp : Nat) (w : World) :
    Calls Tryz.prog 50 #[valE ⟨6, stamp, count, key, val, dead⟩ a cp] w fun e w' => e = .returned (.int .i64 ((chkE ⟨6, stamp, count, key, val, dead⟩ : Nat) : Int)) ∧ Below w.heap.size w w' := by
  have hky : ∀ w, Calls Tryz.prog 72 #[.int .i64 6] w fun e w' => e = .returned (.bool false) ∧ w' = w := fun w => rkeyed_any 6 w
  have hvl : ∀ w, Calls Tryz.prog 73 #[.int .i64 6] w fun e w' => e = .returned (.bool false) ∧ w' = w := fun w => rvalued_any 6 w
  have hst : ∀ w, Calls Tryz.prog 74 #[.int .i64 6] w fun e w' => e = .returned (.bool true) ∧ w' = w := fun w => rstamped_any 6 w
  have hcn : ∀ w, Calls Tryz.prog 75 #[.int .i64 6] w fun e w' => e = .returned (.bool true) ∧ w' = w := fun w => rcounted_any 6 w
  have hb := boxE_below w ⟨6, stamp, count, key, val, dead⟩ a cp
  obtain ⟨n, hn⟩ : ∃ n : Int, (key.size : Int) = n := ⟨_, rfl⟩
  obtain ⟨l, hl⟩ : ∃ l : Int, (val.length : Int) = l := ⟨_, rfl⟩
  have hn0 : 0 ≤ n := by omega
  by_cases h1 : 0 < n
  · have h1d : decide (0 < n) = true := decide_eq_true h1
    have HC : Hid (chkE ⟨6, stamp, count, key, val, dead⟩ = 100) := hide_it (chk_no fun h => by
      have m := may_parts h
      have q := m.key0 rfl; simp only at q; omega)
    go_enter Tryz.func50, Tryz.ntmps50
    go_wp2_with (first | (go_at_call 72; refine (hky _).mono ?_; rintro e w1 ⟨rfl, hq⟩; have hq2 := hq.symm; subst hq2; clear hq) | (go_at_call 73; refine (hvl _).mono ?_; rintro e w1 ⟨rfl, hq⟩; have hq2 := hq.symm; subst hq2; clear hq) | (go_at_call 74; refine (hst _).mono ?_; rintro e w1 ⟨rfl, hq⟩; have hq2 := hq.symm; subst hq2; clear hq) | (go_at_call 75; refine (hcn _).mono ?_; rintro e w1 ⟨rfl, hq⟩; have hq2 := hq.symm; subst hq2; clear hq))
    go_ret
    rw [HC.out]
    exact ⟨rfl, hb⟩
  have h1d : decide (0 < n) = false := decide_eq_false h1
  by_cases h3 : 4096 < l
  · have h3d : decide (4096 < l) = true := decide_eq_true h3
    have HC : Hid (chkE ⟨6, stamp, count, key, val, dead⟩ = 100) := hide_it (chk_no fun h => by
      have m := may_parts h
      have q := m.val; simp only at q; omega)
    go_enter Tryz.func50, Tryz.ntmps50
    go_wp2_with (first | (go_at_call 72; refine (hky _).mono ?_; rintro e w1 ⟨rfl, hq⟩; have hq2 := hq.symm; subst hq2; clear hq) | (go_at_call 73; refine (hvl _).mono ?_; rintro e w1 ⟨rfl, hq⟩; have hq2 := hq.symm; subst hq2; clear hq) | (go_at_call 74; refine (hst _).mono ?_; rintro e w1 ⟨rfl, hq⟩; have hq2 := hq.symm; subst hq2; clear hq) | (go_at_call 75; refine (hcn _).mono ?_; rintro e w1 ⟨rfl, hq⟩; have hq2 := hq.symm; subst hq2; clear hq))
    go_ret
    rw [HC.out]
    exact ⟨rfl, hb⟩
  have h3d : decide (4096 < l) = false := decide_eq_false h3
  by_cases h4 : 0 < l
  · have h4d : decide (0 < l) = true := decide_eq_true h4
    have HC : Hid (chkE ⟨6, stamp, count, key, val, dead⟩ = 100) := hide_it (chk_no fun h => by
      have m := may_parts h
      have q := m.val0 rfl; simp only at q; rw [q] at hl; simp at hl; omega)
    go_enter Tryz.func50, Tryz.ntmps50
    go_wp2_with (first | (go_at_call 72; refine (hky _).mono ?_; rintro e w1 ⟨rfl, hq⟩; have hq2 := hq.symm; subst hq2; clear hq) | (go_at_call 73; refine (hvl _).mono ?_; rintro e w1 ⟨rfl, hq⟩; have hq2 := hq.symm; subst hq2; clear hq) | (go_at_call 74; refine (hst _).mono ?_; rintro e w1 ⟨rfl, hq⟩; have hq2 := hq.symm; subst hq2; clear hq) | (go_at_call 75; refine (hcn _).mono ?_; rintro e w1 ⟨rfl, hq⟩; have hq2 := hq.symm; subst hq2; clear hq))
    go_ret
    rw [HC.out]
    exact ⟨rfl, hb⟩
  · have hv0 : val = [] := List.eq_nil_of_length_eq_zero (by omega)
    subst hv0
    clear hl h3 h3d h4
    cases dead
    · skip
      by_cases h5 : stamp < 0
      · have h5d : decide (stamp < 0) = true := decide_eq_true h5
        have HC : Hid (chkE ⟨6, stamp, count, key, [], false⟩ = 100) := hide_it (chk_no fun h => by
          have m := may_parts h
          have q := m.st1 rfl; simp only at q; omega)
        go_enter Tryz.func50, Tryz.ntmps50
        go_wp2_with (first | (go_at_call 72; refine (hky _).mono ?_; rintro e w1 ⟨rfl, hq⟩; have hq2 := hq.symm; subst hq2; clear hq) | (go_at_call 73; refine (hvl _).mono ?_; rintro e w1 ⟨rfl, hq⟩; have hq2 := hq.symm; subst hq2; clear hq) | (go_at_call 74; refine (hst _).mono ?_; rintro e w1 ⟨rfl, hq⟩; have hq2 := hq.symm; subst hq2; clear hq) | (go_at_call 75; refine (hcn _).mono ?_; rintro e w1 ⟨rfl, hq⟩; have hq2 := hq.symm; subst hq2; clear hq))
        go_ret
        rw [HC.out]
        exact ⟨rfl, hb⟩
      have h5d : decide (stamp < 0) = false := decide_eq_false h5
      by_cases h6 : 4611686018427387904 < stamp
      · have h6d : decide (4611686018427387904 < stamp) = true := decide_eq_true h6
        have HC : Hid (chkE ⟨6, stamp, count, key, [], false⟩ = 100) := hide_it (chk_no fun h => by
          have m := may_parts h
          have q := m.st1 rfl; simp only at q; omega)
        go_enter Tryz.func50, Tryz.ntmps50
        go_wp2_with (first | (go_at_call 72; refine (hky _).mono ?_; rintro e w1 ⟨rfl, hq⟩; have hq2 := hq.symm; subst hq2; clear hq) | (go_at_call 73; refine (hvl _).mono ?_; rintro e w1 ⟨rfl, hq⟩; have hq2 := hq.symm; subst hq2; clear hq) | (go_at_call 74; refine (hst _).mono ?_; rintro e w1 ⟨rfl, hq⟩; have hq2 := hq.symm; subst hq2; clear hq) | (go_at_call 75; refine (hcn _).mono ?_; rintro e w1 ⟨rfl, hq⟩; have hq2 := hq.symm; subst hq2; clear hq))
        go_ret
        rw [HC.out]
        exact ⟨rfl, hb⟩
      have h6d : decide (4611686018427387904 < stamp) = false := decide_eq_false h6
      by_cases h8 : count < 0
      · have h8d : decide (count < 0) = true := decide_eq_true h8
        have HC : Hid (chkE ⟨6, stamp, count, key, [], false⟩ = 100) := hide_it (chk_no fun h => by
          have m := may_parts h
          have q := m.ct1 rfl; simp only at q; omega)
        go_enter Tryz.func50, Tryz.ntmps50
        go_wp2_with (first | (go_at_call 72; refine (hky _).mono ?_; rintro e w1 ⟨rfl, hq⟩; have hq2 := hq.symm; subst hq2; clear hq) | (go_at_call 73; refine (hvl _).mono ?_; rintro e w1 ⟨rfl, hq⟩; have hq2 := hq.symm; subst hq2; clear hq) | (go_at_call 74; refine (hst _).mono ?_; rintro e w1 ⟨rfl, hq⟩; have hq2 := hq.symm; subst hq2; clear hq) | (go_at_call 75; refine (hcn _).mono ?_; rintro e w1 ⟨rfl, hq⟩; have hq2 := hq.symm; subst hq2; clear hq))
        go_ret
        rw [HC.out]
        exact ⟨rfl, hb⟩
      have h8d : decide (count < 0) = false := decide_eq_false h8
      by_cases h9 : 2147483647 < count
      · have h9d : decide (2147483647 < count) = true := decide_eq_true h9
        have HC : Hid (chkE ⟨6, stamp, count, key, [], false⟩ = 100) := hide_it (chk_no fun h => by
          have m := may_parts h
          have q := m.ct1 rfl; simp only at q; omega)
        go_enter Tryz.func50, Tryz.ntmps50
        go_wp2_with (first | (go_at_call 72; refine (hky _).mono ?_; rintro e w1 ⟨rfl, hq⟩; have hq2 := hq.symm; subst hq2; clear hq) | (go_at_call 73; refine (hvl _).mono ?_; rintro e w1 ⟨rfl, hq⟩; have hq2 := hq.symm; subst hq2; clear hq) | (go_at_call 74; refine (hst _).mono ?_; rintro e w1 ⟨rfl, hq⟩; have hq2 := hq.symm; subst hq2; clear hq) | (go_at_call 75; refine (hcn _).mono ?_; rintro e w1 ⟨rfl, hq⟩; have hq2 := hq.symm; subst hq2; clear hq))
        go_ret
        rw [HC.out]
        exact ⟨rfl, hb⟩
      have h9d : decide (2147483647 < count) = false := decide_eq_false h9
      have HC : Hid (chkE ⟨6, stamp, count, key, [], false⟩ = 0) := hide_it (chk_yes (by
        (have hk0 : key.size = 0 := (by omega); unfold mayE fitI hk hs hc hd hv; simp [hk0]; try omega)))
      go_enter Tryz.func50, Tryz.ntmps50
      go_wp2_with (first | (go_at_call 72; refine (hky _).mono ?_; rintro e w1 ⟨rfl, hq⟩; have hq2 := hq.symm; subst hq2; clear hq) | (go_at_call 73; refine (hvl _).mono ?_; rintro e w1 ⟨rfl, hq⟩; have hq2 := hq.symm; subst hq2; clear hq) | (go_at_call 74; refine (hst _).mono ?_; rintro e w1 ⟨rfl, hq⟩; have hq2 := hq.symm; subst hq2; clear hq) | (go_at_call 75; refine (hcn _).mono ?_; rintro e w1 ⟨rfl, hq⟩; have hq2 := hq.symm; subst hq2; clear hq))
      go_ret
      rw [HC.out]
      exact ⟨rfl, hb⟩
    · skip
      have HC : Hid (chkE ⟨6, stamp, count, key, [], true⟩ = 100) := hide_it (chk_no fun h => by
        have m := may_parts h
        have q := m.dd rfl; simp only at q; cases q)
      go_enter Tryz.func50, Tryz.ntmps50
      go_wp2_with (first | (go_at_call 72; refine (hky _).mono ?_; rintro e w1 ⟨rfl, hq⟩; have hq2 := hq.symm; subst hq2; clear hq) | (go_at_call 73; refine (hvl _).mono ?_; rintro e w1 ⟨rfl, hq⟩; have hq2 := hq.symm; subst hq2; clear hq) | (go_at_call 74; refine (hst _).mono ?_; rintro e w1 ⟨rfl, hq⟩; have hq2 := hq.symm; subst hq2; clear hq) | (go_at_call 75; refine (hcn _).mono ?_; rintro e w1 ⟨rfl, hq⟩; have hq2 := hq.symm; subst hq2; clear hq))
      go_ret
      rw [HC.out]
      exact ⟨rfl, hb⟩
end Go.Proofs.YtkacfpmninmjkaaGreat

/- That LabelLattice answers true of every three labels. -/
import Derived.Test.YtlogemklballiaaAwake2
namespace Go.Proofs.Ytlogemklballiaa.labelLattice
open Go.RowKit

theorem lq_refl (a : Nat) : lq a a = true := (lq_iff a a).2 (Nat.and_self a)
theorem lq_or_left (a b : Nat) : lq a (a ||| b) = true := (lq_bits _ _).2 (fun i h => by rw [Nat.testBit_or, h]; rfl)
theorem lq_or_right (a b : Nat) : lq b (a ||| b) = true := (lq_bits _ _).2 (fun i h => by rw [Nat.testBit_or, h]; simp)
theorem lq_and_left (a b : Nat) : lq (a &&& b) a = true := (lq_bits _ _).2 (fun i h => by rw [Nat.testBit_and] at h; simp at h; exact h.1)
theorem lq_and_right (a b : Nat) : lq (a &&& b) b = true := (lq_bits _ _).2 (fun i h => by rw [Nat.testBit_and] at h; simp at h; exact h.2)
theorem lq_or {a b c : Nat} (h1 : lq a c = true) (h2 : lq b c = true) : lq (a ||| b) c = true := (lq_bits _ _).2 (fun i h => by
  rw [Nat.testBit_or] at h
  simp at h
  rcases h with h | h
  · exact (lq_bits _ _).1 h1 i h
  · exact (lq_bits _ _).1 h2 i h)
theorem lq_and {a b c : Nat} (h1 : lq c a = true) (h2 : lq c b = true) : lq c (a &&& b) = true := (lq_bits _ _).2 (fun i h => by
  rw [Nat.testBit_and, (lq_bits _ _).1 h1 i h, (lq_bits _ _).1 h2 i h]; rfl)
theorem lq_trans {a b c : Nat} (h1 : lq a b = true) (h2 : lq b c = true) : lq a c = true := (lq_bits _ _).2 (fun i h => (lq_bits _ _).1 h2 i ((lq_bits _ _).1 h1 i h))
theorem lq_antisymm {a b : Nat} (h1 : lq a b = true) (h2 : lq b a = true) : a = b := by
  rw [lq_iff] at h1 h2
  rw [Nat.and_comm] at h2
  exact h1.symm.trans h2
theorem lq_eq_or (a b : Nat) : lq a b = (((a ||| b : Nat) : Int) == (b : Int)) := by
  rw [Bool.eq_iff_iff]
  constructor
  · intro h
    have e : (a ||| b) = b := lq_antisymm (lq_or h (lq_refl b)) (lq_or_right a b)
    rw [e]; simp
  · intro h
    have e : (a ||| b) = b := by have := eq_of_beq h; omega
    have := lq_or_left a b
    rw [e] at this; exact this
theorem lq_eq_and (a b : Nat) : lq a b = (((a &&& b : Nat) : Int) == (a : Int)) := by
  rw [Bool.eq_iff_iff]
  constructor
  · intro h; rw [(lq_iff a b).1 h]; simp
  · intro h; rw [lq_iff]; have := eq_of_beq h; omega

theorem leq_is {a b : Nat} {v : Bool} {w : World} (h : lq a b = v) (ha : W64 a) (hb : W64 b) :
    Calls Try.prog 10 #[.int .u64 (a : Int), .int .u64 (b : Int)] w fun e w' => e = .returned (.bool v) ∧ w' = w := by
  subst h
  exact leq_any a b w ha hb

set_option maxRecDepth 100000 in
set_option maxHeartbeats 1000000 in
theorem way0 (a : Nat) (ha : W64 a) (b : Nat) (hb : W64 b) (c : Nat) (hc : W64 c) (w : World) (h1 : lq a b = false) (h4 : lq a c = false) (h5 : lq c a = false)
    (d1 : (((a ||| b : Nat) : Int) == (b : Int)) = false) (d2 : (((a &&& b : Nat) : Int) == (a : Int)) = false) (hj : W64 (a ||| b)) (hm : W64 (a &&& b)) (k1 : lq a a = true) (k2 : lq a (a ||| b) = true) (k3 : lq b (a ||| b) = true) (k4 : lq (a &&& b) a = true) (k5 : lq (a &&& b) b = true) : Calls Try.prog 5 #[.int .u64 (a : Int), .int .u64 (b : Int), .int .u64 (c : Int)] w fun e w' => e = .returned (.bool true) ∧ Below w.heap.size w w' := by
  go_enter Try.func5, Try.ntmps5
  go_wp2_with fail
  refine (awake_any _).mono ?_
  rintro e w1 ⟨rfl, hb1⟩
  go_wp2_with fail
  refine (join_any _ _ _ ha hb).mono ?_
  rintro e w2 ⟨rfl, hq⟩
  have hq2 := hq.symm
  subst hq2
  go_wp2_with fail
  refine (meet_any _ _ _ ha hb).mono ?_
  rintro e w2 ⟨rfl, hq⟩
  have hq2 := hq.symm
  subst hq2
  clear hq
  go_wp2_with (go_at_call 10; refine (leq_is (by assumption) (by assumption) (by assumption)).mono ?_; rintro e w' ⟨rfl, rfl⟩)
  go_ret
  exact ⟨rfl, hb1⟩

set_option maxRecDepth 100000 in
set_option maxHeartbeats 1000000 in
theorem way1 (a : Nat) (ha : W64 a) (b : Nat) (hb : W64 b) (c : Nat) (hc : W64 c) (w : World) (h1 : lq a b = false) (h4 : lq a c = false) (h5 : lq c a = true) (h6 : lq c b = false)
    (d1 : (((a ||| b : Nat) : Int) == (b : Int)) = false) (d2 : (((a &&& b : Nat) : Int) == (a : Int)) = false) (hj : W64 (a ||| b)) (hm : W64 (a &&& b)) (k1 : lq a a = true) (k2 : lq a (a ||| b) = true) (k3 : lq b (a ||| b) = true) (k4 : lq (a &&& b) a = true) (k5 : lq (a &&& b) b = true) : Calls Try.prog 5 #[.int .u64 (a : Int), .int .u64 (b : Int), .int .u64 (c : Int)] w fun e w' => e = .returned (.bool true) ∧ Below w.heap.size w w' := by
  go_enter Try.func5, Try.ntmps5
  go_wp2_with fail
  refine (awake_any _).mono ?_
  rintro e w1 ⟨rfl, hb1⟩
  go_wp2_with fail
  refine (join_any _ _ _ ha hb).mono ?_
  rintro e w2 ⟨rfl, hq⟩
  have hq2 := hq.symm
  subst hq2
  go_wp2_with fail
  refine (meet_any _ _ _ ha hb).mono ?_
  rintro e w2 ⟨rfl, hq⟩
  have hq2 := hq.symm
  subst hq2
  clear hq
  go_wp2_with (go_at_call 10; refine (leq_is (by assumption) (by assumption) (by assumption)).mono ?_; rintro e w' ⟨rfl, rfl⟩)
  go_ret
  exact ⟨rfl, hb1⟩

set_option maxRecDepth 100000 in
set_option maxHeartbeats 1000000 in
theorem way2 (a : Nat) (ha : W64 a) (b : Nat) (hb : W64 b) (c : Nat) (hc : W64 c) (w : World) (h1 : lq a b = false) (h4 : lq a c = false) (h5 : lq c a = true) (h6 : lq c b = true) (h8 : lq c (a &&& b) = true)
    (d1 : (((a ||| b : Nat) : Int) == (b : Int)) = false) (d2 : (((a &&& b : Nat) : Int) == (a : Int)) = false) (hj : W64 (a ||| b)) (hm : W64 (a &&& b)) (k1 : lq a a = true) (k2 : lq a (a ||| b) = true) (k3 : lq b (a ||| b) = true) (k4 : lq (a &&& b) a = true) (k5 : lq (a &&& b) b = true) : Calls Try.prog 5 #[.int .u64 (a : Int), .int .u64 (b : Int), .int .u64 (c : Int)] w fun e w' => e = .returned (.bool true) ∧ Below w.heap.size w w' := by
  go_enter Try.func5, Try.ntmps5
  go_wp2_with fail
  refine (awake_any _).mono ?_
  rintro e w1 ⟨rfl, hb1⟩
  go_wp2_with fail
  refine (join_any _ _ _ ha hb).mono ?_
  rintro e w2 ⟨rfl, hq⟩
  have hq2 := hq.symm
  subst hq2
  go_wp2_with fail
  refine (meet_any _ _ _ ha hb).mono ?_
  rintro e w2 ⟨rfl, hq⟩
  have hq2 := hq.symm
  subst hq2
  clear hq
  go_wp2_with (go_at_call 10; refine (leq_is (by assumption) (by assumption) (by assumption)).mono ?_; rintro e w' ⟨rfl, rfl⟩)
  go_ret
  exact ⟨rfl, hb1⟩

set_option maxRecDepth 100000 in
set_option maxHeartbeats 1000000 in
theorem way3 (a : Nat) (ha : W64 a) (b : Nat) (hb : W64 b) (c : Nat) (hc : W64 c) (w : World) (h1 : lq a b = false) (h4 : lq a c = true) (h3 : lq b c = false) (h5 : lq c a = false)
    (d1 : (((a ||| b : Nat) : Int) == (b : Int)) = false) (d2 : (((a &&& b : Nat) : Int) == (a : Int)) = false) (hj : W64 (a ||| b)) (hm : W64 (a &&& b)) (k1 : lq a a = true) (k2 : lq a (a ||| b) = true) (k3 : lq b (a ||| b) = true) (k4 : lq (a &&& b) a = true) (k5 : lq (a &&& b) b = true) : Calls Try.prog 5 #[.int .u64 (a : Int), .int .u64 (b : Int), .int .u64 (c : Int)] w fun e w' => e = .returned (.bool true) ∧ Below w.heap.size w w' := by
  go_enter Try.func5, Try.ntmps5
  go_wp2_with fail
  refine (awake_any _).mono ?_
  rintro e w1 ⟨rfl, hb1⟩
  go_wp2_with fail
  refine (join_any _ _ _ ha hb).mono ?_
  rintro e w2 ⟨rfl, hq⟩
  have hq2 := hq.symm
  subst hq2
  go_wp2_with fail
  refine (meet_any _ _ _ ha hb).mono ?_
  rintro e w2 ⟨rfl, hq⟩
  have hq2 := hq.symm
  subst hq2
  clear hq
  go_wp2_with (go_at_call 10; refine (leq_is (by assumption) (by assumption) (by assumption)).mono ?_; rintro e w' ⟨rfl, rfl⟩)
  go_ret
  exact ⟨rfl, hb1⟩

set_option maxRecDepth 100000 in
set_option maxHeartbeats 1000000 in
theorem way4 (a : Nat) (ha : W64 a) (b : Nat) (hb : W64 b) (c : Nat) (hc : W64 c) (w : World) (h1 : lq a b = false) (h4 : lq a c = true) (h3 : lq b c = false) (h5 : lq c a = true) (h6 : lq c b = false)
    (d1 : (((a ||| b : Nat) : Int) == (b : Int)) = false) (d2 : (((a &&& b : Nat) : Int) == (a : Int)) = false) (hj : W64 (a ||| b)) (hm : W64 (a &&& b)) (k1 : lq a a = true) (k2 : lq a (a ||| b) = true) (k3 : lq b (a ||| b) = true) (k4 : lq (a &&& b) a = true) (k5 : lq (a &&& b) b = true) : Calls Try.prog 5 #[.int .u64 (a : Int), .int .u64 (b : Int), .int .u64 (c : Int)] w fun e w' => e = .returned (.bool true) ∧ Below w.heap.size w w' := by
  go_enter Try.func5, Try.ntmps5
  go_wp2_with fail
  refine (awake_any _).mono ?_
  rintro e w1 ⟨rfl, hb1⟩
  go_wp2_with fail
  refine (join_any _ _ _ ha hb).mono ?_
  rintro e w2 ⟨rfl, hq⟩
  have hq2 := hq.symm
  subst hq2
  go_wp2_with fail
  refine (meet_any _ _ _ ha hb).mono ?_
  rintro e w2 ⟨rfl, hq⟩
  have hq2 := hq.symm
  subst hq2
  clear hq
  go_wp2_with (go_at_call 10; refine (leq_is (by assumption) (by assumption) (by assumption)).mono ?_; rintro e w' ⟨rfl, rfl⟩)
  go_ret
  exact ⟨rfl, hb1⟩

set_option maxRecDepth 100000 in
set_option maxHeartbeats 1000000 in
theorem way5 (a : Nat) (ha : W64 a) (b : Nat) (hb : W64 b) (c : Nat) (hc : W64 c) (w : World) (h1 : lq a b = false) (h4 : lq a c = true) (h3 : lq b c = false) (h5 : lq c a = true) (h6 : lq c b = true) (h8 : lq c (a &&& b) = true)
    (d1 : (((a ||| b : Nat) : Int) == (b : Int)) = false) (d2 : (((a &&& b : Nat) : Int) == (a : Int)) = false) (hj : W64 (a ||| b)) (hm : W64 (a &&& b)) (k1 : lq a a = true) (k2 : lq a (a ||| b) = true) (k3 : lq b (a ||| b) = true) (k4 : lq (a &&& b) a = true) (k5 : lq (a &&& b) b = true) : Calls Try.prog 5 #[.int .u64 (a : Int), .int .u64 (b : Int), .int .u64 (c : Int)] w fun e w' => e = .returned (.bool true) ∧ Below w.heap.size w w' := by
  go_enter Try.func5, Try.ntmps5
  go_wp2_with fail
  refine (awake_any _).mono ?_
  rintro e w1 ⟨rfl, hb1⟩
  go_wp2_with fail
  refine (join_any _ _ _ ha hb).mono ?_
  rintro e w2 ⟨rfl, hq⟩
  have hq2 := hq.symm
  subst hq2
  go_wp2_with fail
  refine (meet_any _ _ _ ha hb).mono ?_
  rintro e w2 ⟨rfl, hq⟩
  have hq2 := hq.symm
  subst hq2
  clear hq
  go_wp2_with (go_at_call 10; refine (leq_is (by assumption) (by assumption) (by assumption)).mono ?_; rintro e w' ⟨rfl, rfl⟩)
  go_ret
  exact ⟨rfl, hb1⟩

set_option maxRecDepth 100000 in
set_option maxHeartbeats 1000000 in
theorem way6 (a : Nat) (ha : W64 a) (b : Nat) (hb : W64 b) (c : Nat) (hc : W64 c) (w : World) (h1 : lq a b = false) (h4 : lq a c = true) (h3 : lq b c = true) (h7 : lq (a ||| b) c = true) (h5 : lq c a = false)
    (d1 : (((a ||| b : Nat) : Int) == (b : Int)) = false) (d2 : (((a &&& b : Nat) : Int) == (a : Int)) = false) (hj : W64 (a ||| b)) (hm : W64 (a &&& b)) (k1 : lq a a = true) (k2 : lq a (a ||| b) = true) (k3 : lq b (a ||| b) = true) (k4 : lq (a &&& b) a = true) (k5 : lq (a &&& b) b = true) : Calls Try.prog 5 #[.int .u64 (a : Int), .int .u64 (b : Int), .int .u64 (c : Int)] w fun e w' => e = .returned (.bool true) ∧ Below w.heap.size w w' := by
  go_enter Try.func5, Try.ntmps5
  go_wp2_with fail
  refine (awake_any _).mono ?_
  rintro e w1 ⟨rfl, hb1⟩
  go_wp2_with fail
  refine (join_any _ _ _ ha hb).mono ?_
  rintro e w2 ⟨rfl, hq⟩
  have hq2 := hq.symm
  subst hq2
  go_wp2_with fail
  refine (meet_any _ _ _ ha hb).mono ?_
  rintro e w2 ⟨rfl, hq⟩
  have hq2 := hq.symm
  subst hq2
  clear hq
  go_wp2_with (go_at_call 10; refine (leq_is (by assumption) (by assumption) (by assumption)).mono ?_; rintro e w' ⟨rfl, rfl⟩)
  go_ret
  exact ⟨rfl, hb1⟩

set_option maxRecDepth 100000 in
set_option maxHeartbeats 1000000 in
theorem way7 (a : Nat) (ha : W64 a) (b : Nat) (hb : W64 b) (c : Nat) (hc : W64 c) (w : World) (h1 : lq a b = false) (h4 : lq a c = true) (h3 : lq b c = true) (h7 : lq (a ||| b) c = true) (h5 : lq c a = true) (h6 : lq c b = false)
    (d1 : (((a ||| b : Nat) : Int) == (b : Int)) = false) (d2 : (((a &&& b : Nat) : Int) == (a : Int)) = false) (hj : W64 (a ||| b)) (hm : W64 (a &&& b)) (k1 : lq a a = true) (k2 : lq a (a ||| b) = true) (k3 : lq b (a ||| b) = true) (k4 : lq (a &&& b) a = true) (k5 : lq (a &&& b) b = true) : Calls Try.prog 5 #[.int .u64 (a : Int), .int .u64 (b : Int), .int .u64 (c : Int)] w fun e w' => e = .returned (.bool true) ∧ Below w.heap.size w w' := by
  go_enter Try.func5, Try.ntmps5
  go_wp2_with fail
  refine (awake_any _).mono ?_
  rintro e w1 ⟨rfl, hb1⟩
  go_wp2_with fail
  refine (join_any _ _ _ ha hb).mono ?_
  rintro e w2 ⟨rfl, hq⟩
  have hq2 := hq.symm
  subst hq2
  go_wp2_with fail
  refine (meet_any _ _ _ ha hb).mono ?_
  rintro e w2 ⟨rfl, hq⟩
  have hq2 := hq.symm
  subst hq2
  clear hq
  go_wp2_with (go_at_call 10; refine (leq_is (by assumption) (by assumption) (by assumption)).mono ?_; rintro e w' ⟨rfl, rfl⟩)
  go_ret
  exact ⟨rfl, hb1⟩

set_option maxRecDepth 100000 in
set_option maxHeartbeats 1000000 in
theorem way8 (a : Nat) (ha : W64 a) (b : Nat) (hb : W64 b) (c : Nat) (hc : W64 c) (w : World) (h1 : lq a b = false) (h4 : lq a c = true) (h3 : lq b c = true) (h7 : lq (a ||| b) c = true) (h5 : lq c a = true) (h6 : lq c b = true) (h8 : lq c (a &&& b) = true)
    (d1 : (((a ||| b : Nat) : Int) == (b : Int)) = false) (d2 : (((a &&& b : Nat) : Int) == (a : Int)) = false) (hj : W64 (a ||| b)) (hm : W64 (a &&& b)) (k1 : lq a a = true) (k2 : lq a (a ||| b) = true) (k3 : lq b (a ||| b) = true) (k4 : lq (a &&& b) a = true) (k5 : lq (a &&& b) b = true) : Calls Try.prog 5 #[.int .u64 (a : Int), .int .u64 (b : Int), .int .u64 (c : Int)] w fun e w' => e = .returned (.bool true) ∧ Below w.heap.size w w' := by
  go_enter Try.func5, Try.ntmps5
  go_wp2_with fail
  refine (awake_any _).mono ?_
  rintro e w1 ⟨rfl, hb1⟩
  go_wp2_with fail
  refine (join_any _ _ _ ha hb).mono ?_
  rintro e w2 ⟨rfl, hq⟩
  have hq2 := hq.symm
  subst hq2
  go_wp2_with fail
  refine (meet_any _ _ _ ha hb).mono ?_
  rintro e w2 ⟨rfl, hq⟩
  have hq2 := hq.symm
  subst hq2
  clear hq
  go_wp2_with (go_at_call 10; refine (leq_is (by assumption) (by assumption) (by assumption)).mono ?_; rintro e w' ⟨rfl, rfl⟩)
  go_ret
  exact ⟨rfl, hb1⟩

set_option maxRecDepth 100000 in
set_option maxHeartbeats 1000000 in
theorem way9 (a : Nat) (ha : W64 a) (b : Nat) (hb : W64 b) (c : Nat) (hc : W64 c) (w : World) (h1 : lq a b = true) (h2 : lq b a = false) (h4 : lq a c = false) (h3 : lq b c = false) (h5 : lq c a = false)
    (d1 : (((a ||| b : Nat) : Int) == (b : Int)) = true) (d2 : (((a &&& b : Nat) : Int) == (a : Int)) = true) (hj : W64 (a ||| b)) (hm : W64 (a &&& b)) (k1 : lq a a = true) (k2 : lq a (a ||| b) = true) (k3 : lq b (a ||| b) = true) (k4 : lq (a &&& b) a = true) (k5 : lq (a &&& b) b = true) : Calls Try.prog 5 #[.int .u64 (a : Int), .int .u64 (b : Int), .int .u64 (c : Int)] w fun e w' => e = .returned (.bool true) ∧ Below w.heap.size w w' := by
  go_enter Try.func5, Try.ntmps5
  go_wp2_with fail
  refine (awake_any _).mono ?_
  rintro e w1 ⟨rfl, hb1⟩
  go_wp2_with fail
  refine (join_any _ _ _ ha hb).mono ?_
  rintro e w2 ⟨rfl, hq⟩
  have hq2 := hq.symm
  subst hq2
  go_wp2_with fail
  refine (meet_any _ _ _ ha hb).mono ?_
  rintro e w2 ⟨rfl, hq⟩
  have hq2 := hq.symm
  subst hq2
  clear hq
  go_wp2_with (go_at_call 10; refine (leq_is (by assumption) (by assumption) (by assumption)).mono ?_; rintro e w' ⟨rfl, rfl⟩)
  go_ret
  exact ⟨rfl, hb1⟩

set_option maxRecDepth 100000 in
set_option maxHeartbeats 1000000 in
theorem way10 (a : Nat) (ha : W64 a) (b : Nat) (hb : W64 b) (c : Nat) (hc : W64 c) (w : World) (h1 : lq a b = true) (h2 : lq b a = false) (h4 : lq a c = false) (h3 : lq b c = false) (h5 : lq c a = true) (h6 : lq c b = true) (h8 : lq c (a &&& b) = true)
    (d1 : (((a ||| b : Nat) : Int) == (b : Int)) = true) (d2 : (((a &&& b : Nat) : Int) == (a : Int)) = true) (hj : W64 (a ||| b)) (hm : W64 (a &&& b)) (k1 : lq a a = true) (k2 : lq a (a ||| b) = true) (k3 : lq b (a ||| b) = true) (k4 : lq (a &&& b) a = true) (k5 : lq (a &&& b) b = true) : Calls Try.prog 5 #[.int .u64 (a : Int), .int .u64 (b : Int), .int .u64 (c : Int)] w fun e w' => e = .returned (.bool true) ∧ Below w.heap.size w w' := by
  go_enter Try.func5, Try.ntmps5
  go_wp2_with fail
  refine (awake_any _).mono ?_
  rintro e w1 ⟨rfl, hb1⟩
  go_wp2_with fail
  refine (join_any _ _ _ ha hb).mono ?_
  rintro e w2 ⟨rfl, hq⟩
  have hq2 := hq.symm
  subst hq2
  go_wp2_with fail
  refine (meet_any _ _ _ ha hb).mono ?_
  rintro e w2 ⟨rfl, hq⟩
  have hq2 := hq.symm
  subst hq2
  clear hq
  go_wp2_with (go_at_call 10; refine (leq_is (by assumption) (by assumption) (by assumption)).mono ?_; rintro e w' ⟨rfl, rfl⟩)
  go_ret
  exact ⟨rfl, hb1⟩

set_option maxRecDepth 100000 in
set_option maxHeartbeats 1000000 in
theorem way11 (a : Nat) (ha : W64 a) (b : Nat) (hb : W64 b) (c : Nat) (hc : W64 c) (w : World) (h1 : lq a b = true) (h2 : lq b a = false) (h4 : lq a c = true) (h3 : lq b c = false) (h5 : lq c a = false)
    (d1 : (((a ||| b : Nat) : Int) == (b : Int)) = true) (d2 : (((a &&& b : Nat) : Int) == (a : Int)) = true) (hj : W64 (a ||| b)) (hm : W64 (a &&& b)) (k1 : lq a a = true) (k2 : lq a (a ||| b) = true) (k3 : lq b (a ||| b) = true) (k4 : lq (a &&& b) a = true) (k5 : lq (a &&& b) b = true) : Calls Try.prog 5 #[.int .u64 (a : Int), .int .u64 (b : Int), .int .u64 (c : Int)] w fun e w' => e = .returned (.bool true) ∧ Below w.heap.size w w' := by
  go_enter Try.func5, Try.ntmps5
  go_wp2_with fail
  refine (awake_any _).mono ?_
  rintro e w1 ⟨rfl, hb1⟩
  go_wp2_with fail
  refine (join_any _ _ _ ha hb).mono ?_
  rintro e w2 ⟨rfl, hq⟩
  have hq2 := hq.symm
  subst hq2
  go_wp2_with fail
  refine (meet_any _ _ _ ha hb).mono ?_
  rintro e w2 ⟨rfl, hq⟩
  have hq2 := hq.symm
  subst hq2
  clear hq
  go_wp2_with (go_at_call 10; refine (leq_is (by assumption) (by assumption) (by assumption)).mono ?_; rintro e w' ⟨rfl, rfl⟩)
  go_ret
  exact ⟨rfl, hb1⟩

set_option maxRecDepth 100000 in
set_option maxHeartbeats 1000000 in
theorem way12 (a : Nat) (ha : W64 a) (b : Nat) (hb : W64 b) (c : Nat) (hc : W64 c) (w : World) (h1 : lq a b = true) (h2 : lq b a = false) (h4 : lq a c = true) (h3 : lq b c = false) (h5 : lq c a = true) (h6 : lq c b = true) (h8 : lq c (a &&& b) = true)
    (d1 : (((a ||| b : Nat) : Int) == (b : Int)) = true) (d2 : (((a &&& b : Nat) : Int) == (a : Int)) = true) (hj : W64 (a ||| b)) (hm : W64 (a &&& b)) (k1 : lq a a = true) (k2 : lq a (a ||| b) = true) (k3 : lq b (a ||| b) = true) (k4 : lq (a &&& b) a = true) (k5 : lq (a &&& b) b = true) : Calls Try.prog 5 #[.int .u64 (a : Int), .int .u64 (b : Int), .int .u64 (c : Int)] w fun e w' => e = .returned (.bool true) ∧ Below w.heap.size w w' := by
  go_enter Try.func5, Try.ntmps5
  go_wp2_with fail
  refine (awake_any _).mono ?_
  rintro e w1 ⟨rfl, hb1⟩
  go_wp2_with fail
  refine (join_any _ _ _ ha hb).mono ?_
  rintro e w2 ⟨rfl, hq⟩
  have hq2 := hq.symm
  subst hq2
  go_wp2_with fail
  refine (meet_any _ _ _ ha hb).mono ?_
  rintro e w2 ⟨rfl, hq⟩
  have hq2 := hq.symm
  subst hq2
  clear hq
  go_wp2_with (go_at_call 10; refine (leq_is (by assumption) (by assumption) (by assumption)).mono ?_; rintro e w' ⟨rfl, rfl⟩)
  go_ret
  exact ⟨rfl, hb1⟩

set_option maxRecDepth 100000 in
set_option maxHeartbeats 1000000 in
theorem way13 (a : Nat) (ha : W64 a) (b : Nat) (hb : W64 b) (c : Nat) (hc : W64 c) (w : World) (h1 : lq a b = true) (h2 : lq b a = false) (h4 : lq a c = true) (h3 : lq b c = true) (h7 : lq (a ||| b) c = true) (h5 : lq c a = false)
    (d1 : (((a ||| b : Nat) : Int) == (b : Int)) = true) (d2 : (((a &&& b : Nat) : Int) == (a : Int)) = true) (hj : W64 (a ||| b)) (hm : W64 (a &&& b)) (k1 : lq a a = true) (k2 : lq a (a ||| b) = true) (k3 : lq b (a ||| b) = true) (k4 : lq (a &&& b) a = true) (k5 : lq (a &&& b) b = true) : Calls Try.prog 5 #[.int .u64 (a : Int), .int .u64 (b : Int), .int .u64 (c : Int)] w fun e w' => e = .returned (.bool true) ∧ Below w.heap.size w w' := by
  go_enter Try.func5, Try.ntmps5
  go_wp2_with fail
  refine (awake_any _).mono ?_
  rintro e w1 ⟨rfl, hb1⟩
  go_wp2_with fail
  refine (join_any _ _ _ ha hb).mono ?_
  rintro e w2 ⟨rfl, hq⟩
  have hq2 := hq.symm
  subst hq2
  go_wp2_with fail
  refine (meet_any _ _ _ ha hb).mono ?_
  rintro e w2 ⟨rfl, hq⟩
  have hq2 := hq.symm
  subst hq2
  clear hq
  go_wp2_with (go_at_call 10; refine (leq_is (by assumption) (by assumption) (by assumption)).mono ?_; rintro e w' ⟨rfl, rfl⟩)
  go_ret
  exact ⟨rfl, hb1⟩

set_option maxRecDepth 100000 in
set_option maxHeartbeats 1000000 in
theorem way14 (a : Nat) (ha : W64 a) (b : Nat) (hb : W64 b) (c : Nat) (hc : W64 c) (w : World) (h1 : lq a b = true) (h2 : lq b a = false) (h4 : lq a c = true) (h3 : lq b c = true) (h7 : lq (a ||| b) c = true) (h5 : lq c a = true) (h6 : lq c b = true) (h8 : lq c (a &&& b) = true)
    (d1 : (((a ||| b : Nat) : Int) == (b : Int)) = true) (d2 : (((a &&& b : Nat) : Int) == (a : Int)) = true) (hj : W64 (a ||| b)) (hm : W64 (a &&& b)) (k1 : lq a a = true) (k2 : lq a (a ||| b) = true) (k3 : lq b (a ||| b) = true) (k4 : lq (a &&& b) a = true) (k5 : lq (a &&& b) b = true) : Calls Try.prog 5 #[.int .u64 (a : Int), .int .u64 (b : Int), .int .u64 (c : Int)] w fun e w' => e = .returned (.bool true) ∧ Below w.heap.size w w' := by
  go_enter Try.func5, Try.ntmps5
  go_wp2_with fail
  refine (awake_any _).mono ?_
  rintro e w1 ⟨rfl, hb1⟩
  go_wp2_with fail
  refine (join_any _ _ _ ha hb).mono ?_
  rintro e w2 ⟨rfl, hq⟩
  have hq2 := hq.symm
  subst hq2
  go_wp2_with fail
  refine (meet_any _ _ _ ha hb).mono ?_
  rintro e w2 ⟨rfl, hq⟩
  have hq2 := hq.symm
  subst hq2
  clear hq
  go_wp2_with (go_at_call 10; refine (leq_is (by assumption) (by assumption) (by assumption)).mono ?_; rintro e w' ⟨rfl, rfl⟩)
  go_ret
  exact ⟨rfl, hb1⟩

set_option maxRecDepth 100000 in
set_option maxHeartbeats 1000000 in
theorem way15 (a : Nat) (ha : W64 a) (b : Nat) (hb : W64 b) (c : Nat) (hc : W64 c) (w : World) (h1 : lq a b = true) (h2 : lq b a = true) (h9 : ((a : Int) != (b : Int)) = false) (h4 : lq a c = false) (h3 : lq b c = false) (h5 : lq c a = false)
    (d1 : (((a ||| b : Nat) : Int) == (b : Int)) = true) (d2 : (((a &&& b : Nat) : Int) == (a : Int)) = true) (hj : W64 (a ||| b)) (hm : W64 (a &&& b)) (k1 : lq a a = true) (k2 : lq a (a ||| b) = true) (k3 : lq b (a ||| b) = true) (k4 : lq (a &&& b) a = true) (k5 : lq (a &&& b) b = true) : Calls Try.prog 5 #[.int .u64 (a : Int), .int .u64 (b : Int), .int .u64 (c : Int)] w fun e w' => e = .returned (.bool true) ∧ Below w.heap.size w w' := by
  go_enter Try.func5, Try.ntmps5
  go_wp2_with fail
  refine (awake_any _).mono ?_
  rintro e w1 ⟨rfl, hb1⟩
  go_wp2_with fail
  refine (join_any _ _ _ ha hb).mono ?_
  rintro e w2 ⟨rfl, hq⟩
  have hq2 := hq.symm
  subst hq2
  go_wp2_with fail
  refine (meet_any _ _ _ ha hb).mono ?_
  rintro e w2 ⟨rfl, hq⟩
  have hq2 := hq.symm
  subst hq2
  clear hq
  go_wp2_with (go_at_call 10; refine (leq_is (by assumption) (by assumption) (by assumption)).mono ?_; rintro e w' ⟨rfl, rfl⟩)
  go_ret
  exact ⟨rfl, hb1⟩

set_option maxRecDepth 100000 in
set_option maxHeartbeats 1000000 in
theorem way16 (a : Nat) (ha : W64 a) (b : Nat) (hb : W64 b) (c : Nat) (hc : W64 c) (w : World) (h1 : lq a b = true) (h2 : lq b a = true) (h9 : ((a : Int) != (b : Int)) = false) (h4 : lq a c = false) (h3 : lq b c = false) (h5 : lq c a = true) (h6 : lq c b = true) (h8 : lq c (a &&& b) = true)
    (d1 : (((a ||| b : Nat) : Int) == (b : Int)) = true) (d2 : (((a &&& b : Nat) : Int) == (a : Int)) = true) (hj : W64 (a ||| b)) (hm : W64 (a &&& b)) (k1 : lq a a = true) (k2 : lq a (a ||| b) = true) (k3 : lq b (a ||| b) = true) (k4 : lq (a &&& b) a = true) (k5 : lq (a &&& b) b = true) : Calls Try.prog 5 #[.int .u64 (a : Int), .int .u64 (b : Int), .int .u64 (c : Int)] w fun e w' => e = .returned (.bool true) ∧ Below w.heap.size w w' := by
  go_enter Try.func5, Try.ntmps5
  go_wp2_with fail
  refine (awake_any _).mono ?_
  rintro e w1 ⟨rfl, hb1⟩
  go_wp2_with fail
  refine (join_any _ _ _ ha hb).mono ?_
  rintro e w2 ⟨rfl, hq⟩
  have hq2 := hq.symm
  subst hq2
  go_wp2_with fail
  refine (meet_any _ _ _ ha hb).mono ?_
  rintro e w2 ⟨rfl, hq⟩
  have hq2 := hq.symm
  subst hq2
  clear hq
  go_wp2_with (go_at_call 10; refine (leq_is (by assumption) (by assumption) (by assumption)).mono ?_; rintro e w' ⟨rfl, rfl⟩)
  go_ret
  exact ⟨rfl, hb1⟩

set_option maxRecDepth 100000 in
set_option maxHeartbeats 1000000 in
theorem way17 (a : Nat) (ha : W64 a) (b : Nat) (hb : W64 b) (c : Nat) (hc : W64 c) (w : World) (h1 : lq a b = true) (h2 : lq b a = true) (h9 : ((a : Int) != (b : Int)) = false) (h4 : lq a c = true) (h3 : lq b c = true) (h7 : lq (a ||| b) c = true) (h5 : lq c a = false)
    (d1 : (((a ||| b : Nat) : Int) == (b : Int)) = true) (d2 : (((a &&& b : Nat) : Int) == (a : Int)) = true) (hj : W64 (a ||| b)) (hm : W64 (a &&& b)) (k1 : lq a a = true) (k2 : lq a (a ||| b) = true) (k3 : lq b (a ||| b) = true) (k4 : lq (a &&& b) a = true) (k5 : lq (a &&& b) b = true) : Calls Try.prog 5 #[.int .u64 (a : Int), .int .u64 (b : Int), .int .u64 (c : Int)] w fun e w' => e = .returned (.bool true) ∧ Below w.heap.size w w' := by
  go_enter Try.func5, Try.ntmps5
  go_wp2_with fail
  refine (awake_any _).mono ?_
  rintro e w1 ⟨rfl, hb1⟩
  go_wp2_with fail
  refine (join_any _ _ _ ha hb).mono ?_
  rintro e w2 ⟨rfl, hq⟩
  have hq2 := hq.symm
  subst hq2
  go_wp2_with fail
  refine (meet_any _ _ _ ha hb).mono ?_
  rintro e w2 ⟨rfl, hq⟩
  have hq2 := hq.symm
  subst hq2
  clear hq
  go_wp2_with (go_at_call 10; refine (leq_is (by assumption) (by assumption) (by assumption)).mono ?_; rintro e w' ⟨rfl, rfl⟩)
  go_ret
  exact ⟨rfl, hb1⟩

set_option maxRecDepth 100000 in
set_option maxHeartbeats 1000000 in
theorem way18 (a : Nat) (ha : W64 a) (b : Nat) (hb : W64 b) (c : Nat) (hc : W64 c) (w : World) (h1 : lq a b = true) (h2 : lq b a = true) (h9 : ((a : Int) != (b : Int)) = false) (h4 : lq a c = true) (h3 : lq b c = true) (h7 : lq (a ||| b) c = true) (h5 : lq c a = true) (h6 : lq c b = true) (h8 : lq c (a &&& b) = true)
    (d1 : (((a ||| b : Nat) : Int) == (b : Int)) = true) (d2 : (((a &&& b : Nat) : Int) == (a : Int)) = true) (hj : W64 (a ||| b)) (hm : W64 (a &&& b)) (k1 : lq a a = true) (k2 : lq a (a ||| b) = true) (k3 : lq b (a ||| b) = true) (k4 : lq (a &&& b) a = true) (k5 : lq (a &&& b) b = true) : Calls Try.prog 5 #[.int .u64 (a : Int), .int .u64 (b : Int), .int .u64 (c : Int)] w fun e w' => e = .returned (.bool true) ∧ Below w.heap.size w w' := by
  go_enter Try.func5, Try.ntmps5
  go_wp2_with fail
  refine (awake_any _).mono ?_
  rintro e w1 ⟨rfl, hb1⟩
  go_wp2_with fail
  refine (join_any _ _ _ ha hb).mono ?_
  rintro e w2 ⟨rfl, hq⟩
  have hq2 := hq.symm
  subst hq2
  go_wp2_with fail
  refine (meet_any _ _ _ ha hb).mono ?_
  rintro e w2 ⟨rfl, hq⟩
  have hq2 := hq.symm
  subst hq2
  clear hq
  go_wp2_with (go_at_call 10; refine (leq_is (by assumption) (by assumption) (by assumption)).mono ?_; rintro e w' ⟨rfl, rfl⟩)
  go_ret
  exact ⟨rfl, hb1⟩

theorem walk (a : Nat) (ha : W64 a) (b : Nat) (hb : W64 b) (c : Nat) (hc : W64 c) (w : World) : Calls Try.prog 5 #[.int .u64 (a : Int), .int .u64 (b : Int), .int .u64 (c : Int)] w fun e w' => e = .returned (.bool true) ∧ Below w.heap.size w w' := by
  have hj := ha.or hb
  have hm := ha.and b
  have k1 := lq_refl a
  have k2 := lq_or_left a b
  have k3 := lq_or_right a b
  have k4 := lq_and_left a b
  have k5 := lq_and_right a b
  have d1 := (lq_eq_or a b).symm
  have d2 := (lq_eq_and a b).symm
  have h7 : lq a c = true → lq b c = true → lq (a ||| b) c = true := lq_or
  have h8 : lq c a = true → lq c b = true → lq c (a &&& b) = true := lq_and
  have h9 : lq a b = true → lq b a = true → ((a : Int) != (b : Int)) = false := fun x y => by rw [lq_antisymm x y]; simp
  have t1 : lq a b = true → lq b c = true → lq a c = true := lq_trans
  have t2 : lq b a = true → lq a c = true → lq b c = true := lq_trans
  have t3 : lq c a = true → lq a b = true → lq c b = true := lq_trans
  have t4 : lq c b = true → lq b a = true → lq c a = true := lq_trans
  cases h1 : lq a b <;> cases h2 : lq b a <;> cases h4 : lq a c <;> cases h3 : lq b c <;> cases h5 : lq c a <;> cases h6 : lq c b <;> rw [h1] at d1 d2 <;> first
    | exact way0 a ha b hb c hc w h1 h4 h5 d1 d2 hj hm k1 k2 k3 k4 k5
    | exact way1 a ha b hb c hc w h1 h4 h5 h6 d1 d2 hj hm k1 k2 k3 k4 k5
    | exact way2 a ha b hb c hc w h1 h4 h5 h6 (h8 h5 h6) d1 d2 hj hm k1 k2 k3 k4 k5
    | exact way3 a ha b hb c hc w h1 h4 h3 h5 d1 d2 hj hm k1 k2 k3 k4 k5
    | exact way4 a ha b hb c hc w h1 h4 h3 h5 h6 d1 d2 hj hm k1 k2 k3 k4 k5
    | exact way5 a ha b hb c hc w h1 h4 h3 h5 h6 (h8 h5 h6) d1 d2 hj hm k1 k2 k3 k4 k5
    | exact way6 a ha b hb c hc w h1 h4 h3 (h7 h4 h3) h5 d1 d2 hj hm k1 k2 k3 k4 k5
    | exact way7 a ha b hb c hc w h1 h4 h3 (h7 h4 h3) h5 h6 d1 d2 hj hm k1 k2 k3 k4 k5
    | exact way8 a ha b hb c hc w h1 h4 h3 (h7 h4 h3) h5 h6 (h8 h5 h6) d1 d2 hj hm k1 k2 k3 k4 k5
    | exact way9 a ha b hb c hc w h1 h2 h4 h3 h5 d1 d2 hj hm k1 k2 k3 k4 k5
    | exact way10 a ha b hb c hc w h1 h2 h4 h3 h5 h6 (h8 h5 h6) d1 d2 hj hm k1 k2 k3 k4 k5
    | exact way11 a ha b hb c hc w h1 h2 h4 h3 h5 d1 d2 hj hm k1 k2 k3 k4 k5
    | exact way12 a ha b hb c hc w h1 h2 h4 h3 h5 h6 (h8 h5 h6) d1 d2 hj hm k1 k2 k3 k4 k5
    | exact way13 a ha b hb c hc w h1 h2 h4 h3 (h7 h4 h3) h5 d1 d2 hj hm k1 k2 k3 k4 k5
    | exact way14 a ha b hb c hc w h1 h2 h4 h3 (h7 h4 h3) h5 h6 (h8 h5 h6) d1 d2 hj hm k1 k2 k3 k4 k5
    | exact way15 a ha b hb c hc w h1 h2 (h9 h1 h2) h4 h3 h5 d1 d2 hj hm k1 k2 k3 k4 k5
    | exact way16 a ha b hb c hc w h1 h2 (h9 h1 h2) h4 h3 h5 h6 (h8 h5 h6) d1 d2 hj hm k1 k2 k3 k4 k5
    | exact way17 a ha b hb c hc w h1 h2 (h9 h1 h2) h4 h3 (h7 h4 h3) h5 d1 d2 hj hm k1 k2 k3 k4 k5
    | exact way18 a ha b hb c hc w h1 h2 (h9 h1 h2) h4 h3 (h7 h4 h3) h5 h6 (h8 h5 h6) d1 d2 hj hm k1 k2 k3 k4 k5
    | exact absurd (h4.symm.trans (t1 h1 h3)) (by decide)
    | exact absurd (h3.symm.trans (t2 h2 h4)) (by decide)
    | exact absurd (h6.symm.trans (t3 h5 h1)) (by decide)
    | exact absurd (h5.symm.trans (t4 h6 h2)) (by decide)

end Go.Proofs.Ytlogemklballiaa.labelLattice

/- The document's answers: whether an item may be, numbers and texts compared. -/
import Derived.Test.YtahnpbgbekbfhaaNx1
import Derived.Test.YtahnpbgbekbfhaaReg2
namespace Go.Proofs.Ytahnpbgbekbfhaa
open Go.RowKit

attribute [local go_sem] fromBits toBits

theorem and_low63 {a : Nat} (_h : a < 18446744073709551616) : a &&& 9223372036854775807 = rng a := by
  have e : (9223372036854775807 : Nat) = 2 ^ 63 - 1 := by decide
  rw [e, Nat.and_two_pow_sub_one_eq_mod]; rfl
theorem bnot63 {a : Nat} (h : a < 18446744073709551616) : bits .andNot .u64 (a : Int) 9223372036854775808 = ((rng a : Nat) : Int) := by
  have := u64_andNot_nat a 9223372036854775808 h (by decide)
  rw [show 18446744073709551615 - 9223372036854775808 = 9223372036854775807 by decide, and_low63 h] at this
  exact this

set_option maxRecDepth 100000 in
set_option maxHeartbeats 400000 in
theorem rnought_any (a : Nat) (w : World) (ha : a < 18446744073709551616) :
    Calls Try.prog 34 #[.int .u64 (a : Int)] w fun e w' => e = .returned (.bool (nought a)) ∧ w' = w := by
  have hb := bnot63 ha
  have hn : (((rng a : Nat) : Int) == 0) = nought a := by
    unfold nought
    by_cases h : rng a = 0
    · simp [h]
    · have : ¬ ((rng a : Nat) : Int) = 0 := by omega
      simp [h]
  generalize nought a = q at *
  generalize rng a = r at *
  go_enter Try.func34, Try.ntmps34
  go_wp2
  go_ret
  exact ⟨by rw [← hn]; rfl, rfl⟩

set_option maxRecDepth 100000 in
set_option maxHeartbeats 400000 in
theorem rnan_any (a : Nat) (w : World) (ha : a < 18446744073709551616) :
    Calls Try.prog 52 #[.int .u64 (a : Int)] w fun e w' => e = .returned (.bool (nanB a)) ∧ w' = w := by
  have hb := bnot63 ha
  have hn : decide ((9218868437227405312 : Int) < ((rng a : Nat) : Int)) = nanB a := by
    unfold nanB
    by_cases h : 9218868437227405312 < rng a
    · have : (9218868437227405312 : Int) < ((rng a : Nat) : Int) := by omega
      simp [h, this]
    · have : ¬ (9218868437227405312 : Int) < ((rng a : Nat) : Int) := by omega
      simp [h, this]
  generalize nanB a = q at *
  generalize rng a = r at *
  go_enter Try.func52, Try.ntmps52
  go_wp2
  go_ret
  exact ⟨by rw [← hn]; rfl, rfl⟩

set_option maxRecDepth 100000 in
set_option maxHeartbeats 400000 in
theorem rints_any (a b : Int) (w : World) : Calls Try.prog 42 #[.int .i64 a, .int .i64 b] w fun e w' => e = .returned (.int .i64 (cmpI a b)) ∧ w' = w := by
  rcases Int.lt_trichotomy a b with h | h | h
  · rw [cmpI_lt h]
    go_enter Try.func42, Try.ntmps42
    go_wp2
    all_goals go_ret
    all_goals exact ⟨rfl, rfl⟩
  · subst h
    rw [cmpI_self]
    go_enter Try.func42, Try.ntmps42
    go_wp2
    all_goals go_ret
    all_goals exact ⟨rfl, rfl⟩
  · rw [cmpI_gt h]
    have h2 : ¬ a < b := by omega
    go_enter Try.func42, Try.ntmps42
    go_wp2
    all_goals go_ret
    all_goals exact ⟨rfl, rfl⟩

set_option maxRecDepth 100000 in
set_option maxHeartbeats 4000000 in
theorem rcheck_any (x : It) (w : World) (hx : ItOk x) :
    Calls Try.prog 15 #[valR x] w fun e w' => e = .returned (.int .i64 (if may x then 0 else 40)) ∧ Below w.heap.size w w' := by
  obtain ⟨k, b, n, f, r, i, t⟩ := x
  obtain ⟨k1, k2, n1, n2, hf, hr, hi⟩ := hx
  simp only at k1 k2 n1 n2 hf hr hi
  have hF := fun w => rnought_any f w hf
  have hR := fun w => rnought_any r w hr
  have hI := fun w => rnought_any i w hi
  obtain ⟨m, hm⟩ : ∃ m, m = may ⟨k, b, n, f, r, i, t⟩ := ⟨_, rfl⟩
  rw [← hm]
  unfold may at hm
  generalize nought f = pf at *
  generalize nought r = pr at *
  generalize nought i = pi at *
  obtain ⟨z, hz⟩ : ∃ z : Int, z = if m = true then 0 else 40 := ⟨_, rfl⟩
  rw [← hz]
  rw [hm] at hz
  have HZ := hide_it hz
  clear hz hm
  have fin : ∀ c, Below w.heap.size w (w.alloc c) := fun c => (Below.refl _ _).alloc (Nat.le_refl _) _
  by_cases h1 : k = 1
  · subst h1
    go_enter Try.func15, Try.ntmps15
    go_wp2_with (go_at_call 34; (first | refine (hF _).mono ?_ | refine (hR _).mono ?_ | refine (hI _).mono ?_); rintro e w' ⟨rfl, hq⟩; have hq2 := hq.symm; subst hq2; clear hq)
    all_goals go_ret
    all_goals refine ⟨?_, fin _⟩
    all_goals rw [HZ.out]
    all_goals clear hF hR hI
    all_goals simp_all [nil_toList]
  by_cases h2 : k = 2
  · subst h2
    go_enter Try.func15, Try.ntmps15
    go_wp2_with (go_at_call 34; (first | refine (hF _).mono ?_ | refine (hR _).mono ?_ | refine (hI _).mono ?_); rintro e w' ⟨rfl, hq⟩; have hq2 := hq.symm; subst hq2; clear hq)
    all_goals go_ret
    all_goals refine ⟨?_, fin _⟩
    all_goals rw [HZ.out]
    all_goals clear hF hR hI
    all_goals simp_all [nil_toList]
  by_cases h3 : k = 3
  · subst h3
    go_enter Try.func15, Try.ntmps15
    go_wp2_with (go_at_call 34; (first | refine (hF _).mono ?_ | refine (hR _).mono ?_ | refine (hI _).mono ?_); rintro e w' ⟨rfl, hq⟩; have hq2 := hq.symm; subst hq2; clear hq)
    all_goals go_ret
    all_goals refine ⟨?_, fin _⟩
    all_goals rw [HZ.out]
    all_goals clear hF hR hI
    all_goals simp_all [nil_toList]
  by_cases h4 : k = 4
  · subst h4
    go_enter Try.func15, Try.ntmps15
    go_wp2_with (go_at_call 34; (first | refine (hF _).mono ?_ | refine (hR _).mono ?_ | refine (hI _).mono ?_); rintro e w' ⟨rfl, hq⟩; have hq2 := hq.symm; subst hq2; clear hq)
    all_goals go_ret
    all_goals refine ⟨?_, fin _⟩
    all_goals rw [HZ.out]
    all_goals clear hF hR hI
    all_goals simp_all [nil_toList]
  by_cases h5 : k = 5
  · subst h5
    go_enter Try.func15, Try.ntmps15
    go_wp2_with (go_at_call 34; (first | refine (hF _).mono ?_ | refine (hR _).mono ?_ | refine (hI _).mono ?_); rintro e w' ⟨rfl, hq⟩; have hq2 := hq.symm; subst hq2; clear hq)
    all_goals go_ret
    all_goals refine ⟨?_, fin _⟩
    all_goals rw [HZ.out]
    all_goals clear hF hR hI
    all_goals simp_all [nil_toList]
  by_cases h6 : k = 6
  · subst h6
    go_enter Try.func15, Try.ntmps15
    go_wp2_with (go_at_call 34; (first | refine (hF _).mono ?_ | refine (hR _).mono ?_ | refine (hI _).mono ?_); rintro e w' ⟨rfl, hq⟩; have hq2 := hq.symm; subst hq2; clear hq)
    all_goals go_ret
    all_goals refine ⟨?_, fin _⟩
    all_goals rw [HZ.out]
    all_goals clear hF hR hI
    all_goals simp_all 
  have hz : z = 40 := by
    rw [HZ.out]
    by_cases a1 : 1 ≤ k
    · by_cases a2 : k ≤ 6
      · omega
      · simp [a2]
    · simp [a1]
  by_cases a1 : k < 1
  · go_enter Try.func15, Try.ntmps15
    go_wp2_with fail
    go_ret
    exact ⟨rfl, fin _⟩
  · have a2 : (6 : Int) < k := by omega
    clear h1 h2 h3 h4 h5 h6
    go_enter Try.func15, Try.ntmps15
    go_wp2_with fail
    go_ret
    exact ⟨rfl, fin _⟩

end Go.Proofs.Ytahnpbgbekbfhaa

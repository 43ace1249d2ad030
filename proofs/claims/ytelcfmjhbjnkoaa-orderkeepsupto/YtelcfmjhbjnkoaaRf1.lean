/- The document's answers: whether an item may be, numbers and texts compared. -/
import Derived.Test.YtelcfmjhbjnkoaaNx1
import Derived.Test.YtelcfmjhbjnkoaaReg2
namespace Go.Proofs.Ytelcfmjhbjnkoaa
open Go.RowKit

attribute [local go_sem] fromBits toBits

theorem and_low63 {a : Nat} (_h : a < 18446744073709551616) : a &&& 9223372036854775807 = rng a := by
  have e : (9223372036854775807 : Nat) = 2 ^ 63 - 1 := by decide
  rw [e, Nat.and_two_pow_sub_one_eq_mod]; rfl
theorem bnot63 {a : Nat} (h : a < 18446744073709551616) : bits .andNot .u64 (a : Int) 9223372036854775808 = ((rng a : Nat) : Int) := by
  have := u64_andNot_nat a 9223372036854775808 h (by decide)
  rw [show 18446744073709551615 - 9223372036854775808 = 9223372036854775807 by decide, and_low63 h] at this
  exact this

set_option maxRecDepth 100000 in
set_option maxHeartbeats 400000 in
theorem rnought_any (a : Nat) (w : World) (ha : a < 18446744073709551616) :
    Calls Try.prog 60 #[.int .u64 (a : Int)] w fun e w' => e = .returned (.bool (nought a)) ∧ w' = w := by
  have hb := bnot63 ha
  have hn : (((rng a : Nat) : Int) == 0) = nought a := by
    unfold nought
    by_cases h : rng a = 0
    · simp [h]
    · have : ¬ ((rng a : Nat) : Int) = 0 := by omega
      simp [h]
  generalize nought a = q at *
  generalize rng a = r at *
  go_enter Try.func60, Try.ntmps60
  go_wp2
  go_ret
  exact ⟨by rw [← hn]; rfl, rfl⟩

set_option maxRecDepth 100000 in
set_option maxHeartbeats 400000 in
theorem rnan_any (a : Nat) (w : World) (ha : a < 18446744073709551616) :
    Calls Try.prog 59 #[.int .u64 (a : Int)] w fun e w' => e = .returned (.bool (nanB a)) ∧ w' = w := by
  have hb := bnot63 ha
  have hn : decide ((9218868437227405312 : Int) < ((rng a : Nat) : Int)) = nanB a := by
    unfold nanB
    by_cases h : 9218868437227405312 < rng a
    · have : (9218868437227405312 : Int) < ((rng a : Nat) : Int) := by omega
      simp [h, this]
    · have : ¬ (9218868437227405312 : Int) < ((rng a : Nat) : Int) := by omega
      simp [h, this]
  generalize nanB a = q at *
  generalize rng a = r at *
  go_enter Try.func59, Try.ntmps59
  go_wp2
  go_ret
  exact ⟨by rw [← hn]; rfl, rfl⟩



end Go.Proofs.Ytelcfmjhbjnkoaa

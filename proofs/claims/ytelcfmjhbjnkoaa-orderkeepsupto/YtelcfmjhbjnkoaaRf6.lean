/- The document's answer: numbers laid down as bytes. -/
import Derived.Test.YtelcfmjhbjnkoaaRf1
import Derived.Test.YtelcfmjhbjnkoaaKt1
namespace Go.Proofs.Ytelcfmjhbjnkoaa
open Go.RowKit

set_option maxRecDepth 100000 in
set_option maxHeartbeats 400000 in
theorem rcleanBits_any (a : Nat) (w : World) (ha : a < 18446744073709551616) :
    Calls Try.prog 51 #[.int .u64 (a : Int)] w fun e w' => e = .returned (.int .u64 ((cb a : Nat) : Int)) ∧ w' = w := by
  have hn := fun w => rnan_any a w ha
  have ho := fun w => rnought_any a w ha
  cases h1 : nanB a with
  | true =>
    have hc : cb a = 9221120237041090561 := by unfold cb; rw [h1]; rfl
    rw [hc]
    rw [h1] at hn
    go_enter Try.func51, Try.ntmps51
    go_wp2_with (go_at_call 59; refine (hn _).mono ?_; rintro e w' ⟨rfl, hq⟩; have hq2 := hq.symm; subst hq2; clear hq)
    all_goals go_ret
    all_goals exact ⟨rfl, rfl⟩
  | false =>
    rw [h1] at hn
    cases h2 : nought a with
    | true =>
      have hc : cb a = 0 := by unfold cb; rw [h1, h2]; rfl
      rw [hc]
      rw [h2] at ho
      go_enter Try.func51, Try.ntmps51
      go_wp2_with (first | (go_at_call 59; refine (hn _).mono ?_; rintro e w' ⟨rfl, hq⟩; have hq2 := hq.symm; subst hq2; clear hq) | (go_at_call 60; refine (ho _).mono ?_; rintro e w' ⟨rfl, hq⟩; have hq2 := hq.symm; subst hq2; clear hq))
      all_goals go_ret
      all_goals exact ⟨rfl, rfl⟩
    | false =>
      have hc : cb a = a := by unfold cb; rw [h1, h2]; rfl
      rw [hc]
      rw [h2] at ho
      go_enter Try.func51, Try.ntmps51
      go_wp2_with (first | (go_at_call 59; refine (hn _).mono ?_; rintro e w' ⟨rfl, hq⟩; have hq2 := hq.symm; subst hq2; clear hq) | (go_at_call 60; refine (ho _).mono ?_; rintro e w' ⟨rfl, hq⟩; have hq2 := hq.symm; subst hq2; clear hq))
      all_goals go_ret
      all_goals exact ⟨rfl, rfl⟩


end Go.Proofs.Ytelcfmjhbjnkoaa

/- The document's answers: two items compared. -/
import Derived.Test.YtelcfmjhbjnkoaaRf1
namespace Go.Proofs.Ytelcfmjhbjnkoaa
open Go.RowKit

attribute [local go_sem] fromBits toBits


theorem lexc_drop {a b : List Nat} {k : Nat} (h1 : k < a.length) (h2 : k < b.length) : lexc (a.drop k) (b.drop k) = orI (cmpI (at0 a k : Int) (at0 b k : Int)) (lexc (a.drop (k + 1)) (b.drop (k + 1))) := by
  rw [List.drop_eq_getElem_cons h1, List.drop_eq_getElem_cons h2, lexc_cons, at0_get h1, at0_get h2]
theorem lexc_end {a b : List Nat} {k : Nat} (h1 : k ≤ a.length) (h2 : k ≤ b.length) (h : ¬ k < a.length ∨ ¬ k < b.length) : lexc (a.drop k) (b.drop k) = cmpI (a.length : Int) (b.length : Int) := by
  rcases h with h | h
  · rw [List.drop_eq_nil_of_le (show a.length ≤ k by omega)]
    by_cases g : k < b.length
    · rw [List.drop_eq_getElem_cons g, cmpI_lt (by omega)]; rfl
    · rw [List.drop_eq_nil_of_le (show b.length ≤ k by omega), show a.length = b.length by omega, cmpI_self]; rfl
  · rw [List.drop_eq_nil_of_le (show b.length ≤ k by omega)]
    by_cases g : k < a.length
    · rw [List.drop_eq_getElem_cons g, cmpI_gt (by omega)]; rfl
    · rw [List.drop_eq_nil_of_le (show a.length ≤ k by omega), show a.length = b.length by omega, cmpI_self]; rfl


end Go.Proofs.Ytelcfmjhbjnkoaa

/- What the small functions on two labels answer: Leq, Join and Meet of the program, and Has and Leq of the document's. -/
import Derived.Test.YthclmkmajlinhabRows
import Derived.Test.YthclmkmajlinhabMath
import Derived.WalkKit
import Derived.WalkSpells
import Derived.WalkLawsBesides
namespace Go.Proofs.Ythclmkmajlinhab
open Go.RowKit

set_option maxHeartbeats 400000 in
theorem leq_any (a b : Nat) (w : World) (ha : W64 a) (hb : W64 b) :
    Calls Try.prog 27 #[.int .u64 (a : Int), .int .u64 (b : Int)] w fun e w' => e = .returned (.bool (lq a b)) ∧ w' = w := by
  have ht := leq_test ha hb
  go_enter Try.func27, Try.ntmps27
  go_wp2
  go_ret
  exact ⟨rfl, rfl⟩

set_option maxHeartbeats 400000 in
theorem join_any (a b : Nat) (w : World) (ha : W64 a) (hb : W64 b) :
    Calls Try.prog 28 #[.int .u64 (a : Int), .int .u64 (b : Int)] w fun e w' => e = .returned (.int .u64 ((a ||| b : Nat) : Int)) ∧ w' = w := by
  have ht := or_val ha hb
  go_enter Try.func28, Try.ntmps28
  go_wp2
  go_ret
  exact ⟨rfl, rfl⟩

set_option maxHeartbeats 400000 in
theorem meet_any (a b : Nat) (w : World) (ha : W64 a) (hb : W64 b) :
    Calls Try.prog 29 #[.int .u64 (a : Int), .int .u64 (b : Int)] w fun e w' => e = .returned (.int .u64 ((a &&& b : Nat) : Int)) ∧ w' = w := by
  have ht := and_val ha hb
  go_enter Try.func29, Try.ntmps29
  go_wp2
  go_ret
  exact ⟨rfl, rfl⟩

set_option maxHeartbeats 400000 in
theorem has_any (a : Nat) (k : Nat) (w : World) (ha : W64 a) (hk : k < 64) :
    Calls Try.prog 31 #[.int .u64 (a : Int), .int .i64 (k : Int)] w fun e w' => e = .returned (.bool (a.testBit k)) ∧ w' = w := by
  have ht := has_test k ha
  go_enter Try.func31, Try.ntmps31
  go_wp2
  go_ret
  exact ⟨rfl, rfl⟩

/-- The document's Leq, thing by thing. -/
def lqTo (a b k : Nat) : Prop := ∀ i, i < k → a.testBit i = true → b.testBit i = true

theorem lqTo_succ {a b k : Nat} (h : lqTo a b k) (hb : a.testBit k = true → b.testBit k = true) : lqTo a b (k + 1) := by
  intro i hi hai
  by_cases e : i = k
  · subst e; exact hb hai
  · exact h i (by omega) hai


end Go.Proofs.Ythclmkmajlinhab

/- What the small functions on two labels answer: Leq, Join and Meet of the program, and Has and Leq of the document's. -/
import Derived.Test.YthclmkmajlinhaaRows
import Derived.Test.YthclmkmajlinhaaMath
import Derived.WalkKit
import Derived.WalkSpells
import Derived.WalkLawsBesides
namespace Go.Proofs.Ythclmkmajlinhaa
open Go.RowKit

set_option maxHeartbeats 400000 in
theorem leq_any (a b : Nat) (w : World) (ha : W64 a) (hb : W64 b) :
    Calls Try.prog 25 #[.int .u64 (a : Int), .int .u64 (b : Int)] w fun e w' => e = .returned (.bool (lq a b)) ∧ w' = w := by
  have ht := leq_test ha hb
  go_enter Try.func25, Try.ntmps25
  go_wp2
  go_ret
  exact ⟨rfl, rfl⟩

set_option maxHeartbeats 400000 in
theorem join_any (a b : Nat) (w : World) (ha : W64 a) (hb : W64 b) :
    Calls Try.prog 37 #[.int .u64 (a : Int), .int .u64 (b : Int)] w fun e w' => e = .returned (.int .u64 ((a ||| b : Nat) : Int)) ∧ w' = w := by
  have ht := or_val ha hb
  go_enter Try.func37, Try.ntmps37
  go_wp2
  go_ret
  exact ⟨rfl, rfl⟩

set_option maxHeartbeats 400000 in
theorem meet_any (a b : Nat) (w : World) (ha : W64 a) (hb : W64 b) :
    Calls Try.prog 38 #[.int .u64 (a : Int), .int .u64 (b : Int)] w fun e w' => e = .returned (.int .u64 ((a &&& b : Nat) : Int)) ∧ w' = w := by
  have ht := and_val ha hb
  go_enter Try.func38, Try.ntmps38
  go_wp2
  go_ret
  exact ⟨rfl, rfl⟩

set_option maxHeartbeats 400000 in
theorem has_any (a : Nat) (k : Nat) (w : World) (ha : W64 a) (hk : k < 64) :
    Calls Try.prog 66 #[.int .u64 (a : Int), .int .i64 (k : Int)] w fun e w' => e = .returned (.bool (a.testBit k)) ∧ w' = w := by
  have ht := has_test k ha
  go_enter Try.func66, Try.ntmps66
  go_wp2
  go_ret
  exact ⟨rfl, rfl⟩

/-- The document's Leq, thing by thing. -/
def lqTo (a b k : Nat) : Prop := ∀ i, i < k → a.testBit i = true → b.testBit i = true

theorem lqTo_succ {a b k : Nat} (h : lqTo a b k) (hb : a.testBit k = true → b.testBit k = true) : lqTo a b (k + 1) := by
  intro i hi hai
  by_cases e : i = k
  · subst e; exact hb hai
  · exact h i (by omega) hai

set_option maxHeartbeats 400000 in
theorem rleq_any (a b : Nat) (w : World) (ha : W64 a) (hb : W64 b) :
    Calls Try.prog 69 #[.int .u64 (a : Int), .int .u64 (b : Int)] w fun e w' => e = .returned (.bool (lq a b)) ∧ w' = w := by
  go_enter Try.func69, Try.ntmps69
  go_wp2
  go_loop [5] (fun i => ∃ k : Nat, k ≤ 64 ∧ i = .int .i64 k ∧ Hid (lqTo a b k)) (fun i => 64 - (intOf i).toNat)
  case atStart => exact ⟨0, by omega, rfl, fun i hi => by omega⟩
  case round =>
    obtain ⟨k, hk, rfl, hto⟩ := hrel
    by_cases hlt : k < 64
    · cases h1 : a.testBit k
      · go_wp2_with (go_at_call 66; refine (has_any _ _ _ (by assumption) (by omega)).mono ?_; rintro e w' ⟨rfl, rfl⟩)
        go_round
        case rel => exact ⟨k + 1, by omega, by go_num, lqTo_succ hto (fun h => by rw [h1] at h; cases h)⟩
        case measure => simp [intOf]; omega
      · cases h2 : b.testBit k
        · go_wp2_with (go_at_call 66; refine (has_any _ _ _ (by assumption) (by omega)).mono ?_; rintro e w' ⟨rfl, rfl⟩)
          go_ret
          have hf : lq a b = false := by
            cases h : lq a b
            · rfl
            · have := (lq_bits a b).1 h k h1; rw [h2] at this; cases this
          rw [hf]
          exact ⟨rfl, rfl⟩
        · go_wp2_with (go_at_call 66; refine (has_any _ _ _ (by assumption) (by omega)).mono ?_; rintro e w' ⟨rfl, rfl⟩)
          go_round
          case rel => exact ⟨k + 1, by omega, by go_num, lqTo_succ hto (fun _ => h2)⟩
          case measure => simp [intOf]; omega
    · go_wp2
      go_ret
      have he : k = 64 := by omega
      have hf : lq a b = true := (lq_bits64 ha).2 (fun i hi => hto i (by omega))
      rw [hf]
      exact ⟨rfl, rfl⟩

end Go.Proofs.Ythclmkmajlinhaa

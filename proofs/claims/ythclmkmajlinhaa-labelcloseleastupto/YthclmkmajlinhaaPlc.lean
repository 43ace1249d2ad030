/- Place of the program, told by whether the label is there. -/
import Derived.Test.YthclmkmajlinhaaWalk3
namespace Go.Proofs.Ythclmkmajlinhaa
open Go.RowKit

theorem idx_if {zs : List Nat} {x : Nat} (h : x ∈ zs) : ∃ n : Nat, idx zs x = (n : Int) := ⟨_, by unfold idx; rw [if_pos h]⟩
theorem idx_not {zs : List Nat} {x : Nat} (h : x ∉ zs) : idx zs x = -1 := by unfold idx; rw [if_neg h]

set_option maxHeartbeats 400000 in
theorem place_yes (a : Option Addr) (cap : Nat) (zs : List Nat) (x : Nat) (w : World) (hr : Row w a zs) (hl : zs.length ≤ maxLen) (n : Nat) (hn : idx zs x = (n : Int)) :
    Calls Try.prog 21 #[.slice a zs.length cap, .int .u64 (x : Int)] w fun e w' => e = .returned (.tuple #[.int .i64 (n : Int), .bool true]) ∧ w' = w := by
  have hi := index_any a cap zs x w hr hl
  rw [hn] at hi
  clear hr hn
  go_enter Try.func21, Try.ntmps21
  go_wp2_with (go_at_call 49; refine hi.mono ?_; rintro e w' ⟨rfl, rfl⟩)
  go_ret2
  exact ⟨rfl, rfl⟩

set_option maxHeartbeats 400000 in
theorem place_no (a : Option Addr) (cap : Nat) (zs : List Nat) (x : Nat) (w : World) (hr : Row w a zs) (hl : zs.length ≤ maxLen) (hm : x ∉ zs) :
    Calls Try.prog 21 #[.slice a zs.length cap, .int .u64 (x : Int)] w fun e w' => e = .returned (.tuple #[.int .i64 0, .bool false]) ∧ w' = w := by
  have hi := index_any a cap zs x w hr hl
  rw [idx_not hm] at hi
  clear hr hm
  go_enter Try.func21, Try.ntmps21
  go_wp2_with (go_at_call 49; refine hi.mono ?_; rintro e w' ⟨rfl, rfl⟩)
  go_ret2
  exact ⟨rfl, rfl⟩

set_option maxHeartbeats 400000 in
theorem place_any (a : Option Addr) (cap : Nat) (zs : List Nat) (x : Nat) (w : World) (hr : Row w a zs) (hl : zs.length ≤ maxLen) :
    Calls Try.prog 21 #[.slice a zs.length cap, .int .u64 (x : Int)] w fun e w' => (∃ n : Nat, e = .returned (.tuple #[.int .i64 (n : Int), .bool (decide (x ∈ zs))])) ∧ w' = w := by
  by_cases h : x ∈ zs
  · obtain ⟨n, hn⟩ := idx_if h
    rw [decide_eq_true h]
    exact (place_yes a cap zs x w hr hl n hn).mono fun e w' ⟨he, hw⟩ => ⟨⟨n, he⟩, hw⟩
  · rw [decide_eq_false h]
    exact (place_no a cap zs x w hr hl h).mono fun e w' ⟨he, hw⟩ => ⟨⟨0, he⟩, hw⟩

end Go.Proofs.Ythclmkmajlinhaa

/- That LabelWays answers true: also where a place lies outside. -/
import Derived.Test.YthclmkmajlinhaaLabelWaysW
namespace Go.Proofs.Ythclmkmajlinhaa.labelWays
open Go.RowKit

set_option maxRecDepth 100000 in
set_option maxHeartbeats 2000000 in
theorem walk (N : Nat) (hN : SortsL N) (hbig : 1048576 ≤ N) (M : Nat) (hM : SortsI M) (hbigM : 1048576 ≤ M) (a : Option Addr) (cap : Nat) (zs : List Nat) (i : Int) (_ : -9223372036854775808 ≤ i ∧ i ≤ 9223372036854775807) (j : Int) (_ : -9223372036854775808 ≤ j ∧ j ≤ 9223372036854775807) (w : World) (h : Came1 w a cap zs) (hl : zs.length ≤ 1048576) :
    Calls Try.prog 7 #[.slice a zs.length cap, .int .i64 i, .int .i64 j] w fun e w' => e = .returned (.bool true) ∧ Below w.heap.size w w' := by
  by_cases h1 : i < 0
  · go_enter Try.func7, Try.ntmps7
    go_wp2_with fail
    refine (awake_any _).mono ?_
    rintro e w1 ⟨rfl, hb1⟩
    go_wp2_with fail
    go_ret
    exact ⟨rfl, hb1⟩
  · by_cases h2 : j < 0
    · go_enter Try.func7, Try.ntmps7
      go_wp2_with fail
      refine (awake_any _).mono ?_
      rintro e w1 ⟨rfl, hb1⟩
      go_wp2_with fail
      go_ret
      exact ⟨rfl, hb1⟩
    · by_cases h3 : (zs.length : Int) ≤ i
      · go_enter Try.func7, Try.ntmps7
        go_wp2_with fail
        refine (awake_any _).mono ?_
        rintro e w1 ⟨rfl, hb1⟩
        go_wp2_with fail
        go_ret
        exact ⟨rfl, hb1⟩
      · by_cases h4 : (zs.length : Int) ≤ j
        · go_enter Try.func7, Try.ntmps7
          go_wp2_with fail
          refine (awake_any _).mono ?_
          rintro e w1 ⟨rfl, hb1⟩
          go_wp2_with fail
          go_ret
          exact ⟨rfl, hb1⟩
        · obtain ⟨ni, rfl⟩ : ∃ ni : Nat, i = (ni : Int) := ⟨i.toNat, by omega⟩
          obtain ⟨nj, rfl⟩ : ∃ nj : Nat, j = (nj : Int) := ⟨j.toNat, by omega⟩
          exact inside N hN hbig M hM hbigM a cap zs ni nj w h hl (by omega) (by omega)

end Go.Proofs.Ythclmkmajlinhaa.labelWays

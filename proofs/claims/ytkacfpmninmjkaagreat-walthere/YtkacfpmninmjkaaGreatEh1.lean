/- The document's Check of a kind that is none. -/
import Derived.Test.YtkacfpmninmjkaaGreatEg1
namespace Go.Proofs.YtkacfpmninmjkaaGreat
open Go.RowKit

theorem chk_no {x : En} (h : mayE x = true → False) : chkE x = 100 := by
  unfold chkE
  cases e : mayE x
  · rfl
  · exact absurd e (fun e => h e)
theorem chk_yes {x : En} (h : mayE x = true) : chkE x = 0 := by unfold chkE; rw [h]; rfl

set_option maxRecDepth 100000 in
set_option maxHeartbeats 2000000 in
theorem rcheck_0 (kind stamp count : Int) (key : ByteArray) (val : List Nat) (dead : Bool) (a : Option Addr) (cp : Nat) (w : World) (hkn : ¬ (1 ≤ kind ∧ kind ≤ 6)) :
    Calls Tryz.prog 50 #[valE ⟨kind, stamp, count, key, val, dead⟩ a cp] w fun e w' => e = .returned (.int .i64 ((chkE ⟨kind, stamp, count, key, val, dead⟩ : Nat) : Int)) ∧ Below w.heap.size w w' := by
  have hb := boxE_below w ⟨kind, stamp, count, key, val, dead⟩ a cp
  have HC : Hid (chkE ⟨kind, stamp, count, key, val, dead⟩ = 100) := hide_it (chk_no fun h => hkn (may_parts h).kind)
  by_cases h1 : kind < 1
  · have h1d : decide (kind < 1) = true := decide_eq_true h1
    clear hkn
    go_enter Tryz.func50, Tryz.ntmps50
    go_wp2
    go_ret
    rw [HC.out]
    exact ⟨rfl, hb⟩
  · have h1d : decide (kind < 1) = false := decide_eq_false h1
    have h2 : 6 < kind := by omega
    have h2d : decide (6 < kind) = true := decide_eq_true h2
    clear hkn
    go_enter Tryz.func50, Tryz.ntmps50
    go_wp2
    go_ret
    rw [HC.out]
    exact ⟨rfl, hb⟩
end Go.Proofs.YtkacfpmninmjkaaGreat

/- The law on names, walked. -/
import Derived.Test.YtbafjkanbbcbgaaXo6
namespace Go.Proofs.Ytbafjkanbbcbgaa.wsetNames
open Go.RowKit

attribute [local go_sem] Oper.semAt_some

set_option maxRecDepth 100000 in
theorem walk (w : World) : Calls Try.prog 3 #[] w fun e w' => e = .returned (.bool true) ∧ Below w.heap.size w w' := by
  have ha := awake_any w
  go_enter Try.func3, Try.ntmps3
  go_wp2_with fail
  refine ha.mono ?_
  rintro e w1 ⟨rfl, hb⟩
  go_wp2_with fail
  go_ret
  exact ⟨rfl, hb⟩
end Go.Proofs.Ytbafjkanbbcbgaa.wsetNames

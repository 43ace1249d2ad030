/- The numbers of errors, kinds and the limit: the law's walk. -/
import Derived.Test.YtahnpbgbekbfhaaOw17
namespace Go.Proofs.Ytahnpbgbekbfhaa.orderNames
open Go.RowKit

set_option maxRecDepth 100000 in
set_option maxHeartbeats 400000 in
theorem walk (w : World) : Calls Try.prog 3 #[] w fun e w' => e = .returned (.bool true) ∧ Below w.heap.size w w' := by
  go_enter Try.func3, Try.ntmps3
  go_wp2_with (go_at_call 9; refine (awake_any _).mono ?_; rintro e w' ⟨rfl, hb⟩)
  go_ret
  exact ⟨rfl, hb⟩

end Go.Proofs.Ytahnpbgbekbfhaa.orderNames

/- The law on names, walked. -/
import Derived.Test.YtncmnhomloanaaaHl2
namespace Go.Proofs.Ytncmnhomloanaaa.chainNames
open Go.RowKit

set_option maxRecDepth 100000 in
theorem walk (w : World) : Calls Try.prog 3 #[] w fun e w' => e = .returned (.bool true) ∧ Below w.heap.size w w' := by
  have ha := awake_any w
  go_enter Try.func3, Try.ntmps3
  go_wp2_with fail
  refine ha.mono ?_
  rintro e w1 ⟨rfl, hb⟩
  go_wp2_with fail
  go_ret
  exact ⟨rfl, hb⟩
end Go.Proofs.Ytncmnhomloanaaa.chainNames

/- That LabelChecks answers true of every list of labels. -/
import Derived.Test.YtlogemklballiaaAwake2
import Derived.Test.YtlogemklballiaaWalk5
import Derived.Test.YtlogemklballiaaOpen
namespace Go.Proofs.Ytlogemklballiaa.labelChecks
open Go.RowKit

set_option maxRecDepth 100000 in
set_option maxHeartbeats 1000000 in
theorem walk (a : Option Addr) (cap : Nat) (zs : List Nat) (w : World) (h : Came1 w a cap zs) : Calls Try.prog 6 #[.slice a zs.length cap] w fun e w' => e = .returned (.bool true) ∧ Below w.heap.size w w' := by
  have hmx : zs.length ≤ maxLen := Nat.le_trans h.fits h.capm
  have hc := check_any a cap zs w h.row h.all hmx h.fits
  go_enter Try.func6, Try.ntmps6
  go_wp2_with fail
  refine hc.mono ?_
  rintro e w1 ⟨rfl, hb1⟩
  clear hc
  have hp := plain_any a cap zs w1 (h.row.below hb1) (by have := h.size; omega)
  go_wp2_with fail
  refine hp.mono ?_
  rintro e w2 ⟨⟨g, rfl, hr2⟩, hb2⟩
  clear hp
  have hq := rcheck_any (some ⟨g, 0, none⟩) zs.length zs w2 hr2 h.all hmx
  have hb3 := hb1.trans (hb2.mono hb1.size)
  clear hb1 hb2 hr2
  go_wp2_with fail
  refine hq.mono ?_
  rintro e w3 ⟨rfl, hb4⟩
  have hb5 := hb3.trans (hb4.mono hb3.size)
  clear hq hb3 hb4
  have hd : (((checkOf zs : Nat) : Int) == ((checkOf zs : Nat) : Int)) = true := by simp
  go_wp2_with (go_at_call 9; refine (awake_any _).mono ?_; rintro e w4 ⟨rfl, hb6⟩)
  go_ret
  exact ⟨rfl, hb5.trans (hb6.mono hb5.size)⟩

end Go.Proofs.Ytlogemklballiaa.labelChecks

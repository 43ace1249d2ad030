/- The law on Below, walked. -/
import Derived.Test.YtmpjbnapfbcdfaaCk4
import Derived.Test.YtmpjbnapfbcdfaaOpenIn
namespace Go.Proofs.Ytmpjbnapfbcdfaa.stampBelow
open Go.RowKit

set_option maxRecDepth 100000 in
set_option maxHeartbeats 400000 in
theorem walk (a : Option Addr) (ca : Nat) (xs : List Int) (b : Option Addr) (cb : Nat) (ys : List Int) (w : World) (ha : CameI w a ca xs) (hb : CameI w b cb ys) :
    Calls Try.prog 5 #[.slice a xs.length ca, .slice b ys.length cb] w fun e w' => e = .returned (.bool true) ∧ Below w.heap.size w w' := by
  have hxl := ha.size
  have hyl := hb.size
  go_enter Try.func5, Try.ntmps5
  go_wp2_with fail
  refine (head_any _).mono ?_
  rintro e w1 ⟨rfl, b1⟩
  have h2 := copied_any a ca xs w1 (ha.below b1).row (by omega) ha.none
  have z1 := b1.size
  go_wp2_with fail
  refine h2.mono ?_
  rintro e w2 ⟨⟨r2, rfl, o2⟩, b2⟩
  have b2' := b1.trans (b2.mono z1)
  have z2 := b2'.size
  have h3 := copied_any b cb ys w2 (hb.below b2').row (by omega) hb.none
  clear h2
  go_wp2_with fail
  refine h3.mono ?_
  rintro e w3 ⟨⟨r3, rfl, o3⟩, b3⟩
  have b3' := b2'.trans (b3.mono z2)
  have z3 := b3'.size
  obtain ⟨pa, qa, rfl, hpa, _, _, _⟩ := (o2.below b3).row
  obtain ⟨pb, qb, rfl, hpb, _, _, _⟩ := o3.row
  have h4 := below_any pa pb qa qb xs ys w3 hpa hpb (by omega)
  clear h3 o2 o3 hpa hpb
  go_wp2_with fail
  refine h4.mono ?_
  rintro e w4 ⟨rfl, b4⟩
  have b4' := b3'.trans (b4.mono z3)
  have z4 := b4'.size
  have h5 := rbelow_any a b ca cb xs ys w4 (ha.below b4').row (hb.below b4').row (by omega)
  clear h4
  generalize underB xs ys = B at *
  go_wp2_with (refine h5.mono ?_; rintro e w5 ⟨rfl, b5⟩)
  go_ret
  exact ⟨by simp, b4'.trans (b5.mono z4)⟩
end Go.Proofs.Ytmpjbnapfbcdfaa.stampBelow

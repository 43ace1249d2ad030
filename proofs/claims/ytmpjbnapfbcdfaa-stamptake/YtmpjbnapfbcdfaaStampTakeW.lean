/- The law on Take, walked. -/
import Derived.Test.YtmpjbnapfbcdfaaCk7
import Derived.Test.YtmpjbnapfbcdfaaOpenIn
namespace Go.Proofs.Ytmpjbnapfbcdfaa.stampTake
open Go.RowKit

set_option maxRecDepth 100000 in
set_option maxHeartbeats 400000 in
theorem walk (a : Option Addr) (n c : Nat) (A : Nat → Sta) (b : Option Addr) (cb : Nat) (ps : List Int) (w : World) (ha : CameSta w a n A) (hb : CameI w b cb ps) :
    Calls Try.prog 4 #[.slice a n c, .slice b ps.length cb] w fun e w' => e = .returned (.bool true) ∧ Below w.heap.size w w' := by
  have hn := ha.size
  have hl := hb.size
  have h1 := clocks_any a n c A w ha
  clear ha
  go_enter Try.func4, Try.ntmps4
  go_wp2_with fail
  refine h1.mono ?_
  rintro e w1 ⟨⟨v1, v2, P, rfl, hc1⟩, b1⟩
  clear h1
  have z1 := b1.size
  go_wp2_with fail
  refine (head_any _).mono ?_
  rintro e w2 ⟨rfl, b2⟩
  have b2' := b1.trans (b2.mono z1)
  have z2 := b2'.size
  have hc2 := hc1.below b2
  have h3 := copied_any b cb ps w2 (hb.below b2').row (by omega) hb.none
  clear hc1 b1 b2
  go_wp2_with fail
  refine h3.mono ?_
  rintro e w3 ⟨⟨r3, rfl, o3⟩, b3⟩
  have b3' := b2'.trans (b3.mono z2)
  have z3 := b3'.size
  have hc3 := hc2.below b3
  obtain ⟨pa, ca, rfl, hpa, _, _⟩ := hc3.rowP
  obtain ⟨pb, qb, rfl, hpb, _, _, _⟩ := o3.row
  have h4 := take_any pa n ca (mkC A) P pb qb ps w3 hpa hc3.pk hc3.ok hpb (by omega) (by omega)
  clear h3 o3 hpa hpb hc2
  go_wp2_with fail
  refine h4.mono ?_
  rintro e w4 ⟨⟨r4, rfl, o4⟩, b4⟩
  have b4' := b3'.trans (b4.mono z3)
  have z4 := b4'.size
  have hc4 := hc3.below b4
  obtain ⟨pk, qk, rfl, hpk, _⟩ := hc4.rowK
  have h5 := rtake_any pk n qk (mkC A) b cb ps w4 hpk (hb.below b4').row (by omega) (by omega)
  clear h4 hc3 hpk hc4
  go_wp2_with fail
  refine h5.mono ?_
  rintro e w5 ⟨⟨r5, rfl, o5⟩, b5⟩
  have b5' := b4'.trans (b5.mono z4)
  have z5 := b5'.size
  obtain ⟨p6, q6, rfl, hp6, _, _, _⟩ := (o4.below b5).row
  obtain ⟨p7, q7, rfl, hp7, _, _, _⟩ := o5.row
  have h6 := same_any p6 p7 q6 q7 _ _ w5 hp6 hp7 (by rw [vecOf_len]; omega)
  clear h5 o4 o5 hp6 hp7
  rw [vecOf_len] at *
  go_wp2_with (refine h6.mono ?_; rintro e w6 ⟨rfl, b6⟩)
  go_ret
  exact ⟨by simp, b5'.trans (b6.mono z5)⟩
end Go.Proofs.Ytmpjbnapfbcdfaa.stampTake

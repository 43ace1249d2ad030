/- That LabelCovers answers true of every list of at most 1048576 labels. -/
import Derived.Test.YthclmkmajlinhaaCv3
import Derived.Test.YthclmkmajlinhaaCmp2
import Derived.Test.YthclmkmajlinhaaAwake2
import Derived.Test.YthclmkmajlinhaaOpen
namespace Go.Proofs.Ythclmkmajlinhaa.labelCovers
open Go.RowKit

set_option maxRecDepth 100000 in
set_option maxHeartbeats 2000000 in
theorem walk (N : Nat) (hN : SortsL N) (hbig : 1048576 ≤ N) (M : Nat) (hM : SortsI M) (hbigM : 1048576 ≤ M) (a : Option Addr) (cap : Nat) (zs : List Nat) (w : World) (h : Came1 w a cap zs) (hl : zs.length ≤ 1048576) : Calls Try.prog 3 #[.slice a zs.length cap] w fun e w' => e = .returned (.bool true) ∧ Below w.heap.size w w' := by
  have hc := covers_any a cap zs w M hM (by omega) (distinct_any N hN zs (by omega) (by omega)) h.row h.all hl h.none
  go_enter Try.func3, Try.ntmps3
  go_wp2_with fail
  refine hc.mono ?_
  rintro e w1 ⟨hb1, v, C, fa, rfl, hm, hst, hab, hown⟩
  rw [prsTo_eq hm hst hab] at hown
  obtain ⟨pa, pc, hv, hrp, _⟩ := rowP_of_owns hown
  subst hv
  clear hc hm hst hab hown
  have hp := plain_any a cap zs w1 (h.row.below hb1) (by omega)
  go_wp2_with fail
  refine hp.mono ?_
  rintro e w2 ⟨⟨g2, rfl, hr2⟩, hb2⟩
  clear hp
  have hq := rcovers_any (some ⟨g2, 0, none⟩) zs.length zs w2 hr2 h.all hl
  have hb12 := hb1.trans (hb2.mono hb1.size)
  have hrp2 := hrp.below hb2
  clear hb1 hb2 hr2 hrp
  go_wp2_with fail
  refine hq.mono ?_
  rintro e w3 ⟨⟨v3, rfl, hown3⟩, hb3⟩
  have hb13 := hb12.trans (hb3.mono hb12.size)
  have hrp3 := hrp2.below hb3
  obtain ⟨qa, qc, hv, hrq, _⟩ := rowP_of_owns hown3
  subst hv
  have hpl := prs_len zs zs.length
  have hpm : zs.length * zs.length ≤ 1048576 * 1048576 := Nat.mul_le_mul hl hl
  have hsi := samePairs_any pa qa pc qc (prs zs zs.length) w3 hrp3 hrq (by unfold maxLen; omega)
  clear hq hb12 hb3 hrp2 hrp3 hrq hown3 hpl hpm
  generalize prs zs zs.length = pr at *
  go_wp2_with fail
  refine hsi.mono ?_
  rintro e w4 ⟨rfl, hb4⟩
  have hb14 := hb13.trans (hb4.mono hb13.size)
  clear hsi hb13 hb4
  go_wp2_with fail
  refine (awake_any _).mono ?_
  rintro e w5 ⟨rfl, hb5⟩
  go_wp2_with fail
  go_ret
  exact ⟨rfl, hb14.trans (hb5.mono hb14.size)⟩

end Go.Proofs.Ythclmkmajlinhaa.labelCovers

/- That LabelCloses answers true of every list of labels. -/
import Derived.Test.YthclmkmajlinhaaRCl3
import Derived.Test.YthclmkmajlinhaaAwake2
import Derived.Test.YthclmkmajlinhaaOpen
namespace Go.Proofs.Ythclmkmajlinhaa.labelCloses
open Go.RowKit

set_option maxRecDepth 100000 in
set_option maxHeartbeats 2000000 in
theorem walk (N : Nat) (hN : SortsL N) (h16 : 16 ≤ N) (a : Option Addr) (cap : Nat) (zs : List Nat) (w : World) (h : Came1 w a cap zs) : Calls Try.prog 5 #[.slice a zs.length cap] w fun e w' => e = .returned (.bool true) ∧ Below w.heap.size w w' := by
  have hmx : zs.length ≤ maxLen := Nat.le_trans h.fits h.capm
  have hc := close_any N hN a cap zs w h.row h.all hmx (fun S _ hl _ => by omega)
  go_enter Try.func5, Try.ntmps5
  go_wp2_with fail
  refine hc.mono ?_
  rintro e w1 ⟨hb1, hor⟩
  clear hc
  have hp := plain_any a cap zs w1 (h.row.below hb1) (by have := h.size; omega)
  rcases hor with ⟨rfl, hno⟩ | ⟨v, C, rfl, hne, hcl, hown⟩
  · have HNO := hidden hno
    clear hno
    go_wp2_with fail
    refine hp.mono ?_
    rintro e w2 ⟨⟨g, rfl, hr2⟩, hb2⟩
    clear hp
    have hq := rclose_any (some ⟨g, 0, none⟩) zs.length zs w2 hr2 h.all hmx
    have hb3 := hb1.trans (hb2.mono hb1.size)
    clear hb1 hb2 hr2
    go_wp2_with fail
    refine hq.mono ?_
    rintro e w3 ⟨hor2, hb4⟩
    have hb5 := hb3.trans (hb4.mono hb3.size)
    clear hq hb3 hb4
    rcases hor2 with ⟨rfl, _⟩ | ⟨v2, C2, rfl, hne2, hcl2, hown2⟩
    · have hs := sameLabels_any none none 0 0 [] [] w3 (.inl rfl) (.inl rfl) (by simp)
      have hd : decide (([] : List Nat) = []) = true := rfl
      rw [hd] at hs
      clear hd
      go_wp2_with fail
      refine hs.mono ?_
      rintro e w4 ⟨rfl, hb6⟩
      have hb7 := hb5.trans (hb6.mono hb5.size)
      go_wp2_with fail
      refine (awake_any _).mono ?_
      rintro e w5 ⟨rfl, hb8⟩
      go_wp2_with fail
      go_ret
      exact ⟨rfl, hb7.trans (hb8.mono hb7.size)⟩
    · rcases HNO.out with e | e
      · exact absurd e hne2
      · exact absurd e hcl2.few
  · have HCL := hidden hcl
    have HNE := hidden hne
    obtain ⟨pa, pc, hv, hrow, _⟩ := row_of_owns hown
    subst hv
    clear hcl hne
    go_wp2_with fail
    refine hp.mono ?_
    rintro e w2 ⟨⟨g, rfl, hr2⟩, hb2⟩
    clear hp
    have hq := rclose_any (some ⟨g, 0, none⟩) zs.length zs w2 hr2 h.all hmx
    have hb3 := hb1.trans (hb2.mono hb1.size)
    have hrow2 := hrow.below hb2
    clear hb1 hb2 hr2 hrow hown
    go_wp2_with fail
    refine hq.mono ?_
    rintro e w3 ⟨hor2, hb4⟩
    have hb5 := hb3.trans (hb4.mono hb3.size)
    have hrow3 := hrow2.below hb4
    clear hq hb3 hb4 hrow2
    rcases hor2 with ⟨rfl, hno⟩ | ⟨v2, C2, rfl, hne2, hcl2, hown2⟩
    · exfalso
      rcases hno with e | e
      · exact HNE.out e
      · exact HCL.out.few e
    · have hCC : C = C2 := HCL.out.unique hcl2
      obtain ⟨pa2, pc2, hv, hrow4, _, _⟩ := hown2.row
      subst hv
      have hlC : C.length ≤ maxLen := by have := HCL.out.len; unfold maxLen; omega
      have hs := sameLabels_any pa pa2 pc pc2 C C2 w3 hrow3 hrow4 hlC
      rw [decide_eq_true hCC] at hs
      clear hCC hcl2 hrow4 hrow3 hown2
      go_wp2_with fail
      refine hs.mono ?_
      rintro e w4 ⟨rfl, hb6⟩
      have hb7 := hb5.trans (hb6.mono hb5.size)
      go_wp2_with fail
      refine (awake_any _).mono ?_
      rintro e w5 ⟨rfl, hb8⟩
      go_wp2_with fail
      go_ret
      exact ⟨rfl, hb7.trans (hb8.mono hb7.size)⟩

end Go.Proofs.Ythclmkmajlinhaa.labelCloses

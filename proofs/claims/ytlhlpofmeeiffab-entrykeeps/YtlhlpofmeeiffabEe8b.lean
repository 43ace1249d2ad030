/- An entry taken off a reader: kind 2. -/
import Derived.Test.YtlhlpofmeeiffabEe7
namespace Go.Proofs.Ytlhlpofmeeiffab
open Go.RowKit

set_option maxRecDepth 100000 in
set_option maxHeartbeats 1000000 in
theorem take_2 (p : Nat) (s s1 : List Nat × Nat) (w : World) (hr : Rst w (some ⟨p, 0, none⟩) s) (h0 : rdOf 0 (takeFixed 1) s = (2, s1)) :
    Calls Try.prog 38 #[.pointer (some ⟨p, 0, none⟩)] w fun e w' => TkTo w p 2 s1 e w' := by
  have hcnt := fun w => countsOf_any 2 w
  have hcv : ((cnt 2 : Nat) : Int) = 1 := by decide
  simp only [hcv] at hcnt
  clear hcv
  have hx := take8 (some ⟨p, 0, none⟩) s (boxE w zeroEn none 0) (hr.below (boxE_below w zeroEn none 0))
  rw [h0] at hx
  obtain ⟨Q, hQ⟩ : ∃ Q, Q = TkTo w p 2 s1 := ⟨_, rfl⟩
  rw [← hQ]
  replace hQ := hide_it hQ
  go_enter Try.func38, Try.ntmps38
  go_wp2_with fail
  refine hx.mono ?_
  rintro e w1 ⟨rfl, hr1, hg1⟩
  have hT := TkS.start 2 hr hr1 hg1
  clear hx hr1 hg1 h0 hr
  go_wp2_with fail
  refine (hcnt _).mono ?_
  rintro e w' ⟨rfl, hq⟩
  have hq2 := hq.symm
  subst hq2
  clear hq hcnt
  go_wp2_with fail
  refine (have_lit 1 1 true _ (by decide)).mono ?_
  rintro e w' ⟨rfl, hq⟩
  have hq2 := hq.symm
  subst hq2
  clear hq
  obtain ⟨r1, e1⟩ : ∃ r, r = rdOf [] (takeCounted 255) s1 := ⟨_, rfl⟩
  have hx := text_any (some ⟨p, 0, none⟩) 255 s1 _ hT.rst (by omega) (by omega)
  rw [← e1] at hx
  replace e1 := hide_it e1
  go_wp2_with fail
  refine hx.mono ?_
  rintro e w2 ⟨rfl, hrs, hgs⟩
  have hT2 := hT.read hrs hgs
  obtain ⟨c0, c1, c2, c3, c4, c5⟩ := hT2.box.inE
  have hz := hT2.box.soft
  simp only at c0 c1 c2 c3 c4 c5
  clear hx hrs hgs hT
  go_wp2_with fail
  refine (have_lit 1 2 false _ (by decide)).mono ?_
  rintro e w' ⟨rfl, hq⟩
  have hq2 := hq.symm
  subst hq2
  clear hq
  clear c0 c1 c2 c3 c4 c5 hz
  have hU := hT2.setK (strOf r1.1)
  clear hT2
  have hT2 := hU
  clear hU
  go_wp2_with fail
  refine (have_lit 1 4 false _ (by decide)).mono ?_
  rintro e w' ⟨rfl, hq⟩
  have hq2 := hq.symm
  subst hq2
  clear hq
  go_wp2_with fail
  refine (have_lit 1 8 false _ (by decide)).mono ?_
  rintro e w' ⟨rfl, hq⟩
  have hq2 := hq.symm
  subst hq2
  clear hq
  go_wp2_with fail
  refine (have_lit 1 16 false _ (by decide)).mono ?_
  rintro e w' ⟨rfl, hq⟩
  have hq2 := hq.symm
  subst hq2
  clear hq
  obtain ⟨c0, c1, c2, c3, c4, c5⟩ := hT2.box.inE
  have hz := hT2.box.soft
  obtain ⟨d0, d1, d2, d3, d4, d5⟩ := hT2.res.inE
  have hy := hT2.res.soft
  simp only at c0 c1 c2 c3 c4 c5 d0 d1 d2 d3 d4 d5
  go_wp2_with fail
  have HTk : tkE 2 s1 = ((⟨2, 0, 0, (strOf r1.1), [], false⟩, true), r1.2) := by
    have qK : rK 2 s1 = r1 := e1.out.symm
    have qS : rS 2 r1.2 = (0, r1.2) := rfl
    have qC : rC 2 r1.2 = (0, r1.2) := rfl
    have qD : rD 2 r1.2 = (0, r1.2) := rfl
    have qV : rV 2 r1.2 = ([], r1.2) := rfl
    unfold tkE
    simp only [qK, qS, qC, qD, qV]
    try rfl
  obtain ⟨f1, f2⟩ := fill_any hT2.rst hT2.res hT2.grow hT2.lt ⟨2, 0, 0, (strOf r1.1), [], false⟩ none 0
  rw [hQ.out]
  exact bodyPost_ret (v := .tuple #[valE ⟨2, 0, 0, (strOf r1.1), [], false⟩ none 0, .bool true]) (by simp [results, Try.results38, go_sem, d0, d1, d2, d3, d4, d5]) rfl ⟨none, 0, by rw [HTk], by rw [HTk]; exact World.ownsRow_nil _ _ _ _, by rw [HTk]; exact f1, f2⟩
end Go.Proofs.Ytlhlpofmeeiffab

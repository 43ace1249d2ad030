/- An entry taken off a reader: kind 6. -/
import Derived.Test.YtlhlpofmeeiffabEe7
namespace Go.Proofs.Ytlhlpofmeeiffab
open Go.RowKit

set_option maxRecDepth 100000 in
set_option maxHeartbeats 1000000 in
theorem take_6 (p : Nat) (s s1 : List Nat × Nat) (w : World) (hr : Rst w (some ⟨p, 0, none⟩) s) (h0 : rdOf 0 (takeFixed 1) s = (6, s1)) :
    Calls Try.prog 38 #[.pointer (some ⟨p, 0, none⟩)] w fun e w' => TkTo w p 6 s1 e w' := by
  have hcnt := fun w => countsOf_any 6 w
  have hcv : ((cnt 6 : Nat) : Int) = 6 := by decide
  simp only [hcv] at hcnt
  clear hcv
  have hx := take8 (some ⟨p, 0, none⟩) s (boxE w zeroEn none 0) (hr.below (boxE_below w zeroEn none 0))
  rw [h0] at hx
  obtain ⟨Q, hQ⟩ : ∃ Q, Q = TkTo w p 6 s1 := ⟨_, rfl⟩
  rw [← hQ]
  replace hQ := hide_it hQ
  go_enter Try.func38, Try.ntmps38
  go_wp2_with fail
  refine hx.mono ?_
  rintro e w1 ⟨rfl, hr1, hg1⟩
  have hT := TkS.start 6 hr hr1 hg1
  clear hx hr1 hg1 h0 hr
  go_wp2_with fail
  refine (hcnt _).mono ?_
  rintro e w' ⟨rfl, hq⟩
  have hq2 := hq.symm
  subst hq2
  clear hq hcnt
  go_wp2_with fail
  refine (have_lit 6 1 false _ (by decide)).mono ?_
  rintro e w' ⟨rfl, hq⟩
  have hq2 := hq.symm
  subst hq2
  clear hq
  go_wp2_with fail
  refine (have_lit 6 2 true _ (by decide)).mono ?_
  rintro e w' ⟨rfl, hq⟩
  have hq2 := hq.symm
  subst hq2
  clear hq
  obtain ⟨r1, e1⟩ : ∃ r, r = rdOf 0 (takeShort 0 4611686018427387904) s1 := ⟨_, rfl⟩
  have hx := int_any (some ⟨p, 0, none⟩) 0 4611686018427387904 s1 _ hT.rst (by omega) (by omega) (by omega) (by omega)
  rw [← e1] at hx
  replace e1 := hide_it e1
  go_wp2_with fail
  refine hx.mono ?_
  rintro e w2 ⟨rfl, hrs, hgs⟩
  have hT2 := hT.read hrs hgs
  obtain ⟨c0, c1, c2, c3, c4, c5⟩ := hT2.box.inE
  have hz := hT2.box.soft
  simp only at c0 c1 c2 c3 c4 c5
  clear hx hrs hgs hT
  go_wp2_with fail
  refine (have_lit 6 4 true _ (by decide)).mono ?_
  rintro e w' ⟨rfl, hq⟩
  have hq2 := hq.symm
  subst hq2
  clear hq
  clear c0 c1 c2 c3 c4 c5 hz
  have hU := hT2.setS r1.1
  clear hT2
  have hT2 := hU
  clear hU
  obtain ⟨r2, e2⟩ : ∃ r, r = rdOf 0 (takeShort 0 2147483647) r1.2 := ⟨_, rfl⟩
  have hx := int_any (some ⟨p, 0, none⟩) 0 2147483647 r1.2 _ hT2.rst (by omega) (by omega) (by omega) (by omega)
  rw [← e2] at hx
  replace e2 := hide_it e2
  go_wp2_with fail
  refine hx.mono ?_
  rintro e w3 ⟨rfl, hrs, hgs⟩
  have hT3 := hT2.read hrs hgs
  obtain ⟨c0, c1, c2, c3, c4, c5⟩ := hT3.box.inE
  have hz := hT3.box.soft
  simp only at c0 c1 c2 c3 c4 c5
  clear hx hrs hgs hT2
  go_wp2_with fail
  refine (have_lit 6 8 false _ (by decide)).mono ?_
  rintro e w' ⟨rfl, hq⟩
  have hq2 := hq.symm
  subst hq2
  clear hq
  clear c0 c1 c2 c3 c4 c5 hz
  have hU := hT3.setC r2.1
  clear hT3
  have hT3 := hU
  clear hU
  go_wp2_with fail
  refine (have_lit 6 16 false _ (by decide)).mono ?_
  rintro e w' ⟨rfl, hq⟩
  have hq2 := hq.symm
  subst hq2
  clear hq
  obtain ⟨c0, c1, c2, c3, c4, c5⟩ := hT3.box.inE
  have hz := hT3.box.soft
  obtain ⟨d0, d1, d2, d3, d4, d5⟩ := hT3.res.inE
  have hy := hT3.res.soft
  simp only at c0 c1 c2 c3 c4 c5 d0 d1 d2 d3 d4 d5
  go_wp2_with fail
  have HTk : tkE 6 s1 = ((⟨6, r1.1, r2.1, .empty, [], false⟩, true), r2.2) := by
    have qK : rK 6 s1 = ([], s1) := rfl
    have qS : rS 6 s1 = r1 := e1.out.symm
    have qC : rC 6 r1.2 = r2 := e2.out.symm
    have qD : rD 6 r2.2 = (0, r2.2) := rfl
    have qV : rV 6 r2.2 = ([], r2.2) := rfl
    unfold tkE
    simp only [qK, qS, qC, qD, qV]
    try rfl
  obtain ⟨f1, f2⟩ := fill_any hT3.rst hT3.res hT3.grow hT3.lt ⟨6, r1.1, r2.1, .empty, [], false⟩ none 0
  rw [hQ.out]
  exact bodyPost_ret (v := .tuple #[valE ⟨6, r1.1, r2.1, .empty, [], false⟩ none 0, .bool true]) (by simp [results, Try.results38, go_sem, d0, d1, d2, d3, d4, d5]) rfl ⟨none, 0, by rw [HTk], by rw [HTk]; exact World.ownsRow_nil _ _ _ _, by rw [HTk]; exact f1, f2⟩
end Go.Proofs.Ytlhlpofmeeiffab

/- An entry taken off a reader: kind 1. -/
import Derived.Test.YtlhlpofmeeiffabEe7
namespace Go.Proofs.Ytlhlpofmeeiffab
open Go.RowKit

set_option maxRecDepth 100000 in
set_option maxHeartbeats 400000 in
theorem take_1 (p : Nat) (s s1 : List Nat × Nat) (w : World) (hr : Rst w (some ⟨p, 0, none⟩) s) (h0 : rdOf 0 (takeFixed 1) s = (1, s1)) :
    Calls Try.prog 38 #[.pointer (some ⟨p, 0, none⟩)] w fun e w' => TkTo w p 1 s1 e w' := by
  have hcnt := fun w => countsOf_any 1 w
  have hcv : ((cnt 1 : Nat) : Int) = 17 := by decide
  simp only [hcv] at hcnt
  clear hcv
  have hx := take8 (some ⟨p, 0, none⟩) s (boxE w zeroEn none 0) (hr.below (boxE_below w zeroEn none 0))
  rw [h0] at hx
  obtain ⟨Q, hQ⟩ : ∃ Q, Q = TkTo w p 1 s1 := ⟨_, rfl⟩
  rw [← hQ]
  replace hQ := hide_it hQ
  go_enter Try.func38, Try.ntmps38
  go_wp2_with fail
  refine hx.mono ?_
  rintro e w1 ⟨rfl, hr1, hg1⟩
  have hT := TkS.start 1 hr hr1 hg1
  clear hx hr1 hg1 h0 hr
  go_wp2_with fail
  refine (hcnt _).mono ?_
  rintro e w' ⟨rfl, hq⟩
  have hq2 := hq.symm
  subst hq2
  clear hq hcnt
  go_wp2_with fail
  refine (have_lit 17 1 true _ (by decide)).mono ?_
  rintro e w' ⟨rfl, hq⟩
  have hq2 := hq.symm
  subst hq2
  clear hq
  obtain ⟨r1, e1⟩ : ∃ r, r = rdOf [] (takeCounted 255) s1 := ⟨_, rfl⟩
  have hx := text_any (some ⟨p, 0, none⟩) 255 s1 _ hT.rst (by omega) (by omega)
  rw [← e1] at hx
  replace e1 := hide_it e1
  go_wp2_with fail
  refine hx.mono ?_
  rintro e w2 ⟨rfl, hrs, hgs⟩
  have hT2 := hT.read hrs hgs
  obtain ⟨c0, c1, c2, c3, c4, c5⟩ := hT2.box.inE
  have hz := hT2.box.soft
  simp only at c0 c1 c2 c3 c4 c5
  clear hx hrs hgs hT
  go_wp2_with fail
  refine (have_lit 17 2 false _ (by decide)).mono ?_
  rintro e w' ⟨rfl, hq⟩
  have hq2 := hq.symm
  subst hq2
  clear hq
  clear c0 c1 c2 c3 c4 c5 hz
  have hU := hT2.setK (strOf r1.1)
  clear hT2
  have hT2 := hU
  clear hU
  go_wp2_with fail
  refine (have_lit 17 4 false _ (by decide)).mono ?_
  rintro e w' ⟨rfl, hq⟩
  have hq2 := hq.symm
  subst hq2
  clear hq
  go_wp2_with fail
  refine (have_lit 17 8 false _ (by decide)).mono ?_
  rintro e w' ⟨rfl, hq⟩
  have hq2 := hq.symm
  subst hq2
  clear hq
  go_wp2_with fail
  refine (have_lit 17 16 true _ (by decide)).mono ?_
  rintro e w' ⟨rfl, hq⟩
  have hq2 := hq.symm
  subst hq2
  clear hq
  obtain ⟨r2, e2⟩ : ∃ r, r = rdOf [] (takeCounted 4096) r1.2 := ⟨_, rfl⟩
  have hx := bytes_any (some ⟨p, 0, none⟩) 4096 r1.2 _ hT2.rst (by omega) (by omega) (by omega)
  rw [← e2] at hx
  replace e2 := hide_it e2
  go_wp2_with fail
  refine hx.mono ?_
  rintro e w3 ⟨⟨v, rfl, hown⟩, hrs, hgs⟩
  have hT3 := hT2.read hrs hgs
  have hEs := hT2.box.lt
  have hRs := hT2.res.lt
  obtain ⟨a, cp, hv, _⟩ := hown.row
  subst hv
  replace hown := hide_it hown
  replace hEs := hide_it hEs
  replace hRs := hide_it hRs
  have c4' := hT3.box.inE.c4
  have hz' := hT3.box.soft 4
  obtain ⟨hW, hWr⟩ := hT3.val r2.1 a cp
  obtain ⟨c0, c1, c2, c3, c4, c5⟩ := hW.inE
  have hz := hW.soft
  obtain ⟨d0, d1, d2, d3, d4, d5⟩ := hWr.inE
  have hy := hWr.soft
  simp only at c4' c0 c1 c2 c3 c4 c5 d0 d1 d2 d3 d4 d5
  clear hW hWr
  clear hx hrs hgs hT2
  go_wp2_with fail
  have HTk : tkE 1 s1 = ((⟨1, 0, 0, (strOf r1.1), r2.1, false⟩, true), r2.2) := by
    have qK : rK 1 s1 = r1 := e1.out.symm
    have qS : rS 1 r1.2 = (0, r1.2) := rfl
    have qC : rC 1 r1.2 = (0, r1.2) := rfl
    have qD : rD 1 r1.2 = (0, r1.2) := rfl
    have qV : rV 1 r1.2 = r2 := e2.out.symm
    unfold tkE
    simp only [qK, qS, qC, qD, qV]
    try rfl
  obtain ⟨f1, f2⟩ := fill_any (hT3.rst.set_ent hT3.box (by have := hT3.lt; have := hT3.eg; omega) 4 (.slice a r2.1.length cp)) (hT3.res.far (by have := hT3.eg; omega) 4 (.slice a r2.1.length cp)) (grown_new hT3.grow (by have := hT3.eg; omega) 4 (.slice a r2.1.length cp)) hT3.lt ⟨1, 0, 0, (strOf r1.1), r2.1, false⟩ a cp
  have f3 := ((hown.out.set_old hEs.out 4 (.slice a r2.1.length cp)).fill hRs.out ⟨1, 0, 0, (strOf r1.1), r2.1, false⟩ a cp).mono (Nat.le_of_lt hRs.out)
  rw [hQ.out]
  exact bodyPost_ret (v := .tuple #[valE ⟨1, 0, 0, (strOf r1.1), r2.1, false⟩ a cp, .bool true]) (by simp [results, Try.results38, go_sem, d0, d1, d2, d3, d4, d5]) rfl ⟨a, cp, by rw [HTk], by rw [HTk]; exact f3, by rw [HTk]; exact f1, f2⟩
end Go.Proofs.Ytlhlpofmeeiffab

/- An entry taken off a reader: kind 0. -/
import Derived.Test.YtlhlpofmeeiffabEe7
namespace Go.Proofs.Ytlhlpofmeeiffab
open Go.RowKit

set_option maxRecDepth 100000 in
set_option maxHeartbeats 1000000 in
theorem take_0 (p k : Nat) (s s1 : List Nat × Nat) (w : World) (hr : Rst w (some ⟨p, 0, none⟩) s) (h0 : rdOf 0 (takeFixed 1) s = (k, s1)) (hk8 : k < 256) (hkn : ¬ (1 ≤ (k : Int) ∧ (k : Int) ≤ 6)) :
    Calls Try.prog 38 #[.pointer (some ⟨p, 0, none⟩)] w fun e w' => TkTo w p (k : Int) s1 e w' := by
  have hcnt := fun w => countsOf_any (k : Int) w
  have hc0 := cnt_none hkn
  rw [hc0] at hcnt
  clear hc0
  have hcv : ((0 : Nat) : Int) = 0 := rfl
  simp only [hcv] at hcnt
  clear hcv
  have hx := take8 (some ⟨p, 0, none⟩) s (boxE w zeroEn none 0) (hr.below (boxE_below w zeroEn none 0))
  rw [h0] at hx
  have HK := hide_it hkn
  clear hkn
  obtain ⟨Q, hQ⟩ : ∃ Q, Q = TkTo w p (k : Int) s1 := ⟨_, rfl⟩
  rw [← hQ]
  replace hQ := hide_it hQ
  go_enter Try.func38, Try.ntmps38
  go_wp2_with fail
  refine hx.mono ?_
  rintro e w1 ⟨rfl, hr1, hg1⟩
  have hT := TkS.start (k : Int) hr hr1 hg1
  clear hx hr1 hg1 h0 hr
  go_wp2_with fail
  refine (hcnt _).mono ?_
  rintro e w' ⟨rfl, hq⟩
  have hq2 := hq.symm
  subst hq2
  clear hq hcnt
  go_wp2_with fail
  refine (have_lit 0 1 false _ (by decide)).mono ?_
  rintro e w' ⟨rfl, hq⟩
  have hq2 := hq.symm
  subst hq2
  clear hq
  go_wp2_with fail
  refine (have_lit 0 2 false _ (by decide)).mono ?_
  rintro e w' ⟨rfl, hq⟩
  have hq2 := hq.symm
  subst hq2
  clear hq
  go_wp2_with fail
  refine (have_lit 0 4 false _ (by decide)).mono ?_
  rintro e w' ⟨rfl, hq⟩
  have hq2 := hq.symm
  subst hq2
  clear hq
  go_wp2_with fail
  refine (have_lit 0 8 false _ (by decide)).mono ?_
  rintro e w' ⟨rfl, hq⟩
  have hq2 := hq.symm
  subst hq2
  clear hq
  go_wp2_with fail
  refine (have_lit 0 16 false _ (by decide)).mono ?_
  rintro e w' ⟨rfl, hq⟩
  have hq2 := hq.symm
  subst hq2
  clear hq
  have hT2 : TkS w (w1.alloc (.cells #[.int .i64 (k : Int), .int .i64 0, .int .i64 0, .string ⟨#[]⟩, .slice none 0 0, .bool false] 24)) p w1.heap.size s1 ⟨(k : Int), 0, 0, .empty, [], false⟩ := hT
  clear hT
  generalize w1.alloc (.cells #[.int .i64 (k : Int), .int .i64 0, .int .i64 0, .string ⟨#[]⟩, .slice none 0 0, .bool false] 24) = W at hT2 ⊢
  have hT := hT2
  clear hT2
  obtain ⟨c0, c1, c2, c3, c4, c5⟩ := hT.box.inE
  have hz := hT.box.soft
  obtain ⟨d0, d1, d2, d3, d4, d5⟩ := hT.res.inE
  have hy := hT.res.soft
  simp only at c0 c1 c2 c3 c4 c5 d0 d1 d2 d3 d4 d5
  go_wp2_with fail
  obtain ⟨b1, b2, b3, b4, b5, b6⟩ := beq_none HK.out
  have hnK : hk (k : Int) = false := by simp [hk, b1, b2, b5]
  have hnS : hs (k : Int) = false := by simp [hs, b3, b4, b5, b6]
  have hnC : hc (k : Int) = false := by simp [hc, b3, b4, b6]
  have hnD : hd (k : Int) = false := by simp [hd, b5]
  have hnV : hv (k : Int) = false := by simp [hv, b1, b5]
  have HTk : tkE (k : Int) s1 = ((⟨(k : Int), 0, 0, .empty, [], false⟩, true), s1) := by
    have qK : rK (k : Int) s1 = ([], s1) := by unfold rK; rw [hnK]; rfl
    have qS : rS (k : Int) s1 = (0, s1) := by unfold rS; rw [hnS]; rfl
    have qC : rC (k : Int) s1 = (0, s1) := by unfold rC; rw [hnC]; rfl
    have qD : rD (k : Int) s1 = (0, s1) := by unfold rD; rw [hnD]; rfl
    have qV : rV (k : Int) s1 = ([], s1) := by unfold rV; rw [hnV]; rfl
    unfold tkE
    simp only [qK, qS, qC, qD, qV]
    try rfl
  obtain ⟨f1, f2⟩ := fill_any hT.rst hT.res hT.grow hT.lt ⟨(k : Int), 0, 0, .empty, [], false⟩ none 0
  rw [hQ.out]
  exact bodyPost_ret (v := .tuple #[valE ⟨(k : Int), 0, 0, .empty, [], false⟩ none 0, .bool true]) (by simp [results, Try.results38, go_sem, d0, d1, d2, d3, d4, d5]) rfl ⟨none, 0, by rw [HTk], by rw [HTk]; exact World.ownsRow_nil _ _ _ _, by rw [HTk]; exact f1, f2⟩
end Go.Proofs.Ytlhlpofmeeiffab

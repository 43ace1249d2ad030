/- An entry taken off a reader: kind 0. An entry taken off a reader: kind 1. An entry taken off a reader: kind 2. An entry taken off a reader: kind 3. An entry taken off a reader: kind 4. An entry taken off a reader: kind 5. An entry taken off a reader: kind 6. -/
import Derived.Test.YtkacfpmninmjkaaGreatEe7
namespace Go.Proofs.YtkacfpmninmjkaaGreat
open Go.RowKit

set_option maxRecDepth 100000 in
set_option maxHeartbeats 1000000 in
theorem take_0 (p k : Nat) (s s1 : List Nat × Nat) (w : World) (hr : Rst w (some ⟨p, 0, none⟩) s) (h0 : rdOf 0 (takeFixed 1) s = (k, s1)) (hk8 : k < 256) (hkn : ¬ (1 ≤ (k : Int) ∧ (k : Int) ≤ 6)) :
    Calls Tryz.prog 83 #[.pointer (some ⟨p, 0, none⟩)] w fun e w' => TkTo w p (k : Int) s1 e w' := by
  have hcnt := fun w => countsOf_any (k : Int) w
  have hc0 := cnt_none hkn
  rw [hc0] at hcnt
  clear hc0
  have hcv : ((0 : Nat) : Int) = 0 := rfl
  simp only [hcv] at hcnt
  clear hcv
  have hx := take8 (some ⟨p, 0, none⟩) s (boxE w zeroEn none 0) (hr.below (boxE_below w zeroEn none 0))
  rw [h0] at hx
  have HK := hide_it hkn
  clear hkn
  obtain ⟨Q, hQ⟩ : ∃ Q, Q = TkTo w p (k : Int) s1 := ⟨_, rfl⟩
  rw [← hQ]
  replace hQ := hide_it hQ
  go_enter Tryz.func83, Tryz.ntmps83
  go_wp2_with fail
  refine hx.mono ?_
  rintro e w1 ⟨rfl, hr1, hg1⟩
  have hT := TkS.start (k : Int) hr hr1 hg1
  clear hx hr1 hg1 h0 hr
  go_wp2_with fail
  refine (hcnt _).mono ?_
  rintro e w' ⟨rfl, hq⟩
  have hq2 := hq.symm
  subst hq2
  clear hq hcnt
  go_wp2_with fail
  refine (have_lit 0 1 false _ (by decide)).mono ?_
  rintro e w' ⟨rfl, hq⟩
  have hq2 := hq.symm
  subst hq2
  clear hq
  go_wp2_with fail
  refine (have_lit 0 2 false _ (by decide)).mono ?_
  rintro e w' ⟨rfl, hq⟩
  have hq2 := hq.symm
  subst hq2
  clear hq
  go_wp2_with fail
  refine (have_lit 0 4 false _ (by decide)).mono ?_
  rintro e w' ⟨rfl, hq⟩
  have hq2 := hq.symm
  subst hq2
  clear hq
  go_wp2_with fail
  refine (have_lit 0 8 false _ (by decide)).mono ?_
  rintro e w' ⟨rfl, hq⟩
  have hq2 := hq.symm
  subst hq2
  clear hq
  go_wp2_with fail
  refine (have_lit 0 16 false _ (by decide)).mono ?_
  rintro e w' ⟨rfl, hq⟩
  have hq2 := hq.symm
  subst hq2
  clear hq
  have hT2 : TkS w (w1.alloc (.cells #[.int .i64 (k : Int), .int .i64 0, .int .i64 0, .string ⟨#[]⟩, .slice none 0 0, .bool false] 77)) p w1.heap.size s1 ⟨(k : Int), 0, 0, .empty, [], false⟩ := hT
  clear hT
  generalize w1.alloc (.cells #[.int .i64 (k : Int), .int .i64 0, .int .i64 0, .string ⟨#[]⟩, .slice none 0 0, .bool false] 77) = W at hT2 ⊢
  have hT := hT2
  clear hT2
  obtain ⟨c0, c1, c2, c3, c4, c5⟩ := hT.box.inE
  have hz := hT.box.soft
  obtain ⟨d0, d1, d2, d3, d4, d5⟩ := hT.res.inE
  have hy := hT.res.soft
  simp only at c0 c1 c2 c3 c4 c5 d0 d1 d2 d3 d4 d5
  go_wp2_with fail
  obtain ⟨b1, b2, b3, b4, b5, b6⟩ := beq_none HK.out
  have hnK : hk (k : Int) = false := by simp [hk, b1, b2, b5]
  have hnS : hs (k : Int) = false := by simp [hs, b3, b4, b5, b6]
  have hnC : hc (k : Int) = false := by simp [hc, b3, b4, b6]
  have hnD : hd (k : Int) = false := by simp [hd, b5]
  have hnV : hv (k : Int) = false := by simp [hv, b1, b5]
  have HTk : tkE (k : Int) s1 = ((⟨(k : Int), 0, 0, .empty, [], false⟩, true), s1) := by
    have qK : rK (k : Int) s1 = ([], s1) := by unfold rK; rw [hnK]; rfl
    have qS : rS (k : Int) s1 = (0, s1) := by unfold rS; rw [hnS]; rfl
    have qC : rC (k : Int) s1 = (0, s1) := by unfold rC; rw [hnC]; rfl
    have qD : rD (k : Int) s1 = (0, s1) := by unfold rD; rw [hnD]; rfl
    have qV : rV (k : Int) s1 = ([], s1) := by unfold rV; rw [hnV]; rfl
    unfold tkE
    simp only [qK, qS, qC, qD, qV]
    try rfl
  obtain ⟨f1, f2⟩ := fill_any hT.rst hT.res hT.grow hT.lt ⟨(k : Int), 0, 0, .empty, [], false⟩ none 0
  rw [hQ.out]
  exact bodyPost_ret (v := .tuple #[valE ⟨(k : Int), 0, 0, .empty, [], false⟩ none 0, .bool true]) (by simp [results, Tryz.results83, go_sem, d0, d1, d2, d3, d4, d5]) rfl ⟨none, 0, by rw [HTk], by rw [HTk]; exact World.ownsRow_nil _ _ _ _, by rw [HTk]; exact f1, f2⟩
end Go.Proofs.YtkacfpmninmjkaaGreat

namespace Go.Proofs.YtkacfpmninmjkaaGreat
open Go.RowKit

set_option maxRecDepth 100000 in
set_option maxHeartbeats 400000 in
theorem take_1 (p : Nat) (s s1 : List Nat × Nat) (w : World) (hr : Rst w (some ⟨p, 0, none⟩) s) (h0 : rdOf 0 (takeFixed 1) s = (1, s1)) :
    Calls Tryz.prog 83 #[.pointer (some ⟨p, 0, none⟩)] w fun e w' => TkTo w p 1 s1 e w' := by
  have hcnt := fun w => countsOf_any 1 w
  have hcv : ((cnt 1 : Nat) : Int) = 17 := by decide
  simp only [hcv] at hcnt
  clear hcv
  have hx := take8 (some ⟨p, 0, none⟩) s (boxE w zeroEn none 0) (hr.below (boxE_below w zeroEn none 0))
  rw [h0] at hx
  obtain ⟨Q, hQ⟩ : ∃ Q, Q = TkTo w p 1 s1 := ⟨_, rfl⟩
  rw [← hQ]
  replace hQ := hide_it hQ
  go_enter Tryz.func83, Tryz.ntmps83
  go_wp2_with fail
  refine hx.mono ?_
  rintro e w1 ⟨rfl, hr1, hg1⟩
  have hT := TkS.start 1 hr hr1 hg1
  clear hx hr1 hg1 h0 hr
  go_wp2_with fail
  refine (hcnt _).mono ?_
  rintro e w' ⟨rfl, hq⟩
  have hq2 := hq.symm
  subst hq2
  clear hq hcnt
  go_wp2_with fail
  refine (have_lit 17 1 true _ (by decide)).mono ?_
  rintro e w' ⟨rfl, hq⟩
  have hq2 := hq.symm
  subst hq2
  clear hq
  obtain ⟨r1, e1⟩ : ∃ r, r = rdOf [] (takeCounted 255) s1 := ⟨_, rfl⟩
  have hx := text_any (some ⟨p, 0, none⟩) 255 s1 _ hT.rst (by omega) (by omega)
  rw [← e1] at hx
  replace e1 := hide_it e1
  go_wp2_with fail
  refine hx.mono ?_
  rintro e w2 ⟨rfl, hrs, hgs⟩
  have hT2 := hT.read hrs hgs
  obtain ⟨c0, c1, c2, c3, c4, c5⟩ := hT2.box.inE
  have hz := hT2.box.soft
  simp only at c0 c1 c2 c3 c4 c5
  clear hx hrs hgs hT
  go_wp2_with fail
  refine (have_lit 17 2 false _ (by decide)).mono ?_
  rintro e w' ⟨rfl, hq⟩
  have hq2 := hq.symm
  subst hq2
  clear hq
  clear c0 c1 c2 c3 c4 c5 hz
  have hU := hT2.setK (strOf r1.1)
  clear hT2
  have hT2 := hU
  clear hU
  go_wp2_with fail
  refine (have_lit 17 4 false _ (by decide)).mono ?_
  rintro e w' ⟨rfl, hq⟩
  have hq2 := hq.symm
  subst hq2
  clear hq
  go_wp2_with fail
  refine (have_lit 17 8 false _ (by decide)).mono ?_
  rintro e w' ⟨rfl, hq⟩
  have hq2 := hq.symm
  subst hq2
  clear hq
  go_wp2_with fail
  refine (have_lit 17 16 true _ (by decide)).mono ?_
  rintro e w' ⟨rfl, hq⟩
  have hq2 := hq.symm
  subst hq2
  clear hq
  obtain ⟨r2, e2⟩ : ∃ r, r = rdOf [] (takeCounted 4096) r1.2 := ⟨_, rfl⟩
  have hx := bytes_any (some ⟨p, 0, none⟩) 4096 r1.2 _ hT2.rst (by omega) (by omega) (by omega)
  rw [← e2] at hx
  replace e2 := hide_it e2
  go_wp2_with fail
  refine hx.mono ?_
  rintro e w3 ⟨⟨v, rfl, hown⟩, hrs, hgs⟩
  have hT3 := hT2.read hrs hgs
  have hEs := hT2.box.lt
  have hRs := hT2.res.lt
  obtain ⟨a, cp, hv, _⟩ := hown.row
  subst hv
  replace hown := hide_it hown
  replace hEs := hide_it hEs
  replace hRs := hide_it hRs
  have c4' := hT3.box.inE.c4
  have hz' := hT3.box.soft 4
  obtain ⟨hW, hWr⟩ := hT3.val r2.1 a cp
  obtain ⟨c0, c1, c2, c3, c4, c5⟩ := hW.inE
  have hz := hW.soft
  obtain ⟨d0, d1, d2, d3, d4, d5⟩ := hWr.inE
  have hy := hWr.soft
  simp only at c4' c0 c1 c2 c3 c4 c5 d0 d1 d2 d3 d4 d5
  clear hW hWr
  clear hx hrs hgs hT2
  go_wp2_with fail
  have HTk : tkE 1 s1 = ((⟨1, 0, 0, (strOf r1.1), r2.1, false⟩, true), r2.2) := by
    have qK : rK 1 s1 = r1 := e1.out.symm
    have qS : rS 1 r1.2 = (0, r1.2) := rfl
    have qC : rC 1 r1.2 = (0, r1.2) := rfl
    have qD : rD 1 r1.2 = (0, r1.2) := rfl
    have qV : rV 1 r1.2 = r2 := e2.out.symm
    unfold tkE
    simp only [qK, qS, qC, qD, qV]
    try rfl
  obtain ⟨f1, f2⟩ := fill_any (hT3.rst.set_ent hT3.box (by have := hT3.lt; have := hT3.eg; omega) 4 (.slice a r2.1.length cp)) (hT3.res.far (by have := hT3.eg; omega) 4 (.slice a r2.1.length cp)) (grown_new hT3.grow (by have := hT3.eg; omega) 4 (.slice a r2.1.length cp)) hT3.lt ⟨1, 0, 0, (strOf r1.1), r2.1, false⟩ a cp
  have f3 := ((hown.out.set_old hEs.out 4 (.slice a r2.1.length cp)).fill hRs.out ⟨1, 0, 0, (strOf r1.1), r2.1, false⟩ a cp).mono (Nat.le_of_lt hRs.out)
  rw [hQ.out]
  exact bodyPost_ret (v := .tuple #[valE ⟨1, 0, 0, (strOf r1.1), r2.1, false⟩ a cp, .bool true]) (by simp [results, Tryz.results83, go_sem, d0, d1, d2, d3, d4, d5]) rfl ⟨a, cp, by rw [HTk], by rw [HTk]; exact f3, by rw [HTk]; exact f1, f2⟩
end Go.Proofs.YtkacfpmninmjkaaGreat

namespace Go.Proofs.YtkacfpmninmjkaaGreat
open Go.RowKit

set_option maxRecDepth 100000 in
set_option maxHeartbeats 1000000 in
theorem take_2 (p : Nat) (s s1 : List Nat × Nat) (w : World) (hr : Rst w (some ⟨p, 0, none⟩) s) (h0 : rdOf 0 (takeFixed 1) s = (2, s1)) :
    Calls Tryz.prog 83 #[.pointer (some ⟨p, 0, none⟩)] w fun e w' => TkTo w p 2 s1 e w' := by
  have hcnt := fun w => countsOf_any 2 w
  have hcv : ((cnt 2 : Nat) : Int) = 1 := by decide
  simp only [hcv] at hcnt
  clear hcv
  have hx := take8 (some ⟨p, 0, none⟩) s (boxE w zeroEn none 0) (hr.below (boxE_below w zeroEn none 0))
  rw [h0] at hx
  obtain ⟨Q, hQ⟩ : ∃ Q, Q = TkTo w p 2 s1 := ⟨_, rfl⟩
  rw [← hQ]
  replace hQ := hide_it hQ
  go_enter Tryz.func83, Tryz.ntmps83
  go_wp2_with fail
  refine hx.mono ?_
  rintro e w1 ⟨rfl, hr1, hg1⟩
  have hT := TkS.start 2 hr hr1 hg1
  clear hx hr1 hg1 h0 hr
  go_wp2_with fail
  refine (hcnt _).mono ?_
  rintro e w' ⟨rfl, hq⟩
  have hq2 := hq.symm
  subst hq2
  clear hq hcnt
  go_wp2_with fail
  refine (have_lit 1 1 true _ (by decide)).mono ?_
  rintro e w' ⟨rfl, hq⟩
  have hq2 := hq.symm
  subst hq2
  clear hq
  obtain ⟨r1, e1⟩ : ∃ r, r = rdOf [] (takeCounted 255) s1 := ⟨_, rfl⟩
  have hx := text_any (some ⟨p, 0, none⟩) 255 s1 _ hT.rst (by omega) (by omega)
  rw [← e1] at hx
  replace e1 := hide_it e1
  go_wp2_with fail
  refine hx.mono ?_
  rintro e w2 ⟨rfl, hrs, hgs⟩
  have hT2 := hT.read hrs hgs
  obtain ⟨c0, c1, c2, c3, c4, c5⟩ := hT2.box.inE
  have hz := hT2.box.soft
  simp only at c0 c1 c2 c3 c4 c5
  clear hx hrs hgs hT
  go_wp2_with fail
  refine (have_lit 1 2 false _ (by decide)).mono ?_
  rintro e w' ⟨rfl, hq⟩
  have hq2 := hq.symm
  subst hq2
  clear hq
  clear c0 c1 c2 c3 c4 c5 hz
  have hU := hT2.setK (strOf r1.1)
  clear hT2
  have hT2 := hU
  clear hU
  go_wp2_with fail
  refine (have_lit 1 4 false _ (by decide)).mono ?_
  rintro e w' ⟨rfl, hq⟩
  have hq2 := hq.symm
  subst hq2
  clear hq
  go_wp2_with fail
  refine (have_lit 1 8 false _ (by decide)).mono ?_
  rintro e w' ⟨rfl, hq⟩
  have hq2 := hq.symm
  subst hq2
  clear hq
  go_wp2_with fail
  refine (have_lit 1 16 false _ (by decide)).mono ?_
  rintro e w' ⟨rfl, hq⟩
  have hq2 := hq.symm
  subst hq2
  clear hq
  obtain ⟨c0, c1, c2, c3, c4, c5⟩ := hT2.box.inE
  have hz := hT2.box.soft
  obtain ⟨d0, d1, d2, d3, d4, d5⟩ := hT2.res.inE
  have hy := hT2.res.soft
  simp only at c0 c1 c2 c3 c4 c5 d0 d1 d2 d3 d4 d5
  go_wp2_with fail
  have HTk : tkE 2 s1 = ((⟨2, 0, 0, (strOf r1.1), [], false⟩, true), r1.2) := by
    have qK : rK 2 s1 = r1 := e1.out.symm
    have qS : rS 2 r1.2 = (0, r1.2) := rfl
    have qC : rC 2 r1.2 = (0, r1.2) := rfl
    have qD : rD 2 r1.2 = (0, r1.2) := rfl
    have qV : rV 2 r1.2 = ([], r1.2) := rfl
    unfold tkE
    simp only [qK, qS, qC, qD, qV]
    try rfl
  obtain ⟨f1, f2⟩ := fill_any hT2.rst hT2.res hT2.grow hT2.lt ⟨2, 0, 0, (strOf r1.1), [], false⟩ none 0
  rw [hQ.out]
  exact bodyPost_ret (v := .tuple #[valE ⟨2, 0, 0, (strOf r1.1), [], false⟩ none 0, .bool true]) (by simp [results, Tryz.results83, go_sem, d0, d1, d2, d3, d4, d5]) rfl ⟨none, 0, by rw [HTk], by rw [HTk]; exact World.ownsRow_nil _ _ _ _, by rw [HTk]; exact f1, f2⟩
end Go.Proofs.YtkacfpmninmjkaaGreat

namespace Go.Proofs.YtkacfpmninmjkaaGreat
open Go.RowKit

set_option maxRecDepth 100000 in
set_option maxHeartbeats 1000000 in
theorem take_3 (p : Nat) (s s1 : List Nat × Nat) (w : World) (hr : Rst w (some ⟨p, 0, none⟩) s) (h0 : rdOf 0 (takeFixed 1) s = (3, s1)) :
    Calls Tryz.prog 83 #[.pointer (some ⟨p, 0, none⟩)] w fun e w' => TkTo w p 3 s1 e w' := by
  have hcnt := fun w => countsOf_any 3 w
  have hcv : ((cnt 3 : Nat) : Int) = 6 := by decide
  simp only [hcv] at hcnt
  clear hcv
  have hx := take8 (some ⟨p, 0, none⟩) s (boxE w zeroEn none 0) (hr.below (boxE_below w zeroEn none 0))
  rw [h0] at hx
  obtain ⟨Q, hQ⟩ : ∃ Q, Q = TkTo w p 3 s1 := ⟨_, rfl⟩
  rw [← hQ]
  replace hQ := hide_it hQ
  go_enter Tryz.func83, Tryz.ntmps83
  go_wp2_with fail
  refine hx.mono ?_
  rintro e w1 ⟨rfl, hr1, hg1⟩
  have hT := TkS.start 3 hr hr1 hg1
  clear hx hr1 hg1 h0 hr
  go_wp2_with fail
  refine (hcnt _).mono ?_
  rintro e w' ⟨rfl, hq⟩
  have hq2 := hq.symm
  subst hq2
  clear hq hcnt
  go_wp2_with fail
  refine (have_lit 6 1 false _ (by decide)).mono ?_
  rintro e w' ⟨rfl, hq⟩
  have hq2 := hq.symm
  subst hq2
  clear hq
  go_wp2_with fail
  refine (have_lit 6 2 true _ (by decide)).mono ?_
  rintro e w' ⟨rfl, hq⟩
  have hq2 := hq.symm
  subst hq2
  clear hq
  obtain ⟨r1, e1⟩ : ∃ r, r = rdOf 0 (takeShort 0 4611686018427387904) s1 := ⟨_, rfl⟩
  have hx := int_any (some ⟨p, 0, none⟩) 0 4611686018427387904 s1 _ hT.rst (by omega) (by omega) (by omega) (by omega)
  rw [← e1] at hx
  replace e1 := hide_it e1
  go_wp2_with fail
  refine hx.mono ?_
  rintro e w2 ⟨rfl, hrs, hgs⟩
  have hT2 := hT.read hrs hgs
  obtain ⟨c0, c1, c2, c3, c4, c5⟩ := hT2.box.inE
  have hz := hT2.box.soft
  simp only at c0 c1 c2 c3 c4 c5
  clear hx hrs hgs hT
  go_wp2_with fail
  refine (have_lit 6 4 true _ (by decide)).mono ?_
  rintro e w' ⟨rfl, hq⟩
  have hq2 := hq.symm
  subst hq2
  clear hq
  clear c0 c1 c2 c3 c4 c5 hz
  have hU := hT2.setS r1.1
  clear hT2
  have hT2 := hU
  clear hU
  obtain ⟨r2, e2⟩ : ∃ r, r = rdOf 0 (takeShort 0 2147483647) r1.2 := ⟨_, rfl⟩
  have hx := int_any (some ⟨p, 0, none⟩) 0 2147483647 r1.2 _ hT2.rst (by omega) (by omega) (by omega) (by omega)
  rw [← e2] at hx
  replace e2 := hide_it e2
  go_wp2_with fail
  refine hx.mono ?_
  rintro e w3 ⟨rfl, hrs, hgs⟩
  have hT3 := hT2.read hrs hgs
  obtain ⟨c0, c1, c2, c3, c4, c5⟩ := hT3.box.inE
  have hz := hT3.box.soft
  simp only at c0 c1 c2 c3 c4 c5
  clear hx hrs hgs hT2
  go_wp2_with fail
  refine (have_lit 6 8 false _ (by decide)).mono ?_
  rintro e w' ⟨rfl, hq⟩
  have hq2 := hq.symm
  subst hq2
  clear hq
  clear c0 c1 c2 c3 c4 c5 hz
  have hU := hT3.setC r2.1
  clear hT3
  have hT3 := hU
  clear hU
  go_wp2_with fail
  refine (have_lit 6 16 false _ (by decide)).mono ?_
  rintro e w' ⟨rfl, hq⟩
  have hq2 := hq.symm
  subst hq2
  clear hq
  obtain ⟨c0, c1, c2, c3, c4, c5⟩ := hT3.box.inE
  have hz := hT3.box.soft
  obtain ⟨d0, d1, d2, d3, d4, d5⟩ := hT3.res.inE
  have hy := hT3.res.soft
  simp only at c0 c1 c2 c3 c4 c5 d0 d1 d2 d3 d4 d5
  go_wp2_with fail
  have HTk : tkE 3 s1 = ((⟨3, r1.1, r2.1, .empty, [], false⟩, true), r2.2) := by
    have qK : rK 3 s1 = ([], s1) := rfl
    have qS : rS 3 s1 = r1 := e1.out.symm
    have qC : rC 3 r1.2 = r2 := e2.out.symm
    have qD : rD 3 r2.2 = (0, r2.2) := rfl
    have qV : rV 3 r2.2 = ([], r2.2) := rfl
    unfold tkE
    simp only [qK, qS, qC, qD, qV]
    try rfl
  obtain ⟨f1, f2⟩ := fill_any hT3.rst hT3.res hT3.grow hT3.lt ⟨3, r1.1, r2.1, .empty, [], false⟩ none 0
  rw [hQ.out]
  exact bodyPost_ret (v := .tuple #[valE ⟨3, r1.1, r2.1, .empty, [], false⟩ none 0, .bool true]) (by simp [results, Tryz.results83, go_sem, d0, d1, d2, d3, d4, d5]) rfl ⟨none, 0, by rw [HTk], by rw [HTk]; exact World.ownsRow_nil _ _ _ _, by rw [HTk]; exact f1, f2⟩
end Go.Proofs.YtkacfpmninmjkaaGreat

namespace Go.Proofs.YtkacfpmninmjkaaGreat
open Go.RowKit

set_option maxRecDepth 100000 in
set_option maxHeartbeats 1000000 in
theorem take_4 (p : Nat) (s s1 : List Nat × Nat) (w : World) (hr : Rst w (some ⟨p, 0, none⟩) s) (h0 : rdOf 0 (takeFixed 1) s = (4, s1)) :
    Calls Tryz.prog 83 #[.pointer (some ⟨p, 0, none⟩)] w fun e w' => TkTo w p 4 s1 e w' := by
  have hcnt := fun w => countsOf_any 4 w
  have hcv : ((cnt 4 : Nat) : Int) = 6 := by decide
  simp only [hcv] at hcnt
  clear hcv
  have hx := take8 (some ⟨p, 0, none⟩) s (boxE w zeroEn none 0) (hr.below (boxE_below w zeroEn none 0))
  rw [h0] at hx
  obtain ⟨Q, hQ⟩ : ∃ Q, Q = TkTo w p 4 s1 := ⟨_, rfl⟩
  rw [← hQ]
  replace hQ := hide_it hQ
  go_enter Tryz.func83, Tryz.ntmps83
  go_wp2_with fail
  refine hx.mono ?_
  rintro e w1 ⟨rfl, hr1, hg1⟩
  have hT := TkS.start 4 hr hr1 hg1
  clear hx hr1 hg1 h0 hr
  go_wp2_with fail
  refine (hcnt _).mono ?_
  rintro e w' ⟨rfl, hq⟩
  have hq2 := hq.symm
  subst hq2
  clear hq hcnt
  go_wp2_with fail
  refine (have_lit 6 1 false _ (by decide)).mono ?_
  rintro e w' ⟨rfl, hq⟩
  have hq2 := hq.symm
  subst hq2
  clear hq
  go_wp2_with fail
  refine (have_lit 6 2 true _ (by decide)).mono ?_
  rintro e w' ⟨rfl, hq⟩
  have hq2 := hq.symm
  subst hq2
  clear hq
  obtain ⟨r1, e1⟩ : ∃ r, r = rdOf 0 (takeShort 0 4611686018427387904) s1 := ⟨_, rfl⟩
  have hx := int_any (some ⟨p, 0, none⟩) 0 4611686018427387904 s1 _ hT.rst (by omega) (by omega) (by omega) (by omega)
  rw [← e1] at hx
  replace e1 := hide_it e1
  go_wp2_with fail
  refine hx.mono ?_
  rintro e w2 ⟨rfl, hrs, hgs⟩
  have hT2 := hT.read hrs hgs
  obtain ⟨c0, c1, c2, c3, c4, c5⟩ := hT2.box.inE
  have hz := hT2.box.soft
  simp only at c0 c1 c2 c3 c4 c5
  clear hx hrs hgs hT
  go_wp2_with fail
  refine (have_lit 6 4 true _ (by decide)).mono ?_
  rintro e w' ⟨rfl, hq⟩
  have hq2 := hq.symm
  subst hq2
  clear hq
  clear c0 c1 c2 c3 c4 c5 hz
  have hU := hT2.setS r1.1
  clear hT2
  have hT2 := hU
  clear hU
  obtain ⟨r2, e2⟩ : ∃ r, r = rdOf 0 (takeShort 0 2147483647) r1.2 := ⟨_, rfl⟩
  have hx := int_any (some ⟨p, 0, none⟩) 0 2147483647 r1.2 _ hT2.rst (by omega) (by omega) (by omega) (by omega)
  rw [← e2] at hx
  replace e2 := hide_it e2
  go_wp2_with fail
  refine hx.mono ?_
  rintro e w3 ⟨rfl, hrs, hgs⟩
  have hT3 := hT2.read hrs hgs
  obtain ⟨c0, c1, c2, c3, c4, c5⟩ := hT3.box.inE
  have hz := hT3.box.soft
  simp only at c0 c1 c2 c3 c4 c5
  clear hx hrs hgs hT2
  go_wp2_with fail
  refine (have_lit 6 8 false _ (by decide)).mono ?_
  rintro e w' ⟨rfl, hq⟩
  have hq2 := hq.symm
  subst hq2
  clear hq
  clear c0 c1 c2 c3 c4 c5 hz
  have hU := hT3.setC r2.1
  clear hT3
  have hT3 := hU
  clear hU
  go_wp2_with fail
  refine (have_lit 6 16 false _ (by decide)).mono ?_
  rintro e w' ⟨rfl, hq⟩
  have hq2 := hq.symm
  subst hq2
  clear hq
  obtain ⟨c0, c1, c2, c3, c4, c5⟩ := hT3.box.inE
  have hz := hT3.box.soft
  obtain ⟨d0, d1, d2, d3, d4, d5⟩ := hT3.res.inE
  have hy := hT3.res.soft
  simp only at c0 c1 c2 c3 c4 c5 d0 d1 d2 d3 d4 d5
  go_wp2_with fail
  have HTk : tkE 4 s1 = ((⟨4, r1.1, r2.1, .empty, [], false⟩, true), r2.2) := by
    have qK : rK 4 s1 = ([], s1) := rfl
    have qS : rS 4 s1 = r1 := e1.out.symm
    have qC : rC 4 r1.2 = r2 := e2.out.symm
    have qD : rD 4 r2.2 = (0, r2.2) := rfl
    have qV : rV 4 r2.2 = ([], r2.2) := rfl
    unfold tkE
    simp only [qK, qS, qC, qD, qV]
    try rfl
  obtain ⟨f1, f2⟩ := fill_any hT3.rst hT3.res hT3.grow hT3.lt ⟨4, r1.1, r2.1, .empty, [], false⟩ none 0
  rw [hQ.out]
  exact bodyPost_ret (v := .tuple #[valE ⟨4, r1.1, r2.1, .empty, [], false⟩ none 0, .bool true]) (by simp [results, Tryz.results83, go_sem, d0, d1, d2, d3, d4, d5]) rfl ⟨none, 0, by rw [HTk], by rw [HTk]; exact World.ownsRow_nil _ _ _ _, by rw [HTk]; exact f1, f2⟩
end Go.Proofs.YtkacfpmninmjkaaGreat

namespace Go.Proofs.YtkacfpmninmjkaaGreat
open Go.RowKit

set_option maxRecDepth 100000 in
set_option maxHeartbeats 400000 in
theorem take_5 (p : Nat) (s s1 : List Nat × Nat) (w : World) (hr : Rst w (some ⟨p, 0, none⟩) s) (h0 : rdOf 0 (takeFixed 1) s = (5, s1)) :
    Calls Tryz.prog 83 #[.pointer (some ⟨p, 0, none⟩)] w fun e w' => TkTo w p 5 s1 e w' := by
  have hcnt := fun w => countsOf_any 5 w
  have hcv : ((cnt 5 : Nat) : Int) = 27 := by decide
  simp only [hcv] at hcnt
  clear hcv
  have hx := take8 (some ⟨p, 0, none⟩) s (boxE w zeroEn none 0) (hr.below (boxE_below w zeroEn none 0))
  rw [h0] at hx
  obtain ⟨Q, hQ⟩ : ∃ Q, Q = TkTo w p 5 s1 := ⟨_, rfl⟩
  rw [← hQ]
  replace hQ := hide_it hQ
  go_enter Tryz.func83, Tryz.ntmps83
  go_wp2_with fail
  refine hx.mono ?_
  rintro e w1 ⟨rfl, hr1, hg1⟩
  have hT := TkS.start 5 hr hr1 hg1
  clear hx hr1 hg1 h0 hr
  go_wp2_with fail
  refine (hcnt _).mono ?_
  rintro e w' ⟨rfl, hq⟩
  have hq2 := hq.symm
  subst hq2
  clear hq hcnt
  go_wp2_with fail
  refine (have_lit 27 1 true _ (by decide)).mono ?_
  rintro e w' ⟨rfl, hq⟩
  have hq2 := hq.symm
  subst hq2
  clear hq
  obtain ⟨r1, e1⟩ : ∃ r, r = rdOf [] (takeCounted 255) s1 := ⟨_, rfl⟩
  have hx := text_any (some ⟨p, 0, none⟩) 255 s1 _ hT.rst (by omega) (by omega)
  rw [← e1] at hx
  replace e1 := hide_it e1
  go_wp2_with fail
  refine hx.mono ?_
  rintro e w2 ⟨rfl, hrs, hgs⟩
  have hT2 := hT.read hrs hgs
  obtain ⟨c0, c1, c2, c3, c4, c5⟩ := hT2.box.inE
  have hz := hT2.box.soft
  simp only at c0 c1 c2 c3 c4 c5
  clear hx hrs hgs hT
  go_wp2_with fail
  refine (have_lit 27 2 true _ (by decide)).mono ?_
  rintro e w' ⟨rfl, hq⟩
  have hq2 := hq.symm
  subst hq2
  clear hq
  clear c0 c1 c2 c3 c4 c5 hz
  have hU := hT2.setK (strOf r1.1)
  clear hT2
  have hT2 := hU
  clear hU
  obtain ⟨r2, e2⟩ : ∃ r, r = rdOf 0 (takeShort 0 4611686018427387904) r1.2 := ⟨_, rfl⟩
  have hx := int_any (some ⟨p, 0, none⟩) 0 4611686018427387904 r1.2 _ hT2.rst (by omega) (by omega) (by omega) (by omega)
  rw [← e2] at hx
  replace e2 := hide_it e2
  go_wp2_with fail
  refine hx.mono ?_
  rintro e w3 ⟨rfl, hrs, hgs⟩
  have hT3 := hT2.read hrs hgs
  obtain ⟨c0, c1, c2, c3, c4, c5⟩ := hT3.box.inE
  have hz := hT3.box.soft
  simp only at c0 c1 c2 c3 c4 c5
  clear hx hrs hgs hT2
  go_wp2_with fail
  refine (have_lit 27 4 false _ (by decide)).mono ?_
  rintro e w' ⟨rfl, hq⟩
  have hq2 := hq.symm
  subst hq2
  clear hq
  clear c0 c1 c2 c3 c4 c5 hz
  have hU := hT3.setS r2.1
  clear hT3
  have hT3 := hU
  clear hU
  go_wp2_with fail
  refine (have_lit 27 8 true _ (by decide)).mono ?_
  rintro e w' ⟨rfl, hq⟩
  have hq2 := hq.symm
  subst hq2
  clear hq
  have hd8 : (rdOf 0 (takeFixed 1) r2.2).1 < 256 := rdFixed_lt (W := 1) hT3.rst.all
  obtain ⟨r3, e3⟩ : ∃ r, r = rdOf 0 (takeFixed 1) r2.2 := ⟨_, rfl⟩
  have hx := take8 (some ⟨p, 0, none⟩) r2.2 _ hT3.rst
  rw [← e3] at hx hd8
  replace e3 := hide_it e3
  go_wp2_with fail
  refine hx.mono ?_
  rintro e w4 ⟨rfl, hrs, hgs⟩
  have hT4 := hT3.read hrs hgs
  obtain ⟨c0, c1, c2, c3, c4, c5⟩ := hT4.box.inE
  have hz := hT4.box.soft
  simp only at c0 c1 c2 c3 c4 c5
  clear hx hrs hgs hT3
  obtain ⟨D, hD⟩ : ∃ D : Bool, D = (r3.1 == 1) := ⟨_, rfl⟩
  obtain ⟨Wh, hWh⟩ : ∃ D : Bool, D = decide (r3.1 ≤ 1) := ⟨_, rfl⟩
  have hq1 : (((r3.1 : Nat) : Int) == 1) = D := by
    rw [hD]
    by_cases h : r3.1 = 1
    · rw [h]; rfl
    · have h2 : (r3.1 == 1) = false := by simpa using h
      have h3 : (((r3.1 : Nat) : Int) == 1) = false := by rw [beq_eq_false_iff_ne]; omega
      rw [h2, h3]
  obtain ⟨O, hO⟩ : ∃ O : Nat, O = if D then 1 else 0 := ⟨_, rfl⟩
  have hq3 : (((r3.1 : Nat) : Int) == (O : Int)) = Wh := by
    rw [hWh, hO, hD]
    by_cases h : r3.1 = 1
    · rw [h]; rfl
    · by_cases h2 : r3.1 = 0
      · rw [h2]; rfl
      · have h4 : (r3.1 == 1) = false := by simpa using h
        have h5 : decide (r3.1 ≤ 1) = false := decide_eq_false (by omega)
        rw [h4, h5, beq_eq_false_iff_ne]
        simp; omega
  have hoc := octet_any D
  rw [← hO] at hoc
  have hoc1 := octet_any true
  simp only [if_true] at hoc1
  replace hD := hide_it hD
  replace hWh := hide_it hWh
  clear hO
  go_wp2_with fail
  refine (hoc1 _).mono ?_
  rintro e w' ⟨rfl, hq⟩
  have hq2 := hq.symm
  subst hq2
  clear hq hoc1
  go_wp2_with fail
  refine (hoc _).mono ?_
  rintro e w' ⟨rfl, hq⟩
  have hq2 := hq.symm
  subst hq2
  clear hq hoc
  go_wp2_with fail
  refine (have_lit 27 16 true _ (by decide)).mono ?_
  rintro e w' ⟨rfl, hq⟩
  have hq2 := hq.symm
  subst hq2
  clear hq
  clear c0 c1 c2 c3 c4 c5 hz
  have hU := hT4.setD D
  clear hT4
  have hT4 := hU
  clear hU
  obtain ⟨r4, e4⟩ : ∃ r, r = rdOf [] (takeCounted 4096) r3.2 := ⟨_, rfl⟩
  have hx := bytes_any (some ⟨p, 0, none⟩) 4096 r3.2 _ hT4.rst (by omega) (by omega) (by omega)
  rw [← e4] at hx
  replace e4 := hide_it e4
  go_wp2_with fail
  refine hx.mono ?_
  rintro e w5 ⟨⟨v, rfl, hown⟩, hrs, hgs⟩
  have hT5 := hT4.read hrs hgs
  have hEs := hT4.box.lt
  have hRs := hT4.res.lt
  obtain ⟨a, cp, hv, _⟩ := hown.row
  subst hv
  replace hown := hide_it hown
  replace hEs := hide_it hEs
  replace hRs := hide_it hRs
  have c4' := hT5.box.inE.c4
  have hz' := hT5.box.soft 4
  obtain ⟨hW, hWr⟩ := hT5.val r4.1 a cp
  obtain ⟨c0, c1, c2, c3, c4, c5⟩ := hW.inE
  have hz := hW.soft
  obtain ⟨d0, d1, d2, d3, d4, d5⟩ := hWr.inE
  have hy := hWr.soft
  simp only at c4' c0 c1 c2 c3 c4 c5 d0 d1 d2 d3 d4 d5
  clear hW hWr
  clear hx hrs hgs hT4
  go_wp2_with fail
  have HTk : tkE 5 s1 = ((⟨5, r2.1, 0, (strOf r1.1), r4.1, D⟩, Wh), r4.2) := by
    have qK : rK 5 s1 = r1 := e1.out.symm
    have qS : rS 5 r1.2 = r2 := e2.out.symm
    have qC : rC 5 r2.2 = (0, r2.2) := rfl
    have qD : rD 5 r2.2 = r3 := e3.out.symm
    have qV : rV 5 r3.2 = r4 := e4.out.symm
    unfold tkE
    simp only [qK, qS, qC, qD, qV]
    rw [hD.out, hWh.out]
  obtain ⟨f1, f2⟩ := fill_any (hT5.rst.set_ent hT5.box (by have := hT5.lt; have := hT5.eg; omega) 4 (.slice a r4.1.length cp)) (hT5.res.far (by have := hT5.eg; omega) 4 (.slice a r4.1.length cp)) (grown_new hT5.grow (by have := hT5.eg; omega) 4 (.slice a r4.1.length cp)) hT5.lt ⟨5, r2.1, 0, (strOf r1.1), r4.1, D⟩ a cp
  have f3 := ((hown.out.set_old hEs.out 4 (.slice a r4.1.length cp)).fill hRs.out ⟨5, r2.1, 0, (strOf r1.1), r4.1, D⟩ a cp).mono (Nat.le_of_lt hRs.out)
  rw [hQ.out]
  exact bodyPost_ret (v := .tuple #[valE ⟨5, r2.1, 0, (strOf r1.1), r4.1, D⟩ a cp, .bool Wh]) (by simp [results, Tryz.results83, go_sem, d0, d1, d2, d3, d4, d5]) rfl ⟨a, cp, by rw [HTk], by rw [HTk]; exact f3, by rw [HTk]; exact f1, f2⟩
end Go.Proofs.YtkacfpmninmjkaaGreat

namespace Go.Proofs.YtkacfpmninmjkaaGreat
open Go.RowKit

set_option maxRecDepth 100000 in
set_option maxHeartbeats 1000000 in
theorem take_6 (p : Nat) (s s1 : List Nat × Nat) (w : World) (hr : Rst w (some ⟨p, 0, none⟩) s) (h0 : rdOf 0 (takeFixed 1) s = (6, s1)) :
    Calls Tryz.prog 83 #[.pointer (some ⟨p, 0, none⟩)] w fun e w' => TkTo w p 6 s1 e w' := by
  have hcnt := fun w => countsOf_any 6 w
  have hcv : ((cnt 6 : Nat) : Int) = 6 := by decide
  simp only [hcv] at hcnt
  clear hcv
  have hx := take8 (some ⟨p, 0, none⟩) s (boxE w zeroEn none 0) (hr.below (boxE_below w zeroEn none 0))
  rw [h0] at hx
  obtain ⟨Q, hQ⟩ : ∃ Q, Q = TkTo w p 6 s1 := ⟨_, rfl⟩
  rw [← hQ]
  replace hQ := hide_it hQ
  go_enter Tryz.func83, Tryz.ntmps83
  go_wp2_with fail
  refine hx.mono ?_
  rintro e w1 ⟨rfl, hr1, hg1⟩
  have hT := TkS.start 6 hr hr1 hg1
  clear hx hr1 hg1 h0 hr
  go_wp2_with fail
  refine (hcnt _).mono ?_
  rintro e w' ⟨rfl, hq⟩
  have hq2 := hq.symm
  subst hq2
  clear hq hcnt
  go_wp2_with fail
  refine (have_lit 6 1 false _ (by decide)).mono ?_
  rintro e w' ⟨rfl, hq⟩
  have hq2 := hq.symm
  subst hq2
  clear hq
  go_wp2_with fail
  refine (have_lit 6 2 true _ (by decide)).mono ?_
  rintro e w' ⟨rfl, hq⟩
  have hq2 := hq.symm
  subst hq2
  clear hq
  obtain ⟨r1, e1⟩ : ∃ r, r = rdOf 0 (takeShort 0 4611686018427387904) s1 := ⟨_, rfl⟩
  have hx := int_any (some ⟨p, 0, none⟩) 0 4611686018427387904 s1 _ hT.rst (by omega) (by omega) (by omega) (by omega)
  rw [← e1] at hx
  replace e1 := hide_it e1
  go_wp2_with fail
  refine hx.mono ?_
  rintro e w2 ⟨rfl, hrs, hgs⟩
  have hT2 := hT.read hrs hgs
  obtain ⟨c0, c1, c2, c3, c4, c5⟩ := hT2.box.inE
  have hz := hT2.box.soft
  simp only at c0 c1 c2 c3 c4 c5
  clear hx hrs hgs hT
  go_wp2_with fail
  refine (have_lit 6 4 true _ (by decide)).mono ?_
  rintro e w' ⟨rfl, hq⟩
  have hq2 := hq.symm
  subst hq2
  clear hq
  clear c0 c1 c2 c3 c4 c5 hz
  have hU := hT2.setS r1.1
  clear hT2
  have hT2 := hU
  clear hU
  obtain ⟨r2, e2⟩ : ∃ r, r = rdOf 0 (takeShort 0 2147483647) r1.2 := ⟨_, rfl⟩
  have hx := int_any (some ⟨p, 0, none⟩) 0 2147483647 r1.2 _ hT2.rst (by omega) (by omega) (by omega) (by omega)
  rw [← e2] at hx
  replace e2 := hide_it e2
  go_wp2_with fail
  refine hx.mono ?_
  rintro e w3 ⟨rfl, hrs, hgs⟩
  have hT3 := hT2.read hrs hgs
  obtain ⟨c0, c1, c2, c3, c4, c5⟩ := hT3.box.inE
  have hz := hT3.box.soft
  simp only at c0 c1 c2 c3 c4 c5
  clear hx hrs hgs hT2
  go_wp2_with fail
  refine (have_lit 6 8 false _ (by decide)).mono ?_
  rintro e w' ⟨rfl, hq⟩
  have hq2 := hq.symm
  subst hq2
  clear hq
  clear c0 c1 c2 c3 c4 c5 hz
  have hU := hT3.setC r2.1
  clear hT3
  have hT3 := hU
  clear hU
  go_wp2_with fail
  refine (have_lit 6 16 false _ (by decide)).mono ?_
  rintro e w' ⟨rfl, hq⟩
  have hq2 := hq.symm
  subst hq2
  clear hq
  obtain ⟨c0, c1, c2, c3, c4, c5⟩ := hT3.box.inE
  have hz := hT3.box.soft
  obtain ⟨d0, d1, d2, d3, d4, d5⟩ := hT3.res.inE
  have hy := hT3.res.soft
  simp only at c0 c1 c2 c3 c4 c5 d0 d1 d2 d3 d4 d5
  go_wp2_with fail
  have HTk : tkE 6 s1 = ((⟨6, r1.1, r2.1, .empty, [], false⟩, true), r2.2) := by
    have qK : rK 6 s1 = ([], s1) := rfl
    have qS : rS 6 s1 = r1 := e1.out.symm
    have qC : rC 6 r1.2 = r2 := e2.out.symm
    have qD : rD 6 r2.2 = (0, r2.2) := rfl
    have qV : rV 6 r2.2 = ([], r2.2) := rfl
    unfold tkE
    simp only [qK, qS, qC, qD, qV]
    try rfl
  obtain ⟨f1, f2⟩ := fill_any hT3.rst hT3.res hT3.grow hT3.lt ⟨6, r1.1, r2.1, .empty, [], false⟩ none 0
  rw [hQ.out]
  exact bodyPost_ret (v := .tuple #[valE ⟨6, r1.1, r2.1, .empty, [], false⟩ none 0, .bool true]) (by simp [results, Tryz.results83, go_sem, d0, d1, d2, d3, d4, d5]) rfl ⟨none, 0, by rw [HTk], by rw [HTk]; exact World.ownsRow_nil _ _ _ _, by rw [HTk]; exact f1, f2⟩
end Go.Proofs.YtkacfpmninmjkaaGreat

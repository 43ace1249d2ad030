/- An entry's bytes: Encode of a seal. -/
import Derived.Test.YtlhlpofmeeiffabEe4
namespace Go.Proofs.Ytlhlpofmeeiffab
open Go.RowKit

set_option maxRecDepth 100000 in
set_option maxHeartbeats 1000000 in
theorem encode_6 (stamp count : Int) (key : ByteArray) (val : List Nat) (dead : Bool) (a : Option Addr) (cp : Nat) (w : World) (hm : mayE ⟨6, stamp, count, key, val, dead⟩ = true) (hr : RowB w a val) (_hnil : a = none → val.length = 0 ∧ cp = 0) :
    Calls Try.prog 7 #[valE ⟨6, stamp, count, key, val, dead⟩ a cp] w fun e w' => EncTo w ⟨6, stamp, count, key, val, dead⟩ e w' := by
  obtain ⟨x, hx⟩ : ∃ x : En, x = ⟨6, stamp, count, key, val, dead⟩ := ⟨_, rfl⟩
  have hb := boxE_below w x a cp
  have hin := InE.box w x a cp
  have hck := check_any x a cp (boxE w x a cp)
  have M := may_parts hm
  have HC : Hid (chkE x = 0) := by unfold Hid chkE; rw [hx, hm]; rfl
  rw [HC.out] at hck
  have HM := hide_it hm
  have HX := hide_it hx
  have hkl : key.size ≤ 255 := by
    have h1 := M.key0 rfl
    have h2 : key.size = 0 := h1
    omega
  have hvl : val.length ≤ 4096 := M.val
  obtain ⟨hst1, hst2⟩ : 0 ≤ stamp ∧ stamp ≤ 4611686018427387904 := M.st1 rfl
  obtain ⟨hct1, hct2⟩ : 0 ≤ count ∧ count ≤ 2147483647 := M.ct1 rfl
  have hfin : ∀ (w' : World) (v : Value) (L : List Nat), Below w.heap.size w w' → L = encE x → OwnB w' w.heap.size v L → EncTo w x (.returned (.tuple #[v, .int .i64 0])) w' := fun w' v L h1 h2 h3 => by
    refine ⟨⟨v, by rw [HC.out]; rfl, ?_⟩, h1⟩
    rw [HX.out, HM.out]
    rw [h2, HX.out] at h3
    exact h3
  have HE : Hid (encE x = encE ⟨6, stamp, count, key, val, dead⟩) := by unfold Hid; rw [HX.out]
  rw [← hx]
  generalize EncTo w x = Q at *
  have hxv : valE x a cp = .agg #[.int .i64 6, .int .i64 stamp, .int .i64 count, .string key, .slice a val.length cp, .bool dead] := by rw [hx]
  have hbx : boxE w x a cp = w.alloc (.cells #[.int .i64 6, .int .i64 stamp, .int .i64 count, .string key, .slice a val.length cp, .bool dead] 24) := by rw [hx]
  rw [hxv, hbx] at hck
  rw [hbx] at hb hin
  rw [hxv]
  rw [hx] at hin
  clear hm M hx hxv hbx
  generalize encE x = R at *
  have hcnt := fun w => countsOf_any 6 w
  have hcv : ((cnt 6 : Nat) : Int) = 6 := by decide
  simp only [hcv] at hcnt
  clear hcv
  go_enter Try.func7, Try.ntmps7
  go_wp2_with fail
  refine hck.mono ?_
  rintro e w1 ⟨rfl, hb1⟩
  have hin1 := hin.below hb1 (by simp)
  have hB1 := hb.trans (hb1.mono hb.size)
  have hr1 := hr.below hB1
  have hz1 := hB1.size
  have hp1 : w.heap.size < w1.heap.size := by have := hb1.size; simp at this; omega
  clear hck hb hb1 hin hr
  obtain ⟨c0, c1, c2, c3, c4, c5⟩ := hin1
  simp only at c0 c1 c2 c3 c4 c5
  go_wp2_with fail
  refine (hcnt _).mono ?_
  rintro e w' ⟨rfl, hq⟩
  have hq2 := hq.symm
  subst hq2
  clear hq
  have hput := put8 none 0 6 [] w1 (by decide) (.inl rfl) (by simp) (fun _ => ⟨rfl, rfl⟩)
  go_wp2_with fail
  refine hput.mono ?_
  rintro e w2 ⟨⟨v2, rfl, ho2⟩, hb2⟩
  have HL : Hid ([] ++ beP 1 6 1 = [6]) := by unfold Hid; rw [beP_one _ (by decide)]; rfl
  rw [HL.out] at ho2
  clear HL hput hcnt
  have hl2 : ([6] : List Nat).length ≤ 1 := by simp
  obtain ⟨L2, hL2⟩ : ∃ L : List Nat, L = [6] := ⟨_, rfl⟩
  rw [← hL2] at ho2 hl2
  replace hL2 := hide_it hL2
  have hin2 : InE w2 w.heap.size ⟨6, stamp, count, key, val, dead⟩ a cp := (InE.mk c0 c1 c2 c3 c4 c5 : InE w1 w.heap.size ⟨6, stamp, count, key, val, dead⟩ a cp).below hb2 hp1
  have hp2 : w.heap.size < w2.heap.size := by have := hb2.size; omega
  have hB2 := hB1.trans (hb2.mono hz1)
  have hr2 := hr1.below hb2
  have hz2 := hB2.size
  obtain ⟨p2, q2, hv2, hrow2, _, _, hn2⟩ := ho2.row
  subst hv2
  have how2 := ho2.mono hz1
  clear hb2 hp1 hB1 hr1 hz1 ho2 c0 c1 c2 c3 c4 c5
  obtain ⟨c0, c1, c2, c3, c4, c5⟩ := hin2
  simp only at c0 c1 c2 c3 c4 c5
  have HOW2 := hide_it how2
  have HR2 := hide_it hr2
  have HROW2 := hide_it hrow2
  clear how2 hr2 hrow2
  go_wp2_with fail
  refine (have_lit 6 1 false _ (by decide)).mono ?_
  rintro e w' ⟨rfl, hq⟩
  have hq2 := hq.symm
  subst hq2
  clear hq
  go_wp2_with fail
  refine (have_lit 6 2 true _ (by decide)).mono ?_
  rintro e w' ⟨rfl, hq⟩
  have hq2 := hq.symm
  subst hq2
  clear hq
  have hs1 : (shortL (foldI stamp)).length ≤ 10 := shortL_ten (foldI_64 (by omega) (by omega))
  have hput := putInt_any p2 q2 stamp L2 w2 (by omega) (by omega) HROW2.out (by omega) hn2
  go_wp2_with fail
  refine hput.mono ?_
  rintro e w3 ⟨⟨v3, rfl, ho3⟩, hb3⟩
  clear hput HOW2 HROW2
  have hl3 : (L2 ++ shortL (foldI stamp)).length ≤ 11 := by simp only [List.length_append]; omega
  obtain ⟨L3, hL3⟩ : ∃ L : List Nat, L = L2 ++ shortL (foldI stamp) := ⟨_, rfl⟩
  rw [← hL3] at ho3 hl3
  replace hL3 := hide_it hL3
  have hr2 := HR2.out
  clear HR2
  have hin3 : InE w3 w.heap.size ⟨6, stamp, count, key, val, dead⟩ a cp := (InE.mk c0 c1 c2 c3 c4 c5 : InE w2 w.heap.size ⟨6, stamp, count, key, val, dead⟩ a cp).below hb3 hp2
  have hp3 : w.heap.size < w3.heap.size := by have := hb3.size; omega
  have hB3 := hB2.trans (hb3.mono hz2)
  have hr3 := hr2.below hb3
  have hz3 := hB3.size
  obtain ⟨p3, q3, hv3, hrow3, _, _, hn3⟩ := ho3.row
  subst hv3
  have how3 := ho3.mono hz2
  clear hb3 hp2 hB2 hr2 hz2 ho3 c0 c1 c2 c3 c4 c5
  obtain ⟨c0, c1, c2, c3, c4, c5⟩ := hin3
  simp only at c0 c1 c2 c3 c4 c5
  have HOW3 := hide_it how3
  have HR3 := hide_it hr3
  have HROW3 := hide_it hrow3
  clear how3 hr3 hrow3
  clear hs1
  go_wp2_with fail
  refine (have_lit 6 4 true _ (by decide)).mono ?_
  rintro e w' ⟨rfl, hq⟩
  have hq2 := hq.symm
  subst hq2
  clear hq
  have hs1 : (shortL (foldI count)).length ≤ 10 := shortL_ten (foldI_64 (by omega) (by omega))
  have hput := putInt_any p3 q3 count L3 w3 (by omega) (by omega) HROW3.out (by omega) hn3
  go_wp2_with fail
  refine hput.mono ?_
  rintro e w4 ⟨⟨v4, rfl, ho4⟩, hb4⟩
  clear hput HOW3 HROW3
  have hl4 : (L3 ++ shortL (foldI count)).length ≤ 21 := by simp only [List.length_append]; omega
  obtain ⟨L4, hL4⟩ : ∃ L : List Nat, L = L3 ++ shortL (foldI count) := ⟨_, rfl⟩
  rw [← hL4] at ho4 hl4
  replace hL4 := hide_it hL4
  have hr3 := HR3.out
  clear HR3
  have hin4 : InE w4 w.heap.size ⟨6, stamp, count, key, val, dead⟩ a cp := (InE.mk c0 c1 c2 c3 c4 c5 : InE w3 w.heap.size ⟨6, stamp, count, key, val, dead⟩ a cp).below hb4 hp3
  have hp4 : w.heap.size < w4.heap.size := by have := hb4.size; omega
  have hB4 := hB3.trans (hb4.mono hz3)
  have hr4 := hr3.below hb4
  have hz4 := hB4.size
  obtain ⟨p4, q4, hv4, hrow4, _, _, hn4⟩ := ho4.row
  subst hv4
  have how4 := ho4.mono hz3
  clear hb4 hp3 hB3 hr3 hz3 ho4 c0 c1 c2 c3 c4 c5
  obtain ⟨c0, c1, c2, c3, c4, c5⟩ := hin4
  simp only at c0 c1 c2 c3 c4 c5
  have HOW4 := hide_it how4
  have HR4 := hide_it hr4
  have HROW4 := hide_it hrow4
  clear how4 hr4 hrow4
  clear hs1
  go_wp2_with fail
  refine (have_lit 6 8 false _ (by decide)).mono ?_
  rintro e w' ⟨rfl, hq⟩
  have hq2 := hq.symm
  subst hq2
  clear hq
  go_wp2_with fail
  refine (have_lit 6 16 false _ (by decide)).mono ?_
  rintro e w' ⟨rfl, hq⟩
  have hq2 := hq.symm
  subst hq2
  clear hq
  have hend := hfin w4 (.slice p4 L4.length q4) L4 hB4 (by
    rw [HE.out]
    rw [hL4.out]
    rw [hL3.out]
    rw [hL2.out]
    simp [encE, eK, eS, eC, eD, eV, hk, hs, hc, hd, hv]) HOW4.out
  clear hfin HOW4 HR4 HROW4 HE
  go_wp2_with fail
  first | exact hend | (go_ret2; exact hend)
end Go.Proofs.Ytlhlpofmeeiffab

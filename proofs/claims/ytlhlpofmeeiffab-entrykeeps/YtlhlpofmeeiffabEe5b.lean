/- An entry's bytes: Encode of a delete. -/
import Derived.Test.YtlhlpofmeeiffabEe4
namespace Go.Proofs.Ytlhlpofmeeiffab
open Go.RowKit

set_option maxRecDepth 100000 in
set_option maxHeartbeats 1000000 in
theorem encode_2 (stamp count : Int) (key : ByteArray) (val : List Nat) (dead : Bool) (a : Option Addr) (cp : Nat) (w : World) (hm : mayE ⟨2, stamp, count, key, val, dead⟩ = true) (hr : RowB w a val) (_hnil : a = none → val.length = 0 ∧ cp = 0) :
    Calls Try.prog 7 #[valE ⟨2, stamp, count, key, val, dead⟩ a cp] w fun e w' => EncTo w ⟨2, stamp, count, key, val, dead⟩ e w' := by
  obtain ⟨x, hx⟩ : ∃ x : En, x = ⟨2, stamp, count, key, val, dead⟩ := ⟨_, rfl⟩
  have hb := boxE_below w x a cp
  have hin := InE.box w x a cp
  have hck := check_any x a cp (boxE w x a cp)
  have M := may_parts hm
  have HC : Hid (chkE x = 0) := by unfold Hid chkE; rw [hx, hm]; rfl
  rw [HC.out] at hck
  have HM := hide_it hm
  have HX := hide_it hx
  have hkl : key.size ≤ 255 := by
    exact (M.key1 rfl).2
  have hvl : val.length ≤ 4096 := M.val
  have hfin : ∀ (w' : World) (v : Value) (L : List Nat), Below w.heap.size w w' → L = encE x → OwnB w' w.heap.size v L → EncTo w x (.returned (.tuple #[v, .int .i64 0])) w' := fun w' v L h1 h2 h3 => by
    refine ⟨⟨v, by rw [HC.out]; rfl, ?_⟩, h1⟩
    rw [HX.out, HM.out]
    rw [h2, HX.out] at h3
    exact h3
  have HE : Hid (encE x = encE ⟨2, stamp, count, key, val, dead⟩) := by unfold Hid; rw [HX.out]
  rw [← hx]
  generalize EncTo w x = Q at *
  have hxv : valE x a cp = .agg #[.int .i64 2, .int .i64 stamp, .int .i64 count, .string key, .slice a val.length cp, .bool dead] := by rw [hx]
  have hbx : boxE w x a cp = w.alloc (.cells #[.int .i64 2, .int .i64 stamp, .int .i64 count, .string key, .slice a val.length cp, .bool dead] 24) := by rw [hx]
  rw [hxv, hbx] at hck
  rw [hbx] at hb hin
  rw [hxv]
  rw [hx] at hin
  clear hm M hx hxv hbx
  generalize encE x = R at *
  have hcnt := fun w => countsOf_any 2 w
  have hcv : ((cnt 2 : Nat) : Int) = 1 := by decide
  simp only [hcv] at hcnt
  clear hcv
  go_enter Try.func7, Try.ntmps7
  go_wp2_with fail
  refine hck.mono ?_
  rintro e w1 ⟨rfl, hb1⟩
  have hin1 := hin.below hb1 (by simp)
  have hB1 := hb.trans (hb1.mono hb.size)
  have hr1 := hr.below hB1
  have hz1 := hB1.size
  have hp1 : w.heap.size < w1.heap.size := by have := hb1.size; simp at this; omega
  clear hck hb hb1 hin hr
  obtain ⟨c0, c1, c2, c3, c4, c5⟩ := hin1
  simp only at c0 c1 c2 c3 c4 c5
  go_wp2_with fail
  refine (hcnt _).mono ?_
  rintro e w' ⟨rfl, hq⟩
  have hq2 := hq.symm
  subst hq2
  clear hq
  have hput := put8 none 0 2 [] w1 (by decide) (.inl rfl) (by simp) (fun _ => ⟨rfl, rfl⟩)
  go_wp2_with fail
  refine hput.mono ?_
  rintro e w2 ⟨⟨v2, rfl, ho2⟩, hb2⟩
  have HL : Hid ([] ++ beP 1 2 1 = [2]) := by unfold Hid; rw [beP_one _ (by decide)]; rfl
  rw [HL.out] at ho2
  clear HL hput hcnt
  have hl2 : ([2] : List Nat).length ≤ 1 := by simp
  obtain ⟨L2, hL2⟩ : ∃ L : List Nat, L = [2] := ⟨_, rfl⟩
  rw [← hL2] at ho2 hl2
  replace hL2 := hide_it hL2
  have hin2 : InE w2 w.heap.size ⟨2, stamp, count, key, val, dead⟩ a cp := (InE.mk c0 c1 c2 c3 c4 c5 : InE w1 w.heap.size ⟨2, stamp, count, key, val, dead⟩ a cp).below hb2 hp1
  have hp2 : w.heap.size < w2.heap.size := by have := hb2.size; omega
  have hB2 := hB1.trans (hb2.mono hz1)
  have hr2 := hr1.below hb2
  have hz2 := hB2.size
  obtain ⟨p2, q2, hv2, hrow2, _, _, hn2⟩ := ho2.row
  subst hv2
  have how2 := ho2.mono hz1
  clear hb2 hp1 hB1 hr1 hz1 ho2 c0 c1 c2 c3 c4 c5
  obtain ⟨c0, c1, c2, c3, c4, c5⟩ := hin2
  simp only at c0 c1 c2 c3 c4 c5
  have HOW2 := hide_it how2
  have HR2 := hide_it hr2
  have HROW2 := hide_it hrow2
  clear how2 hr2 hrow2
  go_wp2_with fail
  refine (have_lit 1 1 true _ (by decide)).mono ?_
  rintro e w' ⟨rfl, hq⟩
  have hq2 := hq.symm
  subst hq2
  clear hq
  have hs1 : (shortL (2 * key.size)).length ≤ 10 := shortL_ten (by unfold W64; omega)
  have hs2 := strNat_len key
  have hput := putText_any p2 q2 key L2 w2 HROW2.out (by omega) hn2
  go_wp2_with fail
  refine hput.mono ?_
  rintro e w3 ⟨⟨v3, rfl, ho3⟩, hb3⟩
  clear hput HOW2 HROW2
  have hl3 : (L2 ++ shortL (2 * key.size) ++ strNat key).length ≤ 266 := by simp only [List.length_append]; omega
  obtain ⟨L3, hL3⟩ : ∃ L : List Nat, L = L2 ++ shortL (2 * key.size) ++ strNat key := ⟨_, rfl⟩
  rw [← hL3] at ho3 hl3
  replace hL3 := hide_it hL3
  have hr2 := HR2.out
  clear HR2
  have hin3 : InE w3 w.heap.size ⟨2, stamp, count, key, val, dead⟩ a cp := (InE.mk c0 c1 c2 c3 c4 c5 : InE w2 w.heap.size ⟨2, stamp, count, key, val, dead⟩ a cp).below hb3 hp2
  have hp3 : w.heap.size < w3.heap.size := by have := hb3.size; omega
  have hB3 := hB2.trans (hb3.mono hz2)
  have hr3 := hr2.below hb3
  have hz3 := hB3.size
  obtain ⟨p3, q3, hv3, hrow3, _, _, hn3⟩ := ho3.row
  subst hv3
  have how3 := ho3.mono hz2
  clear hb3 hp2 hB2 hr2 hz2 ho3 c0 c1 c2 c3 c4 c5
  obtain ⟨c0, c1, c2, c3, c4, c5⟩ := hin3
  simp only at c0 c1 c2 c3 c4 c5
  have HOW3 := hide_it how3
  have HR3 := hide_it hr3
  have HROW3 := hide_it hrow3
  clear how3 hr3 hrow3
  clear hs1 hs2
  go_wp2_with fail
  refine (have_lit 1 2 false _ (by decide)).mono ?_
  rintro e w' ⟨rfl, hq⟩
  have hq2 := hq.symm
  subst hq2
  clear hq
  go_wp2_with fail
  refine (have_lit 1 4 false _ (by decide)).mono ?_
  rintro e w' ⟨rfl, hq⟩
  have hq2 := hq.symm
  subst hq2
  clear hq
  go_wp2_with fail
  refine (have_lit 1 8 false _ (by decide)).mono ?_
  rintro e w' ⟨rfl, hq⟩
  have hq2 := hq.symm
  subst hq2
  clear hq
  go_wp2_with fail
  refine (have_lit 1 16 false _ (by decide)).mono ?_
  rintro e w' ⟨rfl, hq⟩
  have hq2 := hq.symm
  subst hq2
  clear hq
  have hend := hfin w3 (.slice p3 L3.length q3) L3 hB3 (by
    rw [HE.out]
    rw [hL3.out]
    rw [hL2.out]
    simp [encE, eK, eS, eC, eD, eV, hk, hs, hc, hd, hv]) HOW3.out
  clear hfin HOW3 HR3 HROW3 HE
  go_wp2_with fail
  first | exact hend | (go_ret2; exact hend)
end Go.Proofs.Ytlhlpofmeeiffab

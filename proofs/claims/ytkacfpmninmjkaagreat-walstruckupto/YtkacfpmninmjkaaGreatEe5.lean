/- An entry's bytes: Encode of a put. An entry's bytes: Encode of a delete. An entry's bytes: Encode of a commit. An entry's bytes: Encode of a begin. An entry's bytes: Encode of a version. An entry's bytes: Encode of a seal. -/
import Derived.Test.YtkacfpmninmjkaaGreatEe4
namespace Go.Proofs.YtkacfpmninmjkaaGreat
open Go.RowKit

set_option maxRecDepth 100000 in
set_option maxHeartbeats 1000000 in
theorem encode_1 (stamp count : Int) (key : ByteArray) (val : List Nat) (dead : Bool) (a : Option Addr) (cp : Nat) (w : World) (hm : mayE ⟨1, stamp, count, key, val, dead⟩ = true) (hr : RowB w a val) (hnil : a = none → val.length = 0 ∧ cp = 0) :
    Calls Tryz.prog 77 #[valE ⟨1, stamp, count, key, val, dead⟩ a cp] w fun e w' => EncTo w ⟨1, stamp, count, key, val, dead⟩ e w' := by
  obtain ⟨x, hx⟩ : ∃ x : En, x = ⟨1, stamp, count, key, val, dead⟩ := ⟨_, rfl⟩
  have hb := boxE_below w x a cp
  have hin := InE.box w x a cp
  have hck := check_any x a cp (boxE w x a cp)
  have M := may_parts hm
  have HC : Hid (chkE x = 0) := by unfold Hid chkE; rw [hx, hm]; rfl
  rw [HC.out] at hck
  have HM := hide_it hm
  have HX := hide_it hx
  have hkl : key.size ≤ 255 := by
    exact (M.key1 rfl).2
  have hvl : val.length ≤ 4096 := M.val
  have hfin : ∀ (w' : World) (v : Value) (L : List Nat), Below w.heap.size w w' → L = encE x → OwnB w' w.heap.size v L → EncTo w x (.returned (.tuple #[v, .int .i64 0])) w' := fun w' v L h1 h2 h3 => by
    refine ⟨⟨v, by rw [HC.out]; rfl, ?_⟩, h1⟩
    rw [HX.out, HM.out]
    rw [h2, HX.out] at h3
    exact h3
  have HE : Hid (encE x = encE ⟨1, stamp, count, key, val, dead⟩) := by unfold Hid; rw [HX.out]
  rw [← hx]
  generalize EncTo w x = Q at *
  have hxv : valE x a cp = .agg #[.int .i64 1, .int .i64 stamp, .int .i64 count, .string key, .slice a val.length cp, .bool dead] := by rw [hx]
  have hbx : boxE w x a cp = w.alloc (.cells #[.int .i64 1, .int .i64 stamp, .int .i64 count, .string key, .slice a val.length cp, .bool dead] 77) := by rw [hx]
  rw [hxv, hbx] at hck
  rw [hbx] at hb hin
  rw [hxv]
  rw [hx] at hin
  clear hm M hx hxv hbx
  generalize encE x = R at *
  have hcnt := fun w => countsOf_any 1 w
  have hcv : ((cnt 1 : Nat) : Int) = 17 := by decide
  simp only [hcv] at hcnt
  clear hcv
  go_enter Tryz.func77, Tryz.ntmps77
  go_wp2_with fail
  refine hck.mono ?_
  rintro e w1 ⟨rfl, hb1⟩
  have hin1 := hin.below hb1 (by simp)
  have hB1 := hb.trans (hb1.mono hb.size)
  have hr1 := hr.below hB1
  have hz1 := hB1.size
  have hp1 : w.heap.size < w1.heap.size := by have := hb1.size; simp at this; omega
  clear hck hb hb1 hin hr
  obtain ⟨c0, c1, c2, c3, c4, c5⟩ := hin1
  simp only at c0 c1 c2 c3 c4 c5
  go_wp2_with fail
  refine (hcnt _).mono ?_
  rintro e w' ⟨rfl, hq⟩
  have hq2 := hq.symm
  subst hq2
  clear hq
  have hput := put8 none 0 1 [] w1 (by decide) (.inl rfl) (by simp) (fun _ => ⟨rfl, rfl⟩)
  go_wp2_with fail
  refine hput.mono ?_
  rintro e w2 ⟨⟨v2, rfl, ho2⟩, hb2⟩
  have HL : Hid ([] ++ beP 1 1 1 = [1]) := by unfold Hid; rw [beP_one _ (by decide)]; rfl
  rw [HL.out] at ho2
  clear HL hput hcnt
  have hl2 : ([1] : List Nat).length ≤ 1 := by simp
  obtain ⟨L2, hL2⟩ : ∃ L : List Nat, L = [1] := ⟨_, rfl⟩
  rw [← hL2] at ho2 hl2
  replace hL2 := hide_it hL2
  have hin2 : InE w2 w.heap.size ⟨1, stamp, count, key, val, dead⟩ a cp := (InE.mk c0 c1 c2 c3 c4 c5 : InE w1 w.heap.size ⟨1, stamp, count, key, val, dead⟩ a cp).below hb2 hp1
  have hp2 : w.heap.size < w2.heap.size := by have := hb2.size; omega
  have hB2 := hB1.trans (hb2.mono hz1)
  have hr2 := hr1.below hb2
  have hz2 := hB2.size
  obtain ⟨p2, q2, hv2, hrow2, _, _, hn2⟩ := ho2.row
  subst hv2
  have how2 := ho2.mono hz1
  clear hb2 hp1 hB1 hr1 hz1 ho2 c0 c1 c2 c3 c4 c5
  obtain ⟨c0, c1, c2, c3, c4, c5⟩ := hin2
  simp only at c0 c1 c2 c3 c4 c5
  have HOW2 := hide_it how2
  have HR2 := hide_it hr2
  have HROW2 := hide_it hrow2
  clear how2 hr2 hrow2
  go_wp2_with fail
  refine (have_lit 17 1 true _ (by decide)).mono ?_
  rintro e w' ⟨rfl, hq⟩
  have hq2 := hq.symm
  subst hq2
  clear hq
  have hs1 : (shortL (2 * key.size)).length ≤ 10 := shortL_ten (by unfold W64; omega)
  have hs2 := strNat_len key
  have hput := putText_any p2 q2 key L2 w2 HROW2.out (by omega) hn2
  go_wp2_with fail
  refine hput.mono ?_
  rintro e w3 ⟨⟨v3, rfl, ho3⟩, hb3⟩
  clear hput HOW2 HROW2
  have hl3 : (L2 ++ shortL (2 * key.size) ++ strNat key).length ≤ 266 := by simp only [List.length_append]; omega
  obtain ⟨L3, hL3⟩ : ∃ L : List Nat, L = L2 ++ shortL (2 * key.size) ++ strNat key := ⟨_, rfl⟩
  rw [← hL3] at ho3 hl3
  replace hL3 := hide_it hL3
  have hr2 := HR2.out
  clear HR2
  have hin3 : InE w3 w.heap.size ⟨1, stamp, count, key, val, dead⟩ a cp := (InE.mk c0 c1 c2 c3 c4 c5 : InE w2 w.heap.size ⟨1, stamp, count, key, val, dead⟩ a cp).below hb3 hp2
  have hp3 : w.heap.size < w3.heap.size := by have := hb3.size; omega
  have hB3 := hB2.trans (hb3.mono hz2)
  have hr3 := hr2.below hb3
  have hz3 := hB3.size
  obtain ⟨p3, q3, hv3, hrow3, _, _, hn3⟩ := ho3.row
  subst hv3
  have how3 := ho3.mono hz2
  clear hb3 hp2 hB2 hr2 hz2 ho3 c0 c1 c2 c3 c4 c5
  obtain ⟨c0, c1, c2, c3, c4, c5⟩ := hin3
  simp only at c0 c1 c2 c3 c4 c5
  have HOW3 := hide_it how3
  have HR3 := hide_it hr3
  have HROW3 := hide_it hrow3
  clear how3 hr3 hrow3
  clear hs1 hs2
  go_wp2_with fail
  refine (have_lit 17 2 false _ (by decide)).mono ?_
  rintro e w' ⟨rfl, hq⟩
  have hq2 := hq.symm
  subst hq2
  clear hq
  go_wp2_with fail
  refine (have_lit 17 4 false _ (by decide)).mono ?_
  rintro e w' ⟨rfl, hq⟩
  have hq2 := hq.symm
  subst hq2
  clear hq
  go_wp2_with fail
  refine (have_lit 17 8 false _ (by decide)).mono ?_
  rintro e w' ⟨rfl, hq⟩
  have hq2 := hq.symm
  subst hq2
  clear hq
  go_wp2_with fail
  refine (have_lit 17 16 true _ (by decide)).mono ?_
  rintro e w' ⟨rfl, hq⟩
  have hq2 := hq.symm
  subst hq2
  clear hq
  have hs1 : (shortL (2 * val.length)).length ≤ 10 := shortL_ten (by unfold W64; omega)
  have hput := putBytes_any p3 a q3 cp L3 val w3 HROW3.out HR3.out (by omega) hn3 hnil
  go_wp2_with fail
  refine hput.mono ?_
  rintro e w4 ⟨⟨v4, rfl, ho4⟩, hb4⟩
  clear hput HOW3 HROW3
  have hl4 : (L3 ++ shortL (2 * val.length) ++ val).length ≤ 4372 := by simp only [List.length_append]; omega
  obtain ⟨L4, hL4⟩ : ∃ L : List Nat, L = L3 ++ shortL (2 * val.length) ++ val := ⟨_, rfl⟩
  rw [← hL4] at ho4 hl4
  replace hL4 := hide_it hL4
  have hr3 := HR3.out
  clear HR3
  have hin4 : InE w4 w.heap.size ⟨1, stamp, count, key, val, dead⟩ a cp := (InE.mk c0 c1 c2 c3 c4 c5 : InE w3 w.heap.size ⟨1, stamp, count, key, val, dead⟩ a cp).below hb4 hp3
  have hp4 : w.heap.size < w4.heap.size := by have := hb4.size; omega
  have hB4 := hB3.trans (hb4.mono hz3)
  have hr4 := hr3.below hb4
  have hz4 := hB4.size
  obtain ⟨p4, q4, hv4, hrow4, _, _, hn4⟩ := ho4.row
  subst hv4
  have how4 := ho4.mono hz3
  clear hb4 hp3 hB3 hr3 hz3 ho4 c0 c1 c2 c3 c4 c5
  obtain ⟨c0, c1, c2, c3, c4, c5⟩ := hin4
  simp only at c0 c1 c2 c3 c4 c5
  have HOW4 := hide_it how4
  have HR4 := hide_it hr4
  have HROW4 := hide_it hrow4
  clear how4 hr4 hrow4
  clear hs1
  have hend := hfin w4 (.slice p4 L4.length q4) L4 hB4 (by
    rw [HE.out]
    rw [hL4.out]
    rw [hL3.out]
    rw [hL2.out]
    simp [encE, eK, eS, eC, eD, eV, hk, hs, hc, hd, hv]) HOW4.out
  clear hfin HOW4 HR4 HROW4 HE
  go_wp2_with fail
  first | exact hend | (go_ret2; exact hend)
end Go.Proofs.YtkacfpmninmjkaaGreat

namespace Go.Proofs.YtkacfpmninmjkaaGreat
open Go.RowKit

set_option maxRecDepth 100000 in
set_option maxHeartbeats 1000000 in
theorem encode_2 (stamp count : Int) (key : ByteArray) (val : List Nat) (dead : Bool) (a : Option Addr) (cp : Nat) (w : World) (hm : mayE ⟨2, stamp, count, key, val, dead⟩ = true) (hr : RowB w a val) (_hnil : a = none → val.length = 0 ∧ cp = 0) :
    Calls Tryz.prog 77 #[valE ⟨2, stamp, count, key, val, dead⟩ a cp] w fun e w' => EncTo w ⟨2, stamp, count, key, val, dead⟩ e w' := by
  obtain ⟨x, hx⟩ : ∃ x : En, x = ⟨2, stamp, count, key, val, dead⟩ := ⟨_, rfl⟩
  have hb := boxE_below w x a cp
  have hin := InE.box w x a cp
  have hck := check_any x a cp (boxE w x a cp)
  have M := may_parts hm
  have HC : Hid (chkE x = 0) := by unfold Hid chkE; rw [hx, hm]; rfl
  rw [HC.out] at hck
  have HM := hide_it hm
  have HX := hide_it hx
  have hkl : key.size ≤ 255 := by
    exact (M.key1 rfl).2
  have hvl : val.length ≤ 4096 := M.val
  have hfin : ∀ (w' : World) (v : Value) (L : List Nat), Below w.heap.size w w' → L = encE x → OwnB w' w.heap.size v L → EncTo w x (.returned (.tuple #[v, .int .i64 0])) w' := fun w' v L h1 h2 h3 => by
    refine ⟨⟨v, by rw [HC.out]; rfl, ?_⟩, h1⟩
    rw [HX.out, HM.out]
    rw [h2, HX.out] at h3
    exact h3
  have HE : Hid (encE x = encE ⟨2, stamp, count, key, val, dead⟩) := by unfold Hid; rw [HX.out]
  rw [← hx]
  generalize EncTo w x = Q at *
  have hxv : valE x a cp = .agg #[.int .i64 2, .int .i64 stamp, .int .i64 count, .string key, .slice a val.length cp, .bool dead] := by rw [hx]
  have hbx : boxE w x a cp = w.alloc (.cells #[.int .i64 2, .int .i64 stamp, .int .i64 count, .string key, .slice a val.length cp, .bool dead] 77) := by rw [hx]
  rw [hxv, hbx] at hck
  rw [hbx] at hb hin
  rw [hxv]
  rw [hx] at hin
  clear hm M hx hxv hbx
  generalize encE x = R at *
  have hcnt := fun w => countsOf_any 2 w
  have hcv : ((cnt 2 : Nat) : Int) = 1 := by decide
  simp only [hcv] at hcnt
  clear hcv
  go_enter Tryz.func77, Tryz.ntmps77
  go_wp2_with fail
  refine hck.mono ?_
  rintro e w1 ⟨rfl, hb1⟩
  have hin1 := hin.below hb1 (by simp)
  have hB1 := hb.trans (hb1.mono hb.size)
  have hr1 := hr.below hB1
  have hz1 := hB1.size
  have hp1 : w.heap.size < w1.heap.size := by have := hb1.size; simp at this; omega
  clear hck hb hb1 hin hr
  obtain ⟨c0, c1, c2, c3, c4, c5⟩ := hin1
  simp only at c0 c1 c2 c3 c4 c5
  go_wp2_with fail
  refine (hcnt _).mono ?_
  rintro e w' ⟨rfl, hq⟩
  have hq2 := hq.symm
  subst hq2
  clear hq
  have hput := put8 none 0 2 [] w1 (by decide) (.inl rfl) (by simp) (fun _ => ⟨rfl, rfl⟩)
  go_wp2_with fail
  refine hput.mono ?_
  rintro e w2 ⟨⟨v2, rfl, ho2⟩, hb2⟩
  have HL : Hid ([] ++ beP 1 2 1 = [2]) := by unfold Hid; rw [beP_one _ (by decide)]; rfl
  rw [HL.out] at ho2
  clear HL hput hcnt
  have hl2 : ([2] : List Nat).length ≤ 1 := by simp
  obtain ⟨L2, hL2⟩ : ∃ L : List Nat, L = [2] := ⟨_, rfl⟩
  rw [← hL2] at ho2 hl2
  replace hL2 := hide_it hL2
  have hin2 : InE w2 w.heap.size ⟨2, stamp, count, key, val, dead⟩ a cp := (InE.mk c0 c1 c2 c3 c4 c5 : InE w1 w.heap.size ⟨2, stamp, count, key, val, dead⟩ a cp).below hb2 hp1
  have hp2 : w.heap.size < w2.heap.size := by have := hb2.size; omega
  have hB2 := hB1.trans (hb2.mono hz1)
  have hr2 := hr1.below hb2
  have hz2 := hB2.size
  obtain ⟨p2, q2, hv2, hrow2, _, _, hn2⟩ := ho2.row
  subst hv2
  have how2 := ho2.mono hz1
  clear hb2 hp1 hB1 hr1 hz1 ho2 c0 c1 c2 c3 c4 c5
  obtain ⟨c0, c1, c2, c3, c4, c5⟩ := hin2
  simp only at c0 c1 c2 c3 c4 c5
  have HOW2 := hide_it how2
  have HR2 := hide_it hr2
  have HROW2 := hide_it hrow2
  clear how2 hr2 hrow2
  go_wp2_with fail
  refine (have_lit 1 1 true _ (by decide)).mono ?_
  rintro e w' ⟨rfl, hq⟩
  have hq2 := hq.symm
  subst hq2
  clear hq
  have hs1 : (shortL (2 * key.size)).length ≤ 10 := shortL_ten (by unfold W64; omega)
  have hs2 := strNat_len key
  have hput := putText_any p2 q2 key L2 w2 HROW2.out (by omega) hn2
  go_wp2_with fail
  refine hput.mono ?_
  rintro e w3 ⟨⟨v3, rfl, ho3⟩, hb3⟩
  clear hput HOW2 HROW2
  have hl3 : (L2 ++ shortL (2 * key.size) ++ strNat key).length ≤ 266 := by simp only [List.length_append]; omega
  obtain ⟨L3, hL3⟩ : ∃ L : List Nat, L = L2 ++ shortL (2 * key.size) ++ strNat key := ⟨_, rfl⟩
  rw [← hL3] at ho3 hl3
  replace hL3 := hide_it hL3
  have hr2 := HR2.out
  clear HR2
  have hin3 : InE w3 w.heap.size ⟨2, stamp, count, key, val, dead⟩ a cp := (InE.mk c0 c1 c2 c3 c4 c5 : InE w2 w.heap.size ⟨2, stamp, count, key, val, dead⟩ a cp).below hb3 hp2
  have hp3 : w.heap.size < w3.heap.size := by have := hb3.size; omega
  have hB3 := hB2.trans (hb3.mono hz2)
  have hr3 := hr2.below hb3
  have hz3 := hB3.size
  obtain ⟨p3, q3, hv3, hrow3, _, _, hn3⟩ := ho3.row
  subst hv3
  have how3 := ho3.mono hz2
  clear hb3 hp2 hB2 hr2 hz2 ho3 c0 c1 c2 c3 c4 c5
  obtain ⟨c0, c1, c2, c3, c4, c5⟩ := hin3
  simp only at c0 c1 c2 c3 c4 c5
  have HOW3 := hide_it how3
  have HR3 := hide_it hr3
  have HROW3 := hide_it hrow3
  clear how3 hr3 hrow3
  clear hs1 hs2
  go_wp2_with fail
  refine (have_lit 1 2 false _ (by decide)).mono ?_
  rintro e w' ⟨rfl, hq⟩
  have hq2 := hq.symm
  subst hq2
  clear hq
  go_wp2_with fail
  refine (have_lit 1 4 false _ (by decide)).mono ?_
  rintro e w' ⟨rfl, hq⟩
  have hq2 := hq.symm
  subst hq2
  clear hq
  go_wp2_with fail
  refine (have_lit 1 8 false _ (by decide)).mono ?_
  rintro e w' ⟨rfl, hq⟩
  have hq2 := hq.symm
  subst hq2
  clear hq
  go_wp2_with fail
  refine (have_lit 1 16 false _ (by decide)).mono ?_
  rintro e w' ⟨rfl, hq⟩
  have hq2 := hq.symm
  subst hq2
  clear hq
  have hend := hfin w3 (.slice p3 L3.length q3) L3 hB3 (by
    rw [HE.out]
    rw [hL3.out]
    rw [hL2.out]
    simp [encE, eK, eS, eC, eD, eV, hk, hs, hc, hd, hv]) HOW3.out
  clear hfin HOW3 HR3 HROW3 HE
  go_wp2_with fail
  first | exact hend | (go_ret2; exact hend)
end Go.Proofs.YtkacfpmninmjkaaGreat

namespace Go.Proofs.YtkacfpmninmjkaaGreat
open Go.RowKit

set_option maxRecDepth 100000 in
set_option maxHeartbeats 1000000 in
theorem encode_3 (stamp count : Int) (key : ByteArray) (val : List Nat) (dead : Bool) (a : Option Addr) (cp : Nat) (w : World) (hm : mayE ⟨3, stamp, count, key, val, dead⟩ = true) (hr : RowB w a val) (_hnil : a = none → val.length = 0 ∧ cp = 0) :
    Calls Tryz.prog 77 #[valE ⟨3, stamp, count, key, val, dead⟩ a cp] w fun e w' => EncTo w ⟨3, stamp, count, key, val, dead⟩ e w' := by
  obtain ⟨x, hx⟩ : ∃ x : En, x = ⟨3, stamp, count, key, val, dead⟩ := ⟨_, rfl⟩
  have hb := boxE_below w x a cp
  have hin := InE.box w x a cp
  have hck := check_any x a cp (boxE w x a cp)
  have M := may_parts hm
  have HC : Hid (chkE x = 0) := by unfold Hid chkE; rw [hx, hm]; rfl
  rw [HC.out] at hck
  have HM := hide_it hm
  have HX := hide_it hx
  have hkl : key.size ≤ 255 := by
    have h1 := M.key0 rfl
    have h2 : key.size = 0 := h1
    omega
  have hvl : val.length ≤ 4096 := M.val
  obtain ⟨hst1, hst2⟩ : 0 ≤ stamp ∧ stamp ≤ 4611686018427387904 := M.st1 rfl
  obtain ⟨hct1, hct2⟩ : 0 ≤ count ∧ count ≤ 2147483647 := M.ct1 rfl
  have hfin : ∀ (w' : World) (v : Value) (L : List Nat), Below w.heap.size w w' → L = encE x → OwnB w' w.heap.size v L → EncTo w x (.returned (.tuple #[v, .int .i64 0])) w' := fun w' v L h1 h2 h3 => by
    refine ⟨⟨v, by rw [HC.out]; rfl, ?_⟩, h1⟩
    rw [HX.out, HM.out]
    rw [h2, HX.out] at h3
    exact h3
  have HE : Hid (encE x = encE ⟨3, stamp, count, key, val, dead⟩) := by unfold Hid; rw [HX.out]
  rw [← hx]
  generalize EncTo w x = Q at *
  have hxv : valE x a cp = .agg #[.int .i64 3, .int .i64 stamp, .int .i64 count, .string key, .slice a val.length cp, .bool dead] := by rw [hx]
  have hbx : boxE w x a cp = w.alloc (.cells #[.int .i64 3, .int .i64 stamp, .int .i64 count, .string key, .slice a val.length cp, .bool dead] 77) := by rw [hx]
  rw [hxv, hbx] at hck
  rw [hbx] at hb hin
  rw [hxv]
  rw [hx] at hin
  clear hm M hx hxv hbx
  generalize encE x = R at *
  have hcnt := fun w => countsOf_any 3 w
  have hcv : ((cnt 3 : Nat) : Int) = 6 := by decide
  simp only [hcv] at hcnt
  clear hcv
  go_enter Tryz.func77, Tryz.ntmps77
  go_wp2_with fail
  refine hck.mono ?_
  rintro e w1 ⟨rfl, hb1⟩
  have hin1 := hin.below hb1 (by simp)
  have hB1 := hb.trans (hb1.mono hb.size)
  have hr1 := hr.below hB1
  have hz1 := hB1.size
  have hp1 : w.heap.size < w1.heap.size := by have := hb1.size; simp at this; omega
  clear hck hb hb1 hin hr
  obtain ⟨c0, c1, c2, c3, c4, c5⟩ := hin1
  simp only at c0 c1 c2 c3 c4 c5
  go_wp2_with fail
  refine (hcnt _).mono ?_
  rintro e w' ⟨rfl, hq⟩
  have hq2 := hq.symm
  subst hq2
  clear hq
  have hput := put8 none 0 3 [] w1 (by decide) (.inl rfl) (by simp) (fun _ => ⟨rfl, rfl⟩)
  go_wp2_with fail
  refine hput.mono ?_
  rintro e w2 ⟨⟨v2, rfl, ho2⟩, hb2⟩
  have HL : Hid ([] ++ beP 1 3 1 = [3]) := by unfold Hid; rw [beP_one _ (by decide)]; rfl
  rw [HL.out] at ho2
  clear HL hput hcnt
  have hl2 : ([3] : List Nat).length ≤ 1 := by simp
  obtain ⟨L2, hL2⟩ : ∃ L : List Nat, L = [3] := ⟨_, rfl⟩
  rw [← hL2] at ho2 hl2
  replace hL2 := hide_it hL2
  have hin2 : InE w2 w.heap.size ⟨3, stamp, count, key, val, dead⟩ a cp := (InE.mk c0 c1 c2 c3 c4 c5 : InE w1 w.heap.size ⟨3, stamp, count, key, val, dead⟩ a cp).below hb2 hp1
  have hp2 : w.heap.size < w2.heap.size := by have := hb2.size; omega
  have hB2 := hB1.trans (hb2.mono hz1)
  have hr2 := hr1.below hb2
  have hz2 := hB2.size
  obtain ⟨p2, q2, hv2, hrow2, _, _, hn2⟩ := ho2.row
  subst hv2
  have how2 := ho2.mono hz1
  clear hb2 hp1 hB1 hr1 hz1 ho2 c0 c1 c2 c3 c4 c5
  obtain ⟨c0, c1, c2, c3, c4, c5⟩ := hin2
  simp only at c0 c1 c2 c3 c4 c5
  have HOW2 := hide_it how2
  have HR2 := hide_it hr2
  have HROW2 := hide_it hrow2
  clear how2 hr2 hrow2
  go_wp2_with fail
  refine (have_lit 6 1 false _ (by decide)).mono ?_
  rintro e w' ⟨rfl, hq⟩
  have hq2 := hq.symm
  subst hq2
  clear hq
  go_wp2_with fail
  refine (have_lit 6 2 true _ (by decide)).mono ?_
  rintro e w' ⟨rfl, hq⟩
  have hq2 := hq.symm
  subst hq2
  clear hq
  have hs1 : (shortL (foldI stamp)).length ≤ 10 := shortL_ten (foldI_64 (by omega) (by omega))
  have hput := putInt_any p2 q2 stamp L2 w2 (by omega) (by omega) HROW2.out (by omega) hn2
  go_wp2_with fail
  refine hput.mono ?_
  rintro e w3 ⟨⟨v3, rfl, ho3⟩, hb3⟩
  clear hput HOW2 HROW2
  have hl3 : (L2 ++ shortL (foldI stamp)).length ≤ 11 := by simp only [List.length_append]; omega
  obtain ⟨L3, hL3⟩ : ∃ L : List Nat, L = L2 ++ shortL (foldI stamp) := ⟨_, rfl⟩
  rw [← hL3] at ho3 hl3
  replace hL3 := hide_it hL3
  have hr2 := HR2.out
  clear HR2
  have hin3 : InE w3 w.heap.size ⟨3, stamp, count, key, val, dead⟩ a cp := (InE.mk c0 c1 c2 c3 c4 c5 : InE w2 w.heap.size ⟨3, stamp, count, key, val, dead⟩ a cp).below hb3 hp2
  have hp3 : w.heap.size < w3.heap.size := by have := hb3.size; omega
  have hB3 := hB2.trans (hb3.mono hz2)
  have hr3 := hr2.below hb3
  have hz3 := hB3.size
  obtain ⟨p3, q3, hv3, hrow3, _, _, hn3⟩ := ho3.row
  subst hv3
  have how3 := ho3.mono hz2
  clear hb3 hp2 hB2 hr2 hz2 ho3 c0 c1 c2 c3 c4 c5
  obtain ⟨c0, c1, c2, c3, c4, c5⟩ := hin3
  simp only at c0 c1 c2 c3 c4 c5
  have HOW3 := hide_it how3
  have HR3 := hide_it hr3
  have HROW3 := hide_it hrow3
  clear how3 hr3 hrow3
  clear hs1
  go_wp2_with fail
  refine (have_lit 6 4 true _ (by decide)).mono ?_
  rintro e w' ⟨rfl, hq⟩
  have hq2 := hq.symm
  subst hq2
  clear hq
  have hs1 : (shortL (foldI count)).length ≤ 10 := shortL_ten (foldI_64 (by omega) (by omega))
  have hput := putInt_any p3 q3 count L3 w3 (by omega) (by omega) HROW3.out (by omega) hn3
  go_wp2_with fail
  refine hput.mono ?_
  rintro e w4 ⟨⟨v4, rfl, ho4⟩, hb4⟩
  clear hput HOW3 HROW3
  have hl4 : (L3 ++ shortL (foldI count)).length ≤ 21 := by simp only [List.length_append]; omega
  obtain ⟨L4, hL4⟩ : ∃ L : List Nat, L = L3 ++ shortL (foldI count) := ⟨_, rfl⟩
  rw [← hL4] at ho4 hl4
  replace hL4 := hide_it hL4
  have hr3 := HR3.out
  clear HR3
  have hin4 : InE w4 w.heap.size ⟨3, stamp, count, key, val, dead⟩ a cp := (InE.mk c0 c1 c2 c3 c4 c5 : InE w3 w.heap.size ⟨3, stamp, count, key, val, dead⟩ a cp).below hb4 hp3
  have hp4 : w.heap.size < w4.heap.size := by have := hb4.size; omega
  have hB4 := hB3.trans (hb4.mono hz3)
  have hr4 := hr3.below hb4
  have hz4 := hB4.size
  obtain ⟨p4, q4, hv4, hrow4, _, _, hn4⟩ := ho4.row
  subst hv4
  have how4 := ho4.mono hz3
  clear hb4 hp3 hB3 hr3 hz3 ho4 c0 c1 c2 c3 c4 c5
  obtain ⟨c0, c1, c2, c3, c4, c5⟩ := hin4
  simp only at c0 c1 c2 c3 c4 c5
  have HOW4 := hide_it how4
  have HR4 := hide_it hr4
  have HROW4 := hide_it hrow4
  clear how4 hr4 hrow4
  clear hs1
  go_wp2_with fail
  refine (have_lit 6 8 false _ (by decide)).mono ?_
  rintro e w' ⟨rfl, hq⟩
  have hq2 := hq.symm
  subst hq2
  clear hq
  go_wp2_with fail
  refine (have_lit 6 16 false _ (by decide)).mono ?_
  rintro e w' ⟨rfl, hq⟩
  have hq2 := hq.symm
  subst hq2
  clear hq
  have hend := hfin w4 (.slice p4 L4.length q4) L4 hB4 (by
    rw [HE.out]
    rw [hL4.out]
    rw [hL3.out]
    rw [hL2.out]
    simp [encE, eK, eS, eC, eD, eV, hk, hs, hc, hd, hv]) HOW4.out
  clear hfin HOW4 HR4 HROW4 HE
  go_wp2_with fail
  first | exact hend | (go_ret2; exact hend)
end Go.Proofs.YtkacfpmninmjkaaGreat

namespace Go.Proofs.YtkacfpmninmjkaaGreat
open Go.RowKit

set_option maxRecDepth 100000 in
set_option maxHeartbeats 1000000 in
theorem encode_4 (stamp count : Int) (key : ByteArray) (val : List Nat) (dead : Bool) (a : Option Addr) (cp : Nat) (w : World) (hm : mayE ⟨4, stamp, count, key, val, dead⟩ = true) (hr : RowB w a val) (_hnil : a = none → val.length = 0 ∧ cp = 0) :
    Calls Tryz.prog 77 #[valE ⟨4, stamp, count, key, val, dead⟩ a cp] w fun e w' => EncTo w ⟨4, stamp, count, key, val, dead⟩ e w' := by
  obtain ⟨x, hx⟩ : ∃ x : En, x = ⟨4, stamp, count, key, val, dead⟩ := ⟨_, rfl⟩
  have hb := boxE_below w x a cp
  have hin := InE.box w x a cp
  have hck := check_any x a cp (boxE w x a cp)
  have M := may_parts hm
  have HC : Hid (chkE x = 0) := by unfold Hid chkE; rw [hx, hm]; rfl
  rw [HC.out] at hck
  have HM := hide_it hm
  have HX := hide_it hx
  have hkl : key.size ≤ 255 := by
    have h1 := M.key0 rfl
    have h2 : key.size = 0 := h1
    omega
  have hvl : val.length ≤ 4096 := M.val
  obtain ⟨hst1, hst2⟩ : 0 ≤ stamp ∧ stamp ≤ 4611686018427387904 := M.st1 rfl
  obtain ⟨hct1, hct2⟩ : 0 ≤ count ∧ count ≤ 2147483647 := M.ct1 rfl
  have hfin : ∀ (w' : World) (v : Value) (L : List Nat), Below w.heap.size w w' → L = encE x → OwnB w' w.heap.size v L → EncTo w x (.returned (.tuple #[v, .int .i64 0])) w' := fun w' v L h1 h2 h3 => by
    refine ⟨⟨v, by rw [HC.out]; rfl, ?_⟩, h1⟩
    rw [HX.out, HM.out]
    rw [h2, HX.out] at h3
    exact h3
  have HE : Hid (encE x = encE ⟨4, stamp, count, key, val, dead⟩) := by unfold Hid; rw [HX.out]
  rw [← hx]
  generalize EncTo w x = Q at *
  have hxv : valE x a cp = .agg #[.int .i64 4, .int .i64 stamp, .int .i64 count, .string key, .slice a val.length cp, .bool dead] := by rw [hx]
  have hbx : boxE w x a cp = w.alloc (.cells #[.int .i64 4, .int .i64 stamp, .int .i64 count, .string key, .slice a val.length cp, .bool dead] 77) := by rw [hx]
  rw [hxv, hbx] at hck
  rw [hbx] at hb hin
  rw [hxv]
  rw [hx] at hin
  clear hm M hx hxv hbx
  generalize encE x = R at *
  have hcnt := fun w => countsOf_any 4 w
  have hcv : ((cnt 4 : Nat) : Int) = 6 := by decide
  simp only [hcv] at hcnt
  clear hcv
  go_enter Tryz.func77, Tryz.ntmps77
  go_wp2_with fail
  refine hck.mono ?_
  rintro e w1 ⟨rfl, hb1⟩
  have hin1 := hin.below hb1 (by simp)
  have hB1 := hb.trans (hb1.mono hb.size)
  have hr1 := hr.below hB1
  have hz1 := hB1.size
  have hp1 : w.heap.size < w1.heap.size := by have := hb1.size; simp at this; omega
  clear hck hb hb1 hin hr
  obtain ⟨c0, c1, c2, c3, c4, c5⟩ := hin1
  simp only at c0 c1 c2 c3 c4 c5
  go_wp2_with fail
  refine (hcnt _).mono ?_
  rintro e w' ⟨rfl, hq⟩
  have hq2 := hq.symm
  subst hq2
  clear hq
  have hput := put8 none 0 4 [] w1 (by decide) (.inl rfl) (by simp) (fun _ => ⟨rfl, rfl⟩)
  go_wp2_with fail
  refine hput.mono ?_
  rintro e w2 ⟨⟨v2, rfl, ho2⟩, hb2⟩
  have HL : Hid ([] ++ beP 1 4 1 = [4]) := by unfold Hid; rw [beP_one _ (by decide)]; rfl
  rw [HL.out] at ho2
  clear HL hput hcnt
  have hl2 : ([4] : List Nat).length ≤ 1 := by simp
  obtain ⟨L2, hL2⟩ : ∃ L : List Nat, L = [4] := ⟨_, rfl⟩
  rw [← hL2] at ho2 hl2
  replace hL2 := hide_it hL2
  have hin2 : InE w2 w.heap.size ⟨4, stamp, count, key, val, dead⟩ a cp := (InE.mk c0 c1 c2 c3 c4 c5 : InE w1 w.heap.size ⟨4, stamp, count, key, val, dead⟩ a cp).below hb2 hp1
  have hp2 : w.heap.size < w2.heap.size := by have := hb2.size; omega
  have hB2 := hB1.trans (hb2.mono hz1)
  have hr2 := hr1.below hb2
  have hz2 := hB2.size
  obtain ⟨p2, q2, hv2, hrow2, _, _, hn2⟩ := ho2.row
  subst hv2
  have how2 := ho2.mono hz1
  clear hb2 hp1 hB1 hr1 hz1 ho2 c0 c1 c2 c3 c4 c5
  obtain ⟨c0, c1, c2, c3, c4, c5⟩ := hin2
  simp only at c0 c1 c2 c3 c4 c5
  have HOW2 := hide_it how2
  have HR2 := hide_it hr2
  have HROW2 := hide_it hrow2
  clear how2 hr2 hrow2
  go_wp2_with fail
  refine (have_lit 6 1 false _ (by decide)).mono ?_
  rintro e w' ⟨rfl, hq⟩
  have hq2 := hq.symm
  subst hq2
  clear hq
  go_wp2_with fail
  refine (have_lit 6 2 true _ (by decide)).mono ?_
  rintro e w' ⟨rfl, hq⟩
  have hq2 := hq.symm
  subst hq2
  clear hq
  have hs1 : (shortL (foldI stamp)).length ≤ 10 := shortL_ten (foldI_64 (by omega) (by omega))
  have hput := putInt_any p2 q2 stamp L2 w2 (by omega) (by omega) HROW2.out (by omega) hn2
  go_wp2_with fail
  refine hput.mono ?_
  rintro e w3 ⟨⟨v3, rfl, ho3⟩, hb3⟩
  clear hput HOW2 HROW2
  have hl3 : (L2 ++ shortL (foldI stamp)).length ≤ 11 := by simp only [List.length_append]; omega
  obtain ⟨L3, hL3⟩ : ∃ L : List Nat, L = L2 ++ shortL (foldI stamp) := ⟨_, rfl⟩
  rw [← hL3] at ho3 hl3
  replace hL3 := hide_it hL3
  have hr2 := HR2.out
  clear HR2
  have hin3 : InE w3 w.heap.size ⟨4, stamp, count, key, val, dead⟩ a cp := (InE.mk c0 c1 c2 c3 c4 c5 : InE w2 w.heap.size ⟨4, stamp, count, key, val, dead⟩ a cp).below hb3 hp2
  have hp3 : w.heap.size < w3.heap.size := by have := hb3.size; omega
  have hB3 := hB2.trans (hb3.mono hz2)
  have hr3 := hr2.below hb3
  have hz3 := hB3.size
  obtain ⟨p3, q3, hv3, hrow3, _, _, hn3⟩ := ho3.row
  subst hv3
  have how3 := ho3.mono hz2
  clear hb3 hp2 hB2 hr2 hz2 ho3 c0 c1 c2 c3 c4 c5
  obtain ⟨c0, c1, c2, c3, c4, c5⟩ := hin3
  simp only at c0 c1 c2 c3 c4 c5
  have HOW3 := hide_it how3
  have HR3 := hide_it hr3
  have HROW3 := hide_it hrow3
  clear how3 hr3 hrow3
  clear hs1
  go_wp2_with fail
  refine (have_lit 6 4 true _ (by decide)).mono ?_
  rintro e w' ⟨rfl, hq⟩
  have hq2 := hq.symm
  subst hq2
  clear hq
  have hs1 : (shortL (foldI count)).length ≤ 10 := shortL_ten (foldI_64 (by omega) (by omega))
  have hput := putInt_any p3 q3 count L3 w3 (by omega) (by omega) HROW3.out (by omega) hn3
  go_wp2_with fail
  refine hput.mono ?_
  rintro e w4 ⟨⟨v4, rfl, ho4⟩, hb4⟩
  clear hput HOW3 HROW3
  have hl4 : (L3 ++ shortL (foldI count)).length ≤ 21 := by simp only [List.length_append]; omega
  obtain ⟨L4, hL4⟩ : ∃ L : List Nat, L = L3 ++ shortL (foldI count) := ⟨_, rfl⟩
  rw [← hL4] at ho4 hl4
  replace hL4 := hide_it hL4
  have hr3 := HR3.out
  clear HR3
  have hin4 : InE w4 w.heap.size ⟨4, stamp, count, key, val, dead⟩ a cp := (InE.mk c0 c1 c2 c3 c4 c5 : InE w3 w.heap.size ⟨4, stamp, count, key, val, dead⟩ a cp).below hb4 hp3
  have hp4 : w.heap.size < w4.heap.size := by have := hb4.size; omega
  have hB4 := hB3.trans (hb4.mono hz3)
  have hr4 := hr3.below hb4
  have hz4 := hB4.size
  obtain ⟨p4, q4, hv4, hrow4, _, _, hn4⟩ := ho4.row
  subst hv4
  have how4 := ho4.mono hz3
  clear hb4 hp3 hB3 hr3 hz3 ho4 c0 c1 c2 c3 c4 c5
  obtain ⟨c0, c1, c2, c3, c4, c5⟩ := hin4
  simp only at c0 c1 c2 c3 c4 c5
  have HOW4 := hide_it how4
  have HR4 := hide_it hr4
  have HROW4 := hide_it hrow4
  clear how4 hr4 hrow4
  clear hs1
  go_wp2_with fail
  refine (have_lit 6 8 false _ (by decide)).mono ?_
  rintro e w' ⟨rfl, hq⟩
  have hq2 := hq.symm
  subst hq2
  clear hq
  go_wp2_with fail
  refine (have_lit 6 16 false _ (by decide)).mono ?_
  rintro e w' ⟨rfl, hq⟩
  have hq2 := hq.symm
  subst hq2
  clear hq
  have hend := hfin w4 (.slice p4 L4.length q4) L4 hB4 (by
    rw [HE.out]
    rw [hL4.out]
    rw [hL3.out]
    rw [hL2.out]
    simp [encE, eK, eS, eC, eD, eV, hk, hs, hc, hd, hv]) HOW4.out
  clear hfin HOW4 HR4 HROW4 HE
  go_wp2_with fail
  first | exact hend | (go_ret2; exact hend)
end Go.Proofs.YtkacfpmninmjkaaGreat

namespace Go.Proofs.YtkacfpmninmjkaaGreat
open Go.RowKit

set_option maxRecDepth 100000 in
set_option maxHeartbeats 1000000 in
theorem encode_5 (stamp count : Int) (key : ByteArray) (val : List Nat) (dead : Bool) (a : Option Addr) (cp : Nat) (w : World) (hm : mayE ⟨5, stamp, count, key, val, dead⟩ = true) (hr : RowB w a val) (hnil : a = none → val.length = 0 ∧ cp = 0) :
    Calls Tryz.prog 77 #[valE ⟨5, stamp, count, key, val, dead⟩ a cp] w fun e w' => EncTo w ⟨5, stamp, count, key, val, dead⟩ e w' := by
  obtain ⟨x, hx⟩ : ∃ x : En, x = ⟨5, stamp, count, key, val, dead⟩ := ⟨_, rfl⟩
  have hb := boxE_below w x a cp
  have hin := InE.box w x a cp
  have hck := check_any x a cp (boxE w x a cp)
  have M := may_parts hm
  have HC : Hid (chkE x = 0) := by unfold Hid chkE; rw [hx, hm]; rfl
  rw [HC.out] at hck
  have HM := hide_it hm
  have HX := hide_it hx
  have hkl : key.size ≤ 255 := by
    exact (M.key1 rfl).2
  have hvl : val.length ≤ 4096 := M.val
  obtain ⟨hst1, hst2⟩ : 0 ≤ stamp ∧ stamp ≤ 4611686018427387904 := M.st1 rfl
  have hfin : ∀ (w' : World) (v : Value) (L : List Nat), Below w.heap.size w w' → L = encE x → OwnB w' w.heap.size v L → EncTo w x (.returned (.tuple #[v, .int .i64 0])) w' := fun w' v L h1 h2 h3 => by
    refine ⟨⟨v, by rw [HC.out]; rfl, ?_⟩, h1⟩
    rw [HX.out, HM.out]
    rw [h2, HX.out] at h3
    exact h3
  have HE : Hid (encE x = encE ⟨5, stamp, count, key, val, dead⟩) := by unfold Hid; rw [HX.out]
  rw [← hx]
  generalize EncTo w x = Q at *
  have hxv : valE x a cp = .agg #[.int .i64 5, .int .i64 stamp, .int .i64 count, .string key, .slice a val.length cp, .bool dead] := by rw [hx]
  have hbx : boxE w x a cp = w.alloc (.cells #[.int .i64 5, .int .i64 stamp, .int .i64 count, .string key, .slice a val.length cp, .bool dead] 77) := by rw [hx]
  rw [hxv, hbx] at hck
  rw [hbx] at hb hin
  rw [hxv]
  rw [hx] at hin
  clear hm M hx hxv hbx
  generalize encE x = R at *
  have hcnt := fun w => countsOf_any 5 w
  have hcv : ((cnt 5 : Nat) : Int) = 27 := by decide
  simp only [hcv] at hcnt
  clear hcv
  go_enter Tryz.func77, Tryz.ntmps77
  go_wp2_with fail
  refine hck.mono ?_
  rintro e w1 ⟨rfl, hb1⟩
  have hin1 := hin.below hb1 (by simp)
  have hB1 := hb.trans (hb1.mono hb.size)
  have hr1 := hr.below hB1
  have hz1 := hB1.size
  have hp1 : w.heap.size < w1.heap.size := by have := hb1.size; simp at this; omega
  clear hck hb hb1 hin hr
  obtain ⟨c0, c1, c2, c3, c4, c5⟩ := hin1
  simp only at c0 c1 c2 c3 c4 c5
  go_wp2_with fail
  refine (hcnt _).mono ?_
  rintro e w' ⟨rfl, hq⟩
  have hq2 := hq.symm
  subst hq2
  clear hq
  have hput := put8 none 0 5 [] w1 (by decide) (.inl rfl) (by simp) (fun _ => ⟨rfl, rfl⟩)
  go_wp2_with fail
  refine hput.mono ?_
  rintro e w2 ⟨⟨v2, rfl, ho2⟩, hb2⟩
  have HL : Hid ([] ++ beP 1 5 1 = [5]) := by unfold Hid; rw [beP_one _ (by decide)]; rfl
  rw [HL.out] at ho2
  clear HL hput hcnt
  have hl2 : ([5] : List Nat).length ≤ 1 := by simp
  obtain ⟨L2, hL2⟩ : ∃ L : List Nat, L = [5] := ⟨_, rfl⟩
  rw [← hL2] at ho2 hl2
  replace hL2 := hide_it hL2
  have hin2 : InE w2 w.heap.size ⟨5, stamp, count, key, val, dead⟩ a cp := (InE.mk c0 c1 c2 c3 c4 c5 : InE w1 w.heap.size ⟨5, stamp, count, key, val, dead⟩ a cp).below hb2 hp1
  have hp2 : w.heap.size < w2.heap.size := by have := hb2.size; omega
  have hB2 := hB1.trans (hb2.mono hz1)
  have hr2 := hr1.below hb2
  have hz2 := hB2.size
  obtain ⟨p2, q2, hv2, hrow2, _, _, hn2⟩ := ho2.row
  subst hv2
  have how2 := ho2.mono hz1
  clear hb2 hp1 hB1 hr1 hz1 ho2 c0 c1 c2 c3 c4 c5
  obtain ⟨c0, c1, c2, c3, c4, c5⟩ := hin2
  simp only at c0 c1 c2 c3 c4 c5
  have HOW2 := hide_it how2
  have HR2 := hide_it hr2
  have HROW2 := hide_it hrow2
  clear how2 hr2 hrow2
  go_wp2_with fail
  refine (have_lit 27 1 true _ (by decide)).mono ?_
  rintro e w' ⟨rfl, hq⟩
  have hq2 := hq.symm
  subst hq2
  clear hq
  have hs1 : (shortL (2 * key.size)).length ≤ 10 := shortL_ten (by unfold W64; omega)
  have hs2 := strNat_len key
  have hput := putText_any p2 q2 key L2 w2 HROW2.out (by omega) hn2
  go_wp2_with fail
  refine hput.mono ?_
  rintro e w3 ⟨⟨v3, rfl, ho3⟩, hb3⟩
  clear hput HOW2 HROW2
  have hl3 : (L2 ++ shortL (2 * key.size) ++ strNat key).length ≤ 266 := by simp only [List.length_append]; omega
  obtain ⟨L3, hL3⟩ : ∃ L : List Nat, L = L2 ++ shortL (2 * key.size) ++ strNat key := ⟨_, rfl⟩
  rw [← hL3] at ho3 hl3
  replace hL3 := hide_it hL3
  have hr2 := HR2.out
  clear HR2
  have hin3 : InE w3 w.heap.size ⟨5, stamp, count, key, val, dead⟩ a cp := (InE.mk c0 c1 c2 c3 c4 c5 : InE w2 w.heap.size ⟨5, stamp, count, key, val, dead⟩ a cp).below hb3 hp2
  have hp3 : w.heap.size < w3.heap.size := by have := hb3.size; omega
  have hB3 := hB2.trans (hb3.mono hz2)
  have hr3 := hr2.below hb3
  have hz3 := hB3.size
  obtain ⟨p3, q3, hv3, hrow3, _, _, hn3⟩ := ho3.row
  subst hv3
  have how3 := ho3.mono hz2
  clear hb3 hp2 hB2 hr2 hz2 ho3 c0 c1 c2 c3 c4 c5
  obtain ⟨c0, c1, c2, c3, c4, c5⟩ := hin3
  simp only at c0 c1 c2 c3 c4 c5
  have HOW3 := hide_it how3
  have HR3 := hide_it hr3
  have HROW3 := hide_it hrow3
  clear how3 hr3 hrow3
  clear hs1 hs2
  go_wp2_with fail
  refine (have_lit 27 2 true _ (by decide)).mono ?_
  rintro e w' ⟨rfl, hq⟩
  have hq2 := hq.symm
  subst hq2
  clear hq
  have hs1 : (shortL (foldI stamp)).length ≤ 10 := shortL_ten (foldI_64 (by omega) (by omega))
  have hput := putInt_any p3 q3 stamp L3 w3 (by omega) (by omega) HROW3.out (by omega) hn3
  go_wp2_with fail
  refine hput.mono ?_
  rintro e w4 ⟨⟨v4, rfl, ho4⟩, hb4⟩
  clear hput HOW3 HROW3
  have hl4 : (L3 ++ shortL (foldI stamp)).length ≤ 276 := by simp only [List.length_append]; omega
  obtain ⟨L4, hL4⟩ : ∃ L : List Nat, L = L3 ++ shortL (foldI stamp) := ⟨_, rfl⟩
  rw [← hL4] at ho4 hl4
  replace hL4 := hide_it hL4
  have hr3 := HR3.out
  clear HR3
  have hin4 : InE w4 w.heap.size ⟨5, stamp, count, key, val, dead⟩ a cp := (InE.mk c0 c1 c2 c3 c4 c5 : InE w3 w.heap.size ⟨5, stamp, count, key, val, dead⟩ a cp).below hb4 hp3
  have hp4 : w.heap.size < w4.heap.size := by have := hb4.size; omega
  have hB4 := hB3.trans (hb4.mono hz3)
  have hr4 := hr3.below hb4
  have hz4 := hB4.size
  obtain ⟨p4, q4, hv4, hrow4, _, _, hn4⟩ := ho4.row
  subst hv4
  have how4 := ho4.mono hz3
  clear hb4 hp3 hB3 hr3 hz3 ho4 c0 c1 c2 c3 c4 c5
  obtain ⟨c0, c1, c2, c3, c4, c5⟩ := hin4
  simp only at c0 c1 c2 c3 c4 c5
  have HOW4 := hide_it how4
  have HR4 := hide_it hr4
  have HROW4 := hide_it hrow4
  clear how4 hr4 hrow4
  clear hs1
  go_wp2_with fail
  refine (have_lit 27 4 false _ (by decide)).mono ?_
  rintro e w' ⟨rfl, hq⟩
  have hq2 := hq.symm
  subst hq2
  clear hq
  go_wp2_with fail
  refine (have_lit 27 8 true _ (by decide)).mono ?_
  rintro e w' ⟨rfl, hq⟩
  have hq2 := hq.symm
  subst hq2
  clear hq
  obtain ⟨dn, hdn⟩ : ∃ n : Nat, n = if dead then 1 else 0 := ⟨_, rfl⟩
  have hdl : dn < 256 := by rw [hdn]; split <;> decide
  have hoc := octet_any dead w4
  rw [← hdn] at hoc
  replace hdn := hide_it hdn
  go_wp2_with fail
  refine hoc.mono ?_
  rintro e w' ⟨rfl, hq⟩
  have hq2 := hq.symm
  subst hq2
  clear hq hoc
  have hput := put8 p4 q4 dn L4 w4 hdl HROW4.out (by omega) hn4
  go_wp2_with fail
  refine hput.mono ?_
  rintro e w5 ⟨⟨v5, rfl, ho5⟩, hb5⟩
  clear hput HOW4 HROW4
  have hl5 : (L4 ++ beP 1 dn 1).length ≤ 277 := by rw [List.length_append, beP_len]; omega
  obtain ⟨L5, hL5⟩ : ∃ L : List Nat, L = L4 ++ beP 1 dn 1 := ⟨_, rfl⟩
  rw [← hL5] at ho5 hl5
  replace hL5 := hide_it hL5
  have hr4 := HR4.out
  clear HR4
  have hin5 : InE w5 w.heap.size ⟨5, stamp, count, key, val, dead⟩ a cp := (InE.mk c0 c1 c2 c3 c4 c5 : InE w4 w.heap.size ⟨5, stamp, count, key, val, dead⟩ a cp).below hb5 hp4
  have hp5 : w.heap.size < w5.heap.size := by have := hb5.size; omega
  have hB5 := hB4.trans (hb5.mono hz4)
  have hr5 := hr4.below hb5
  have hz5 := hB5.size
  obtain ⟨p5, q5, hv5, hrow5, _, _, hn5⟩ := ho5.row
  subst hv5
  have how5 := ho5.mono hz4
  clear hb5 hp4 hB4 hr4 hz4 ho5 c0 c1 c2 c3 c4 c5
  obtain ⟨c0, c1, c2, c3, c4, c5⟩ := hin5
  simp only at c0 c1 c2 c3 c4 c5
  have HOW5 := hide_it how5
  have HR5 := hide_it hr5
  have HROW5 := hide_it hrow5
  clear how5 hr5 hrow5
  go_wp2_with fail
  refine (have_lit 27 16 true _ (by decide)).mono ?_
  rintro e w' ⟨rfl, hq⟩
  have hq2 := hq.symm
  subst hq2
  clear hq
  have hs1 : (shortL (2 * val.length)).length ≤ 10 := shortL_ten (by unfold W64; omega)
  have hput := putBytes_any p5 a q5 cp L5 val w5 HROW5.out HR5.out (by omega) hn5 hnil
  go_wp2_with fail
  refine hput.mono ?_
  rintro e w6 ⟨⟨v6, rfl, ho6⟩, hb6⟩
  clear hput HOW5 HROW5
  have hl6 : (L5 ++ shortL (2 * val.length) ++ val).length ≤ 4383 := by simp only [List.length_append]; omega
  obtain ⟨L6, hL6⟩ : ∃ L : List Nat, L = L5 ++ shortL (2 * val.length) ++ val := ⟨_, rfl⟩
  rw [← hL6] at ho6 hl6
  replace hL6 := hide_it hL6
  have hr5 := HR5.out
  clear HR5
  have hin6 : InE w6 w.heap.size ⟨5, stamp, count, key, val, dead⟩ a cp := (InE.mk c0 c1 c2 c3 c4 c5 : InE w5 w.heap.size ⟨5, stamp, count, key, val, dead⟩ a cp).below hb6 hp5
  have hp6 : w.heap.size < w6.heap.size := by have := hb6.size; omega
  have hB6 := hB5.trans (hb6.mono hz5)
  have hr6 := hr5.below hb6
  have hz6 := hB6.size
  obtain ⟨p6, q6, hv6, hrow6, _, _, hn6⟩ := ho6.row
  subst hv6
  have how6 := ho6.mono hz5
  clear hb6 hp5 hB5 hr5 hz5 ho6 c0 c1 c2 c3 c4 c5
  obtain ⟨c0, c1, c2, c3, c4, c5⟩ := hin6
  simp only at c0 c1 c2 c3 c4 c5
  have HOW6 := hide_it how6
  have HR6 := hide_it hr6
  have HROW6 := hide_it hrow6
  clear how6 hr6 hrow6
  clear hs1
  have hend := hfin w6 (.slice p6 L6.length q6) L6 hB6 (by
    rw [HE.out]
    rw [hL6.out]
    rw [hL5.out]
    rw [hL4.out]
    rw [hL3.out]
    rw [hL2.out]
    rw [beP_one _ hdl, hdn.out]
    simp [encE, eK, eS, eC, eD, eV, hk, hs, hc, hd, hv]) HOW6.out
  clear hfin HOW6 HR6 HROW6 HE
  go_wp2_with fail
  first | exact hend | (go_ret2; exact hend)
end Go.Proofs.YtkacfpmninmjkaaGreat

namespace Go.Proofs.YtkacfpmninmjkaaGreat
open Go.RowKit

set_option maxRecDepth 100000 in
set_option maxHeartbeats 1000000 in
theorem encode_6 (stamp count : Int) (key : ByteArray) (val : List Nat) (dead : Bool) (a : Option Addr) (cp : Nat) (w : World) (hm : mayE ⟨6, stamp, count, key, val, dead⟩ = true) (hr : RowB w a val) (_hnil : a = none → val.length = 0 ∧ cp = 0) :
    Calls Tryz.prog 77 #[valE ⟨6, stamp, count, key, val, dead⟩ a cp] w fun e w' => EncTo w ⟨6, stamp, count, key, val, dead⟩ e w' := by
  obtain ⟨x, hx⟩ : ∃ x : En, x = ⟨6, stamp, count, key, val, dead⟩ := ⟨_, rfl⟩
  have hb := boxE_below w x a cp
  have hin := InE.box w x a cp
  have hck := check_any x a cp (boxE w x a cp)
  have M := may_parts hm
  have HC : Hid (chkE x = 0) := by unfold Hid chkE; rw [hx, hm]; rfl
  rw [HC.out] at hck
  have HM := hide_it hm
  have HX := hide_it hx
  have hkl : key.size ≤ 255 := by
    have h1 := M.key0 rfl
    have h2 : key.size = 0 := h1
    omega
  have hvl : val.length ≤ 4096 := M.val
  obtain ⟨hst1, hst2⟩ : 0 ≤ stamp ∧ stamp ≤ 4611686018427387904 := M.st1 rfl
  obtain ⟨hct1, hct2⟩ : 0 ≤ count ∧ count ≤ 2147483647 := M.ct1 rfl
  have hfin : ∀ (w' : World) (v : Value) (L : List Nat), Below w.heap.size w w' → L = encE x → OwnB w' w.heap.size v L → EncTo w x (.returned (.tuple #[v, .int .i64 0])) w' := fun w' v L h1 h2 h3 => by
    refine ⟨⟨v, by rw [HC.out]; rfl, ?_⟩, h1⟩
    rw [HX.out, HM.out]
    rw [h2, HX.out] at h3
    exact h3
  have HE : Hid (encE x = encE ⟨6, stamp, count, key, val, dead⟩) := by unfold Hid; rw [HX.out]
  rw [← hx]
  generalize EncTo w x = Q at *
  have hxv : valE x a cp = .agg #[.int .i64 6, .int .i64 stamp, .int .i64 count, .string key, .slice a val.length cp, .bool dead] := by rw [hx]
  have hbx : boxE w x a cp = w.alloc (.cells #[.int .i64 6, .int .i64 stamp, .int .i64 count, .string key, .slice a val.length cp, .bool dead] 77) := by rw [hx]
  rw [hxv, hbx] at hck
  rw [hbx] at hb hin
  rw [hxv]
  rw [hx] at hin
  clear hm M hx hxv hbx
  generalize encE x = R at *
  have hcnt := fun w => countsOf_any 6 w
  have hcv : ((cnt 6 : Nat) : Int) = 6 := by decide
  simp only [hcv] at hcnt
  clear hcv
  go_enter Tryz.func77, Tryz.ntmps77
  go_wp2_with fail
  refine hck.mono ?_
  rintro e w1 ⟨rfl, hb1⟩
  have hin1 := hin.below hb1 (by simp)
  have hB1 := hb.trans (hb1.mono hb.size)
  have hr1 := hr.below hB1
  have hz1 := hB1.size
  have hp1 : w.heap.size < w1.heap.size := by have := hb1.size; simp at this; omega
  clear hck hb hb1 hin hr
  obtain ⟨c0, c1, c2, c3, c4, c5⟩ := hin1
  simp only at c0 c1 c2 c3 c4 c5
  go_wp2_with fail
  refine (hcnt _).mono ?_
  rintro e w' ⟨rfl, hq⟩
  have hq2 := hq.symm
  subst hq2
  clear hq
  have hput := put8 none 0 6 [] w1 (by decide) (.inl rfl) (by simp) (fun _ => ⟨rfl, rfl⟩)
  go_wp2_with fail
  refine hput.mono ?_
  rintro e w2 ⟨⟨v2, rfl, ho2⟩, hb2⟩
  have HL : Hid ([] ++ beP 1 6 1 = [6]) := by unfold Hid; rw [beP_one _ (by decide)]; rfl
  rw [HL.out] at ho2
  clear HL hput hcnt
  have hl2 : ([6] : List Nat).length ≤ 1 := by simp
  obtain ⟨L2, hL2⟩ : ∃ L : List Nat, L = [6] := ⟨_, rfl⟩
  rw [← hL2] at ho2 hl2
  replace hL2 := hide_it hL2
  have hin2 : InE w2 w.heap.size ⟨6, stamp, count, key, val, dead⟩ a cp := (InE.mk c0 c1 c2 c3 c4 c5 : InE w1 w.heap.size ⟨6, stamp, count, key, val, dead⟩ a cp).below hb2 hp1
  have hp2 : w.heap.size < w2.heap.size := by have := hb2.size; omega
  have hB2 := hB1.trans (hb2.mono hz1)
  have hr2 := hr1.below hb2
  have hz2 := hB2.size
  obtain ⟨p2, q2, hv2, hrow2, _, _, hn2⟩ := ho2.row
  subst hv2
  have how2 := ho2.mono hz1
  clear hb2 hp1 hB1 hr1 hz1 ho2 c0 c1 c2 c3 c4 c5
  obtain ⟨c0, c1, c2, c3, c4, c5⟩ := hin2
  simp only at c0 c1 c2 c3 c4 c5
  have HOW2 := hide_it how2
  have HR2 := hide_it hr2
  have HROW2 := hide_it hrow2
  clear how2 hr2 hrow2
  go_wp2_with fail
  refine (have_lit 6 1 false _ (by decide)).mono ?_
  rintro e w' ⟨rfl, hq⟩
  have hq2 := hq.symm
  subst hq2
  clear hq
  go_wp2_with fail
  refine (have_lit 6 2 true _ (by decide)).mono ?_
  rintro e w' ⟨rfl, hq⟩
  have hq2 := hq.symm
  subst hq2
  clear hq
  have hs1 : (shortL (foldI stamp)).length ≤ 10 := shortL_ten (foldI_64 (by omega) (by omega))
  have hput := putInt_any p2 q2 stamp L2 w2 (by omega) (by omega) HROW2.out (by omega) hn2
  go_wp2_with fail
  refine hput.mono ?_
  rintro e w3 ⟨⟨v3, rfl, ho3⟩, hb3⟩
  clear hput HOW2 HROW2
  have hl3 : (L2 ++ shortL (foldI stamp)).length ≤ 11 := by simp only [List.length_append]; omega
  obtain ⟨L3, hL3⟩ : ∃ L : List Nat, L = L2 ++ shortL (foldI stamp) := ⟨_, rfl⟩
  rw [← hL3] at ho3 hl3
  replace hL3 := hide_it hL3
  have hr2 := HR2.out
  clear HR2
  have hin3 : InE w3 w.heap.size ⟨6, stamp, count, key, val, dead⟩ a cp := (InE.mk c0 c1 c2 c3 c4 c5 : InE w2 w.heap.size ⟨6, stamp, count, key, val, dead⟩ a cp).below hb3 hp2
  have hp3 : w.heap.size < w3.heap.size := by have := hb3.size; omega
  have hB3 := hB2.trans (hb3.mono hz2)
  have hr3 := hr2.below hb3
  have hz3 := hB3.size
  obtain ⟨p3, q3, hv3, hrow3, _, _, hn3⟩ := ho3.row
  subst hv3
  have how3 := ho3.mono hz2
  clear hb3 hp2 hB2 hr2 hz2 ho3 c0 c1 c2 c3 c4 c5
  obtain ⟨c0, c1, c2, c3, c4, c5⟩ := hin3
  simp only at c0 c1 c2 c3 c4 c5
  have HOW3 := hide_it how3
  have HR3 := hide_it hr3
  have HROW3 := hide_it hrow3
  clear how3 hr3 hrow3
  clear hs1
  go_wp2_with fail
  refine (have_lit 6 4 true _ (by decide)).mono ?_
  rintro e w' ⟨rfl, hq⟩
  have hq2 := hq.symm
  subst hq2
  clear hq
  have hs1 : (shortL (foldI count)).length ≤ 10 := shortL_ten (foldI_64 (by omega) (by omega))
  have hput := putInt_any p3 q3 count L3 w3 (by omega) (by omega) HROW3.out (by omega) hn3
  go_wp2_with fail
  refine hput.mono ?_
  rintro e w4 ⟨⟨v4, rfl, ho4⟩, hb4⟩
  clear hput HOW3 HROW3
  have hl4 : (L3 ++ shortL (foldI count)).length ≤ 21 := by simp only [List.length_append]; omega
  obtain ⟨L4, hL4⟩ : ∃ L : List Nat, L = L3 ++ shortL (foldI count) := ⟨_, rfl⟩
  rw [← hL4] at ho4 hl4
  replace hL4 := hide_it hL4
  have hr3 := HR3.out
  clear HR3
  have hin4 : InE w4 w.heap.size ⟨6, stamp, count, key, val, dead⟩ a cp := (InE.mk c0 c1 c2 c3 c4 c5 : InE w3 w.heap.size ⟨6, stamp, count, key, val, dead⟩ a cp).below hb4 hp3
  have hp4 : w.heap.size < w4.heap.size := by have := hb4.size; omega
  have hB4 := hB3.trans (hb4.mono hz3)
  have hr4 := hr3.below hb4
  have hz4 := hB4.size
  obtain ⟨p4, q4, hv4, hrow4, _, _, hn4⟩ := ho4.row
  subst hv4
  have how4 := ho4.mono hz3
  clear hb4 hp3 hB3 hr3 hz3 ho4 c0 c1 c2 c3 c4 c5
  obtain ⟨c0, c1, c2, c3, c4, c5⟩ := hin4
  simp only at c0 c1 c2 c3 c4 c5
  have HOW4 := hide_it how4
  have HR4 := hide_it hr4
  have HROW4 := hide_it hrow4
  clear how4 hr4 hrow4
  clear hs1
  go_wp2_with fail
  refine (have_lit 6 8 false _ (by decide)).mono ?_
  rintro e w' ⟨rfl, hq⟩
  have hq2 := hq.symm
  subst hq2
  clear hq
  go_wp2_with fail
  refine (have_lit 6 16 false _ (by decide)).mono ?_
  rintro e w' ⟨rfl, hq⟩
  have hq2 := hq.symm
  subst hq2
  clear hq
  have hend := hfin w4 (.slice p4 L4.length q4) L4 hB4 (by
    rw [HE.out]
    rw [hL4.out]
    rw [hL3.out]
    rw [hL2.out]
    simp [encE, eK, eS, eC, eD, eV, hk, hs, hc, hd, hv]) HOW4.out
  clear hfin HOW4 HR4 HROW4 HE
  go_wp2_with fail
  first | exact hend | (go_ret2; exact hend)
end Go.Proofs.YtkacfpmninmjkaaGreat

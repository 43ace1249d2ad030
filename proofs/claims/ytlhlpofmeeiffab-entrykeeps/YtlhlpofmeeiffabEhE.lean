/- The document's bytes of an entry, kind by kind. -/
import Derived.Test.YtlhlpofmeeiffabEh2
namespace Go.Proofs.Ytlhlpofmeeiffab
open Go.RowKit

set_option maxRecDepth 100000 in
set_option maxHeartbeats 1000000 in
theorem rencode_1 (stamp : Int) (count : Int) (key : ByteArray) (val : List Nat) (dead : Bool) (a : Option Addr) (cp : Nat) (w : World) (hm : mayE ⟨1, stamp, count, key, val, dead⟩ = true) (hr : RowB w a val) (hnil : a = none → val.length = 0 ∧ cp = 0) :
    Calls Try.prog 5 #[valE ⟨1, stamp, count, key, val, dead⟩ a cp] w fun e w' => EncTo w ⟨1, stamp, count, key, val, dead⟩ e w' := by
  obtain ⟨i0, hi, hz0, hz1', hz2'⟩ := info_parts infoB
  obtain ⟨x, hx⟩ : ∃ x : En, x = ⟨1, stamp, count, key, val, dead⟩ := ⟨_, rfl⟩
  have hb := boxE_below w x a cp
  have hin := InE.box w x a cp
  have hck := rcheck_any x a cp (boxE w x a cp)
  have M := may_parts hm
  have HC : Hid (chkE x = 0) := by unfold Hid chkE; rw [hx, hm]; rfl
  rw [HC.out] at hck
  have HM := hide_it hm
  have HX := hide_it hx
  have hkl : key.size ≤ 255 := by
    exact (M.key1 rfl).2
  have hvl : val.length ≤ 4096 := M.val
  have hfin : ∀ (w' : World) (v : Value) (L : List Nat), Below w.heap.size w w' → L = encE x → OwnB w' w.heap.size v L → EncTo w x (.returned (.tuple #[v, .int .i64 0])) w' := fun w' v L h1 h2 h3 => by
    refine ⟨⟨v, by rw [HC.out]; rfl, ?_⟩, h1⟩
    rw [HX.out, HM.out]
    rw [h2, HX.out] at h3
    exact h3
  have HE : Hid (encE x = encE ⟨1, stamp, count, key, val, dead⟩) := by unfold Hid; rw [HX.out]
  rw [← hx]
  generalize EncTo w x = Q at *
  have hxv : valE x a cp = .agg #[.int .i64 1, .int .i64 stamp, .int .i64 count, .string key, .slice a val.length cp, .bool dead] := by rw [hx]
  have hbx : boxE w x a cp = w.alloc (.cells #[.int .i64 1, .int .i64 stamp, .int .i64 count, .string key, .slice a val.length cp, .bool dead] 24) := by rw [hx]
  rw [hxv, hbx] at hck
  rw [hbx] at hb hin
  rw [hxv]
  rw [hx] at hin
  clear hm M hx hxv hbx
  generalize encE x = R at *
  have hky : ∀ w, Calls Try.prog 22 #[.int .i64 1] w fun e w' => e = .returned (.bool true) ∧ w' = w := fun w => rkeyed_any 1 w
  have hva : ∀ w, Calls Try.prog 26 #[.int .i64 1] w fun e w' => e = .returned (.bool true) ∧ w' = w := fun w => rvalued_any 1 w
  have hsp : ∀ w, Calls Try.prog 24 #[.int .i64 1] w fun e w' => e = .returned (.bool false) ∧ w' = w := fun w => rstamped_any 1 w
  have hcn : ∀ w, Calls Try.prog 25 #[.int .i64 1] w fun e w' => e = .returned (.bool false) ∧ w' = w := fun w => rcounted_any 1 w
  replace hr := hide_it hr
  go_enter Try.func5, Try.ntmps5
  go_wp2_with fail
  refine hck.mono ?_
  rintro e u1 ⟨rfl, hb1⟩
  have hin1 := hin.below hb1 (by simp)
  have hB1 := hb.trans (hb1.mono hb.size)
  have hp1 : w.heap.size < u1.heap.size := by have := hb1.size; simp at this; omega
  obtain ⟨w1, hw1⟩ : ∃ W, W = u1.alloc (.cells #[.int .u8 1] 5) := ⟨_, rfl⟩
  have hbu : Below u1.heap.size u1 w1 := by rw [hw1]; exact (Below.refl _ _).alloc (Nat.le_refl _) _
  have ho1 : OwnB w1 u1.heap.size (.slice (some ⟨u1.heap.size, 0, none⟩) 1 1) [1] := by rw [hw1]; exact own_one u1 1
  have hin2 := hin1.below hbu hp1
  have hBB := hB1.trans (hbu.mono hB1.size)
  have hz1 := hbu.size
  have hrl : w.heap.size ≤ u1.heap.size := Nat.le_of_lt hp1
  clear hck hb hb1 hin hbu hB1
  obtain ⟨c0, c1, c2, c3, c4, c5⟩ := hin1
  simp only at c0 c1 c2 c3 c4 c5
  go_wp2_with fail
  rw [← hw1]
  clear hw1 c0 c1 c2 c3 c4 c5
  obtain ⟨c0, c1, c2, c3, c4, c5⟩ := hin2
  simp only at c0 c1 c2 c3 c4 c5
  obtain ⟨L1, hL1⟩ : ∃ L : List Nat, L = [1] := ⟨_, rfl⟩
  have hl1 : L1.length ≤ 1 := by rw [hL1]; simp
  rw [← hL1] at ho1
  replace hL1 := hide_it hL1
  obtain ⟨v1, hv1⟩ : ∃ v : Value, v = .slice (some ⟨u1.heap.size, 0, none⟩) 1 1 := ⟨_, rfl⟩
  rw [← hv1] at ho1
  simp only [← hv1]
  clear hv1
  refine (hky _).mono ?_
  rintro e w' ⟨rfl, hq⟩
  have hq2 := hq.symm
  subst hq2
  clear hq hky
  have hs1 : (shortL (2 * key.size)).length ≤ 10 := shortL_ten (by unfold W64; omega)
  have hput := rshort_any v1 key.size u1.heap.size L1 w1 (by omega) ho1 hz1 (by omega)
  go_wp2_with fail
  refine hput.mono ?_
  rintro e w2 ⟨⟨v2, rfl, ho2⟩, hb2⟩
  clear hput
  have hl2 : (L1 ++ shortL (2 * key.size)).length ≤ 11 := by simp only [List.length_append]; omega
  obtain ⟨L2, hL2⟩ : ∃ L : List Nat, L = L1 ++ shortL (2 * key.size) := ⟨_, rfl⟩
  rw [← hL2] at ho2 hl2
  replace hL2 := hide_it hL2
  have hin9 : InE w2 w.heap.size ⟨1, stamp, count, key, val, dead⟩ a cp := (InE.mk c0 c1 c2 c3 c4 c5 : InE w1 w.heap.size ⟨1, stamp, count, key, val, dead⟩ a cp).below hb2 hp1
  clear c0 c1 c2 c3 c4 c5
  obtain ⟨c0, c1, c2, c3, c4, c5⟩ := hin9
  simp only at c0 c1 c2 c3 c4 c5
  have hB2 := hBB.trans (hb2.mono hrl)
  have hz2 : u1.heap.size ≤ w2.heap.size := Nat.le_trans hz1 hb2.size
  clear hBB hb2 ho1
  have hBB := hB2
  clear hB2
  clear hs1
  have hlk : L2.length + key.size ≤ 140737488355328 := by omega
  go_wp2_with (at_builtin; refine Lib.wpList_append_own_string _ rfl _ _ 22 9 rfl u1.heap.size 5 i0 Try.underlying22 Try.underlying9 hi hz0 hz1' hz2' _ _ _ rfl ho2 key rfl (by unfold maxLen; omega) hlk hz2 ?_; intro v3 w3 ho3' hg3 hnil3; have hb3 : Below u1.heap.size w2 w3 := (Below.refl _ _).grown hg3 hz2 (fun j e => ho2.ge e); have hin9 : InE w3 w.heap.size ⟨1, stamp, count, key, val, dead⟩ a cp := (InE.mk c0 c1 c2 c3 c4 c5 : InE w2 w.heap.size ⟨1, stamp, count, key, val, dead⟩ a cp).below hb3 hp1; clear c0 c1 c2 c3 c4 c5; obtain ⟨c0, c1, c2, c3, c4, c5⟩ := hin9; simp only at c0 c1 c2 c3 c4 c5)
  have ho3 : OwnB w3 u1.heap.size v3 (L2 ++ strNat key) := by
    unfold OwnB
    rw [List.length_append, List.map_append, strNat_len, ← strCells_nat]
    exact ho3'
  clear ho3' hg3 hnil3 hlk
  have hl3 : (L2 ++ strNat key).length ≤ 266 := by simp only [List.length_append, strNat_len]; omega
  obtain ⟨L3, hL3⟩ : ∃ L : List Nat, L = L2 ++ strNat key := ⟨_, rfl⟩
  rw [← hL3] at ho3 hl3
  replace hL3 := hide_it hL3
  have hB3 := hBB.trans (hb3.mono hrl)
  have hz3 : u1.heap.size ≤ w3.heap.size := Nat.le_trans hz2 hb3.size
  clear hBB hb3 ho2
  have hBB := hB3
  clear hB3
  refine (hsp _).mono ?_
  rintro e w' ⟨rfl, hq⟩
  have hq2 := hq.symm
  subst hq2
  clear hq hsp
  go_wp2_with fail
  refine (hcn _).mono ?_
  rintro e w' ⟨rfl, hq⟩
  have hq2 := hq.symm
  subst hq2
  clear hq hcn
  go_wp2_with fail
  refine (hva _).mono ?_
  rintro e w' ⟨rfl, hq⟩
  have hq2 := hq.symm
  subst hq2
  clear hq hva
  have hs1 : (shortL (2 * val.length)).length ≤ 10 := shortL_ten (by unfold W64; omega)
  have hput := rshort_any v3 val.length u1.heap.size L3 w3 (by omega) ho3 hz3 (by omega)
  go_wp2_with fail
  refine hput.mono ?_
  rintro e w4 ⟨⟨v4, rfl, ho4⟩, hb4⟩
  clear hput
  have hl4 : (L3 ++ shortL (2 * val.length)).length ≤ 276 := by simp only [List.length_append]; omega
  obtain ⟨L4, hL4⟩ : ∃ L : List Nat, L = L3 ++ shortL (2 * val.length) := ⟨_, rfl⟩
  rw [← hL4] at ho4 hl4
  replace hL4 := hide_it hL4
  have hin9 : InE w4 w.heap.size ⟨1, stamp, count, key, val, dead⟩ a cp := (InE.mk c0 c1 c2 c3 c4 c5 : InE w3 w.heap.size ⟨1, stamp, count, key, val, dead⟩ a cp).below hb4 hp1
  clear c0 c1 c2 c3 c4 c5
  obtain ⟨c0, c1, c2, c3, c4, c5⟩ := hin9
  simp only at c0 c1 c2 c3 c4 c5
  have hB4 := hBB.trans (hb4.mono hrl)
  have hz4 : u1.heap.size ≤ w4.heap.size := Nat.le_trans hz3 hb4.size
  clear hBB hb4 ho3
  have hBB := hB4
  clear hB4
  clear hs1
  have hlk : L4.length + val.length ≤ 140737488355328 := by omega
  have hrow := hr.out.below hBB
  go_wp2_with (at_builtin; refine wpList_append_row _ rfl _ _ rfl u1.heap.size _ _ rfl ho4 a cp val rfl hrow hnil hlk hz4 ?_; intro v5 w5 ho5 hg5 hat5)
  have hb5 : Below u1.heap.size w4 w5 := (Below.refl _ _).grown hg5 hz4 (fun j e => ho4.ge e)
  have hBB5 := hBB.trans (hb5.mono hrl)
  obtain ⟨L5, hL5⟩ : ∃ L : List Nat, L = L4 ++ val := ⟨_, rfl⟩
  rw [← hL5] at ho5
  replace hL5 := hide_it hL5
  have hend := hfin w5 v5 L5 hBB5 (by
    rw [HE.out]
    rw [hL5.out]
    rw [hL4.out]
    rw [hL3.out]
    rw [hL2.out]
    rw [hL1.out]
    simp [encE, eK, eS, eC, eD, eV, hk, hs, hc, hd, hv]) (ho5.mono hrl)
  first | exact hend | (go_ret2; exact hend)

set_option maxRecDepth 100000 in
set_option maxHeartbeats 1000000 in
theorem rencode_2 (stamp : Int) (count : Int) (key : ByteArray) (val : List Nat) (dead : Bool) (a : Option Addr) (cp : Nat) (w : World) (hm : mayE ⟨2, stamp, count, key, val, dead⟩ = true) (hr : RowB w a val) (_hnil : a = none → val.length = 0 ∧ cp = 0) :
    Calls Try.prog 5 #[valE ⟨2, stamp, count, key, val, dead⟩ a cp] w fun e w' => EncTo w ⟨2, stamp, count, key, val, dead⟩ e w' := by
  obtain ⟨i0, hi, hz0, hz1', hz2'⟩ := info_parts infoB
  obtain ⟨x, hx⟩ : ∃ x : En, x = ⟨2, stamp, count, key, val, dead⟩ := ⟨_, rfl⟩
  have hb := boxE_below w x a cp
  have hin := InE.box w x a cp
  have hck := rcheck_any x a cp (boxE w x a cp)
  have M := may_parts hm
  have HC : Hid (chkE x = 0) := by unfold Hid chkE; rw [hx, hm]; rfl
  rw [HC.out] at hck
  have HM := hide_it hm
  have HX := hide_it hx
  have hkl : key.size ≤ 255 := by
    exact (M.key1 rfl).2
  have hvl : val.length ≤ 4096 := M.val
  have hfin : ∀ (w' : World) (v : Value) (L : List Nat), Below w.heap.size w w' → L = encE x → OwnB w' w.heap.size v L → EncTo w x (.returned (.tuple #[v, .int .i64 0])) w' := fun w' v L h1 h2 h3 => by
    refine ⟨⟨v, by rw [HC.out]; rfl, ?_⟩, h1⟩
    rw [HX.out, HM.out]
    rw [h2, HX.out] at h3
    exact h3
  have HE : Hid (encE x = encE ⟨2, stamp, count, key, val, dead⟩) := by unfold Hid; rw [HX.out]
  rw [← hx]
  generalize EncTo w x = Q at *
  have hxv : valE x a cp = .agg #[.int .i64 2, .int .i64 stamp, .int .i64 count, .string key, .slice a val.length cp, .bool dead] := by rw [hx]
  have hbx : boxE w x a cp = w.alloc (.cells #[.int .i64 2, .int .i64 stamp, .int .i64 count, .string key, .slice a val.length cp, .bool dead] 24) := by rw [hx]
  rw [hxv, hbx] at hck
  rw [hbx] at hb hin
  rw [hxv]
  rw [hx] at hin
  clear hm M hx hxv hbx
  generalize encE x = R at *
  have hky : ∀ w, Calls Try.prog 22 #[.int .i64 2] w fun e w' => e = .returned (.bool true) ∧ w' = w := fun w => rkeyed_any 2 w
  have hva : ∀ w, Calls Try.prog 26 #[.int .i64 2] w fun e w' => e = .returned (.bool false) ∧ w' = w := fun w => rvalued_any 2 w
  have hsp : ∀ w, Calls Try.prog 24 #[.int .i64 2] w fun e w' => e = .returned (.bool false) ∧ w' = w := fun w => rstamped_any 2 w
  have hcn : ∀ w, Calls Try.prog 25 #[.int .i64 2] w fun e w' => e = .returned (.bool false) ∧ w' = w := fun w => rcounted_any 2 w
  replace hr := hide_it hr
  go_enter Try.func5, Try.ntmps5
  go_wp2_with fail
  refine hck.mono ?_
  rintro e u1 ⟨rfl, hb1⟩
  have hin1 := hin.below hb1 (by simp)
  have hB1 := hb.trans (hb1.mono hb.size)
  have hp1 : w.heap.size < u1.heap.size := by have := hb1.size; simp at this; omega
  obtain ⟨w1, hw1⟩ : ∃ W, W = u1.alloc (.cells #[.int .u8 2] 5) := ⟨_, rfl⟩
  have hbu : Below u1.heap.size u1 w1 := by rw [hw1]; exact (Below.refl _ _).alloc (Nat.le_refl _) _
  have ho1 : OwnB w1 u1.heap.size (.slice (some ⟨u1.heap.size, 0, none⟩) 1 1) [2] := by rw [hw1]; exact own_one u1 2
  have hin2 := hin1.below hbu hp1
  have hBB := hB1.trans (hbu.mono hB1.size)
  have hz1 := hbu.size
  have hrl : w.heap.size ≤ u1.heap.size := Nat.le_of_lt hp1
  clear hck hb hb1 hin hbu hB1
  obtain ⟨c0, c1, c2, c3, c4, c5⟩ := hin1
  simp only at c0 c1 c2 c3 c4 c5
  go_wp2_with fail
  rw [← hw1]
  clear hw1 c0 c1 c2 c3 c4 c5
  obtain ⟨c0, c1, c2, c3, c4, c5⟩ := hin2
  simp only at c0 c1 c2 c3 c4 c5
  obtain ⟨L1, hL1⟩ : ∃ L : List Nat, L = [2] := ⟨_, rfl⟩
  have hl1 : L1.length ≤ 1 := by rw [hL1]; simp
  rw [← hL1] at ho1
  replace hL1 := hide_it hL1
  obtain ⟨v1, hv1⟩ : ∃ v : Value, v = .slice (some ⟨u1.heap.size, 0, none⟩) 1 1 := ⟨_, rfl⟩
  rw [← hv1] at ho1
  simp only [← hv1]
  clear hv1
  refine (hky _).mono ?_
  rintro e w' ⟨rfl, hq⟩
  have hq2 := hq.symm
  subst hq2
  clear hq hky
  have hs1 : (shortL (2 * key.size)).length ≤ 10 := shortL_ten (by unfold W64; omega)
  have hput := rshort_any v1 key.size u1.heap.size L1 w1 (by omega) ho1 hz1 (by omega)
  go_wp2_with fail
  refine hput.mono ?_
  rintro e w2 ⟨⟨v2, rfl, ho2⟩, hb2⟩
  clear hput
  have hl2 : (L1 ++ shortL (2 * key.size)).length ≤ 11 := by simp only [List.length_append]; omega
  obtain ⟨L2, hL2⟩ : ∃ L : List Nat, L = L1 ++ shortL (2 * key.size) := ⟨_, rfl⟩
  rw [← hL2] at ho2 hl2
  replace hL2 := hide_it hL2
  have hin9 : InE w2 w.heap.size ⟨2, stamp, count, key, val, dead⟩ a cp := (InE.mk c0 c1 c2 c3 c4 c5 : InE w1 w.heap.size ⟨2, stamp, count, key, val, dead⟩ a cp).below hb2 hp1
  clear c0 c1 c2 c3 c4 c5
  obtain ⟨c0, c1, c2, c3, c4, c5⟩ := hin9
  simp only at c0 c1 c2 c3 c4 c5
  have hB2 := hBB.trans (hb2.mono hrl)
  have hz2 : u1.heap.size ≤ w2.heap.size := Nat.le_trans hz1 hb2.size
  clear hBB hb2 ho1
  have hBB := hB2
  clear hB2
  clear hs1
  have hlk : L2.length + key.size ≤ 140737488355328 := by omega
  go_wp2_with (at_builtin; refine Lib.wpList_append_own_string _ rfl _ _ 22 9 rfl u1.heap.size 5 i0 Try.underlying22 Try.underlying9 hi hz0 hz1' hz2' _ _ _ rfl ho2 key rfl (by unfold maxLen; omega) hlk hz2 ?_; intro v3 w3 ho3' hg3 hnil3; have hb3 : Below u1.heap.size w2 w3 := (Below.refl _ _).grown hg3 hz2 (fun j e => ho2.ge e); have hin9 : InE w3 w.heap.size ⟨2, stamp, count, key, val, dead⟩ a cp := (InE.mk c0 c1 c2 c3 c4 c5 : InE w2 w.heap.size ⟨2, stamp, count, key, val, dead⟩ a cp).below hb3 hp1; clear c0 c1 c2 c3 c4 c5; obtain ⟨c0, c1, c2, c3, c4, c5⟩ := hin9; simp only at c0 c1 c2 c3 c4 c5)
  have ho3 : OwnB w3 u1.heap.size v3 (L2 ++ strNat key) := by
    unfold OwnB
    rw [List.length_append, List.map_append, strNat_len, ← strCells_nat]
    exact ho3'
  clear ho3' hg3 hnil3 hlk
  have hl3 : (L2 ++ strNat key).length ≤ 266 := by simp only [List.length_append, strNat_len]; omega
  obtain ⟨L3, hL3⟩ : ∃ L : List Nat, L = L2 ++ strNat key := ⟨_, rfl⟩
  rw [← hL3] at ho3 hl3
  replace hL3 := hide_it hL3
  have hB3 := hBB.trans (hb3.mono hrl)
  have hz3 : u1.heap.size ≤ w3.heap.size := Nat.le_trans hz2 hb3.size
  clear hBB hb3 ho2
  have hBB := hB3
  clear hB3
  refine (hsp _).mono ?_
  rintro e w' ⟨rfl, hq⟩
  have hq2 := hq.symm
  subst hq2
  clear hq hsp
  go_wp2_with fail
  refine (hcn _).mono ?_
  rintro e w' ⟨rfl, hq⟩
  have hq2 := hq.symm
  subst hq2
  clear hq hcn
  go_wp2_with fail
  refine (hva _).mono ?_
  rintro e w' ⟨rfl, hq⟩
  have hq2 := hq.symm
  subst hq2
  clear hq hva
  have hend := hfin w3 v3 L3 hBB (by
    rw [HE.out]
    rw [hL3.out]
    rw [hL2.out]
    rw [hL1.out]
    simp [encE, eK, eS, eC, eD, eV, hk, hs, hc, hd, hv]) (ho3.mono hrl)
  clear hfin
  go_wp2_with fail
  first | exact hend | (go_ret2; exact hend)

set_option maxRecDepth 100000 in
set_option maxHeartbeats 1000000 in
theorem rencode_3 (sn : Nat) (cn : Nat) (key : ByteArray) (val : List Nat) (dead : Bool) (a : Option Addr) (cp : Nat) (w : World) (hm : mayE ⟨3, (sn : Int), (cn : Int), key, val, dead⟩ = true) (hr : RowB w a val) (_hnil : a = none → val.length = 0 ∧ cp = 0) :
    Calls Try.prog 5 #[valE ⟨3, (sn : Int), (cn : Int), key, val, dead⟩ a cp] w fun e w' => EncTo w ⟨3, (sn : Int), (cn : Int), key, val, dead⟩ e w' := by
  obtain ⟨i0, hi, hz0, hz1', hz2'⟩ := info_parts infoB
  obtain ⟨x, hx⟩ : ∃ x : En, x = ⟨3, (sn : Int), (cn : Int), key, val, dead⟩ := ⟨_, rfl⟩
  have hb := boxE_below w x a cp
  have hin := InE.box w x a cp
  have hck := rcheck_any x a cp (boxE w x a cp)
  have M := may_parts hm
  have HC : Hid (chkE x = 0) := by unfold Hid chkE; rw [hx, hm]; rfl
  rw [HC.out] at hck
  have HM := hide_it hm
  have HX := hide_it hx
  have hkl : key.size ≤ 255 := by
    have h1 := M.key0 rfl
    have h2 : key.size = 0 := h1
    omega
  have hvl : val.length ≤ 4096 := M.val
  have hst2 : sn ≤ 4611686018427387904 := by have h := M.st1 rfl; simp only at h; omega
  have hct2 : cn ≤ 2147483647 := by have h := M.ct1 rfl; simp only at h; omega
  have hfin : ∀ (w' : World) (v : Value) (L : List Nat), Below w.heap.size w w' → L = encE x → OwnB w' w.heap.size v L → EncTo w x (.returned (.tuple #[v, .int .i64 0])) w' := fun w' v L h1 h2 h3 => by
    refine ⟨⟨v, by rw [HC.out]; rfl, ?_⟩, h1⟩
    rw [HX.out, HM.out]
    rw [h2, HX.out] at h3
    exact h3
  have HE : Hid (encE x = encE ⟨3, (sn : Int), (cn : Int), key, val, dead⟩) := by unfold Hid; rw [HX.out]
  rw [← hx]
  generalize EncTo w x = Q at *
  have hxv : valE x a cp = .agg #[.int .i64 3, .int .i64 (sn : Int), .int .i64 (cn : Int), .string key, .slice a val.length cp, .bool dead] := by rw [hx]
  have hbx : boxE w x a cp = w.alloc (.cells #[.int .i64 3, .int .i64 (sn : Int), .int .i64 (cn : Int), .string key, .slice a val.length cp, .bool dead] 24) := by rw [hx]
  rw [hxv, hbx] at hck
  rw [hbx] at hb hin
  rw [hxv]
  rw [hx] at hin
  clear hm M hx hxv hbx
  generalize encE x = R at *
  have hky : ∀ w, Calls Try.prog 22 #[.int .i64 3] w fun e w' => e = .returned (.bool false) ∧ w' = w := fun w => rkeyed_any 3 w
  have hva : ∀ w, Calls Try.prog 26 #[.int .i64 3] w fun e w' => e = .returned (.bool false) ∧ w' = w := fun w => rvalued_any 3 w
  have hsp : ∀ w, Calls Try.prog 24 #[.int .i64 3] w fun e w' => e = .returned (.bool true) ∧ w' = w := fun w => rstamped_any 3 w
  have hcn : ∀ w, Calls Try.prog 25 #[.int .i64 3] w fun e w' => e = .returned (.bool true) ∧ w' = w := fun w => rcounted_any 3 w
  replace hr := hide_it hr
  go_enter Try.func5, Try.ntmps5
  go_wp2_with fail
  refine hck.mono ?_
  rintro e u1 ⟨rfl, hb1⟩
  have hin1 := hin.below hb1 (by simp)
  have hB1 := hb.trans (hb1.mono hb.size)
  have hp1 : w.heap.size < u1.heap.size := by have := hb1.size; simp at this; omega
  obtain ⟨w1, hw1⟩ : ∃ W, W = u1.alloc (.cells #[.int .u8 3] 5) := ⟨_, rfl⟩
  have hbu : Below u1.heap.size u1 w1 := by rw [hw1]; exact (Below.refl _ _).alloc (Nat.le_refl _) _
  have ho1 : OwnB w1 u1.heap.size (.slice (some ⟨u1.heap.size, 0, none⟩) 1 1) [3] := by rw [hw1]; exact own_one u1 3
  have hin2 := hin1.below hbu hp1
  have hBB := hB1.trans (hbu.mono hB1.size)
  have hz1 := hbu.size
  have hrl : w.heap.size ≤ u1.heap.size := Nat.le_of_lt hp1
  clear hck hb hb1 hin hbu hB1
  obtain ⟨c0, c1, c2, c3, c4, c5⟩ := hin1
  simp only at c0 c1 c2 c3 c4 c5
  go_wp2_with fail
  rw [← hw1]
  clear hw1 c0 c1 c2 c3 c4 c5
  obtain ⟨c0, c1, c2, c3, c4, c5⟩ := hin2
  simp only at c0 c1 c2 c3 c4 c5
  obtain ⟨L1, hL1⟩ : ∃ L : List Nat, L = [3] := ⟨_, rfl⟩
  have hl1 : L1.length ≤ 1 := by rw [hL1]; simp
  rw [← hL1] at ho1
  replace hL1 := hide_it hL1
  obtain ⟨v1, hv1⟩ : ∃ v : Value, v = .slice (some ⟨u1.heap.size, 0, none⟩) 1 1 := ⟨_, rfl⟩
  rw [← hv1] at ho1
  simp only [← hv1]
  clear hv1
  refine (hky _).mono ?_
  rintro e w' ⟨rfl, hq⟩
  have hq2 := hq.symm
  subst hq2
  clear hq hky
  go_wp2_with fail
  refine (hsp _).mono ?_
  rintro e w' ⟨rfl, hq⟩
  have hq2 := hq.symm
  subst hq2
  clear hq hsp
  have hs1 : (shortL (2 * sn)).length ≤ 10 := shortL_ten (by unfold W64; omega)
  have hput := rshort_any v1 sn u1.heap.size L1 w1 (by omega) ho1 hz1 (by omega)
  go_wp2_with fail
  refine hput.mono ?_
  rintro e w2 ⟨⟨v2, rfl, ho2⟩, hb2⟩
  clear hput
  have hl2 : (L1 ++ shortL (2 * sn)).length ≤ 11 := by simp only [List.length_append]; omega
  obtain ⟨L2, hL2⟩ : ∃ L : List Nat, L = L1 ++ shortL (2 * sn) := ⟨_, rfl⟩
  rw [← hL2] at ho2 hl2
  replace hL2 := hide_it hL2
  have hin9 : InE w2 w.heap.size ⟨3, (sn : Int), (cn : Int), key, val, dead⟩ a cp := (InE.mk c0 c1 c2 c3 c4 c5 : InE w1 w.heap.size ⟨3, (sn : Int), (cn : Int), key, val, dead⟩ a cp).below hb2 hp1
  clear c0 c1 c2 c3 c4 c5
  obtain ⟨c0, c1, c2, c3, c4, c5⟩ := hin9
  simp only at c0 c1 c2 c3 c4 c5
  have hB2 := hBB.trans (hb2.mono hrl)
  have hz2 : u1.heap.size ≤ w2.heap.size := Nat.le_trans hz1 hb2.size
  clear hBB hb2 ho1
  have hBB := hB2
  clear hB2
  clear hs1
  go_wp2_with fail
  refine (hcn _).mono ?_
  rintro e w' ⟨rfl, hq⟩
  have hq2 := hq.symm
  subst hq2
  clear hq hcn
  have hs1 : (shortL (2 * cn)).length ≤ 10 := shortL_ten (by unfold W64; omega)
  have hput := rshort_any v2 cn u1.heap.size L2 w2 (by omega) ho2 hz2 (by omega)
  go_wp2_with fail
  refine hput.mono ?_
  rintro e w3 ⟨⟨v3, rfl, ho3⟩, hb3⟩
  clear hput
  have hl3 : (L2 ++ shortL (2 * cn)).length ≤ 21 := by simp only [List.length_append]; omega
  obtain ⟨L3, hL3⟩ : ∃ L : List Nat, L = L2 ++ shortL (2 * cn) := ⟨_, rfl⟩
  rw [← hL3] at ho3 hl3
  replace hL3 := hide_it hL3
  have hin9 : InE w3 w.heap.size ⟨3, (sn : Int), (cn : Int), key, val, dead⟩ a cp := (InE.mk c0 c1 c2 c3 c4 c5 : InE w2 w.heap.size ⟨3, (sn : Int), (cn : Int), key, val, dead⟩ a cp).below hb3 hp1
  clear c0 c1 c2 c3 c4 c5
  obtain ⟨c0, c1, c2, c3, c4, c5⟩ := hin9
  simp only at c0 c1 c2 c3 c4 c5
  have hB3 := hBB.trans (hb3.mono hrl)
  have hz3 : u1.heap.size ≤ w3.heap.size := Nat.le_trans hz2 hb3.size
  clear hBB hb3 ho2
  have hBB := hB3
  clear hB3
  clear hs1
  go_wp2_with fail
  refine (hva _).mono ?_
  rintro e w' ⟨rfl, hq⟩
  have hq2 := hq.symm
  subst hq2
  clear hq hva
  have hend := hfin w3 v3 L3 hBB (by
    rw [HE.out]
    rw [hL3.out]
    rw [hL2.out]
    rw [hL1.out]
    simp [encE, eK, eS, eC, eD, eV, hk, hs, hc, hd, hv, foldI_nat]) (ho3.mono hrl)
  clear hfin
  go_wp2_with fail
  first | exact hend | (go_ret2; exact hend)

set_option maxRecDepth 100000 in
set_option maxHeartbeats 1000000 in
theorem rencode_4 (sn : Nat) (cn : Nat) (key : ByteArray) (val : List Nat) (dead : Bool) (a : Option Addr) (cp : Nat) (w : World) (hm : mayE ⟨4, (sn : Int), (cn : Int), key, val, dead⟩ = true) (hr : RowB w a val) (_hnil : a = none → val.length = 0 ∧ cp = 0) :
    Calls Try.prog 5 #[valE ⟨4, (sn : Int), (cn : Int), key, val, dead⟩ a cp] w fun e w' => EncTo w ⟨4, (sn : Int), (cn : Int), key, val, dead⟩ e w' := by
  obtain ⟨i0, hi, hz0, hz1', hz2'⟩ := info_parts infoB
  obtain ⟨x, hx⟩ : ∃ x : En, x = ⟨4, (sn : Int), (cn : Int), key, val, dead⟩ := ⟨_, rfl⟩
  have hb := boxE_below w x a cp
  have hin := InE.box w x a cp
  have hck := rcheck_any x a cp (boxE w x a cp)
  have M := may_parts hm
  have HC : Hid (chkE x = 0) := by unfold Hid chkE; rw [hx, hm]; rfl
  rw [HC.out] at hck
  have HM := hide_it hm
  have HX := hide_it hx
  have hkl : key.size ≤ 255 := by
    have h1 := M.key0 rfl
    have h2 : key.size = 0 := h1
    omega
  have hvl : val.length ≤ 4096 := M.val
  have hst2 : sn ≤ 4611686018427387904 := by have h := M.st1 rfl; simp only at h; omega
  have hct2 : cn ≤ 2147483647 := by have h := M.ct1 rfl; simp only at h; omega
  have hfin : ∀ (w' : World) (v : Value) (L : List Nat), Below w.heap.size w w' → L = encE x → OwnB w' w.heap.size v L → EncTo w x (.returned (.tuple #[v, .int .i64 0])) w' := fun w' v L h1 h2 h3 => by
    refine ⟨⟨v, by rw [HC.out]; rfl, ?_⟩, h1⟩
    rw [HX.out, HM.out]
    rw [h2, HX.out] at h3
    exact h3
  have HE : Hid (encE x = encE ⟨4, (sn : Int), (cn : Int), key, val, dead⟩) := by unfold Hid; rw [HX.out]
  rw [← hx]
  generalize EncTo w x = Q at *
  have hxv : valE x a cp = .agg #[.int .i64 4, .int .i64 (sn : Int), .int .i64 (cn : Int), .string key, .slice a val.length cp, .bool dead] := by rw [hx]
  have hbx : boxE w x a cp = w.alloc (.cells #[.int .i64 4, .int .i64 (sn : Int), .int .i64 (cn : Int), .string key, .slice a val.length cp, .bool dead] 24) := by rw [hx]
  rw [hxv, hbx] at hck
  rw [hbx] at hb hin
  rw [hxv]
  rw [hx] at hin
  clear hm M hx hxv hbx
  generalize encE x = R at *
  have hky : ∀ w, Calls Try.prog 22 #[.int .i64 4] w fun e w' => e = .returned (.bool false) ∧ w' = w := fun w => rkeyed_any 4 w
  have hva : ∀ w, Calls Try.prog 26 #[.int .i64 4] w fun e w' => e = .returned (.bool false) ∧ w' = w := fun w => rvalued_any 4 w
  have hsp : ∀ w, Calls Try.prog 24 #[.int .i64 4] w fun e w' => e = .returned (.bool true) ∧ w' = w := fun w => rstamped_any 4 w
  have hcn : ∀ w, Calls Try.prog 25 #[.int .i64 4] w fun e w' => e = .returned (.bool true) ∧ w' = w := fun w => rcounted_any 4 w
  replace hr := hide_it hr
  go_enter Try.func5, Try.ntmps5
  go_wp2_with fail
  refine hck.mono ?_
  rintro e u1 ⟨rfl, hb1⟩
  have hin1 := hin.below hb1 (by simp)
  have hB1 := hb.trans (hb1.mono hb.size)
  have hp1 : w.heap.size < u1.heap.size := by have := hb1.size; simp at this; omega
  obtain ⟨w1, hw1⟩ : ∃ W, W = u1.alloc (.cells #[.int .u8 4] 5) := ⟨_, rfl⟩
  have hbu : Below u1.heap.size u1 w1 := by rw [hw1]; exact (Below.refl _ _).alloc (Nat.le_refl _) _
  have ho1 : OwnB w1 u1.heap.size (.slice (some ⟨u1.heap.size, 0, none⟩) 1 1) [4] := by rw [hw1]; exact own_one u1 4
  have hin2 := hin1.below hbu hp1
  have hBB := hB1.trans (hbu.mono hB1.size)
  have hz1 := hbu.size
  have hrl : w.heap.size ≤ u1.heap.size := Nat.le_of_lt hp1
  clear hck hb hb1 hin hbu hB1
  obtain ⟨c0, c1, c2, c3, c4, c5⟩ := hin1
  simp only at c0 c1 c2 c3 c4 c5
  go_wp2_with fail
  rw [← hw1]
  clear hw1 c0 c1 c2 c3 c4 c5
  obtain ⟨c0, c1, c2, c3, c4, c5⟩ := hin2
  simp only at c0 c1 c2 c3 c4 c5
  obtain ⟨L1, hL1⟩ : ∃ L : List Nat, L = [4] := ⟨_, rfl⟩
  have hl1 : L1.length ≤ 1 := by rw [hL1]; simp
  rw [← hL1] at ho1
  replace hL1 := hide_it hL1
  obtain ⟨v1, hv1⟩ : ∃ v : Value, v = .slice (some ⟨u1.heap.size, 0, none⟩) 1 1 := ⟨_, rfl⟩
  rw [← hv1] at ho1
  simp only [← hv1]
  clear hv1
  refine (hky _).mono ?_
  rintro e w' ⟨rfl, hq⟩
  have hq2 := hq.symm
  subst hq2
  clear hq hky
  go_wp2_with fail
  refine (hsp _).mono ?_
  rintro e w' ⟨rfl, hq⟩
  have hq2 := hq.symm
  subst hq2
  clear hq hsp
  have hs1 : (shortL (2 * sn)).length ≤ 10 := shortL_ten (by unfold W64; omega)
  have hput := rshort_any v1 sn u1.heap.size L1 w1 (by omega) ho1 hz1 (by omega)
  go_wp2_with fail
  refine hput.mono ?_
  rintro e w2 ⟨⟨v2, rfl, ho2⟩, hb2⟩
  clear hput
  have hl2 : (L1 ++ shortL (2 * sn)).length ≤ 11 := by simp only [List.length_append]; omega
  obtain ⟨L2, hL2⟩ : ∃ L : List Nat, L = L1 ++ shortL (2 * sn) := ⟨_, rfl⟩
  rw [← hL2] at ho2 hl2
  replace hL2 := hide_it hL2
  have hin9 : InE w2 w.heap.size ⟨4, (sn : Int), (cn : Int), key, val, dead⟩ a cp := (InE.mk c0 c1 c2 c3 c4 c5 : InE w1 w.heap.size ⟨4, (sn : Int), (cn : Int), key, val, dead⟩ a cp).below hb2 hp1
  clear c0 c1 c2 c3 c4 c5
  obtain ⟨c0, c1, c2, c3, c4, c5⟩ := hin9
  simp only at c0 c1 c2 c3 c4 c5
  have hB2 := hBB.trans (hb2.mono hrl)
  have hz2 : u1.heap.size ≤ w2.heap.size := Nat.le_trans hz1 hb2.size
  clear hBB hb2 ho1
  have hBB := hB2
  clear hB2
  clear hs1
  go_wp2_with fail
  refine (hcn _).mono ?_
  rintro e w' ⟨rfl, hq⟩
  have hq2 := hq.symm
  subst hq2
  clear hq hcn
  have hs1 : (shortL (2 * cn)).length ≤ 10 := shortL_ten (by unfold W64; omega)
  have hput := rshort_any v2 cn u1.heap.size L2 w2 (by omega) ho2 hz2 (by omega)
  go_wp2_with fail
  refine hput.mono ?_
  rintro e w3 ⟨⟨v3, rfl, ho3⟩, hb3⟩
  clear hput
  have hl3 : (L2 ++ shortL (2 * cn)).length ≤ 21 := by simp only [List.length_append]; omega
  obtain ⟨L3, hL3⟩ : ∃ L : List Nat, L = L2 ++ shortL (2 * cn) := ⟨_, rfl⟩
  rw [← hL3] at ho3 hl3
  replace hL3 := hide_it hL3
  have hin9 : InE w3 w.heap.size ⟨4, (sn : Int), (cn : Int), key, val, dead⟩ a cp := (InE.mk c0 c1 c2 c3 c4 c5 : InE w2 w.heap.size ⟨4, (sn : Int), (cn : Int), key, val, dead⟩ a cp).below hb3 hp1
  clear c0 c1 c2 c3 c4 c5
  obtain ⟨c0, c1, c2, c3, c4, c5⟩ := hin9
  simp only at c0 c1 c2 c3 c4 c5
  have hB3 := hBB.trans (hb3.mono hrl)
  have hz3 : u1.heap.size ≤ w3.heap.size := Nat.le_trans hz2 hb3.size
  clear hBB hb3 ho2
  have hBB := hB3
  clear hB3
  clear hs1
  go_wp2_with fail
  refine (hva _).mono ?_
  rintro e w' ⟨rfl, hq⟩
  have hq2 := hq.symm
  subst hq2
  clear hq hva
  have hend := hfin w3 v3 L3 hBB (by
    rw [HE.out]
    rw [hL3.out]
    rw [hL2.out]
    rw [hL1.out]
    simp [encE, eK, eS, eC, eD, eV, hk, hs, hc, hd, hv, foldI_nat]) (ho3.mono hrl)
  clear hfin
  go_wp2_with fail
  first | exact hend | (go_ret2; exact hend)

set_option maxRecDepth 100000 in
set_option maxHeartbeats 1000000 in
theorem rencode_5f (sn : Nat) (count : Int) (key : ByteArray) (val : List Nat) (a : Option Addr) (cp : Nat) (w : World) (hm : mayE ⟨5, (sn : Int), count, key, val, false⟩ = true) (hr : RowB w a val) (hnil : a = none → val.length = 0 ∧ cp = 0) :
    Calls Try.prog 5 #[valE ⟨5, (sn : Int), count, key, val, false⟩ a cp] w fun e w' => EncTo w ⟨5, (sn : Int), count, key, val, false⟩ e w' := by
  obtain ⟨i0, hi, hz0, hz1', hz2'⟩ := info_parts infoB
  obtain ⟨x, hx⟩ : ∃ x : En, x = ⟨5, (sn : Int), count, key, val, false⟩ := ⟨_, rfl⟩
  have hb := boxE_below w x a cp
  have hin := InE.box w x a cp
  have hck := rcheck_any x a cp (boxE w x a cp)
  have M := may_parts hm
  have HC : Hid (chkE x = 0) := by unfold Hid chkE; rw [hx, hm]; rfl
  rw [HC.out] at hck
  have HM := hide_it hm
  have HX := hide_it hx
  have hkl : key.size ≤ 255 := by
    exact (M.key1 rfl).2
  have hvl : val.length ≤ 4096 := M.val
  have hst2 : sn ≤ 4611686018427387904 := by have h := M.st1 rfl; simp only at h; omega
  have hfin : ∀ (w' : World) (v : Value) (L : List Nat), Below w.heap.size w w' → L = encE x → OwnB w' w.heap.size v L → EncTo w x (.returned (.tuple #[v, .int .i64 0])) w' := fun w' v L h1 h2 h3 => by
    refine ⟨⟨v, by rw [HC.out]; rfl, ?_⟩, h1⟩
    rw [HX.out, HM.out]
    rw [h2, HX.out] at h3
    exact h3
  have HE : Hid (encE x = encE ⟨5, (sn : Int), count, key, val, false⟩) := by unfold Hid; rw [HX.out]
  rw [← hx]
  generalize EncTo w x = Q at *
  have hxv : valE x a cp = .agg #[.int .i64 5, .int .i64 (sn : Int), .int .i64 count, .string key, .slice a val.length cp, .bool false] := by rw [hx]
  have hbx : boxE w x a cp = w.alloc (.cells #[.int .i64 5, .int .i64 (sn : Int), .int .i64 count, .string key, .slice a val.length cp, .bool false] 24) := by rw [hx]
  rw [hxv, hbx] at hck
  rw [hbx] at hb hin
  rw [hxv]
  rw [hx] at hin
  clear hm M hx hxv hbx
  generalize encE x = R at *
  have hky : ∀ w, Calls Try.prog 22 #[.int .i64 5] w fun e w' => e = .returned (.bool true) ∧ w' = w := fun w => rkeyed_any 5 w
  have hva : ∀ w, Calls Try.prog 26 #[.int .i64 5] w fun e w' => e = .returned (.bool true) ∧ w' = w := fun w => rvalued_any 5 w
  have hsp : ∀ w, Calls Try.prog 24 #[.int .i64 5] w fun e w' => e = .returned (.bool true) ∧ w' = w := fun w => rstamped_any 5 w
  have hcn : ∀ w, Calls Try.prog 25 #[.int .i64 5] w fun e w' => e = .returned (.bool false) ∧ w' = w := fun w => rcounted_any 5 w
  replace hr := hide_it hr
  go_enter Try.func5, Try.ntmps5
  go_wp2_with fail
  refine hck.mono ?_
  rintro e u1 ⟨rfl, hb1⟩
  have hin1 := hin.below hb1 (by simp)
  have hB1 := hb.trans (hb1.mono hb.size)
  have hp1 : w.heap.size < u1.heap.size := by have := hb1.size; simp at this; omega
  obtain ⟨w1, hw1⟩ : ∃ W, W = u1.alloc (.cells #[.int .u8 5] 5) := ⟨_, rfl⟩
  have hbu : Below u1.heap.size u1 w1 := by rw [hw1]; exact (Below.refl _ _).alloc (Nat.le_refl _) _
  have ho1 : OwnB w1 u1.heap.size (.slice (some ⟨u1.heap.size, 0, none⟩) 1 1) [5] := by rw [hw1]; exact own_one u1 5
  have hin2 := hin1.below hbu hp1
  have hBB := hB1.trans (hbu.mono hB1.size)
  have hz1 := hbu.size
  have hrl : w.heap.size ≤ u1.heap.size := Nat.le_of_lt hp1
  clear hck hb hb1 hin hbu hB1
  obtain ⟨c0, c1, c2, c3, c4, c5⟩ := hin1
  simp only at c0 c1 c2 c3 c4 c5
  go_wp2_with fail
  rw [← hw1]
  clear hw1 c0 c1 c2 c3 c4 c5
  obtain ⟨c0, c1, c2, c3, c4, c5⟩ := hin2
  simp only at c0 c1 c2 c3 c4 c5
  obtain ⟨L1, hL1⟩ : ∃ L : List Nat, L = [5] := ⟨_, rfl⟩
  have hl1 : L1.length ≤ 1 := by rw [hL1]; simp
  rw [← hL1] at ho1
  replace hL1 := hide_it hL1
  obtain ⟨v1, hv1⟩ : ∃ v : Value, v = .slice (some ⟨u1.heap.size, 0, none⟩) 1 1 := ⟨_, rfl⟩
  rw [← hv1] at ho1
  simp only [← hv1]
  clear hv1
  refine (hky _).mono ?_
  rintro e w' ⟨rfl, hq⟩
  have hq2 := hq.symm
  subst hq2
  clear hq hky
  have hs1 : (shortL (2 * key.size)).length ≤ 10 := shortL_ten (by unfold W64; omega)
  have hput := rshort_any v1 key.size u1.heap.size L1 w1 (by omega) ho1 hz1 (by omega)
  go_wp2_with fail
  refine hput.mono ?_
  rintro e w2 ⟨⟨v2, rfl, ho2⟩, hb2⟩
  clear hput
  have hl2 : (L1 ++ shortL (2 * key.size)).length ≤ 11 := by simp only [List.length_append]; omega
  obtain ⟨L2, hL2⟩ : ∃ L : List Nat, L = L1 ++ shortL (2 * key.size) := ⟨_, rfl⟩
  rw [← hL2] at ho2 hl2
  replace hL2 := hide_it hL2
  have hin9 : InE w2 w.heap.size ⟨5, (sn : Int), count, key, val, false⟩ a cp := (InE.mk c0 c1 c2 c3 c4 c5 : InE w1 w.heap.size ⟨5, (sn : Int), count, key, val, false⟩ a cp).below hb2 hp1
  clear c0 c1 c2 c3 c4 c5
  obtain ⟨c0, c1, c2, c3, c4, c5⟩ := hin9
  simp only at c0 c1 c2 c3 c4 c5
  have hB2 := hBB.trans (hb2.mono hrl)
  have hz2 : u1.heap.size ≤ w2.heap.size := Nat.le_trans hz1 hb2.size
  clear hBB hb2 ho1
  have hBB := hB2
  clear hB2
  clear hs1
  have hlk : L2.length + key.size ≤ 140737488355328 := by omega
  go_wp2_with (at_builtin; refine Lib.wpList_append_own_string _ rfl _ _ 22 9 rfl u1.heap.size 5 i0 Try.underlying22 Try.underlying9 hi hz0 hz1' hz2' _ _ _ rfl ho2 key rfl (by unfold maxLen; omega) hlk hz2 ?_; intro v3 w3 ho3' hg3 hnil3; have hb3 : Below u1.heap.size w2 w3 := (Below.refl _ _).grown hg3 hz2 (fun j e => ho2.ge e); have hin9 : InE w3 w.heap.size ⟨5, (sn : Int), count, key, val, false⟩ a cp := (InE.mk c0 c1 c2 c3 c4 c5 : InE w2 w.heap.size ⟨5, (sn : Int), count, key, val, false⟩ a cp).below hb3 hp1; clear c0 c1 c2 c3 c4 c5; obtain ⟨c0, c1, c2, c3, c4, c5⟩ := hin9; simp only at c0 c1 c2 c3 c4 c5)
  have ho3 : OwnB w3 u1.heap.size v3 (L2 ++ strNat key) := by
    unfold OwnB
    rw [List.length_append, List.map_append, strNat_len, ← strCells_nat]
    exact ho3'
  clear ho3' hg3 hnil3 hlk
  have hl3 : (L2 ++ strNat key).length ≤ 266 := by simp only [List.length_append, strNat_len]; omega
  obtain ⟨L3, hL3⟩ : ∃ L : List Nat, L = L2 ++ strNat key := ⟨_, rfl⟩
  rw [← hL3] at ho3 hl3
  replace hL3 := hide_it hL3
  have hB3 := hBB.trans (hb3.mono hrl)
  have hz3 : u1.heap.size ≤ w3.heap.size := Nat.le_trans hz2 hb3.size
  clear hBB hb3 ho2
  have hBB := hB3
  clear hB3
  refine (hsp _).mono ?_
  rintro e w' ⟨rfl, hq⟩
  have hq2 := hq.symm
  subst hq2
  clear hq hsp
  have hs1 : (shortL (2 * sn)).length ≤ 10 := shortL_ten (by unfold W64; omega)
  have hput := rshort_any v3 sn u1.heap.size L3 w3 (by omega) ho3 hz3 (by omega)
  go_wp2_with fail
  refine hput.mono ?_
  rintro e w4 ⟨⟨v4, rfl, ho4⟩, hb4⟩
  clear hput
  have hl4 : (L3 ++ shortL (2 * sn)).length ≤ 276 := by simp only [List.length_append]; omega
  obtain ⟨L4, hL4⟩ : ∃ L : List Nat, L = L3 ++ shortL (2 * sn) := ⟨_, rfl⟩
  rw [← hL4] at ho4 hl4
  replace hL4 := hide_it hL4
  have hin9 : InE w4 w.heap.size ⟨5, (sn : Int), count, key, val, false⟩ a cp := (InE.mk c0 c1 c2 c3 c4 c5 : InE w3 w.heap.size ⟨5, (sn : Int), count, key, val, false⟩ a cp).below hb4 hp1
  clear c0 c1 c2 c3 c4 c5
  obtain ⟨c0, c1, c2, c3, c4, c5⟩ := hin9
  simp only at c0 c1 c2 c3 c4 c5
  have hB4 := hBB.trans (hb4.mono hrl)
  have hz4 : u1.heap.size ≤ w4.heap.size := Nat.le_trans hz3 hb4.size
  clear hBB hb4 ho3
  have hBB := hB4
  clear hB4
  clear hs1
  go_wp2_with fail
  refine (hcn _).mono ?_
  rintro e w' ⟨rfl, hq⟩
  have hq2 := hq.symm
  subst hq2
  clear hq hcn
  go_wp2_with (at_builtin; refine wpList_append_byte _ rfl _ _ rfl u1.heap.size _ _ rfl ho4 0 rfl (by omega) hz4 ?_; intro v5 w5 ho5 hg5 hat5; have hb5 : Below u1.heap.size w4 w5 := ((Below.refl _ _).alloc hz4 _).grown hg5 (by simp; omega) (fun j e => ho4.ge e); have hin9 : InE w5 w.heap.size ⟨5, (sn : Int), count, key, val, false⟩ a cp := (InE.mk c0 c1 c2 c3 c4 c5 : InE w4 w.heap.size ⟨5, (sn : Int), count, key, val, false⟩ a cp).below hb5 hp1; clear c0 c1 c2 c3 c4 c5; obtain ⟨c0, c1, c2, c3, c4, c5⟩ := hin9; simp only at c0 c1 c2 c3 c4 c5)
  clear hg5 hat5
  have hl5 : (L4 ++ [0]).length ≤ 277 := by simp only [List.length_append, List.length_singleton]; omega
  obtain ⟨L5, hL5⟩ : ∃ L : List Nat, L = L4 ++ [0] := ⟨_, rfl⟩
  rw [← hL5] at ho5 hl5
  replace hL5 := hide_it hL5
  have hB5 := hBB.trans (hb5.mono hrl)
  have hz5 : u1.heap.size ≤ w5.heap.size := Nat.le_trans hz4 hb5.size
  clear hBB hb5 ho4
  have hBB := hB5
  clear hB5
  refine (hva _).mono ?_
  rintro e w' ⟨rfl, hq⟩
  have hq2 := hq.symm
  subst hq2
  clear hq hva
  have hs1 : (shortL (2 * val.length)).length ≤ 10 := shortL_ten (by unfold W64; omega)
  have hput := rshort_any v5 val.length u1.heap.size L5 w5 (by omega) ho5 hz5 (by omega)
  go_wp2_with fail
  refine hput.mono ?_
  rintro e w6 ⟨⟨v6, rfl, ho6⟩, hb6⟩
  clear hput
  have hl6 : (L5 ++ shortL (2 * val.length)).length ≤ 287 := by simp only [List.length_append]; omega
  obtain ⟨L6, hL6⟩ : ∃ L : List Nat, L = L5 ++ shortL (2 * val.length) := ⟨_, rfl⟩
  rw [← hL6] at ho6 hl6
  replace hL6 := hide_it hL6
  have hin9 : InE w6 w.heap.size ⟨5, (sn : Int), count, key, val, false⟩ a cp := (InE.mk c0 c1 c2 c3 c4 c5 : InE w5 w.heap.size ⟨5, (sn : Int), count, key, val, false⟩ a cp).below hb6 hp1
  clear c0 c1 c2 c3 c4 c5
  obtain ⟨c0, c1, c2, c3, c4, c5⟩ := hin9
  simp only at c0 c1 c2 c3 c4 c5
  have hB6 := hBB.trans (hb6.mono hrl)
  have hz6 : u1.heap.size ≤ w6.heap.size := Nat.le_trans hz5 hb6.size
  clear hBB hb6 ho5
  have hBB := hB6
  clear hB6
  clear hs1
  have hlk : L6.length + val.length ≤ 140737488355328 := by omega
  have hrow := hr.out.below hBB
  go_wp2_with (at_builtin; refine wpList_append_row _ rfl _ _ rfl u1.heap.size _ _ rfl ho6 a cp val rfl hrow hnil hlk hz6 ?_; intro v7 w7 ho7 hg7 hat7)
  have hb7 : Below u1.heap.size w6 w7 := (Below.refl _ _).grown hg7 hz6 (fun j e => ho6.ge e)
  have hBB7 := hBB.trans (hb7.mono hrl)
  obtain ⟨L7, hL7⟩ : ∃ L : List Nat, L = L6 ++ val := ⟨_, rfl⟩
  rw [← hL7] at ho7
  replace hL7 := hide_it hL7
  have hend := hfin w7 v7 L7 hBB7 (by
    rw [HE.out]
    rw [hL7.out]
    rw [hL6.out]
    rw [hL5.out]
    rw [hL4.out]
    rw [hL3.out]
    rw [hL2.out]
    rw [hL1.out]
    simp [encE, eK, eS, eC, eD, eV, hk, hs, hc, hd, hv, foldI_nat]) (ho7.mono hrl)
  first | exact hend | (go_ret2; exact hend)

set_option maxRecDepth 100000 in
set_option maxHeartbeats 1000000 in
theorem rencode_5t (sn : Nat) (count : Int) (key : ByteArray) (val : List Nat) (a : Option Addr) (cp : Nat) (w : World) (hm : mayE ⟨5, (sn : Int), count, key, val, true⟩ = true) (hr : RowB w a val) (hnil : a = none → val.length = 0 ∧ cp = 0) :
    Calls Try.prog 5 #[valE ⟨5, (sn : Int), count, key, val, true⟩ a cp] w fun e w' => EncTo w ⟨5, (sn : Int), count, key, val, true⟩ e w' := by
  obtain ⟨i0, hi, hz0, hz1', hz2'⟩ := info_parts infoB
  obtain ⟨x, hx⟩ : ∃ x : En, x = ⟨5, (sn : Int), count, key, val, true⟩ := ⟨_, rfl⟩
  have hb := boxE_below w x a cp
  have hin := InE.box w x a cp
  have hck := rcheck_any x a cp (boxE w x a cp)
  have M := may_parts hm
  have HC : Hid (chkE x = 0) := by unfold Hid chkE; rw [hx, hm]; rfl
  rw [HC.out] at hck
  have HM := hide_it hm
  have HX := hide_it hx
  have hkl : key.size ≤ 255 := by
    exact (M.key1 rfl).2
  have hvl : val.length ≤ 4096 := M.val
  have hst2 : sn ≤ 4611686018427387904 := by have h := M.st1 rfl; simp only at h; omega
  have hfin : ∀ (w' : World) (v : Value) (L : List Nat), Below w.heap.size w w' → L = encE x → OwnB w' w.heap.size v L → EncTo w x (.returned (.tuple #[v, .int .i64 0])) w' := fun w' v L h1 h2 h3 => by
    refine ⟨⟨v, by rw [HC.out]; rfl, ?_⟩, h1⟩
    rw [HX.out, HM.out]
    rw [h2, HX.out] at h3
    exact h3
  have HE : Hid (encE x = encE ⟨5, (sn : Int), count, key, val, true⟩) := by unfold Hid; rw [HX.out]
  rw [← hx]
  generalize EncTo w x = Q at *
  have hxv : valE x a cp = .agg #[.int .i64 5, .int .i64 (sn : Int), .int .i64 count, .string key, .slice a val.length cp, .bool true] := by rw [hx]
  have hbx : boxE w x a cp = w.alloc (.cells #[.int .i64 5, .int .i64 (sn : Int), .int .i64 count, .string key, .slice a val.length cp, .bool true] 24) := by rw [hx]
  rw [hxv, hbx] at hck
  rw [hbx] at hb hin
  rw [hxv]
  rw [hx] at hin
  clear hm M hx hxv hbx
  generalize encE x = R at *
  have hky : ∀ w, Calls Try.prog 22 #[.int .i64 5] w fun e w' => e = .returned (.bool true) ∧ w' = w := fun w => rkeyed_any 5 w
  have hva : ∀ w, Calls Try.prog 26 #[.int .i64 5] w fun e w' => e = .returned (.bool true) ∧ w' = w := fun w => rvalued_any 5 w
  have hsp : ∀ w, Calls Try.prog 24 #[.int .i64 5] w fun e w' => e = .returned (.bool true) ∧ w' = w := fun w => rstamped_any 5 w
  have hcn : ∀ w, Calls Try.prog 25 #[.int .i64 5] w fun e w' => e = .returned (.bool false) ∧ w' = w := fun w => rcounted_any 5 w
  replace hr := hide_it hr
  go_enter Try.func5, Try.ntmps5
  go_wp2_with fail
  refine hck.mono ?_
  rintro e u1 ⟨rfl, hb1⟩
  have hin1 := hin.below hb1 (by simp)
  have hB1 := hb.trans (hb1.mono hb.size)
  have hp1 : w.heap.size < u1.heap.size := by have := hb1.size; simp at this; omega
  obtain ⟨w1, hw1⟩ : ∃ W, W = u1.alloc (.cells #[.int .u8 5] 5) := ⟨_, rfl⟩
  have hbu : Below u1.heap.size u1 w1 := by rw [hw1]; exact (Below.refl _ _).alloc (Nat.le_refl _) _
  have ho1 : OwnB w1 u1.heap.size (.slice (some ⟨u1.heap.size, 0, none⟩) 1 1) [5] := by rw [hw1]; exact own_one u1 5
  have hin2 := hin1.below hbu hp1
  have hBB := hB1.trans (hbu.mono hB1.size)
  have hz1 := hbu.size
  have hrl : w.heap.size ≤ u1.heap.size := Nat.le_of_lt hp1
  clear hck hb hb1 hin hbu hB1
  obtain ⟨c0, c1, c2, c3, c4, c5⟩ := hin1
  simp only at c0 c1 c2 c3 c4 c5
  go_wp2_with fail
  rw [← hw1]
  clear hw1 c0 c1 c2 c3 c4 c5
  obtain ⟨c0, c1, c2, c3, c4, c5⟩ := hin2
  simp only at c0 c1 c2 c3 c4 c5
  obtain ⟨L1, hL1⟩ : ∃ L : List Nat, L = [5] := ⟨_, rfl⟩
  have hl1 : L1.length ≤ 1 := by rw [hL1]; simp
  rw [← hL1] at ho1
  replace hL1 := hide_it hL1
  obtain ⟨v1, hv1⟩ : ∃ v : Value, v = .slice (some ⟨u1.heap.size, 0, none⟩) 1 1 := ⟨_, rfl⟩
  rw [← hv1] at ho1
  simp only [← hv1]
  clear hv1
  refine (hky _).mono ?_
  rintro e w' ⟨rfl, hq⟩
  have hq2 := hq.symm
  subst hq2
  clear hq hky
  have hs1 : (shortL (2 * key.size)).length ≤ 10 := shortL_ten (by unfold W64; omega)
  have hput := rshort_any v1 key.size u1.heap.size L1 w1 (by omega) ho1 hz1 (by omega)
  go_wp2_with fail
  refine hput.mono ?_
  rintro e w2 ⟨⟨v2, rfl, ho2⟩, hb2⟩
  clear hput
  have hl2 : (L1 ++ shortL (2 * key.size)).length ≤ 11 := by simp only [List.length_append]; omega
  obtain ⟨L2, hL2⟩ : ∃ L : List Nat, L = L1 ++ shortL (2 * key.size) := ⟨_, rfl⟩
  rw [← hL2] at ho2 hl2
  replace hL2 := hide_it hL2
  have hin9 : InE w2 w.heap.size ⟨5, (sn : Int), count, key, val, true⟩ a cp := (InE.mk c0 c1 c2 c3 c4 c5 : InE w1 w.heap.size ⟨5, (sn : Int), count, key, val, true⟩ a cp).below hb2 hp1
  clear c0 c1 c2 c3 c4 c5
  obtain ⟨c0, c1, c2, c3, c4, c5⟩ := hin9
  simp only at c0 c1 c2 c3 c4 c5
  have hB2 := hBB.trans (hb2.mono hrl)
  have hz2 : u1.heap.size ≤ w2.heap.size := Nat.le_trans hz1 hb2.size
  clear hBB hb2 ho1
  have hBB := hB2
  clear hB2
  clear hs1
  have hlk : L2.length + key.size ≤ 140737488355328 := by omega
  go_wp2_with (at_builtin; refine Lib.wpList_append_own_string _ rfl _ _ 22 9 rfl u1.heap.size 5 i0 Try.underlying22 Try.underlying9 hi hz0 hz1' hz2' _ _ _ rfl ho2 key rfl (by unfold maxLen; omega) hlk hz2 ?_; intro v3 w3 ho3' hg3 hnil3; have hb3 : Below u1.heap.size w2 w3 := (Below.refl _ _).grown hg3 hz2 (fun j e => ho2.ge e); have hin9 : InE w3 w.heap.size ⟨5, (sn : Int), count, key, val, true⟩ a cp := (InE.mk c0 c1 c2 c3 c4 c5 : InE w2 w.heap.size ⟨5, (sn : Int), count, key, val, true⟩ a cp).below hb3 hp1; clear c0 c1 c2 c3 c4 c5; obtain ⟨c0, c1, c2, c3, c4, c5⟩ := hin9; simp only at c0 c1 c2 c3 c4 c5)
  have ho3 : OwnB w3 u1.heap.size v3 (L2 ++ strNat key) := by
    unfold OwnB
    rw [List.length_append, List.map_append, strNat_len, ← strCells_nat]
    exact ho3'
  clear ho3' hg3 hnil3 hlk
  have hl3 : (L2 ++ strNat key).length ≤ 266 := by simp only [List.length_append, strNat_len]; omega
  obtain ⟨L3, hL3⟩ : ∃ L : List Nat, L = L2 ++ strNat key := ⟨_, rfl⟩
  rw [← hL3] at ho3 hl3
  replace hL3 := hide_it hL3
  have hB3 := hBB.trans (hb3.mono hrl)
  have hz3 : u1.heap.size ≤ w3.heap.size := Nat.le_trans hz2 hb3.size
  clear hBB hb3 ho2
  have hBB := hB3
  clear hB3
  refine (hsp _).mono ?_
  rintro e w' ⟨rfl, hq⟩
  have hq2 := hq.symm
  subst hq2
  clear hq hsp
  have hs1 : (shortL (2 * sn)).length ≤ 10 := shortL_ten (by unfold W64; omega)
  have hput := rshort_any v3 sn u1.heap.size L3 w3 (by omega) ho3 hz3 (by omega)
  go_wp2_with fail
  refine hput.mono ?_
  rintro e w4 ⟨⟨v4, rfl, ho4⟩, hb4⟩
  clear hput
  have hl4 : (L3 ++ shortL (2 * sn)).length ≤ 276 := by simp only [List.length_append]; omega
  obtain ⟨L4, hL4⟩ : ∃ L : List Nat, L = L3 ++ shortL (2 * sn) := ⟨_, rfl⟩
  rw [← hL4] at ho4 hl4
  replace hL4 := hide_it hL4
  have hin9 : InE w4 w.heap.size ⟨5, (sn : Int), count, key, val, true⟩ a cp := (InE.mk c0 c1 c2 c3 c4 c5 : InE w3 w.heap.size ⟨5, (sn : Int), count, key, val, true⟩ a cp).below hb4 hp1
  clear c0 c1 c2 c3 c4 c5
  obtain ⟨c0, c1, c2, c3, c4, c5⟩ := hin9
  simp only at c0 c1 c2 c3 c4 c5
  have hB4 := hBB.trans (hb4.mono hrl)
  have hz4 : u1.heap.size ≤ w4.heap.size := Nat.le_trans hz3 hb4.size
  clear hBB hb4 ho3
  have hBB := hB4
  clear hB4
  clear hs1
  go_wp2_with fail
  refine (hcn _).mono ?_
  rintro e w' ⟨rfl, hq⟩
  have hq2 := hq.symm
  subst hq2
  clear hq hcn
  go_wp2_with (at_builtin; refine wpList_append_byte _ rfl _ _ rfl u1.heap.size _ _ rfl ho4 1 rfl (by omega) hz4 ?_; intro v5 w5 ho5 hg5 hat5; have hb5 : Below u1.heap.size w4 w5 := ((Below.refl _ _).alloc hz4 _).grown hg5 (by simp; omega) (fun j e => ho4.ge e); have hin9 : InE w5 w.heap.size ⟨5, (sn : Int), count, key, val, true⟩ a cp := (InE.mk c0 c1 c2 c3 c4 c5 : InE w4 w.heap.size ⟨5, (sn : Int), count, key, val, true⟩ a cp).below hb5 hp1; clear c0 c1 c2 c3 c4 c5; obtain ⟨c0, c1, c2, c3, c4, c5⟩ := hin9; simp only at c0 c1 c2 c3 c4 c5)
  clear hg5 hat5
  have hl5 : (L4 ++ [1]).length ≤ 277 := by simp only [List.length_append, List.length_singleton]; omega
  obtain ⟨L5, hL5⟩ : ∃ L : List Nat, L = L4 ++ [1] := ⟨_, rfl⟩
  rw [← hL5] at ho5 hl5
  replace hL5 := hide_it hL5
  have hB5 := hBB.trans (hb5.mono hrl)
  have hz5 : u1.heap.size ≤ w5.heap.size := Nat.le_trans hz4 hb5.size
  clear hBB hb5 ho4
  have hBB := hB5
  clear hB5
  refine (hva _).mono ?_
  rintro e w' ⟨rfl, hq⟩
  have hq2 := hq.symm
  subst hq2
  clear hq hva
  have hs1 : (shortL (2 * val.length)).length ≤ 10 := shortL_ten (by unfold W64; omega)
  have hput := rshort_any v5 val.length u1.heap.size L5 w5 (by omega) ho5 hz5 (by omega)
  go_wp2_with fail
  refine hput.mono ?_
  rintro e w6 ⟨⟨v6, rfl, ho6⟩, hb6⟩
  clear hput
  have hl6 : (L5 ++ shortL (2 * val.length)).length ≤ 287 := by simp only [List.length_append]; omega
  obtain ⟨L6, hL6⟩ : ∃ L : List Nat, L = L5 ++ shortL (2 * val.length) := ⟨_, rfl⟩
  rw [← hL6] at ho6 hl6
  replace hL6 := hide_it hL6
  have hin9 : InE w6 w.heap.size ⟨5, (sn : Int), count, key, val, true⟩ a cp := (InE.mk c0 c1 c2 c3 c4 c5 : InE w5 w.heap.size ⟨5, (sn : Int), count, key, val, true⟩ a cp).below hb6 hp1
  clear c0 c1 c2 c3 c4 c5
  obtain ⟨c0, c1, c2, c3, c4, c5⟩ := hin9
  simp only at c0 c1 c2 c3 c4 c5
  have hB6 := hBB.trans (hb6.mono hrl)
  have hz6 : u1.heap.size ≤ w6.heap.size := Nat.le_trans hz5 hb6.size
  clear hBB hb6 ho5
  have hBB := hB6
  clear hB6
  clear hs1
  have hlk : L6.length + val.length ≤ 140737488355328 := by omega
  have hrow := hr.out.below hBB
  go_wp2_with (at_builtin; refine wpList_append_row _ rfl _ _ rfl u1.heap.size _ _ rfl ho6 a cp val rfl hrow hnil hlk hz6 ?_; intro v7 w7 ho7 hg7 hat7)
  have hb7 : Below u1.heap.size w6 w7 := (Below.refl _ _).grown hg7 hz6 (fun j e => ho6.ge e)
  have hBB7 := hBB.trans (hb7.mono hrl)
  obtain ⟨L7, hL7⟩ : ∃ L : List Nat, L = L6 ++ val := ⟨_, rfl⟩
  rw [← hL7] at ho7
  replace hL7 := hide_it hL7
  have hend := hfin w7 v7 L7 hBB7 (by
    rw [HE.out]
    rw [hL7.out]
    rw [hL6.out]
    rw [hL5.out]
    rw [hL4.out]
    rw [hL3.out]
    rw [hL2.out]
    rw [hL1.out]
    simp [encE, eK, eS, eC, eD, eV, hk, hs, hc, hd, hv, foldI_nat]) (ho7.mono hrl)
  first | exact hend | (go_ret2; exact hend)

set_option maxRecDepth 100000 in
set_option maxHeartbeats 1000000 in
theorem rencode_6 (sn : Nat) (cn : Nat) (key : ByteArray) (val : List Nat) (dead : Bool) (a : Option Addr) (cp : Nat) (w : World) (hm : mayE ⟨6, (sn : Int), (cn : Int), key, val, dead⟩ = true) (hr : RowB w a val) (_hnil : a = none → val.length = 0 ∧ cp = 0) :
    Calls Try.prog 5 #[valE ⟨6, (sn : Int), (cn : Int), key, val, dead⟩ a cp] w fun e w' => EncTo w ⟨6, (sn : Int), (cn : Int), key, val, dead⟩ e w' := by
  obtain ⟨i0, hi, hz0, hz1', hz2'⟩ := info_parts infoB
  obtain ⟨x, hx⟩ : ∃ x : En, x = ⟨6, (sn : Int), (cn : Int), key, val, dead⟩ := ⟨_, rfl⟩
  have hb := boxE_below w x a cp
  have hin := InE.box w x a cp
  have hck := rcheck_any x a cp (boxE w x a cp)
  have M := may_parts hm
  have HC : Hid (chkE x = 0) := by unfold Hid chkE; rw [hx, hm]; rfl
  rw [HC.out] at hck
  have HM := hide_it hm
  have HX := hide_it hx
  have hkl : key.size ≤ 255 := by
    have h1 := M.key0 rfl
    have h2 : key.size = 0 := h1
    omega
  have hvl : val.length ≤ 4096 := M.val
  have hst2 : sn ≤ 4611686018427387904 := by have h := M.st1 rfl; simp only at h; omega
  have hct2 : cn ≤ 2147483647 := by have h := M.ct1 rfl; simp only at h; omega
  have hfin : ∀ (w' : World) (v : Value) (L : List Nat), Below w.heap.size w w' → L = encE x → OwnB w' w.heap.size v L → EncTo w x (.returned (.tuple #[v, .int .i64 0])) w' := fun w' v L h1 h2 h3 => by
    refine ⟨⟨v, by rw [HC.out]; rfl, ?_⟩, h1⟩
    rw [HX.out, HM.out]
    rw [h2, HX.out] at h3
    exact h3
  have HE : Hid (encE x = encE ⟨6, (sn : Int), (cn : Int), key, val, dead⟩) := by unfold Hid; rw [HX.out]
  rw [← hx]
  generalize EncTo w x = Q at *
  have hxv : valE x a cp = .agg #[.int .i64 6, .int .i64 (sn : Int), .int .i64 (cn : Int), .string key, .slice a val.length cp, .bool dead] := by rw [hx]
  have hbx : boxE w x a cp = w.alloc (.cells #[.int .i64 6, .int .i64 (sn : Int), .int .i64 (cn : Int), .string key, .slice a val.length cp, .bool dead] 24) := by rw [hx]
  rw [hxv, hbx] at hck
  rw [hbx] at hb hin
  rw [hxv]
  rw [hx] at hin
  clear hm M hx hxv hbx
  generalize encE x = R at *
  have hky : ∀ w, Calls Try.prog 22 #[.int .i64 6] w fun e w' => e = .returned (.bool false) ∧ w' = w := fun w => rkeyed_any 6 w
  have hva : ∀ w, Calls Try.prog 26 #[.int .i64 6] w fun e w' => e = .returned (.bool false) ∧ w' = w := fun w => rvalued_any 6 w
  have hsp : ∀ w, Calls Try.prog 24 #[.int .i64 6] w fun e w' => e = .returned (.bool true) ∧ w' = w := fun w => rstamped_any 6 w
  have hcn : ∀ w, Calls Try.prog 25 #[.int .i64 6] w fun e w' => e = .returned (.bool true) ∧ w' = w := fun w => rcounted_any 6 w
  replace hr := hide_it hr
  go_enter Try.func5, Try.ntmps5
  go_wp2_with fail
  refine hck.mono ?_
  rintro e u1 ⟨rfl, hb1⟩
  have hin1 := hin.below hb1 (by simp)
  have hB1 := hb.trans (hb1.mono hb.size)
  have hp1 : w.heap.size < u1.heap.size := by have := hb1.size; simp at this; omega
  obtain ⟨w1, hw1⟩ : ∃ W, W = u1.alloc (.cells #[.int .u8 6] 5) := ⟨_, rfl⟩
  have hbu : Below u1.heap.size u1 w1 := by rw [hw1]; exact (Below.refl _ _).alloc (Nat.le_refl _) _
  have ho1 : OwnB w1 u1.heap.size (.slice (some ⟨u1.heap.size, 0, none⟩) 1 1) [6] := by rw [hw1]; exact own_one u1 6
  have hin2 := hin1.below hbu hp1
  have hBB := hB1.trans (hbu.mono hB1.size)
  have hz1 := hbu.size
  have hrl : w.heap.size ≤ u1.heap.size := Nat.le_of_lt hp1
  clear hck hb hb1 hin hbu hB1
  obtain ⟨c0, c1, c2, c3, c4, c5⟩ := hin1
  simp only at c0 c1 c2 c3 c4 c5
  go_wp2_with fail
  rw [← hw1]
  clear hw1 c0 c1 c2 c3 c4 c5
  obtain ⟨c0, c1, c2, c3, c4, c5⟩ := hin2
  simp only at c0 c1 c2 c3 c4 c5
  obtain ⟨L1, hL1⟩ : ∃ L : List Nat, L = [6] := ⟨_, rfl⟩
  have hl1 : L1.length ≤ 1 := by rw [hL1]; simp
  rw [← hL1] at ho1
  replace hL1 := hide_it hL1
  obtain ⟨v1, hv1⟩ : ∃ v : Value, v = .slice (some ⟨u1.heap.size, 0, none⟩) 1 1 := ⟨_, rfl⟩
  rw [← hv1] at ho1
  simp only [← hv1]
  clear hv1
  refine (hky _).mono ?_
  rintro e w' ⟨rfl, hq⟩
  have hq2 := hq.symm
  subst hq2
  clear hq hky
  go_wp2_with fail
  refine (hsp _).mono ?_
  rintro e w' ⟨rfl, hq⟩
  have hq2 := hq.symm
  subst hq2
  clear hq hsp
  have hs1 : (shortL (2 * sn)).length ≤ 10 := shortL_ten (by unfold W64; omega)
  have hput := rshort_any v1 sn u1.heap.size L1 w1 (by omega) ho1 hz1 (by omega)
  go_wp2_with fail
  refine hput.mono ?_
  rintro e w2 ⟨⟨v2, rfl, ho2⟩, hb2⟩
  clear hput
  have hl2 : (L1 ++ shortL (2 * sn)).length ≤ 11 := by simp only [List.length_append]; omega
  obtain ⟨L2, hL2⟩ : ∃ L : List Nat, L = L1 ++ shortL (2 * sn) := ⟨_, rfl⟩
  rw [← hL2] at ho2 hl2
  replace hL2 := hide_it hL2
  have hin9 : InE w2 w.heap.size ⟨6, (sn : Int), (cn : Int), key, val, dead⟩ a cp := (InE.mk c0 c1 c2 c3 c4 c5 : InE w1 w.heap.size ⟨6, (sn : Int), (cn : Int), key, val, dead⟩ a cp).below hb2 hp1
  clear c0 c1 c2 c3 c4 c5
  obtain ⟨c0, c1, c2, c3, c4, c5⟩ := hin9
  simp only at c0 c1 c2 c3 c4 c5
  have hB2 := hBB.trans (hb2.mono hrl)
  have hz2 : u1.heap.size ≤ w2.heap.size := Nat.le_trans hz1 hb2.size
  clear hBB hb2 ho1
  have hBB := hB2
  clear hB2
  clear hs1
  go_wp2_with fail
  refine (hcn _).mono ?_
  rintro e w' ⟨rfl, hq⟩
  have hq2 := hq.symm
  subst hq2
  clear hq hcn
  have hs1 : (shortL (2 * cn)).length ≤ 10 := shortL_ten (by unfold W64; omega)
  have hput := rshort_any v2 cn u1.heap.size L2 w2 (by omega) ho2 hz2 (by omega)
  go_wp2_with fail
  refine hput.mono ?_
  rintro e w3 ⟨⟨v3, rfl, ho3⟩, hb3⟩
  clear hput
  have hl3 : (L2 ++ shortL (2 * cn)).length ≤ 21 := by simp only [List.length_append]; omega
  obtain ⟨L3, hL3⟩ : ∃ L : List Nat, L = L2 ++ shortL (2 * cn) := ⟨_, rfl⟩
  rw [← hL3] at ho3 hl3
  replace hL3 := hide_it hL3
  have hin9 : InE w3 w.heap.size ⟨6, (sn : Int), (cn : Int), key, val, dead⟩ a cp := (InE.mk c0 c1 c2 c3 c4 c5 : InE w2 w.heap.size ⟨6, (sn : Int), (cn : Int), key, val, dead⟩ a cp).below hb3 hp1
  clear c0 c1 c2 c3 c4 c5
  obtain ⟨c0, c1, c2, c3, c4, c5⟩ := hin9
  simp only at c0 c1 c2 c3 c4 c5
  have hB3 := hBB.trans (hb3.mono hrl)
  have hz3 : u1.heap.size ≤ w3.heap.size := Nat.le_trans hz2 hb3.size
  clear hBB hb3 ho2
  have hBB := hB3
  clear hB3
  clear hs1
  go_wp2_with fail
  refine (hva _).mono ?_
  rintro e w' ⟨rfl, hq⟩
  have hq2 := hq.symm
  subst hq2
  clear hq hva
  have hend := hfin w3 v3 L3 hBB (by
    rw [HE.out]
    rw [hL3.out]
    rw [hL2.out]
    rw [hL1.out]
    simp [encE, eK, eS, eC, eD, eV, hk, hs, hc, hd, hv, foldI_nat]) (ho3.mono hrl)
  clear hfin
  go_wp2_with fail
  first | exact hend | (go_ret2; exact hend)
end Go.Proofs.Ytlhlpofmeeiffab

/- Opening a reader; the calls whose answers the document fixes. -/
import Derived.Test.YtfhinodieghklabRd8
import Derived.Lib.Strings
namespace Go.Proofs.Ytfhinodieghklab
open Go.RowKit

set_option maxRecDepth 100000 in
set_option maxHeartbeats 400000 in
theorem open_any (a : Option Addr) (cap : Nat) (zs : List Nat) (w : World) (hr : RowB w a zs) (h8 : All8 zs) (hl : zs.length ≤ 140737488355328) (hnil : a = none → zs.length = 0 ∧ cap = 0) :
    Calls Try.prog 10 #[.slice a zs.length cap] w fun e w' => ∃ p, e = .returned (.pointer (some ⟨p, 0, none⟩)) ∧ w.heap.size ≤ p ∧ Rst w' (some ⟨p, 0, none⟩) (zs, 0) ∧ Below w.heap.size w w' := by
  have hcl := clone_any a cap zs w hr hl hnil
  clear hr
  go_enter Try.func10, Try.ntmps10
  go_wp2_with fail
  refine hcl.mono ?_
  rintro e w1 ⟨⟨v, rfl, hown⟩, hb1⟩
  obtain ⟨a1, c1, rfl, hr1, h1, h2, h3⟩ := hown.row
  have HR := hide_it hr1
  have hb2 : Below w1.heap.size w1 (w1.alloc (.cells #[.slice a1 zs.length c1, .int .i64 0] 64)) := (Below.refl _ _).alloc (Nat.le_refl _) _
  clear hcl hown hr1
  go_wp2_with fail
  go_ret
  refine ⟨w1.heap.size, rfl, hb1.size, .inr ⟨w1.heap.size, rfl, ⟨by simp, a1, c1, heap_alloc_new w1 _, HR.out.below hb2, h1, h2, h3⟩, h8⟩, hb1.trans (hb2.mono hb1.size)⟩

theorem row_lit (w : World) (zs : List Nat) : RowB (w.alloc (.cells (zs.map encB).toArray 5)) (some ⟨w.heap.size, 0, none⟩) zs := by
  refine .inr ⟨w.heap.size, 0, rfl, by simp, fun i hi => ?_⟩
  rw [cell_of_row _ _ _ _ _ _ (heap_alloc_new w _), Nat.zero_add, List.getElem?_toArray]
  exact mapB_at hi
theorem Rst.grown {w w' : World} {rp : Option Addr} {s : List Nat × Nat} (h : Rst w rp s) (hg : w.grownBy w' none) : Rst w' rp s :=
  h.below ⟨hg.os, hg.tape, hg.output, hg.size, fun k hk => hg.block k hk (by simp)⟩

theorem strOf_data (p : List Nat) : (strOf p).data.toList = p.map UInt8.ofNat := by
  have key : ∀ (p : List Nat) (s : ByteArray), ((p.map fun n : Nat => (n : Int)).foldl (fun r n => r.push (UInt8.ofNat n.toNat)) s).data.toList = s.data.toList ++ p.map UInt8.ofNat := by
    intro p
    induction p with
    | nil => intro s; simp
    | cons x t ih => intro s; simp only [List.map_cons, List.foldl_cons]; rw [ih]; simp [ByteArray.push]
  have := key p ByteArray.empty
  simpa [strOf] using this
theorem strOf_list (p : List Nat) : (strOf p).toList = p.map UInt8.ofNat := by rw [Lib.toList_data, strOf_data]

set_option maxRecDepth 100000 in
set_option maxHeartbeats 1000000 in
theorem fixed_all (w : World) : Calls Try.prog 14 #[] w fun e w' => e = .returned (.bool true) ∧ Below w.heap.size w w' := by
  have hb0 : Below w.heap.size w (w.alloc (.cells #[.int .u8 1, .int .u8 2, .int .u8 128, .int .u8 1, .int .u8 4, .int .u8 97, .int .u8 98] 5)) := (Below.refl _ _).alloc (Nat.le_refl _) _
  have hrow : RowB (w.alloc (.cells #[.int .u8 1, .int .u8 2, .int .u8 128, .int .u8 1, .int .u8 4, .int .u8 97, .int .u8 98] 5)) (some ⟨w.heap.size, 0, none⟩) [1, 2, 128, 1, 4, 97, 98] := row_lit w [1, 2, 128, 1, 4, 97, 98]
  have ho := open_any (some ⟨w.heap.size, 0, none⟩) 7 [1, 2, 128, 1, 4, 97, 98] _ hrow (fun z hz => by simp at hz; omega) (by decide) (fun e => by cases e)
  clear hrow
  go_enter Try.func14, Try.ntmps14
  go_wp2_with fail
  refine ho.mono ?_
  rintro e w1 ⟨p, rfl, hp, hs1, hb1⟩
  have hbw1 := hb0.trans (hb1.mono hb0.size)
  have hpw : w.heap.size ≤ p := Nat.le_trans hb0.size hp
  clear ho hb0 hb1
  go_wp2_with fail
  refine (take16 _ _ _ hs1).mono ?_
  rintro e w2 ⟨he, hs2, hg2⟩
  have e2 : rdOf 0 (takeFixed 2) ([1, 2, 128, 1, 4, 97, 98], 0) = (258, ([128, 1, 4, 97, 98], 0)) := by rfl
  rw [e2] at he hs2
  subst he
  have hbw2 := hbw1.grown hg2 hbw1.size (fun k e => by cases e; exact hpw)
  clear hs1 hg2 e2 hbw1
  go_wp2_with fail
  refine (int_any _ 0 64 _ _ hs2 (by omega) (by omega) (by omega) (by omega)).mono ?_
  rintro e w3 ⟨he, hs3, hg3⟩
  have e3 : rdOf 0 (takeShort 0 64) ([128, 1, 4, 97, 98], 0) = (64, ([4, 97, 98], 0)) := by rfl
  rw [e3] at he hs3
  subst he
  have hbw3 := hbw2.grown hg3 hbw2.size (fun k e => by cases e; exact hpw)
  clear hs2 hg3 e3 hbw2
  go_wp2_with fail
  refine (text_any _ 2 _ _ hs3 (by omega) (by omega)).mono ?_
  rintro e w4 ⟨he, hs4, hg4⟩
  have e4 : rdOf [] (takeCounted 2) ([4, 97, 98], 0) = ([97, 98], ([], 0)) := by rfl
  rw [e4] at he hs4
  subst he
  have hbw4 := hbw3.grown hg4 hbw3.size (fun k e => by cases e; exact hpw)
  clear hs3 hg4 e4 hbw3
  have hstr : (strOf [97, 98]).toList = [97, 98] := by rw [strOf_list]; rfl
  go_wp2_with fail
  refine (end_st _ _ _ hs4).mono ?_
  rintro e w' ⟨rfl, hq⟩
  have hq2 := hq.symm
  subst hq2
  have e5 : endOf ([], 0).1 (([] : List Nat), 0).2 = 0 := by rfl
  rw [e5]
  clear hq e5 hs4 hstr
  have hbw5 : Below w.heap.size w (w4.alloc (.cells #[.int .u8 7] 5)) := hbw4.alloc hbw4.size _
  have hr5 : RowB (w4.alloc (.cells #[.int .u8 7] 5)) (some ⟨w4.heap.size, 0, none⟩) [7] := row_lit w4 [7]
  have hp5 := put16 (some ⟨w4.heap.size, 0, none⟩) 1 258 [7] _ (by decide) hr5 (by decide) (fun e => by cases e)
  have ep : [7] ++ beP 2 258 2 = [7, 1, 2] := by rfl
  rw [ep] at hp5
  clear hr5 ep hbw4
  go_wp2_with fail
  refine hp5.mono ?_
  rintro e v5 ⟨⟨r5, rfl, ho5⟩, hb5⟩
  have hbv5 := hbw5.trans (hb5.mono hbw5.size)
  obtain ⟨a5, c5, hv5, hr5, _, _, _⟩ := ho5.row
  subst hv5
  have hbl5 : Below v5.heap.size v5 (v5.alloc (.cells #[.int .u8 7, .int .u8 1, .int .u8 2] 5)) := (Below.refl _ _).alloc (Nat.le_refl _) _
  have hq5 := equal_any a5 (some ⟨v5.heap.size, 0, none⟩) c5 3 _ [7, 1, 2] _ (hr5.below hbl5) (row_lit v5 [7, 1, 2]) (by simp [maxLen]) (by simp [maxLen])
  have hd5 : decide (([7, 1, 2] : List Nat) = [7, 1, 2]) = true := by decide
  rw [hd5] at hq5
  have hbx5 := hbv5.trans (hbl5.mono hbv5.size)
  clear hp5 ho5 hb5 hbw5 hr5 hbl5 hbv5 hd5
  go_wp2_with fail
  refine hq5.mono ?_
  rintro e u5 ⟨rfl, q5, rfl⟩
  have hby5 := below_drewN hbx5 q5
  clear hq5 hbx5
  have hp6 := putInt_any none 0 (-65) [] ((v5.alloc (.cells #[.int .u8 7, .int .u8 1, .int .u8 2] 5)).drewN q5) (by omega) (by omega) (.inl rfl) (by decide) (fun _ => ⟨rfl, rfl⟩)
  have e6 : ([] : List Nat) ++ shortL (foldI (-65)) = [129, 1] := by
    rw [show foldI (-65) = 129 by rfl, shortL_high (by decide), shortL_low (by decide)]; rfl
  rw [e6] at hp6
  have hbw6 := hby5
  clear e6 hby5
  go_wp2_with fail
  refine hp6.mono ?_
  rintro e v6 ⟨⟨r6, rfl, ho6⟩, hb6⟩
  have hbv6 := hbw6.trans (hb6.mono hbw6.size)
  obtain ⟨a6, c6, hv6, hr6, _, _, _⟩ := ho6.row
  subst hv6
  have hbl6 : Below v6.heap.size v6 (v6.alloc (.cells #[.int .u8 129, .int .u8 1] 5)) := (Below.refl _ _).alloc (Nat.le_refl _) _
  have hq6 := equal_any a6 (some ⟨v6.heap.size, 0, none⟩) c6 2 _ [129, 1] _ (hr6.below hbl6) (row_lit v6 [129, 1]) (by simp [maxLen]) (by simp [maxLen])
  have hd6 : decide (([129, 1] : List Nat) = [129, 1]) = true := by decide
  rw [hd6] at hq6
  have hbx6 := hbv6.trans (hbl6.mono hbv6.size)
  clear hp6 ho6 hb6 hbw6 hr6 hbl6 hbv6 hd6
  go_wp2_with fail
  refine hq6.mono ?_
  rintro e u6 ⟨rfl, q6, rfl⟩
  have hby6 := below_drewN hbx6 q6
  clear hq6 hbx6
  have hp7 := putText_any none 0 ⟨#[97]⟩ [] ((v6.alloc (.cells #[.int .u8 129, .int .u8 1] 5)).drewN q6) (.inl rfl) (by decide) (fun _ => ⟨rfl, rfl⟩)
  have e7 : ([] : List Nat) ++ shortL (2 * (⟨#[97]⟩ : ByteArray).size) ++ strNat ⟨#[97]⟩ = [2, 97] := by
    rw [show 2 * (⟨#[97]⟩ : ByteArray).size = 2 by rfl, shortL_low (by decide)]; rfl
  rw [e7] at hp7
  have hbw7 := hby6
  clear e7 hby6
  go_wp2_with fail
  refine hp7.mono ?_
  rintro e v7 ⟨⟨r7, rfl, ho7⟩, hb7⟩
  have hbv7 := hbw7.trans (hb7.mono hbw7.size)
  obtain ⟨a7, c7, hv7, hr7, _, _, _⟩ := ho7.row
  subst hv7
  have hbl7 : Below v7.heap.size v7 (v7.alloc (.cells #[.int .u8 2, .int .u8 97] 5)) := (Below.refl _ _).alloc (Nat.le_refl _) _
  have hq7 := equal_any a7 (some ⟨v7.heap.size, 0, none⟩) c7 2 _ [2, 97] _ (hr7.below hbl7) (row_lit v7 [2, 97]) (by simp [maxLen]) (by simp [maxLen])
  have hd7 : decide (([2, 97] : List Nat) = [2, 97]) = true := by decide
  rw [hd7] at hq7
  have hbx7 := hbv7.trans (hbl7.mono hbv7.size)
  clear hp7 ho7 hb7 hbw7 hr7 hbl7 hbv7 hd7
  go_wp2_with fail
  refine hq7.mono ?_
  rintro e u7 ⟨rfl, q7, rfl⟩
  have hby7 := below_drewN hbx7 q7
  clear hq7 hbx7
  have hbw8 : Below w.heap.size w (((v7.alloc (.cells #[.int .u8 2, .int .u8 97] 5)).drewN q7).alloc (.cells #[.int .u8 5] 5)) := hby7.alloc hby7.size _
  have hp8 := putBytes_any none (some ⟨((v7.alloc (.cells #[.int .u8 2, .int .u8 97] 5)).drewN q7).heap.size, 0, none⟩) 0 1 [] [5] _ (.inl rfl) (row_lit ((v7.alloc (.cells #[.int .u8 2, .int .u8 97] 5)).drewN q7) [5]) (by decide) (fun _ => ⟨rfl, rfl⟩) (fun e => by cases e)
  have e9 : ((v7.alloc (.cells #[.int .u8 2, .int .u8 97] 5)).drewN q7).heap.size = v7.heap.size + 1 := by simp
  rw [e9] at hp8
  have e8 : ([] : List Nat) ++ shortL (2 * [5].length) ++ [5] = [2, 5] := by
    rw [show 2 * [5].length = 2 by rfl, shortL_low (by decide)]; rfl
  rw [e8] at hp8
  clear e8 hby7 e9
  go_wp2_with fail
  refine hp8.mono ?_
  rintro e v8 ⟨⟨r8, rfl, ho8⟩, hb8⟩
  have hbv8 := hbw8.trans (hb8.mono hbw8.size)
  obtain ⟨a8, c8, hv8, hr8, _, _, _⟩ := ho8.row
  subst hv8
  have hbl8 : Below v8.heap.size v8 (v8.alloc (.cells #[.int .u8 2, .int .u8 5] 5)) := (Below.refl _ _).alloc (Nat.le_refl _) _
  have hq8 := equal_any a8 (some ⟨v8.heap.size, 0, none⟩) c8 2 _ [2, 5] _ (hr8.below hbl8) (row_lit v8 [2, 5]) (by simp [maxLen]) (by simp [maxLen])
  have hd8 : decide (([2, 5] : List Nat) = [2, 5]) = true := by decide
  rw [hd8] at hq8
  have hbx8 := hbv8.trans (hbl8.mono hbv8.size)
  clear hp8 ho8 hb8 hbw8 hr8 hbl8 hbv8 hd8
  go_wp2_with fail
  refine hq8.mono ?_
  rintro e u8 ⟨rfl, q8, rfl⟩
  have hby8 := below_drewN hbx8 q8
  clear hq8 hbx8
  go_wp2_with fail
  go_ret
  exact ⟨rfl, hby8⟩
end Go.Proofs.Ytfhinodieghklab

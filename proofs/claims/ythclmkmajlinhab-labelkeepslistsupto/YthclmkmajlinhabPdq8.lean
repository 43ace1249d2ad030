/- Small things that the library's sort calls: the length of a number in bits, a power of two, a number at random. -/
import Derived.Test.YthclmkmajlinhabPdq7
import Derived.Lib.BitFns
import Derived.Lib.Strings
import Derived.Lib.Small
import Derived.Lib.Walk
import Derived.Laws.Bits64
import Derived.Laws.Bits64b
import Derived.Sort.Row
namespace Go.Proofs.Ythclmkmajlinhab
open Go.RowKit

theorem byte_get (t : ByteArray) (i : Nat) (h : i < t.size) : ((t[i].toNat : Nat) : Int) = (((t[i]?).getD 0).toNat : Nat) := by
  rw [getElem?_pos t i h, Option.getD_some]
theorem len_part (k x y : Nat) (b : Int) (s : Lib.bitLen x = k + Lib.bitLen y) (hb : b = (y : Int)) (h8 : b < 256) : Lib.len8 b = ((Lib.bitLen x - k : Nat) : Int) ∧ k ≤ Lib.bitLen x ∧ Lib.bitLen x ≤ k + 8 := by
  have e := Lib.len8_of b (by omega) (by omega)
  have l := Lib.bitLen_le8' b (by omega) (by omega)
  have ht : b.toNat = y := by omega
  rw [ht] at e l
  exact ⟨by rw [e]; omega, by omega, by omega⟩
theorem wrap_part (k L : Nat) (h1 : k ≤ L) (h2 : L ≤ k + 8) (h3 : k ≤ 56) : wrap64 ((k : Int) + wrap64 ((L - k : Nat) : Int)) = (L : Int) := by
  unfold wrap64
  omega
theorem len_end (k T x y : Nat) (b : Int) (s : Lib.bitLen x = k + Lib.bitLen y) (hb : b = (y : Int)) (hb8 : b < 256) (hk6 : k ≤ 56) (e : (T : Int) = Lib.len8 b) : wrap64 ((k : Int) + wrap64 (T : Int)) = ((Lib.bitLen x : Nat) : Int) := by
  have hp := len_part k x y b s hb hb8
  rw [e, hp.1]
  exact wrap_part k _ hp.2.1 hp.2.2 hk6

set_option maxHeartbeats 4000000 in
set_option maxRecDepth 100000 in
theorem len64_int (x : Int) (w : World) (h0 : 0 ≤ x) (h1 : x ≤ 18446744073709551615) : Calls Try.prog 56 #[.int .u64 x] w fun e w' => e = .returned (.int .i64 ((Lib.bitLen x.toNat : Nat) : Int)) ∧ w' = w := by
  have hu := Lib.len8tab_size
  go_enter Try.func56, Try.ntmps56
  go_wp2
  all_goals try (exfalso; omega)
  all_goals (go_ret; refine ⟨congrArg Ending.returned (congrArg (Value.int IntKind.i64) ?_), rfl⟩)
  all_goals first
    | exact len_end 56 _ _ (x.toNat / 72057594037927936) _ (Lib.bitLen_shift56 _ (by omega) (by omega)) (by omega) (by omega) (by omega) (byte_get _ _ _)
    | exact len_end 48 _ _ (x.toNat / 281474976710656) _ (Lib.bitLen_shift48 _ (by omega) (by omega)) (by omega) (by omega) (by omega) (byte_get _ _ _)
    | exact len_end 40 _ _ (x.toNat / 1099511627776) _ (Lib.bitLen_shift40 _ (by omega) (by omega)) (by omega) (by omega) (by omega) (byte_get _ _ _)
    | exact len_end 32 _ _ (x.toNat / 4294967296) _ (Lib.bitLen_shift32 _ (by omega) (by omega)) (by omega) (by omega) (by omega) (byte_get _ _ _)
    | exact len_end 24 _ _ (x.toNat / 16777216) _ (Lib.bitLen_shift24 _ (by omega) (by omega)) (by omega) (by omega) (by omega) (byte_get _ _ _)
    | exact len_end 16 _ _ (x.toNat / 65536) _ (Lib.bitLen_shift16 _ (by omega) (by omega)) (by omega) (by omega) (by omega) (byte_get _ _ _)
    | exact len_end 8 _ _ (x.toNat / 256) _ (Lib.bitLen_shift8 _ (by omega) (by omega)) (by omega) (by omega) (by omega) (byte_get _ _ _)
    | (have e := len_end 0 _ x.toNat x.toNat x (by omega) (by omega) (by omega) (by omega) (byte_get Lib.len8tab x.toNat (by omega))
       rw [← e, show ((0 : Nat) : Int) = 0 from rfl, Int.zero_add])

theorem len_int (x : Nat) (w : World) (hx : x < 18446744073709551616) : Calls Try.prog 39 #[.int .u64 (x : Int)] w fun e w' => e = .returned (.int .i64 ((Lib.bitLen x : Nat) : Int)) ∧ w' = w := by
  have h := len64_int (x : Int) w (by omega) (by omega)
  rw [Int.toNat_natCast] at h
  go_enter Try.func39, Try.ntmps39
  go_wp2_with (go_at_call 56; refine h.mono ?_; rintro e w1 ⟨rfl, rfl⟩)
  go_ret
  exact ⟨rfl, rfl⟩

theorem setCell_twice (w : World) (blk off : Nat) (v v' : Value) : (w.setCell ⟨blk, off, none⟩ v).setCell ⟨blk, off, none⟩ v' = w.setCell ⟨blk, off, none⟩ v' := by
  simp only [Go.Sort.setCell_eq, Go.Sort.mapBlock_mapBlock]
  congr 1
  funext c
  simp

set_option maxRecDepth 100000 in
set_option maxHeartbeats 2000000 in
theorem next_any (s X : Nat) (hX : X < 18446744073709551616) (t : TypeId) (w : World) (hb : w.heap[s]? = some (.cells #[.int .u64 (X : Int)] t (0, 0))) :
    Calls Try.prog 70 #[.pointer (some ⟨s, 0, none⟩)] w fun e w' => ∃ Y : Nat, Y < 18446744073709551616 ∧ e = .returned (.int .u64 (Y : Int)) ∧ w'.heap[s]? = some (.cells #[.int .u64 (Y : Int)] t (0, 0)) ∧ w.grownBy w' (some s) := by
  obtain ⟨A, hA⟩ : ∃ A : Nat, A = X ^^^ (X * 8192 % 18446744073709551616) := ⟨_, rfl⟩
  obtain ⟨B, hB⟩ : ∃ B : Nat, B = A ^^^ (A / 128) := ⟨_, rfl⟩
  obtain ⟨C, hC⟩ : ∃ C : Nat, C = B ^^^ (B * 131072 % 18446744073709551616) := ⟨_, rfl⟩
  have lA : A < 18446744073709551616 := by rw [hA]; exact Nat.xor_lt_two_pow (n := 64) (by omega) (by omega)
  have lB : B < 18446744073709551616 := by rw [hB]; exact Nat.xor_lt_two_pow (n := 64) (by omega) (by omega)
  have lC : C < 18446744073709551616 := by rw [hC]; exact Nat.xor_lt_two_pow (n := 64) (by omega) (by omega)
  have e1 : bits .xor .u64 (X : Int) (IntKind.u64.wrap ((X : Int) * 8192)) = (A : Int) := by
    rw [IntKind.wrap_u64, show ((X : Int) * 8192 % 18446744073709551616) = ((X * 8192 % 18446744073709551616 : Nat) : Int) by omega, bits_xor_u64_nat _ _ hX (by omega), hA]
  have e2 : bits .xor .u64 (A : Int) ((A : Int) / 128) = (B : Int) := by
    rw [show ((A : Int) / 128) = ((A / 128 : Nat) : Int) by omega, bits_xor_u64_nat _ _ lA (by omega), hB]
  have e3 : bits .xor .u64 (B : Int) (IntKind.u64.wrap ((B : Int) * 131072)) = (C : Int) := by
    rw [IntKind.wrap_u64, show ((B : Int) * 131072 % 18446744073709551616) = ((B * 131072 % 18446744073709551616 : Nat) : Int) by omega, bits_xor_u64_nat _ _ lB (by omega), hC]
  have hc : w.cell? ⟨s, 0, none⟩ = some (.int .u64 (X : Int)) := by rw [cell_of_row _ _ _ _ _ _ hb]; rfl
  have hf := frozen_of_row w s 0 _ _ hb
  have hn := heap_setCell_same w s 0 _ _ (.int .u64 (C : Int)) hb
  have HN := hide_it hn
  have hss : ∀ v v', (w.setCell ⟨s, 0, none⟩ v).setCell ⟨s, 0, none⟩ v' = w.setCell ⟨s, 0, none⟩ v' := setCell_twice w s 0
  clear hA hB hC hb hn
  go_enter Try.func70, Try.ntmps70
  go_wp2
  go_region
  all_goals go_wp2
  all_goals go_region
  all_goals go_wp2
  all_goals go_region
  all_goals go_wp2
  go_ret
  exact ⟨C, lC, rfl, HN.out, grown_drewN (grown_set (World.grownBy.refl _ _) _ _) 3⟩

end Go.Proofs.Ythclmkmajlinhab

/- Numbers of 32 bits laid down as bytes, the highest first; a text of bytes. -/
import Derived.Test.YtlhlpofmeeiffabBt1
import Derived.Lib.AppendStr
import Derived.Lib.ConvBytes
namespace Go.Proofs.Ytlhlpofmeeiffab
open Go.RowKit

set_option maxRecDepth 100000 in
set_option maxHeartbeats 400000 in
theorem withRoom_any (a : Option Addr) (cap more : Nat) (zs : List Nat) (w : World) (hr : RowB w a zs) (hl : zs.length + more ≤ 140737488355328) (hnil : a = none → zs.length = 0 ∧ cap = 0) :
    Calls Try.prog 43 #[.slice a zs.length cap, .int .i64 (more : Int)] w fun e w' => (∃ v, e = .returned v ∧ OwnB w' w.heap.size v zs) ∧ Below w.heap.size w w' := by
  obtain ⟨i0, hi, hz0, hz1, hz2⟩ := info_parts infoB
  cases a with
  | none =>
    obtain ⟨h1, h2⟩ := hnil rfl
    have hzs : zs = [] := List.eq_nil_of_length_eq_zero h1
    subst hzs
    subst h2
    go_enter Try.func43, Try.ntmps43
    go_wp2_with (first | (refine wpList_make_own _ rfl _ _ 22 rfl w.heap.size 5 i0 (.int .u8 0) 1 Try.underlying22 hi hz0 hz1 .i64 .i64 _ more rfl rfl (by simp) (by rw [hz2]; simp at hl; omega) (by unfold maxLen; simp at hl; omega) (Nat.le_refl _) ?_; intro w1 hown1 hg1) | (at_builtin; refine wpList_append_own_none rfl _ _ 22 rfl w.heap.size 5 i0 1 Try.underlying22 hi _ 0 [] rfl hown1 rfl ?_))
    go_ret
    exact ⟨⟨_, rfl, hown1⟩, (Below.refl _ _).grown hg1 (Nat.le_refl _) (fun j e => by cases e)⟩
  | some ad =>
    have hnews : ∀ w1 : World, Below w.heap.size w w1 → ∀ j u, (zs.map encB)[j]? = some u → w1.cell? (ad.add j) = some u := fun w1 hb j u hu => by
      have hj : j < zs.length := by have := (List.getElem?_eq_some_iff.1 hu).1; simpa using this
      obtain ⟨b, o, e, hlt, hc⟩ := hr.here hj
      cases e
      rw [Addr.add_lit, hb.cell (p := ⟨b, o + j, none⟩) hlt, hc j hj]
      exact (mapB_at hj).symm.trans hu
    have hone : ∀ u ∈ zs.map encB, u.oneCell' = true := fun u hu => by
      obtain ⟨z, _, rfl⟩ := List.mem_map.1 hu
      rfl
    have hlm : (zs.map encB).length = zs.length * 1 := by simp
    clear hr
    go_enter Try.func43, Try.ntmps43
    go_wp2_with (first | (refine wpList_make_own _ rfl _ _ 22 rfl w.heap.size 5 i0 (.int .u8 0) 1 Try.underlying22 hi hz0 hz1 .i64 .i64 _ (zs.length + more) rfl rfl (by simp) (by rw [hz2]; omega) (by unfold maxLen; omega) (Nat.le_refl _) ?_; intro w1 hown1 hg1; have hb1 : Below w.heap.size w w1 := (Below.refl _ _).grown hg1 (Nat.le_refl _) (fun j e => by cases e)) | (at_builtin; refine wpList_append_own_at _ rfl _ _ 22 rfl w.heap.size 5 i0 (.int .u8 0) 1 1 Try.underlying22 hi hz0 hz1 hz2 rfl (by omega) _ _ _ rfl hown1 ad zs.length cap (zs.map encB) rfl hlm (hnews _ hb1) hone (by unfold maxLen; omega) (by omega) hb1.size ?_; intro v4 w4 hown4 hgrow4 hnil4 hat4))
    go_ret
    exact ⟨⟨v4, rfl, by simpa [OwnB] using hown4⟩, hb1.grown hgrow4 hb1.size (fun j e => by cases e; exact Nat.le_refl _)⟩

/-- The highest j of W bytes of v. -/
def beP (W v j : Nat) : List Nat := (List.range j).map fun t => v / 256 ^ (W - 1 - t) % 256

theorem beP_succ (W v j : Nat) : beP W v (j + 1) = beP W v j ++ [v / 256 ^ (W - 1 - j) % 256] := by simp [beP, List.range_succ]

theorem beP_len (W v j : Nat) : (beP W v j).length = j := by simp [beP]

theorem beP_step {W v n : Nat} (h : n < W) : beP W v (W - n) = beP W v (W - (n + 1)) ++ [v / 256 ^ n % 256] := by
  have e : W - n = (W - (n + 1)) + 1 := by omega
  have e2 : W - 1 - (W - (n + 1)) = n := by omega
  rw [e, beP_succ, e2]

theorem pow8 (n : Nat) : (2 : Nat) ^ (8 * n) = 256 ^ n := by rw [Nat.pow_mul]

set_option maxRecDepth 100000 in
set_option maxHeartbeats 400000 in
theorem len64_1 (w : World) : Calls Try.prog 52 #[.int .u64 255] w fun e w' => e = .returned (.int .i64 8) ∧ w' = w := by
  go_enter Try.func52, Try.ntmps52
  go_wp2
  go_ret
  exact ⟨by kernel_rfl, rfl⟩


set_option maxRecDepth 100000 in
set_option maxHeartbeats 400000 in
theorem width8 (w : World) : Calls Try.prog 42 #[] w fun e w' => e = .returned (.int .i64 1) ∧ w' = w := by
  go_enter Try.func42, Try.ntmps42
  go_wp2_with (go_at_call 52; refine (len64_1 _).mono ?_; rintro e w' ⟨rfl, rfl⟩)
  all_goals go_ret
  all_goals exact ⟨rfl, rfl⟩



/-- A text's bytes as numbers. -/
def strNat (s : ByteArray) : List Nat := s.data.toList.map UInt8.toNat

theorem strNat_len (s : ByteArray) : (strNat s).length = s.size := by simp [strNat]

theorem strCells_nat (s : ByteArray) : Lib.strCells s = (strNat s).map encB := by
  simp [Lib.strCells, strNat, encB]

theorem bytes_row (w : World) (s : ByteArray) : RowB (Lib.bytesWorld w 5 s) (some ⟨w.heap.size, 0, none⟩) (strNat s) := by
  refine .inr ⟨w.heap.size, 0, rfl, by rw [Lib.bytesWorld_size]; omega, fun i hi => ?_⟩
  rw [strNat_len] at hi
  rw [Nat.zero_add, Lib.bytesWorld_cell w _ s i hi]
  have h2 : i < s.data.toList.length := by simpa using hi
  unfold at0 strNat
  rw [List.getD_eq_getElem?_getD, List.getD_eq_getElem?_getD, List.getElem?_map, List.getElem?_eq_getElem h2]
  rfl

theorem bytes_below (w : World) (s : ByteArray) : Below w.heap.size w (Lib.bytesWorld w 5 s) :=
  ⟨rfl, rfl, rfl, by rw [Lib.bytesWorld_size]; omega, fun k hk => Lib.bytesWorld_at_old w _ s k hk⟩

end Go.Proofs.Ytlhlpofmeeiffab

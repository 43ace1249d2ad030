/- Numbers of a fixed width laid down as bytes, the highest first: the program's Put at each kind, and the document's. -/
import Derived.Test.YtfhinodieghklabBy1
namespace Go.Proofs.Ytfhinodieghklab
open Go.RowKit

/-- The highest j of W bytes of v. -/
def beP (W v j : Nat) : List Nat := (List.range j).map fun t => v / 256 ^ (W - 1 - t) % 256
theorem beP_succ (W v j : Nat) : beP W v (j + 1) = beP W v j ++ [v / 256 ^ (W - 1 - j) % 256] := by simp [beP, List.range_succ]
theorem beP_len (W v j : Nat) : (beP W v j).length = j := by simp [beP]
theorem beP_step {W v n : Nat} (h : n < W) : beP W v (W - n) = beP W v (W - (n + 1)) ++ [v / 256 ^ n % 256] := by
  have e : W - n = (W - (n + 1)) + 1 := by omega
  have e2 : W - 1 - (W - (n + 1)) = n := by omega
  rw [e, beP_succ, e2]
theorem OwnB.snoc {w : World} {base : Nat} {v : Value} {zs : List Nat} {x : Nat} (h : w.ownsRow base 5 1 v (zs.length + 1) (zs.map encB ++ [.int .u8 (x : Int)])) : OwnB w base v (zs ++ [x]) := by
  unfold OwnB; simpa [encB] using h
theorem wrap_byte (y : Nat) : IntKind.u8.wrap (y : Int) = ((y % 256 : Nat) : Int) := by
  simp [IntKind.wrap, IntKind.bits, IntKind.signed]
theorem pow8 (n : Nat) : (2 : Nat) ^ (8 * n) = 256 ^ n := by rw [Nat.pow_mul]


set_option maxRecDepth 100000 in
set_option maxHeartbeats 400000 in
theorem len64_1 (w : World) : Calls Try.prog 74 #[.int .u64 255] w fun e w' => e = .returned (.int .i64 8) ∧ w' = w := by
  go_enter Try.func74, Try.ntmps74
  go_wp2
  go_ret
  exact ⟨by kernel_rfl, rfl⟩

set_option maxRecDepth 100000 in
set_option maxHeartbeats 400000 in
theorem len64_2 (w : World) : Calls Try.prog 74 #[.int .u64 65535] w fun e w' => e = .returned (.int .i64 16) ∧ w' = w := by
  go_enter Try.func74, Try.ntmps74
  go_wp2
  go_ret
  exact ⟨by kernel_rfl, rfl⟩

set_option maxRecDepth 100000 in
set_option maxHeartbeats 400000 in
theorem len64_4 (w : World) : Calls Try.prog 74 #[.int .u64 4294967295] w fun e w' => e = .returned (.int .i64 32) ∧ w' = w := by
  go_enter Try.func74, Try.ntmps74
  go_wp2
  go_ret
  exact ⟨by kernel_rfl, rfl⟩

set_option maxRecDepth 100000 in
set_option maxHeartbeats 400000 in
theorem len64_8 (w : World) : Calls Try.prog 74 #[.int .u64 18446744073709551615] w fun e w' => e = .returned (.int .i64 64) ∧ w' = w := by
  go_enter Try.func74, Try.ntmps74
  go_wp2
  go_ret
  exact ⟨by kernel_rfl, rfl⟩

set_option maxRecDepth 100000 in
set_option maxHeartbeats 400000 in
theorem width8 (w : World) : Calls Try.prog 55 #[] w fun e w' => e = .returned (.int .i64 1) ∧ w' = w := by
  go_enter Try.func55, Try.ntmps55
  go_wp2_with (go_at_call 74; refine (len64_1 _).mono ?_; rintro e w' ⟨rfl, rfl⟩)
  all_goals go_ret
  all_goals exact ⟨rfl, rfl⟩

set_option maxRecDepth 100000 in
set_option maxHeartbeats 400000 in
theorem width16 (w : World) : Calls Try.prog 54 #[] w fun e w' => e = .returned (.int .i64 2) ∧ w' = w := by
  go_enter Try.func54, Try.ntmps54
  go_wp2_with (go_at_call 74; refine (len64_2 _).mono ?_; rintro e w' ⟨rfl, rfl⟩)
  all_goals go_ret
  all_goals exact ⟨rfl, rfl⟩

set_option maxRecDepth 100000 in
set_option maxHeartbeats 400000 in
theorem widthw (w : World) : Calls Try.prog 79 #[] w fun e w' => e = .returned (.int .i64 2) ∧ w' = w := by
  go_enter Try.func79, Try.ntmps79
  go_wp2_with (go_at_call 74; refine (len64_2 _).mono ?_; rintro e w' ⟨rfl, rfl⟩)
  all_goals go_ret
  all_goals exact ⟨rfl, rfl⟩

set_option maxRecDepth 100000 in
set_option maxHeartbeats 400000 in
theorem width32 (w : World) : Calls Try.prog 51 #[] w fun e w' => e = .returned (.int .i64 4) ∧ w' = w := by
  go_enter Try.func51, Try.ntmps51
  go_wp2_with (go_at_call 74; refine (len64_4 _).mono ?_; rintro e w' ⟨rfl, rfl⟩)
  all_goals go_ret
  all_goals exact ⟨rfl, rfl⟩

set_option maxRecDepth 100000 in
set_option maxHeartbeats 400000 in
theorem width64 (w : World) : Calls Try.prog 53 #[] w fun e w' => e = .returned (.int .i64 8) ∧ w' = w := by
  go_enter Try.func53, Try.ntmps53
  go_wp2_with (go_at_call 74; refine (len64_8 _).mono ?_; rintro e w' ⟨rfl, rfl⟩)
  all_goals go_ret
  all_goals exact ⟨rfl, rfl⟩

set_option maxRecDepth 100000 in
set_option maxHeartbeats 400000 in
theorem put8 (a : Option Addr) (cap v : Nat) (zs : List Nat) (w : World) (hv : v < 256) (hr : RowB w a zs) (hl : zs.length + 8 ≤ 140737488355328) (hnil : a = none → zs.length = 0 ∧ cap = 0) :
    Calls Try.prog 27 #[.slice a zs.length cap, .int .u8 (v : Int)] w fun e w' => (∃ r, e = .returned r ∧ OwnB w' w.heap.size r (zs ++ beP 1 v 1)) ∧ Below w.heap.size w w' := by
  obtain ⟨i0, hi, hz0, hz1, hz2⟩ := info_parts infoB
  go_enter Try.func27, Try.ntmps27
  go_wp2_with (first | (go_at_call 55; refine (width8 _).mono ?_; rintro e w' ⟨rfl, hq⟩; have hq2 := hq.symm; subst hq2; clear hq) | (go_at_call 44; refine (withRoom_any a cap 1 zs _ hr (by omega) hnil).mono ?_; rintro e w1 ⟨⟨v1, rfl, hown1⟩, hb1⟩))
  clear hr hnil
  go_loopw [6, 7] (fun r i wr => ∃ m : Nat, m ≤ 1 ∧ i = .int .i64 ((m : Int) - 1) ∧ OwnB wr w.heap.size r (zs ++ beP 1 v (1 - m)) ∧ Below w.heap.size w wr) (fun _ i _ => (intOf i + 1).toNat)
  case atStart => exact ⟨1, by omega, rfl, by simpa [beP] using hown1, hb1⟩
  case round =>
    obtain ⟨m, hm, rfl, hown, hbl⟩ := hrel
    clear hown1 hb1
    cases m with
    | zero =>
      go_wp2
      go_ret
      exact ⟨⟨_, rfl, hown⟩, hbl⟩
    | succ n =>
      have e1 : (((n + 1 : Nat) : Int) - 1) = (n : Int) := by omega
      rw [e1]
      have hbs := hbl.size
      have hlen : (zs ++ beP 1 v (1 - (n + 1))).length ≤ zs.length + 0 := by simp [beP_len] <;> omega
      have HS := hide_it (beP_step (v := v) (W := 1) (n := n) (by omega))
      obtain ⟨y, hy⟩ : ∃ y, y = v / 256 ^ n := ⟨_, rfl⟩
      have hyl : y < 256 := by rw [hy]; exact Nat.lt_of_le_of_lt (Nat.div_le_self _ _) hv
      have hsh : (v : Int) / 2 ^ (8 * n) = (y : Int) := by rw [hy, ← pow8]; simp
      obtain ⟨x, hx⟩ : ∃ x, x = y % 256 := ⟨_, rfl⟩
      rw [← hy, ← hx] at HS
      have hwr : IntKind.u8.wrap (y : Int) = (x : Int) := by rw [hx]; exact wrap_byte y
      have hx8 : x < 256 := by omega
      obtain rfl : x = y := by omega
      have hn8 : (8 : Int) * (n : Int) ≤ 64 := by omega
      have how := hown
      have hone : ∀ u ∈ [Value.int .u8 (x : Int)], u.oneCell' = true := by simp [Value.oneCell']
      clear hown
      try clear hx
      try clear hy
      go_wp2_with (at_builtin; refine wpList_append_own_at _ rfl _ _ 23 rfl w.heap.size 5 i0 (.int .u8 0) 1 1 Try.underlying23 hi hz0 hz1 hz2 rfl (by omega) _ _ _ rfl (how.alloc _) ⟨wr.heap.size, 0, none⟩ 1 1 [.int .u8 (x : Int)] rfl rfl (cell_one_new _ _ _) hone (by unfold maxLen; omega) (by omega) (by simp; omega) ?_; intro v4 w4 hown4 hgrow4 hnil4 hat4)
      go_roundw
      case rel =>
        refine ⟨n, by omega, by go_num, ?_, (hbl.alloc hbs _).grown hgrow4 (by simp; omega) (fun j e => how.ge e)⟩
        rw [HS.out, ← List.append_assoc]
        exact OwnB.snoc hown4
      case measure => simp [intOf] <;> omega

set_option maxRecDepth 100000 in
set_option maxHeartbeats 400000 in
theorem put16 (a : Option Addr) (cap v : Nat) (zs : List Nat) (w : World) (hv : v < 65536) (hr : RowB w a zs) (hl : zs.length + 8 ≤ 140737488355328) (hnil : a = none → zs.length = 0 ∧ cap = 0) :
    Calls Try.prog 26 #[.slice a zs.length cap, .int .u16 (v : Int)] w fun e w' => (∃ r, e = .returned r ∧ OwnB w' w.heap.size r (zs ++ beP 2 v 2)) ∧ Below w.heap.size w w' := by
  obtain ⟨i0, hi, hz0, hz1, hz2⟩ := info_parts infoB
  go_enter Try.func26, Try.ntmps26
  go_wp2_with (first | (go_at_call 54; refine (width16 _).mono ?_; rintro e w' ⟨rfl, hq⟩; have hq2 := hq.symm; subst hq2; clear hq) | (go_at_call 44; refine (withRoom_any a cap 2 zs _ hr (by omega) hnil).mono ?_; rintro e w1 ⟨⟨v1, rfl, hown1⟩, hb1⟩))
  clear hr hnil
  go_loopw [6, 7] (fun r i wr => ∃ m : Nat, m ≤ 2 ∧ i = .int .i64 ((m : Int) - 1) ∧ OwnB wr w.heap.size r (zs ++ beP 2 v (2 - m)) ∧ Below w.heap.size w wr) (fun _ i _ => (intOf i + 1).toNat)
  case atStart => exact ⟨2, by omega, rfl, by simpa [beP] using hown1, hb1⟩
  case round =>
    obtain ⟨m, hm, rfl, hown, hbl⟩ := hrel
    clear hown1 hb1
    cases m with
    | zero =>
      go_wp2
      go_ret
      exact ⟨⟨_, rfl, hown⟩, hbl⟩
    | succ n =>
      have e1 : (((n + 1 : Nat) : Int) - 1) = (n : Int) := by omega
      rw [e1]
      have hbs := hbl.size
      have hlen : (zs ++ beP 2 v (2 - (n + 1))).length ≤ zs.length + 1 := by simp [beP_len] <;> omega
      have HS := hide_it (beP_step (v := v) (W := 2) (n := n) (by omega))
      obtain ⟨y, hy⟩ : ∃ y, y = v / 256 ^ n := ⟨_, rfl⟩
      have hyl : y < 65536 := by rw [hy]; exact Nat.lt_of_le_of_lt (Nat.div_le_self _ _) hv
      have hsh : (v : Int) / 2 ^ (8 * n) = (y : Int) := by rw [hy, ← pow8]; simp
      obtain ⟨x, hx⟩ : ∃ x, x = y % 256 := ⟨_, rfl⟩
      rw [← hy, ← hx] at HS
      have hwr : IntKind.u8.wrap (y : Int) = (x : Int) := by rw [hx]; exact wrap_byte y
      have hx8 : x < 256 := by omega
      have hn8 : (8 : Int) * (n : Int) ≤ 64 := by omega
      have how := hown
      have hone : ∀ u ∈ [Value.int .u8 (x : Int)], u.oneCell' = true := by simp [Value.oneCell']
      clear hown
      try clear hx
      try clear hy
      go_wp2_with (at_builtin; refine wpList_append_own_at _ rfl _ _ 23 rfl w.heap.size 5 i0 (.int .u8 0) 1 1 Try.underlying23 hi hz0 hz1 hz2 rfl (by omega) _ _ _ rfl (how.alloc _) ⟨wr.heap.size, 0, none⟩ 1 1 [.int .u8 (x : Int)] rfl rfl (cell_one_new _ _ _) hone (by unfold maxLen; omega) (by omega) (by simp; omega) ?_; intro v4 w4 hown4 hgrow4 hnil4 hat4)
      go_roundw
      case rel =>
        refine ⟨n, by omega, by go_num, ?_, (hbl.alloc hbs _).grown hgrow4 (by simp; omega) (fun j e => how.ge e)⟩
        rw [HS.out, ← List.append_assoc]
        exact OwnB.snoc hown4
      case measure => simp [intOf] <;> omega

set_option maxRecDepth 100000 in
set_option maxHeartbeats 400000 in
theorem put32 (a : Option Addr) (cap v : Nat) (zs : List Nat) (w : World) (hv : v < 4294967296) (hr : RowB w a zs) (hl : zs.length + 8 ≤ 140737488355328) (hnil : a = none → zs.length = 0 ∧ cap = 0) :
    Calls Try.prog 22 #[.slice a zs.length cap, .int .u32 (v : Int)] w fun e w' => (∃ r, e = .returned r ∧ OwnB w' w.heap.size r (zs ++ beP 4 v 4)) ∧ Below w.heap.size w w' := by
  obtain ⟨i0, hi, hz0, hz1, hz2⟩ := info_parts infoB
  go_enter Try.func22, Try.ntmps22
  go_wp2_with (first | (go_at_call 51; refine (width32 _).mono ?_; rintro e w' ⟨rfl, hq⟩; have hq2 := hq.symm; subst hq2; clear hq) | (go_at_call 44; refine (withRoom_any a cap 4 zs _ hr (by omega) hnil).mono ?_; rintro e w1 ⟨⟨v1, rfl, hown1⟩, hb1⟩))
  clear hr hnil
  go_loopw [6, 7] (fun r i wr => ∃ m : Nat, m ≤ 4 ∧ i = .int .i64 ((m : Int) - 1) ∧ OwnB wr w.heap.size r (zs ++ beP 4 v (4 - m)) ∧ Below w.heap.size w wr) (fun _ i _ => (intOf i + 1).toNat)
  case atStart => exact ⟨4, by omega, rfl, by simpa [beP] using hown1, hb1⟩
  case round =>
    obtain ⟨m, hm, rfl, hown, hbl⟩ := hrel
    clear hown1 hb1
    cases m with
    | zero =>
      go_wp2
      go_ret
      exact ⟨⟨_, rfl, hown⟩, hbl⟩
    | succ n =>
      have e1 : (((n + 1 : Nat) : Int) - 1) = (n : Int) := by omega
      rw [e1]
      have hbs := hbl.size
      have hlen : (zs ++ beP 4 v (4 - (n + 1))).length ≤ zs.length + 3 := by simp [beP_len] <;> omega
      have HS := hide_it (beP_step (v := v) (W := 4) (n := n) (by omega))
      obtain ⟨y, hy⟩ : ∃ y, y = v / 256 ^ n := ⟨_, rfl⟩
      have hyl : y < 4294967296 := by rw [hy]; exact Nat.lt_of_le_of_lt (Nat.div_le_self _ _) hv
      have hsh : (v : Int) / 2 ^ (8 * n) = (y : Int) := by rw [hy, ← pow8]; simp
      obtain ⟨x, hx⟩ : ∃ x, x = y % 256 := ⟨_, rfl⟩
      rw [← hy, ← hx] at HS
      have hwr : IntKind.u8.wrap (y : Int) = (x : Int) := by rw [hx]; exact wrap_byte y
      have hx8 : x < 256 := by omega
      have hn8 : (8 : Int) * (n : Int) ≤ 64 := by omega
      have how := hown
      have hone : ∀ u ∈ [Value.int .u8 (x : Int)], u.oneCell' = true := by simp [Value.oneCell']
      clear hown
      try clear hx
      try clear hy
      go_wp2_with (at_builtin; refine wpList_append_own_at _ rfl _ _ 23 rfl w.heap.size 5 i0 (.int .u8 0) 1 1 Try.underlying23 hi hz0 hz1 hz2 rfl (by omega) _ _ _ rfl (how.alloc _) ⟨wr.heap.size, 0, none⟩ 1 1 [.int .u8 (x : Int)] rfl rfl (cell_one_new _ _ _) hone (by unfold maxLen; omega) (by omega) (by simp; omega) ?_; intro v4 w4 hown4 hgrow4 hnil4 hat4)
      go_roundw
      case rel =>
        refine ⟨n, by omega, by go_num, ?_, (hbl.alloc hbs _).grown hgrow4 (by simp; omega) (fun j e => how.ge e)⟩
        rw [HS.out, ← List.append_assoc]
        exact OwnB.snoc hown4
      case measure => simp [intOf] <;> omega

set_option maxRecDepth 100000 in
set_option maxHeartbeats 400000 in
theorem put64 (a : Option Addr) (cap v : Nat) (zs : List Nat) (w : World) (hv : v < 18446744073709551616) (hr : RowB w a zs) (hl : zs.length + 8 ≤ 140737488355328) (hnil : a = none → zs.length = 0 ∧ cap = 0) :
    Calls Try.prog 24 #[.slice a zs.length cap, .int .u64 (v : Int)] w fun e w' => (∃ r, e = .returned r ∧ OwnB w' w.heap.size r (zs ++ beP 8 v 8)) ∧ Below w.heap.size w w' := by
  obtain ⟨i0, hi, hz0, hz1, hz2⟩ := info_parts infoB
  go_enter Try.func24, Try.ntmps24
  go_wp2_with (first | (go_at_call 53; refine (width64 _).mono ?_; rintro e w' ⟨rfl, hq⟩; have hq2 := hq.symm; subst hq2; clear hq) | (go_at_call 44; refine (withRoom_any a cap 8 zs _ hr (by omega) hnil).mono ?_; rintro e w1 ⟨⟨v1, rfl, hown1⟩, hb1⟩))
  clear hr hnil
  go_loopw [6, 7] (fun r i wr => ∃ m : Nat, m ≤ 8 ∧ i = .int .i64 ((m : Int) - 1) ∧ OwnB wr w.heap.size r (zs ++ beP 8 v (8 - m)) ∧ Below w.heap.size w wr) (fun _ i _ => (intOf i + 1).toNat)
  case atStart => exact ⟨8, by omega, rfl, by simpa [beP] using hown1, hb1⟩
  case round =>
    obtain ⟨m, hm, rfl, hown, hbl⟩ := hrel
    clear hown1 hb1
    cases m with
    | zero =>
      go_wp2
      go_ret
      exact ⟨⟨_, rfl, hown⟩, hbl⟩
    | succ n =>
      have e1 : (((n + 1 : Nat) : Int) - 1) = (n : Int) := by omega
      rw [e1]
      have hbs := hbl.size
      have hlen : (zs ++ beP 8 v (8 - (n + 1))).length ≤ zs.length + 7 := by simp [beP_len] <;> omega
      have HS := hide_it (beP_step (v := v) (W := 8) (n := n) (by omega))
      obtain ⟨y, hy⟩ : ∃ y, y = v / 256 ^ n := ⟨_, rfl⟩
      have hyl : y < 18446744073709551616 := by rw [hy]; exact Nat.lt_of_le_of_lt (Nat.div_le_self _ _) hv
      have hsh : (v : Int) / 2 ^ (8 * n) = (y : Int) := by rw [hy, ← pow8]; simp
      obtain ⟨x, hx⟩ : ∃ x, x = y % 256 := ⟨_, rfl⟩
      rw [← hy, ← hx] at HS
      have hwr : IntKind.u8.wrap (y : Int) = (x : Int) := by rw [hx]; exact wrap_byte y
      have hx8 : x < 256 := by omega
      have hn8 : (8 : Int) * (n : Int) ≤ 64 := by omega
      have how := hown
      have hone : ∀ u ∈ [Value.int .u8 (x : Int)], u.oneCell' = true := by simp [Value.oneCell']
      clear hown
      try clear hx
      try clear hy
      go_wp2_with (at_builtin; refine wpList_append_own_at _ rfl _ _ 23 rfl w.heap.size 5 i0 (.int .u8 0) 1 1 Try.underlying23 hi hz0 hz1 hz2 rfl (by omega) _ _ _ rfl (how.alloc _) ⟨wr.heap.size, 0, none⟩ 1 1 [.int .u8 (x : Int)] rfl rfl (cell_one_new _ _ _) hone (by unfold maxLen; omega) (by omega) (by simp; omega) ?_; intro v4 w4 hown4 hgrow4 hnil4 hat4)
      go_roundw
      case rel =>
        refine ⟨n, by omega, by go_num, ?_, (hbl.alloc hbs _).grown hgrow4 (by simp; omega) (fun j e => how.ge e)⟩
        rw [HS.out, ← List.append_assoc]
        exact OwnB.snoc hown4
      case measure => simp [intOf] <;> omega

end Go.Proofs.Ytfhinodieghklab

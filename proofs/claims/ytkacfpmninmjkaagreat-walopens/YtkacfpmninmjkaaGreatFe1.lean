/- Numbers, texts and bytes laid down: one byte, the short form, texts and bytes behind their number. Takings of a cursor: a short form, a number between bounds, bytes behind their number. A reader, whatever it is: Int, Text, Bytes, Left, End. -/
import Derived.Test.YtkacfpmninmjkaaGreatFc1
namespace Go.Proofs.YtkacfpmninmjkaaGreat
open Go.RowKit

set_option maxRecDepth 100000 in
set_option maxHeartbeats 400000 in
theorem put8 (a : Option Addr) (cap v : Nat) (zs : List Nat) (w : World) (hv : v < 256) (hr : RowB w a zs) (hl : zs.length + 8 ≤ 140737488355328) (hnil : a = none → zs.length = 0 ∧ cap = 0) :
    Calls Tryz.prog 100 #[.slice a zs.length cap, .int .u8 (v : Int)] w fun e w' => (∃ r, e = .returned r ∧ OwnB w' w.heap.size r (zs ++ beP 1 v 1)) ∧ Below w.heap.size w w' := by
  obtain ⟨i0, hi, hz0, hz1, hz2⟩ := info_parts infoB
  go_enter Tryz.func100, Tryz.ntmps100
  go_wp2_with (first | (go_at_call 120; refine (width8 _).mono ?_; rintro e w' ⟨rfl, hq⟩; have hq2 := hq.symm; subst hq2; clear hq) | (go_at_call 121; refine (withRoom_any a cap 1 zs _ hr (by omega) hnil).mono ?_; rintro e w1 ⟨⟨v1, rfl, hown1⟩, hb1⟩))
  clear hr hnil
  go_loopw [6, 7] (fun r i wr => ∃ m : Nat, m ≤ 1 ∧ i = .int .i64 ((m : Int) - 1) ∧ OwnB wr w.heap.size r (zs ++ beP 1 v (1 - m)) ∧ Below w.heap.size w wr) (fun _ i _ => (intOf i + 1).toNat)
  case atStart => exact ⟨1, by omega, rfl, by simpa [beP] using hown1, hb1⟩
  case round =>
    obtain ⟨m, hm, rfl, hown, hbl⟩ := hrel
    clear hown1 hb1
    cases m with
    | zero =>
      go_wp2
      go_ret
      exact ⟨⟨_, rfl, hown⟩, hbl⟩
    | succ n =>
      have e1 : (((n + 1 : Nat) : Int) - 1) = (n : Int) := by omega
      rw [e1]
      have hbs := hbl.size
      have hlen : (zs ++ beP 1 v (1 - (n + 1))).length ≤ zs.length + 0 := by simp [beP_len] <;> omega
      have HS := hide_it (beP_step (v := v) (W := 1) (n := n) (by omega))
      obtain ⟨y, hy⟩ : ∃ y, y = v / 256 ^ n := ⟨_, rfl⟩
      have hyl : y < 256 := by rw [hy]; exact Nat.lt_of_le_of_lt (Nat.div_le_self _ _) hv
      have hsh : (v : Int) / 2 ^ (8 * n) = (y : Int) := by rw [hy, ← pow8]; simp
      obtain ⟨x, hx⟩ : ∃ x, x = y % 256 := ⟨_, rfl⟩
      rw [← hy, ← hx] at HS
      have hwr : IntKind.u8.wrap (y : Int) = (x : Int) := by rw [hx]; exact wrap_byte y
      have hx8 : x < 256 := by omega
      obtain rfl : x = y := by omega
      have hn8 : (8 : Int) * (n : Int) ≤ 64 := by omega
      have how := hown
      have hone : ∀ u ∈ [Value.int .u8 (x : Int)], u.oneCell' = true := by simp [Value.oneCell']
      clear hown
      try clear hx
      try clear hy
      go_wp2_with (at_builtin; refine wpList_append_own_at _ rfl _ _ 39 rfl w.heap.size 5 i0 (.int .u8 0) 1 1 Tryz.underlying39 hi hz0 hz1 hz2 rfl (by omega) _ _ _ rfl (how.alloc _) ⟨wr.heap.size, 0, none⟩ 1 1 [.int .u8 (x : Int)] rfl rfl (cell_one_new _ _ _) hone (by unfold maxLen; omega) (by omega) (by simp; omega) ?_; intro v4 w4 hown4 hgrow4 hnil4 hat4)
      go_roundw
      case rel =>
        refine ⟨n, by omega, by go_num, ?_, (hbl.alloc hbs _).grown hgrow4 (by simp; omega) (fun j e => how.ge e)⟩
        rw [HS.out, ← List.append_assoc]
        exact OwnB.snoc hown4
      case measure => simp [intOf] <;> omega

/-- The fold of an int. -/
def foldI (n : Int) : Nat := if n < 0 then (-2 * n - 1).toNat else (2 * n).toNat

/-- The short form of a fold. -/
def shortL (f : Nat) : List Nat := if f < 128 then [f] else (f % 128 + 128) :: shortL (f / 128)
termination_by f
decreasing_by omega

theorem shortL_low {f : Nat} (h : f < 128) : shortL f = [f] := by rw [shortL, if_pos h]

theorem shortL_high {f : Nat} (h : ¬ f < 128) : shortL f = (f % 128 + 128) :: shortL (f / 128) := by rw [shortL, if_neg h]

theorem shortL_len : ∀ (k f : Nat), f < 128 ^ (k + 1) → (shortL f).length ≤ k + 1 := by
  intro k
  induction k with
  | zero => intro f hf; rw [shortL_low (by simpa using hf)]; simp
  | succ k ih =>
    intro f hf
    by_cases h : f < 128
    · rw [shortL_low h]; simp
    · rw [shortL_high h]
      have h2 : f / 128 < 128 ^ (k + 1) := by
        rw [Nat.pow_succ] at hf
        exact Nat.div_lt_of_lt_mul (by rw [Nat.mul_comm]; exact hf)
      have := ih _ h2
      simp; omega

theorem shortL_ten {f : Nat} (h : W64 f) : (shortL f).length ≤ 10 := shortL_len 9 f (Nat.lt_of_lt_of_le h (by decide))

theorem foldI_64 {n : Int} (h1 : -9223372036854775808 ≤ n) (h2 : n ≤ 9223372036854775807) : W64 (foldI n) := by
  unfold foldI W64
  split <;> omega

theorem testBit_compl {b i : Nat} (hb : W64 b) : (18446744073709551615 - b).testBit i = (decide (i < 64) && !b.testBit i) := by
  unfold W64 at hb
  have h : (18446744073709551615 - b) = 2 ^ 64 - (b + 1) := by omega
  rw [h, Nat.testBit_two_pow_sub_succ (by omega)]

theorem xor_all {x : Nat} (hx : W64 x) : (18446744073709551615 ^^^ x) = 18446744073709551615 - x := by
  apply Nat.eq_of_testBit_eq
  intro i
  have h1 : (18446744073709551615 : Nat) = 2 ^ 64 - 1 := by decide
  rw [Nat.testBit_xor, testBit_compl hx, h1, Nat.testBit_two_pow_sub_one]
  by_cases hi : i < 64
  · simp [hi]
  · have : x.testBit i = false := Nat.testBit_lt_two_pow (Nat.lt_of_lt_of_le (show x < 2 ^ 64 from hx) (Nat.pow_le_pow_right (by decide) (by omega)))
    simp [hi, this]

theorem neg_fold {n : Int} (h1 : -9223372036854775808 ≤ n) (hn : n < 0) : bits .xor .u64 IntKind.u64.max (IntKind.u64.wrap (IntKind.u64.wrap n * 2)) = ((foldI n : Nat) : Int) := by
  have e1 : IntKind.u64.wrap (IntKind.u64.wrap n * 2) = ((2 * n + 18446744073709551616).toNat : Int) := by
    simp [IntKind.wrap, IntKind.bits, IntKind.signed]
    omega
  have e2 : IntKind.u64.max = ((18446744073709551615 : Nat) : Int) := by decide
  have hx : W64 (2 * n + 18446744073709551616).toNat := by unfold W64; omega
  rw [e1, e2, u64_xor_nat _ _ (by decide) hx, xor_all hx]
  unfold foldI
  rw [if_pos hn]
  omega

set_option maxRecDepth 100000 in
set_option maxHeartbeats 400000 in
theorem fold_any (n : Int) (w : World) (h1 : -9223372036854775808 ≤ n) (h2 : n ≤ 9223372036854775807) :
    Calls Tryz.prog 141 #[.int .i64 n] w fun e w' => e = .returned (.int .u64 ((foldI n : Nat) : Int)) ∧ w' = w := by
  by_cases hn : n < 0
  · have hf := neg_fold h1 hn
    go_enter Tryz.func141, Tryz.ntmps141
    go_wp2
    all_goals go_ret
    all_goals exact ⟨rfl, rfl⟩
  · have hf : n * 2 = ((foldI n : Nat) : Int) := by unfold foldI; rw [if_neg hn]; omega
    have HF := hide_it hf
    clear hf
    go_enter Tryz.func141, Tryz.ntmps141
    go_wp2
    all_goals go_ret
    all_goals exact ⟨by rw [← HF.out]; rfl, rfl⟩

theorem or128 : ∀ z, z < 256 → z ||| 128 = z % 128 + 128 := by decide +kernel

set_option maxRecDepth 100000 in
set_option maxHeartbeats 400000 in
theorem appendShort_any (v : Value) (n : Int) (base : Nat) (zs : List Nat) (w : World) (h1 : -9223372036854775808 ≤ n) (h2 : n ≤ 9223372036854775807) (hown : OwnB w base v zs) (hb : base ≤ w.heap.size) (hl : zs.length + 10 ≤ 140737488355328) :
    Calls Tryz.prog 122 #[v, .int .i64 n] w fun e w' => (∃ r, e = .returned r ∧ OwnB w' base r (zs ++ shortL (foldI n))) ∧ Below base w w' := by
  have hf64 := foldI_64 h1 h2
  go_enter Tryz.func122, Tryz.ntmps122
  go_wp2_with (go_at_call 141; refine (fold_any n _ h1 h2).mono ?_; rintro e w' ⟨rfl, hq⟩; have hq2 := hq.symm; subst hq2; clear hq)
  go_loopw [0, 5] (fun r x wr => ∃ (k : Nat) (pre : List Nat), x = .int .u64 (k : Int) ∧ W64 k ∧ OwnB wr base r (zs ++ pre) ∧ Hid (pre ++ shortL k = shortL (foldI n)) ∧ Below base w wr) (fun _ x _ => (intOf x).toNat)
  case atStart => exact ⟨foldI n, [], rfl, hf64, by simpa using hown, rfl, Below.refl _ _⟩
  case round =>
    obtain ⟨k, pre, rfl, hk, how, hpre, hbl⟩ := hrel
    clear hown
    have hbs := Nat.le_trans hb hbl.size
    have hlen : (zs ++ pre).length + 1 ≤ zs.length + 10 := by
      have h10 := shortL_ten hf64
      have e := congrArg List.length hpre.out
      have hp : 1 ≤ (shortL k).length := by by_cases h : k < 128 <;> simp [shortL_low, shortL_high, h]
      simp at e ⊢; omega
    obtain ⟨z, hz⟩ : ∃ z, z = k % 256 := ⟨_, rfl⟩
    have hw8 : IntKind.u8.wrap (k : Int) = (z : Int) := by rw [hz]; exact wrap_byte k
    have hz8 : z < 256 := by omega
    unfold W64 at hk
    by_cases hlt : k < 128
    · have hlt1 : ¬ (128 : Int) ≤ (k : Int) := by omega
      have hd : decide ((128 : Int) ≤ (k : Int)) = false := by simpa using hlt1
      have hzk : Hid (z = k) := by unfold Hid; omega
      clear hz
      go_wp2_with (at_builtin; refine wpList_append_byte _ rfl _ _ rfl base _ _ rfl how z rfl (by omega) hbs ?_; intro v4 w4 hown4 hg4 hat4)
      go_ret
      refine ⟨⟨_, rfl, ?_⟩, (hbl.alloc hbs _).grown hg4 (by simp; omega) (fun j e => how.ge e)⟩
      rw [← hpre.out, shortL_low hlt, ← List.append_assoc, ← hzk.out]
      exact hown4
    · have hd : decide ((128 : Int) ≤ (k : Int)) = true := by simp; omega
      obtain ⟨y, hy⟩ : ∃ y, y = z % 128 + 128 := ⟨_, rfl⟩
      have hor : bits .or .u8 (z : Int) 128 = (y : Int) := by
        have := u8_or_nat z 128 hz8 (by decide)
        rw [or128 z hz8, ← hy] at this
        exact this
      have hyk : Hid (y = k % 128 + 128) := by unfold Hid; omega
      have HPRE : Hid (pre ++ [y] ++ shortL (k / 128) = shortL (foldI n)) := by
        unfold Hid
        rw [← hpre.out, shortL_high hlt, hyk.out]; simp
      clear hy hz hpre
      go_wp2_with (at_builtin; refine wpList_append_byte _ rfl _ _ rfl base _ _ rfl how y rfl (by omega) hbs ?_; intro v4 w4 hown4 hg4 hat4)
      go_roundw
      case rel =>
        exact ⟨k / 128, pre ++ [y], by simp, by unfold W64; omega, by rw [← List.append_assoc]; exact hown4, HPRE, (hbl.alloc hbs _).grown hg4 (by simp; omega) (fun j e => how.ge e)⟩
      case measure => simp [intOf]; omega

set_option maxRecDepth 100000 in
set_option maxHeartbeats 400000 in
theorem putInt_any (a : Option Addr) (cap : Nat) (n : Int) (zs : List Nat) (w : World) (h1 : -9223372036854775808 ≤ n) (h2 : n ≤ 9223372036854775807) (hr : RowB w a zs) (hl : zs.length + 10 ≤ 140737488355328) (hnil : a = none → zs.length = 0 ∧ cap = 0) :
    Calls Tryz.prog 102 #[.slice a zs.length cap, .int .i64 n] w fun e w' => (∃ r, e = .returned r ∧ OwnB w' w.heap.size r (zs ++ shortL (foldI n))) ∧ Below w.heap.size w w' := by
  go_enter Tryz.func102, Tryz.ntmps102
  go_wp2_with (go_at_call 121; refine (withRoom_any a cap 10 zs _ hr (by omega) hnil).mono ?_; rintro e w1 ⟨⟨v1, rfl, hown1⟩, hb1⟩)
  refine (appendShort_any v1 n w.heap.size zs w1 h1 h2 hown1 hb1.size hl).mono ?_
  rintro e w2 ⟨⟨v2, rfl, hown2⟩, hb2⟩
  go_wp2_with fail
  go_ret
  exact ⟨⟨_, rfl, hown2⟩, hb1.trans hb2⟩

theorem own_one (w : World) (z : Nat) : OwnB (w.alloc (.cells #[.int .u8 (z : Int)] 5)) w.heap.size (.slice (some ⟨w.heap.size, 0, none⟩) 1 1) [z] :=
  ⟨rfl, .inr ⟨_, _, _, rfl, Nat.le_refl _, heap_alloc_new w _, Nat.le_refl _, by unfold maxLen; omega, rfl, rfl⟩⟩

theorem foldI_nat (n : Nat) : foldI (n : Int) = 2 * n := by unfold foldI; rw [if_neg (by omega)]; omega

set_option maxRecDepth 100000 in
set_option maxHeartbeats 400000 in
theorem putText_any (a : Option Addr) (cap : Nat) (s : ByteArray) (zs : List Nat) (w : World) (hr : RowB w a zs) (hl : zs.length + 10 + s.size ≤ 140737488355328) (hnil : a = none → zs.length = 0 ∧ cap = 0) :
    Calls Tryz.prog 101 #[.slice a zs.length cap, .string s] w fun e w' => (∃ r, e = .returned r ∧ OwnB w' w.heap.size r (zs ++ shortL (2 * s.size) ++ strNat s)) ∧ Below w.heap.size w w' := by
  obtain ⟨i0, hi, hz0, hz1, hz2⟩ := info_parts infoB
  have h10 : (shortL (2 * s.size)).length ≤ 10 := shortL_ten (by unfold W64; omega)
  have e1 : (10 : Int) + (s.size : Int) = ((10 + s.size : Nat) : Int) := by omega
  have E1 := hide_it e1
  clear e1
  go_enter Tryz.func101, Tryz.ntmps101
  go_wp2_with fail
  rw [E1.out]
  refine (withRoom_any a cap (10 + s.size) zs _ hr (by omega) hnil).mono ?_
  rintro e w1 ⟨⟨v1, rfl, hown1⟩, hb1⟩
  clear hr hnil
  go_wp2_with fail
  refine (appendShort_any v1 (s.size : Int) w.heap.size zs w1 (by omega) (by omega) hown1 hb1.size (by omega)).mono ?_
  rintro e w2 ⟨⟨v2, rfl, hown2⟩, hb2⟩
  rw [foldI_nat] at hown2
  have hbw := hb1.trans hb2
  have hlen : (zs ++ shortL (2 * s.size)).length + s.size ≤ 140737488355328 := by rw [List.length_append]; omega
  clear hown1 hb1 hb2
  go_wp2_with (at_builtin; refine Lib.wpList_append_own_string _ rfl _ _ 39 9 rfl w.heap.size 5 i0 Tryz.underlying39 Tryz.underlying9 hi hz0 hz1 hz2 _ _ _ rfl hown2 s rfl (by unfold maxLen; omega) hlen hbw.size ?_; intro v4 w4 hown4 hg4 hnil4)
  go_ret
  refine ⟨⟨_, rfl, ?_⟩, hbw.grown hg4 hbw.size (fun j e => hown2.ge e)⟩
  unfold OwnB
  rw [List.length_append, List.map_append, strNat_len, ← strCells_nat]
  exact hown4

set_option maxRecDepth 100000 in
set_option maxHeartbeats 400000 in
theorem putBytes_any (a p : Option Addr) (cap cp : Nat) (zs ys : List Nat) (w : World) (hr : RowB w a zs) (hp : RowB w p ys) (hl : zs.length + 10 + ys.length ≤ 140737488355328) (hnil : a = none → zs.length = 0 ∧ cap = 0) (hnp : p = none → ys.length = 0 ∧ cp = 0) :
    Calls Tryz.prog 104 #[.slice a zs.length cap, .slice p ys.length cp] w fun e w' => (∃ r, e = .returned r ∧ OwnB w' w.heap.size r (zs ++ shortL (2 * ys.length) ++ ys)) ∧ Below w.heap.size w w' := by
  have h10 : (shortL (2 * ys.length)).length ≤ 10 := shortL_ten (by unfold W64; omega)
  have e1 : (10 : Int) + (ys.length : Int) = ((10 + ys.length : Nat) : Int) := by omega
  have E1 := hide_it e1
  clear e1
  go_enter Tryz.func104, Tryz.ntmps104
  go_wp2_with fail
  rw [E1.out]
  refine (withRoom_any a cap (10 + ys.length) zs _ hr (by omega) hnil).mono ?_
  rintro e w1 ⟨⟨v1, rfl, hown1⟩, hb1⟩
  clear hr hnil
  go_wp2_with fail
  refine (appendShort_any v1 (ys.length : Int) w.heap.size zs w1 (by omega) (by omega) hown1 hb1.size (by omega)).mono ?_
  rintro e w2 ⟨⟨v2, rfl, hown2⟩, hb2⟩
  rw [foldI_nat] at hown2
  have hbw := hb1.trans hb2
  have hpb := hp.below hbw
  have hlen : (zs ++ shortL (2 * ys.length)).length + ys.length ≤ 140737488355328 := by rw [List.length_append]; omega
  clear hown1 hb1 hb2 hp
  go_wp2_with (at_builtin; refine wpList_append_row _ rfl _ _ rfl w.heap.size _ _ rfl hown2 p cp ys rfl hpb hnp hlen hbw.size ?_; intro v4 w4 hown4 hg4 hat4)
  go_ret
  exact ⟨⟨_, rfl, hown4⟩, hbw.grown hg4 hbw.size (fun j e => hown2.ge e)⟩

end Go.Proofs.YtkacfpmninmjkaaGreat

namespace Go.Proofs.YtkacfpmninmjkaaGreat
open Go.RowKit

/-- What the groups of seven bits at the beginning of bytes come to, from the i-th on: the number and the bytes behind, or the error. -/
def groupsFrom : Nat → Nat → List Nat → Except Nat (Nat × List Nat)
  | _, _, [] => .error 20
  | i, v, x :: t =>
    if i = 9 ∧ 1 < x then .error 21
    else if 128 ≤ x then groupsFrom (i + 1) (v + x % 128 * 128 ^ i) t
    else if x = 0 ∧ 0 < i then .error 21 else .ok (v + x % 128 * 128 ^ i, t)

theorem mask127 {x : Nat} (hx : x < 256) : bits .and .u8 (x : Int) 127 = ((x % 128 : Nat) : Int) := by
  have h := u8_and_nat x 127 hx (by decide)
  rw [nat_mask7] at h
  exact h

theorem pow7 (k : Nat) : (2 : Nat) ^ (7 * k) = 128 ^ k := by rw [Nat.pow_mul]

theorem group_lt {k m : Nat} (hk : k ≤ 9) (hm : m < 128) (h9 : k = 9 → m ≤ 1) : m * 128 ^ k < 18446744073709551616 := by
  by_cases e : k = 9
  · subst e; have := h9 rfl; have h : m * 128 ^ 9 ≤ 1 * 128 ^ 9 := Nat.mul_le_mul_right _ this; omega
  · have h1 : 128 ^ k ≤ 128 ^ 8 := Nat.pow_le_pow_right (by decide) (by omega)
    have h2 : m * 128 ^ k ≤ 127 * 128 ^ 8 := Nat.mul_le_mul (by omega) h1
    omega

theorem pow_lt64 {k : Nat} (hk : k ≤ 9) : 128 ^ k < 18446744073709551616 := by
  have h1 : 128 ^ k ≤ 128 ^ 9 := Nat.pow_le_pow_right (by decide) hk
  omega

theorem or_group {k y x : Nat} (hk : k ≤ 9) (h9 : k = 9 → x ≤ 1) (hy : y < 128 ^ k) :
    bits .or .u64 (y : Int) (IntKind.u64.wrap ((x : Int) % 128 * 2 ^ (7 * k))) = ((y + x % 128 * 128 ^ k : Nat) : Int) := by
  have hm : x % 128 < 128 := Nat.mod_lt _ (by decide)
  have hlt := group_lt hk hm (fun e => by have := h9 e; omega)
  have hyl : y < 18446744073709551616 := Nat.lt_trans hy (pow_lt64 hk)
  have e1 : (x : Int) % 128 * 2 ^ (7 * k) = ((x % 128 * 128 ^ k : Nat) : Int) := by
    rw [← pow7]; simp
  have e2 : IntKind.u64.wrap ((x % 128 * 128 ^ k : Nat) : Int) = ((x % 128 * 128 ^ k : Nat) : Int) := by
    generalize x % 128 * 128 ^ k = z at *
    simp [IntKind.wrap, IntKind.bits, IntKind.signed]
    omega
  rw [e1, e2, u64_or_nat _ _ hyl hlt, Nat.or_comm, nat_join (7 * k) (x % 128 * 128 ^ k) y (by rw [← pow7]; simp) (by rw [pow7]; exact hy), Nat.add_comm]

set_option maxRecDepth 100000 in
set_option maxHeartbeats 400000 in
theorem groups_any (base g : Nat) (bs : List Nat) (w : World) (hc : Cur w base g bs) (h8 : All8 bs) :
    Calls Tryz.prog 150 #[.pointer (some ⟨g, 0, none⟩)] w fun e w' => Took (fun f => .int .u64 ((f : Nat) : Int)) base g w (groupsFrom 0 0 bs) e w' := by
  go_enter Tryz.func150, Tryz.ntmps150
  go_wp2_with fail
  go_loopw [3, 4] (fun v i wr => ∃ (k y : Nat) (t : List Nat), k ≤ 9 ∧ y < 128 ^ k ∧ i = .int .i64 (k : Int) ∧ v = .int .u64 (y : Int) ∧ All8 t ∧ Cur wr base g t ∧ Below base w wr ∧ Hid (groupsFrom k y t = groupsFrom 0 0 bs)) (fun _ i _ => 10 - (intOf i).toNat)
  case atStart => exact ⟨0, 0, bs, by omega, by simp, rfl, rfl, h8, hc, Below.refl _ _, rfl⟩
  case round =>
    obtain ⟨k, y, t, hk, hy, rfl, rfl, ht8, hcur, hb, hgr⟩ := hrel
    clear hc h8
    cases t with
    | nil =>
      have hx := next_cut base g 1 [] wr hcur (by simp) (by unfold maxLen; omega)
      have HG : Hid (groupsFrom 0 0 bs = .error 20) := hgr.out.symm
      clear hcur hgr
      go_wp2_with fail
      refine hx.mono ?_
      rintro e w1 ⟨rfl, hq⟩
      have hq2 := hq.symm
      subst hq2
      go_wp2_with fail
      refine ⟨rfl, ?_⟩
      rw [HG.out]
      exact ⟨rfl, hb⟩
    | cons x t =>
      have hx := next_ok base g 1 (x :: t) wr hcur (by simp)
      have hx8 : x < 256 := ht8 x (by simp)
      have hmask := mask127 hx8
      have hm8 : x % 128 < 128 := Nat.mod_lt _ (by decide)
      clear hcur
      go_wp2_with fail
      refine hx.mono ?_
      rintro e w1 ⟨⟨a, cap, rfl, hr, _⟩, hcur, hb1⟩
      have hbw := hb.trans hb1
      obtain ⟨b, o, rfl, _, _, hcc⟩ : ∃ b o, a = some ⟨b, o, none⟩ ∧ b < base ∧ b < w1.heap.size ∧ ∀ i, i < ((x :: t).take 1).length → w1.cell? ⟨b, o + i, none⟩ = some (.int .u8 ((at0 ((x :: t).take 1) i : Nat) : Int)) := by
        rcases hr with h | h
        · simp at h
        · exact h
      have hck : w1.cell? ⟨b, o, none⟩ = some (.int .u8 (x : Int)) := by have := hcc 0 (by simp); simpa [at0] using this
      have HCUR : Hid (Cur w1 base g t) := hcur
      clear hcc hr hx hb hb1 hcur
      by_cases c1 : k = 9 ∧ 1 < x
      · have HG : Hid (groupsFrom 0 0 bs = .error 21) := by unfold Hid; rw [← hgr.out, groupsFrom, if_pos c1]
        obtain ⟨rfl, c2⟩ := c1
        have hd : decide ((1 : Int) < (x : Int)) = true := by simp; omega
        clear hgr
        go_wp2_with fail
        refine ⟨rfl, ?_⟩
        rw [HG.out]
        exact ⟨rfl, hbw⟩
      · by_cases c2 : 128 ≤ x
        · have HG : Hid (groupsFrom (k + 1) (y + x % 128 * 128 ^ k) t = groupsFrom 0 0 bs) := by unfold Hid; rw [← hgr.out]; exact (by rw [groupsFrom, if_neg c1, if_pos c2])
          have hk8 : k < 9 := by omega
          have hd : decide ((128 : Int) ≤ (x : Int)) = true := by simp; omega
          have hke : ((k : Int) == 9) = false := by simp; omega
          clear hgr
          have hor := or_group (k := k) (y := y) (x := x) hk (fun e => by omega) hy
          have hnew : y + x % 128 * 128 ^ k < 128 ^ (k + 1) := by
            rw [Nat.pow_succ]
            have h2 : x % 128 * 128 ^ k ≤ 127 * 128 ^ k := Nat.mul_le_mul_right _ (by omega)
            omega
          have HN := hide_it hnew
          have HO := hide_it hor
          clear hnew hor
          go_wp2_with fail
          go_roundw
          case rel => exact ⟨k + 1, _, t, by omega, HN.out, by go_num, by rw [HO.out], fun z hz => ht8 z (List.mem_cons_of_mem _ hz), HCUR.out, hbw, HG⟩
          case measure => simp [intOf]; omega
        · by_cases c3 : x = 0 ∧ 0 < k
          · have HG : Hid (groupsFrom 0 0 bs = .error 21) := by unfold Hid; rw [← hgr.out, groupsFrom, if_neg c1, if_neg c2, if_pos c3]
            obtain ⟨rfl, c4⟩ := c3
            clear hgr
            have hd : decide ((0 : Int) < (k : Int)) = true := by simp; omega
            go_wp2_with fail
            all_goals refine ⟨rfl, ?_⟩
            all_goals rw [HG.out]
            all_goals exact ⟨rfl, hbw⟩
          · have HG : Hid (groupsFrom 0 0 bs = .ok (y + x % 128 * 128 ^ k, t)) := by unfold Hid; rw [← hgr.out, groupsFrom, if_neg c1, if_neg c2, if_neg c3]
            have hor := or_group (k := k) (y := y) (x := x) hk (fun e => by omega) hy
            have HO := hide_it hor
            clear hgr hor
            have hd : decide ((128 : Int) ≤ (x : Int)) = false := by simp; omega
            by_cases k9 : k = 9
            · subst k9
              have hx1 : x = 1 := by omega
              have e : (2 : Int) ^ (7 * 9) = 9223372036854775808 := by simp
              have hor : bits .or .u64 (y : Int) (IntKind.u64.wrap ((x : Int) % 128 * 9223372036854775808)) = ((y + x % 128 * 128 ^ 9 : Nat) : Int) := by rw [← e]; exact HO.out
              have HO9 := hide_it hor
              have hd1 : decide ((1 : Int) < (x : Int)) = false := by simp; omega
              have hx0 : ((x : Int) == 0) = false := by simp; omega
              clear c3 c1 HO hor e hx1
              go_wp2_with fail
              go_ret
              rw [HG.out]
              exact ⟨congrArg (fun z => Ending.returned (Value.int .u64 z)) HO9.out, HCUR.out, hbw⟩
            · have hk9 : ((k : Int) == 9) = false := by simp; omega
              by_cases x0 : x = 0
              · have hk0 : k = 0 := by omega
                subst x0
                subst hk0
                have hy0 : y = 0 := by simpa using hy
                subst hy0
                clear c3 c1 hmask
                go_wp2_with fail
                go_ret
                rw [HG.out]
                exact ⟨by kernel_rfl, HCUR.out, hbw⟩
              · have hx0 : ((x : Int) == 0) = false := by simp; omega
                clear c3 c1
                go_wp2_with fail
                go_ret
                rw [HG.out]
                exact ⟨congrArg (fun z => Ending.returned (Value.int .u64 z)) HO.out, HCUR.out, hbw⟩

/-- The int whose fold this is. -/
def unfoldN (f : Nat) : Int := if f % 2 = 1 then -((f / 2 : Nat) : Int) - 1 else ((f / 2 : Nat) : Int)

/-- What taking a number between bounds answers. -/
def takeShort (low high : Int) (bs : List Nat) : Except Nat (Int × List Nat) :=
  if high < low then .error 2 else
  match groupsFrom 0 0 bs with
  | .error c => .error c
  | .ok (f, t) => if unfoldN f < low ∨ high < unfoldN f then .error 21 else .ok (unfoldN f, t)

/-- What taking bytes behind their number answers. -/
def takeCounted (most : Int) (bs : List Nat) : Except Nat (List Nat × List Nat) :=
  match takeShort 0 most bs with
  | .error c => .error c
  | .ok (n, t) => if t.length < n.toNat then .error 20 else .ok (t.take n.toNat, t.drop n.toNat)

theorem unfold_odd {f : Nat} (hf : W64 f) : wrap64 (bits .xor .u64 IntKind.u64.max ((f / 2 : Nat) : Int)) = -((f / 2 : Nat) : Int) - 1 := by
  have e2 : IntKind.u64.max = ((18446744073709551615 : Nat) : Int) := by decide
  unfold W64 at hf
  have hx : W64 (f / 2) := by unfold W64; omega
  rw [e2, u64_xor_nat _ _ (by decide) hx, xor_all hx]
  unfold wrap64
  omega

set_option maxRecDepth 100000 in
set_option maxHeartbeats 400000 in
theorem unfold_any (f : Nat) (w : World) (hf : W64 f) :
    Calls Tryz.prog 149 #[.int .u64 (f : Int)] w fun e w' => e = .returned (.int .i64 (unfoldN f)) ∧ w' = w := by
  have hodd := unfold_odd hf
  have hand : bits .and .u64 (f : Int) 1 = ((f % 2 : Nat) : Int) := by
    have h := u64_and_nat f 1 hf (by decide)
    rw [nat_mask1] at h
    exact h
  have he : (f : Int) / 2 = ((f / 2 : Nat) : Int) := by simp
  have HE := hide_it he
  have HO := hide_it hodd
  clear he hodd
  unfold W64 at hf
  by_cases h1 : f % 2 = 1
  · have HU : Hid (unfoldN f = -((f / 2 : Nat) : Int) - 1) := by unfold Hid unfoldN; rw [if_pos h1]
    rw [h1] at hand
    go_enter Tryz.func149, Tryz.ntmps149
    go_wp2_with fail
    all_goals go_ret
    all_goals exact ⟨congrArg (fun z => Ending.returned (Value.int .i64 z)) (by rw [HE.out, HO.out, HU.out]), rfl⟩
  · have HU : Hid (unfoldN f = ((f / 2 : Nat) : Int)) := by unfold Hid unfoldN; rw [if_neg h1]
    have h0 : f % 2 = 0 := by omega
    rw [h0] at hand
    go_enter Tryz.func149, Tryz.ntmps149
    go_wp2_with fail
    all_goals go_ret
    all_goals exact ⟨congrArg (fun z => Ending.returned (Value.int .i64 z)) (by rw [HE.out, HU.out]), rfl⟩

theorem unfoldN_bounds {f : Nat} (hf : W64 f) : -9223372036854775808 ≤ unfoldN f ∧ unfoldN f ≤ 9223372036854775807 := by
  unfold unfoldN
  unfold W64 at hf
  split <;> omega

theorem groups_from {t : List Nat} : ∀ (bs : List Nat) (k y f : Nat), k ≤ 9 → y < 128 ^ k → groupsFrom k y bs = .ok (f, t) → W64 f := by
  intro bs
  induction bs with
  | nil => intro k y f _ _ h; cases h
  | cons x s ih =>
    intro k y f hk hy h
    rw [groupsFrom] at h
    split at h
    · cases h
    · next c1 =>
      have hpow : y + x % 128 * 128 ^ k < 128 ^ (k + 1) := by
        rw [Nat.pow_succ]
        have hm : x % 128 < 128 := Nat.mod_lt _ (by decide)
        have h2 : x % 128 * 128 ^ k ≤ 127 * 128 ^ k := Nat.mul_le_mul_right _ (by omega)
        omega
      split at h
      · next c2 => exact ih (k + 1) _ f (by omega) hpow h
      · split at h
        · cases h
        · next c2 c3 =>
          have e := Except.ok.inj h
          have e1 : y + x % 128 * 128 ^ k = f := congrArg Prod.fst e
          rw [← e1]
          unfold W64
          by_cases h9 : k = 9
          · subst h9
            have hx : x % 128 ≤ 1 := by omega
            have h2 : x % 128 * 128 ^ 9 ≤ 1 * 128 ^ 9 := Nat.mul_le_mul_right _ hx
            omega
          · have h3 : 128 ^ (k + 1) ≤ 128 ^ 9 := Nat.pow_le_pow_right (by decide) (by omega)
            omega

theorem groups_w64 (bs : List Nat) : ∀ f t, groupsFrom 0 0 bs = .ok (f, t) → W64 f := fun f t h => groups_from bs 0 0 f (by omega) (by simp) h

theorem groups_len {f : Nat} {t : List Nat} : ∀ (bs : List Nat) (k y : Nat), groupsFrom k y bs = .ok (f, t) → t.length ≤ bs.length := by
  intro bs
  induction bs with
  | nil => intro k y h; cases h
  | cons x s ih =>
    intro k y h
    rw [groupsFrom] at h
    split at h
    · cases h
    · split at h
      · have := ih _ _ h; simp; omega
      · split at h
        · cases h
        · cases h; simp

theorem groups_all {f : Nat} {t : List Nat} : ∀ (bs : List Nat) (_ : All8 bs) (k y : Nat), groupsFrom k y bs = .ok (f, t) → All8 t := by
  intro bs
  induction bs with
  | nil => intro _ k y h; cases h
  | cons x s ih =>
    intro h8 k y h
    have h8s : All8 s := fun z hz => h8 z (List.mem_cons_of_mem _ hz)
    rw [groupsFrom] at h
    split at h
    · cases h
    · split at h
      · exact ih h8s _ _ h
      · split at h
        · cases h
        · cases h; exact h8s

set_option maxRecDepth 100000 in
set_option maxHeartbeats 400000 in
theorem short_any (base g : Nat) (low high : Int) (bs : List Nat) (w : World) (hc : Cur w base g bs) (h8 : All8 bs) (_hl1 : -9223372036854775808 ≤ low) (_hl2 : low ≤ 9223372036854775807) (_hh1 : -9223372036854775808 ≤ high) (_hh2 : high ≤ 9223372036854775807) :
    Calls Tryz.prog 135 #[.pointer (some ⟨g, 0, none⟩), .int .i64 low, .int .i64 high] w fun e w' => Took (fun n => .int .i64 n) base g w (takeShort low high bs) e w' := by
  have hg := groups_any base g bs w hc h8
  by_cases hlh : high < low
  · have HT : Hid (takeShort low high bs = .error 2) := by unfold Hid takeShort; rw [if_pos hlh]
    clear hg hc
    go_enter Tryz.func135, Tryz.ntmps135
    go_wp2_with fail
    refine ⟨rfl, ?_⟩
    rw [HT.out]
    exact ⟨rfl, Below.refl _ _⟩
  · obtain ⟨R, hR⟩ : ∃ R, R = groupsFrom 0 0 bs := ⟨_, rfl⟩
    rw [← hR] at hg
    have HR := hide_it hR
    have hW := groups_w64 bs
    rw [← hR] at hW
    clear hR hc
    go_enter Tryz.func135, Tryz.ntmps135
    go_wp2_with fail
    refine hg.mono ?_
    intro e w1 ht
    cases R with
    | error c =>
      obtain ⟨rfl, hb⟩ := ht
      have HT : Hid (takeShort low high bs = .error c) := by unfold Hid takeShort; rw [if_neg (by omega), ← HR.out]
      go_wp2_with fail
      refine ⟨rfl, ?_⟩
      rw [HT.out]
      exact ⟨rfl, hb⟩
    | ok p =>
      obtain ⟨f, t⟩ := p
      obtain ⟨rfl, hcur, hb⟩ := ht
      have hf : W64 f := hW f t rfl
      have HCUR := hide_it hcur
      clear hcur hg hW
      have hu := unfold_any f w1 hf
      have hub := unfoldN_bounds hf
      by_cases hin : unfoldN f < low ∨ high < unfoldN f
      · have HT : Hid (takeShort low high bs = .error 21) := by unfold Hid takeShort; rw [if_neg (by omega), ← HR.out]; exact if_pos hin
        clear HR
        go_wp2_with fail
        refine hu.mono ?_
        rintro e w2 ⟨rfl, hq⟩
        have hq2 := hq.symm
        subst hq2
        clear hu hq
        generalize unfoldN f = n at *
        by_cases h1 : n < low
        · have hd1 : decide (n < low) = true := by simpa using h1
          clear hin
          go_wp2_with fail
          refine ⟨rfl, ?_⟩
          rw [HT.out]
          exact ⟨rfl, hb⟩
        · have hd1 : decide (n < low) = false := by simpa using h1
          have hd2 : decide (high < n) = true := by simp; omega
          clear hin
          go_wp2_with fail
          refine ⟨rfl, ?_⟩
          rw [HT.out]
          exact ⟨rfl, hb⟩
      · have HT : Hid (takeShort low high bs = .ok (unfoldN f, t)) := by unfold Hid takeShort; rw [if_neg (by omega), ← HR.out]; exact if_neg hin
        clear HR
        go_wp2_with fail
        refine hu.mono ?_
        rintro e w2 ⟨rfl, hq⟩
        have hq2 := hq.symm
        subst hq2
        clear hu hq
        generalize unfoldN f = n at *
        have hd1 : decide (n < low) = false := by simp; omega
        have hd2 : decide (high < n) = false := by simp; omega
        clear hin
        go_wp2_with fail
        go_ret
        rw [HT.out]
        exact ⟨rfl, HCUR.out, hb⟩

theorem takeShort_nat {most : Int} {bs : List Nat} {n : Int} {t : List Nat} (h : takeShort 0 most bs = .ok (n, t)) : 0 ≤ n ∧ n ≤ most := by
  unfold takeShort at h
  split at h
  · cases h
  · split at h
    · cases h
    · split at h
      · cases h
      · cases h; omega

theorem takeShort_all {low high : Int} {bs : List Nat} {n : Int} {t : List Nat} (h : takeShort low high bs = .ok (n, t)) (h8 : All8 bs) : All8 t := by
  unfold takeShort at h
  split at h
  · cases h
  · split at h
    · cases h
    · next e =>
      split at h
      · cases h
      · cases h; exact groups_all bs h8 0 0 e

set_option maxRecDepth 100000 in
set_option maxHeartbeats 400000 in
theorem counted_any (base g : Nat) (most : Int) (bs : List Nat) (w : World) (hc : Cur w base g bs) (h8 : All8 bs) (hl1 : -9223372036854775808 ≤ most) (hl2 : most ≤ 9223372036854775807) :
    Calls Tryz.prog 132 #[.pointer (some ⟨g, 0, none⟩), .int .i64 most] w fun e w' =>
      (∃ c, takeCounted most bs = .error c ∧ e = .panicked [{ v := .iface 31 (.int .i64 (c : Int)), recovered := false }] ∧ Below base w w') ∨
      (∃ p t a cap, takeCounted most bs = .ok (p, t) ∧ e = .returned (.slice a p.length cap) ∧ RowLt w' base a p ∧ (a = none → p.length = 0 ∧ cap = 0) ∧ Cur w' base g t ∧ Below base w w') := by
  have hg := short_any base g 0 most bs w hc h8 (by omega) (by omega) hl1 hl2
  obtain ⟨R, hR⟩ : ∃ R, R = takeShort 0 most bs := ⟨_, rfl⟩
  rw [← hR] at hg
  have HR := hide_it hR
  clear hR hc
  go_enter Tryz.func132, Tryz.ntmps132
  go_wp2_with fail
  refine hg.mono ?_
  intro e w1 ht
  cases R with
  | error c =>
    obtain ⟨rfl, hb⟩ := ht
    have HT : Hid (takeCounted most bs = .error c) := by unfold Hid takeCounted; rw [← HR.out]
    go_wp2_with fail
    exact ⟨rfl, .inl ⟨c, HT.out, rfl, hb⟩⟩
  | ok p =>
    obtain ⟨n, t⟩ := p
    obtain ⟨rfl, hcur, hb⟩ := ht
    obtain ⟨h0, hm⟩ := takeShort_nat HR.out.symm
    obtain ⟨k, rfl⟩ : ∃ k : Nat, n = (k : Int) := ⟨n.toNat, by omega⟩
    clear hg
    by_cases hlt : t.length < k
    · have HT : Hid (takeCounted most bs = .error 20) := by unfold Hid takeCounted; rw [← HR.out]; exact if_pos hlt
      have hx := next_cut base g k t w1 hcur hlt (by unfold maxLen; omega)
      clear HR
      go_wp2_with fail
      refine hx.mono ?_
      rintro e w2 ⟨rfl, hq⟩
      have hq2 := hq.symm
      subst hq2
      go_wp2_with fail
      exact ⟨rfl, .inl ⟨20, HT.out, rfl, hb⟩⟩
    · have HT : Hid (takeCounted most bs = .ok (t.take k, t.drop k)) := by unfold Hid takeCounted; rw [← HR.out]; exact if_neg hlt
      have hx := next_ok base g k t w1 hcur (by omega)
      clear HR
      go_wp2_with fail
      refine hx.mono ?_
      rintro e w2 ⟨⟨a, cap, rfl, hr, hna⟩, hcur2, hb2⟩
      have HC := hide_it hcur2
      clear hx hcur hcur2
      go_wp2_with fail
      go_ret
      have e : (t.take k).length = k := by simp; omega
      refine .inr ⟨t.take k, t.drop k, a, cap, HT.out, ?_, hr, by rw [e]; exact hna, HC.out, hb.trans hb2⟩
      rw [e]
      rfl

end Go.Proofs.YtkacfpmninmjkaaGreat

namespace Go.Proofs.YtkacfpmninmjkaaGreat
open Go.RowKit

set_option maxRecDepth 100000 in
set_option maxHeartbeats 400000 in
theorem left_any (p : Nat) (bs : List Nat) (f : Nat) (w : World) (hr : Rdr w p bs f) :
    Calls Tryz.prog 114 #[.pointer (some ⟨p, 0, none⟩)] w fun e w' => e = .returned (.int .i64 (bs.length : Int)) ∧ w' = w := by
  obtain ⟨hp, a, cap, hh, _⟩ := hr
  have h1 : w.cell? ⟨p, 0, none⟩ = some (.slice a bs.length cap) := by rw [cell_of_row _ _ _ _ _ _ hh]; rfl
  clear hh
  go_enter Tryz.func114, Tryz.ntmps114
  go_wp2
  go_ret
  exact ⟨rfl, rfl⟩

set_option maxRecDepth 100000 in
set_option maxHeartbeats 400000 in
theorem left_nil (w : World) : Calls Tryz.prog 114 #[.pointer none] w fun e w' => e = .returned (.int .i64 0) ∧ w' = w := by
  go_enter Tryz.func114, Tryz.ntmps114
  go_wp2
  go_ret
  exact ⟨rfl, rfl⟩

/-- What End answers. -/
def endOf (bs : List Nat) (f : Nat) : Nat := if f ≠ 0 then f else if 0 < bs.length then 22 else 0

set_option maxRecDepth 100000 in
set_option maxHeartbeats 400000 in
theorem end_any (p : Nat) (bs : List Nat) (f : Nat) (w : World) (hr : Rdr w p bs f) :
    Calls Tryz.prog 84 #[.pointer (some ⟨p, 0, none⟩)] w fun e w' => e = .returned (.int .i64 ((endOf bs f : Nat) : Int)) ∧ w' = w := by
  have h1 := fault_any p bs f w hr
  have h2 := left_any p bs f w hr
  clear hr
  by_cases hf : f = 0
  · subst hf
    by_cases hl : 0 < bs.length
    · have HE : Hid (endOf bs 0 = 22) := by unfold Hid endOf; rw [if_neg (by simp), if_pos hl]
      have hd : decide ((0 : Int) < (bs.length : Int)) = true := by simp; omega
      go_enter Tryz.func84, Tryz.ntmps84
      go_wp2_with (first | (go_at_call 113; refine h1.mono ?_; rintro e w' ⟨rfl, hq⟩; have hq2 := hq.symm; subst hq2; clear hq) | (go_at_call 114; refine h2.mono ?_; rintro e w' ⟨rfl, hq⟩; have hq2 := hq.symm; subst hq2; clear hq))
      go_ret
      rw [HE.out]
      exact ⟨rfl, rfl⟩
    · have HE : Hid (endOf bs 0 = 0) := by unfold Hid endOf; rw [if_neg (by simp), if_neg hl]
      have hd : decide ((0 : Int) < (bs.length : Int)) = false := decide_eq_false (by omega)
      go_enter Tryz.func84, Tryz.ntmps84
      go_wp2_with (first | (go_at_call 113; refine h1.mono ?_; rintro e w' ⟨rfl, hq⟩; have hq2 := hq.symm; subst hq2; clear hq) | (go_at_call 114; refine h2.mono ?_; rintro e w' ⟨rfl, hq⟩; have hq2 := hq.symm; subst hq2; clear hq))
      go_ret
      rw [HE.out]
      exact ⟨rfl, rfl⟩
  · have HE : Hid (endOf bs f = f) := by unfold Hid endOf; rw [if_pos hf]
    have hd : ((f : Int) == 0) = false := by simp; omega
    go_enter Tryz.func84, Tryz.ntmps84
    go_wp2_with (first | (go_at_call 113; refine h1.mono ?_; rintro e w' ⟨rfl, hq⟩; have hq2 := hq.symm; subst hq2; clear hq))
    go_ret
    rw [HE.out]
    exact ⟨rfl, rfl⟩

set_option maxRecDepth 100000 in
set_option maxHeartbeats 400000 in
theorem end_nil (w : World) : Calls Tryz.prog 84 #[.pointer none] w fun e w' => e = .returned (.int .i64 1) ∧ w' = w := by
  go_enter Tryz.func84, Tryz.ntmps84
  go_wp2_with (go_at_call 113; refine (fault_nil _).mono ?_; rintro e w' ⟨rfl, hq⟩; have hq2 := hq.symm; subst hq2; clear hq)
  go_ret
  exact ⟨rfl, rfl⟩

set_option maxRecDepth 100000 in
set_option maxHeartbeats 400000 in
theorem catchPI (B p : Nat) (x c : Int) (older : List PanicEntry) (w : World) (hB : w.cell? ⟨B, 0, none⟩ = some (.pointer (some ⟨p, 0, none⟩))) (hc : w.cell? ⟨p, 1, none⟩ = some (.int .i64 x)) (hz : w.frozen? ⟨p, 1, none⟩ = false) :
    CallsD Tryz.prog 148 #[.pointer (some ⟨B, 0, none⟩)] (.panicking ({ v := .iface 31 (.int .i64 c), recovered := false } :: older)) w fun e u' w' =>
      e = .returned (.tuple #[]) ∧ u' = .panicking ({ v := .iface 31 (.int .i64 c), recovered := true } :: older) ∧ w' = w.setCell ⟨p, 1, none⟩ (.int .i64 c) := by
  refine callsD_of_wpS Tryz.func148 rfl fun c₀ cs hu => ?_
  apply wpS_seq
  apply wpS_region
  simp [wpOpsS, go_sem, recoverD, hu, ta_hit, Tryz.ntmps148, Exit.thenS]
  apply wpS_seq
  apply wpS_region
  simp [wpOpsS, go_sem, Exit.thenS]
  refine wpS_cond (t := true) (by simp [Act.eval, Array.replicate]) ?_
  simp only [if_true]
  apply wpS_region
  simp [wpOpsS, go_sem, hB, hc, hz, bodyPostS, results, Tryz.results148, Array.replicate]

set_option maxRecDepth 100000 in
set_option maxHeartbeats 400000 in
theorem catchII (B : Nat) (w : World) :
    CallsD Tryz.prog 148 #[.pointer (some ⟨B, 0, none⟩)] .returning w fun e u' w' => e = .returned (.tuple #[]) ∧ u' = .returning ∧ w' = w := by
  refine callsD_of_wpS Tryz.func148 rfl fun c₀ cs hu => ?_
  apply wpS_seq
  apply wpS_region
  simp [wpOpsS, go_sem, recoverD, hu, ta_nil, Tryz.ntmps148, Exit.thenS]
  apply wpS_seq
  apply wpS_region
  simp [wpOpsS, go_sem, Exit.thenS]
  refine wpS_cond (t := false) (by simp [Act.eval, Array.replicate]) ?_
  simp only [Bool.false_eq_true, if_false]
  refine wpS_of_wp (wp_skip ?_)
  cases c₀
  simp_all [bodyPostS, results, Tryz.results148]

set_option maxRecDepth 100000 in
set_option maxHeartbeats 400000 in
theorem catchPS (B p : Nat) (x c : Int) (older : List PanicEntry) (w : World) (hB : w.cell? ⟨B, 0, none⟩ = some (.pointer (some ⟨p, 0, none⟩))) (hc : w.cell? ⟨p, 1, none⟩ = some (.int .i64 x)) (hz : w.frozen? ⟨p, 1, none⟩ = false) :
    CallsD Tryz.prog 147 #[.pointer (some ⟨B, 0, none⟩)] (.panicking ({ v := .iface 31 (.int .i64 c), recovered := false } :: older)) w fun e u' w' =>
      e = .returned (.tuple #[]) ∧ u' = .panicking ({ v := .iface 31 (.int .i64 c), recovered := true } :: older) ∧ w' = w.setCell ⟨p, 1, none⟩ (.int .i64 c) := by
  refine callsD_of_wpS Tryz.func147 rfl fun c₀ cs hu => ?_
  apply wpS_seq
  apply wpS_region
  simp [wpOpsS, go_sem, recoverD, hu, ta_hit, Tryz.ntmps147, Exit.thenS]
  apply wpS_seq
  apply wpS_region
  simp [wpOpsS, go_sem, Exit.thenS]
  refine wpS_cond (t := true) (by simp [Act.eval, Array.replicate]) ?_
  simp only [if_true]
  apply wpS_region
  simp [wpOpsS, go_sem, hB, hc, hz, bodyPostS, results, Tryz.results147, Array.replicate]

set_option maxRecDepth 100000 in
set_option maxHeartbeats 400000 in
theorem catchIS (B : Nat) (w : World) :
    CallsD Tryz.prog 147 #[.pointer (some ⟨B, 0, none⟩)] .returning w fun e u' w' => e = .returned (.tuple #[]) ∧ u' = .returning ∧ w' = w := by
  refine callsD_of_wpS Tryz.func147 rfl fun c₀ cs hu => ?_
  apply wpS_seq
  apply wpS_region
  simp [wpOpsS, go_sem, recoverD, hu, ta_nil, Tryz.ntmps147, Exit.thenS]
  apply wpS_seq
  apply wpS_region
  simp [wpOpsS, go_sem, Exit.thenS]
  refine wpS_cond (t := false) (by simp [Act.eval, Array.replicate]) ?_
  simp only [Bool.false_eq_true, if_false]
  refine wpS_of_wp (wp_skip ?_)
  cases c₀
  simp_all [bodyPostS, results, Tryz.results147]

set_option maxRecDepth 100000 in
set_option maxHeartbeats 400000 in
theorem catchPB (B p : Nat) (x c : Int) (older : List PanicEntry) (w : World) (hB : w.cell? ⟨B, 0, none⟩ = some (.pointer (some ⟨p, 0, none⟩))) (hc : w.cell? ⟨p, 1, none⟩ = some (.int .i64 x)) (hz : w.frozen? ⟨p, 1, none⟩ = false) :
    CallsD Tryz.prog 151 #[.pointer (some ⟨B, 0, none⟩)] (.panicking ({ v := .iface 31 (.int .i64 c), recovered := false } :: older)) w fun e u' w' =>
      e = .returned (.tuple #[]) ∧ u' = .panicking ({ v := .iface 31 (.int .i64 c), recovered := true } :: older) ∧ w' = w.setCell ⟨p, 1, none⟩ (.int .i64 c) := by
  refine callsD_of_wpS Tryz.func151 rfl fun c₀ cs hu => ?_
  apply wpS_seq
  apply wpS_region
  simp [wpOpsS, go_sem, recoverD, hu, ta_hit, Tryz.ntmps151, Exit.thenS]
  apply wpS_seq
  apply wpS_region
  simp [wpOpsS, go_sem, Exit.thenS]
  refine wpS_cond (t := true) (by simp [Act.eval, Array.replicate]) ?_
  simp only [if_true]
  apply wpS_region
  simp [wpOpsS, go_sem, hB, hc, hz, bodyPostS, results, Tryz.results151, Array.replicate]

set_option maxRecDepth 100000 in
set_option maxHeartbeats 400000 in
theorem catchIB (B : Nat) (w : World) :
    CallsD Tryz.prog 151 #[.pointer (some ⟨B, 0, none⟩)] .returning w fun e u' w' => e = .returned (.tuple #[]) ∧ u' = .returning ∧ w' = w := by
  refine callsD_of_wpS Tryz.func151 rfl fun c₀ cs hu => ?_
  apply wpS_seq
  apply wpS_region
  simp [wpOpsS, go_sem, recoverD, hu, ta_nil, Tryz.ntmps151, Exit.thenS]
  apply wpS_seq
  apply wpS_region
  simp [wpOpsS, go_sem, Exit.thenS]
  refine wpS_cond (t := false) (by simp [Act.eval, Array.replicate]) ?_
  simp only [Bool.false_eq_true, if_false]
  refine wpS_of_wp (wp_skip ?_)
  cases c₀
  simp_all [bodyPostS, results, Tryz.results151]

set_option maxRecDepth 100000 in
set_option maxHeartbeats 1000000 in
theorem readingI (p : Nat) (L H : Nat) (bs : List Nat) (w : World) (R : Except Nat (Int × List Nat)) (hr : Rdr w p bs 0)
    (htake : ∀ (w2 : World) (g : Nat), Below w.heap.size w w2 → Cur w2 (w.heap.size + 1) g bs → Calls Tryz.prog 134 #[.pointer (some ⟨g, 0, none⟩), .pointer (some ⟨L, 0, none⟩), .pointer (some ⟨H, 0, none⟩)] w2 fun e w' => Took (fun n => .int .i64 n) (w.heap.size + 1) g w2 R e w') :
    Calls Tryz.prog 133 #[.pointer (some ⟨p, 0, none⟩), .func (.func 134) #[] #[.pointer (some ⟨L, 0, none⟩), .pointer (some ⟨H, 0, none⟩)]] w fun e w' => Red (fun n => .int .i64 n) (.int .i64 0) p bs w R e w' := by
  have hmf : ∀ (fn : Fn) (first cap : Array Value) (w : World), (Instr.makeFunc fn first cap).run Tryz.prog w = .ok (.func fn first cap) w := fun _ _ _ _ => rfl
  have hb1 : Below w.heap.size w (w.alloc (.cells #[.pointer (some ⟨p, 0, none⟩)] 139)) := (Below.refl _ _).alloc (Nat.le_refl _) _
  have hp0 := hr.1
  have hr1 := hr.below hb1
  have hf1 := fault_any p bs 0 _ hr1
  have hr2 := hr1.below ((Below.refl _ _).alloc (Nat.le_refl _) (.cells #[.pointer (some ⟨p, 0, none⟩)] 139))
  have hrr := hr
  obtain ⟨_, a, cap, hh, hrow, hl, hm, hnil⟩ := hr
  have hc0 : (w.alloc (.cells #[.pointer (some ⟨p, 0, none⟩)] 139)).cell? ⟨p, 0, none⟩ = some (.slice a bs.length cap) := by rw [cell_of_row _ _ _ _ _ _ (by rw [hb1.block p hp0]; exact hh)]; rfl
  have hcb : (w.alloc (.cells #[.pointer (some ⟨p, 0, none⟩)] 139)).cell? ⟨w.heap.size, 0, none⟩ = some (.pointer (some ⟨p, 0, none⟩)) := by rw [cell_of_row _ _ _ _ _ _ (heap_alloc_new w _)]; rfl
  have hb2 : Below w.heap.size w ((w.alloc (.cells #[.pointer (some ⟨p, 0, none⟩)] 139)).alloc (.cells #[.slice a bs.length cap] 198)) := hb1.alloc hb1.size _
  have hcur2 : Cur ((w.alloc (.cells #[.pointer (some ⟨p, 0, none⟩)] 139)).alloc (.cells #[.slice a bs.length cap] 198)) (w.heap.size + 1) (w.heap.size + 1) bs := by
    refine ⟨Nat.le_refl _, a, cap, ?_, ?_, hl, hm, hnil⟩
    · have e := heap_alloc_new (w.alloc (.cells #[.pointer (some ⟨p, 0, none⟩)] 139)) (.cells #[.slice a bs.length cap] 198)
      simp only [World.size_alloc] at e
      exact e
    · rcases hrow with h | ⟨b, o, e, hlt, hc⟩
      · exact .inl h
      · exact .inr ⟨b, o, e, by omega, Nat.lt_of_lt_of_le hlt hb2.size, fun i hi => by rw [hb2.cell (p := ⟨b, o + i, none⟩) hlt]; exact hc i hi⟩
  have ht := htake _ (w.heap.size + 1) hb2 hcur2
  have hcb2 : ((w.alloc (.cells #[.pointer (some ⟨p, 0, none⟩)] 139)).alloc (.cells #[.slice a bs.length cap] 198)).cell? ⟨w.heap.size, 0, none⟩ = some (.pointer (some ⟨p, 0, none⟩)) := by
    rw [World.cell?_of_block (w := w.alloc (.cells #[.pointer (some ⟨p, 0, none⟩)] 139)) (Below.heap_alloc _ _ _ (by simp))]; exact hcb
  have HCB2 := hide_it hcb2
  clear hcur2 htake hrow hh hcb2
  go_enter_defers Tryz.func133, Tryz.ntmps133
  go_wp2_with (go_at_call 113; refine hf1.mono ?_; rintro e w' ⟨rfl, hq⟩; have hq2 := hq.symm; subst hq2; clear hq)
  refine ht.mono ?_
  intro e w3 hk
  clear ht hf1 hc0 hcb hr1 hr2
  cases R with
  | error c =>
    obtain ⟨rfl, hb3⟩ := hk
    have hbw := hb2.trans (hb3.mono (by omega))
    have hr3 := hrr.below hbw
    obtain ⟨q1, q2, q3, _⟩ := hr3.cell1
    have hcb3 : w3.cell? ⟨w.heap.size, 0, none⟩ = some (.pointer (some ⟨p, 0, none⟩)) := (hb3.cell (p := ⟨w.heap.size, 0, none⟩) (by simp)).trans HCB2.out
    go_wp2_with fail
    refine leaves_cons (f := 148) (args := #[.pointer (some ⟨w.heap.size, 0, none⟩)]) (by simp) (by simp [go_sem]) ?_
    refine (catchPI w.heap.size p 0 (c : Int) [] _ hcb3 q1 q2).mono ?_
    rintro e u' w'' ⟨rfl, rfl, rfl⟩
    simp [Leaves, settle, results, Tryz.results133, go_sem]
    exact ⟨grown_setCell (grown_of_below hbw p) _ _, rfl, hr3.setFault c⟩
  | ok x =>
    obtain ⟨x, t⟩ := x
    obtain ⟨rfl, hcur, hb3⟩ := hk
    have hbw := hb2.trans (hb3.mono (by omega))
    have hr3 := hrr.below hbw
    obtain ⟨q1, q2, q3, v0, q4⟩ := hr3.cell1
    have hcb3 : w3.cell? ⟨w.heap.size, 0, none⟩ = some (.pointer (some ⟨p, 0, none⟩)) := (hb3.cell (p := ⟨w.heap.size, 0, none⟩) (by simp)).trans HCB2.out
    obtain ⟨_, a', cap', hh', hrow', hl', hm', hnil'⟩ := hcur
    have hc3 : w3.cell? ⟨w.heap.size + 1, 0, none⟩ = some (.slice a' t.length cap') := by rw [cell_of_row _ _ _ _ _ _ hh']; rfl
    have HR := hide_it hrow'.row
    clear hh' hrow'
    go_wp2_with fail
    refine leaves_cons (f := 148) (args := #[.pointer (some ⟨w.heap.size, 0, none⟩)]) (by simp) (by simp [go_sem]) ?_
    refine (catchII w.heap.size _).mono ?_
    rintro e u' w'' ⟨rfl, rfl, rfl⟩
    simp [Leaves, settle, results, Tryz.results133, go_sem]
    exact ⟨grown_setCell (grown_of_below hbw p) _ _, rfl, hr3.setRest HR.out hl' hm' hnil'⟩

theorem left_st (rp : Option Addr) (s : List Nat × Nat) (w : World) (h : Rst w rp s) :
    Calls Tryz.prog 114 #[.pointer rp] w fun e w' => e = .returned (.int .i64 (s.1.length : Int)) ∧ w' = w := by
  rcases h with ⟨rfl, rfl⟩ | ⟨p, rfl, h2, _⟩
  · exact left_nil w
  · exact left_any p s.1 s.2 w h2

theorem end_st (rp : Option Addr) (s : List Nat × Nat) (w : World) (h : Rst w rp s) :
    Calls Tryz.prog 84 #[.pointer rp] w fun e w' => e = .returned (.int .i64 ((endOf s.1 s.2 : Nat) : Int)) ∧ w' = w := by
  rcases h with ⟨rfl, rfl⟩ | ⟨p, rfl, h2, _⟩
  · exact end_nil w
  · exact end_any p s.1 s.2 w h2

set_option maxRecDepth 100000 in
set_option maxHeartbeats 400000 in
theorem shutI (rp : Option Addr) (K : Nat) (caps : Array Value) (s : List Nat × Nat) (w : World) (hs : Rst w rp s) (hf : s.2 ≠ 0) :
    Calls Tryz.prog 133 #[.pointer rp, .func (.func K) #[] caps] w fun e w' => e = .returned (.int .i64 0) ∧ Below w.heap.size w w' := by
  have hb1 : Below w.heap.size w (w.alloc (.cells #[.pointer rp] 139)) := (Below.refl _ _).alloc (Nat.le_refl _) _
  have hf1 := fault_st rp s _ (hs.below hb1)
  have hne : ((s.2 : Int) == 0) = false := by simp; omega
  clear hf hs
  generalize s.2 = f at *
  go_enter_defers Tryz.func133, Tryz.ntmps133
  go_wp2_with fail
  refine hf1.mono ?_
  rintro e w' ⟨rfl, hq⟩
  have hq2 := hq.symm
  subst hq2
  clear hq hf1
  go_wp2_with fail
  simp [bodyPostD, Leaves, results, Tryz.results133, go_sem]
  exact hb1

set_option maxRecDepth 100000 in
set_option maxHeartbeats 400000 in
theorem shutS (rp : Option Addr) (K : Nat) (caps : Array Value) (s : List Nat × Nat) (w : World) (hs : Rst w rp s) (hf : s.2 ≠ 0) :
    Calls Tryz.prog 130 #[.pointer rp, .func (.func K) #[] caps] w fun e w' => e = .returned (.string ⟨#[]⟩) ∧ Below w.heap.size w w' := by
  have hb1 : Below w.heap.size w (w.alloc (.cells #[.pointer rp] 139)) := (Below.refl _ _).alloc (Nat.le_refl _) _
  have hf1 := fault_st rp s _ (hs.below hb1)
  have hne : ((s.2 : Int) == 0) = false := by simp; omega
  clear hf hs
  generalize s.2 = f at *
  go_enter_defers Tryz.func130, Tryz.ntmps130
  go_wp2_with fail
  refine hf1.mono ?_
  rintro e w' ⟨rfl, hq⟩
  have hq2 := hq.symm
  subst hq2
  clear hq hf1
  go_wp2_with fail
  simp [bodyPostD, Leaves, results, Tryz.results130, go_sem]
  exact hb1

set_option maxRecDepth 100000 in
set_option maxHeartbeats 400000 in
theorem shutB (rp : Option Addr) (K : Nat) (caps : Array Value) (s : List Nat × Nat) (w : World) (hs : Rst w rp s) (hf : s.2 ≠ 0) :
    Calls Tryz.prog 136 #[.pointer rp, .func (.func K) #[] caps] w fun e w' => e = .returned (.slice none 0 0) ∧ Below w.heap.size w w' := by
  have hb1 : Below w.heap.size w (w.alloc (.cells #[.pointer rp] 139)) := (Below.refl _ _).alloc (Nat.le_refl _) _
  have hf1 := fault_st rp s _ (hs.below hb1)
  have hne : ((s.2 : Int) == 0) = false := by simp; omega
  clear hf hs
  generalize s.2 = f at *
  go_enter_defers Tryz.func136, Tryz.ntmps136
  go_wp2_with fail
  refine hf1.mono ?_
  rintro e w' ⟨rfl, hq⟩
  have hq2 := hq.symm
  subst hq2
  clear hq hf1
  go_wp2_with fail
  simp [bodyPostD, Leaves, results, Tryz.results136, go_sem]
  exact hb1

set_option maxRecDepth 100000 in
set_option maxHeartbeats 400000 in
theorem intC (base g L H : Nat) (low high : Int) (bs : List Nat) (w : World) (hc : Cur w base g bs) (h8 : All8 bs) (hL : w.cell? ⟨L, 0, none⟩ = some (.int .i64 low)) (hH : w.cell? ⟨H, 0, none⟩ = some (.int .i64 high))
    (hl1 : -9223372036854775808 ≤ low) (hl2 : low ≤ 9223372036854775807) (hh1 : -9223372036854775808 ≤ high) (hh2 : high ≤ 9223372036854775807) :
    Calls Tryz.prog 134 #[.pointer (some ⟨g, 0, none⟩), .pointer (some ⟨L, 0, none⟩), .pointer (some ⟨H, 0, none⟩)] w fun e w' => Took (fun n => .int .i64 n) base g w (takeShort low high bs) e w' := by
  have hs := short_any base g low high bs w hc h8 hl1 hl2 hh1 hh2
  obtain ⟨R, hR⟩ : ∃ R, R = takeShort low high bs := ⟨_, rfl⟩
  rw [← hR] at hs ⊢
  clear hR hc
  go_enter Tryz.func134, Tryz.ntmps134
  go_wp2_with fail
  refine hs.mono ?_
  intro e w1 ht
  cases R with
  | error c =>
    obtain ⟨rfl, hb⟩ := ht
    go_wp2_with fail
    exact ⟨rfl, rfl, hb⟩
  | ok x =>
    obtain ⟨v, t⟩ := x
    obtain ⟨rfl, hcur, hb⟩ := ht
    have HC := hide_it hcur
    clear hcur hs
    go_wp2_with fail
    go_ret
    exact ⟨rfl, HC.out, hb⟩

set_option maxRecDepth 100000 in
set_option maxHeartbeats 400000 in
theorem int_any (rp : Option Addr) (low high : Int) (s : List Nat × Nat) (w : World) (hs : Rst w rp s) (hl1 : -9223372036854775808 ≤ low) (hl2 : low ≤ 9223372036854775807) (hh1 : -9223372036854775808 ≤ high) (hh2 : high ≤ 9223372036854775807) :
    Calls Tryz.prog 111 #[.pointer rp, .int .i64 low, .int .i64 high] w fun e w' => Read (fun n => .int .i64 n) rp w (rdOf 0 (takeShort low high) s) e w' := by
  have hmf : ∀ (fn : Fn) (first cap : Array Value) (w : World), (Instr.makeFunc fn first cap).run Tryz.prog w = .ok (.func fn first cap) w := fun _ _ _ _ => rfl
  have hb1 : Below w.heap.size w (w.alloc (.cells #[.int .i64 low] 3)) := (Below.refl _ _).alloc (Nat.le_refl _) _
  have hb2 : Below w.heap.size w ((w.alloc (.cells #[.int .i64 low] 3)).alloc (.cells #[.int .i64 high] 3)) := hb1.alloc hb1.size _
  have hs2 := hs.below hb2
  have hcL : ((w.alloc (.cells #[.int .i64 low] 3)).alloc (.cells #[.int .i64 high] 3)).cell? ⟨w.heap.size, 0, none⟩ = some (.int .i64 low) := by
    rw [World.cell?_of_block (w := w.alloc (.cells #[.int .i64 low] 3)) (Below.heap_alloc _ _ _ (by simp)), cell_of_row _ _ _ _ _ _ (heap_alloc_new w _)]; rfl
  have hcH : ((w.alloc (.cells #[.int .i64 low] 3)).alloc (.cells #[.int .i64 high] 3)).cell? ⟨w.heap.size + 1, 0, none⟩ = some (.int .i64 high) := by
    have e := heap_alloc_new (w.alloc (.cells #[.int .i64 low] 3)) (.cells #[.int .i64 high] 3)
    simp only [World.size_alloc] at e
    rw [cell_of_row _ _ _ _ _ _ e]; rfl
  have hx : Calls Tryz.prog 133 #[.pointer rp, .func (.func 134) #[] #[.pointer (some ⟨w.heap.size, 0, none⟩), .pointer (some ⟨w.heap.size + 1, 0, none⟩)]] ((w.alloc (.cells #[.int .i64 low] 3)).alloc (.cells #[.int .i64 high] 3)) fun e w' => Read (fun n => .int .i64 n) rp w (rdOf 0 (takeShort low high) s) e w' := by
    by_cases hf : s.2 = 0
    · rcases hs2 with ⟨_, rfl⟩ | ⟨p, rfl, h2, h8⟩
      · cases hf
      · obtain ⟨bs, f⟩ := s
        cases hf
        refine (readingI p w.heap.size (w.heap.size + 1) bs _ (takeShort low high bs) h2 (fun w2 g hb hc => intC _ g _ _ low high bs w2 hc h8 ?_ ?_ hl1 hl2 hh1 hh2)).mono fun e w' h => (Read.of_red (zero := 0) h h8 (fun x t e => takeShort_all e h8)).pre hb2
        · rw [hb.cell (p := ⟨w.heap.size, 0, none⟩) (by simp; omega)]; exact hcL
        · rw [hb.cell (p := ⟨w.heap.size + 1, 0, none⟩) (by simp)]; exact hcH
    · exact (shutI rp _ _ s _ hs2 hf).mono fun e w' h => (Read.of_shut (zero := 0) hs2 hf h.1 h.2).pre hb2
  clear hs hs2 hcL hcH
  go_enter Tryz.func111, Tryz.ntmps111
  go_wp2_with fail
  refine hx.mono ?_
  rintro e w1 ⟨rfl, hk⟩
  go_wp2_with fail
  go_ret
  exact ⟨rfl, hk⟩

theorem Cur.lt {w : World} {base g : Nat} {bs : List Nat} (h : Cur w base g bs) : g < w.heap.size := by
  obtain ⟨_, a, cap, hh, _⟩ := h
  exact (Array.getElem?_eq_some_iff.1 hh).1

theorem Cur.below {w w' : World} {base g : Nat} {bs : List Nat} (h : Cur w base g bs) (hb : Below w.heap.size w w') : Cur w' base g bs := by
  have hlt := h.lt
  obtain ⟨hg, a, cap, hh, hr, h1⟩ := h
  refine ⟨hg, a, cap, by rw [hb.block g hlt]; exact hh, ?_, h1⟩
  rcases hr with h | ⟨b, o, e, h2, h3, h4⟩
  · exact .inl h
  · exact .inr ⟨b, o, e, h2, Nat.lt_of_lt_of_le h3 hb.size, fun i hi => by rw [hb.cell (p := ⟨b, o + i, none⟩) h3]; exact h4 i hi⟩

theorem takeCounted_all {most : Int} {bs : List Nat} (h8 : All8 bs) : ∀ x t, takeCounted most bs = .ok (x, t) → All8 t := fun x t h => by
  unfold takeCounted at h
  split at h
  · cases h
  · next e =>
    split at h
    · cases h
    · cases h; exact (takeShort_all e h8).drop _

theorem takeCounted_len {most : Int} {bs p t : List Nat} (h : takeCounted most bs = .ok (p, t)) : p.length ≤ bs.length ∧ p.length + t.length ≤ bs.length := by
  have hs : ∀ n s, takeShort 0 most bs = .ok (n, s) → s.length ≤ bs.length := fun n s hs => by
    unfold takeShort at hs
    split at hs
    · cases hs
    · split at hs
      · cases hs
      · next e =>
        split at hs
        · cases hs
        · cases hs; exact groups_len bs 0 0 e
  unfold takeCounted at h
  split at h
  · cases h
  · next e =>
    split at h
    · cases h
    · have := hs _ _ e
      cases h; simp; omega

set_option maxRecDepth 100000 in
set_option maxHeartbeats 400000 in
theorem textC (base g L : Nat) (most : Int) (bs : List Nat) (w : World) (hc : Cur w base g bs) (h8 : All8 bs) (hL : w.cell? ⟨L, 0, none⟩ = some (.int .i64 most)) (hl1 : -9223372036854775808 ≤ most) (hl2 : most ≤ 9223372036854775807) :
    Calls Tryz.prog 131 #[.pointer (some ⟨g, 0, none⟩), .pointer (some ⟨L, 0, none⟩)] w fun e w' => Took (fun p => .string (strOf p)) base g w (takeCounted most bs) e w' := by
  have hs := counted_any base g most bs w hc h8 hl1 hl2
  obtain ⟨R, hR⟩ : ∃ R, R = takeCounted most bs := ⟨_, rfl⟩
  rw [← hR] at hs ⊢
  clear hR hc
  go_enter Tryz.func131, Tryz.ntmps131
  go_wp2_with fail
  refine hs.mono ?_
  rintro e w1 (⟨c, rfl, rfl, hb⟩ | ⟨p, t, a, cap, rfl, rfl, hr, hna, hcur, hb⟩)
  · go_wp2_with fail
    exact ⟨rfl, rfl, hb⟩
  · have hcv := conv_row (cap := cap) hr.row hna
    have HC := hide_it hcur
    clear hcur hs
    go_wp2_with fail
    go_ret
    exact ⟨rfl, HC.out, hb⟩

set_option maxRecDepth 100000 in
set_option maxHeartbeats 1000000 in
theorem readingS (p : Nat) (L : Nat) (bs : List Nat) (w : World) (R : Except Nat (List Nat × List Nat)) (hr : Rdr w p bs 0)
    (htake : ∀ (w2 : World) (g : Nat), Below w.heap.size w w2 → Cur w2 (w.heap.size + 1) g bs → Calls Tryz.prog 131 #[.pointer (some ⟨g, 0, none⟩), .pointer (some ⟨L, 0, none⟩)] w2 fun e w' => Took (fun p => .string (strOf p)) (w.heap.size + 1) g w2 R e w') :
    Calls Tryz.prog 130 #[.pointer (some ⟨p, 0, none⟩), .func (.func 131) #[] #[.pointer (some ⟨L, 0, none⟩)]] w fun e w' => Red (fun p => .string (strOf p)) (.string ⟨#[]⟩) p bs w R e w' := by
  have hmf : ∀ (fn : Fn) (first cap : Array Value) (w : World), (Instr.makeFunc fn first cap).run Tryz.prog w = .ok (.func fn first cap) w := fun _ _ _ _ => rfl
  have hb1 : Below w.heap.size w (w.alloc (.cells #[.pointer (some ⟨p, 0, none⟩)] 139)) := (Below.refl _ _).alloc (Nat.le_refl _) _
  have hp0 := hr.1
  have hr1 := hr.below hb1
  have hf1 := fault_any p bs 0 _ hr1
  have hr2 := hr1.below ((Below.refl _ _).alloc (Nat.le_refl _) (.cells #[.pointer (some ⟨p, 0, none⟩)] 139))
  have hrr := hr
  obtain ⟨_, a, cap, hh, hrow, hl, hm, hnil⟩ := hr
  have hc0 : (w.alloc (.cells #[.pointer (some ⟨p, 0, none⟩)] 139)).cell? ⟨p, 0, none⟩ = some (.slice a bs.length cap) := by rw [cell_of_row _ _ _ _ _ _ (by rw [hb1.block p hp0]; exact hh)]; rfl
  have hcb : (w.alloc (.cells #[.pointer (some ⟨p, 0, none⟩)] 139)).cell? ⟨w.heap.size, 0, none⟩ = some (.pointer (some ⟨p, 0, none⟩)) := by rw [cell_of_row _ _ _ _ _ _ (heap_alloc_new w _)]; rfl
  have hb2 : Below w.heap.size w ((w.alloc (.cells #[.pointer (some ⟨p, 0, none⟩)] 139)).alloc (.cells #[.slice a bs.length cap] 198)) := hb1.alloc hb1.size _
  have hcur2 : Cur ((w.alloc (.cells #[.pointer (some ⟨p, 0, none⟩)] 139)).alloc (.cells #[.slice a bs.length cap] 198)) (w.heap.size + 1) (w.heap.size + 1) bs := by
    refine ⟨Nat.le_refl _, a, cap, ?_, ?_, hl, hm, hnil⟩
    · have e := heap_alloc_new (w.alloc (.cells #[.pointer (some ⟨p, 0, none⟩)] 139)) (.cells #[.slice a bs.length cap] 198)
      simp only [World.size_alloc] at e
      exact e
    · rcases hrow with h | ⟨b, o, e, hlt, hc⟩
      · exact .inl h
      · exact .inr ⟨b, o, e, by omega, Nat.lt_of_lt_of_le hlt hb2.size, fun i hi => by rw [hb2.cell (p := ⟨b, o + i, none⟩) hlt]; exact hc i hi⟩
  have ht := htake _ (w.heap.size + 1) hb2 hcur2
  have hcb2 : ((w.alloc (.cells #[.pointer (some ⟨p, 0, none⟩)] 139)).alloc (.cells #[.slice a bs.length cap] 198)).cell? ⟨w.heap.size, 0, none⟩ = some (.pointer (some ⟨p, 0, none⟩)) := by
    rw [World.cell?_of_block (w := w.alloc (.cells #[.pointer (some ⟨p, 0, none⟩)] 139)) (Below.heap_alloc _ _ _ (by simp))]; exact hcb
  have HCB2 := hide_it hcb2
  clear hcur2 htake hrow hh hcb2
  go_enter_defers Tryz.func130, Tryz.ntmps130
  go_wp2_with (go_at_call 113; refine hf1.mono ?_; rintro e w' ⟨rfl, hq⟩; have hq2 := hq.symm; subst hq2; clear hq)
  refine ht.mono ?_
  intro e w3 hk
  clear ht hf1 hc0 hcb hr1 hr2
  cases R with
  | error c =>
    obtain ⟨rfl, hb3⟩ := hk
    have hbw := hb2.trans (hb3.mono (by omega))
    have hr3 := hrr.below hbw
    obtain ⟨q1, q2, q3, _⟩ := hr3.cell1
    have hcb3 : w3.cell? ⟨w.heap.size, 0, none⟩ = some (.pointer (some ⟨p, 0, none⟩)) := (hb3.cell (p := ⟨w.heap.size, 0, none⟩) (by simp)).trans HCB2.out
    go_wp2_with fail
    refine leaves_cons (f := 147) (args := #[.pointer (some ⟨w.heap.size, 0, none⟩)]) (by simp) (by simp [go_sem]) ?_
    refine (catchPS w.heap.size p 0 (c : Int) [] _ hcb3 q1 q2).mono ?_
    rintro e u' w'' ⟨rfl, rfl, rfl⟩
    simp [Leaves, settle, results, Tryz.results130, go_sem]
    exact ⟨grown_setCell (grown_of_below hbw p) _ _, rfl, hr3.setFault c⟩
  | ok x =>
    obtain ⟨x, t⟩ := x
    obtain ⟨rfl, hcur, hb3⟩ := hk
    have hbw := hb2.trans (hb3.mono (by omega))
    have hr3 := hrr.below hbw
    obtain ⟨q1, q2, q3, v0, q4⟩ := hr3.cell1
    have hcb3 : w3.cell? ⟨w.heap.size, 0, none⟩ = some (.pointer (some ⟨p, 0, none⟩)) := (hb3.cell (p := ⟨w.heap.size, 0, none⟩) (by simp)).trans HCB2.out
    obtain ⟨_, a', cap', hh', hrow', hl', hm', hnil'⟩ := hcur
    have hc3 : w3.cell? ⟨w.heap.size + 1, 0, none⟩ = some (.slice a' t.length cap') := by rw [cell_of_row _ _ _ _ _ _ hh']; rfl
    have HR := hide_it hrow'.row
    clear hh' hrow'
    go_wp2_with fail
    refine leaves_cons (f := 147) (args := #[.pointer (some ⟨w.heap.size, 0, none⟩)]) (by simp) (by simp [go_sem]) ?_
    refine (catchIS w.heap.size _).mono ?_
    rintro e u' w'' ⟨rfl, rfl, rfl⟩
    simp [Leaves, settle, results, Tryz.results130, go_sem]
    exact ⟨grown_setCell (grown_of_below hbw p) _ _, rfl, hr3.setRest HR.out hl' hm' hnil'⟩

/-- What comes of taking bytes: they lie in new memory. -/
def TookB (base g : Nat) (w : World) (r : Except Nat (List Nat × List Nat)) (e : Ending) (w' : World) : Prop :=
  match r with
  | .error c => e = .panicked [{ v := .iface 31 (.int .i64 (c : Int)), recovered := false }] ∧ Below base w w'
  | .ok (p, t) => ∃ v, e = .returned v ∧ OwnB w' base v p ∧ Cur w' base g t ∧ Below base w w'

/-- What comes of reading bytes. -/
def RedB (p : Nat) (bs : List Nat) (w : World) (r : Except Nat (List Nat × List Nat)) (e : Ending) (w' : World) : Prop :=
  w.grownBy w' (some p) ∧
  match r with
  | .error c => (∃ v, e = .returned v ∧ OwnB w' w.heap.size v []) ∧ Rdr w' p bs c
  | .ok (x, t) => (∃ v, e = .returned v ∧ OwnB w' w.heap.size v x) ∧ Rdr w' p t 0

set_option maxRecDepth 100000 in
set_option maxHeartbeats 1000000 in
theorem readingB (p : Nat) (L : Nat) (bs : List Nat) (w : World) (R : Except Nat (List Nat × List Nat)) (hr : Rdr w p bs 0)
    (htake : ∀ (w2 : World) (g : Nat), Below w.heap.size w w2 → Cur w2 (w.heap.size + 1) g bs → Calls Tryz.prog 137 #[.pointer (some ⟨g, 0, none⟩), .pointer (some ⟨L, 0, none⟩)] w2 fun e w' => TookB (w.heap.size + 1) g w2 R e w') :
    Calls Tryz.prog 136 #[.pointer (some ⟨p, 0, none⟩), .func (.func 137) #[] #[.pointer (some ⟨L, 0, none⟩)]] w fun e w' => RedB p bs w R e w' := by
  have hmf : ∀ (fn : Fn) (first cap : Array Value) (w : World), (Instr.makeFunc fn first cap).run Tryz.prog w = .ok (.func fn first cap) w := fun _ _ _ _ => rfl
  have hb1 : Below w.heap.size w (w.alloc (.cells #[.pointer (some ⟨p, 0, none⟩)] 139)) := (Below.refl _ _).alloc (Nat.le_refl _) _
  have hp0 := hr.1
  have hr1 := hr.below hb1
  have hf1 := fault_any p bs 0 _ hr1
  have hr2 := hr1.below ((Below.refl _ _).alloc (Nat.le_refl _) (.cells #[.pointer (some ⟨p, 0, none⟩)] 139))
  have hrr := hr
  obtain ⟨_, a, cap, hh, hrow, hl, hm, hnil⟩ := hr
  have hc0 : (w.alloc (.cells #[.pointer (some ⟨p, 0, none⟩)] 139)).cell? ⟨p, 0, none⟩ = some (.slice a bs.length cap) := by rw [cell_of_row _ _ _ _ _ _ (by rw [hb1.block p hp0]; exact hh)]; rfl
  have hcb : (w.alloc (.cells #[.pointer (some ⟨p, 0, none⟩)] 139)).cell? ⟨w.heap.size, 0, none⟩ = some (.pointer (some ⟨p, 0, none⟩)) := by rw [cell_of_row _ _ _ _ _ _ (heap_alloc_new w _)]; rfl
  have hb2 : Below w.heap.size w ((w.alloc (.cells #[.pointer (some ⟨p, 0, none⟩)] 139)).alloc (.cells #[.slice a bs.length cap] 198)) := hb1.alloc hb1.size _
  have hcur2 : Cur ((w.alloc (.cells #[.pointer (some ⟨p, 0, none⟩)] 139)).alloc (.cells #[.slice a bs.length cap] 198)) (w.heap.size + 1) (w.heap.size + 1) bs := by
    refine ⟨Nat.le_refl _, a, cap, ?_, ?_, hl, hm, hnil⟩
    · have e := heap_alloc_new (w.alloc (.cells #[.pointer (some ⟨p, 0, none⟩)] 139)) (.cells #[.slice a bs.length cap] 198)
      simp only [World.size_alloc] at e
      exact e
    · rcases hrow with h | ⟨b, o, e, hlt, hc⟩
      · exact .inl h
      · exact .inr ⟨b, o, e, by omega, Nat.lt_of_lt_of_le hlt hb2.size, fun i hi => by rw [hb2.cell (p := ⟨b, o + i, none⟩) hlt]; exact hc i hi⟩
  have ht := htake _ (w.heap.size + 1) hb2 hcur2
  have hcb2 : ((w.alloc (.cells #[.pointer (some ⟨p, 0, none⟩)] 139)).alloc (.cells #[.slice a bs.length cap] 198)).cell? ⟨w.heap.size, 0, none⟩ = some (.pointer (some ⟨p, 0, none⟩)) := by
    rw [World.cell?_of_block (w := w.alloc (.cells #[.pointer (some ⟨p, 0, none⟩)] 139)) (Below.heap_alloc _ _ _ (by simp))]; exact hcb
  have HCB2 := hide_it hcb2
  clear hcur2 htake hrow hh hcb2
  go_enter_defers Tryz.func136, Tryz.ntmps136
  go_wp2_with (go_at_call 113; refine hf1.mono ?_; rintro e w' ⟨rfl, hq⟩; have hq2 := hq.symm; subst hq2; clear hq)
  refine ht.mono ?_
  intro e w3 hk
  clear ht hf1 hc0 hcb hr1 hr2
  cases R with
  | error c =>
    obtain ⟨rfl, hb3⟩ := hk
    have hbw := hb2.trans (hb3.mono (by omega))
    have hr3 := hrr.below hbw
    obtain ⟨q1, q2, q3, _⟩ := hr3.cell1
    have hcb3 : w3.cell? ⟨w.heap.size, 0, none⟩ = some (.pointer (some ⟨p, 0, none⟩)) := (hb3.cell (p := ⟨w.heap.size, 0, none⟩) (by simp)).trans HCB2.out
    go_wp2_with fail
    refine leaves_cons (f := 151) (args := #[.pointer (some ⟨w.heap.size, 0, none⟩)]) (by simp) (by simp [go_sem]) ?_
    refine (catchPB w.heap.size p 0 (c : Int) [] _ hcb3 q1 q2).mono ?_
    rintro e u' w'' ⟨rfl, rfl, rfl⟩
    simp [Leaves, settle, results, Tryz.results136, go_sem]
    exact ⟨grown_setCell (grown_of_below hbw p) _ _, ⟨_, rfl, World.ownsRow_nil _ _ _ _⟩, hr3.setFault c⟩
  | ok x =>
    obtain ⟨x, t⟩ := x
    obtain ⟨v9, rfl, hown9, hcur, hb3⟩ := hk
    have HOWN := hide_it hown9
    clear hown9
    have hbw := hb2.trans (hb3.mono (by omega))
    have hr3 := hrr.below hbw
    obtain ⟨q1, q2, q3, v0, q4⟩ := hr3.cell1
    have hcb3 : w3.cell? ⟨w.heap.size, 0, none⟩ = some (.pointer (some ⟨p, 0, none⟩)) := (hb3.cell (p := ⟨w.heap.size, 0, none⟩) (by simp)).trans HCB2.out
    obtain ⟨_, a', cap', hh', hrow', hl', hm', hnil'⟩ := hcur
    have hc3 : w3.cell? ⟨w.heap.size + 1, 0, none⟩ = some (.slice a' t.length cap') := by rw [cell_of_row _ _ _ _ _ _ hh']; rfl
    have HR := hide_it hrow'.row
    clear hh' hrow'
    go_wp2_with fail
    refine leaves_cons (f := 151) (args := #[.pointer (some ⟨w.heap.size, 0, none⟩)]) (by simp) (by simp [go_sem]) ?_
    refine (catchIB w.heap.size _).mono ?_
    rintro e u' w'' ⟨rfl, rfl, rfl⟩
    simp [Leaves, settle, results, Tryz.results136, go_sem]
    exact ⟨grown_setCell (grown_of_below hbw p) _ _, ⟨_, rfl, (HOWN.out.mono (by omega)).set_old hp0 _ _⟩, hr3.setRest HR.out hl' hm' hnil'⟩

theorem takeCounted_most {most : Int} {bs p t : List Nat} (h : takeCounted most bs = .ok (p, t)) : (p.length : Int) ≤ most := by
  unfold takeCounted at h
  split at h
  · cases h
  · next e =>
    split at h
    · cases h
    · cases h
      have := takeShort_nat e
      rw [List.length_take]; omega

set_option maxRecDepth 100000 in
set_option maxHeartbeats 400000 in
theorem bytesC (base g L : Nat) (most : Int) (bs : List Nat) (w : World) (hc : Cur w base g bs) (h8 : All8 bs) (hbs : most ≤ 140737488355328) (hbw : base ≤ w.heap.size) (hL : w.cell? ⟨L, 0, none⟩ = some (.int .i64 most)) (hl1 : -9223372036854775808 ≤ most) (hl2 : most ≤ 9223372036854775807) :
    Calls Tryz.prog 137 #[.pointer (some ⟨g, 0, none⟩), .pointer (some ⟨L, 0, none⟩)] w fun e w' => TookB base g w (takeCounted most bs) e w' := by
  have hs := counted_any base g most bs w hc h8 hl1 hl2
  have hgl := hc.lt
  obtain ⟨R, hR⟩ : ∃ R, R = takeCounted most bs := ⟨_, rfl⟩
  have hlen := fun p t => takeCounted_most (most := most) (bs := bs) (p := p) (t := t)
  rw [← hR] at hs hlen ⊢
  clear hR hc
  go_enter Tryz.func137, Tryz.ntmps137
  go_wp2_with fail
  refine hs.mono ?_
  rintro e w1 (⟨c, rfl, rfl, hb⟩ | ⟨p, t, a, cap, rfl, rfl, hr, hna, hcur, hb⟩)
  · go_wp2_with fail
    exact ⟨rfl, rfl, hb⟩
  · have hpl := hlen p t rfl
    have hcl := clone_any a cap p w1 hr.row (by omega) hna
    have HC := hide_it hcur
    clear hcur hs hlen
    go_wp2_with fail
    refine hcl.mono ?_
    rintro e w2 ⟨⟨v, rfl, hown⟩, hb2⟩
    go_wp2_with fail
    go_ret
    have hsz := Nat.le_trans hbw hb.size
    exact ⟨_, rfl, hown.mono hsz, HC.out.below hb2, hb.trans (hb2.mono hsz)⟩

/-- What comes of a reading of bytes: they lie in new memory. -/
def ReadB (rp : Option Addr) (w : World) (r : List Nat × (List Nat × Nat)) (e : Ending) (w' : World) : Prop :=
  (∃ v, e = .returned v ∧ OwnB w' w.heap.size v r.1) ∧ Rst w' rp r.2 ∧ w.grownBy w' (rp.map (·.block))

theorem ReadB.pre {rp : Option Addr} {w w1 w' : World} {r : List Nat × (List Nat × Nat)} {e : Ending} (hb : Below w.heap.size w w1) (h : ReadB rp w1 r e w') : ReadB rp w r e w' := by
  obtain ⟨⟨v, h1, h2⟩, h3, h4⟩ := h
  exact ⟨⟨v, h1, h2.mono hb.size⟩, h3, grown_pre hb h4⟩

theorem ReadB.of_shut {take : List Nat → Except Nat (List Nat × List Nat)} {rp : Option Addr} {s : List Nat × Nat} {w w' : World} {e : Ending} (hs : Rst w rp s) (hf : s.2 ≠ 0) (he : e = .returned (.slice none 0 0)) (hb : Below w.heap.size w w') : ReadB rp w (rdOf [] take s) e w' := by
  have e1 : rdOf [] take s = ([], s) := if_pos hf
  rw [e1]
  exact ⟨⟨_, he, World.ownsRow_nil _ _ _ _⟩, hs.below hb, hb.os, hb.tape, hb.output, hb.size, fun k hk _ => hb.block k hk⟩

theorem ReadB.of_red {take : List Nat → Except Nat (List Nat × List Nat)} {p : Nat} {bs : List Nat} {w w' : World} {e : Ending} (h : RedB p bs w (take bs) e w') (h8 : All8 bs) (h8' : ∀ x t, take bs = .ok (x, t) → All8 t) : ReadB (some ⟨p, 0, none⟩) w (rdOf [] take (bs, 0)) e w' := by
  obtain ⟨hg, h⟩ := h
  unfold rdOf
  rw [if_neg (by simp)]
  cases ht : take bs with
  | error c => rw [ht] at h; exact ⟨h.1, .inr ⟨p, rfl, h.2, h8⟩, hg⟩
  | ok x =>
    obtain ⟨x, t⟩ := x
    rw [ht] at h; exact ⟨h.1, .inr ⟨p, rfl, h.2, h8' x t ht⟩, hg⟩

set_option maxRecDepth 100000 in
set_option maxHeartbeats 400000 in
theorem text_any (rp : Option Addr) (most : Int) (s : List Nat × Nat) (w : World) (hs : Rst w rp s) (hl1 : -9223372036854775808 ≤ most) (hl2 : most ≤ 9223372036854775807) :
    Calls Tryz.prog 110 #[.pointer rp, .int .i64 most] w fun e w' => Read (fun p => .string (strOf p)) rp w (rdOf [] (takeCounted most) s) e w' := by
  have hmf : ∀ (fn : Fn) (first cap : Array Value) (w : World), (Instr.makeFunc fn first cap).run Tryz.prog w = .ok (.func fn first cap) w := fun _ _ _ _ => rfl
  have hb1 : Below w.heap.size w (w.alloc (.cells #[.int .i64 most] 3)) := (Below.refl _ _).alloc (Nat.le_refl _) _
  have hs2 := hs.below hb1
  have hcL : (w.alloc (.cells #[.int .i64 most] 3)).cell? ⟨w.heap.size, 0, none⟩ = some (.int .i64 most) := by rw [cell_of_row _ _ _ _ _ _ (heap_alloc_new w _)]; rfl
  have hx : Calls Tryz.prog 130 #[.pointer rp, .func (.func 131) #[] #[.pointer (some ⟨w.heap.size, 0, none⟩)]] (w.alloc (.cells #[.int .i64 most] 3)) fun e w' => Read (fun p => .string (strOf p)) rp w (rdOf [] (takeCounted most) s) e w' := by
    by_cases hf : s.2 = 0
    · rcases hs2 with ⟨_, rfl⟩ | ⟨p, rfl, h2, h8⟩
      · cases hf
      · obtain ⟨bs, f⟩ := s
        cases hf
        refine (readingS p w.heap.size bs _ (takeCounted most bs) h2 (fun w2 g hb hc => textC _ g _ most bs w2 hc h8 ?_ hl1 hl2)).mono fun e w' h => (Read.of_red (zero := []) h h8 (takeCounted_all h8)).pre hb1
        · rw [hb.cell (p := ⟨w.heap.size, 0, none⟩) (by simp)]; exact hcL
    · exact (shutS rp _ _ s _ hs2 hf).mono fun e w' h => (Read.of_shut (zero := []) hs2 hf h.1 h.2).pre hb1
  clear hs hs2 hcL
  go_enter Tryz.func110, Tryz.ntmps110
  go_wp2_with fail
  refine hx.mono ?_
  rintro e w1 ⟨rfl, hk⟩
  go_wp2_with fail
  go_ret
  exact ⟨rfl, hk⟩

set_option maxRecDepth 100000 in
set_option maxHeartbeats 400000 in
theorem bytes_any (rp : Option Addr) (most : Int) (s : List Nat × Nat) (w : World) (hs : Rst w rp s) (hbs : most ≤ 140737488355328) (hl1 : -9223372036854775808 ≤ most) (hl2 : most ≤ 9223372036854775807) :
    Calls Tryz.prog 112 #[.pointer rp, .int .i64 most] w fun e w' => ReadB rp w (rdOf [] (takeCounted most) s) e w' := by
  have hmf : ∀ (fn : Fn) (first cap : Array Value) (w : World), (Instr.makeFunc fn first cap).run Tryz.prog w = .ok (.func fn first cap) w := fun _ _ _ _ => rfl
  have hb1 : Below w.heap.size w (w.alloc (.cells #[.int .i64 most] 3)) := (Below.refl _ _).alloc (Nat.le_refl _) _
  have hs2 := hs.below hb1
  have hcL : (w.alloc (.cells #[.int .i64 most] 3)).cell? ⟨w.heap.size, 0, none⟩ = some (.int .i64 most) := by rw [cell_of_row _ _ _ _ _ _ (heap_alloc_new w _)]; rfl
  have hx : Calls Tryz.prog 136 #[.pointer rp, .func (.func 137) #[] #[.pointer (some ⟨w.heap.size, 0, none⟩)]] (w.alloc (.cells #[.int .i64 most] 3)) fun e w' => ReadB rp w (rdOf [] (takeCounted most) s) e w' := by
    by_cases hf : s.2 = 0
    · rcases hs2 with ⟨_, rfl⟩ | ⟨p, rfl, h2, h8⟩
      · cases hf
      · obtain ⟨bs, f⟩ := s
        cases hf
        refine (readingB p w.heap.size bs _ (takeCounted most bs) h2 (fun w2 g hb hc => bytesC _ g _ most bs w2 hc h8 hbs ?_ ?_ hl1 hl2)).mono fun e w' h => (ReadB.of_red  h h8 (takeCounted_all h8)).pre hb1
        · exact Nat.le_trans hc.1 (Nat.le_of_lt hc.lt)
        · rw [hb.cell (p := ⟨w.heap.size, 0, none⟩) (by simp)]; exact hcL
    · exact (shutB rp _ _ s _ hs2 hf).mono fun e w' h => (ReadB.of_shut  hs2 hf h.1 h.2).pre hb1
  clear hs hs2 hcL
  go_enter Tryz.func112, Tryz.ntmps112
  go_wp2_with fail
  refine hx.mono ?_
  rintro e w1 ⟨⟨v, rfl, hv⟩, hk⟩
  go_wp2_with fail
  go_ret
  exact ⟨⟨_, rfl, hv⟩, hk⟩

theorem rdFixed_lt {W : Nat} {s : List Nat × Nat} (h8 : All8 s.1) : (rdOf 0 (takeFixed W) s).1 < 256 ^ W := by
  unfold rdOf
  split
  · exact Nat.pow_pos (by decide)
  · cases ht : takeFixed W s.1 with
    | error c => exact Nat.pow_pos (by decide)
    | ok x => obtain ⟨x, t⟩ := x; exact takeFixed_lt h8 ht

theorem rdCounted_all {most : Int} {s : List Nat × Nat} (h8 : All8 s.1) : All8 (rdOf [] (takeCounted most) s).1 := by
  unfold rdOf
  split
  · intro z hz; cases hz
  · cases ht : takeCounted most s.1 with
    | error c => intro z hz; cases hz
    | ok x =>
      obtain ⟨x, t⟩ := x
      unfold takeCounted at ht
      split at ht
      · cases ht
      · next e =>
        split at ht
        · cases ht
        · cases ht; exact (takeShort_all e h8).take _

theorem Rst.grown {w w' : World} {rp : Option Addr} {s : List Nat × Nat} (h : Rst w rp s) (hg : w.grownBy w' none) : Rst w' rp s :=
  h.below ⟨hg.os, hg.tape, hg.output, hg.size, fun k hk => hg.block k hk (by simp)⟩

end Go.Proofs.YtkacfpmninmjkaaGreat

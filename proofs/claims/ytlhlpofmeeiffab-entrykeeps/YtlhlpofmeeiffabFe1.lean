/- Numbers, texts and bytes laid down: one byte, the short form, texts and bytes behind their number. -/
import Derived.Test.YtlhlpofmeeiffabFc5
namespace Go.Proofs.Ytlhlpofmeeiffab
open Go.RowKit

set_option maxRecDepth 100000 in
set_option maxHeartbeats 400000 in
theorem put8 (a : Option Addr) (cap v : Nat) (zs : List Nat) (w : World) (hv : v < 256) (hr : RowB w a zs) (hl : zs.length + 8 ≤ 140737488355328) (hnil : a = none → zs.length = 0 ∧ cap = 0) :
    Calls Try.prog 28 #[.slice a zs.length cap, .int .u8 (v : Int)] w fun e w' => (∃ r, e = .returned r ∧ OwnB w' w.heap.size r (zs ++ beP 1 v 1)) ∧ Below w.heap.size w w' := by
  obtain ⟨i0, hi, hz0, hz1, hz2⟩ := info_parts infoB
  go_enter Try.func28, Try.ntmps28
  go_wp2_with (first | (go_at_call 42; refine (width8 _).mono ?_; rintro e w' ⟨rfl, hq⟩; have hq2 := hq.symm; subst hq2; clear hq) | (go_at_call 43; refine (withRoom_any a cap 1 zs _ hr (by omega) hnil).mono ?_; rintro e w1 ⟨⟨v1, rfl, hown1⟩, hb1⟩))
  clear hr hnil
  go_loopw [6, 7] (fun r i wr => ∃ m : Nat, m ≤ 1 ∧ i = .int .i64 ((m : Int) - 1) ∧ OwnB wr w.heap.size r (zs ++ beP 1 v (1 - m)) ∧ Below w.heap.size w wr) (fun _ i _ => (intOf i + 1).toNat)
  case atStart => exact ⟨1, by omega, rfl, by simpa [beP] using hown1, hb1⟩
  case round =>
    obtain ⟨m, hm, rfl, hown, hbl⟩ := hrel
    clear hown1 hb1
    cases m with
    | zero =>
      go_wp2
      go_ret
      exact ⟨⟨_, rfl, hown⟩, hbl⟩
    | succ n =>
      have e1 : (((n + 1 : Nat) : Int) - 1) = (n : Int) := by omega
      rw [e1]
      have hbs := hbl.size
      have hlen : (zs ++ beP 1 v (1 - (n + 1))).length ≤ zs.length + 0 := by simp [beP_len] <;> omega
      have HS := hide_it (beP_step (v := v) (W := 1) (n := n) (by omega))
      obtain ⟨y, hy⟩ : ∃ y, y = v / 256 ^ n := ⟨_, rfl⟩
      have hyl : y < 256 := by rw [hy]; exact Nat.lt_of_le_of_lt (Nat.div_le_self _ _) hv
      have hsh : (v : Int) / 2 ^ (8 * n) = (y : Int) := by rw [hy, ← pow8]; simp
      obtain ⟨x, hx⟩ : ∃ x, x = y % 256 := ⟨_, rfl⟩
      rw [← hy, ← hx] at HS
      have hwr : IntKind.u8.wrap (y : Int) = (x : Int) := by rw [hx]; exact wrap_byte y
      have hx8 : x < 256 := by omega
      obtain rfl : x = y := by omega
      have hn8 : (8 : Int) * (n : Int) ≤ 64 := by omega
      have how := hown
      have hone : ∀ u ∈ [Value.int .u8 (x : Int)], u.oneCell' = true := by simp [Value.oneCell']
      clear hown
      try clear hx
      try clear hy
      go_wp2_with (at_builtin; refine wpList_append_own_at _ rfl _ _ 22 rfl w.heap.size 5 i0 (.int .u8 0) 1 1 Try.underlying22 hi hz0 hz1 hz2 rfl (by omega) _ _ _ rfl (how.alloc _) ⟨wr.heap.size, 0, none⟩ 1 1 [.int .u8 (x : Int)] rfl rfl (cell_one_new _ _ _) hone (by unfold maxLen; omega) (by omega) (by simp; omega) ?_; intro v4 w4 hown4 hgrow4 hnil4 hat4)
      go_roundw
      case rel =>
        refine ⟨n, by omega, by go_num, ?_, (hbl.alloc hbs _).grown hgrow4 (by simp; omega) (fun j e => how.ge e)⟩
        rw [HS.out, ← List.append_assoc]
        exact OwnB.snoc hown4
      case measure => simp [intOf] <;> omega

/-- The fold of an int. -/
def foldI (n : Int) : Nat := if n < 0 then (-2 * n - 1).toNat else (2 * n).toNat

/-- The short form of a fold. -/
def shortL (f : Nat) : List Nat := if f < 128 then [f] else (f % 128 + 128) :: shortL (f / 128)
termination_by f
decreasing_by omega

theorem shortL_low {f : Nat} (h : f < 128) : shortL f = [f] := by rw [shortL, if_pos h]

theorem shortL_high {f : Nat} (h : ¬ f < 128) : shortL f = (f % 128 + 128) :: shortL (f / 128) := by rw [shortL, if_neg h]

theorem shortL_len : ∀ (k f : Nat), f < 128 ^ (k + 1) → (shortL f).length ≤ k + 1 := by
  intro k
  induction k with
  | zero => intro f hf; rw [shortL_low (by simpa using hf)]; simp
  | succ k ih =>
    intro f hf
    by_cases h : f < 128
    · rw [shortL_low h]; simp
    · rw [shortL_high h]
      have h2 : f / 128 < 128 ^ (k + 1) := by
        rw [Nat.pow_succ] at hf
        exact Nat.div_lt_of_lt_mul (by rw [Nat.mul_comm]; exact hf)
      have := ih _ h2
      simp; omega

theorem shortL_ten {f : Nat} (h : W64 f) : (shortL f).length ≤ 10 := shortL_len 9 f (Nat.lt_of_lt_of_le h (by decide))

theorem foldI_64 {n : Int} (h1 : -9223372036854775808 ≤ n) (h2 : n ≤ 9223372036854775807) : W64 (foldI n) := by
  unfold foldI W64
  split <;> omega

theorem testBit_compl {b i : Nat} (hb : W64 b) : (18446744073709551615 - b).testBit i = (decide (i < 64) && !b.testBit i) := by
  unfold W64 at hb
  have h : (18446744073709551615 - b) = 2 ^ 64 - (b + 1) := by omega
  rw [h, Nat.testBit_two_pow_sub_succ (by omega)]

theorem xor_all {x : Nat} (hx : W64 x) : (18446744073709551615 ^^^ x) = 18446744073709551615 - x := by
  apply Nat.eq_of_testBit_eq
  intro i
  have h1 : (18446744073709551615 : Nat) = 2 ^ 64 - 1 := by decide
  rw [Nat.testBit_xor, testBit_compl hx, h1, Nat.testBit_two_pow_sub_one]
  by_cases hi : i < 64
  · simp [hi]
  · have : x.testBit i = false := Nat.testBit_lt_two_pow (Nat.lt_of_lt_of_le (show x < 2 ^ 64 from hx) (Nat.pow_le_pow_right (by decide) (by omega)))
    simp [hi, this]

theorem neg_fold {n : Int} (h1 : -9223372036854775808 ≤ n) (hn : n < 0) : bits .xor .u64 IntKind.u64.max (IntKind.u64.wrap (IntKind.u64.wrap n * 2)) = ((foldI n : Nat) : Int) := by
  have e1 : IntKind.u64.wrap (IntKind.u64.wrap n * 2) = ((2 * n + 18446744073709551616).toNat : Int) := by
    simp [IntKind.wrap, IntKind.bits, IntKind.signed]
    omega
  have e2 : IntKind.u64.max = ((18446744073709551615 : Nat) : Int) := by decide
  have hx : W64 (2 * n + 18446744073709551616).toNat := by unfold W64; omega
  rw [e1, e2, u64_xor_nat _ _ (by decide) hx, xor_all hx]
  unfold foldI
  rw [if_pos hn]
  omega

set_option maxRecDepth 100000 in
set_option maxHeartbeats 400000 in
theorem fold_any (n : Int) (w : World) (h1 : -9223372036854775808 ≤ n) (h2 : n ≤ 9223372036854775807) :
    Calls Try.prog 53 #[.int .i64 n] w fun e w' => e = .returned (.int .u64 ((foldI n : Nat) : Int)) ∧ w' = w := by
  by_cases hn : n < 0
  · have hf := neg_fold h1 hn
    go_enter Try.func53, Try.ntmps53
    go_wp2
    all_goals go_ret
    all_goals exact ⟨rfl, rfl⟩
  · have hf : n * 2 = ((foldI n : Nat) : Int) := by unfold foldI; rw [if_neg hn]; omega
    have HF := hide_it hf
    clear hf
    go_enter Try.func53, Try.ntmps53
    go_wp2
    all_goals go_ret
    all_goals exact ⟨by rw [← HF.out]; rfl, rfl⟩

theorem or128 : ∀ z, z < 256 → z ||| 128 = z % 128 + 128 := by decide +kernel

set_option maxRecDepth 100000 in
set_option maxHeartbeats 400000 in
theorem appendShort_any (v : Value) (n : Int) (base : Nat) (zs : List Nat) (w : World) (h1 : -9223372036854775808 ≤ n) (h2 : n ≤ 9223372036854775807) (hown : OwnB w base v zs) (hb : base ≤ w.heap.size) (hl : zs.length + 10 ≤ 140737488355328) :
    Calls Try.prog 44 #[v, .int .i64 n] w fun e w' => (∃ r, e = .returned r ∧ OwnB w' base r (zs ++ shortL (foldI n))) ∧ Below base w w' := by
  have hf64 := foldI_64 h1 h2
  go_enter Try.func44, Try.ntmps44
  go_wp2_with (go_at_call 53; refine (fold_any n _ h1 h2).mono ?_; rintro e w' ⟨rfl, hq⟩; have hq2 := hq.symm; subst hq2; clear hq)
  go_loopw [0, 5] (fun r x wr => ∃ (k : Nat) (pre : List Nat), x = .int .u64 (k : Int) ∧ W64 k ∧ OwnB wr base r (zs ++ pre) ∧ Hid (pre ++ shortL k = shortL (foldI n)) ∧ Below base w wr) (fun _ x _ => (intOf x).toNat)
  case atStart => exact ⟨foldI n, [], rfl, hf64, by simpa using hown, rfl, Below.refl _ _⟩
  case round =>
    obtain ⟨k, pre, rfl, hk, how, hpre, hbl⟩ := hrel
    clear hown
    have hbs := Nat.le_trans hb hbl.size
    have hlen : (zs ++ pre).length + 1 ≤ zs.length + 10 := by
      have h10 := shortL_ten hf64
      have e := congrArg List.length hpre.out
      have hp : 1 ≤ (shortL k).length := by by_cases h : k < 128 <;> simp [shortL_low, shortL_high, h]
      simp at e ⊢; omega
    obtain ⟨z, hz⟩ : ∃ z, z = k % 256 := ⟨_, rfl⟩
    have hw8 : IntKind.u8.wrap (k : Int) = (z : Int) := by rw [hz]; exact wrap_byte k
    have hz8 : z < 256 := by omega
    unfold W64 at hk
    by_cases hlt : k < 128
    · have hlt1 : ¬ (128 : Int) ≤ (k : Int) := by omega
      have hd : decide ((128 : Int) ≤ (k : Int)) = false := by simpa using hlt1
      have hzk : Hid (z = k) := by unfold Hid; omega
      clear hz
      go_wp2_with (at_builtin; refine wpList_append_byte _ rfl _ _ rfl base _ _ rfl how z rfl (by omega) hbs ?_; intro v4 w4 hown4 hg4 hat4)
      go_ret
      refine ⟨⟨_, rfl, ?_⟩, (hbl.alloc hbs _).grown hg4 (by simp; omega) (fun j e => how.ge e)⟩
      rw [← hpre.out, shortL_low hlt, ← List.append_assoc, ← hzk.out]
      exact hown4
    · have hd : decide ((128 : Int) ≤ (k : Int)) = true := by simp; omega
      obtain ⟨y, hy⟩ : ∃ y, y = z % 128 + 128 := ⟨_, rfl⟩
      have hor : bits .or .u8 (z : Int) 128 = (y : Int) := by
        have := u8_or_nat z 128 hz8 (by decide)
        rw [or128 z hz8, ← hy] at this
        exact this
      have hyk : Hid (y = k % 128 + 128) := by unfold Hid; omega
      have HPRE : Hid (pre ++ [y] ++ shortL (k / 128) = shortL (foldI n)) := by
        unfold Hid
        rw [← hpre.out, shortL_high hlt, hyk.out]; simp
      clear hy hz hpre
      go_wp2_with (at_builtin; refine wpList_append_byte _ rfl _ _ rfl base _ _ rfl how y rfl (by omega) hbs ?_; intro v4 w4 hown4 hg4 hat4)
      go_roundw
      case rel =>
        exact ⟨k / 128, pre ++ [y], by simp, by unfold W64; omega, by rw [← List.append_assoc]; exact hown4, HPRE, (hbl.alloc hbs _).grown hg4 (by simp; omega) (fun j e => how.ge e)⟩
      case measure => simp [intOf]; omega

set_option maxRecDepth 100000 in
set_option maxHeartbeats 400000 in
theorem putInt_any (a : Option Addr) (cap : Nat) (n : Int) (zs : List Nat) (w : World) (h1 : -9223372036854775808 ≤ n) (h2 : n ≤ 9223372036854775807) (hr : RowB w a zs) (hl : zs.length + 10 ≤ 140737488355328) (hnil : a = none → zs.length = 0 ∧ cap = 0) :
    Calls Try.prog 31 #[.slice a zs.length cap, .int .i64 n] w fun e w' => (∃ r, e = .returned r ∧ OwnB w' w.heap.size r (zs ++ shortL (foldI n))) ∧ Below w.heap.size w w' := by
  go_enter Try.func31, Try.ntmps31
  go_wp2_with (go_at_call 43; refine (withRoom_any a cap 10 zs _ hr (by omega) hnil).mono ?_; rintro e w1 ⟨⟨v1, rfl, hown1⟩, hb1⟩)
  refine (appendShort_any v1 n w.heap.size zs w1 h1 h2 hown1 hb1.size hl).mono ?_
  rintro e w2 ⟨⟨v2, rfl, hown2⟩, hb2⟩
  go_wp2_with fail
  go_ret
  exact ⟨⟨_, rfl, hown2⟩, hb1.trans hb2⟩

theorem own_one (w : World) (z : Nat) : OwnB (w.alloc (.cells #[.int .u8 (z : Int)] 5)) w.heap.size (.slice (some ⟨w.heap.size, 0, none⟩) 1 1) [z] :=
  ⟨rfl, .inr ⟨_, _, _, rfl, Nat.le_refl _, heap_alloc_new w _, Nat.le_refl _, by unfold maxLen; omega, rfl, rfl⟩⟩

theorem foldI_nat (n : Nat) : foldI (n : Int) = 2 * n := by unfold foldI; rw [if_neg (by omega)]; omega

set_option maxRecDepth 100000 in
set_option maxHeartbeats 400000 in
theorem putText_any (a : Option Addr) (cap : Nat) (s : ByteArray) (zs : List Nat) (w : World) (hr : RowB w a zs) (hl : zs.length + 10 + s.size ≤ 140737488355328) (hnil : a = none → zs.length = 0 ∧ cap = 0) :
    Calls Try.prog 30 #[.slice a zs.length cap, .string s] w fun e w' => (∃ r, e = .returned r ∧ OwnB w' w.heap.size r (zs ++ shortL (2 * s.size) ++ strNat s)) ∧ Below w.heap.size w w' := by
  obtain ⟨i0, hi, hz0, hz1, hz2⟩ := info_parts infoB
  have h10 : (shortL (2 * s.size)).length ≤ 10 := shortL_ten (by unfold W64; omega)
  have e1 : (10 : Int) + (s.size : Int) = ((10 + s.size : Nat) : Int) := by omega
  have E1 := hide_it e1
  clear e1
  go_enter Try.func30, Try.ntmps30
  go_wp2_with fail
  rw [E1.out]
  refine (withRoom_any a cap (10 + s.size) zs _ hr (by omega) hnil).mono ?_
  rintro e w1 ⟨⟨v1, rfl, hown1⟩, hb1⟩
  clear hr hnil
  go_wp2_with fail
  refine (appendShort_any v1 (s.size : Int) w.heap.size zs w1 (by omega) (by omega) hown1 hb1.size (by omega)).mono ?_
  rintro e w2 ⟨⟨v2, rfl, hown2⟩, hb2⟩
  rw [foldI_nat] at hown2
  have hbw := hb1.trans hb2
  have hlen : (zs ++ shortL (2 * s.size)).length + s.size ≤ 140737488355328 := by rw [List.length_append]; omega
  clear hown1 hb1 hb2
  go_wp2_with (at_builtin; refine Lib.wpList_append_own_string _ rfl _ _ 22 9 rfl w.heap.size 5 i0 Try.underlying22 Try.underlying9 hi hz0 hz1 hz2 _ _ _ rfl hown2 s rfl (by unfold maxLen; omega) hlen hbw.size ?_; intro v4 w4 hown4 hg4 hnil4)
  go_ret
  refine ⟨⟨_, rfl, ?_⟩, hbw.grown hg4 hbw.size (fun j e => hown2.ge e)⟩
  unfold OwnB
  rw [List.length_append, List.map_append, strNat_len, ← strCells_nat]
  exact hown4

set_option maxRecDepth 100000 in
set_option maxHeartbeats 400000 in
theorem putBytes_any (a p : Option Addr) (cap cp : Nat) (zs ys : List Nat) (w : World) (hr : RowB w a zs) (hp : RowB w p ys) (hl : zs.length + 10 + ys.length ≤ 140737488355328) (hnil : a = none → zs.length = 0 ∧ cap = 0) (hnp : p = none → ys.length = 0 ∧ cp = 0) :
    Calls Try.prog 33 #[.slice a zs.length cap, .slice p ys.length cp] w fun e w' => (∃ r, e = .returned r ∧ OwnB w' w.heap.size r (zs ++ shortL (2 * ys.length) ++ ys)) ∧ Below w.heap.size w w' := by
  have h10 : (shortL (2 * ys.length)).length ≤ 10 := shortL_ten (by unfold W64; omega)
  have e1 : (10 : Int) + (ys.length : Int) = ((10 + ys.length : Nat) : Int) := by omega
  have E1 := hide_it e1
  clear e1
  go_enter Try.func33, Try.ntmps33
  go_wp2_with fail
  rw [E1.out]
  refine (withRoom_any a cap (10 + ys.length) zs _ hr (by omega) hnil).mono ?_
  rintro e w1 ⟨⟨v1, rfl, hown1⟩, hb1⟩
  clear hr hnil
  go_wp2_with fail
  refine (appendShort_any v1 (ys.length : Int) w.heap.size zs w1 (by omega) (by omega) hown1 hb1.size (by omega)).mono ?_
  rintro e w2 ⟨⟨v2, rfl, hown2⟩, hb2⟩
  rw [foldI_nat] at hown2
  have hbw := hb1.trans hb2
  have hpb := hp.below hbw
  have hlen : (zs ++ shortL (2 * ys.length)).length + ys.length ≤ 140737488355328 := by rw [List.length_append]; omega
  clear hown1 hb1 hb2 hp
  go_wp2_with (at_builtin; refine wpList_append_row _ rfl _ _ rfl w.heap.size _ _ rfl hown2 p cp ys rfl hpb hnp hlen hbw.size ?_; intro v4 w4 hown4 hg4 hat4)
  go_ret
  exact ⟨⟨_, rfl, hown4⟩, hbw.grown hg4 hbw.size (fun j e => hown2.ge e)⟩

end Go.Proofs.Ytlhlpofmeeiffab

/- The short form of a number: what the program lays and what the document's answer is. -/
import Derived.Test.YtfhinodieghklabBy3
namespace Go.Proofs.Ytfhinodieghklab
open Go.RowKit

/-- The fold of an int. -/
def foldI (n : Int) : Nat := if n < 0 then (-2 * n - 1).toNat else (2 * n).toNat
/-- The short form of a fold. -/
def shortL (f : Nat) : List Nat := if f < 128 then [f] else (f % 128 + 128) :: shortL (f / 128)
termination_by f
decreasing_by omega

theorem shortL_low {f : Nat} (h : f < 128) : shortL f = [f] := by rw [shortL, if_pos h]
theorem shortL_high {f : Nat} (h : ¬ f < 128) : shortL f = (f % 128 + 128) :: shortL (f / 128) := by rw [shortL, if_neg h]
theorem shortL_len : ∀ (k f : Nat), f < 128 ^ (k + 1) → (shortL f).length ≤ k + 1 := by
  intro k
  induction k with
  | zero => intro f hf; rw [shortL_low (by simpa using hf)]; simp
  | succ k ih =>
    intro f hf
    by_cases h : f < 128
    · rw [shortL_low h]; simp
    · rw [shortL_high h]
      have h2 : f / 128 < 128 ^ (k + 1) := by
        rw [Nat.pow_succ] at hf
        exact Nat.div_lt_of_lt_mul (by rw [Nat.mul_comm]; exact hf)
      have := ih _ h2
      simp; omega
theorem shortL_ten {f : Nat} (h : W64 f) : (shortL f).length ≤ 10 := shortL_len 9 f (Nat.lt_of_lt_of_le h (by decide))
theorem foldI_64 {n : Int} (h1 : -9223372036854775808 ≤ n) (h2 : n ≤ 9223372036854775807) : W64 (foldI n) := by
  unfold foldI W64
  split <;> omega

theorem testBit_compl {b i : Nat} (hb : W64 b) : (18446744073709551615 - b).testBit i = (decide (i < 64) && !b.testBit i) := by
  unfold W64 at hb
  have h : (18446744073709551615 - b) = 2 ^ 64 - (b + 1) := by omega
  rw [h, Nat.testBit_two_pow_sub_succ (by omega)]
theorem xor_all {x : Nat} (hx : W64 x) : (18446744073709551615 ^^^ x) = 18446744073709551615 - x := by
  apply Nat.eq_of_testBit_eq
  intro i
  have h1 : (18446744073709551615 : Nat) = 2 ^ 64 - 1 := by decide
  rw [Nat.testBit_xor, testBit_compl hx, h1, Nat.testBit_two_pow_sub_one]
  by_cases hi : i < 64
  · simp [hi]
  · have : x.testBit i = false := Nat.testBit_lt_two_pow (Nat.lt_of_lt_of_le (show x < 2 ^ 64 from hx) (Nat.pow_le_pow_right (by decide) (by omega)))
    simp [hi, this]
theorem neg_fold {n : Int} (h1 : -9223372036854775808 ≤ n) (hn : n < 0) : bits .xor .u64 IntKind.u64.max (IntKind.u64.wrap (IntKind.u64.wrap n * 2)) = ((foldI n : Nat) : Int) := by
  have e1 : IntKind.u64.wrap (IntKind.u64.wrap n * 2) = ((2 * n + 18446744073709551616).toNat : Int) := by
    simp [IntKind.wrap, IntKind.bits, IntKind.signed]
    omega
  have e2 : IntKind.u64.max = ((18446744073709551615 : Nat) : Int) := by decide
  have hx : W64 (2 * n + 18446744073709551616).toNat := by unfold W64; omega
  rw [e1, e2, u64_xor_nat _ _ (by decide) hx, xor_all hx]
  unfold foldI
  rw [if_pos hn]
  omega

set_option maxRecDepth 100000 in
set_option maxHeartbeats 400000 in
theorem fold_any (n : Int) (w : World) (h1 : -9223372036854775808 ≤ n) (h2 : n ≤ 9223372036854775807) :
    Calls Try.prog 70 #[.int .i64 n] w fun e w' => e = .returned (.int .u64 ((foldI n : Nat) : Int)) ∧ w' = w := by
  by_cases hn : n < 0
  · have hf := neg_fold h1 hn
    go_enter Try.func70, Try.ntmps70
    go_wp2
    all_goals go_ret
    all_goals exact ⟨rfl, rfl⟩
  · have hf : n * 2 = ((foldI n : Nat) : Int) := by unfold foldI; rw [if_neg hn]; omega
    have HF := hide_it hf
    clear hf
    go_enter Try.func70, Try.ntmps70
    go_wp2
    all_goals go_ret
    all_goals exact ⟨by rw [← HF.out]; rfl, rfl⟩

set_option maxRecDepth 100000 in
set_option maxHeartbeats 400000 in
theorem rfold_any (n : Int) (w : World) (h1 : -9223372036854775808 ≤ n) (h2 : n ≤ 9223372036854775807) :
    Calls Try.prog 81 #[.int .i64 n] w fun e w' => e = .returned (.int .u64 ((foldI n : Nat) : Int)) ∧ w' = w := by
  by_cases hn : n < 0
  · have hf : 2 * -(n + 1) + 1 = ((foldI n : Nat) : Int) := by unfold foldI; rw [if_pos hn]; omega
    have HF := hide_it hf
    clear hf
    go_enter Try.func81, Try.ntmps81
    go_wp2
    all_goals go_ret
    all_goals exact ⟨by rw [← HF.out]; rfl, rfl⟩
  · have hf : 2 * n = ((foldI n : Nat) : Int) := by unfold foldI; rw [if_neg hn]; omega
    have HF := hide_it hf
    clear hf
    go_enter Try.func81, Try.ntmps81
    go_wp2
    all_goals go_ret
    all_goals exact ⟨by rw [← HF.out]; rfl, rfl⟩

theorem or128 : ∀ z, z < 256 → z ||| 128 = z % 128 + 128 := by decide +kernel

set_option maxRecDepth 100000 in
set_option maxHeartbeats 400000 in
theorem appendShort_any (v : Value) (n : Int) (base : Nat) (zs : List Nat) (w : World) (h1 : -9223372036854775808 ≤ n) (h2 : n ≤ 9223372036854775807) (hown : OwnB w base v zs) (hb : base ≤ w.heap.size) (hl : zs.length + 10 ≤ 140737488355328) :
    Calls Try.prog 43 #[v, .int .i64 n] w fun e w' => (∃ r, e = .returned r ∧ OwnB w' base r (zs ++ shortL (foldI n))) ∧ Below base w w' := by
  have hf64 := foldI_64 h1 h2
  go_enter Try.func43, Try.ntmps43
  go_wp2_with (go_at_call 70; refine (fold_any n _ h1 h2).mono ?_; rintro e w' ⟨rfl, hq⟩; have hq2 := hq.symm; subst hq2; clear hq)
  go_loopw [0, 5] (fun r x wr => ∃ (k : Nat) (pre : List Nat), x = .int .u64 (k : Int) ∧ W64 k ∧ OwnB wr base r (zs ++ pre) ∧ Hid (pre ++ shortL k = shortL (foldI n)) ∧ Below base w wr) (fun _ x _ => (intOf x).toNat)
  case atStart => exact ⟨foldI n, [], rfl, hf64, by simpa using hown, rfl, Below.refl _ _⟩
  case round =>
    obtain ⟨k, pre, rfl, hk, how, hpre, hbl⟩ := hrel
    clear hown
    have hbs := Nat.le_trans hb hbl.size
    have hlen : (zs ++ pre).length + 1 ≤ zs.length + 10 := by
      have h10 := shortL_ten hf64
      have e := congrArg List.length hpre.out
      have hp : 1 ≤ (shortL k).length := by by_cases h : k < 128 <;> simp [shortL_low, shortL_high, h]
      simp at e ⊢; omega
    obtain ⟨z, hz⟩ : ∃ z, z = k % 256 := ⟨_, rfl⟩
    have hw8 : IntKind.u8.wrap (k : Int) = (z : Int) := by rw [hz]; exact wrap_byte k
    have hz8 : z < 256 := by omega
    unfold W64 at hk
    by_cases hlt : k < 128
    · have hlt1 : ¬ (128 : Int) ≤ (k : Int) := by omega
      have hd : decide ((128 : Int) ≤ (k : Int)) = false := by simpa using hlt1
      have hzk : Hid (z = k) := by unfold Hid; omega
      clear hz
      go_wp2_with (at_builtin; refine wpList_append_byte _ rfl _ _ rfl base _ _ rfl how z rfl (by omega) hbs ?_; intro v4 w4 hown4 hg4 hat4)
      go_ret
      refine ⟨⟨_, rfl, ?_⟩, (hbl.alloc hbs _).grown hg4 (by simp; omega) (fun j e => how.ge e)⟩
      rw [← hpre.out, shortL_low hlt, ← List.append_assoc, ← hzk.out]
      exact hown4
    · have hd : decide ((128 : Int) ≤ (k : Int)) = true := by simp; omega
      obtain ⟨y, hy⟩ : ∃ y, y = z % 128 + 128 := ⟨_, rfl⟩
      have hor : bits .or .u8 (z : Int) 128 = (y : Int) := by
        have := u8_or_nat z 128 hz8 (by decide)
        rw [or128 z hz8, ← hy] at this
        exact this
      have hyk : Hid (y = k % 128 + 128) := by unfold Hid; omega
      have HPRE : Hid (pre ++ [y] ++ shortL (k / 128) = shortL (foldI n)) := by
        unfold Hid
        rw [← hpre.out, shortL_high hlt, hyk.out]; simp
      clear hy hz hpre
      go_wp2_with (at_builtin; refine wpList_append_byte _ rfl _ _ rfl base _ _ rfl how y rfl (by omega) hbs ?_; intro v4 w4 hown4 hg4 hat4)
      go_roundw
      case rel =>
        exact ⟨k / 128, pre ++ [y], by simp, by unfold W64; omega, by rw [← List.append_assoc]; exact hown4, HPRE, (hbl.alloc hbs _).grown hg4 (by simp; omega) (fun j e => how.ge e)⟩
      case measure => simp [intOf]; omega

set_option maxRecDepth 100000 in
set_option maxHeartbeats 400000 in
theorem putInt_any (a : Option Addr) (cap : Nat) (n : Int) (zs : List Nat) (w : World) (h1 : -9223372036854775808 ≤ n) (h2 : n ≤ 9223372036854775807) (hr : RowB w a zs) (hl : zs.length + 10 ≤ 140737488355328) (hnil : a = none → zs.length = 0 ∧ cap = 0) :
    Calls Try.prog 18 #[.slice a zs.length cap, .int .i64 n] w fun e w' => (∃ r, e = .returned r ∧ OwnB w' w.heap.size r (zs ++ shortL (foldI n))) ∧ Below w.heap.size w w' := by
  go_enter Try.func18, Try.ntmps18
  go_wp2_with (go_at_call 44; refine (withRoom_any a cap 10 zs _ hr (by omega) hnil).mono ?_; rintro e w1 ⟨⟨v1, rfl, hown1⟩, hb1⟩)
  refine (appendShort_any v1 n w.heap.size zs w1 h1 h2 hown1 hb1.size hl).mono ?_
  rintro e w2 ⟨⟨v2, rfl, hown2⟩, hb2⟩
  go_wp2_with fail
  go_ret
  exact ⟨⟨_, rfl, hown2⟩, hb1.trans hb2⟩

theorem own_one (w : World) (z : Nat) : OwnB (w.alloc (.cells #[.int .u8 (z : Int)] 5)) w.heap.size (.slice (some ⟨w.heap.size, 0, none⟩) 1 1) [z] :=
  ⟨rfl, .inr ⟨_, _, _, rfl, Nat.le_refl _, heap_alloc_new w _, Nat.le_refl _, by unfold maxLen; omega, rfl, rfl⟩⟩

set_option maxRecDepth 100000 in
set_option maxHeartbeats 400000 in
theorem rshort_any : ∀ (f : Nat) (w : World), W64 f →
    Calls Try.prog 80 #[.int .u64 (f : Int)] w fun e w' => (∃ r, e = .returned r ∧ OwnB w' w.heap.size r (shortL f)) ∧ Below w.heap.size w w' := by
  intro f
  induction f using Nat.strongRecOn with
  | _ f ih =>
    intro w hf
    have h10 := shortL_ten hf
    unfold W64 at hf
    by_cases hlt : f < 128
    · have hd : decide ((f : Int) < 128) = true := by simp; omega
      obtain ⟨z, hz⟩ : ∃ z, z = f % 256 := ⟨_, rfl⟩
      have hw8 : IntKind.u8.wrap (f : Int) = (z : Int) := by rw [hz]; exact wrap_byte f
      have HZ : Hid (z = f) := by unfold Hid; omega
      clear hz ih
      go_enter Try.func80, Try.ntmps80
      go_wp2
      go_ret
      refine ⟨⟨_, rfl, ?_⟩, (Below.refl _ _).alloc (Nat.le_refl _) _⟩
      rw [shortL_low hlt, ← HZ.out]
      exact own_one w z
    · have hd : decide ((f : Int) < 128) = false := by simp; omega
      have e1 : (f : Int) / 128 = ((f / 128 : Nat) : Int) := by omega
      have e2 : (f : Int) % 128 + 128 = ((f % 128 + 128 : Nat) : Int) := by omega
      have E1 := hide_it e1
      have E2 := hide_it e2
      clear e1 e2
      rw [shortL_high hlt] at h10
      go_enter Try.func80, Try.ntmps80
      go_wp2_with fail
      rw [E1.out, E2.out]
      refine (ih (f / 128) (by omega) _ (by unfold W64; omega)).mono ?_
      rintro e w1 ⟨⟨r1, rfl, ho1⟩, hb1⟩
      have hb0 : Below w.heap.size w (w.alloc (.cells #[.int .u8 ((f % 128 + 128 : Nat) : Int)] 5)) := (Below.refl _ _).alloc (Nat.le_refl _) _
      have hbw := hb0.trans (hb1.mono hb0.size)
      have how := (own_one w (f % 128 + 128)).below hb1
      obtain ⟨p1, q1, hv1, hp1, _, _, hn1⟩ := ho1.row
      subst hv1
      clear ho1 hb1 hb0 ih
      simp at h10
      go_wp2_with (at_builtin; refine wpList_append_row _ rfl _ _ rfl w.heap.size _ _ rfl how p1 q1 _ rfl hp1 hn1 (by simp; omega) hbw.size ?_; intro v4 w4 hown4 hg4 hat4)
      go_ret
      exact ⟨⟨_, rfl, by rw [shortL_high hlt]; exact hown4⟩, hbw.grown hg4 hbw.size (fun j e => how.ge e)⟩

set_option maxRecDepth 100000 in
set_option maxHeartbeats 400000 in
theorem rputInt_any (a : Option Addr) (cap : Nat) (n : Int) (zs : List Nat) (w : World) (h1 : -9223372036854775808 ≤ n) (h2 : n ≤ 9223372036854775807) (hr : RowB w a zs) (hl : zs.length + 10 ≤ 140737488355328) (hnil : a = none → zs.length = 0 ∧ cap = 0) :
    Calls Try.prog 60 #[.slice a zs.length cap, .int .i64 n] w fun e w' => (∃ r, e = .returned r ∧ OwnB w' w.heap.size r (zs ++ shortL (foldI n))) ∧ Below w.heap.size w w' := by
  have hf64 := foldI_64 h1 h2
  have h10 := shortL_ten hf64
  have hb0 : Below w.heap.size w (w.alloc (.cells #[] 5)) := (Below.refl _ _).alloc (Nat.le_refl _) _
  have hr0 := hr.below hb0
  go_enter Try.func60, Try.ntmps60
  go_wp2_with (at_builtin; refine wpList_append_row _ rfl _ _ rfl w.heap.size _ [] rfl (own_empty w) a cap zs rfl hr0 hnil (by simp; omega) hb0.size ?_; intro vc w0 hown0 hg0 hat0)
  have hbw : Below w.heap.size w w0 := hb0.grown hg0 hb0.size (fun j e => by cases e; exact Nat.le_refl _)
  rw [List.nil_append] at hown0
  clear hg0 hat0 hb0 hr0 hr hnil
  refine (rfold_any n _ h1 h2).mono ?_
  rintro e w' ⟨rfl, hq⟩
  have hq2 := hq.symm
  subst hq2
  clear hq
  go_wp2_with fail
  refine (rshort_any (foldI n) _ hf64).mono ?_
  rintro e w1 ⟨⟨r1, rfl, ho1⟩, hb1⟩
  have hbw1 := hbw.trans (hb1.mono hbw.size)
  have how := hown0.below hb1
  obtain ⟨p1, q1, hv1, hp1, _, _, hn1⟩ := ho1.row
  subst hv1
  clear ho1 hb1 hbw hown0
  go_wp2_with (at_builtin; refine wpList_append_row _ rfl _ _ rfl w.heap.size _ _ rfl how p1 q1 _ rfl hp1 hn1 (by omega) hbw1.size ?_; intro v4 w4 hown4 hg4 hat4)
  go_ret
  exact ⟨⟨_, rfl, hown4⟩, hbw1.grown hg4 hbw1.size (fun j e => how.ge e)⟩
end Go.Proofs.Ytfhinodieghklab

/- Numbers, truth values and texts laid down as bytes by the program. -/
import Derived.Test.YtelcfmjhbjnkoaaOw4
namespace Go.Proofs.Ytelcfmjhbjnkoaa
open Go.RowKit

theorem xor63_low {a : Nat} (h : a < 9223372036854775808) : a ^^^ 9223372036854775808 = a + 9223372036854775808 := by
  have e : (9223372036854775808 : Nat) = 2 ^ 63 := by decide
  rw [e] at h ⊢
  apply Nat.eq_of_testBit_eq
  intro j
  rw [Nat.testBit_xor, Nat.testBit_two_pow, Nat.add_comm]
  rcases Nat.lt_trichotomy j 63 with g | g | g
  · rw [Nat.testBit_two_pow_add_gt g]
    have : ¬ 63 = j := by omega
    simp [this]
  · subst g
    rw [Nat.testBit_two_pow_add_eq]
    simp
  · have h1 : a < 2 ^ j := Nat.lt_of_lt_of_le h (Nat.pow_le_pow_right (by decide) (by omega))
    have h2 : 2 ^ 63 + a < 2 ^ j := Nat.lt_of_lt_of_le (show 2 ^ 63 + a < 2 ^ 64 by omega) (Nat.pow_le_pow_right (by decide) (by omega))
    rw [Nat.testBit_lt_two_pow h1, Nat.testBit_lt_two_pow h2]
    have : ¬ 63 = j := by omega
    simp [this]
theorem xor63_high {a : Nat} (h : 9223372036854775808 ≤ a) (h2 : a < 18446744073709551616) : a ^^^ 9223372036854775808 = a - 9223372036854775808 := by
  obtain ⟨c, rfl⟩ : ∃ c, a = c + 9223372036854775808 := ⟨a - 9223372036854775808, by omega⟩
  have hc : c < 9223372036854775808 := by omega
  rw [← xor63_low hc, Nat.xor_assoc, Nat.xor_self, Nat.xor_zero, xor63_low hc]
  omega
theorem and63_low {a : Nat} (h : a < 9223372036854775808) : a &&& 9223372036854775808 = 0 := by
  have e : (9223372036854775808 : Nat) = 2 ^ 63 := by decide
  rw [e] at h ⊢
  apply Nat.eq_of_testBit_eq
  intro j
  rw [Nat.testBit_and, Nat.testBit_two_pow]
  by_cases g : 63 = j
  · subst g; rw [Nat.testBit_lt_two_pow h]; simp
  · simp [g]
theorem and63_high {a : Nat} (h : 9223372036854775808 ≤ a) (h2 : a < 18446744073709551616) : a &&& 9223372036854775808 = 9223372036854775808 := by
  obtain ⟨c, rfl⟩ : ∃ c, a = 9223372036854775808 + c := ⟨a - 9223372036854775808, by omega⟩
  have hc : c < 2 ^ 63 := by omega
  have e : (9223372036854775808 : Nat) = 2 ^ 63 := by decide
  rw [e]
  apply Nat.eq_of_testBit_eq
  intro j
  rw [Nat.testBit_and, Nat.testBit_two_pow]
  by_cases g : 63 = j
  · subst g; rw [Nat.testBit_two_pow_add_eq, Nat.testBit_lt_two_pow hc]; simp
  · simp [g]
theorem testBit_compl {b i : Nat} (hb : W64 b) : (18446744073709551615 - b).testBit i = (decide (i < 64) && !b.testBit i) := by
  unfold W64 at hb
  have h : (18446744073709551615 - b) = 2 ^ 64 - (b + 1) := by omega
  rw [h, Nat.testBit_two_pow_sub_succ (by omega)]
theorem xor_all {x : Nat} (hx : W64 x) : (18446744073709551615 ^^^ x) = 18446744073709551615 - x := by
  apply Nat.eq_of_testBit_eq
  intro i
  have h1 : (18446744073709551615 : Nat) = 2 ^ 64 - 1 := by decide
  rw [Nat.testBit_xor, testBit_compl hx, h1, Nat.testBit_two_pow_sub_one]
  by_cases hi : i < 64
  · simp [hi]
  · have : x.testBit i = false := Nat.testBit_lt_two_pow (Nat.lt_of_lt_of_le (show x < 2 ^ 64 from hx) (Nat.pow_le_pow_right (by decide) (by omega)))
    simp [hi, this]

theorem bx63 {a : Nat} (h : a < 18446744073709551616) : bits .xor .u64 (a : Int) 9223372036854775808 = ((if a < 9223372036854775808 then a + 9223372036854775808 else a - 9223372036854775808 : Nat) : Int) := by
  have := u64_xor_nat a 9223372036854775808 h (by decide)
  by_cases g : a < 9223372036854775808
  · rw [if_pos g, ← xor63_low g]; exact this
  · rw [if_neg g, ← xor63_high (by omega) h]; exact this
theorem ba63 {a : Nat} (h : a < 18446744073709551616) : bits .and .u64 (a : Int) 9223372036854775808 = if a < 9223372036854775808 then 0 else 9223372036854775808 := by
  have := u64_and_nat a 9223372036854775808 h (by decide)
  by_cases g : a < 9223372036854775808
  · rw [if_pos g]; rw [and63_low g] at this; exact this
  · rw [if_neg g]; rw [and63_high (by omega) h] at this; exact this
theorem bn64 {a : Nat} (h : a < 18446744073709551616) : bits .xor .u64 IntKind.u64.max (a : Int) = ((18446744073709551615 - a : Nat) : Int) := by
  have e2 : IntKind.u64.max = ((18446744073709551615 : Nat) : Int) := by decide
  rw [e2, u64_xor_nat _ _ (by decide) h, xor_all h]

attribute [local go_sem] toBits fromBits

set_option maxRecDepth 100000 in
set_option maxHeartbeats 400000 in
theorem rising_any (a : Nat) (w : World) (ha : a < 18446744073709551616) :
    Calls Try.prog 33 #[.float .f64 a] w fun e w' => e = .returned (.int .u64 ((rise a : Nat) : Int)) ∧ w' = w := by
  have hc := fun w => cleanNumber_any a w ha
  have hl := cb_lt ha
  have hx := bx63 hl
  have hn := ba63 hl
  have hm := bn64 hl
  obtain ⟨z, hz⟩ : ∃ z, z = rise a := ⟨_, rfl⟩
  rw [← hz]
  unfold rise at hz
  have HZ := hide_it hz
  clear hz
  generalize cb a = c at *
  by_cases hlow : c < 9223372036854775808
  · rw [if_pos hlow] at hx hn
    go_enter Try.func33, Try.ntmps33
    go_wp2_with (go_at_call 50; refine (hc _).mono ?_; rintro e w' ⟨rfl, hq⟩; have hq2 := hq.symm; subst hq2; clear hq)
    go_ret
    exact ⟨by rw [HZ.out, if_pos hlow]; rfl, rfl⟩
  · rw [if_neg hlow] at hx hn
    go_enter Try.func33, Try.ntmps33
    go_wp2_with (go_at_call 50; refine (hc _).mono ?_; rintro e w' ⟨rfl, hq⟩; have hq2 := hq.symm; subst hq2; clear hq)
    go_ret
    exact ⟨by rw [HZ.out, if_neg hlow]; rfl, rfl⟩

set_option maxRecDepth 100000 in
set_option maxHeartbeats 400000 in
theorem unrising_any (a : Nat) (w : World) (ha : a < 18446744073709551616) :
    Calls Try.prog 55 #[.int .u64 (a : Int)] w fun e w' => e = .returned (.float .f64 (unr a)) ∧ w' = w := by
  have hx := bx63 ha
  have hn := ba63 ha
  have hm := bn64 ha
  obtain ⟨z, hz⟩ : ∃ z, z = unr a := ⟨_, rfl⟩
  rw [← hz]
  unfold unr at hz
  have HZ := hide_it hz
  clear hz
  by_cases h : a < 9223372036854775808
  · rw [if_pos h] at hx hn
    go_enter Try.func55, Try.ntmps55
    go_wp2
    go_ret
    exact ⟨by rw [HZ.out, if_neg (by omega)]; rfl, rfl⟩
  · rw [if_neg h] at hx hn
    go_enter Try.func55, Try.ntmps55
    go_wp2
    go_ret
    exact ⟨by rw [HZ.out, if_pos (by omega)]; rfl, rfl⟩

set_option maxRecDepth 100000 in
set_option maxHeartbeats 400000 in
theorem bit_any (b : Bool) (w : World) : Calls Try.prog 31 #[.bool b] w fun e w' => e = .returned (.int .u8 ((b.toNat : Nat) : Int)) ∧ w' = w := by
  cases b
  all_goals go_enter Try.func31, Try.ntmps31
  all_goals go_wp2
  all_goals go_ret
  all_goals exact ⟨rfl, rfl⟩

/-- Bytes of one's own that have grown: where they lie, and that nothing else has turned. -/
structure App (w w' : World) (base : Nat) (v r : Value) (zs : List Nat) : Prop where
  own : OwnB w' base r zs
  grown : w.grownBy w' v.ownBlock
  at_ : r.ownBlock = v.ownBlock ∨ ∃ j, r.ownBlock = some j ∧ w.heap.size ≤ j

theorem grown_of {w w1 w2 : World} {a b : Option Nat} (h1 : w.grownBy w1 a) (h2 : w1.grownBy w2 b) (hb : b = a ∨ ∃ j, b = some j ∧ w.heap.size ≤ j) : w.grownBy w2 a := by
  refine ⟨h2.os.trans h1.os, h2.tape.trans h1.tape, h2.output.trans h1.output, Nat.le_trans h1.size h2.size, fun k hk hne => ?_⟩
  rw [h2.block k (Nat.lt_of_lt_of_le hk h1.size) ?_, h1.block k hk hne]
  rcases hb with rfl | ⟨j, rfl, hj⟩
  · exact hne
  · intro e; cases e; omega
theorem App.trans {w w1 w2 : World} {base : Nat} {v r r2 : Value} {zs ys : List Nat} (h1 : App w w1 base v r zs) (h2 : App w1 w2 base r r2 ys) : App w w2 base v r2 ys := by
  refine ⟨h2.own, grown_of h1.grown h2.grown h1.at_, ?_⟩
  rcases h2.at_ with e | ⟨j, e, hj⟩
  · rw [e]; exact h1.at_
  · exact .inr ⟨j, e, Nat.le_trans h1.grown.size hj⟩
theorem grown_below {w w1 : World} (h : Below w.heap.size w w1) (a : Option Nat) : w.grownBy w1 a := ⟨h.os, h.tape, h.output, h.size, fun k hk _ => h.block k hk⟩
theorem App.pre {w w1 w2 : World} {base : Nat} {v r : Value} {zs : List Nat} (h : Below w.heap.size w w1) (h2 : App w1 w2 base v r zs) : App w w2 base v r zs := by
  refine ⟨h2.own, grown_of (grown_below h _) h2.grown (.inl rfl), ?_⟩
  rcases h2.at_ with e | ⟨j, e, hj⟩
  · exact .inl e
  · exact .inr ⟨j, e, Nat.le_trans h.size hj⟩
theorem App.below {w w' : World} {base : Nat} {v r : Value} {zs ys : List Nat} (h : App w w' base v r zs) (hv : OwnB w base v ys) (_ : base ≤ w.heap.size) : Below base w w' :=
  ⟨h.grown.os, h.grown.tape, h.grown.output, h.grown.size, fun k hk => by
    by_cases hlt : k < w.heap.size
    · exact h.grown.block k hlt (fun e => by have := hv.ge e.symm; omega)
    · omega⟩
theorem App.byte {w w' : World} {base : Nat} {v r : Value} {zs : List Nat} {ob : Obj} (ho : OwnB w' base r zs) (hg : (w.alloc ob).grownBy w' v.ownBlock) (ha : r.ownBlock = v.ownBlock ∨ r.ownBlock = some (w.heap.size + 1)) : App w w' base v r zs := by
  refine ⟨ho, grown_of (grown_below ((Below.refl _ _).alloc (Nat.le_refl _) _) _) hg (.inl rfl), ha.imp_right fun e => ⟨_, e, by omega⟩⟩

set_option maxRecDepth 100000 in
set_option maxHeartbeats 400000 in
theorem appendWord_any (v : Value) (u base : Nat) (zs : List Nat) (w : World) (hu : u < 18446744073709551616) (hown : OwnB w base v zs) (hb : base ≤ w.heap.size) (hl : zs.length + 8 ≤ 140737488355328) :
    Calls Try.prog 32 #[v, .int .u64 (u : Int)] w fun e w' => ∃ r, e = .returned r ∧ App w w' base v r (zs ++ beP 8 u 8) := by
  have hp := put64 none 0 u [] w hu (.inl rfl) (by simp) (fun _ => ⟨rfl, rfl⟩)
  have h8 : (beP 8 u 8).length = 8 := beP_len _ _ _
  go_enter Try.func32, Try.ntmps32
  go_wp2_with fail
  refine hp.mono ?_
  rintro e w1 ⟨⟨r1, rfl, ho1⟩, hb1⟩
  rw [List.nil_append] at ho1
  have how := hown.below hb1
  have hbs := Nat.le_trans hb hb1.size
  obtain ⟨a1, c1, rfl, hr1, _, _, hn1⟩ := ho1.row
  clear hp ho1 hown
  go_wp2_with (at_builtin; refine wpList_append_row _ rfl _ _ rfl base _ _ rfl how a1 c1 _ rfl hr1 hn1 (by omega) hbs ?_; intro v4 w4 hown4 hg4 hat4)
  go_ret
  refine ⟨_, rfl, App.pre hb1 ⟨hown4, hg4, hat4.imp_right fun e => ⟨_, e, Nat.le_refl _⟩⟩⟩

end Go.Proofs.Ytelcfmjhbjnkoaa

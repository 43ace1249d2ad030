/- The program's small functions of items: whether one may be, its clean form. -/
import Derived.Test.YtelcfmjhbjnkoaaOm2
import Derived.Laws.StructEq
import Derived.Laws.Cover3
import Derived.Laws.Externs
namespace Go.Proofs.Ytelcfmjhbjnkoaa
open Go.RowKit

/-- An item as a value. -/
abbrev valI (x : It) : Value := .agg #[.int .i64 x.k, .bool x.b, .int .i64 x.n, .float .f64 x.f, .complex .f64 x.r x.i, .string x.t]

theorem order_self {a : Nat} (ha : a < 18446744073709551616) : (FloatKind.f64.format.order a a != some .eq) = nanB a := by
  have h := order_double ha ha
  have e : FloatKind.f64.format = Ieee.double := rfl
  rw [e, h]
  cases nanB a <;> simp [compare, compareOfLessAndEq]
theorem order_zero {a : Nat} (ha : a < 18446744073709551616) : (FloatKind.f64.format.order a 0 == some .eq) = nought a := by
  have h := order_double ha (show 0 < 18446744073709551616 by decide)
  have e : FloatKind.f64.format = Ieee.double := rfl
  rw [e, h]
  have n0 : nanB 0 = false := by decide
  have k0 : key 0 = 0 := by decide
  rw [n0, k0, Bool.or_false]
  unfold nought nanB rng key
  by_cases h1 : a % 9223372036854775808 = 0
  · have h2 : ¬ 9218868437227405312 < a % 9223372036854775808 := by omega
    simp only [decide_eq_true_eq, h1, compare, compareOfLessAndEq]
    by_cases h3 : a < 9223372036854775808
    · rw [if_pos h3]
      have : (a : Int) = 0 := by omega
      simp [this]
    · rw [if_neg h3]
      have : -((a : Int) - 9223372036854775808) = 0 := by omega
      simp [this]
  · have h4 : decide (a % 9223372036854775808 = 0) = false := by simpa using h1
    rw [h4]
    by_cases h2 : 9218868437227405312 < a % 9223372036854775808
    · simp [h2]
    · simp only [decide_eq_true_eq, if_neg h2, compare, compareOfLessAndEq]
      by_cases h3 : a < 9223372036854775808
      · rw [if_pos h3, if_neg (by omega), if_neg (by omega)]; rfl
      · rw [if_neg h3, if_pos (by omega)]; rfl

set_option maxRecDepth 100000 in
set_option maxHeartbeats 400000 in
theorem isNaN_any (a : Nat) (w : World) (ha : a < 18446744073709551616) :
    Calls Try.prog 46 #[.float .f64 a] w fun e w' => e = .returned (.bool (nanB a)) ∧ w' = w := by
  have h := order_self ha
  go_enter Try.func46, Try.ntmps46
  go_wp2
  go_ret
  exact ⟨rfl, rfl⟩

theorem st_float (f : Nat) (a : Addr) (m : Mode) (w : World) : (store a (.float .f64 f) m).run Try.prog w = stored Try.prog w a (.float .f64 f) m := run_store Try.prog w a _ m rfl
theorem st_complex (f g : Nat) (a : Addr) (m : Mode) (w : World) : (store a (.complex .f64 f g) m).run Try.prog w = stored Try.prog w a (.complex .f64 f g) m := run_store Try.prog w a _ m rfl
theorem fromBits (n : Nat) (w : World) : (callFunc 21 #[.int .u64 (n : Int)]).run Try.prog w = .ok (.value (.float .f64 n)) w := by
  rw [run_callFunc_extern (e := Extern.MathFloatBits.float64frombits) Try.func21 (by kernel_rfl) (by kernel_rfl) (by kernel_rfl) (by kernel_rfl)]
  rfl
theorem toBits (n : Nat) (w : World) : (callFunc 43 #[.float .f64 n]).run Try.prog w = .ok (.value (.int .u64 (n : Int))) w := by
  rw [run_callFunc_extern (e := Extern.MathFloatBits.float64bits) Try.func43 (by kernel_rfl) (by kernel_rfl) (by kernel_rfl) (by kernel_rfl)]
  rfl

set_option maxRecDepth 100000 in
set_option maxHeartbeats 400000 in
theorem cleanNumber_any (a : Nat) (w : World) (ha : a < 18446744073709551616) :
    Calls Try.prog 50 #[.float .f64 a] w fun e w' => e = .returned (.float .f64 (cb a)) ∧ w' = w := by
  have h0 := order_zero ha
  have hn := fun w => isNaN_any a w ha
  cases h1 : nanB a with
  | true =>
    have hc : cb a = 9221120237041090561 := by unfold cb; rw [h1]; rfl
    rw [hc]
    have hfb : ∀ w : World, (callFunc 21 #[.int .u64 9221120237041090561]).run Try.prog w = .ok (.value (.float .f64 9221120237041090561)) w := fromBits 9221120237041090561
    go_enter Try.func50, Try.ntmps50
    go_wp2_with (go_at_call 46; refine (hn _).mono ?_; rintro e w' ⟨rfl, hq⟩; have hq2 := hq.symm; subst hq2; clear hq; rw [h1])
    all_goals go_ret
    all_goals exact ⟨rfl, rfl⟩
  | false =>
    cases h2 : nought a with
    | true =>
      have hc : cb a = 0 := by unfold cb; rw [h1, h2]; rfl
      rw [hc]
      rw [h2] at h0
      go_enter Try.func50, Try.ntmps50
      go_wp2_with (go_at_call 46; refine (hn _).mono ?_; rintro e w' ⟨rfl, hq⟩; have hq2 := hq.symm; subst hq2; clear hq; rw [h1])
      all_goals go_ret
      all_goals exact ⟨rfl, rfl⟩
    | false =>
      have hc : cb a = a := by unfold cb; rw [h1, h2]; rfl
      rw [hc]
      rw [h2] at h0
      go_enter Try.func50, Try.ntmps50
      go_wp2_with (go_at_call 46; refine (hn _).mono ?_; rintro e w' ⟨rfl, hq⟩; have hq2 := hq.symm; subst hq2; clear hq; rw [h1])
      all_goals go_ret
      all_goals exact ⟨rfl, rfl⟩

attribute [local go_sem] st_float st_complex

theorem eqF {f : Nat} (hf : f < 18446744073709551616) (d : Nat) (w : World) : (Op.equalIn (d + 1) 26 (.float .f64 f) (.float .f64 0)).run Try.prog w = .ok (nought f) w := by
  rw [← order_zero hf]; simp [Op.equalIn, run_underlying Try.underlying26, Op.floatEq]
theorem eqC {r i : Nat} (hr : r < 18446744073709551616) (hi : i < 18446744073709551616) (d : Nat) (w : World) : (Op.equalIn (d + 1) 27 (.complex .f64 r i) (.complex .f64 0 0)).run Try.prog w = .ok (nought r && nought i) w := by
  rw [← order_zero hr, ← order_zero hi]; simp [Op.equalIn, run_underlying Try.underlying27, Op.floatEq]
theorem nil_toList (t : ByteArray) : (t.toList = []) ↔ t.size = 0 := by
  rw [Lib.toList_data]
  constructor
  · intro h
    have h2 : t.data = #[] := Array.toList_eq_nil_iff.1 h
    show t.data.size = 0
    rw [h2]; rfl
  · intro h
    exact Array.toList_eq_nil_iff.2 (Array.eq_empty_of_size_eq_zero h)

/-- What is left of an item is nothing. -/
def none0 (b : Bool) (n : Int) (f r i : Nat) (t : ByteArray) : Bool := !b && decide (n = 0) && nought f && (nought r && nought i) && decide (t.size = 0)

set_option maxRecDepth 100000 in
set_option maxHeartbeats 1000000 in
theorem mayBe_any (x : It) (w : World) (hx : ItOk x) :
    Calls Try.prog 17 #[valI x] w fun e w' => e = .returned (.bool (may x)) ∧ Below w.heap.size w w' := by
  obtain ⟨k, b, n, f, r, i, t⟩ := x
  obtain ⟨k1, k2, n1, n2, hf, hr, hi⟩ := hx
  simp only at k1 k2 n1 n2 hf hr hi
  have hF := eqF hf
  have hC := eqC hr hi
  have hF0 := eqF (show 0 < 18446744073709551616 by decide)
  have hC0 := eqC (show 0 < 18446744073709551616 by decide) (show 0 < 18446744073709551616 by decide)
  obtain ⟨q, hq⟩ : ∃ q, q = (nought r && nought i) := ⟨_, rfl⟩
  rw [← hq] at hC
  obtain ⟨p, hp⟩ : ∃ p, p = nought f := ⟨_, rfl⟩
  rw [← hp] at hF
  obtain ⟨m, hm⟩ : ∃ m, m = may ⟨k, b, n, f, r, i, t⟩ := ⟨_, rfl⟩
  rw [← hm]
  unfold may at hm
  simp only [← hq, ← hp] at hm
  have HM := hide_it hm
  clear hm hq hp
  have fin : ∀ c c', Below w.heap.size w ((w.alloc c).alloc c') := fun c c' => ((Below.refl _ _).alloc (Nat.le_refl _) _).alloc (by simp) _
  by_cases h1 : k = 1
  · subst h1
    go_enter Try.func17, Try.ntmps17
    go_wp2
    all_goals go_ret
    all_goals refine ⟨?_, fin _ _⟩
    all_goals rw [HM.out]
    all_goals clear hF hC hF0 hC0
    all_goals simp_all [nil_toList]
  by_cases h2 : k = 2
  · subst h2
    go_enter Try.func17, Try.ntmps17
    go_wp2
    all_goals go_ret
    all_goals refine ⟨?_, fin _ _⟩
    all_goals rw [HM.out]
    all_goals clear hF hC hF0 hC0
    all_goals simp_all [nil_toList]
  by_cases h3 : k = 3
  · subst h3
    go_enter Try.func17, Try.ntmps17
    go_wp2
    all_goals go_ret
    all_goals refine ⟨?_, fin _ _⟩
    all_goals rw [HM.out]
    all_goals clear hF hC hF0 hC0
    all_goals simp_all [nil_toList]
  by_cases h4 : k = 4
  · subst h4
    go_enter Try.func17, Try.ntmps17
    go_wp2
    all_goals go_ret
    all_goals refine ⟨?_, fin _ _⟩
    all_goals rw [HM.out]
    all_goals clear hF hC hF0 hC0
    all_goals simp_all [nil_toList]
  by_cases h5 : k = 5
  · subst h5
    go_enter Try.func17, Try.ntmps17
    go_wp2
    all_goals go_ret
    all_goals refine ⟨?_, fin _ _⟩
    all_goals rw [HM.out]
    all_goals clear hF hC hF0 hC0
    all_goals simp_all [nil_toList]
  by_cases h6 : k = 6
  · subst h6
    go_enter Try.func17, Try.ntmps17
    go_wp2
    all_goals go_ret
    all_goals refine ⟨?_, fin _ _⟩
    all_goals rw [HM.out]
    all_goals clear hF hC hF0 hC0
    all_goals simp_all 
  have g1 : (k == 1) = false := by simpa using h1
  have g2 : (k == 2) = false := by simpa using h2
  have g3 : (k == 3) = false := by simpa using h3
  have g4 : (k == 4) = false := by simpa using h4
  have g5 : (k == 5) = false := by simpa using h5
  have g6 : (k == 6) = false := by simpa using h6
  have hm : m = false := by
    rw [HM.out]
    by_cases a1 : 1 ≤ k
    · by_cases a2 : k ≤ 6
      · omega
      · simp [a2]
    · simp [a1]
  subst hm
  go_enter Try.func17, Try.ntmps17
  go_wp2
  go_ret
  exact ⟨rfl, fin _ _⟩

end Go.Proofs.Ytelcfmjhbjnkoaa

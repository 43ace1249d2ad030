/- Numbers, truth values and texts compared by the program. -/
import Derived.Test.YtelcfmjhbjnkoaaOw1
import Derived.Laws.Strings
namespace Go.Proofs.Ytelcfmjhbjnkoaa
open Go.RowKit

set_option maxRecDepth 100000 in
set_option maxHeartbeats 400000 in
theorem nanInt (a : Int) (w : World) : Calls Try.prog 44 #[.int .i64 a] w fun e w' => e = .returned (.bool false) ∧ w' = w := by
  go_enter Try.func44, Try.ntmps44
  go_wp2
  go_ret
  exact ⟨rfl, rfl⟩

set_option maxRecDepth 100000 in
set_option maxHeartbeats 400000 in
theorem nanInt64 (a : Int) (w : World) : Calls Try.prog 45 #[.int .i64 a] w fun e w' => e = .returned (.bool false) ∧ w' = w := by
  go_enter Try.func45, Try.ntmps45
  go_wp2
  go_ret
  exact ⟨rfl, rfl⟩

set_option maxRecDepth 100000 in
set_option maxHeartbeats 400000 in
theorem nanStr (a : ByteArray) (w : World) : Calls Try.prog 48 #[.string a] w fun e w' => e = .returned (.bool false) ∧ w' = w := by
  go_enter Try.func48, Try.ntmps48
  go_wp2
  go_ret
  exact ⟨rfl, rfl⟩

set_option maxRecDepth 100000 in
set_option maxHeartbeats 400000 in
theorem nanFlo (a : Nat) (w : World) (ha : a < 18446744073709551616) : Calls Try.prog 56 #[.float .f64 a] w fun e w' => e = .returned (.bool (nanB a)) ∧ w' = w := by
  have h := order_self ha
  go_enter Try.func56, Try.ntmps56
  go_wp2
  go_ret
  exact ⟨rfl, rfl⟩

set_option maxRecDepth 100000 in
set_option maxHeartbeats 400000 in
theorem cmpInt (a b : Int) (w : World) : Calls Try.prog 25 #[.int .i64 a, .int .i64 b] w fun e w' => e = .returned (.int .i64 (cmpI a b)) ∧ w' = w := by
  rcases Int.lt_trichotomy a b with h | h | h
  · rw [cmpI_lt h]
    go_enter Try.func25, Try.ntmps25
    go_wp2_with (go_at_call 44; refine (nanInt _ _).mono ?_; rintro e w' ⟨rfl, hq⟩; have hq2 := hq.symm; subst hq2; clear hq)
    all_goals go_ret
    all_goals exact ⟨rfl, rfl⟩
  · subst h
    rw [cmpI_self]
    go_enter Try.func25, Try.ntmps25
    go_wp2_with (go_at_call 44; refine (nanInt _ _).mono ?_; rintro e w' ⟨rfl, hq⟩; have hq2 := hq.symm; subst hq2; clear hq)
    all_goals go_ret
    all_goals exact ⟨rfl, rfl⟩
  · rw [cmpI_gt h]
    have h2 : ¬ a < b := by omega
    go_enter Try.func25, Try.ntmps25
    go_wp2_with (go_at_call 44; refine (nanInt _ _).mono ?_; rintro e w' ⟨rfl, hq⟩; have hq2 := hq.symm; subst hq2; clear hq)
    all_goals go_ret
    all_goals exact ⟨rfl, rfl⟩

set_option maxRecDepth 100000 in
set_option maxHeartbeats 400000 in
theorem cmpInt64 (a b : Int) (w : World) : Calls Try.prog 27 #[.int .i64 a, .int .i64 b] w fun e w' => e = .returned (.int .i64 (cmpI a b)) ∧ w' = w := by
  rcases Int.lt_trichotomy a b with h | h | h
  · rw [cmpI_lt h]
    go_enter Try.func27, Try.ntmps27
    go_wp2_with (go_at_call 45; refine (nanInt64 _ _).mono ?_; rintro e w' ⟨rfl, hq⟩; have hq2 := hq.symm; subst hq2; clear hq)
    all_goals go_ret
    all_goals exact ⟨rfl, rfl⟩
  · subst h
    rw [cmpI_self]
    go_enter Try.func27, Try.ntmps27
    go_wp2_with (go_at_call 45; refine (nanInt64 _ _).mono ?_; rintro e w' ⟨rfl, hq⟩; have hq2 := hq.symm; subst hq2; clear hq)
    all_goals go_ret
    all_goals exact ⟨rfl, rfl⟩
  · rw [cmpI_gt h]
    have h2 : ¬ a < b := by omega
    go_enter Try.func27, Try.ntmps27
    go_wp2_with (go_at_call 45; refine (nanInt64 _ _).mono ?_; rintro e w' ⟨rfl, hq⟩; have hq2 := hq.symm; subst hq2; clear hq)
    all_goals go_ret
    all_goals exact ⟨rfl, rfl⟩

theorem ord_lt {a b : Nat} (ha : a < 18446744073709551616) (hb : b < 18446744073709551616) (na : nanB a = false) (nb : nanB b = false) :
    (FloatKind.f64.format.order a b == some .lt) = decide (key a < key b) ∧ (FloatKind.f64.format.order a b == some .gt) = decide (key b < key a) := by
  have h := order_double ha hb
  have e : FloatKind.f64.format = Ieee.double := rfl
  rw [e, h, na, nb]
  simp only [Bool.or_false, Bool.false_eq_true, if_false, compare, compareOfLessAndEq]
  rcases Int.lt_trichotomy (key a) (key b) with g | g | g
  · have g2 : ¬ key b < key a := by omega
    rw [if_pos g]; simp [g, g2]
  · rw [if_neg (by omega), if_pos g]; simp [g]
  · have g2 : ¬ key a < key b := by omega
    rw [if_neg g2, if_neg (by omega)]; simp [g, g2]

set_option maxRecDepth 100000 in
set_option maxHeartbeats 400000 in
theorem cmpFlo (a b : Nat) (w : World) (ha : a < 18446744073709551616) (hb : b < 18446744073709551616) (na : nanB a = false) (nb : nanB b = false) :
    Calls Try.prog 47 #[.float .f64 a, .float .f64 b] w fun e w' => e = .returned (.int .i64 (cmpI (key a) (key b))) ∧ w' = w := by
  obtain ⟨o1, o2⟩ := ord_lt ha hb na nb
  have hna := fun w => nanFlo a w ha
  have hnb := fun w => nanFlo b w hb
  rw [na] at hna
  rw [nb] at hnb
  rcases Int.lt_trichotomy (key a) (key b) with h | h | h
  · rw [cmpI_lt h]
    have o3 := o1.trans (decide_eq_true h)
    clear o1
    go_enter Try.func47, Try.ntmps47
    go_wp2_with (go_at_call 56; (first | refine (hna _).mono ?_ | refine (hnb _).mono ?_); rintro e w' ⟨rfl, hq⟩; have hq2 := hq.symm; subst hq2; clear hq)
    all_goals go_ret
    all_goals exact ⟨rfl, rfl⟩
  · have o3 := o1.trans (decide_eq_false (by omega))
    have o4 := o2.trans (decide_eq_false (by omega))
    rw [h, cmpI_self]
    clear o1 o2
    go_enter Try.func47, Try.ntmps47
    go_wp2_with (go_at_call 56; (first | refine (hna _).mono ?_ | refine (hnb _).mono ?_); rintro e w' ⟨rfl, hq⟩; have hq2 := hq.symm; subst hq2; clear hq)
    all_goals go_ret
    all_goals exact ⟨rfl, rfl⟩
  · rw [cmpI_gt h]
    have o3 := o1.trans (decide_eq_false (by omega))
    have o4 := o2.trans (decide_eq_true h)
    clear o1 o2
    go_enter Try.func47, Try.ntmps47
    go_wp2_with (go_at_call 56; (first | refine (hna _).mono ?_ | refine (hnb _).mono ?_); rintro e w' ⟨rfl, hq⟩; have hq2 := hq.symm; subst hq2; clear hq)
    all_goals go_ret
    all_goals exact ⟨rfl, rfl⟩

set_option maxRecDepth 100000 in
set_option maxHeartbeats 400000 in
theorem compareBools_any (a b : Bool) (w : World) : Calls Try.prog 26 #[.bool a, .bool b] w fun e w' => e = .returned (.int .i64 (cmpB a b)) ∧ w' = w := by
  cases a <;> cases b
  all_goals go_enter Try.func26, Try.ntmps26
  all_goals go_wp2
  all_goals go_ret
  all_goals exact ⟨rfl, rfl⟩

theorem less_lexc : ∀ a b : List UInt8, Op.bytesLess a b = decide (lexc (a.map UInt8.toNat) (b.map UInt8.toNat) = -1)
  | [], [] => by simp [Op.bytesLess, lexc]
  | [], _ :: _ => by simp [Op.bytesLess, lexc]
  | _ :: _, [] => by simp [Op.bytesLess, lexc]
  | x :: a, y :: b => by
    have ih := less_lexc a b
    simp only [Op.bytesLess, List.map_cons, lexc]
    by_cases h1 : x.toNat < y.toNat
    · have : x < y := h1
      simp [h1, this]
    · have g1 : ¬ x < y := h1
      by_cases h2 : y.toNat < x.toNat
      · have g2 : y < x := h2
        have g3 : ¬ x = y := by rintro rfl; omega
        simp [h1, h2, g1, g3]
      · have g3 : x = y := UInt8.toNat_inj.1 (by omega)
        subst g3
        simp [ih]
theorem str_less (a b : ByteArray) : Op.bytesLess a.toList b.toList = decide (lexc (strNat a) (strNat b) = -1) := by
  rw [Lib.toList_data, Lib.toList_data, less_lexc]; rfl

theorem strNat_inj {a b : ByteArray} (h : strNat a = strNat b) : a = b := by
  rw [← strOf_strNat a, ← strOf_strNat b, h]
theorem str_same (a b : ByteArray) : (a.toList == b.toList) = decide (lexc (strNat a) (strNat b) = 0) := by
  by_cases h : lexc (strNat a) (strNat b) = 0
  · have e := strNat_inj (lexc_eq h)
    subst e
    simp [lexc_self]
  · have e : ¬ a.toList = b.toList := fun e => by
      rw [Lib.toList_data, Lib.toList_data] at e
      exact h (by unfold strNat; rw [e, lexc_self])
    simp [h, e]

set_option maxRecDepth 100000 in
set_option maxHeartbeats 400000 in
theorem cmpStr (a b : ByteArray) (w : World) : Calls Try.prog 30 #[.string a, .string b] w fun e w' => e = .returned (.int .i64 (lexc (strNat a) (strNat b))) ∧ w' = w := by
  have o1 := str_less a b
  have o2 := str_same a b
  rcases lexc_range (strNat a) (strNat b) with h | h | h
  · have p1 : Op.bytesLess a.toList b.toList = true := by rw [o1, h]; rfl
    have p2 : (a.toList == b.toList) = false := by rw [o2, h]; rfl
    rw [h]
    clear o1 o2
    go_enter Try.func30, Try.ntmps30
    go_wp2_with (go_at_call 48; refine (nanStr _ _).mono ?_; rintro e w' ⟨rfl, hq⟩; have hq2 := hq.symm; subst hq2; clear hq)
    all_goals go_ret
    all_goals exact ⟨rfl, rfl⟩
  · have p1 : Op.bytesLess a.toList b.toList = false := by rw [o1, h]; rfl
    have p2 : (a.toList == b.toList) = true := by rw [o2, h]; rfl
    rw [h]
    clear o1 o2
    go_enter Try.func30, Try.ntmps30
    go_wp2_with (go_at_call 48; refine (nanStr _ _).mono ?_; rintro e w' ⟨rfl, hq⟩; have hq2 := hq.symm; subst hq2; clear hq)
    all_goals go_ret
    all_goals exact ⟨rfl, rfl⟩
  · have p1 : Op.bytesLess a.toList b.toList = false := by rw [o1, h]; rfl
    have p2 : (a.toList == b.toList) = false := by rw [o2, h]; rfl
    rw [h]
    clear o1 o2
    go_enter Try.func30, Try.ntmps30
    go_wp2_with (go_at_call 48; refine (nanStr _ _).mono ?_; rintro e w' ⟨rfl, hq⟩; have hq2 := hq.symm; subst hq2; clear hq)
    all_goals go_ret
    all_goals exact ⟨rfl, rfl⟩

end Go.Proofs.Ytelcfmjhbjnkoaa

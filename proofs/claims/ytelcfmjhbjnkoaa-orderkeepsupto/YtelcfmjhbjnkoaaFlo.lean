/- How two floating-point numbers stand to each other, by their bits. -/
import Derived.WalkKit
import Ieee.Arith
namespace Go.Proofs.Ytelcfmjhbjnkoaa

/-- The rung of a float's word: all but its sign. -/
def rng (a : Nat) : Nat := a % 9223372036854775808
/-- Whether a word is no number's. -/
def nanB (a : Nat) : Bool := decide (9218868437227405312 < rng a)
/-- The sign's bit. -/
def sgnB (a : Nat) : Bool := decide (9223372036854775808 ≤ a)
/-- Where a number stands among the others. -/
def key (a : Nat) : Int := if a < 9223372036854775808 then (a : Int) else -((a : Int) - 9223372036854775808)
/-- The magnitude of a rung, in the least unit. -/
def mgn (r : Nat) : Nat := if r < 4503599627370496 then r else (4503599627370496 + r % 4503599627370496) * 2 ^ (r / 4503599627370496 - 1)

theorem mgn_step (r : Nat) : mgn r < mgn (r + 1) := by
  unfold mgn
  by_cases h : r + 1 < 4503599627370496
  · rw [if_pos (by omega), if_pos h]; omega
  · rw [if_neg h]
    by_cases h2 : r < 4503599627370496
    · rw [if_pos h2]
      have : r + 1 = 4503599627370496 := by omega
      rw [this]; omega
    · rw [if_neg h2]
      by_cases h3 : (r + 1) % 4503599627370496 = 0
      · have e1 : r % 4503599627370496 = 4503599627370495 := by omega
        have e2 : (r + 1) / 4503599627370496 = r / 4503599627370496 + 1 := by omega
        have e3 : 1 ≤ r / 4503599627370496 := by omega
        rw [h3, e1, e2]
        obtain ⟨k, hk⟩ : ∃ k, r / 4503599627370496 = k + 1 := ⟨r / 4503599627370496 - 1, by omega⟩
        rw [hk, Nat.add_sub_cancel, Nat.add_sub_cancel, Nat.pow_succ]
        have : 0 < 2 ^ k := Nat.two_pow_pos _
        omega
      · have e1 : (r + 1) % 4503599627370496 = r % 4503599627370496 + 1 := by omega
        have e2 : (r + 1) / 4503599627370496 = r / 4503599627370496 := by omega
        rw [e1, e2]
        exact Nat.mul_lt_mul_of_pos_right (by omega) (Nat.two_pow_pos _)

theorem mgn_lt {r s : Nat} (h : r < s) : mgn r < mgn s := by
  induction s with
  | zero => omega
  | succ s ih =>
    by_cases e : r = s
    · subst e; exact mgn_step r
    · exact Nat.lt_trans (ih (by omega)) (mgn_step s)

/-- A sign upon a magnitude. -/
def sgd (s : Bool) (m : Nat) : Int := if s then -(m : Int) else m

theorem compare_scale (a b : Int) {k : Int} (hk : 0 < k) : compare (a * k) (b * k) = compare a b := by
  simp only [compare, compareOfLessAndEq]
  have h1 : a * k < b * k ↔ a < b := Int.mul_lt_mul_right hk
  have h2 : a * k = b * k ↔ a = b := Int.mul_eq_mul_right_iff (by omega)
  simp only [h1, h2]

/-- What a number's word stands for. -/
theorem read_num {a : Nat} (ha : a < 18446744073709551616) (h : rng a < 9218868437227405312) :
    ∃ m p, Ieee.double.read a = .number (sgnB a) m ((p : Nat) + Ieee.double.leastPlace) ∧ m * 2 ^ p = mgn (rng a) := by
  have hs : ((a / 9223372036854775808 % 2 == 1) : Bool) = sgnB a := by
    unfold sgnB
    by_cases h : 9223372036854775808 ≤ a
    · have : a / 9223372036854775808 = 1 := by omega
      simp [this, h]
    · have : a / 9223372036854775808 = 0 := by omega
      simp [this, h]
  unfold rng at h
  have hb : Ieee.double.binade = 4503599627370496 := by decide
  have hi : Ieee.double.infRung = 9218868437227405312 := by decide
  have hw : Ieee.double.signWeight = 9223372036854775808 := by decide
  unfold Ieee.Format.read
  simp only [hb, hi, hw, hs]
  by_cases h1 : a % 9223372036854775808 < 4503599627370496
  · refine ⟨a % 9223372036854775808, 0, by rw [if_pos h1]; simp, ?_⟩
    unfold mgn rng; rw [if_pos h1]; simp
  · refine ⟨_, a % 9223372036854775808 / 4503599627370496 - 1, by rw [if_neg h1, if_pos h]; rw [Int.add_comm], ?_⟩
    unfold mgn rng; rw [if_neg h1]

theorem read_inf {a : Nat} (ha : a < 18446744073709551616) (h : rng a = 9218868437227405312) : Ieee.double.read a = .infinity (sgnB a) := by
  have hs : ((a / 9223372036854775808 % 2 == 1) : Bool) = sgnB a := by
    unfold sgnB
    by_cases h : 9223372036854775808 ≤ a
    · have : a / 9223372036854775808 = 1 := by omega
      simp [this, h]
    · have : a / 9223372036854775808 = 0 := by omega
      simp [this, h]
  unfold rng at h
  have hb : Ieee.double.binade = 4503599627370496 := by decide
  have hi : Ieee.double.infRung = 9218868437227405312 := by decide
  have hw : Ieee.double.signWeight = 9223372036854775808 := by decide
  unfold Ieee.Format.read
  simp only [hb, hi, hw, hs, h]
  simp

theorem read_nan {a : Nat} (h : nanB a = true) : ∃ s t, Ieee.double.read a = .nan s t := by
  have h' : 9218868437227405312 < a % 9223372036854775808 := of_decide_eq_true h
  have hb : Ieee.double.binade = 4503599627370496 := by decide
  have hi : Ieee.double.infRung = 9218868437227405312 := by decide
  have hw : Ieee.double.signWeight = 9223372036854775808 := by decide
  unfold Ieee.Format.read
  simp only [hb, hi, hw]
  exact ⟨_, _, by rw [if_neg (by omega), if_neg (by omega), if_neg (by omega)]⟩

theorem key_eq (a : Nat) (ha : a < 18446744073709551616) : key a = sgd (sgnB a) (rng a) := by
  unfold key sgd sgnB rng
  by_cases h : a < 9223372036854775808
  · rw [if_pos h, if_neg (by simpa using h)]; omega
  · rw [if_neg h, if_pos (by simpa using h)]; omega

theorem sgd_cmp (s t : Bool) {r q : Nat} : compare (sgd s (mgn r)) (sgd t (mgn q)) = compare (sgd s r) (sgd t q) := by
  have h0 : ∀ r, mgn r = 0 ↔ r = 0 := by
    intro r
    constructor
    · intro h
      cases r with
      | zero => rfl
      | succ r => have := mgn_lt (show 0 < r + 1 by omega); omega
    · rintro rfl; rfl
  have hr := h0 r
  have hq := h0 q
  have hlt : mgn r < mgn q ↔ r < q := by
    constructor
    · intro h
      rcases Nat.lt_trichotomy r q with h' | h' | h'
      · exact h'
      · subst h'; omega
      · have := mgn_lt h'; omega
    · exact mgn_lt
  have hgt : mgn q < mgn r ↔ q < r := by
    constructor
    · intro h
      rcases Nat.lt_trichotomy q r with h' | h' | h'
      · exact h'
      · subst h'; omega
      · have := mgn_lt h'; omega
    · exact mgn_lt
  cases s <;> cases t <;> simp only [sgd, compare, compareOfLessAndEq, if_true, Bool.false_eq_true, if_false] <;>
    (congr 1
     · apply propext; omega
     · congr 1
       apply propext; omega)

theorem order_double {a b : Nat} (ha : a < 18446744073709551616) (hb : b < 18446744073709551616) :
    Ieee.double.order a b = if nanB a || nanB b then none else some (compare (key a) (key b)) := by
  unfold Ieee.Format.order
  by_cases na : nanB a = true
  · obtain ⟨s, t, e⟩ := read_nan na
    rw [e, na]; rfl
  by_cases nb : nanB b = true
  · obtain ⟨s, t, e⟩ := read_nan nb
    rw [e, nb]
    cases Ieee.double.read a <;> simp [Ieee.Datum.order]
  have na' : nanB a = false := by simpa using na
  have nb' : nanB b = false := by simpa using nb
  rw [na', nb']
  have ra : rng a ≤ 9218868437227405312 := by simpa [nanB] using na'
  have rb : rng b ≤ 9218868437227405312 := by simpa [nanB] using nb'
  simp only [Bool.or_false, Bool.false_eq_true, if_false]
  rw [key_eq a ha, key_eq b hb]
  by_cases ia : rng a = 9218868437227405312
  · rw [read_inf ha ia]
    by_cases ib : rng b = 9218868437227405312
    · rw [read_inf hb ib, ia, ib]
      cases sgnB a <;> cases sgnB b <;> rfl
    · obtain ⟨m, p, e, -⟩ := read_num hb (by omega)
      rw [e]
      simp only [Ieee.Datum.order]
      congr 1
      cases sgnB a <;> cases sgnB b <;> simp only [sgd, compare, compareOfLessAndEq, if_true, Bool.false_eq_true, if_false] <;>
        first
        | rw [if_pos (by omega)]
        | rw [if_neg (by omega), if_neg (by omega)]
  · obtain ⟨m, p, e, hm⟩ := read_num ha (by omega)
    rw [e]
    by_cases ib : rng b = 9218868437227405312
    · rw [read_inf hb ib]
      simp only [Ieee.Datum.order]
      congr 1
      cases sgnB a <;> cases sgnB b <;> simp only [sgd, compare, compareOfLessAndEq, if_true, Bool.false_eq_true, if_false] <;>
        first
        | rw [if_pos (by omega)]
        | rw [if_neg (by omega), if_neg (by omega)]
    · obtain ⟨n, q, e', hn⟩ := read_num hb (by omega)
      rw [e']
      simp only [Ieee.Datum.order]
      congr 1
      rw [← sgd_cmp, ← hm, ← hn]
      have base : min ((p : Int) + Ieee.double.leastPlace) ((q : Int) + Ieee.double.leastPlace) = ((min p q : Nat) : Int) + Ieee.double.leastPlace := by omega
      rw [base]
      have e1 : ((p : Int) + Ieee.double.leastPlace - (((min p q : Nat) : Int) + Ieee.double.leastPlace)).toNat = p - min p q := by omega
      have e2 : ((q : Int) + Ieee.double.leastPlace - (((min p q : Nat) : Int) + Ieee.double.leastPlace)).toNat = q - min p q := by omega
      rw [e1, e2]
      have sg : ∀ (s : Bool) (m u : Nat), min p q ≤ u → sgd s (m * 2 ^ u) = Ieee.signed s m (u - min p q) * (2 ^ min p q : Nat) := by
        intro s m u hu
        have : m * 2 ^ u = m <<< (u - min p q) * 2 ^ min p q := by
          rw [Nat.shiftLeft_eq, Nat.mul_assoc, ← Nat.pow_add]; congr 2; omega
        rw [this]
        cases s <;> simp [sgd, Ieee.signed, Int.neg_mul]
      rw [sg _ m p (by omega), sg _ n q (by omega), compare_scale _ _ (by exact_mod_cast Nat.two_pow_pos _)]

end Go.Proofs.Ytelcfmjhbjnkoaa

/- Items, their bytes and their order, as plain mathematics. -/
import Derived.Test.YtelcfmjhbjnkoaaOc4
import Derived.Test.YtelcfmjhbjnkoaaFlo
namespace Go.Proofs.Ytelcfmjhbjnkoaa

/-- An item: its kind and its fields; numbers by their bits. -/
structure It where
  k : Int
  b : Bool
  n : Int
  f : Nat
  r : Nat
  i : Nat
  t : ByteArray

/-- A number that is nought, by its bits. -/
def nought (a : Nat) : Bool := decide (rng a = 0)
/-- Whether an item may be. -/
def may (x : It) : Bool :=
  decide (1 ≤ x.k) && decide (x.k ≤ 6) && (decide (x.k = 2) || !x.b) && (decide (x.k = 3) || decide (x.n = 0)) && (decide (x.k = 4) || nought x.f) &&
    (decide (x.k = 5) || (nought x.r && nought x.i)) && (decide (x.k = 6) || decide (x.t.size = 0))
/-- A number's clean bits. -/
def cb (a : Nat) : Nat := if nanB a then 9221120237041090561 else if nought a then 0 else a
/-- Clean bits turned so that they rise. -/
def rise (a : Nat) : Nat := if cb a < 9223372036854775808 then cb a + 9223372036854775808 else 18446744073709551615 - cb a
/-- Turned back. -/
def unr (v : Nat) : Nat := if 9223372036854775808 ≤ v then v - 9223372036854775808 else 18446744073709551615 - v
/-- An item in its one form. -/
def clean (x : It) : It := { x with f := cb x.f, r := cb x.r, i := cb x.i }

/-- Two numbers compared. -/
def cmpI (a b : Int) : Int := if a < b then -1 else if b < a then 1 else 0
/-- Two rows of bytes compared. -/
def lexc : List Nat → List Nat → Int
  | [], [] => 0
  | [], _ :: _ => -1
  | _ :: _, [] => 1
  | a :: l, b :: m => if a < b then -1 else if b < a then 1 else lexc l m
/-- Two floating-point numbers compared. -/
def cmpF (a b : Nat) : Int := if nanB a then (if nanB b then 0 else 1) else if nanB b then -1 else cmpI (key a) (key b)
/-- One comparison, and another one where the first says nothing. -/
def orI (a b : Int) : Int := if a ≠ 0 then a else b
/-- Two truth values compared. -/
def cmpB (a b : Bool) : Int := if a = b then 0 else if b then -1 else 1
/-- Two items compared. -/
def cmpIt (x y : It) : Int :=
  if x.k ≠ y.k ∨ may x = false ∨ may y = false then cmpI x.k y.k
  else if x.k = 2 then cmpB x.b y.b else if x.k = 3 then cmpI x.n y.n else if x.k = 4 then cmpF x.f y.f
  else if x.k = 5 then orI (cmpF x.r y.r) (cmpF x.i y.i) else if x.k = 6 then lexc (strNat x.t) (strNat y.t) else 0
/-- Two lists of items compared. -/
def cmpAll : List It → List It → Int
  | [], [] => 0
  | [], _ :: _ => -1
  | _ :: _, [] => 1
  | x :: l, y :: m => orI (cmpIt x y) (cmpAll l m)

/-- A text's bytes, so that its end is told. -/
def esc (l : List Nat) : List Nat := l.flatMap fun z => if z = 0 then [0, 255] else [z]
/-- What stands behind an item's kind. -/
def body (x : It) : List Nat :=
  if x.k = 2 then [x.b.toNat] else if x.k = 3 then beP 8 (x.n + 9223372036854775808).toNat 8 else if x.k = 4 then beP 8 (rise x.f) 8
  else if x.k = 5 then beP 8 (rise x.r) 8 ++ beP 8 (rise x.i) 8 else if x.k = 6 then esc (strNat x.t) ++ [0, 1] else []
/-- An item's bytes. -/
def encI (x : It) : List Nat := x.k.toNat :: body x
/-- A list's bytes. -/
def encAll (xs : List It) : List Nat := xs.flatMap encI

/-- What is known of an item's fields. -/
structure ItOk (x : It) : Prop where
  k1 : -9223372036854775808 ≤ x.k
  k2 : x.k ≤ 9223372036854775807
  n1 : -9223372036854775808 ≤ x.n
  n2 : x.n ≤ 9223372036854775807
  f : x.f < 18446744073709551616
  r : x.r < 18446744073709551616
  i : x.i < 18446744073709551616

theorem may_kind {x : It} (h : may x = true) : 1 ≤ x.k ∧ x.k ≤ 6 := by
  unfold may at h
  simp only [Bool.and_eq_true, decide_eq_true_eq] at h
  exact ⟨h.1.1.1.1.1.1, h.1.1.1.1.1.2⟩

theorem cb_lt {a : Nat} (h : a < 18446744073709551616) : cb a < 18446744073709551616 := by
  unfold cb; split <;> (try split) <;> omega
theorem cb_cb (a : Nat) : cb (cb a) = cb a := by
  unfold cb
  by_cases h1 : nanB a = true
  · rw [if_pos h1]; decide
  · rw [if_neg h1]
    by_cases h2 : nought a = true
    · rw [if_pos h2]; decide
    · rw [if_neg h2, if_neg h1, if_neg h2]
theorem rise_lt {a : Nat} (_h : a < 18446744073709551616) : rise a < 18446744073709551616 := by
  unfold rise; split <;> omega
theorem rise_cb (a : Nat) : rise (cb a) = rise a := by unfold rise; rw [cb_cb]
theorem unr_lt {v : Nat} (h : v < 18446744073709551616) : unr v < 18446744073709551616 := by unfold unr; split <;> omega
theorem unr_rise {a : Nat} (h : a < 18446744073709551616) : unr (rise a) = cb a := by
  have := cb_lt h
  unfold unr rise
  by_cases hc : cb a < 9223372036854775808
  · rw [if_pos hc, if_pos (by omega)]; omega
  · rw [if_neg hc, if_neg (by omega)]; omega
theorem rise_unr {v : Nat} (h : v < 18446744073709551616) (hc : cb (unr v) = unr v) : rise (unr v) = v := by
  unfold rise
  rw [hc]
  unfold unr
  by_cases h1 : 9223372036854775808 ≤ v
  · rw [if_pos h1, if_pos (by omega)]; omega
  · rw [if_neg h1, if_neg (by omega)]; omega
theorem cb_of_rise {v : Nat} (h : v < 18446744073709551616) (hr : rise (unr v) = v) : cb (unr v) = unr v := by
  have := unr_rise (unr_lt h)
  rw [hr] at this
  exact this.symm

theorem cmpI_iff {a b c d : Int} (h1 : a < b ↔ c < d) (h2 : b < a ↔ d < c) : cmpI a b = cmpI c d := by
  unfold cmpI; simp only [h1, h2]

theorem cmpF_rise {a b : Nat} (ha : a < 18446744073709551616) (hb : b < 18446744073709551616) : cmpF a b = cmpI (rise a : Int) (rise b : Int) := by
  have nn : rise a = (if nanB a then 18444492273895866369 else if nought a then 9223372036854775808 else if a < 9223372036854775808 then a + 9223372036854775808 else 18446744073709551615 - a) := by
    unfold rise cb
    by_cases h1 : nanB a = true
    · simp [h1]
    · simp only [h1, Bool.false_eq_true, if_false]
      by_cases h2 : nought a = true
      · simp [h2]
      · simp [h2]
  have mm : rise b = (if nanB b then 18444492273895866369 else if nought b then 9223372036854775808 else if b < 9223372036854775808 then b + 9223372036854775808 else 18446744073709551615 - b) := by
    unfold rise cb
    by_cases h1 : nanB b = true
    · simp [h1]
    · simp only [h1, Bool.false_eq_true, if_false]
      by_cases h2 : nought b = true
      · simp [h2]
      · simp [h2]
  have side : ∀ c : Nat, c < 18446744073709551616 → nanB c = false → ∃ q : Int, (q = (if nought c then (9223372036854775808 : Int) else if c < 9223372036854775808 then (c : Int) + 9223372036854775808 else 18446744073709551615 - c)) ∧
      ((key c = 0 ∧ q = 9223372036854775808) ∨ (0 < key c ∧ q = 9223372036854775808 + key c ∧ key c ≤ 9218868437227405312) ∨ (key c < 0 ∧ q = 9223372036854775807 + key c ∧ -9218868437227405312 ≤ key c)) := by
    intro c hc hn
    refine ⟨_, rfl, ?_⟩
    have hr : rng c ≤ 9218868437227405312 := by simpa [nanB] using hn
    unfold rng at hr
    by_cases h0 : c % 9223372036854775808 = 0
    · have hb : nought c = true := by simp [nought, rng, h0]
      rw [hb]
      left
      refine ⟨?_, rfl⟩
      unfold key
      by_cases h1 : c < 9223372036854775808
      · rw [if_pos h1]; omega
      · rw [if_neg h1]; omega
    · have hb : nought c = false := by simp [nought, rng, h0]
      rw [hb]
      right
      unfold key
      simp only [Bool.false_eq_true, if_false]
      by_cases h1 : c < 9223372036854775808
      · simp only [if_pos h1]; left; omega
      · simp only [if_neg h1]; right; omega
  unfold cmpF
  by_cases na : nanB a = true
  · rw [if_pos na, nn, if_pos na]
    by_cases nb : nanB b = true
    · rw [if_pos nb, mm, if_pos nb]; decide
    · have nb' : nanB b = false := by simpa using nb
      obtain ⟨q, hq, h⟩ := side b hb nb'
      rw [if_neg nb, mm, if_neg nb]
      have e : (((if nought b then 9223372036854775808 else if b < 9223372036854775808 then b + 9223372036854775808 else 18446744073709551615 - b : Nat)) : Int) = q := by
        rw [hq]; split
        · rfl
        · split <;> omega
      rw [e]
      unfold cmpI
      rw [if_neg (by omega), if_pos (by omega)]
  · have na' : nanB a = false := by simpa using na
    obtain ⟨p, hp, h⟩ := side a ha na'
    rw [if_neg na, nn, if_neg na]
    have e : (((if nought a then 9223372036854775808 else if a < 9223372036854775808 then a + 9223372036854775808 else 18446744073709551615 - a : Nat)) : Int) = p := by
      rw [hp]; split
      · rfl
      · split <;> omega
    rw [e]
    by_cases nb : nanB b = true
    · rw [if_pos nb, mm, if_pos nb]
      unfold cmpI
      rw [if_pos (by omega)]
    · have nb' : nanB b = false := by simpa using nb
      obtain ⟨q, hq, h'⟩ := side b hb nb'
      rw [if_neg nb, mm, if_neg nb]
      have e' : (((if nought b then 9223372036854775808 else if b < 9223372036854775808 then b + 9223372036854775808 else 18446744073709551615 - b : Nat)) : Int) = q := by
        rw [hq]; split
        · rfl
        · split <;> omega
      rw [e']
      exact cmpI_iff (by omega) (by omega)

/- Rows of bytes compared. -/
theorem lexc_self (l : List Nat) : lexc l l = 0 := by
  induction l with
  | nil => rfl
  | cons a l ih => unfold lexc; rw [if_neg (by omega), if_neg (by omega), ih]
theorem lexc_neg : ∀ (l m : List Nat), lexc m l = -lexc l m
  | [], [] => rfl
  | [], _ :: _ => rfl
  | _ :: _, [] => rfl
  | a :: l, b :: m => by
    unfold lexc
    by_cases h1 : a < b
    · rw [if_neg (by omega), if_pos h1, if_pos h1]; rfl
    · by_cases h2 : b < a
      · rw [if_pos h2, if_neg h1, if_pos h2]
      · rw [if_neg h2, if_neg h1, if_neg h1, if_neg h2, lexc_neg l m]
theorem lexc_range : ∀ (l m : List Nat), lexc l m = -1 ∨ lexc l m = 0 ∨ lexc l m = 1
  | [], [] => .inr (.inl rfl)
  | [], _ :: _ => .inl rfl
  | _ :: _, [] => .inr (.inr rfl)
  | a :: l, b :: m => by
    unfold lexc
    by_cases h1 : a < b
    · rw [if_pos h1]; exact .inl rfl
    · by_cases h2 : b < a
      · rw [if_neg h1, if_pos h2]; exact .inr (.inr rfl)
      · rw [if_neg h1, if_neg h2]; exact lexc_range l m
theorem lexc_eq : ∀ {l m : List Nat}, lexc l m = 0 → l = m
  | [], [], _ => rfl
  | [], _ :: _, h => by cases h
  | _ :: _, [], h => by cases h
  | a :: l, b :: m, h => by
    unfold lexc at h
    by_cases h1 : a < b
    · rw [if_pos h1] at h; cases h
    · by_cases h2 : b < a
      · rw [if_neg h1, if_pos h2] at h; cases h
      · rw [if_neg h1, if_neg h2] at h
        rw [lexc_eq h, show a = b by omega]
theorem lexc_trans : ∀ {l m n : List Nat}, lexc l m ≤ 0 → lexc m n ≤ 0 → lexc l n ≤ 0
  | [], _, [], _, _ => by decide
  | [], _, _ :: _, _, _ => by simp [lexc]
  | a :: l, [], n, h, _ => by simp [lexc] at h
  | a :: l, b :: m, [], _, h => by simp [lexc] at h
  | a :: l, b :: m, c :: n, h1, h2 => by
    unfold lexc at h1 h2 ⊢
    by_cases e1 : a < b
    · by_cases e3 : b < c
      · rw [if_pos (by omega)]; omega
      · by_cases e4 : c < b
        · rw [if_neg e3, if_pos e4] at h2; omega
        · rw [if_pos (by omega)]; omega
    · by_cases e2 : b < a
      · rw [if_neg e1, if_pos e2] at h1; omega
      · rw [if_neg e1, if_neg e2] at h1
        by_cases e3 : b < c
        · rw [if_pos (by omega)]; omega
        · by_cases e4 : c < b
          · rw [if_neg e3, if_pos e4] at h2; omega
          · rw [if_neg e3, if_neg e4] at h2
            rw [if_neg (by omega), if_neg (by omega)]
            exact lexc_trans h1 h2
theorem lexc_same (p l m : List Nat) : lexc (p ++ l) (p ++ m) = lexc l m := by
  induction p with
  | nil => rfl
  | cons a p ih => rw [List.cons_append, List.cons_append, lexc, if_neg (by omega), if_neg (by omega), ih]
theorem cmpI_lt {a b : Int} (h : a < b) : cmpI a b = -1 := by unfold cmpI; rw [if_pos h]
theorem cmpI_gt {a b : Int} (h : b < a) : cmpI a b = 1 := by unfold cmpI; rw [if_neg (by omega), if_pos h]
theorem cmpI_self (a : Int) : cmpI a a = 0 := by unfold cmpI; rw [if_neg (by omega), if_neg (by omega)]
theorem orI_ne {a : Int} (h : a ≠ 0) (b : Int) : orI a b = a := by unfold orI; rw [if_pos h]
theorem orI_nil (b : Int) : orI 0 b = b := by simp [orI]
theorem lexc_cons (a b : Nat) (l m : List Nat) : lexc (a :: l) (b :: m) = orI (cmpI a b) (lexc l m) := by
  rw [lexc]
  by_cases h1 : a < b
  · rw [if_pos h1, cmpI_lt (by omega), orI_ne (by decide)]
  · by_cases h2 : b < a
    · rw [if_neg h1, if_pos h2, cmpI_gt (by omega), orI_ne (by decide)]
    · rw [if_neg h1, if_neg h2, show a = b by omega, cmpI_self, orI_nil]
theorem orI_assoc (a b c : Int) : orI (orI a b) c = orI a (orI b c) := by
  unfold orI
  by_cases h : a = 0
  · simp [h]
  · simp [h]
theorem orI_zero (a : Int) : orI a 0 = a := by
  unfold orI
  by_cases h : a = 0
  · simp [h]
  · simp [h]

/-- The first j of eight bytes. -/
theorem lexc_beP {u v : Nat} (hu : u < 18446744073709551616) (hv : v < 18446744073709551616) (s t : List Nat) :
    lexc (beP 8 u 8 ++ s) (beP 8 v 8 ++ t) = orI (cmpI (u : Int) (v : Int)) (lexc s t) := by
  have main : ∀ j, j ≤ 8 → lexc (beP 8 u j ++ s) (beP 8 v j ++ t) = orI (cmpI ((u / 256 ^ (8 - j) : Nat) : Int) ((v / 256 ^ (8 - j) : Nat) : Int)) (lexc s t) ∧
      ∀ s t, lexc (beP 8 u j ++ s) (beP 8 v j ++ t) = orI (cmpI ((u / 256 ^ (8 - j) : Nat) : Int) ((v / 256 ^ (8 - j) : Nat) : Int)) (lexc s t) := by
    intro j
    induction j with
    | zero =>
      intro _
      have e1 : u / 256 ^ (8 - 0) = 0 := Nat.div_eq_of_lt hu
      have e2 : v / 256 ^ (8 - 0) = 0 := Nat.div_eq_of_lt hv
      rw [e1, e2]
      exact ⟨by simp [beP, orI, cmpI], by simp [beP, orI, cmpI]⟩
    | succ j ih =>
      intro hj
      have ih2 := (ih (by omega)).2
      have all : ∀ s t, lexc (beP 8 u (j + 1) ++ s) (beP 8 v (j + 1) ++ t) = orI (cmpI ((u / 256 ^ (8 - (j + 1)) : Nat) : Int) ((v / 256 ^ (8 - (j + 1)) : Nat) : Int)) (lexc s t) := by
        intro s t
        rw [beP_succ, beP_succ, List.append_assoc, List.append_assoc, ih2, List.singleton_append, List.singleton_append, lexc_cons, ← orI_assoc]
        congr 1
        have e : 8 - j = (8 - (j + 1)) + 1 := by omega
        have e' : 8 - 1 - j = 8 - (j + 1) := by omega
        rw [e', e, Nat.pow_succ, ← Nat.div_div_eq_div_mul, ← Nat.div_div_eq_div_mul]
        generalize u / 256 ^ (8 - (j + 1)) = p
        generalize v / 256 ^ (8 - (j + 1)) = q
        by_cases h1 : p / 256 < q / 256
        · rw [cmpI_lt (by omega), orI_ne (by decide), cmpI_lt (by omega)]
        · by_cases h2 : q / 256 < p / 256
          · rw [cmpI_gt (by omega), orI_ne (by decide), cmpI_gt (by omega)]
          · rw [show p / 256 = q / 256 by omega, cmpI_self, orI_nil]
            exact cmpI_iff (by omega) (by omega)
      exact ⟨all s t, all⟩
  have := (main 8 (by omega)).1
  simpa using this

theorem esc_cons (z : Nat) (l : List Nat) : esc (z :: l) = (if z = 0 then [0, 255] else [z]) ++ esc l := by simp [esc]

theorem lexc_esc : ∀ (a b s t : List Nat), All8 a → All8 b → lexc (esc a ++ [0, 1] ++ s) (esc b ++ [0, 1] ++ t) = orI (lexc a b) (lexc s t)
  | [], [], s, t, _, _ => by simp [esc, lexc, orI]
  | [], z :: b, s, t, _, _ => by
    rw [esc_cons]
    by_cases h : z = 0
    · subst h; simp [esc, lexc, orI]
    · rw [if_neg h]
      simp only [esc, List.flatMap_nil, List.nil_append, List.cons_append]
      rw [lexc_cons, cmpI_lt (by omega), orI_ne (by decide)]; simp [lexc, orI]
  | z :: a, [], s, t, _, _ => by
    rw [esc_cons]
    by_cases h : z = 0
    · subst h; simp [esc, lexc, orI]
    · rw [if_neg h]
      simp only [esc, List.flatMap_nil, List.nil_append, List.cons_append]
      rw [lexc_cons, cmpI_gt (by omega), orI_ne (by decide)]; simp [lexc, orI]
  | z :: a, y :: b, s, t, h1, h2 => by
    have ih := lexc_esc a b s t (fun x hx => h1 x (List.mem_cons_of_mem _ hx)) (fun x hx => h2 x (List.mem_cons_of_mem _ hx))
    rw [lexc_cons, orI_assoc, ← ih, esc_cons, esc_cons]
    by_cases hz : z = 0
    · by_cases hy : y = 0
      · subst hz; subst hy
        simp [lexc, orI, cmpI]
      · subst hz
        rw [if_pos rfl, if_neg hy]
        simp only [List.cons_append, List.nil_append]
        rw [lexc_cons, cmpI_lt (by omega), orI_ne (by decide), orI_ne (by decide)]
    · by_cases hy : y = 0
      · subst hy
        rw [if_neg hz, if_pos rfl]
        simp only [List.cons_append, List.nil_append]
        rw [lexc_cons, cmpI_gt (by omega), orI_ne (by decide), orI_ne (by decide)]
      · rw [if_neg hz, if_neg hy]
        simp only [List.cons_append, List.nil_append]
        rw [lexc_cons]

theorem strNat_all (s : ByteArray) : All8 (strNat s) := by
  intro z hz
  unfold strNat at hz
  obtain ⟨u, _, rfl⟩ := List.mem_map.1 hz
  exact u.toNat_lt

theorem lexc_encI {x y : It} (hx : ItOk x) (hy : ItOk y) (mx : may x = true) (my : may y = true) (s t : List Nat) :
    lexc (encI x ++ s) (encI y ++ t) = orI (cmpIt x y) (lexc s t) := by
  have kx := may_kind mx
  have ky := may_kind my
  unfold encI
  rw [List.cons_append, List.cons_append, lexc_cons]
  by_cases hk : x.k = y.k
  · have e : cmpI (x.k.toNat : Int) (y.k.toNat : Int) = 0 := by rw [hk]; simp [cmpI]
    rw [e]
    have e0 : ∀ a, orI 0 a = a := fun a => by simp [orI]
    rw [e0]
    have hcm : ¬ (x.k ≠ y.k ∨ may x = false ∨ may y = false) := by simp [hk, mx, my]
    unfold cmpIt
    rw [if_neg hcm]
    unfold body
    rw [← hk]
    by_cases h2 : x.k = 2
    · simp only [if_pos h2]
      rw [List.singleton_append, List.singleton_append, lexc_cons]
      cases x.b <;> cases y.b <;> rfl
    · simp only [if_neg h2]
      by_cases h3 : x.k = 3
      · simp only [if_pos h3]
        have := hx.n1; have := hx.n2; have := hy.n1; have := hy.n2
        rw [lexc_beP (by omega) (by omega)]
        congr 1
        exact cmpI_iff (by omega) (by omega)
      · simp only [if_neg h3]
        by_cases h4 : x.k = 4
        · simp only [if_pos h4]
          rw [lexc_beP (rise_lt hx.f) (rise_lt hy.f), cmpF_rise hx.f hy.f]
        · simp only [if_neg h4]
          by_cases h5 : x.k = 5
          · simp only [if_pos h5]
            rw [List.append_assoc, List.append_assoc, lexc_beP (rise_lt hx.r) (rise_lt hy.r), lexc_beP (rise_lt hx.i) (rise_lt hy.i), cmpF_rise hx.r hy.r, cmpF_rise hx.i hy.i, orI_assoc]
          · simp only [if_neg h5]
            by_cases h6 : x.k = 6
            · simp only [if_pos h6]
              exact lexc_esc _ _ _ _ (strNat_all _) (strNat_all _)
            · simp only [if_neg h6]
              rw [e0]; rfl
  · have e : cmpIt x y = cmpI x.k y.k := by unfold cmpIt; rw [if_pos (.inl hk)]
    rw [e]
    have e2 : cmpI (x.k.toNat : Int) (y.k.toNat : Int) = cmpI x.k y.k := cmpI_iff (by omega) (by omega)
    rw [e2]
    unfold orI
    have : cmpI x.k y.k ≠ 0 := by
      unfold cmpI
      by_cases h : x.k < y.k
      · rw [if_pos h]; decide
      · rw [if_neg h, if_pos (by omega)]; decide
    rw [if_pos this, if_pos this]

theorem cmpIt_lexc {x y : It} (hx : ItOk x) (hy : ItOk y) (mx : may x = true) (my : may y = true) : cmpIt x y = lexc (encI x) (encI y) := by
  have := lexc_encI hx hy mx my [] []
  rw [List.append_nil, List.append_nil] at this
  rw [this, show lexc [] [] = 0 from rfl, orI_zero]

theorem encAll_cons (x : It) (l : List It) : encAll (x :: l) = encI x ++ encAll l := by simp [encAll]

theorem lexc_encAll : ∀ {a b : List It}, (∀ x ∈ a, ItOk x ∧ may x = true) → (∀ x ∈ b, ItOk x ∧ may x = true) → lexc (encAll a) (encAll b) = cmpAll a b
  | [], [], _, _ => rfl
  | [], y :: b, _, _ => by rw [encAll_cons]; rfl
  | x :: a, [], _, _ => by rw [encAll_cons]; rfl
  | x :: a, y :: b, h1, h2 => by
    have hx := h1 x List.mem_cons_self
    have hy := h2 y List.mem_cons_self
    rw [encAll_cons, encAll_cons, lexc_encI hx.1 hy.1 hx.2 hy.2, lexc_encAll (fun z hz => h1 z (List.mem_cons_of_mem _ hz)) (fun z hz => h2 z (List.mem_cons_of_mem _ hz))]
    rfl

end Go.Proofs.Ytelcfmjhbjnkoaa

/- The check sum as plain mathematics: a step, a byte taken, bytes taken; that all of it is linear over exclusive or; the bytes as one great number. -/
import Derived.WalkKit
namespace Go.Proofs.YtkacfpmninmjkaaGreat

/-- A step of a register. -/
def stp (v : Nat) : Nat := if v % 2 = 1 then (v / 2) ^^^ 3988292384 else v / 2
/-- So many steps. -/
def stps : Nat → Nat → Nat
  | 0, v => v
  | n + 1, v => stps n (stp v)
/-- The register behind a byte. -/
def tak (v b : Nat) : Nat := stps 8 (v ^^^ b)
/-- The register behind some bytes. -/
def run (v : Nat) (bs : List Nat) : Nat := bs.foldl tak v
/-- The sum of bytes that stand behind others. -/
def moreN (s : Nat) (bs : List Nat) : Nat := run (s ^^^ 4294967295) bs ^^^ 4294967295
/-- A number of 32 bits. -/
def W32 (a : Nat) : Prop := a < 4294967296

theorem xor32 {a b : Nat} (ha : W32 a) (hb : W32 b) : W32 (a ^^^ b) := Nat.xor_lt_two_pow (n := 32) ha hb

theorem stp_xor (a b : Nat) : stp (a ^^^ b) = stp a ^^^ stp b := by
  have hd : (a ^^^ b) / 2 = a / 2 ^^^ b / 2 := Nat.xor_div_two
  have hm : (a ^^^ b) % 2 = (a + b) % 2 := by
    have h1 := Nat.testBit_xor (x := a) (y := b) (i := 0)
    rw [Nat.testBit_zero, Nat.testBit_zero, Nat.testBit_zero] at h1
    generalize a ^^^ b = c at h1
    rcases Nat.mod_two_eq_zero_or_one a with ha | ha <;> rcases Nat.mod_two_eq_zero_or_one b with hb | hb <;> rcases Nat.mod_two_eq_zero_or_one c with hc | hc <;> rw [ha, hb, hc] at h1 <;> first | omega | exact absurd h1 (by decide)
  unfold stp
  rw [hd, hm]
  by_cases ha : a % 2 = 1 <;> by_cases hb : b % 2 = 1
  · rw [if_neg (by omega), if_pos ha, if_pos hb]
    rw [Nat.xor_assoc, ← Nat.xor_assoc 3988292384, Nat.xor_comm 3988292384, Nat.xor_assoc (b / 2), Nat.xor_self, Nat.xor_zero]
  · rw [if_pos (by omega), if_pos ha, if_neg hb, Nat.xor_assoc, Nat.xor_assoc, Nat.xor_comm (b / 2)]
  · rw [if_pos (by omega), if_neg ha, if_pos hb, Nat.xor_assoc]
  · rw [if_neg (by omega), if_neg ha, if_neg hb]

theorem stp_zero : stp 0 = 0 := rfl
theorem stp_double (u : Nat) : stp (2 * u) = u := by unfold stp; rw [if_neg (by omega)]; omega
theorem stp32 {v : Nat} (h : W32 v) : W32 (stp v) := by
  unfold stp W32 at *
  split
  · exact Nat.xor_lt_two_pow (n := 32) (by omega) (by omega)
  · omega

theorem stps_xor (n a b : Nat) : stps n (a ^^^ b) = stps n a ^^^ stps n b := by
  induction n generalizing a b with
  | zero => rfl
  | succ n ih => simp only [stps]; rw [stp_xor, ih]
theorem stps_zero (n : Nat) : stps n 0 = 0 := by
  induction n with
  | zero => rfl
  | succ n ih => simp only [stps]; rw [stp_zero, ih]
theorem stps32 {n v : Nat} (h : W32 v) : W32 (stps n v) := by
  induction n generalizing v with
  | zero => exact h
  | succ n ih => exact ih (stp32 h)
theorem stps_add (n m v : Nat) : stps (n + m) v = stps m (stps n v) := by
  induction n generalizing v with
  | zero => rw [Nat.zero_add]; rfl
  | succ n ih => rw [Nat.succ_add]; simp only [stps]; exact ih _
theorem stps_last (n v : Nat) : stps (n + 1) v = stp (stps n v) := by rw [stps_add]; rfl
theorem stps_shift (n u : Nat) : stps n (2 ^ n * u) = u := by
  induction n with
  | zero => simp [stps]
  | succ n ih => simp only [stps]; rw [Nat.pow_succ, Nat.mul_comm (2 ^ n) 2, Nat.mul_assoc, stp_double, ih]

/-- A number that lies below a power, and one that is a multiple of it: their sum is their exclusive or. -/
theorem add_xor {n a u : Nat} (h : a < 2 ^ n) : a + 2 ^ n * u = a ^^^ (2 ^ n * u) := by
  apply Nat.eq_of_testBit_eq
  intro i
  rw [Nat.add_comm, Nat.testBit_two_pow_mul_add u h i, Nat.testBit_xor, Nat.testBit_two_pow_mul]
  by_cases hi : i < n
  · simp [hi, show ¬ n ≤ i by omega]
  · have : a.testBit i = false := Nat.testBit_lt_two_pow (Nat.lt_of_lt_of_le h (Nat.pow_le_pow_right (by omega) (by omega)))
    simp [hi, this, show n ≤ i by omega]

/-- Steps of half a byte by the table. -/
theorem stps_half (v : Nat) : stps 4 v = v / 16 ^^^ stps 4 (v % 16) := by
  have h : v = (v % 16) ^^^ (2 ^ 4 * (v / 16)) := by
    rw [← add_xor (n := 4) (by omega)]; omega
  have h2 : stps 4 v = stps 4 (v % 16) ^^^ stps 4 (2 ^ 4 * (v / 16)) := by rw [← stps_xor, ← h]
  rw [h2, stps_shift, Nat.xor_comm]

theorem tak_xor (v b v' b' : Nat) : tak (v ^^^ v') (b ^^^ b') = tak v b ^^^ tak v' b' := by
  unfold tak; rw [← stps_xor]; congr 1
  rw [Nat.xor_assoc, Nat.xor_assoc, ← Nat.xor_assoc v', ← Nat.xor_assoc b, Nat.xor_comm v' b]
theorem tak32 {v b : Nat} (h : W32 v) (hb : b < 256) : W32 (tak v b) := stps32 (xor32 h (by unfold W32; omega))
theorem run32 {v : Nat} {bs : List Nat} (h : W32 v) (hb : ∀ b ∈ bs, b < 256) : W32 (run v bs) := by
  induction bs generalizing v with
  | nil => exact h
  | cons b bs ih => exact ih (tak32 h (hb b (by simp))) (fun x hx => hb x (by simp [hx]))
theorem more32 {s : Nat} {bs : List Nat} (h : W32 s) (hb : ∀ b ∈ bs, b < 256) : W32 (moreN s bs) := xor32 (run32 (xor32 h (by unfold W32; omega)) hb) (by unfold W32; omega)
theorem run_snoc (v : Nat) (bs : List Nat) (b : Nat) : run v (bs ++ [b]) = tak (run v bs) b := by unfold run; rw [List.foldl_append]; rfl
theorem run_append (v : Nat) (as bs : List Nat) : run v (as ++ bs) = run (run v as) bs := by unfold run; rw [List.foldl_append]
theorem more_nil (s : Nat) : moreN s [] = s := by unfold moreN run; rw [List.foldl_nil, Nat.xor_assoc, Nat.xor_self, Nat.xor_zero]
theorem more_append (s : Nat) (as bs : List Nat) : moreN s (as ++ bs) = moreN (moreN s as) bs := by
  unfold moreN; rw [run_append, Nat.xor_assoc (run _ as), Nat.xor_self, Nat.xor_zero]

/-- Three texts of one length. -/
def xor3 : List Nat → List Nat → List Nat → List Nat
  | a :: as, b :: bs, c :: cs => (a ^^^ b ^^^ c) :: xor3 as bs cs
  | _, _, _ => []

theorem run_three (as bs cs : List Nat) (h1 : as.length = bs.length) (h2 : as.length = cs.length) (u v x : Nat) : run (u ^^^ v ^^^ x) (xor3 as bs cs) = run u as ^^^ run v bs ^^^ run x cs := by
  induction as generalizing bs cs u v x with
  | nil =>
    cases bs <;> cases cs <;> simp at h1 h2
    rfl
  | cons a as ih =>
    match bs, cs, h1, h2 with
    | b :: bs, c :: cs, h1, h2 =>
      simp only [List.length_cons, Nat.succ.injEq] at h1 h2
      show run (tak (u ^^^ v ^^^ x) (a ^^^ b ^^^ c)) (xor3 as bs cs) = run (tak u a) as ^^^ run (tak v b) bs ^^^ run (tak x c) cs
      rw [tak_xor, tak_xor, ih bs cs h1 h2]
theorem more_three (as bs cs : List Nat) (h1 : as.length = bs.length) (h2 : as.length = cs.length) : moreN 0 (xor3 as bs cs) = moreN 0 as ^^^ moreN 0 bs ^^^ moreN 0 cs := by
  have h := run_three as bs cs h1 h2 4294967295 4294967295 4294967295
  have e : (4294967295 ^^^ 4294967295 ^^^ 4294967295 : Nat) = 4294967295 := by decide
  rw [e] at h
  unfold moreN
  rw [Nat.zero_xor, h]
  generalize run 4294967295 as = A
  generalize run 4294967295 bs = B
  generalize run 4294967295 cs = C
  apply Nat.eq_of_testBit_eq
  intro i
  simp only [Nat.testBit_xor]
  cases A.testBit i <;> cases B.testBit i <;> cases C.testBit i <;> cases (4294967295 : Nat).testBit i <;> rfl

/-- The bytes as one number, the first one lowest. -/
def leVal : List Nat → Nat
  | [] => 0
  | b :: bs => b + 256 * leVal bs

theorem run_leVal (v : Nat) (bs : List Nat) (hb : ∀ b ∈ bs, b < 256) : run v bs = stps (8 * bs.length) (v ^^^ leVal bs) := by
  induction bs generalizing v with
  | nil => simp [run, leVal, stps]
  | cons b bs ih =>
    have h1 : b < 2 ^ 8 := hb b (by simp)
    have e : leVal (b :: bs) = b ^^^ (2 ^ 8 * leVal bs) := by rw [← add_xor h1]; rfl
    show run (tak v b) bs = _
    rw [ih _ (fun x hx => hb x (by simp [hx])), List.length_cons, show 8 * (bs.length + 1) = 8 + 8 * bs.length by omega, stps_add, e, ← Nat.xor_assoc, stps_xor 8, stps_shift]
    rfl

theorem stp_pos {v : Nat} (h : W32 v) (h0 : v ≠ 0) : stp v ≠ 0 := by
  unfold stp W32 at *
  split
  · intro e
    have e2 : v / 2 = 3988292384 := by
      have : (v / 2 ^^^ 3988292384) ^^^ 3988292384 = 0 ^^^ 3988292384 := by rw [e]
      rwa [Nat.xor_assoc, Nat.xor_self, Nat.xor_zero, Nat.zero_xor] at this
    omega
  · omega
theorem stps_pos {n v : Nat} (h : W32 v) (h0 : v ≠ 0) : stps n v ≠ 0 := by
  induction n generalizing v with
  | zero => exact h0
  | succ n ih => exact ih (stp32 h) (stp_pos h h0)

/-- What is unlike within 32 bits has another sum. -/
theorem more_unlike {as bs : List Nat} (ha : ∀ b ∈ as, b < 256) (hb : ∀ b ∈ bs, b < 256) (hl : as.length = bs.length) {m k : Nat} (hm : W32 m) (h0 : m ≠ 0) (hk : k ≤ 8 * bs.length) (he : leVal bs = leVal as ^^^ (2 ^ k * m)) (s : Nat) : moreN s as ≠ moreN s bs := by
  intro e
  unfold moreN at e
  have e1 : run (s ^^^ 4294967295) as = run (s ^^^ 4294967295) bs := by
    have := congrArg (· ^^^ 4294967295) e
    simpa [Nat.xor_assoc, Nat.xor_self, Nat.xor_zero] using this
  rw [run_leVal _ _ ha, run_leVal _ _ hb, he, hl, ← Nat.xor_assoc] at e1
  rw [stps_xor _ (_ ^^^ leVal as)] at e1
  have e2 : stps (8 * bs.length) (2 ^ k * m) = 0 := by
    generalize stps (8 * bs.length) ((s ^^^ 4294967295) ^^^ leVal as) = X at e1
    generalize stps (8 * bs.length) (2 ^ k * m) = Y at e1
    have : X ^^^ X = X ^^^ (X ^^^ Y) := by rw [← e1]
    rwa [Nat.xor_self, ← Nat.xor_assoc, Nat.xor_self, Nat.zero_xor, eq_comm] at this
  rw [show 8 * bs.length = k + (8 * bs.length - k) by omega, stps_add, stps_shift] at e2
  exact stps_pos hm h0 e2

theorem leVal_lt {bs : List Nat} (hb : ∀ b ∈ bs, b < 256) : leVal bs < 2 ^ (8 * bs.length) := by
  induction bs with
  | nil => simp [leVal]
  | cons b bs ih =>
    have h1 := hb b (by simp)
    have h2 := ih (fun x hx => hb x (by simp [hx]))
    simp only [leVal, List.length_cons]
    rw [show 8 * (bs.length + 1) = 8 * bs.length + 8 by omega, Nat.pow_add]
    omega

/-- One bit of one byte turned. -/
theorem leVal_set {bs : List Nat} (hb : ∀ b ∈ bs, b < 256) {i j : Nat} (hi : i < bs.length) (hj : j < 8) : leVal (bs.set i (bs.getD i 0 ^^^ 2 ^ j)) = leVal bs ^^^ 2 ^ (8 * i + j) := by
  induction bs generalizing i with
  | nil => simp at hi
  | cons b bs ih =>
    have h1 : b < 2 ^ 8 := hb b (by simp)
    have hb' : ∀ x ∈ bs, x < 256 := fun x hx => hb x (by simp [hx])
    have e : leVal (b :: bs) = b ^^^ (2 ^ 8 * leVal bs) := by rw [← add_xor h1]; rfl
    cases i with
    | zero =>
      have h2 : b ^^^ 2 ^ j < 2 ^ 8 := Nat.xor_lt_two_pow h1 (Nat.pow_lt_pow_right (by omega) hj)
      have e2 : leVal ((b ^^^ 2 ^ j) :: bs) = (b ^^^ 2 ^ j) ^^^ (2 ^ 8 * leVal bs) := by rw [← add_xor h2]; rfl
      simp only [List.set_cons_zero, List.getD_cons_zero, Nat.mul_zero, Nat.zero_add]
      rw [e2, e, Nat.xor_assoc, Nat.xor_assoc, Nat.xor_comm (2 ^ j)]
    | succ i =>
      have hi' : i < bs.length := by simpa using hi
      have h3 := ih hb' hi'
      simp only [List.set_cons_succ, List.getD_cons_succ]
      have e3 : leVal (b :: bs.set i (bs.getD i 0 ^^^ 2 ^ j)) = b ^^^ (2 ^ 8 * leVal (bs.set i (bs.getD i 0 ^^^ 2 ^ j))) := by rw [← add_xor h1]; rfl
      rw [e3, h3, e, Nat.xor_assoc]
      congr 1
      rw [show 8 * (i + 1) + j = 8 + (8 * i + j) by omega, Nat.pow_add 2 8]
      generalize 2 ^ (8 * i + j) = Y
      apply Nat.eq_of_testBit_eq
      intro q
      simp only [Nat.testBit_xor, Nat.testBit_two_pow_mul]
      by_cases hq : 8 ≤ q <;> simp [hq]

end Go.Proofs.YtkacfpmninmjkaaGreat

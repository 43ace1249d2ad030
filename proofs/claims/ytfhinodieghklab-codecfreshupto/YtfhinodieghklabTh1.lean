/- Things that are put and read: what is put is read, in order, and nothing shorter. -/
import Derived.Test.YtfhinodieghklabForm
namespace Go.Proofs.Ytfhinodieghklab
open Go.RowKit

theorem be_back {W v : Nat} (hv : v < 256 ^ W) : ∀ j, j ≤ W → beVal (beP W v j) = v / 256 ^ (W - j) := by
  intro j
  induction j with
  | zero => intro _; rw [Nat.sub_zero, Nat.div_eq_of_lt hv]; rfl
  | succ j ih =>
    intro hj
    rw [beP_succ, beVal_snoc, ih (by omega)]
    have e : W - j = (W - 1 - j) + 1 := by omega
    have e2 : W - (j + 1) = W - 1 - j := by omega
    rw [e2, e, Nat.pow_succ, ← Nat.div_div_eq_div_mul]
    omega
theorem be_whole {W v : Nat} (hv : v < 256 ^ W) : beVal (beP W v W) = v := by
  rw [be_back hv W (Nat.le_refl _), Nat.sub_self]; simp

theorem fixed_back {W v : Nat} (hv : v < 256 ^ W) (rest : List Nat) : takeFixed W (beP W v W ++ rest) = .ok (v, rest) := by
  have hl : (beP W v W).length = W := beP_len _ _ _
  unfold takeFixed
  rw [if_neg (by simp [hl]), List.take_left' hl, List.drop_left' hl, be_whole hv]
theorem fixed_less {W v : Nat} (hW : 0 < W) : takeFixed W (beP W v W).dropLast = .error 20 := by
  unfold takeFixed
  rw [if_pos (by simp [beP_len]; omega)]

theorem groups_back (rest : List Nat) : ∀ (m g k y : Nat), g < 128 ^ (m + 1) → g * 128 ^ k < 18446744073709551616 → k ≤ 9 → (0 < k → 0 < g) → groupsFrom k y (shortL g ++ rest) = .ok (y + g * 128 ^ k, rest) := by
  intro m
  induction m with
  | zero =>
    intro g k y hg hb hk h0
    have hg' : g < 128 := by simpa using hg
    rw [shortL_low hg']
    show groupsFrom k y (g :: rest) = _
    have h9 : k = 9 → g ≤ 1 := fun e => by subst e; simp at hb; omega
    rw [groupsFrom, if_neg (by omega), if_neg (by omega), if_neg (by omega), Nat.mod_eq_of_lt hg']
  | succ m ih =>
    intro g k y hg hb hk h0
    by_cases h : g < 128
    · rw [shortL_low h]
      show groupsFrom k y (g :: rest) = _
      have h9 : k = 9 → g ≤ 1 := fun e => by subst e; simp at hb; omega
      rw [groupsFrom, if_neg (by omega), if_neg (by omega), if_neg (by omega), Nat.mod_eq_of_lt h]
    · rw [shortL_high h]
      show groupsFrom k y ((g % 128 + 128) :: (shortL (g / 128) ++ rest)) = _
      have hk9 : k ≠ 9 := fun e => by subst e; simp at hb; omega
      have hle : g / 128 * 128 ^ (k + 1) ≤ g * 128 ^ k := by
        rw [Nat.pow_succ, Nat.mul_comm (128 ^ k) 128, ← Nat.mul_assoc]
        exact Nat.mul_le_mul_right _ (Nat.div_mul_le_self g 128)
      rw [groupsFrom, if_neg (by omega), if_pos (by omega), ih (g / 128) (k + 1) _ (by rw [Nat.pow_succ] at hg; exact Nat.div_lt_of_lt_mul (by rw [Nat.mul_comm]; exact hg)) (by omega) (by omega) (fun _ => by omega)]
      have e : y + (g % 128 + 128) % 128 * 128 ^ k + g / 128 * 128 ^ (k + 1) = y + g * 128 ^ k := by
        rw [Nat.pow_succ, Nat.mul_comm (128 ^ k) 128, ← Nat.mul_assoc, Nat.add_assoc, ← Nat.add_mul]
        congr 2
        omega
      rw [e]
theorem groups_less : ∀ (m g k y : Nat), g < 128 ^ (m + 1) → g * 128 ^ k < 18446744073709551616 → k ≤ 9 → groupsFrom k y (shortL g).dropLast = .error 20 := by
  intro m
  induction m with
  | zero =>
    intro g k y hg hb hk
    rw [shortL_low (by simpa using hg)]; rfl
  | succ m ih =>
    intro g k y hg hb hk
    by_cases h : g < 128
    · rw [shortL_low h]; rfl
    · have hne : shortL (g / 128) ≠ [] := by
        by_cases h2 : g / 128 < 128
        · rw [shortL_low h2]; simp
        · rw [shortL_high h2]; simp
      have hk9 : k ≠ 9 := fun e => by subst e; simp at hb; omega
      have hle : g / 128 * 128 ^ (k + 1) ≤ g * 128 ^ k := by
        rw [Nat.pow_succ, Nat.mul_comm (128 ^ k) 128, ← Nat.mul_assoc]
        exact Nat.mul_le_mul_right _ (Nat.div_mul_le_self g 128)
      rw [shortL_high h, List.dropLast_cons_of_ne_nil hne, groupsFrom, if_neg (by omega), if_pos (by omega)]
      exact ih _ _ _ (by rw [Nat.pow_succ] at hg; exact Nat.div_lt_of_lt_mul (by rw [Nat.mul_comm]; exact hg)) (by omega) (by omega)
theorem ten {f : Nat} (h : W64 f) : f < 128 ^ (9 + 1) := Nat.lt_of_lt_of_le h (by decide)
theorem unfold_fold {n : Int} : unfoldN (foldI n) = n := by
  unfold foldI
  split
  · unfold unfoldN; rw [if_pos (by omega)]; omega
  · unfold unfoldN; rw [if_neg (by omega)]; omega
theorem short_back {n low high : Int} (h1 : -9223372036854775808 ≤ n) (h2 : n ≤ 9223372036854775807) (hl : low ≤ n) (hh : n ≤ high) (rest : List Nat) : takeShort low high (shortL (foldI n) ++ rest) = .ok (n, rest) := by
  have hf := foldI_64 h1 h2
  have hg := groups_back rest 9 (foldI n) 0 0 (ten hf) (by unfold W64 at hf; simpa using hf) (by omega) (by omega)
  unfold takeShort
  rw [if_neg (by omega), hg]
  simp only [Nat.pow_zero, Nat.mul_one, Nat.zero_add, unfold_fold]
  rw [if_neg (by omega)]
theorem short_less {n low high : Int} (h1 : -9223372036854775808 ≤ n) (h2 : n ≤ 9223372036854775807) (hl : low ≤ high) : takeShort low high (shortL (foldI n)).dropLast = .error 20 := by
  have hf := foldI_64 h1 h2
  have hg := groups_less 9 (foldI n) 0 0 (ten hf) (by unfold W64 at hf; simpa using hf) (by omega)
  unfold takeShort
  rw [if_neg (by omega), hg]
theorem counted_back {p : List Nat} (hp : p.length ≤ 140737488355328) (rest : List Nat) : takeCounted (p.length : Int) (shortL (2 * p.length) ++ p ++ rest) = .ok (p, rest) := by
  unfold takeCounted
  rw [List.append_assoc, ← foldI_nat, short_back (by omega) (by omega) (by omega) (by omega)]
  simp
theorem counted_less {p : List Nat} (hp : p.length ≤ 140737488355328) : takeCounted (p.length : Int) (shortL (2 * p.length) ++ p).dropLast = .error 20 := by
  by_cases h0 : p = []
  · subst h0; show takeCounted 0 (shortL 0 ++ []).dropLast = _; rw [List.append_nil, shortL_low (by omega)]; rfl
  · unfold takeCounted
    rw [List.dropLast_append_of_ne_nil h0, ← foldI_nat, short_back (by omega) (by omega) (by omega) (by omega)]
    have : 0 < p.length := by cases p with | nil => exact absurd rfl h0 | cons => simp
    simp only [List.length_dropLast]
    rw [if_pos (by omega)]

/-- Something put: its kind, its numbers, its bytes and where they lie. -/
structure Thing where
  k : Int
  v : Nat
  n : Int
  p : List Nat
  a : Option Addr
  c : Nat
/-- What may be put. -/
structure Thing.Ok (t : Thing) : Prop where
  v64 : t.v < 18446744073709551616
  n1 : -9223372036854775808 ≤ t.n
  n2 : t.n ≤ 9223372036854775807
  p8 : All8 t.p
  len : t.p.length ≤ 1048576
  none : t.a = none → t.p.length = 0 ∧ t.c = 0
/-- The bytes of a thing. -/
def Thing.enc (t : Thing) : List Nat :=
  if t.k = 0 then beP 1 (t.v % 256) 1
  else if t.k = 1 then beP 2 (t.v % 65536) 2
  else if t.k = 2 then beP 4 (t.v % 4294967296) 4
  else if t.k = 3 then beP 8 t.v 8
  else if t.k = 4 then shortL (foldI t.n)
  else shortL (2 * t.p.length) ++ t.p
/-- What a reading of a thing answers, and the reader behind it. -/
def Thing.back (t : Thing) (s : List Nat × Nat) : Bool × (List Nat × Nat) :=
  if t.k = 0 then (decide ((rdOf 0 (takeFixed 1) s).1 = t.v % 256), (rdOf 0 (takeFixed 1) s).2)
  else if t.k = 1 then (decide ((rdOf 0 (takeFixed 2) s).1 = t.v % 65536), (rdOf 0 (takeFixed 2) s).2)
  else if t.k = 2 then (decide ((rdOf 0 (takeFixed 4) s).1 = t.v % 4294967296), (rdOf 0 (takeFixed 4) s).2)
  else if t.k = 3 then (decide ((rdOf 0 (takeFixed 8) s).1 = t.v), (rdOf 0 (takeFixed 8) s).2)
  else if t.k = 4 then (decide ((rdOf 0 (takeShort t.n t.n) s).1 = t.n), (rdOf 0 (takeShort t.n t.n) s).2)
  else (decide ((rdOf [] (takeCounted (t.p.length : Int)) s).1 = t.p), (rdOf [] (takeCounted (t.p.length : Int)) s).2)
theorem rd_ok {A : Type} {z x : A} {take : List Nat → Except Nat (A × List Nat)} {bs t : List Nat} (h : take bs = .ok (x, t)) : rdOf z take (bs, 0) = (x, (t, 0)) := by
  unfold rdOf; rw [if_neg (by simp)]; simp only [h]
theorem rd_err {A : Type} {z : A} {take : List Nat → Except Nat (A × List Nat)} {bs : List Nat} {c : Nat} (h : take bs = .error c) : rdOf z take (bs, 0) = (z, (bs, c)) := by
  unfold rdOf; rw [if_neg (by simp)]; simp only [h]
theorem Thing.there {t : Thing} (h : t.Ok) (rest : List Nat) : t.back (t.enc ++ rest, 0) = (true, (rest, 0)) := by
  have h3 := h.v64
  have h4 := h.n1
  have h5 := h.n2
  have h6 := h.len
  unfold Thing.back Thing.enc
  by_cases k0 : t.k = 0
  · simp only [if_pos k0]; rw [rd_ok (fixed_back (by omega) rest)]; simp
  simp only [if_neg k0]
  by_cases k1 : t.k = 1
  · simp only [if_pos k1]; rw [rd_ok (fixed_back (by omega) rest)]; simp
  simp only [if_neg k1]
  by_cases k2 : t.k = 2
  · simp only [if_pos k2]; rw [rd_ok (fixed_back (by omega) rest)]; simp
  simp only [if_neg k2]
  by_cases k3 : t.k = 3
  · simp only [if_pos k3]; rw [rd_ok (fixed_back (by omega) rest)]; simp
  simp only [if_neg k3]
  by_cases k4 : t.k = 4
  · simp only [if_pos k4]; rw [rd_ok (short_back h4 h5 (by omega) (by omega) rest)]; simp
  simp only [if_neg k4]
  rw [rd_ok (counted_back (by omega) rest)]; simp
theorem Thing.less {t : Thing} (h : t.Ok) : (t.back (t.enc.dropLast, 0)).2.2 = 20 := by
  have h4 := h.n1
  have h5 := h.n2
  have h6 := h.len
  unfold Thing.back Thing.enc
  by_cases k0 : t.k = 0
  · simp only [if_pos k0]; rw [rd_err (fixed_less (by omega))]
  simp only [if_neg k0]
  by_cases k1 : t.k = 1
  · simp only [if_pos k1]; rw [rd_err (fixed_less (by omega))]
  simp only [if_neg k1]
  by_cases k2 : t.k = 2
  · simp only [if_pos k2]; rw [rd_err (fixed_less (by omega))]
  simp only [if_neg k2]
  by_cases k3 : t.k = 3
  · simp only [if_pos k3]; rw [rd_err (fixed_less (by omega))]
  simp only [if_neg k3]
  by_cases k4 : t.k = 4
  · simp only [if_pos k4]; rw [rd_err (short_less h4 h5 (by omega))]
  simp only [if_neg k4]
  rw [rd_err (counted_less (by omega))]
theorem shortL_some (f : Nat) : shortL f ≠ [] := by
  by_cases h : f < 128
  · rw [shortL_low h]; simp
  · rw [shortL_high h]; simp
theorem Thing.some (t : Thing) : t.enc ≠ [] := by
  have hb : ∀ W v, 0 < W → beP W v W ≠ [] := fun W v h e => by have := congrArg List.length e; rw [beP_len] at this; simp at this; omega
  unfold Thing.enc
  split
  · exact hb _ _ (by omega)
  split
  · exact hb _ _ (by omega)
  split
  · exact hb _ _ (by omega)
  split
  · exact hb _ _ (by omega)
  split
  · exact shortL_some _
  · exact fun e => shortL_some _ (List.append_eq_nil_iff.1 e).1
theorem Thing.bound {t : Thing} (h : t.Ok) : t.enc.length ≤ 1048586 := by
  have h6 := h.len
  have hs : (shortL (2 * t.p.length)).length ≤ 10 := shortL_ten (by unfold W64; omega)
  have hf : (shortL (foldI t.n)).length ≤ 10 := shortL_ten (foldI_64 h.n1 h.n2)
  unfold Thing.enc
  split
  · rw [beP_len]; omega
  split
  · rw [beP_len]; omega
  split
  · rw [beP_len]; omega
  split
  · rw [beP_len]; omega
  split
  · omega
  · rw [List.length_append]; omega
theorem beP_all (W v j : Nat) : All8 (beP W v j) := fun z hz => by
  obtain ⟨t, _, rfl⟩ := List.mem_map.1 hz
  omega
theorem shortL_all : ∀ (m f : Nat), f < 128 ^ (m + 1) → All8 (shortL f) := by
  intro m
  induction m with
  | zero => intro f hf z hz; rw [shortL_low (by simpa using hf)] at hz; simp at hz hf; omega
  | succ m ih =>
    intro f hf
    by_cases h : f < 128
    · intro z hz; rw [shortL_low h] at hz; simp at hz; omega
    · intro z hz
      rw [shortL_high h] at hz
      rcases List.mem_cons.1 hz with e | e
      · omega
      · exact ih _ (by rw [Nat.pow_succ] at hf; exact Nat.div_lt_of_lt_mul (by rw [Nat.mul_comm]; exact hf)) z e
theorem Thing.all {t : Thing} (h : t.Ok) : All8 t.enc := by
  have h6 := h.len
  unfold Thing.enc
  split
  · exact beP_all _ _ _
  split
  · exact beP_all _ _ _
  split
  · exact beP_all _ _ _
  split
  · exact beP_all _ _ _
  split
  · exact shortL_all 9 _ (ten (foldI_64 h.n1 h.n2))
  · intro z hz
    rcases List.mem_append.1 hz with e | e
    · exact shortL_all 9 _ (ten (by unfold W64; omega)) z e
    · exact h.p8 z e
/-- The bytes of the first things. -/
def pre (T : Nat → Thing) : Nat → List Nat
  | 0 => []
  | k + 1 => pre T k ++ (T k).enc
/-- The bytes of j things from the k-th on. -/
def suf (T : Nat → Thing) : Nat → Nat → List Nat
  | 0, _ => []
  | j + 1, k => (T k).enc ++ suf T j (k + 1)
theorem pre_suf (T : Nat → Thing) : ∀ (j k : Nat), pre T (k + j) = pre T k ++ suf T j k := by
  intro j
  induction j with
  | zero => intro k; simp [suf]
  | succ j ih =>
    intro k
    have e : k + (j + 1) = (k + 1) + j := by omega
    rw [e, ih (k + 1)]
    simp [pre, suf]
theorem suf_one {T : Nat → Thing} {n k : Nat} (h : k < n) : suf T (n - k) k = (T k).enc ++ suf T (n - (k + 1)) (k + 1) := by
  have e : n - k = (n - (k + 1)) + 1 := by omega
  rw [e]; rfl
theorem suf_some {T : Nat → Thing} {n k : Nat} (h : k < n) : suf T (n - k) k ≠ [] := by
  rw [suf_one h]; exact fun e => (T k).some (List.append_eq_nil_iff.1 e).1
theorem pre_len {T : Nat → Thing} {n : Nat} (h : ∀ i, i < n → (T i).Ok) : ∀ k, k ≤ n → (pre T k).length ≤ k * 1048586 := by
  intro k
  induction k with
  | zero => intro _; simp [pre]
  | succ k ih =>
    intro hk
    have := ih (by omega)
    have h2 := Thing.bound (h k (by omega))
    simp only [pre, List.length_append]
    omega
theorem pre_all {T : Nat → Thing} {n : Nat} (h : ∀ i, i < n → (T i).Ok) : ∀ k, k ≤ n → All8 (pre T k) := by
  intro k
  induction k with
  | zero => intro _ z hz; simp [pre] at hz
  | succ k ih =>
    intro hk z hz
    simp only [pre] at hz
    rcases List.mem_append.1 hz with e | e
    · exact ih (by omega) z e
    · exact Thing.all (h k (by omega)) z e
end Go.Proofs.Ytfhinodieghklab

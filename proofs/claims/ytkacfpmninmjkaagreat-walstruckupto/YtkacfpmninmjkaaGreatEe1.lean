/- Entries as mathematics: which may be, their bytes, what bytes say; there and back, one form. -/
import Derived.Test.YtkacfpmninmjkaaGreatFe1
namespace Go.Proofs.YtkacfpmninmjkaaGreat
open Go.RowKit

theorem strOf_strNat (s : ByteArray) : strOf (strNat s) = s := by
  have h := strOf_data (strNat s)
  have e : (strNat s).map UInt8.ofNat = s.data.toList := by
    unfold strNat
    rw [List.map_map]
    have : ∀ z ∈ s.data.toList, (UInt8.ofNat ∘ UInt8.toNat) z = z := fun z _ => by simp
    rw [List.map_congr_left this]; simp
  rw [e] at h
  exact ByteArray.ext (Array.toList_inj.1 h)
theorem strNat_all (s : ByteArray) : All8 (strNat s) := fun z hz => by
  obtain ⟨y, _, rfl⟩ := List.mem_map.1 hz
  exact y.toNat_lt

theorem groups_form {f : Nat} {t : List Nat} : ∀ (bs : List Nat) (_ : All8 bs) (k y : Nat), groupsFrom k y bs = .ok (f, t) → ∃ g, f = y + g * 128 ^ k ∧ bs = shortL g ++ t ∧ (0 < k → 0 < g) := by
  intro bs
  induction bs with
  | nil => intro _ k y h; cases h
  | cons x s ih =>
    intro h8 k y h
    have hx : x < 256 := h8 x (by simp)
    have h8s : All8 s := fun z hz => h8 z (List.mem_cons_of_mem _ hz)
    rw [groupsFrom] at h
    split at h
    · cases h
    · split at h
      · next c2 =>
        obtain ⟨g, h1, h2, h3⟩ := ih h8s _ _ h
        have hg : 0 < g := h3 (by omega)
        refine ⟨x % 128 + 128 * g, ?_, ?_, fun _ => by omega⟩
        · rw [h1, Nat.pow_succ, Nat.add_mul, Nat.add_assoc]
          congr 2
          rw [Nat.mul_comm 128 g, Nat.mul_assoc, Nat.mul_comm (128 ^ k) 128]
        · rw [shortL_high (by omega), show (x % 128 + 128 * g) % 128 + 128 = x by omega, show (x % 128 + 128 * g) / 128 = g by omega, h2]
          rfl
      · next c2 =>
        split at h
        · cases h
        · next c3 =>
          cases h
          refine ⟨x, ?_, ?_, fun hk => by omega⟩
          · rw [Nat.mod_eq_of_lt (by omega)]
          · rw [shortL_low (by omega)]; rfl
theorem groups_form0 {bs : List Nat} (h8 : All8 bs) {f : Nat} {t : List Nat} (h : groupsFrom 0 0 bs = .ok (f, t)) : bs = shortL f ++ t := by
  obtain ⟨g, h1, h2, _⟩ := groups_form bs h8 0 0 h
  have : f = g := by simpa using h1
  rw [this]; exact h2

theorem fold_unfold (f : Nat) : foldI (unfoldN f) = f := by
  unfold unfoldN
  split
  · unfold foldI; rw [if_pos (by omega)]; omega
  · unfold foldI; rw [if_neg (by omega)]; omega

theorem short_form {low high : Int} {bs : List Nat} (h8 : All8 bs) {n : Int} {t : List Nat} (h : takeShort low high bs = .ok (n, t)) : bs = shortL (foldI n) ++ t := by
  unfold takeShort at h
  split at h
  · cases h
  · split at h
    · cases h
    · next e =>
      split at h
      · cases h
      · cases h; rw [fold_unfold]; exact groups_form0 h8 e

theorem counted_form {most : Int} {bs : List Nat} (h8 : All8 bs) {p t : List Nat} (h : takeCounted most bs = .ok (p, t)) : bs = shortL (2 * p.length) ++ p ++ t := by
  unfold takeCounted at h
  split at h
  · cases h
  · next n s e =>
    split at h
    · cases h
    · next hlt =>
      cases h
      obtain ⟨h0, _⟩ := takeShort_nat e
      have hf := short_form h8 e
      have hl : (s.take n.toNat).length = n.toNat := by simp; omega
      rw [hl, List.append_assoc, List.take_append_drop]
      have e2 : 2 * n.toNat = foldI n := by unfold foldI; rw [if_neg (by omega)]; omega
      rw [e2]; exact hf

theorem groups_err : ∀ (bs : List Nat) (k y c : Nat), groupsFrom k y bs = .error c → c ≠ 0 := by
  intro bs
  induction bs with
  | nil => intro k y c h; cases h; decide
  | cons x s ih =>
    intro k y c h
    rw [groupsFrom] at h
    split at h
    · cases h; decide
    · split at h
      · exact ih _ _ _ h
      · split at h
        · cases h; decide
        · cases h

theorem short_err {low high : Int} {bs : List Nat} {c : Nat} (h : takeShort low high bs = .error c) : c ≠ 0 := by
  unfold takeShort at h
  split at h
  · cases h; decide
  · split at h
    · next e => cases h; exact groups_err _ _ _ _ e
    · split at h
      · cases h; decide
      · cases h

theorem counted_err {most : Int} {bs : List Nat} {c : Nat} (h : takeCounted most bs = .error c) : c ≠ 0 := by
  unfold takeCounted at h
  split at h
  · next e => cases h; exact short_err e
  · split at h
    · cases h; decide
    · cases h

theorem fixed_err {W : Nat} {bs : List Nat} {c : Nat} (h : takeFixed W bs = .error c) : c ≠ 0 := by
  unfold takeFixed at h
  split at h
  · cases h; decide
  · cases h

theorem groups_back (rest : List Nat) : ∀ (m g k y : Nat), g < 128 ^ (m + 1) → g * 128 ^ k < 18446744073709551616 → k ≤ 9 → (0 < k → 0 < g) → groupsFrom k y (shortL g ++ rest) = .ok (y + g * 128 ^ k, rest) := by
  intro m
  induction m with
  | zero =>
    intro g k y hg hb hk h0
    have hg' : g < 128 := by simpa using hg
    rw [shortL_low hg']
    show groupsFrom k y (g :: rest) = _
    have h9 : k = 9 → g ≤ 1 := fun e => by subst e; simp at hb; omega
    rw [groupsFrom, if_neg (by omega), if_neg (by omega), if_neg (by omega), Nat.mod_eq_of_lt hg']
  | succ m ih =>
    intro g k y hg hb hk h0
    by_cases h : g < 128
    · rw [shortL_low h]
      show groupsFrom k y (g :: rest) = _
      have h9 : k = 9 → g ≤ 1 := fun e => by subst e; simp at hb; omega
      rw [groupsFrom, if_neg (by omega), if_neg (by omega), if_neg (by omega), Nat.mod_eq_of_lt h]
    · rw [shortL_high h]
      show groupsFrom k y ((g % 128 + 128) :: (shortL (g / 128) ++ rest)) = _
      have hk9 : k ≠ 9 := fun e => by subst e; simp at hb; omega
      have hle : g / 128 * 128 ^ (k + 1) ≤ g * 128 ^ k := by
        rw [Nat.pow_succ, Nat.mul_comm (128 ^ k) 128, ← Nat.mul_assoc]
        exact Nat.mul_le_mul_right _ (Nat.div_mul_le_self g 128)
      rw [groupsFrom, if_neg (by omega), if_pos (by omega), ih (g / 128) (k + 1) _ (by rw [Nat.pow_succ] at hg; exact Nat.div_lt_of_lt_mul (by rw [Nat.mul_comm]; exact hg)) (by omega) (by omega) (fun _ => by omega)]
      have e : y + (g % 128 + 128) % 128 * 128 ^ k + g / 128 * 128 ^ (k + 1) = y + g * 128 ^ k := by
        rw [Nat.pow_succ, Nat.mul_comm (128 ^ k) 128, ← Nat.mul_assoc, Nat.add_assoc, ← Nat.add_mul]
        congr 2
        omega
      rw [e]

theorem ten {f : Nat} (h : W64 f) : f < 128 ^ (9 + 1) := Nat.lt_of_lt_of_le h (by decide)

theorem unfold_fold {n : Int} : unfoldN (foldI n) = n := by
  unfold foldI
  split
  · unfold unfoldN; rw [if_pos (by omega)]; omega
  · unfold unfoldN; rw [if_neg (by omega)]; omega

theorem short_back {n low high : Int} (h1 : -9223372036854775808 ≤ n) (h2 : n ≤ 9223372036854775807) (hl : low ≤ n) (hh : n ≤ high) (rest : List Nat) : takeShort low high (shortL (foldI n) ++ rest) = .ok (n, rest) := by
  have hf := foldI_64 h1 h2
  have hg := groups_back rest 9 (foldI n) 0 0 (ten hf) (by unfold W64 at hf; simpa using hf) (by omega) (by omega)
  unfold takeShort
  rw [if_neg (by omega), hg]
  simp only [Nat.pow_zero, Nat.mul_one, Nat.zero_add, unfold_fold]
  rw [if_neg (by omega)]

theorem shortL_some (f : Nat) : shortL f ≠ [] := by
  by_cases h : f < 128
  · rw [shortL_low h]; simp
  · rw [shortL_high h]; simp

theorem shortL_all : ∀ (m f : Nat), f < 128 ^ (m + 1) → All8 (shortL f) := by
  intro m
  induction m with
  | zero => intro f hf z hz; rw [shortL_low (by simpa using hf)] at hz; simp at hz hf; omega
  | succ m ih =>
    intro f hf
    by_cases h : f < 128
    · intro z hz; rw [shortL_low h] at hz; simp at hz; omega
    · intro z hz
      rw [shortL_high h] at hz
      rcases List.mem_cons.1 hz with e | e
      · omega
      · exact ih _ (by rw [Nat.pow_succ] at hf; exact Nat.div_lt_of_lt_mul (by rw [Nat.mul_comm]; exact hf)) z e

theorem counted_most {p : List Nat} {most : Int} (hm : most ≤ 9223372036854775807) (hp : (p.length : Int) ≤ most) (rest : List Nat) : takeCounted most (shortL (2 * p.length) ++ p ++ rest) = .ok (p, rest) := by
  unfold takeCounted
  rw [List.append_assoc, ← foldI_nat, short_back (by omega) (by omega) (by omega) hp]
  simp

/-- An entry. -/
structure En where
  kind : Int
  stamp : Int
  count : Int
  key : ByteArray
  val : List Nat
  dead : Bool
def zeroEn : En := ⟨0, 0, 0, .empty, [], false⟩
/-- Which fields count of a kind: the key, the stamp, the count, the mark of the dead, the value. -/
def hk (k : Int) : Bool := k == 1 || k == 2 || k == 5
def hs (k : Int) : Bool := k == 3 || k == 4 || k == 5 || k == 6
def hc (k : Int) : Bool := k == 3 || k == 4 || k == 6
def hd (k : Int) : Bool := k == 5
def hv (k : Int) : Bool := k == 1 || k == 5
/-- Within the bounds, if it counts; else zero. -/
def fitI (b : Bool) (n lo hi : Int) : Bool := if b then decide (lo ≤ n) && decide (n ≤ hi) else n == 0
/-- Whether an entry may be. -/
def mayE (x : En) : Bool :=
  (decide (1 ≤ x.kind) && decide (x.kind ≤ 6)) && fitI (hk x.kind) x.key.size 1 255 && fitI (hs x.kind) x.stamp 0 4611686018427387904 && fitI (hc x.kind) x.count 0 2147483647 &&
    (hd x.kind || !x.dead) && fitI (hv x.kind && !x.dead) x.val.length 0 4096
/-- An entry's bytes, field by field. -/
def eK (k : Int) (s : ByteArray) : List Nat := if hk k then shortL (2 * s.size) ++ strNat s else []
def eS (k n : Int) : List Nat := if hs k then shortL (foldI n) else []
def eC (k n : Int) : List Nat := if hc k then shortL (foldI n) else []
def eD (k : Int) (d : Bool) : List Nat := if hd k then [if d then 1 else 0] else []
def eV (k : Int) (v : List Nat) : List Nat := if hv k then shortL (2 * v.length) ++ v else []
def encE (x : En) : List Nat := x.kind.toNat :: (eK x.kind x.key ++ (eS x.kind x.stamp ++ (eC x.kind x.count ++ (eD x.kind x.dead ++ eV x.kind x.val))))
/-- What bytes say, field by field. -/
def tK (k : Int) (t : List Nat) : Option (ByteArray × List Nat) :=
  if hk k then (match takeCounted 255 t with | .ok (p, t) => some (strOf p, t) | .error _ => none) else some (.empty, t)
def tS (k : Int) (t : List Nat) : Option (Int × List Nat) :=
  if hs k then (match takeShort 0 4611686018427387904 t with | .ok x => some x | .error _ => none) else some (0, t)
def tC (k : Int) (t : List Nat) : Option (Int × List Nat) :=
  if hc k then (match takeShort 0 2147483647 t with | .ok x => some x | .error _ => none) else some (0, t)
def tD (k : Int) (t : List Nat) : Option (Bool × List Nat) :=
  if hd k then (match t with | [] => none | x :: t => if x ≤ 1 then some (x == 1, t) else none) else some (false, t)
def tV (k : Int) (t : List Nat) : Option (List Nat × List Nat) :=
  if hv k then (match takeCounted 4096 t with | .ok x => some x | .error _ => none) else some ([], t)
/-- What the beginning of bytes says, and what is behind it. -/
def parE : List Nat → Option (En × List Nat)
  | [] => none
  | k :: t0 =>
    match tK (k : Int) t0 with
    | none => none
    | some (key, t1) =>
      match tS (k : Int) t1 with
      | none => none
      | some (st, t2) =>
        match tC (k : Int) t2 with
        | none => none
        | some (ct, t3) =>
          match tD (k : Int) t3 with
          | none => none
          | some (d, t4) =>
            match tV (k : Int) t4 with
            | none => none
            | some (v, t5) => some (⟨(k : Int), st, ct, key, v, d⟩, t5)
/-- The entry of bytes. -/
def decE (bs : List Nat) : Option En :=
  match parE bs with
  | some (x, []) => if mayE x then some x else none
  | _ => none

theorem fit_parts {b : Bool} {n lo hi : Int} (h : fitI b n lo hi = true) : (b = true → lo ≤ n ∧ n ≤ hi) ∧ (b = false → n = 0) := by
  unfold fitI at h
  cases b
  · exact ⟨fun e => (by cases e), fun _ => by simpa using h⟩
  · exact ⟨fun _ => by simpa using h, fun e => (by cases e)⟩
/-- What may be, in parts. -/
structure May (x : En) : Prop where
  kind : 1 ≤ x.kind ∧ x.kind ≤ 6
  key1 : hk x.kind = true → 1 ≤ x.key.size ∧ x.key.size ≤ 255
  key0 : hk x.kind = false → x.key.size = 0
  st1 : hs x.kind = true → 0 ≤ x.stamp ∧ x.stamp ≤ 4611686018427387904
  st0 : hs x.kind = false → x.stamp = 0
  ct1 : hc x.kind = true → 0 ≤ x.count ∧ x.count ≤ 2147483647
  ct0 : hc x.kind = false → x.count = 0
  dd : hd x.kind = false → x.dead = false
  val : x.val.length ≤ 4096
  val0 : hv x.kind = false → x.val = []
  valD : x.dead = true → x.val = []
theorem may_parts {x : En} (h : mayE x = true) : May x := by
  unfold mayE at h
  simp only [Bool.and_eq_true] at h
  obtain ⟨⟨⟨⟨⟨⟨h1, h2⟩, h3⟩, h4⟩, h5⟩, h6⟩, h7⟩ := h
  obtain ⟨a1, a2⟩ := fit_parts h3
  obtain ⟨b1, b2⟩ := fit_parts h4
  obtain ⟨c1, c2⟩ := fit_parts h5
  obtain ⟨d1, d2⟩ := fit_parts h7
  have hvl : (hv x.kind && !x.dead) = false → x.val = [] := fun e => List.eq_nil_of_length_eq_zero (by have := d2 e; omega)
  refine ⟨⟨of_decide_eq_true h1, of_decide_eq_true h2⟩, fun e => (by have := a1 e; omega), fun e => (by have := a2 e; omega), b1, b2, c1, c2, ?_, ?_, ?_, ?_⟩
  · intro e; rw [e] at h6; simpa using h6
  · by_cases e : (hv x.kind && !x.dead) = true
    · have := d1 e; omega
    · rw [hvl (by simpa using e)]; simp
  · intro e; exact hvl (by rw [e]; rfl)
  · intro e; exact hvl (by rw [e]; simp)

theorem tK_back {k : Int} {s : ByteArray} (h1 : hk k = true → s.size ≤ 255) (h0 : hk k = false → s.size = 0) (t : List Nat) : tK k (eK k s ++ t) = some (s, t) := by
  unfold tK eK
  cases e : hk k
  · simp only [Bool.false_eq_true, if_false, List.nil_append]
    have : s = .empty := ByteArray.ext (Array.eq_empty_of_size_eq_zero (h0 e))
    rw [this]
  · simp only [if_true]
    have := h1 e
    rw [← strNat_len, counted_most (by omega) (by rw [strNat_len]; omega)]
    simp only [strOf_strNat]
theorem tS_back {k n : Int} (h1 : hs k = true → 0 ≤ n ∧ n ≤ 4611686018427387904) (h0 : hs k = false → n = 0) (t : List Nat) : tS k (eS k n ++ t) = some (n, t) := by
  unfold tS eS
  cases e : hs k
  · simp only [Bool.false_eq_true, if_false, List.nil_append]
    rw [h0 e]
  · simp only [if_true]
    have := h1 e
    rw [short_back (by omega) (by omega) (by omega) (by omega)]
theorem tC_back {k n : Int} (h1 : hc k = true → 0 ≤ n ∧ n ≤ 2147483647) (h0 : hc k = false → n = 0) (t : List Nat) : tC k (eC k n ++ t) = some (n, t) := by
  unfold tC eC
  cases e : hc k
  · simp only [Bool.false_eq_true, if_false, List.nil_append]
    rw [h0 e]
  · simp only [if_true]
    have := h1 e
    rw [short_back (by omega) (by omega) (by omega) (by omega)]
theorem tD_back {k : Int} {d : Bool} (h0 : hd k = false → d = false) (t : List Nat) : tD k (eD k d ++ t) = some (d, t) := by
  unfold tD eD
  cases e : hd k
  · simp only [Bool.false_eq_true, if_false, List.nil_append]
    rw [h0 e]
  · simp only [if_true]
    cases d <;> rfl
theorem tV_back {k : Int} {v : List Nat} (h1 : v.length ≤ 4096) (h0 : hv k = false → v = []) (t : List Nat) : tV k (eV k v ++ t) = some (v, t) := by
  unfold tV eV
  cases e : hv k
  · simp only [Bool.false_eq_true, if_false, List.nil_append]
    rw [h0 e]
  · simp only [if_true]
    rw [counted_most (by omega) (by omega)]

theorem par_back {x : En} (h : mayE x = true) (t : List Nat) : parE (encE x ++ t) = some (x, t) := by
  have m := may_parts h
  obtain ⟨hk0, hk6⟩ := m.kind
  have ek : ((x.kind.toNat : Nat) : Int) = x.kind := by omega
  unfold encE
  rw [List.cons_append]
  simp only [List.append_assoc, parE]
  rw [ek, tK_back (fun e => (m.key1 e).2) m.key0]
  simp only []
  rw [tS_back m.st1 m.st0]
  simp only []
  rw [tC_back m.ct1 m.ct0]
  simp only []
  rw [tD_back m.dd]
  simp only []
  rw [tV_back m.val m.val0]

theorem tK_form {k : Int} {bs t : List Nat} {s : ByteArray} (h8 : All8 bs) (h : tK k bs = some (s, t)) : bs = eK k s ++ t ∧ All8 t := by
  unfold tK at h
  unfold eK
  cases e : hk k
  · rw [e] at h; simp at h; simp [← h.2, h8]
  · rw [e] at h
    simp only [if_true] at h ⊢
    cases ht : takeCounted 255 bs with
    | error c => rw [ht] at h; cases h
    | ok x =>
      obtain ⟨p, u⟩ := x
      rw [ht] at h
      cases h
      have hp8 : All8 p := by
        have := counted_form h8 ht
        intro z hz
        exact h8 z (by rw [this]; simp [hz])
      rw [strOf_size, strNat_strOf hp8]
      exact ⟨counted_form h8 ht, takeCounted_all h8 _ _ ht⟩
theorem tS_form {k n : Int} {bs t : List Nat} (h8 : All8 bs) (h : tS k bs = some (n, t)) : bs = eS k n ++ t ∧ All8 t := by
  unfold tS at h
  unfold eS
  cases e : hs k
  · rw [e] at h; simp at h; simp [← h.2, h8]
  · rw [e] at h
    simp only [if_true] at h ⊢
    cases ht : takeShort 0 4611686018427387904 bs with
    | error c => rw [ht] at h; cases h
    | ok x =>
      rw [ht] at h
      cases h
      exact ⟨short_form h8 ht, takeShort_all ht h8⟩
theorem tC_form {k n : Int} {bs t : List Nat} (h8 : All8 bs) (h : tC k bs = some (n, t)) : bs = eC k n ++ t ∧ All8 t := by
  unfold tC at h
  unfold eC
  cases e : hc k
  · rw [e] at h; simp at h; simp [← h.2, h8]
  · rw [e] at h
    simp only [if_true] at h ⊢
    cases ht : takeShort 0 2147483647 bs with
    | error c => rw [ht] at h; cases h
    | ok x =>
      rw [ht] at h
      cases h
      exact ⟨short_form h8 ht, takeShort_all ht h8⟩
theorem tD_form {k : Int} {bs t : List Nat} {d : Bool} (h8 : All8 bs) (h : tD k bs = some (d, t)) : bs = eD k d ++ t ∧ All8 t := by
  unfold tD at h
  unfold eD
  cases e : hd k
  · rw [e] at h; simp at h; simp [← h.2, h8]
  · rw [e] at h
    simp only [if_true] at h ⊢
    cases bs with
    | nil => cases h
    | cons x u =>
      simp only at h
      split at h
      · next hx =>
        cases h
        refine ⟨?_, fun z hz => h8 z (List.mem_cons_of_mem _ hz)⟩
        have : x = 0 ∨ x = 1 := by omega
        rcases this with rfl | rfl <;> rfl
      · cases h
theorem tV_form {k : Int} {bs t v : List Nat} (h8 : All8 bs) (h : tV k bs = some (v, t)) : bs = eV k v ++ t := by
  unfold tV at h
  unfold eV
  cases e : hv k
  · rw [e] at h; simp at h; simp [← h.2]
  · rw [e] at h
    simp only [if_true] at h ⊢
    cases ht : takeCounted 4096 bs with
    | error c => rw [ht] at h; cases h
    | ok x =>
      rw [ht] at h
      cases h
      exact counted_form h8 ht

theorem par_form {bs t : List Nat} {x : En} (h8 : All8 bs) (h : parE bs = some (x, t)) : bs = encE x ++ t := by
  cases bs with
  | nil => cases h
  | cons k t0 =>
    have h80 : All8 t0 := fun z hz => h8 z (List.mem_cons_of_mem _ hz)
    simp only [parE] at h
    cases e1 : tK (k : Int) t0 with
    | none => rw [e1] at h; cases h
    | some y1 =>
      obtain ⟨key, t1⟩ := y1
      obtain ⟨f1, h81⟩ := tK_form h80 e1
      rw [e1] at h
      simp only [] at h
      cases e2 : tS (k : Int) t1 with
      | none => rw [e2] at h; cases h
      | some y2 =>
        obtain ⟨st, t2⟩ := y2
        obtain ⟨f2, h82⟩ := tS_form h81 e2
        rw [e2] at h
        simp only [] at h
        cases e3 : tC (k : Int) t2 with
        | none => rw [e3] at h; cases h
        | some y3 =>
          obtain ⟨ct, t3⟩ := y3
          obtain ⟨f3, h83⟩ := tC_form h82 e3
          rw [e3] at h
          simp only [] at h
          cases e4 : tD (k : Int) t3 with
          | none => rw [e4] at h; cases h
          | some y4 =>
            obtain ⟨d, t4⟩ := y4
            obtain ⟨f4, h84⟩ := tD_form h83 e4
            rw [e4] at h
            simp only [] at h
            cases e5 : tV (k : Int) t4 with
            | none => rw [e5] at h; cases h
            | some y5 =>
              obtain ⟨v, t5⟩ := y5
              have f5 := tV_form h84 e5
              rw [e5] at h
              cases h
              unfold encE
              simp only [Int.toNat_natCast, List.cons_append, List.append_assoc]
              rw [← f5, ← f4, ← f3, ← f2, ← f1]

theorem dec_some {bs : List Nat} {x : En} (h : decE bs = some x) : parE bs = some (x, []) ∧ mayE x = true := by
  unfold decE at h
  split at h
  · next e =>
    split at h
    · next hm => cases h; exact ⟨e, hm⟩
    · cases h
  · cases h
theorem dec_back {x : En} (h : mayE x = true) : decE (encE x) = some x := by
  have := par_back h []
  rw [List.append_nil] at this
  unfold decE
  rw [this]
  simp only []
  rw [if_pos h]
theorem dec_form {bs : List Nat} {x : En} (h8 : All8 bs) (h : decE bs = some x) : encE x = bs := by
  have := par_form h8 (dec_some h).1
  rw [List.append_nil] at this
  exact this.symm
theorem dec_more {x : En} (h : mayE x = true) {t : List Nat} (ht : t ≠ []) : decE (encE x ++ t) = none := by
  have := par_back h t
  unfold decE
  rw [this]
  cases t with
  | nil => exact absurd rfl ht
  | cons z t => rfl
theorem dec_less {x : En} (h : mayE x = true) (h8 : All8 (encE x)) {n : Nat} (hn : n < (encE x).length) : decE ((encE x).take n) = none := by
  cases e : decE ((encE x).take n) with
  | none => rfl
  | some y =>
    exfalso
    obtain ⟨_, hy⟩ := dec_some e
    have hf := dec_form (h8.take n) e
    have h1 := par_back hy ((encE x).drop n)
    rw [hf, List.take_append_drop] at h1
    have h2 := par_back h []
    rw [List.append_nil, h1] at h2
    have h3 : (encE x).drop n = [] := congrArg Prod.snd (Option.some.inj h2)
    have := congrArg List.length h3
    rw [List.length_drop, List.length_nil] at this
    omega
theorem encE_all {x : En} (h : mayE x = true) (hv8 : All8 x.val) : All8 (encE x) := by
  have m := may_parts h
  obtain ⟨hk0, hk6⟩ := m.kind
  have hsh : ∀ f, All8 (shortL f) := fun f => shortL_all f f (Nat.lt_of_lt_of_le (Nat.lt_pow_self (by decide)) (Nat.pow_le_pow_right (by decide) (by omega)))
  have happ : ∀ {xs ys : List Nat}, All8 xs → All8 ys → All8 (xs ++ ys) := fun h1 h2 z hz => by
    rcases List.mem_append.1 hz with h | h
    · exact h1 z h
    · exact h2 z h
  have hnil : All8 [] := fun z hz => by cases hz
  have h1 : All8 (eK x.kind x.key) := by unfold eK; split; exact happ (hsh _) (strNat_all _); exact hnil
  have h2 : All8 (eS x.kind x.stamp) := by unfold eS; split; exact hsh _; exact hnil
  have h3 : All8 (eC x.kind x.count) := by unfold eC; split; exact hsh _; exact hnil
  have h4 : All8 (eD x.kind x.dead) := by
    unfold eD; split
    · intro z hz; rw [List.mem_singleton] at hz; rw [hz]; split <;> decide
    · exact hnil
  have h5 : All8 (eV x.kind x.val) := by unfold eV; split; exact happ (hsh _) hv8; exact hnil
  intro z hz
  rcases List.mem_cons.1 hz with rfl | hz
  · omega
  · exact happ h1 (happ h2 (happ h3 (happ h4 h5))) z hz
end Go.Proofs.YtkacfpmninmjkaaGreat

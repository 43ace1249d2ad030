/- Heights as plain mathematics: how many stand below a label at most, each below the next; what the program's loops make of it. -/
import Derived.Test.YthclmkmajlinhabLists
namespace Go.Proofs.Ythclmkmajlinhab

/-- Strictly below. -/
def bel (y x : Nat) : Bool := decide (y ≠ x) && lq y x
theorem bel_iff (y x : Nat) : bel y x = true ↔ y ≠ x ∧ lq y x = true := by unfold bel; rw [Bool.and_eq_true, decide_eq_true_iff]
theorem lq_le {y x : Nat} (h : lq y x = true) : y ≤ x := by
  rw [lq_iff] at h
  rw [← h]
  exact Nat.and_le_right
theorem bel_lt {y x : Nat} (h : bel y x = true) : y < x := by
  obtain ⟨h1, h2⟩ := (bel_iff y x).1 h
  have := lq_le h2
  omega
theorem bel_trans {x y z : Nat} (h1 : bel x y = true) (h2 : bel y z = true) : bel x z = true := by
  have l1 := bel_lt h1
  have l2 := bel_lt h2
  refine (bel_iff _ _).2 ⟨by omega, ?_⟩
  rw [lq_bits]
  intro i hi
  exact (lq_bits y z).1 ((bel_iff _ _).1 h2).2 i ((lq_bits x y).1 ((bel_iff _ _).1 h1).2 i hi)

/-- The greatest of a list of numbers; 0 of none. -/
def top (l : List Nat) : Nat := l.foldr max 0
theorem top_ge {l : List Nat} {v : Nat} (h : v ∈ l) : v ≤ top l := by
  induction l with
  | nil => cases h
  | cons a t ih =>
    simp only [top, List.foldr_cons]
    rcases List.mem_cons.1 h with e | e
    · subst e; exact Nat.le_max_left _ _
    · exact Nat.le_trans (ih e) (Nat.le_max_right _ _)
theorem top_is (l : List Nat) : top l = 0 ∨ top l ∈ l := by
  induction l with
  | nil => exact .inl rfl
  | cons a t ih =>
    simp only [top, List.foldr_cons]
    by_cases h : a ≤ List.foldr max 0 t
    · rw [Nat.max_eq_right h]
      rcases ih with e | e
      · exact .inl e
      · exact .inr (List.mem_cons_of_mem _ e)
    · rw [Nat.max_eq_left (by omega)]
      exact .inr List.mem_cons_self

/-- How many stand below x, at most, each below the next. -/
def hgt (S : List Nat) (x : Nat) : Nat := top (S.map fun y => if h : bel y x = true then hgt S y + 1 else 0)
termination_by x
decreasing_by exact bel_lt h

theorem hgt_ge {S : List Nat} {y x : Nat} (hy : y ∈ S) (h : bel y x = true) : hgt S y + 1 ≤ hgt S x := by
  rw [hgt.eq_1 S x]
  refine top_ge (List.mem_map.2 ⟨y, hy, ?_⟩)
  rw [dif_pos h]
theorem hgt_is (S : List Nat) (x : Nat) : hgt S x = 0 ∨ ∃ y ∈ S, bel y x = true ∧ hgt S x = hgt S y + 1 := by
  have e := hgt.eq_1 S x
  rcases top_is (S.map fun y => if h : bel y x = true then hgt S y + 1 else 0) with h | h
  · exact .inl (by rw [e, h])
  · obtain ⟨y, hy, he⟩ := List.mem_map.1 h
    by_cases hb : bel y x = true
    · rw [dif_pos hb] at he
      exact .inr ⟨y, hy, hb, by rw [e, ← he]⟩
    · rw [dif_neg hb] at he
      exact .inl (by rw [e, ← he])
theorem hgt_of {S : List Nat} {x v : Nat} (h1 : ∀ y ∈ S, bel y x = true → hgt S y + 1 ≤ v) (h2 : v = 0 ∨ ∃ y ∈ S, bel y x = true ∧ v = hgt S y + 1) : hgt S x = v := by
  have hle : hgt S x ≤ v := by
    rcases hgt_is S x with e | ⟨y, hy, hb, e⟩
    · omega
    · rw [e]; exact h1 y hy hb
  have hge : v ≤ hgt S x := by
    rcases h2 with e | ⟨y, hy, hb, e⟩
    · omega
    · rw [e]; exact hgt_ge hy hb
  omega
theorem hgt_congr {S T : List Nat} (h : ∀ x, x ∈ S ↔ x ∈ T) (x : Nat) : hgt S x = hgt T x := by
  induction x using Nat.strongRecOn with
  | ind x ih =>
    refine hgt_of (fun y hy hb => ?_) ?_
    · rw [ih y (bel_lt hb)]; exact hgt_ge ((h y).1 hy) hb
    · rcases hgt_is T x with e | ⟨y, hy, hb, e⟩
      · exact .inl e
      · exact .inr ⟨y, (h y).2 hy, hb, by rw [e, ih y (bel_lt hb)]⟩
theorem hgt_mono {S : List Nat} {y x : Nat} (hy : y ∈ S) (h : bel y x = true) : hgt S y < hgt S x := by have := hgt_ge hy h; omega

/-- How many things a label has. -/
def pc (x : Nat) : Nat := (List.range 64).countP fun i => x.testBit i
theorem countP_mono {p q : Nat → Bool} : ∀ (l : List Nat), (∀ i ∈ l, p i = true → q i = true) → l.countP p ≤ l.countP q
  | [], _ => Nat.le_refl _
  | a :: t, h => by
    have h1 := countP_mono t (fun i hi => h i (List.mem_cons_of_mem _ hi))
    have h2 := h a List.mem_cons_self
    rw [List.countP_cons, List.countP_cons]
    cases hp : p a <;> cases hq : q a <;> simp_all <;> omega
theorem countP_strict {p q : Nat → Bool} : ∀ (l : List Nat), (∀ i ∈ l, p i = true → q i = true) → (∃ i ∈ l, p i = false ∧ q i = true) → l.countP p < l.countP q
  | [], _, ⟨i, hi, _⟩ => by cases hi
  | a :: t, h, ⟨i, hi, h3, h4⟩ => by
    have h1 := countP_mono t (fun i hi => h i (List.mem_cons_of_mem _ hi))
    have h2 := h a List.mem_cons_self
    rw [List.countP_cons, List.countP_cons]
    rcases List.mem_cons.1 hi with e | e
    · subst e
      simp only [h3, h4]
      simp
      omega
    · have := countP_strict t (fun i hi => h i (List.mem_cons_of_mem _ hi)) ⟨i, e, h3, h4⟩
      cases hp : p a <;> cases hq : q a <;> simp_all <;> omega
theorem pc_le (x : Nat) : pc x ≤ 64 := by
  unfold pc
  have := List.countP_le_length (p := fun i => x.testBit i) (l := List.range 64)
  simpa using this
theorem pc_lt {y x : Nat} (hx : W64 x) (h : bel y x = true) : pc y < pc x := by
  obtain ⟨h1, h2⟩ := (bel_iff y x).1 h
  have hb := (lq_bits y x).1 h2
  refine countP_strict _ (fun i _ => hb i) ?_
  refine Classical.byContradiction fun hno => h1 ?_
  apply Nat.eq_of_testBit_eq
  intro i
  by_cases hi : i < 64
  · cases hy : y.testBit i
    · cases hxx : x.testBit i
      · rfl
      · exact absurd ⟨i, List.mem_range.2 hi, hy, hxx⟩ hno
    · exact (hb i hy).symm
  · have hx0 : x.testBit i = false := Nat.testBit_lt_two_pow (Nat.lt_of_lt_of_le hx (Nat.pow_le_pow_right (n := 2) (by omega) (by omega : 64 ≤ i)))
    cases hy : y.testBit i
    · rw [hx0]
    · rw [hb i hy] at hx0; cases hx0
theorem hgt_pc {S : List Nat} (hS : All64 S) {x : Nat} (hx : W64 x) : hgt S x ≤ pc x := by
  induction x using Nat.strongRecOn with
  | ind x ih =>
    rcases hgt_is S x with e | ⟨y, hy, hb, e⟩
    · omega
    · have h1 := ih y (bel_lt hb) (hS y hy)
      have h2 := pc_lt hx hb
      omega
theorem hgt_64 {S : List Nat} (hS : All64 S) {x : Nat} (hx : W64 x) : hgt S x ≤ 64 := Nat.le_trans (hgt_pc hS hx) (pc_le x)

/-- The program's inner loop: the height of the i-th by those ahead of the j-th. -/
def hp (C : List Nat) (i : Nat) : Nat → Nat
  | 0 => 0
  | j + 1 => if lq (at0 C j) (at0 C i) = true then max (hp C i j) (hgt C (at0 C j) + 1) else hp C i j
theorem hp_ge {C : List Nat} {i : Nat} : ∀ {j k : Nat}, k < j → lq (at0 C k) (at0 C i) = true → hgt C (at0 C k) + 1 ≤ hp C i j
  | j + 1, k, hk, h => by
    unfold hp
    by_cases e : k = j
    · subst e
      rw [if_pos h]; exact Nat.le_max_right _ _
    · have := hp_ge (j := j) (k := k) (by omega) h
      split
      · exact Nat.le_trans this (Nat.le_max_left _ _)
      · exact this
theorem hp_is {C : List Nat} {i : Nat} : ∀ (j : Nat), hp C i j = 0 ∨ ∃ k, k < j ∧ lq (at0 C k) (at0 C i) = true ∧ hp C i j = hgt C (at0 C k) + 1
  | 0 => .inl rfl
  | j + 1 => by
    unfold hp
    by_cases h : lq (at0 C j) (at0 C i) = true
    · rw [if_pos h]
      by_cases hm : hp C i j ≤ hgt C (at0 C j) + 1
      · rw [Nat.max_eq_right hm]; exact .inr ⟨j, by omega, h, rfl⟩
      · rw [Nat.max_eq_left (by omega)]
        rcases hp_is (C := C) (i := i) j with e | ⟨k, hk, h1, h2⟩
        · exact .inl e
        · exact .inr ⟨k, by omega, h1, h2⟩
    · rw [if_neg h]
      rcases hp_is (C := C) (i := i) j with e | ⟨k, hk, h1, h2⟩
      · exact .inl e
      · exact .inr ⟨k, by omega, h1, h2⟩
theorem rise_lt {C : List Nat} (hs : ∀ i, i + 1 < C.length → at0 C i < at0 C (i + 1)) : ∀ {i j : Nat}, i < j → j < C.length → at0 C i < at0 C j
  | i, j + 1, h, hj => by
    by_cases e : i = j
    · subst e; exact hs i hj
    · exact Nat.lt_trans (rise_lt hs (i := i) (j := j) (by omega) (by omega)) (hs j hj)
theorem hp_end {C : List Nat} (hs : ∀ i, i + 1 < C.length → at0 C i < at0 C (i + 1)) {i : Nat} (hi : i < C.length) : hp C i i = hgt C (at0 C i) := by
  refine (hgt_of (fun y hy hb => ?_) ?_).symm
  · obtain ⟨k, hk, rfl⟩ := mem_at0 hy
    have hlt := bel_lt hb
    have hki : k < i := by
      rcases Nat.lt_trichotomy k i with e | e | e
      · exact e
      · subst e; omega
      · have := rise_lt hs e hk; omega
    exact hp_ge hki ((bel_iff _ _).1 hb).2
  · rcases hp_is (C := C) (i := i) i with e | ⟨k, hk, h1, h2⟩
    · exact .inl e
    · have := rise_lt hs hk hi
      exact .inr ⟨at0 C k, at0_mem (by omega), (bel_iff _ _).2 ⟨by omega, h1⟩, h2⟩
theorem hp_64 {C : List Nat} (hC : All64 C) (i j : Nat) : hp C i j ≤ 65 := by
  rcases hp_is (C := C) (i := i) j with e | ⟨k, _, _, e⟩
  · omega
  · have := hgt_64 hC (hC.at k)
    omega

end Go.Proofs.Ythclmkmajlinhab

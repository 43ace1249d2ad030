/- Two stores in one world; the keys of one alone. -/
import Derived.Test.YthaknohnccmfoaaSo24
namespace Go.Proofs.Ythaknohnccmfoaa
open Go.RowKit Go.Maps

structure Duo (w wr : World) (s1 s2 : Nat) (A1 A2 : Cont) : Prop where
  st : ∃ F1 mb1 M1 F2 mb2 M2, Sto wr F1 s1 mb1 M1 ∧ abs M1 = A1 ∧ Sto wr F2 s2 mb2 M2 ∧ abs M2 = A2 ∧ (∀ j, F1 j → ¬ F2 j) ∧ (∀ j, F1 j → w.heap.size ≤ j) ∧ ∀ j, F2 j → w.heap.size ≤ j
  bel : Below w.heap.size w wr
section
variable {w wr w' : World} {s1 s2 : Nat} {A1 A2 A1' : Cont}
theorem Duo.swap (h : Duo w wr s1 s2 A1 A2) : Duo w wr s2 s1 A2 A1 := by
  obtain ⟨F1, mb1, M1, F2, mb2, M2, h1, h2, h3, h4, h5, h6, h7⟩ := h.st
  exact ⟨⟨F2, mb2, M2, F1, mb1, M1, h3, h4, h1, h2, fun j a b => h5 j b a, h7, h6⟩, h.bel⟩
theorem Duo.below (h : Duo w wr s1 s2 A1 A2) (hb : Below wr.heap.size wr w') : Duo w w' s1 s2 A1 A2 := by
  obtain ⟨F1, mb1, M1, F2, mb2, M2, h1, h2, h3, h4, h5⟩ := h.st
  exact ⟨⟨F1, mb1, M1, F2, mb2, M2, h1.below hb, h2, h3.below hb, h4, h5⟩, h.bel.trans (hb.mono h.bel.size)⟩
/-- The first one, to be called. -/
theorem Duo.one (h : Duo w wr s1 s2 A1 A2) : ∃ F mb M, Sto wr F s1 mb M ∧ abs M = A1 ∧ (∀ j, F j → w.heap.size ≤ j) ∧ ∀ w' A', CallTo wr F s1 A' w' → Duo w w' s1 s2 A' A2 := by
  obtain ⟨F1, mb1, M1, F2, mb2, M2, h1, h2, h3, h4, h5, h6, h7⟩ := h.st
  refine ⟨F1, mb1, M1, h1, h2, h6, fun w' A' k => ?_⟩
  obtain ⟨mb', M', hs, ha⟩ := k.st
  refine ⟨⟨_, mb', M', F2, mb2, M2, hs, ha, h3.chg k.chg h5, h4, fun j a b => ?_, fun j a => ?_, h7⟩, h.bel.trans (k.chg.below h6 h.bel.size)⟩
  · rcases a with a | a
    · exact h5 j a b
    · have := h3.lt j b; omega
  · rcases a with a | a
    · exact h6 j a
    · exact Nat.le_trans h.bel.size a.1
theorem AppTo.to {w w' : World} {F : Nat → Prop} {s : Nat} {A : Cont} {x : Vn} (h : AppTo w F s A x w') : CallTo w F s (applyA A x) w' := ⟨h.st, h.chg⟩
theorem rise_len {M : List Ky} : M.length = (abs M).length := by simp [abs]
/-- The keys of a content are apart. -/
theorem Duo.nodup (h : Duo w wr s1 s2 A1 A2) : (A1.map (·.1)).Nodup := by
  obtain ⟨F1, mb1, M1, F2, mb2, M2, h1, h2, _⟩ := h.st
  rw [← h2]; exact keys_nodup h1.rise
end
theorem duo_new (w : World) : Duo w ((w.alloc (.cells #[.map none] 75)).alloc (.cells #[.map none] 75)) w.heap.size (w.heap.size + 1) [] [] := by
  have h1 := sto_new w
  have h2 := sto_new (w.alloc (.cells #[.map none] 75))
  have e : (w.alloc (.cells #[.map none] 75)).heap.size = w.heap.size + 1 := by simp
  rw [e] at h2
  exact ⟨⟨_, none, [], _, none, [], h1.below ((Below.refl _ _).alloc (Nat.le_refl _) _), rfl, h2, rfl, fun j a b => by omega, fun j a => by omega, fun j a => by omega⟩, ((Below.refl _ _).alloc (Nat.le_refl _) _).alloc (by simp) _⟩

/-! ### what hangs on one key -/
/-- The key's entry alone. -/
def onlyA (A : Cont) (k : List UInt8) : Cont := A.filter fun e => e.1 == k
theorem lsOf_only (A : Cont) (k : List UInt8) : lsOf (onlyA A k) k = lsOf A k := by
  unfold lsOf onlyA
  induction A with
  | nil => rfl
  | cons f r ih =>
    by_cases h : (f.1 == k) = true
    · rw [List.filter_cons_of_pos (by exact h), List.find?_cons_of_pos (by exact h), List.find?_cons_of_pos (by exact h)]
    · rw [List.filter_cons_of_neg (by exact h), List.find?_cons_of_neg (by exact h)]; exact ih
theorem hasK_only (A : Cont) (k : List UInt8) : hasK (onlyA A k) k = hasK A k := by
  unfold hasK onlyA
  induction A with
  | nil => rfl
  | cons f r ih =>
    by_cases h : (f.1 == k) = true
    · rw [List.filter_cons_of_pos (by exact h), List.any_cons, List.any_cons, h]; rfl
    · rw [List.filter_cons_of_neg (by exact h), List.any_cons, ih]; simp [h]
theorem only_insA {A : Cont} {k k' : List UInt8} (hh : hasK A k' = false) : onlyA (insA k' A) k = if k' = k then insA k' (onlyA A k) else onlyA A k := by
  induction A with
  | nil =>
    unfold insA onlyA
    by_cases h : k' = k
    · subst h; simp
    · simp [h]
  | cons f r ih =>
    have hk2 : f.1 ≠ k' ∧ hasK r k' = false := by
      unfold hasK at hh ⊢
      rw [List.any_cons, Bool.or_eq_false_iff] at hh
      exact ⟨by simpa using hh.1, hh.2⟩
    have ih := ih hk2.2
    by_cases h : k' = k
    · subst h
      have none_ : ∀ B : Cont, hasK B k' = false → onlyA B k' = [] := fun B hB => by
        unfold onlyA
        rw [List.filter_eq_nil_iff]
        intro e he h2
        have : hasK B k' = true := List.any_eq_true.2 ⟨e, he, h2⟩
        rw [hB] at this; cases this
      rw [if_pos rfl] at ih ⊢
      rw [none_ r hk2.2] at ih
      rw [none_ (f :: r) hh]
      unfold insA
      split
      · unfold onlyA
        rw [List.filter_cons_of_pos (by simp)]
        have := none_ (f :: r) hh
        unfold onlyA at this
        rw [this]
      · unfold onlyA at ih ⊢
        rw [List.filter_cons_of_neg (by simpa using hk2.1), ih]
        rfl
    · rw [if_neg h] at ih ⊢
      unfold insA
      split
      · unfold onlyA; rw [List.filter_cons_of_neg (by simpa using h)]
      · unfold onlyA at ih ⊢
        by_cases h3 : (f.1 == k) = true
        · rw [List.filter_cons_of_pos (by exact h3), List.filter_cons_of_pos (by exact h3), ih]
        · rw [List.filter_cons_of_neg (by exact h3), List.filter_cons_of_neg (by exact h3), ih]
theorem only_setA (A : Cont) (k k' : List UInt8) (ls : List Ver) : onlyA (setA A k' ls) k = if k' = k then setA (onlyA A k) k' ls else onlyA A k := by
  unfold onlyA setA
  induction A with
  | nil => simp
  | cons f r ih =>
    by_cases h : k' = k
    · subst h
      rw [if_pos rfl] at ih ⊢
      rw [List.map_cons]
      by_cases h3 : (f.1 == k') = true
      · rw [if_pos h3, List.filter_cons_of_pos (by exact h3), List.filter_cons_of_pos (by exact h3), List.map_cons, if_pos h3, ih]
      · rw [if_neg h3, List.filter_cons_of_neg (by exact h3), List.filter_cons_of_neg (by exact h3), ih]
    · rw [if_neg h] at ih ⊢
      rw [List.map_cons]
      by_cases h3 : (f.1 == k') = true
      · have hk : f.1 = k' := by simpa using h3
        rw [if_pos h3, List.filter_cons_of_neg (by rw [hk]; simpa using h), List.filter_cons_of_neg (by rw [hk]; simpa using h), ih]
      · rw [if_neg h3]
        by_cases h4 : (f.1 == k) = true
        · rw [List.filter_cons_of_pos (by exact h4), List.filter_cons_of_pos (by exact h4), ih]
        · rw [List.filter_cons_of_neg (by exact h4), List.filter_cons_of_neg (by exact h4), ih]
theorem only_vac (A : Cont) (k : List UInt8) (n : Int) : onlyA (vacA A n) k = vacA (onlyA A k) n := by
  unfold onlyA vacA
  rw [List.filter_map]; rfl
theorem only_applyE (A : Cont) (x : Vn) : applyE (onlyA A x.k.data.toList) x = applyE A x := by
  unfold applyE; rw [lsOf_only]
theorem only_apply (A : Cont) (x : Vn) : applyA (onlyA A x.k.data.toList) x = onlyA (applyA A x) x.k.data.toList := by
  unfold applyA
  rw [only_applyE]
  by_cases h : applyE A x = 0
  · rw [if_pos h, if_pos h]
    unfold addA
    rw [hasK_only, lsOf_only, only_setA, if_pos rfl]
    by_cases hh : hasK A x.k.data.toList = true
    · rw [if_pos hh, if_pos hh]
    · have hf : hasK A x.k.data.toList = false := by simpa using hh
      rw [if_neg hh, if_neg hh, only_insA hf, if_pos rfl]
  · rw [if_neg h, if_neg h]
theorem only_other (A : Cont) (x : Vn) {k : List UInt8} (hk : x.k.data.toList ≠ k) : onlyA (applyA A x) k = onlyA A k := by
  unfold applyA
  by_cases h : applyE A x = 0
  · rw [if_pos h]
    unfold addA
    rw [only_setA, if_neg hk]
    by_cases hh : hasK A x.k.data.toList = true
    · rw [if_pos hh]
    · have hf : hasK A x.k.data.toList = false := by simpa using hh
      rw [if_neg hh, only_insA hf, if_neg hk]
  · rw [if_neg h]
theorem only_vers (A : Cont) (k : List UInt8) : (versA A).filter (fun e => e.1 == k) = versA (onlyA A k) := by
  unfold versA onlyA
  induction A with
  | nil => rfl
  | cons f r ih =>
    rw [List.flatMap_cons, List.filter_append, ih]
    by_cases h : (f.1 == k) = true
    · rw [List.filter_cons_of_pos (by exact h), List.flatMap_cons]
      congr 1
      rw [List.filter_eq_self]
      intro e he
      obtain ⟨l, _, rfl⟩ := List.mem_map.1 he
      exact h
    · rw [List.filter_cons_of_neg (by exact h)]
      have : (f.2.map fun l => (f.1, l)).filter (fun e => e.1 == k) = [] := by
        rw [List.filter_eq_nil_iff]
        intro e he
        obtain ⟨l, _, rfl⟩ := List.mem_map.1 he
        exact h
      rw [this, List.nil_append]

end Go.Proofs.Ythaknohnccmfoaa

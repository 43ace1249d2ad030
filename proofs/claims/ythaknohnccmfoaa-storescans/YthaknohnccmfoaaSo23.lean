/- Two stores beside each other; calls of one. -/
import Derived.Test.YthaknohnccmfoaaSo22
namespace Go.Proofs.Ythaknohnccmfoaa
open Go.RowKit Go.Maps

/-- The keys and values of a content are not too great, and there are at most k of them. -/
structure FineK (A : Cont) (k : Nat) : Prop where
  tot : tot A ≤ k
  keys : A.length ≤ k
  kl : ∀ e ∈ A, e.1.length ≤ 255
  vl : ∀ e ∈ A, ∀ l ∈ e.2, l.b.length ≤ 4096
theorem FineK.fine {A : Cont} {k : Nat} (h : FineK A k) (hk : k ≤ 4000000000000) : Fine A := ⟨Nat.le_trans h.tot hk, Nat.le_trans h.keys hk, h.kl, h.vl⟩
theorem FineK.nil : FineK [] 0 := ⟨Nat.le_refl _, Nat.le_refl _, (fun _ h => by cases h), (fun _ h => by cases h)⟩
theorem FineK.mono {A : Cont} {k m : Nat} (h : FineK A k) (hk : k ≤ m) : FineK A m := ⟨Nat.le_trans h.tot hk, Nat.le_trans h.keys hk, h.kl, h.vl⟩
theorem insA_len (k : List UInt8) (A : Cont) : (insA k A).length = A.length + 1 := by
  induction A with
  | nil => rfl
  | cons f r ih => unfold insA; split <;> simp [ih]
theorem mem_insA {k : List UInt8} {A : Cont} {e : List UInt8 × List Ver} (h : e ∈ insA k A) : e = (k, []) ∨ e ∈ A := by
  induction A with
  | nil => left; simpa [insA] using h
  | cons f r ih =>
    unfold insA at h
    split at h
    · rcases List.mem_cons.1 h with h | h
      · exact .inl h
      · exact .inr h
    · rcases List.mem_cons.1 h with h | h
      · exact .inr (h ▸ List.mem_cons_self ..)
      · rcases ih h with h | h
        · exact .inl h
        · exact .inr (List.mem_cons_of_mem _ h)
/-- A key's versions put in place: how many there are then. -/
theorem tot_setA_le {A : Cont} {k : List UInt8} {l : Ver} (hd : (A.map (·.1)).Nodup) : tot (setA A k (lsOf A k ++ [l])) ≤ tot A + 1 := by
  induction A with
  | nil => simp [setA, tot]
  | cons f r ih =>
    have e1 : tot (f :: r) = f.2.length + tot r := by simp [tot]
    rw [List.map_cons, List.nodup_cons] at hd
    by_cases hk : (f.1 == k) = true
    · have hl : lsOf (f :: r) k = f.2 := by unfold lsOf; rw [List.find?_cons_of_pos (by exact hk)]; rfl
      have hr : setA r k (f.2 ++ [l]) = r := by
        unfold setA
        refine (List.map_congr_left fun e he => ?_).trans (List.map_id r)
        have : ¬ (e.1 == k) = true := fun h2 => hd.1 (by
          have h3 : e.1 = f.1 := by rw [eq_of_beq h2, eq_of_beq hk]
          rw [← h3]; exact List.mem_map.2 ⟨e, he, rfl⟩)
        rw [if_neg this]; rfl
      have e2 : setA (f :: r) k (f.2 ++ [l]) = (f.1, f.2 ++ [l]) :: setA r k (f.2 ++ [l]) := by
        unfold setA; rw [List.map_cons, if_pos hk]
      rw [hl, e2, hr, e1]
      have e3 : tot ((f.1, f.2 ++ [l]) :: r) = (f.2 ++ [l]).length + tot r := by simp [tot]
      rw [e3, List.length_append]; simp; omega
    · have hl : lsOf (f :: r) k = lsOf r k := by unfold lsOf; rw [List.find?_cons_of_neg (by exact hk)]
      have e2 : setA (f :: r) k (lsOf r k ++ [l]) = f :: setA r k (lsOf r k ++ [l]) := by
        unfold setA; rw [List.map_cons, if_neg hk]
      have e3 : tot (f :: setA r k (lsOf r k ++ [l])) = f.2.length + tot (setA r k (lsOf r k ++ [l])) := by simp [tot]
      rw [hl, e2, e3, e1]
      have := ih hd.2
      omega
theorem keys_nodup {M : List Ky} (h : M.Pairwise fun e f => bytesBefore e.k f.k = true) : ((abs M).map (·.1)).Nodup := by
  unfold abs
  rw [List.map_map]
  exact List.pairwise_map.2 (rise_ne h)
theorem insA_nodup {A : Cont} {k : List UInt8} (h : (A.map (·.1)).Nodup) (hk : hasK A k = false) : ((insA k A).map (·.1)).Nodup := by
  induction A with
  | nil => simp [insA]
  | cons f r ih =>
    have h0 := h
    rw [List.map_cons, List.nodup_cons] at h
    have hk2 : f.1 ≠ k ∧ hasK r k = false := by
      unfold hasK at hk ⊢
      rw [List.any_cons, Bool.or_eq_false_iff] at hk
      exact ⟨by simpa using hk.1, hk.2⟩
    unfold insA
    split
    · rw [List.map_cons, List.nodup_cons]
      refine ⟨fun hm => ?_, h0⟩
      obtain ⟨e, he, ek⟩ := List.mem_map.1 hm
      have : hasK (f :: r) k = true := List.any_eq_true.2 ⟨e, he, by simpa using ek⟩
      rw [hk] at this; cases this
    · rw [List.map_cons, List.nodup_cons]
      refine ⟨fun hm => ?_, ih h.2 hk2.2⟩
      obtain ⟨e, he, ek⟩ := List.mem_map.1 hm
      rcases mem_insA he with rfl | he
      · exact hk2.1 ek.symm
      · exact h.1 (List.mem_map.2 ⟨e, he, ek⟩)
theorem lsOf_insA {A : Cont} {k k' : List UInt8} (hk : hasK A k = false) : lsOf (insA k A) k' = lsOf A k' := by
  induction A with
  | nil =>
    unfold insA lsOf
    by_cases h : (k == k') = true
    · rw [List.find?_cons_of_pos (by exact h)]; rfl
    · rw [List.find?_cons_of_neg (by exact h)]
  | cons f r ih =>
    have hk2 : f.1 ≠ k ∧ hasK r k = false := by
      unfold hasK at hk ⊢
      rw [List.any_cons, Bool.or_eq_false_iff] at hk
      exact ⟨by simpa using hk.1, hk.2⟩
    unfold insA
    split
    · by_cases h : (k == k') = true
      · have hn : (f :: r).find? (fun e => e.1 == k') = none := by
          rw [List.find?_eq_none]
          intro e he h2
          have : hasK (f :: r) k = true := List.any_eq_true.2 ⟨e, he, by rw [eq_of_beq h]; exact h2⟩
          rw [hk] at this; cases this
        unfold lsOf
        rw [List.find?_cons_of_pos (by exact h), hn]; rfl
      · unfold lsOf; rw [List.find?_cons_of_neg (by exact h)]
    · by_cases h : (f.1 == k') = true
      · unfold lsOf; rw [List.find?_cons_of_pos (by exact h), List.find?_cons_of_pos (by exact h)]
      · have := ih hk2.2
        unfold lsOf at this ⊢
        rw [List.find?_cons_of_neg (by exact h), List.find?_cons_of_neg (by exact h)]; exact this
theorem applyA_fine {A : Cont} {k : Nat} (h : FineK A k) (hd : (A.map (·.1)).Nodup) (x : Vn) : FineK (applyA A x) (k + 1) := by
  unfold applyA
  split
  · next he =>
    have hc : checkE x = 0 := by
      by_cases hc : checkE x = 0
      · exact hc
      · rw [(applyE_bad (A := A) hc).1] at he; exact absurd he hc
    obtain ⟨_, _, hz, _, hk, _⟩ := checkE_low hc
    have hkl : x.k.data.toList.length ≤ 255 := by rw [Array.length_toList]; exact hk
    obtain ⟨A1, hA1⟩ : ∃ A1, A1 = (if hasK A x.k.data.toList then A else insA x.k.data.toList A) := ⟨_, rfl⟩
    have hf1 : tot A1 = tot A ∧ A1.length ≤ A.length + 1 ∧ (∀ e ∈ A1, e.1.length ≤ 255) ∧ (∀ e ∈ A1, ∀ l ∈ e.2, l.b.length ≤ 4096) ∧ (A1.map (·.1)).Nodup ∧ lsOf A1 x.k.data.toList = lsOf A x.k.data.toList := by
      rw [hA1]
      by_cases hh : hasK A x.k.data.toList = true
      · rw [if_pos hh]; exact ⟨rfl, Nat.le_succ _, h.kl, h.vl, hd, rfl⟩
      · have hh : hasK A x.k.data.toList = false := by simpa using hh
        rw [hh]
        refine ⟨tot_insA _ _, Nat.le_of_eq (insA_len _ _), fun e he => ?_, fun e he l hl => ?_, insA_nodup hd hh, lsOf_insA hh⟩
        · rcases mem_insA he with rfl | he
          · exact hkl
          · exact h.kl e he
        · rcases mem_insA he with rfl | he
          · cases hl
          · exact h.vl e he l hl
    obtain ⟨g1, g2, g3, g4, g5, g6⟩ := hf1
    have hls : ∀ l ∈ lsOf A x.k.data.toList, l.b.length ≤ 4096 := fun l hl => by
      rcases lsOf_in (A := A) (k := x.k.data.toList) with h0 | ⟨e, he, _, h2⟩
      · rw [h0] at hl; cases hl
      · exact h.vl e he l (h2 ▸ hl)
    unfold addA
    rw [← hA1]
    have ht := tot_setA_le (A := A1) (k := x.k.data.toList) (l := verOf x) g5
    rw [g6] at ht
    refine ⟨by rw [g1] at ht; have := h.tot; omega, by unfold setA; rw [List.length_map]; have := h.keys; omega, fun e he => ?_, fun e he l hl => ?_⟩
    · obtain ⟨f, hf, rfl⟩ := List.mem_map.1 he
      split <;> exact g3 f hf
    · obtain ⟨f, hf, rfl⟩ := List.mem_map.1 he
      split at hl
      · rcases List.mem_append.1 hl with hl | hl
        · exact hls l hl
        · obtain rfl : l = verOf x := by simpa using hl
          exact hz
      · exact g4 f hf l hl
  · exact h.mono (Nat.le_succ _)
theorem vacA_fine {A : Cont} {k : Nat} (h : FineK A k) (n : Int) : FineK (vacA A n) k := by
  refine ⟨Nat.le_trans ?_ h.tot, by unfold vacA; rw [List.length_map]; exact h.keys, fun e he => ?_, fun e he l hl => ?_⟩
  · unfold tot vacA
    rw [List.map_map]
    have : ∀ B : Cont, (B.map ((fun e => e.2.length) ∘ fun e => (e.1, pruV e.2 n))).sum ≤ (B.map fun e => e.2.length).sum := fun B => by
      induction B with
      | nil => simp
      | cons f r ih =>
        rw [List.map_cons, List.map_cons, List.sum_cons, List.sum_cons]
        refine Nat.add_le_add ?_ ih
        simp only [Function.comp, pruV, List.length_drop]; omega
    exact this A
  · obtain ⟨f, hf, rfl⟩ := List.mem_map.1 he
    exact h.kl f hf
  · obtain ⟨f, hf, rfl⟩ := List.mem_map.1 he
    exact h.vl f hf l (List.mem_of_mem_drop hl)

end Go.Proofs.Ythaknohnccmfoaa

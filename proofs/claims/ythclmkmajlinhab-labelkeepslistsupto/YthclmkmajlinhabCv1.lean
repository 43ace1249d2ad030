/- Covers as plain mathematics: what stands right above a label; the program's and the document's lists of pairs. -/
import Derived.Test.YthclmkmajlinhabHg1
import Derived.Test.YthclmkmajlinhabCov4
namespace Go.Proofs.Ythclmkmajlinhab
open Go.RowKit

/-- Whether some label stands strictly between two. -/
def btw (S : List Nat) (x y : Nat) : Bool := S.any fun z => bel x z && bel z y
/-- Whether y stands right above x. -/
def cov (S : List Nat) (x y : Nat) : Bool := bel x y && !btw S x y
theorem btw_iff (S : List Nat) (x y : Nat) : btw S x y = true ↔ ∃ z ∈ S, bel x z = true ∧ bel z y = true := by
  unfold btw
  rw [List.any_eq_true]
  constructor
  · rintro ⟨z, hz, h⟩
    rw [Bool.and_eq_true] at h
    exact ⟨z, hz, h⟩
  · rintro ⟨z, hz, h⟩
    exact ⟨z, hz, by rw [Bool.and_eq_true]; exact h⟩
theorem btw_congr {S T : List Nat} (h : ∀ x, x ∈ S ↔ x ∈ T) (x y : Nat) : btw S x y = btw T x y := by
  rw [Bool.eq_iff_iff, btw_iff, btw_iff]
  constructor
  · rintro ⟨z, hz, hb⟩; exact ⟨z, (h z).1 hz, hb⟩
  · rintro ⟨z, hz, hb⟩; exact ⟨z, (h z).2 hz, hb⟩
theorem cov_congr {S T : List Nat} (h : ∀ x, x ∈ S ↔ x ∈ T) (x y : Nat) : cov S x y = cov T x y := by unfold cov; rw [btw_congr h]
theorem lq_trans {x y z : Nat} (h1 : lq x y = true) (h2 : lq y z = true) : lq x z = true := by
  rw [lq_bits]
  intro i hi
  exact (lq_bits y z).1 h2 i ((lq_bits x y).1 h1 i hi)
theorem lq_refl (x : Nat) : lq x x = true := by rw [lq_iff]; exact Nat.and_self x

/-- What 'rightAbove' has found when it has looked at P. -/
structure Ra (l : Nat) (P : List Nat) : Prop where
  is : ∀ y, y ∈ raOf l P ↔ y ∈ P ∧ lq l y = true ∧ ¬ ∃ z ∈ P, z ≠ y ∧ lq l z = true ∧ lq z y = true
theorem ra_least {l : Nat} {P : List Nat} (h : Ra l P) : ∀ z, z ∈ P → lq l z = true → ∃ f ∈ raOf l P, lq f z = true := by
  intro z
  induction z using Nat.strongRecOn with
  | ind z ih =>
    intro hz hl
    by_cases hm : z ∈ raOf l P
    · exact ⟨z, hm, lq_refl z⟩
    · have hno := fun h2 => hm ((h.is z).2 ⟨hz, hl, h2⟩)
      obtain ⟨y, hy, hne, hly, hyz⟩ := Classical.not_not.1 hno
      have hlt : y < z := by have := lq_le hyz; omega
      obtain ⟨f, hf, hfy⟩ := ih y hlt hy hly
      exact ⟨f, hf, lq_trans hfy hyz⟩
theorem raOf_snoc (l : Nat) (P : List Nat) (x : Nat) : raOf l (P ++ [x]) = raStep l (raOf l P) x := by unfold raOf; rw [List.foldl_append]; rfl
theorem Ra.snoc {l x : Nat} {P : List Nat} (h : Ra l P) (hx : ∀ y ∈ P, y < x) : Ra l (P ++ [x]) := by
  have hxP : x ∉ P := fun hm => by have := hx x hm; omega
  have hany : anyLq (raOf l P) x = true ↔ ∃ z ∈ P, lq l z = true ∧ lq z x = true := by
    unfold anyLq
    rw [List.any_eq_true]
    constructor
    · rintro ⟨f, hf, hfx⟩
      have := (h.is f).1 hf
      exact ⟨f, this.1, this.2.1, hfx⟩
    · rintro ⟨z, hz, hlz, hzx⟩
      obtain ⟨f, hf, hfz⟩ := ra_least h z hz hlz
      exact ⟨f, hf, lq_trans hfz hzx⟩
  refine ⟨fun y => ?_⟩
  rw [raOf_snoc]
  have hold : ∀ y, y ∈ P → ((¬ ∃ z ∈ P, z ≠ y ∧ lq l z = true ∧ lq z y = true) ↔ ¬ ∃ z ∈ P ++ [x], z ≠ y ∧ lq l z = true ∧ lq z y = true) := fun y hy => by
    apply not_congr
    constructor
    · rintro ⟨z, hz, hr⟩; exact ⟨z, List.mem_append_left _ hz, hr⟩
    · rintro ⟨z, hz, hne, hl, hzy⟩
      rcases List.mem_append.1 hz with hz | hz
      · exact ⟨z, hz, hne, hl, hzy⟩
      · have : z = x := by simpa using hz
        subst this
        have h1 := hx y hy
        have h2 := lq_le hzy
        omega
  have hnew : (¬ ∃ z ∈ P ++ [x], z ≠ x ∧ lq l z = true ∧ lq z x = true) ↔ anyLq (raOf l P) x = false := by
    rw [← Bool.not_eq_true, hany]
    apply not_congr
    constructor
    · rintro ⟨z, hz, hne, hl, hzx⟩
      rcases List.mem_append.1 hz with hz | hz
      · exact ⟨z, hz, hl, hzx⟩
      · exact absurd (by simpa using hz) hne
    · rintro ⟨z, hz, hl, hzx⟩
      exact ⟨z, List.mem_append_left _ hz, fun e => hxP (e ▸ hz), hl, hzx⟩
  unfold raStep
  by_cases hc : (lq l x && !anyLq (raOf l P) x) = true
  · rw [if_pos hc, List.mem_append, List.mem_append]
    rw [Bool.and_eq_true, Bool.not_eq_true'] at hc
    constructor
    · rintro (hy | hy)
      · have := (h.is y).1 hy
        exact ⟨.inl this.1, this.2.1, (hold y this.1).1 this.2.2⟩
      · have : y = x := by simpa using hy
        subst this
        exact ⟨.inr hy, hc.1, hnew.2 hc.2⟩
    · rintro ⟨hy | hy, hl, hno⟩
      · exact .inl ((h.is y).2 ⟨hy, hl, (hold y hy).2 hno⟩)
      · exact .inr hy
  · rw [if_neg hc, List.mem_append]
    constructor
    · intro hy
      have := (h.is y).1 hy
      exact ⟨.inl this.1, this.2.1, (hold y this.1).1 this.2.2⟩
    · rintro ⟨hy | hy, hl, hno⟩
      · exact (h.is y).2 ⟨hy, hl, (hold y hy).2 hno⟩
      · have : y = x := by simpa using hy
        subst this
        exact absurd (by rw [Bool.and_eq_true, Bool.not_eq_true']; exact ⟨hl, hnew.1 hno⟩) hc
theorem ra_all {l : Nat} {G : List Nat} (hs : G.Pairwise (· < ·)) : Ra l G := by
  have key : ∀ k, k ≤ G.length → Ra l (G.take k) := by
    intro k
    induction k with
    | zero => intro _; exact ⟨fun y => by simp [raOf]⟩
    | succ k ih =>
      intro hk
      rw [List.take_succ_eq_append_getElem (by omega)]
      refine (ih (by omega)).snoc (fun y hy => ?_)
      obtain ⟨i, hi, rfl⟩ := List.getElem_of_mem hy
      rw [List.length_take] at hi
      rw [List.getElem_take]
      exact List.pairwise_iff_getElem.1 hs i k (by omega) (by omega) (by omega)
  have := key G.length (Nat.le_refl _)
  rwa [List.take_length] at this

/-- Among greater numbers, what is right above is what covers. -/
theorem ra_cov {zs C : List Nat} (hm : ∀ x, x ∈ C ↔ x ∈ zs) (hs : C.Pairwise (· < ·)) {j : Nat} (hj : j < C.length) (y : Nat) : y ∈ raOf (at0 C j) (C.drop (j + 1)) ↔ y ∈ zs ∧ cov zs (at0 C j) y = true := by
  have hG : (C.drop (j + 1)).Pairwise (· < ·) := hs.sublist (List.drop_sublist _ _)
  have hgt : ∀ z, z ∈ C.drop (j + 1) ↔ z ∈ C ∧ at0 C j < z := fun z => by
    constructor
    · intro hz
      obtain ⟨i, hi, rfl⟩ := List.getElem_of_mem hz
      rw [List.length_drop] at hi
      rw [List.getElem_drop, ← at0_get hj]
      exact ⟨List.getElem_mem _, List.pairwise_iff_getElem.1 hs j (j + 1 + i) hj (by omega) (by omega)⟩
    · rintro ⟨hz, hlt⟩
      obtain ⟨i, hi, rfl⟩ := List.getElem_of_mem hz
      rw [← at0_get hj] at hlt
      have hij : j < i := by
        rcases Nat.lt_trichotomy i j with e | e | e
        · have := List.pairwise_iff_getElem.1 hs i j hi hj e; omega
        · subst e; omega
        · exact e
      rw [List.mem_iff_getElem]
      exact ⟨i - (j + 1), by rw [List.length_drop]; omega, by rw [List.getElem_drop]; congr 1; omega⟩
  rw [(ra_all hG).is y, hgt]
  unfold cov
  rw [Bool.and_eq_true, Bool.not_eq_true', ← Bool.not_eq_true, btw_iff, bel_iff]
  constructor
  · rintro ⟨⟨h1, h2⟩, h3, h4⟩
    refine ⟨(hm y).1 h1, ⟨by omega, h3⟩, ?_⟩
    rintro ⟨z, hz, hb1, hb2⟩
    refine h4 ⟨z, (hgt z).2 ⟨(hm z).2 hz, bel_lt hb1⟩, ((bel_iff _ _).1 hb2).1, ((bel_iff _ _).1 hb1).2, ((bel_iff _ _).1 hb2).2⟩
  · rintro ⟨h1, ⟨h2, h3⟩, h4⟩
    have hle := lq_le h3
    refine ⟨⟨(hm y).2 h1, by omega⟩, h3, ?_⟩
    rintro ⟨z, hz, hne, hl, hzy⟩
    have := (hgt z).1 hz
    exact h4 ⟨z, (hm z).1 this.1, (bel_iff _ _).2 ⟨by omega, hl⟩, (bel_iff _ _).2 ⟨hne, hzy⟩⟩

/-- The pairs of the first k places, the last one's second parts below m. -/
def covTo (zs : List Nat) (i m : Nat) : List Nat := (List.range m).filter fun j => cov zs (at0 zs i) (at0 zs j)
def prs (zs : List Nat) (k : Nat) : List (Nat × Nat) := (List.range k).flatMap fun i => (covTo zs i zs.length).map fun j => (i, j)
theorem prs_succ (zs : List Nat) (k : Nat) : prs zs (k + 1) = prs zs k ++ (covTo zs k zs.length).map fun j => (k, j) := by
  unfold prs; rw [List.range_succ, List.flatMap_append]; simp
theorem covTo_yes {zs : List Nat} {i m : Nat} (h : cov zs (at0 zs i) (at0 zs m) = true) : covTo zs i (m + 1) = covTo zs i m ++ [m] := by
  unfold covTo; rw [List.range_succ, List.filter_append]; simp [h]
theorem covTo_no {zs : List Nat} {i m : Nat} (h : cov zs (at0 zs i) (at0 zs m) = false) : covTo zs i (m + 1) = covTo zs i m := by
  unfold covTo; rw [List.range_succ, List.filter_append]; simp [h]
theorem covTo_len (zs : List Nat) (i m : Nat) : (covTo zs i m).length ≤ m := by
  have := List.length_filter_le (fun j => cov zs (at0 zs i) (at0 zs j)) (List.range m)
  simpa [covTo] using this
theorem prs_len (zs : List Nat) : ∀ k, (prs zs k).length ≤ k * zs.length := by
  intro k
  induction k with
  | zero => simp [prs]
  | succ k ih =>
    rw [prs_succ, List.length_append, List.length_map, Nat.succ_mul]
    have := covTo_len zs k zs.length
    omega
/-- The program's pairs are these. -/
theorem prsTo_eq {zs C : List Nat} {fa : Nat → List Nat} (hm : ∀ x, x ∈ C ↔ x ∈ zs) (hs : ∀ i, i + 1 < C.length → at0 C i < at0 C (i + 1)) (hA : Above zs C fa C.length) : prsTo zs fa zs.length = prs zs zs.length := by
  unfold prsTo prs
  have hfa : ∀ i, i < zs.length → fa (at0 zs i) = covTo zs i zs.length := fun i hi => by
    obtain ⟨j, hj, he⟩ := mem_at0 ((hm (at0 zs i)).2 (at0_mem hi))
    rw [← he, hA.1 j hj]
    unfold abOf covTo
    apply List.filter_congr
    intro k hk
    have hk : k < zs.length := List.mem_range.1 hk
    rw [Bool.eq_iff_iff, decide_eq_true_iff, ra_cov hm (strict_nodup hs) hj, he]
    exact ⟨fun h => h.2, fun h => ⟨at0_mem hk, h⟩⟩
  rw [List.flatMap_def, List.flatMap_def]
  congr 1
  apply List.map_congr_left
  intro i hi
  rw [hfa i (List.mem_range.1 hi)]

end Go.Proofs.Ythclmkmajlinhab

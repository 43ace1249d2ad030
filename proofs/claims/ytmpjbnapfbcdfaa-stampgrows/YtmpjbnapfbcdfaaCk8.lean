/- Clocks that go on, and a vector that was taken before. -/
import Derived.Test.YtmpjbnapfbcdfaaCk7
import Derived.Test.YtmpjbnapfbcdfaaOpenIn
namespace Go.Proofs.Ytmpjbnapfbcdfaa
open Go.RowKit

/-- One of them goes on. -/
def goOn (C : Nat → Ck) (g : Nat) (i : Nat) : Ck := if i = g then nextC (C g) else C i
theorem goOn_t (C : Nat → Ck) (g i : Nat) : (goOn C g i).t = (C i).t := by
  unfold goOn; split
  · next h => rw [h]; exact nextC_t _
  · rfl
theorem nextC_n (c : Ck) : c.n ≤ (nextC c).n := by unfold nextC; split <;> (try split) <;> simp <;> omega
theorem nextC_up {c : Ck} (ht : c.t = true) : c.n < (nextC c).n ↔ nextE c = 0 := by
  unfold nextC nextE; rw [ht]
  by_cases h : worn c = true <;> simp [h]
  omega

/-- The program's clocks C, which were C0; the vector vs, taken before; has one of the places moved? -/
structure Gs (w0 w : World) (v : Value) (n : Nat) (C0 C : Nat → Ck) (P : Nat → Nat) (r : Value) (vs ps : List Int) (m : Bool) : Prop where
  ptr : OwnS w w0.heap.size 24 1 v n (celP C0 P n)
  own : OwI w w0.heap.size r vs
  pk : ∀ i, i < n → Pk w (P i) (C i)
  ok : ∀ i, i < n → CkOk (C i)
  low : ∀ i, i < n → w0.heap.size ≤ P i ∧ P i < w.heap.size
  apart : ∀ i j, i < n → j < n → i ≠ j → P i ≠ P j
  was : ∀ i, i < n → (C i).t = (C0 i).t ∧ (C0 i).n ≤ (C i).n
  mv : m = true ↔ ∃ i, i < n ∧ (i : Int) ∈ ps ∧ (C i).t = true ∧ (C0 i).n < (C i).n
  bel : Below w0.heap.size w0 w
section
variable {w0 w w' : World} {v r : Value} {n : Nat} {C0 C : Nat → Ck} {P : Nat → Nat} {vs ps : List Int} {m : Bool}
theorem Gs.below (h : Gs w0 w v n C0 C P r vs ps m) (hb : Below w.heap.size w w') : Gs w0 w' v n C0 C P r vs ps m :=
  ⟨h.ptr.below hb, h.own.below hb, fun i hi => (h.pk i hi).below hb, h.ok, fun i hi => ⟨(h.low i hi).1, Nat.lt_of_lt_of_le (h.low i hi).2 hb.size⟩, h.apart, h.was, h.mv, h.bel.trans (hb.mono h.bel.size)⟩
theorem Gs.row (h : Gs w0 w v n C0 C P r vs ps m) : ∃ a c, v = .slice a n c ∧ RowPt w a n C P ∧ n ≤ c := by
  obtain ⟨a, c, hv, hn, _, h0, hc⟩ := h.ptr.open
  refine ⟨a, c, hv, ?_, hn⟩
  cases a with
  | none => exact .inl (h0 rfl).1
  | some b =>
    obtain ⟨h1, h2, _, h4⟩ := hc b rfl
    refine .inr ⟨b.block, b.off, by cases b; simp_all, h2, fun i hi => ?_⟩
    rw [h4 i (by simp [celP]; exact hi), celP_at C0 P hi]
    unfold ptrK; rw [(h.was i hi).1]
/-- One goes on. -/
theorem Gs.tick (h : Gs w0 w v n C0 C P r vs ps m) {g : Nat} (hg : g < n) (hgt : (C g).t = true) (ht : Ticked w (P g) (C g) (nextC (C g)) w') :
    Gs w0 w' v n C0 (goOn C g) P r vs ps (m || (decide ((g : Int) ∈ ps) && decide (nextE (C g) = 0))) := by
  have hbg := (h.pk g hg) hgt
  have hcl : ∀ (j : Nat) (t : TypeId) (cur : Array Value), w.heap[j]? = some (.cells cur t (0, 0)) → t ≠ 62 → w'.heap[j]? = w.heap[j]? := fun j t cur e hne => ht.chg.block j (Array.getElem?_eq_some_iff.1 e).1 (fun x => by
    rw [x.2, hbg] at e; cases e; exact hne rfl)
  refine ⟨h.ptr.keep fun j hj => ?_, h.own.keep fun j hj => ?_, fun i hi => ?_, fun i hi => ?_, fun i hi => ⟨(h.low i hi).1, Nat.lt_of_lt_of_le (h.low i hi).2 ht.chg.size⟩, h.apart, fun i hi => ?_, ?_, h.bel.trans (ht.chg.below (fun k hk => by rw [hk.2]; exact (h.low g hg).1) h.bel.size)⟩
  · obtain ⟨cur, e⟩ := h.ptr.type hj
    exact hcl j _ cur e (by decide)
  · obtain ⟨cur, e⟩ := OwnS.type h.own hj
    exact hcl j _ cur e (by decide)
  · by_cases e : i = g
    · subst e
      have : goOn C i i = nextC (C i) := if_pos rfl
      rw [this]; exact ht.pk
    · have : goOn C g i = C i := if_neg e
      rw [this]
      exact (h.pk i hi).keep (ht.chg.block _ (h.low i hi).2 (fun x => h.apart i g hi hg e x.2))
  · unfold goOn; split
    · exact nextC_ok (h.ok g hg)
    · exact h.ok i hi
  · refine ⟨(goOn_t C g i).trans (h.was i hi).1, ?_⟩
    have h2 := (h.was i hi).2
    unfold goOn; split
    · next e => subst e; exact Int.le_trans h2 (nextC_n _)
    · exact h2
  · rw [Bool.or_eq_true, h.mv]
    constructor
    · rintro (⟨i, hi, h1, h2, h3⟩ | h1)
      · refine ⟨i, hi, h1, (goOn_t C g i).trans h2, ?_⟩
        unfold goOn; split
        · next e => subst e; exact Int.lt_of_lt_of_le h3 (nextC_n _)
        · exact h3
      · simp only [Bool.and_eq_true, decide_eq_true_eq] at h1
        refine ⟨g, hg, h1.1, (goOn_t C g g).trans hgt, ?_⟩
        have : goOn C g g = nextC (C g) := if_pos rfl
        rw [this]
        exact Int.lt_of_le_of_lt (h.was g hg).2 ((nextC_up hgt).2 h1.2)
    · rintro ⟨i, hi, h1, h2, h3⟩
      by_cases e : i = g
      · subst e
        by_cases hE : nextE (C i) = 0
        · exact .inr (by simp [h1, hE])
        · left
          refine ⟨i, hi, h1, hgt, ?_⟩
          have hno : ¬ (C i).n < (nextC (C i)).n := fun x => hE ((nextC_up hgt).1 x)
          have : goOn C i i = nextC (C i) := if_pos rfl
          rw [this] at h3
          omega
      · have : goOn C g i = C i := if_neg e
        rw [this] at h2 h3
        exact .inl ⟨i, hi, h1, h2, h3⟩
/-- What is taken behind that. -/
theorem Gs.later (h : Gs w0 w v n C0 C P r vs ps m) : under (vecOf n C0 ps) (vecOf n C ps) ∧ (decide (vecOf n C0 ps = vecOf n C ps) != m) = true := by
  have hs : ∀ i, i < n → seen C0 ps i ≤ seen C ps i ∧ (seen C0 ps i = seen C ps i ↔ ¬ ((i : Int) ∈ ps ∧ (C i).t = true ∧ (C0 i).n < (C i).n)) := fun i hi => by
    obtain ⟨h1, h2⟩ := h.was i hi
    unfold seen
    rw [← h1]
    by_cases hm : (i : Int) ∈ ps ∧ (C i).t = true
    · rw [if_pos hm, if_pos hm]
      refine ⟨h2, fun e x => by omega, fun x => ?_⟩
      have : ¬ (C0 i).n < (C i).n := fun y => x ⟨hm.1, hm.2, y⟩
      omega
    · rw [if_neg hm, if_neg hm]
      exact ⟨Int.le_refl _, fun _ x => hm ⟨x.1, x.2.1⟩, fun _ => rfl⟩
  refine ⟨⟨by rw [vecOf_len, vecOf_len], fun i hi => ?_⟩, ?_⟩
  · rw [vecOf_len] at hi
    rw [vecOf_at hi, vecOf_at hi]; exact (hs i hi).1
  · have key : vecOf n C0 ps = vecOf n C ps ↔ ¬ m = true := by
      rw [h.mv]
      constructor
      · rintro e ⟨i, hi, h1, h2, h3⟩
        have := (hs i hi).2.1 (by rw [← vecOf_at (C := C0) hi, ← vecOf_at (C := C) hi, e])
        exact this ⟨h1, h2, h3⟩
      · intro x
        refine eq_of_atI (by rw [vecOf_len, vecOf_len]) fun i hi => ?_
        rw [vecOf_len] at hi
        rw [vecOf_at hi, vecOf_at hi]
        exact (hs i hi).2.2 (fun y => x ⟨i, hi, y.1, y.2.1, y.2.2⟩)
    by_cases e : vecOf n C0 ps = vecOf n C ps
    · have := key.1 e; simp [e]; simpa using this
    · have : m = true := by
        by_cases hm : m = true
        · exact hm
        · exact absurd (key.2 hm) e
      simp [e, this]
end

end Go.Proofs.Ytmpjbnapfbcdfaa

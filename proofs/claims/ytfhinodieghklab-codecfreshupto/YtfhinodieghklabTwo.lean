/- Readers beside one another: what one does leaves another, and rows of bytes, as they are; what is left grows never longer. -/
import Derived.Test.YtfhinodieghklabRd10
namespace Go.Proofs.Ytfhinodieghklab
open Go.RowKit

/-- What one reader does leaves another one as it is. -/
theorem keep {w w' : World} {p q : Nat} {s t : List Nat × Nat} (hq : Rst w (some ⟨q, 0, none⟩) t) (hp : Rst w (some ⟨p, 0, none⟩) s) (hne : q ≠ p) (hg : w.grownBy w' (some p)) : Rst w' (some ⟨q, 0, none⟩) t := by
  rcases hq with ⟨e, _⟩ | ⟨q', e, hR, h8⟩
  · cases e
  · cases e
    rcases hp with ⟨e, _⟩ | ⟨p', e, hP, _⟩
    · cases e
    · cases e
      obtain ⟨_, _, _, hhp, _⟩ := hP
      obtain ⟨hq, a, cap, hh, hr, h1, h2, h3⟩ := hR
      refine .inr ⟨q, rfl, ⟨Nat.lt_of_lt_of_le hq hg.size, a, cap, by rw [hg.block q hq (by simpa using hne)]; exact hh, ?_, h1, h2, h3⟩, h8⟩
      rcases hr.not_rdr hhp with h | ⟨b, o, e, hb, hlt, hc⟩
      · exact .inl h
      · exact .inr ⟨b, o, e, Nat.lt_of_lt_of_le hlt hg.size, fun i hi => by rw [World.cell?_of_block (w := w) (hg.block b hlt (by simpa using hb))]; exact hc i hi⟩
theorem keepRow {w w' : World} {p : Nat} {a : Option Addr} {zs : List Nat} {s : List Nat × Nat} (hr : RowB w a zs) (hp : Rst w (some ⟨p, 0, none⟩) s) (hg : w.grownBy w' (some p)) : RowB w' a zs := by
  rcases hp with ⟨e, _⟩ | ⟨p', e, hP, _⟩
  · cases e
  · cases e
    obtain ⟨_, _, _, hhp, _⟩ := hP
    rcases hr.not_rdr hhp with h | ⟨b, o, e, hb, hlt, hc⟩
    · exact .inl h
    · exact .inr ⟨b, o, e, Nat.lt_of_lt_of_le hlt hg.size, fun i hi => by rw [World.cell?_of_block (w := w) (hg.block b hlt (by simpa using hb))]; exact hc i hi⟩
theorem rdOf_len {A : Type} {z : A} {take : List Nat → Except Nat (A × List Nat)} {s : List Nat × Nat} (h : ∀ x t, take s.1 = .ok (x, t) → t.length ≤ s.1.length) : (rdOf z take s).2.1.length ≤ s.1.length := by
  unfold rdOf
  split
  · exact Nat.le_refl _
  · cases ht : take s.1 with
    | error c => exact Nat.le_refl _
    | ok x => obtain ⟨x, t⟩ := x; exact h x t ht
theorem fixed_len {W : Nat} {bs : List Nat} : ∀ x t, takeFixed W bs = .ok (x, t) → t.length ≤ bs.length := fun x t h => by
  unfold takeFixed at h
  split at h
  · cases h
  · cases h; simp
theorem short_len {low high : Int} {bs : List Nat} : ∀ x t, takeShort low high bs = .ok (x, t) → t.length ≤ bs.length := fun x t h => by
  unfold takeShort at h
  split at h
  · cases h
  · split at h
    · cases h
    · next e =>
      split at h
      · cases h
      · cases h; exact groups_len bs 0 0 e
theorem step_len (k low high most : Int) (s : List Nat × Nat) : (stepOf k low high most s).2.1.length ≤ s.1.length := by
  unfold stepOf
  split
  · exact rdOf_len fixed_len
  split
  · exact rdOf_len fixed_len
  split
  · exact rdOf_len fixed_len
  split
  · exact rdOf_len fixed_len
  split
  · exact rdOf_len short_len
  split
  · exact rdOf_len fun x t h => by have := (takeCounted_len h).2; omega
  split
  · exact Nat.le_refl _
  split
  · exact Nat.le_refl _
  split <;> exact Nat.le_refl _
theorem step_ans (k low high most : Int) (s : List Nat × Nat) : (stepOf k low high most s).1.2.length ≤ s.1.length := by
  have hc : (rdOf [] (takeCounted most) s).1.length ≤ s.1.length := by
    unfold rdOf
    split
    · simp
    · cases ht : takeCounted most s.1 with
      | error c => simp
      | ok x => obtain ⟨x, t⟩ := x; exact (takeCounted_len ht).1
  unfold stepOf
  split
  · simp
  split
  · simp
  split
  · simp
  split
  · simp
  split
  · simp
  split
  · exact hc
  split
  · simp
  split
  · simp
  split <;> simp
theorem Rst.lt {w : World} {p : Nat} {s : List Nat × Nat} (h : Rst w (some ⟨p, 0, none⟩) s) : p < w.heap.size := by
  rcases h with ⟨e, _⟩ | ⟨p', e, hP, _⟩
  · cases e
  · cases e; exact hP.1
theorem cell_kept {w w' : World} {p b i : Nat} {v : Value} (hc : w.cell? ⟨b, i, none⟩ = some v) (hb : b < w.heap.size) (hne : b ≠ p) (hg : w.grownBy w' (some p)) : w'.cell? ⟨b, i, none⟩ = some v := by
  rw [World.cell?_of_block (w := w) (hg.block b hb (by simpa using hne))]; exact hc
end Go.Proofs.Ytfhinodieghklab

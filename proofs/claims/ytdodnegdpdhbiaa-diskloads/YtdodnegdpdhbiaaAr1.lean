/- An area in memory: three cells, and the bytes in a block of their own; what a call may change. -/
import Derived.Test.YtdodnegdpdhbiaaSb1
namespace Go.Proofs.Ytdodnegdpdhbiaa
open Go.RowKit

/-- The cells of a block but for three from o on stay as they are. -/
def Rest (w w' : World) (p o : Nat) : Prop :=
  ∀ C t, w.heap[p]? = some (.cells C t (0, 0)) → ∃ C', w'.heap[p]? = some (.cells C' t (0, 0)) ∧ C'.size = C.size ∧ ∀ i, i < o ∨ o + 3 ≤ i → C'[i]? = C[i]?
theorem Rest.refl (w : World) (p o : Nat) : Rest w w p o := fun C _ h => ⟨C, h, rfl, fun _ _ => rfl⟩
theorem Rest.trans {w w1 w2 : World} {p o : Nat} (h : Rest w w1 p o) (k : Rest w1 w2 p o) : Rest w w2 p o := fun C t hC => by
  obtain ⟨C1, h1, s1, e1⟩ := h C t hC
  obtain ⟨C2, h2, s2, e2⟩ := k C1 t h1
  exact ⟨C2, h2, s2.trans s1, fun i hi => (e2 i hi).trans (e1 i hi)⟩
theorem Rest.of_block {w w' : World} {p o : Nat} (h : w'.heap[p]? = w.heap[p]?) : Rest w w' p o := fun C _ hC => ⟨C, h.trans hC, rfl, fun _ _ => rfl⟩
theorem Rest.set (w : World) (p o i : Nat) (u : Value) (hi : o ≤ i ∧ i < o + 3) : Rest w (w.setCell ⟨p, i, none⟩ u) p o := fun C t hC =>
  ⟨_, heap_setCell_same w p i _ _ u hC, by simp, fun j hj => by rw [Array.getElem?_setIfInBounds_ne (by omega)]⟩

/-- An area's own blocks. -/
def Ft (p : Nat) (v : Value) (j : Nat) : Prop := j = p ∨ v.ownBlock = some j

/-- At place o of block p lies an area with the base B and the bytes bs, k of them safe; v is its slice. -/
structure Ar (w : World) (p o : Nat) (v : Value) (B : Nat) (bs : List Nat) (k : Nat) : Prop where
  blk : ∃ C t, w.heap[p]? = some (.cells C t (0, 0)) ∧ C[o]? = some (.int .i64 (B : Int)) ∧ C[o + 1]? = some (.int .i64 (k : Int)) ∧ C[o + 2]? = some v
  own : OwB w 0 v bs
  far : v.ownBlock ≠ some p
  all : All8 bs
  len : bs.length ≤ 211106232532800
  room : B + bs.length ≤ 9223372036854775807

section
variable {w w' : World} {p o : Nat} {v : Value} {B : Nat} {bs : List Nat} {k : Nat}
theorem Ar.plt (h : Ar w p o v B bs k) : p < w.heap.size := by
  obtain ⟨C, t, hC, _⟩ := h.blk
  exact (Array.getElem?_eq_some_iff.1 hC).1
theorem Ar.cells (h : Ar w p o v B bs k) : w.cell? ⟨p, o, none⟩ = some (.int .i64 (B : Int)) ∧ w.cell? ⟨p, o + 1, none⟩ = some (.int .i64 (k : Int)) ∧ w.cell? ⟨p, o + 2, none⟩ = some v ∧
    w.frozen? ⟨p, o, none⟩ = false ∧ w.frozen? ⟨p, o + 1, none⟩ = false ∧ w.frozen? ⟨p, o + 2, none⟩ = false := by
  obtain ⟨C, t, hC, h0, h1, h2⟩ := h.blk
  exact ⟨(cell_of_row _ _ _ _ _ _ hC).trans h0, (cell_of_row _ _ _ _ _ _ hC).trans h1, (cell_of_row _ _ _ _ _ _ hC).trans h2, frozen_of_row _ _ _ _ _ hC, frozen_of_row _ _ _ _ _ hC, frozen_of_row _ _ _ _ _ hC⟩
theorem Ar.keep (h : Ar w p o v B bs k) (hp : w'.heap[p]? = w.heap[p]?) (hv : ∀ j, v.ownBlock = some j → w'.heap[j]? = w.heap[j]?) : Ar w' p o v B bs k := by
  obtain ⟨C, t, hC, h3⟩ := h.blk
  exact ⟨⟨C, t, hp.trans hC, h3⟩, h.own.keep hv, h.far, h.all, h.len, h.room⟩
theorem Ar.chg {S : Nat → Prop} (h : Ar w p o v B bs k) (hc : Chg S w w') (hs : ∀ j, Ft p v j → ¬ S j) : Ar w' p o v B bs k :=
  h.keep (hc.block p h.plt (hs p (.inl rfl))) fun j hj => hc.block j (h.own.inside j hj).2 (hs j (.inr hj))
theorem Ar.below (h : Ar w p o v B bs k) (hb : Below w.heap.size w w') : Ar w' p o v B bs k :=
  h.keep (hb.block p h.plt) fun j hj => hb.block j (h.own.inside j hj).2
theorem Ar.drew (h : Ar w p o v B bs k) : Ar w.drew p o v B bs k := h.keep rfl fun _ _ => rfl
theorem Ar.inside (h : Ar w p o v B bs k) : ∀ j, Ft p v j → j < w.heap.size := fun j hj => by
  rcases hj with rfl | hj
  · exact h.plt
  · exact (h.own.inside j hj).2
/-- Another number of safe bytes. -/
theorem Ar.put1 (h : Ar w p o v B bs k) (k' : Nat) : Ar (w.setCell ⟨p, o + 1, none⟩ (.int .i64 (k' : Int))) p o v B bs k' := by
  obtain ⟨C, t, hC, h0, h1, h2⟩ := h.blk
  have hl := (Array.getElem?_eq_some_iff.1 h1).1
  refine ⟨⟨_, t, heap_setCell_same w p (o + 1) _ _ _ hC, ?_, ?_, ?_⟩, h.own.keep fun j hj => Below.heap_setCell _ _ _ _ (fun e => h.far (by rw [hj, e])), h.far, h.all, h.len, h.room⟩
  · rw [Array.getElem?_setIfInBounds_ne (by omega)]; exact h0
  · rw [Array.getElem?_setIfInBounds_self_of_lt hl]
  · rw [Array.getElem?_setIfInBounds_ne (by omega)]; exact h2
/-- Another base. -/
theorem Ar.put0 (h : Ar w p o v B bs k) (B' : Nat) (hB : B' + bs.length ≤ 9223372036854775807) : Ar (w.setCell ⟨p, o, none⟩ (.int .i64 (B' : Int))) p o v B' bs k := by
  obtain ⟨C, t, hC, h0, h1, h2⟩ := h.blk
  have hl := (Array.getElem?_eq_some_iff.1 h0).1
  refine ⟨⟨_, t, heap_setCell_same w p o _ _ _ hC, ?_, ?_, ?_⟩, h.own.keep fun j hj => Below.heap_setCell _ _ _ _ (fun e => h.far (by rw [hj, e])), h.far, h.all, h.len, hB⟩
  · rw [Array.getElem?_setIfInBounds_self_of_lt hl]
  · rw [Array.getElem?_setIfInBounds_ne (by omega)]; exact h1
  · rw [Array.getElem?_setIfInBounds_ne (by omega)]; exact h2
/-- What a call of an area leaves: an area of other bytes, and all else as it was. -/
structure Moved (w : World) (p o : Nat) (v : Value) (B : Nat) (bs : List Nat) (k : Nat) (w' : World) : Prop where
  ex : ∃ v', Ar w' p o v' B bs k ∧ (v'.ownBlock = v.ownBlock ∨ ∀ j, v'.ownBlock = some j → w.heap.size ≤ j)
  chg : Chg (Ft p v) w w'
  rest : Rest w w' p o
end

/-- Three cells with other values. -/
theorem Ar.put2 {w w1 : World} {p o : Nat} {v v' : Value} {B k : Nat} {bs bs' : List Nat} (h : Ar w p o v B bs k) (hc : w1.heap[p]? = w.heap[p]?) (hown : OwB w1 0 v' bs') (hf : v'.ownBlock ≠ some p) (h8 : All8 bs') (hl : bs'.length ≤ 211106232532800) (hr : B + bs'.length ≤ 9223372036854775807) :
    Ar (w1.setCell ⟨p, o + 2, none⟩ v') p o v' B bs' k := by
  obtain ⟨C, t, hC, h0, h1, h2⟩ := h.blk
  have hlt := (Array.getElem?_eq_some_iff.1 h2).1
  refine ⟨⟨_, t, heap_setCell_same w1 p (o + 2) _ _ _ (hc.trans hC), ?_, ?_, ?_⟩, hown.keep fun j hj => Below.heap_setCell _ _ _ _ (fun e => hf (by rw [hj, e])), hf, h8, hl, hr⟩
  · rw [Array.getElem?_setIfInBounds_ne (by omega)]; exact h0
  · rw [Array.getElem?_setIfInBounds_ne (by omega)]; exact h1
  · rw [Array.getElem?_setIfInBounds_self_of_lt hlt]

end Go.Proofs.Ytdodnegdpdhbiaa

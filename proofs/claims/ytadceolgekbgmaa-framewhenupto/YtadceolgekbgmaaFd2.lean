/- The document's list beside a loop over an iterator: what leaves it as it is. -/
import Derived.Test.YtadceolgekbgmaaFd1
import Derived.Test.YtadceolgekbgmaaFi2
namespace Go.Proofs.Ytadceolgekbgmaa
open Go.RowKit Go.Shelf

/-- What changes no row of bytes and no row of what is told leaves the list as it is. -/
theorem DocF.keep {w w' : World} {base : Nat} {v : Value} {xs : List Hand} (h : DocF w base v xs) (hk : ∀ (j : Nat) (cur : Array Value) (t : TypeId), w.heap[j]? = some (Obj.cells cur t (0, 0)) → t = 43 ∨ t = 5 → w'.heap[j]? = w.heap[j]?) : DocF w' base v xs := by
  refine ⟨h.list.keep fun j hj => ?_, fun x hx => (h.each x hx).heap' fun j hj => ?_⟩
  · obtain ⟨cur, hc⟩ := h.list.type hj
    exact hk j cur _ hc (.inl rfl)
  · rcases (h.each x hx).2 with ⟨e, _⟩ | ⟨g, cap, cur, e, _, hh, _⟩
    · rw [e] at hj; cases hj
    · rw [e] at hj; cases hj; exact hk g cur _ hh (.inr rfl)
theorem docF_own {β : Type} (base : Nat) (v : Value) (xs : List Hand) : Own (fun (_ : β) W => DocF W base v xs) := fun _ _ _ _ hs hg hr =>
  hs.keep fun _ _ _ hc _ => grownBy_keeps_cells hg hr hc rfl
/-- A write into a box of another type. -/
theorem DocF.box {w : World} {base B : Nat} {v u u' : Value} {xs : List Hand} {t : TypeId} (h : DocF w base v xs) (hb : Boxed w B t u) (ht : t ≠ 43 ∧ t ≠ 5) : DocF (w.setCell ⟨B, 0, none⟩ u') base v xs :=
  h.keep fun j cur t' hc ht' => Below.heap_setCell _ _ _ _ fun e => by
    have e' : j = B := e
    subst e'
    rw [show w.heap[j]? = _ from hb] at hc
    cases hc
    rcases ht' with e | e
    · exact ht.1 e
    · exact ht.2 e
/-- The thing that is handed over is the document's. -/
theorem GF.want {bs : List Nat} {pre xs : List Hand} {x : Hand} {X W : World} (h : GF bs pre x X W) (hx : xs.map tl = frs bs) : ∃ y, xs[pre.length]? = some y ∧ y.1 = x.1 ∧ y.2.2 = x.2.2 := by
  have h1 := h.1
  rw [← hx, List.getElem?_map] at h1
  cases hy : xs[pre.length]? with
  | none => rw [hy] at h1; cases h1
  | some y =>
    rw [hy] at h1
    have h2 : tl y = tl x := by simpa using h1
    unfold tl at h2
    exact ⟨y, rfl, (Prod.mk.inj h2).1, (Prod.mk.inj h2).2⟩

end Go.Proofs.Ytadceolgekbgmaa

/- Both queues, and the box of the document's one. -/
import Derived.Test.YtomfhbngpikjeaaQuDo5
import Derived.Test.YtomfhbngpikjeaaQuFix
import Derived.Test.YtomfhbngpikjeaaStpQ
namespace Go.Proofs.Ytomfhbngpikjeaa
open Go.RowKit

/-- Both queues; the document's one lies in block c. -/
structure Pair (w0 w : World) (b g c most : Nat) (v : Value) (xs : List ByteArray) : Prop where
  both : Both w b g most w0.heap.size v xs
  box : w.heap[c]? = some (.cells #[.int .i64 (most : Int), v] 24 (0, 0))
  cb : c ≠ b
  cg : c ≠ g
  bge : w0.heap.size ≤ b
  gge : w0.heap.size ≤ g
  cge : w0.heap.size ≤ c
theorem OwS.not_box {w : World} {base c : Nat} {v : Value} {xs : List ByteArray} {C : Array Value} (h : OwS w base v xs) (hc : w.heap[c]? = some (.cells C 24 (0, 0))) : ∀ j, v.ownBlock = some j → j ≠ c := by
  intro j hj e
  subst e
  rcases h.2 with ⟨rfl, _⟩ | ⟨g, cap, cur, rfl, _, hh, _⟩
  · cases hj
  · cases hj
    rw [hh] at hc
    cases hc
theorem Pair.below {w0 w w' : World} {b g c most : Nat} {v : Value} {xs : List ByteArray} (h : Pair w0 w b g c most v xs) (hb : Below w.heap.size w w') : Pair w0 w' b g c most v xs :=
  ⟨h.both.below hb, (hb.block c (Array.getElem?_eq_some_iff.1 h.box).1).trans h.box, h.cb, h.cg, h.bge, h.gge, h.cge⟩
theorem Pair.drew {w0 w : World} {b g c most : Nat} {v : Value} {xs : List ByteArray} (h : Pair w0 w b g c most v xs) (q : Nat) : Pair w0 (w.drewN q) b g c most v xs := h.below (below_drewN (Below.refl _ _) q)
theorem Pair.cells {w0 w : World} {b g c most : Nat} {v : Value} {xs : List ByteArray} (h : Pair w0 w b g c most v xs) : w.cell? ⟨c, 0, none⟩ = some (.int .i64 (most : Int)) ∧ w.cell? ⟨c, 1, none⟩ = some v ∧ w.frozen? ⟨c, 0, none⟩ = false ∧ w.frozen? ⟨c, 1, none⟩ = false :=
  ⟨cell_of_row _ _ 0 _ _ _ h.box, cell_of_row _ _ 1 _ _ _ h.box, frozen_of_row _ _ 0 _ _ h.box, frozen_of_row _ _ 1 _ _ h.box⟩
/-- A call was made of both, its answer lies in new memory, and goes into the box. -/
theorem Pair.next {w0 w w5 : World} {b g c most : Nat} {v v' : Value} {xs ys : List ByteArray} (h : Pair w0 w b g c most v xs) (hw : w0.heap.size ≤ w.heap.size) {g' : Nat} (hg : g' = g ∨ g' = b ∨ w.heap.size ≤ g') (hb : Both w5 b g' most w0.heap.size v' ys) (ho : Only b g w w5) (o : Obj) :
    Pair w0 (((w5.setCell ⟨c, 0, none⟩ (.int .i64 (most : Int))).setCell ⟨c, 1, none⟩ v').alloc o) b g' c most v' ys ∧ Below w0.heap.size w (((w5.setCell ⟨c, 0, none⟩ (.int .i64 (most : Int))).setCell ⟨c, 1, none⟩ v').alloc o) := by
  have hc := (Array.getElem?_eq_some_iff.1 h.box).1
  have hs := ho.size
  have hbox5 := (ho.block c hc h.cb h.cg).trans h.box
  have b1 := heap_setCell_same _ c 0 _ _ (.int .i64 (most : Int)) hbox5
  have b2 := heap_setCell_same _ c 1 _ _ v' b1
  have hcg : c ≠ g' := by have := h.cg; have := h.cb; rcases hg with e | e | e <;> omega
  have hk : ∀ k, k < w5.heap.size → k ≠ c → (((w5.setCell ⟨c, 0, none⟩ (.int .i64 (most : Int))).setCell ⟨c, 1, none⟩ v').alloc o).heap[k]? = w5.heap[k]? := fun k h1 h2 =>
    (Below.heap_alloc _ _ _ (by simpa using h1)).trans ((Below.heap_setCell _ _ _ k (by simpa using h2)).trans (Below.heap_setCell _ _ _ k (by simpa using h2)))
  have hlt := hb.qu.lt
  have hcb := h.cb
  refine ⟨⟨⟨hb.qu.keep (hk b hlt.1 (fun e => hcb e.symm)) (hk g' hlt.2 (fun e => hcg e.symm)), hb.ow.heap fun j hj => hk j (hb.ow.inside j hj) (hb.ow.not_box hbox5 j hj), hb.off⟩, ?_, hcb, hcg, h.bge, ?_, h.cge⟩, ?_⟩
  · rw [Below.heap_alloc _ _ _ (by simp; omega), b2]; simp
  · have := h.gge; have := h.bge; rcases hg with e | e | e <;> omega
  · have z := ho.below (B := w0.heap.size) h.bge h.gge hw
    exact ((z.setCell (p := ⟨c, 0, none⟩) h.cge _).setCell (p := ⟨c, 1, none⟩) h.cge _).alloc (by simp; omega) o

end Go.Proofs.Ytomfhbngpikjeaa

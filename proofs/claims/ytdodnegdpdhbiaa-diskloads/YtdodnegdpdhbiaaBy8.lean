/- All bytes of an area; what an operation can come to. -/
import Derived.Test.YtdodnegdpdhbiaaBn8
namespace Go.Proofs.Ytdodnegdpdhbiaa
open Go.RowKit


/-- An operation is refused for want of power; or refused by the area; or done. -/
theorem opS_cases (am : Bool) (x : Pt) (kd : Nat) (A : Int) (zs : List Nat) :
    (down am x = true ∧ (opS am x kd A zs).1 = 80 ∧ (opS am x kd A zs).2 = x) ∨ (down am x = false ∧ (opS am x kd A zs).1 = 70 ∧ (opS am x kd A zs).2 = x) ∨
      (down am x = false ∧ (opS am x kd A zs).1 = 0 ∧ (opS am x kd A zs).2.c = x.c + 1 ∧ (opS am x kd A zs).2.fd = x.fd ∧ (opS am x kd A zs).2.fk = x.fk ∧ (opS am x kd A zs).2.ft = x.ft) := by
  unfold opS
  by_cases h : down am x = true
  · rw [if_pos h]; exact .inl ⟨h, rfl, rfl⟩
  · rw [if_neg h]
    have h' : down am x = false := by simpa using h
    unfold opX
    split
    · exact .inr (.inr ⟨h', rfl, rfl, rfl, rfl, rfl⟩)
    · split
      · exact .inr (.inr ⟨h', rfl, rfl, rfl, rfl, rfl⟩)
      · split
        · split
          · exact .inr (.inl ⟨h', rfl, rfl⟩)
          · exact .inr (.inr ⟨h', rfl, rfl, rfl, rfl, rfl⟩)
        · split
          · exact .inr (.inl ⟨h', rfl, rfl⟩)
          · exact .inr (.inr ⟨h', rfl, rfl, rfl, rfl, rfl⟩)
/-- A call that is an operation of the area 0. -/
theorem calS_op (am : Bool) (n : Nat) (s : Nat → Pt) (x : Cal) (hk : 0 ≤ x.k ∧ x.k ≤ 3) (hi : x.i = 0) (hn : 0 < n) : calS am n s x = (ans0 (opS am (s 0) x.k.toNat x.a x.p.p).1, am, upd s 0 (opS am (s 0) x.k.toNat x.a x.p.p).2) := by
  unfold calS
  rw [if_pos hk, if_pos (by unfold inD; rw [hi]; simp; omega), hi]
  rfl
theorem CalOk.zero {w : World} {x : Cal} (h : CalOk w x) : CalOk w { x with i := 0 } := ⟨h.k, by simp, h.a, h.b, h.p, h.f⟩

theorem owb_empty (w : World) : OwB (w.alloc (.cells #[] 5)) w.heap.size (.slice (some ⟨w.heap.size, 0, none⟩) 0 0) [] := OwnS.of_row (own_empty w)
/-- A write to a block that is older than the disk. -/
theorem Nd.poke {w0 w : World} {p : Nat} {am : Bool} {n : Nat} {s : Nat → Pt} {b : Nat} {C : Array Value} {t : TypeId} (h : Nd w0 w p am n s) (hC : w0.heap[b]? = some (.cells C t (0, 0))) (hb : b < w0.heap.size) (o : Nat) (u : Value) : Nd (w0.setCell ⟨b, o, none⟩ u) (w.setCell ⟨b, o, none⟩ u) p am n s := by
  obtain ⟨F, h1, h2⟩ := h.ex
  have hs := h.bel.size
  refine ⟨⟨F, h1.chg (G := fun j => j = b) ((Chg.refl _ w).setCell _ _ (fun _ => rfl)) (fun j hj e => by have := h2 j hj; omega), fun j hj => by simpa using h2 j hj⟩, ⟨h.bel.os, h.bel.tape, h.bel.output, by simpa using hs, fun j hj => ?_⟩⟩
  have hj' : j < w0.heap.size := by simpa using hj
  by_cases e : j = b
  · subst e
    rw [heap_setCell_same w0 j o _ _ u hC, heap_setCell_same w j o _ _ u ((h.bel.block j hj').trans hC)]
  · rw [Below.heap_setCell _ _ _ _ e, Below.heap_setCell _ _ _ _ e]
    exact h.bel.block j hj'

end Go.Proofs.Ytdodnegdpdhbiaa

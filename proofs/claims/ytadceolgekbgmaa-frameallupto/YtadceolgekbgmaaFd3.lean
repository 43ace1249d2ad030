/- What a law on All holds beside its loops. -/
import Derived.Test.YtadceolgekbgmaaFd2
namespace Go.Proofs.Ytadceolgekbgmaa
open Go.RowKit Go.Shelf

theorem ownB_own {β : Type} (base : Nat) (v : Value) (zs : List Nat) : Own (fun (_ : β) W => OwnB W base v zs) := fun _ _ _ _ hs hg hr =>
  hs.heap' fun j hj => by
    rcases hs.2 with ⟨e, _⟩ | ⟨g, cap, cur, e, _, hh, _⟩
    · rw [e] at hj; cases hj
    · rw [e] at hj; cases hj; exact grownBy_keeps_cells hg hr hh rfl
/-- A block ahead of B that is no row stays. -/
theorem ownFrom_block {β : Type} {B D : Nat} {o : Obj} (hD : D < B) : OwnFrom B (fun (_ : β) W => W.heap[D]? = some o) := fun _ _ _ _ hs hg hr =>
  (hg.block D (Array.getElem?_eq_some_iff.1 hs).1 (fun e => by have := (hr D e.symm).1; omega)).trans hs

/-- The number so far, how many are to come, the answer so far, the document's list, the iterator's row. -/
structure StA (w : World) (nB bw Bq : Nat) (vd v6 : Value) (b2 b5 : Nat) (xs : List Hand) (zs : List Nat) (lv : Int) (m : Nat) (W : World) : Prop where
  n : Boxed W nB 3 (.int .i64 ((m : Nat) : Int))
  l : Boxed W w.heap.size 3 (.int .i64 lv)
  r : Boxed W (w.heap.size + 1) 4 (.bool false)
  d : Boxed W bw 37 vd
  doc : DocF W b2 vd xs
  q : Boxed W Bq 22 v6
  own : OwnB W b5 v6 zs
  bel : Below w.heap.size w W

section
variable {w : World} {nB bw Bq b2 b5 : Nat} {vd v6 : Value} {xs : List Hand} {zs : List Nat} {lv : Int}

theorem StA.grown {m : Nat} {W W' : World} {r : Option Nat} (h : StA w nB bw Bq vd v6 b2 b5 xs zs lv m W) (hg : W.grownBy W' r) (hr : ∀ j, r = some j → w.heap.size ≤ j ∧ ∃ o : Obj, W.heap[j]? = some o ∧ o.isCells = false) : StA w nB bw Bq vd v6 b2 b5 xs zs lv m W' := by
  have hr2 : ∀ j, r = some j → ∃ o : Obj, W.heap[j]? = some o ∧ o.isCells = false := fun j e => (hr j e).2
  have bx : ∀ {B : Nat} {t : TypeId} {u : Value}, Boxed W B t u → Boxed W' B t u := fun {B t u} hb => boxed_own (β := Unit) B t (fun _ => u) () W W' r hb hg hr2
  exact ⟨bx h.n, bx h.l, bx h.r, bx h.d, docF_own (β := Unit) _ _ _ () W W' r h.doc hg hr2, bx h.q, ownB_own (β := Unit) _ _ _ () W W' r h.own hg hr2, h.bel.grown hg h.bel.size (fun j e => (hr j e).1)⟩
theorem StA.from {β : Type} {B : Nat} (f : β → Nat) (hB : w.heap.size ≤ B) : OwnFrom B (fun (s : β) W => StA w nB bw Bq vd v6 b2 b5 xs zs lv (f s) W) := fun _ _ _ _ hs hg hr =>
  hs.grown hg fun j e => ⟨Nat.le_trans hB (hr j e).1, (hr j e).2⟩
/-- What lies apart from the number's box. -/
structure ApA (w : World) (nB bw Bq : Nat) (v6 : Value) : Prop where
  l : nB ≠ w.heap.size
  r : nB ≠ w.heap.size + 1
  d : nB ≠ bw
  q : nB ≠ Bq
  own : ∀ j, v6.ownBlock = some j → nB ≠ j
  ge : w.heap.size ≤ nB
theorem StA.set {m : Nat} {W : World} (h : StA w nB bw Bq vd v6 b2 b5 xs zs lv m W) (a : ApA w nB bw Bq v6) (m' : Nat) : StA w nB bw Bq vd v6 b2 b5 xs zs lv m' (W.setCell ⟨nB, 0, none⟩ (.int .i64 (m' : Int))) :=
  ⟨h.n.set _, h.l.other a.l.symm _, h.r.other a.r.symm _, h.d.other a.d.symm _, h.doc.box h.n (by decide), h.q.other a.q.symm _,
    h.own.heap' fun j hj => Below.heap_setCell _ _ _ _ (by simpa using (a.own j hj).symm), h.bel.setCell (p := ⟨nB, 0, none⟩) a.ge _⟩
theorem ApA.kp (a : ApA w nB bw Bq v6) (W : World) (u : Value) : KpF Bq v6 W (W.setCell ⟨nB, 0, none⟩ u) :=
  ⟨by simp, Below.heap_setCell _ _ _ _ (by simpa using a.q.symm), fun j hj => Below.heap_setCell _ _ _ _ (by simpa using (a.own j hj).symm)⟩
end

end Go.Proofs.Ytadceolgekbgmaa

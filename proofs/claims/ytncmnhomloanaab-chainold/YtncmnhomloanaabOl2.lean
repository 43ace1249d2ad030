/- A chain that went on, walked once more: what the law on old walks keeps then. -/
import Derived.Test.YtncmnhomloanaabOl1
import Derived.Test.YtncmnhomloanaabRq1
namespace Go.Proofs.Ytncmnhomloanaab
open Go.RowKit Go.Shelf

/-- What stands in memory while the law walks once more. -/
structure Ne (w W : World) (E br ba bn : Nat) (vb : Value) (Y : List Lk) (k : Nat) : Prop where
  cR : Boxed W br 4 (.bool false)
  cA : Boxed W ba 3 (.int .i64 (k : Int))
  cN : Boxed W bn 25 vb
  ob : OwnS W E 32 3 vb Y.length (celL Y.reverse)
  bel : Below w.heap.size w W
section
variable {w W W' : World} {E br ba bn k : Nat} {vb : Value} {Y : List Lk}
theorem Ne.grown (s : Ne w W E br ba bn vb Y k) {r : Option Nat} (hg : W.grownBy W' r) (hr : ∀ j, r = some j → w.heap.size ≤ j ∧ ∃ o : Obj, W.heap[j]? = some o ∧ o.isCells = false) : Ne w W' E br ba bn vb Y k := by
  have ne : ∀ {j cur t}, W.heap[j]? = some (.cells cur t (0, 0)) → some j ≠ r := fun {j cur t} hj e => by
    obtain ⟨_, o, h1, h2⟩ := hr j e.symm
    rw [hj] at h1; cases h1; cases h2
  refine ⟨s.cR.kept hg (ne s.cR), s.cA.kept hg (ne s.cA), s.cN.kept hg (ne s.cN), OwnS.keep s.ob fun j hj => ?_, s.bel.grown hg s.bel.size fun j e => (hr j e).1⟩
  obtain ⟨cur, h2⟩ := OwnS.type s.ob hj
  exact hg.block j (OwnS.inside s.ob j hj).2 (ne h2)
theorem Ne.from {B : Nat} (hB : w.heap.size ≤ B) : OwnFrom B (fun (pre : List Lk) W => Ne w W E br ba bn vb Y pre.length) := fun _ _ _ _ s hg hr => s.grown hg fun j e => ⟨Nat.le_trans hB (hr j e).1, (hr j e).2⟩
theorem Ne.tick (s : Ne w W E br ba bn vb Y k) (h1 : br ≠ ba) (h2 : bn ≠ ba) (h3 : ba < E) (h4 : w.heap.size ≤ ba) (k' : Nat) : Ne w (W.setCell ⟨ba, 0, none⟩ (.int .i64 (k' : Int))) E br ba bn vb Y k' :=
  ⟨s.cR.other h1 _, s.cA.set _, s.cN.other h2 _, OwnS.keep s.ob fun j hj => Below.heap_setCell _ _ _ _ fun e => by
    have h5 := (OwnS.inside s.ob j hj).1
    have e2 : j = ba := e
    omega, s.bel.setCell (p := ⟨ba, 0, none⟩) h4 _⟩
/-- What the second walk wants of a round. -/
theorem kept2 {a2 : Option Addr} (hb : Below W.heap.size W W') (hne : ∀ o, a2 ≠ some ⟨ba, o, none⟩) (u : Value) : KpL a2 Y W (W'.setCell ⟨ba, 0, none⟩ u) :=
  ⟨by simpa using hb.size, fun r => (r.below hb).keep fun g o e => Below.heap_setCell _ _ _ _ fun e2 => hne o (by rw [e]; exact congrArg some (by exact congrArg (fun z => (⟨z, o, none⟩ : Addr)) e2))⟩
theorem from2 {B : Nat} (hb : Below W.heap.size W W') (u : Value) : KeepsFrom B W (W'.setCell ⟨ba, 0, none⟩ u) :=
  KeepsFrom.trans ⟨hb.size, fun j _o _ hk _ => (hb.block j (Array.getElem?_eq_some_iff.1 hk).1).trans hk⟩ ((KeepsOthers.setCell W' _ u).from B)
theorem block2 {D : Nat} {o : Obj} (hb : Below W.heap.size W W') (h : W.heap[D]? = some o) (ho : o.isCells = false) (u : Value) : (W'.setCell ⟨ba, 0, none⟩ u).heap[D]? = some o :=
  (KeepsOthers.setCell W' ⟨ba, 0, none⟩ u).same D _ ((hb.block D (Array.getElem?_eq_some_iff.1 h).1).trans h) ho
theorem ownFrom_block {β : Type} {B D : Nat} {o : Obj} (hD : D < B) : OwnFrom B (fun (_ : β) W => W.heap[D]? = some o) := fun _ _ _ _ hs hg hr =>
  (hg.block D (Array.getElem?_eq_some_iff.1 hs).1 (fun e => by have := (hr D e.symm).1; omega)).trans hs
end

end Go.Proofs.Ytncmnhomloanaab

/- What a round of a walk over a queue must leave as it is. -/
import Derived.RangeFuncNested
import Derived.RangeFuncBound
import Derived.RangeFuncCalls
import Derived.RangeFuncLeaves
import Derived.RangeFuncBox
import Derived.Shelf.Abstract
import Derived.Shelf.RegionOpen
import Derived.WalkKit
import Derived.OwnWalkIn
import Derived.TacticsInMore
import Derived.LoopNIn
import Derived.LoopIn
import Derived.Maps.AppendAt
import Derived.Test.YtomfhbngpikjeaaQu1
namespace Go.Proofs.Ytomfhbngpikjeaa
open Go.RowKit Go.Shelf

/-- The block in which the slice lies that is in a place. -/
def ownAt (W : World) (p : Addr) : Option Nat := (W.cell? p).bind Value.ownBlock

/-- Rows from D on lie as they lay, but that of the slice in place p; and that one is the same or new. -/
structure KeepS (D : Nat) (p : Addr) (W W' : World) : Prop where
  size : W.heap.size ≤ W'.heap.size
  kept : ∀ k cs t fr, D ≤ k → W.heap[k]? = some (.cells cs t fr) → ownAt W p ≠ some k → W'.heap[k]? = some (.cells cs t fr)
  fresh : ∀ k, ownAt W' p = some k → ownAt W p = some k ∨ W.heap.size ≤ k

theorem KeepS.refl (D : Nat) (p : Addr) (W : World) : KeepS D p W W := ⟨Nat.le_refl _, fun _ _ _ _ _ h _ => h, fun _ h => .inl h⟩
theorem keepS_t {D : Nat} {p : Addr} {A B C : World} (h : KeepS D p A B) (k : KeepS D p B C) : KeepS D p A C := by
  refine ⟨Nat.le_trans h.size k.size, fun i cs t fr hD hi ho => ?_, fun i hi => ?_⟩
  · refine k.kept i cs t fr hD (h.kept i cs t fr hD hi ho) (fun e => ?_)
    rcases h.fresh i e with e2 | e2
    · exact ho e2
    · have := (Array.getElem?_eq_some_iff.1 hi).1; omega
  · rcases k.fresh i hi with e | e
    · exact h.fresh i e
    · exact .inr (Nat.le_trans h.size e)
theorem ownAt_block {W W' : World} {p : Addr} (h : W'.heap[p.block]? = W.heap[p.block]?) : ownAt W' p = ownAt W p := by
  unfold ownAt
  rw [World.cell?_of_block (w := W) h]
theorem keepS_b {D : Nat} {p : Addr} {w : World} (hp : p.block < w.heap.size) (W : World) (l : Nat) (o o' : Obj) (hl : w.heap.size ≤ l) (h : W.heap[l]? = some o) (hc : o.isCells = false) (_ : o.isWalk = false) : KeepS D p W (W.putObj l o') := by
  refine ⟨by simp, fun k cs t fr _ hk _ => ?_, fun k hk => ?_⟩
  · rw [World.putObj_heap_other (fun e => ?_)]
    · exact hk
    · subst e
      rw [hk] at h
      cases h
      cases hc
  · rw [ownAt_block (W := W)] at hk
    · exact .inl hk
    · exact World.putObj_heap_other (by omega)
/-- What changes none of the blocks that lay. -/
theorem KeepS.of_below {D : Nat} {p : Addr} {W W' : World} (h : Below W.heap.size W W') (hp : p.block < W.heap.size) : KeepS D p W W' :=
  ⟨h.size, fun k _ _ _ _ hk _ => (h.block k (Array.getElem?_eq_some_iff.1 hk).1).trans hk, fun k hk => .inl (by rwa [ownAt_block (h.block _ hp)] at hk)⟩

/-- A slice in a box that grew. -/
theorem keepS_appended {D B : Nat} {W w1 : World} {tmp : Obj} {v v' : Value} {t : TypeId} (hD : B < D) (hv : Boxed W B t v) (hv2 : Boxed (w1.setCell ⟨B, 0, none⟩ v') B t v') (hg : (W.alloc tmp).grownBy w1 v.ownBlock)
    (hat : v'.ownBlock = v.ownBlock ∨ v'.ownBlock = some (W.alloc tmp).heap.size) : KeepS D ⟨B, 0, none⟩ W (w1.setCell ⟨B, 0, none⟩ v') := by
  have o1 : ownAt W ⟨B, 0, none⟩ = v.ownBlock := by unfold ownAt; rw [hv.cell]; rfl
  have o2 : ownAt (w1.setCell ⟨B, 0, none⟩ v') ⟨B, 0, none⟩ = v'.ownBlock := by unfold ownAt; rw [hv2.cell]; rfl
  have hs := hg.size
  rw [World.size_alloc] at hs hat
  refine ⟨by simp; omega, fun k cs u fr hk hc ho => ?_, fun k hk => ?_⟩
  · rw [o1] at ho
    have hlt := (Array.getElem?_eq_some_iff.1 hc).1
    rw [Below.heap_setCell _ _ _ _ (by simp; omega), hg.block k (by rw [World.size_alloc]; omega) (fun e => ho e.symm), Below.heap_alloc _ _ _ hlt]
    exact hc
  · rw [o2] at hk
    rw [o1]
    rcases hat with e | e
    · exact .inl (by rw [← e]; exact hk)
    · rw [hk] at e
      have := Option.some.inj e
      exact .inr (by omega)

theorem box_appended {W w1 : World} {n₀ B B2 : Nat} {t e : TypeId} {u v v' : Value} {k : Nat} {ys : List Value} {tmp : Obj} (hb : Boxed W B t u) (hte : t ≠ e) (hne : B ≠ B2) (hrow : W.ownsRow n₀ e 1 v k ys) (hg : (W.alloc tmp).grownBy w1 v.ownBlock) :
    Boxed (w1.setCell ⟨B2, 0, none⟩ v') B t u :=
  ((hb.alloc tmp).kept hg (hb.not_row hte hrow)).kept (grownBy_setCell' _ _ _) (by simpa using hne)

/-- What has come when k rounds are over. -/
def upTo {α : Type} (f : Nat → α) (k : Nat) : List α := (List.range k).map f
theorem upTo_succ {α : Type} (f : Nat → α) (k : Nat) : upTo f (k + 1) = upTo f k ++ [f k] := by simp [upTo, List.range_succ]
theorem upTo_length {α : Type} (f : Nat → α) (k : Nat) : (upTo f k).length = k := by simp [upTo]
theorem upTo_prefix {α : Type} (f : Nat → α) {k n : Nat} (h : k ≤ n) : upTo f k <+: upTo f n := by
  obtain ⟨m, rfl⟩ : ∃ m, n = k + m := ⟨n - k, by omega⟩
  refine ⟨(List.range m).map (fun i => f (k + i)), ?_⟩
  simp [upTo, List.range_add, Function.comp_def]

end Go.Proofs.Ytomfhbngpikjeaa

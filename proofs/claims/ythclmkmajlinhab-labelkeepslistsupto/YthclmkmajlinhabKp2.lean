/- What the law spoils: a list of ints of the call's own is written over and grows: nothing else turns. -/
import Derived.Test.YthclmkmajlinhabCov4
import Derived.Test.YthclmkmajlinhabRm1
namespace Go.Proofs.Ythclmkmajlinhab
open Go.RowKit

theorem grown_mix {w wr w' : World} {r r' : Option Nat} (h : w.grownBy wr r) (hg : wr.grownBy w' r') (hr : r' = r ∨ ∃ j, r' = some j ∧ w.heap.size ≤ j) : w.grownBy w' r :=
  ⟨hg.os.trans h.os, hg.tape.trans h.tape, hg.output.trans h.output, Nat.le_trans h.size hg.size, fun k hk hne => (hg.block k (Nat.lt_of_lt_of_le hk h.size) (fun e => by
    rcases hr with e2 | ⟨j, e2, hj⟩
    · exact hne (e.trans e2)
    · rw [e2] at e; cases e; omega)).trans (h.block k hk hne)⟩

theorem owns_put {w : World} {base e g n c : Nat} {xs : List Value} (h : w.ownsRow base e 1 (.slice (some ⟨g, 0, none⟩) n c) n xs) (i : Nat) (u : Value) : (w.setCell ⟨g, i, none⟩ u).ownsRow base e 1 (.slice (some ⟨g, 0, none⟩) n c) n (xs.set i u) := by
  refine ⟨by rw [List.length_set]; exact h.1, ?_⟩
  rcases h.2 with ⟨h2, _⟩ | ⟨g', cap', cur, e', h3, hh, h4, h5, h6, h7⟩
  · cases h2
  · cases e'
    refine .inr ⟨g, c, _, rfl, h3, heap_setCell_same w g i _ _ _ hh, h4, h5, by simpa using h6, ?_⟩
    rw [Array.toList_setIfInBounds, List.take_set, h7]
theorem owns_blk {w : World} {base e n c : Nat} {a : Option Addr} {xs : List Value} (h : w.ownsRow base e 1 (.slice a n c) n xs) (h0 : 0 < n) : ∃ g cur, a = some ⟨g, 0, none⟩ ∧ base ≤ g ∧ w.heap[g]? = some (.cells cur e (0, 0)) ∧ n ≤ cur.size := by
  rcases h.2 with ⟨_, h2⟩ | ⟨g', cap', cur, e', h3, hh, h4, h5, h6, h7⟩
  · omega
  · cases e'
    exact ⟨g', cur, rfl, h3, hh, by simp at h6; omega⟩


end Go.Proofs.Ythclmkmajlinhab

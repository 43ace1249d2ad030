/- One call of both queues, the program's and the document's: what goes in, what is known behind it. -/
import Derived.Test.YtomfhbngpikjeaaQu6S
import Derived.Test.YtomfhbngpikjeaaQu8S
import Derived.Test.YtomfhbngpikjeaaQuEqS
import Derived.Test.YtomfhbngpikjeaaQuRef
namespace Go.Proofs.Ytomfhbngpikjeaa
open Go.RowKit

/-- What the document's queue holds behind a call. -/
def nxt (most : Nat) (xs : List ByteArray) (k : Int) (s : ByteArray) : List ByteArray :=
  if k = 0 then (if xs.length < most then xs ++ [s] else xs) else if k = 1 then xs.tail else if k = 5 then [] else xs

/-- Both queues hold xs; the document's list lies apart from the program's blocks. -/
structure Both (w : World) (b g most base : Nat) (v : Value) (xs : List ByteArray) : Prop where
  qu : QuS w b g most xs
  ow : OwS w base v xs
  off : ∀ j, v.ownBlock = some j → j ≠ b ∧ j ≠ g

theorem Both.below {w w' : World} {b g most base : Nat} {v : Value} {xs : List ByteArray} (h : Both w b g most base v xs) (hb : Below w.heap.size w w') : Both w' b g most base v xs :=
  ⟨h.qu.below hb, h.ow.below hb, h.off⟩
theorem Both.shape {w : World} {b g most base : Nat} {v : Value} {xs : List ByteArray} (h : Both w b g most base v xs) : ∃ a cap, v = .slice a xs.length cap ∧ RwS w a xs ∧ xs.length ≤ cap ∧ (a = none → xs.length = 0 ∧ cap = 0) := h.ow.row

/-- The three blocks that a call of does makes first. -/
structure Pre (w W : World) (most : Nat) (v : Value) (k : Int) (s : ByteArray) : Prop where
  size : W.heap.size = w.heap.size + 1 + 1 + 1
  below : Below w.heap.size w W
  want : W.heap[w.heap.size]? = some (.cells #[.int .i64 (most : Int), v] 24 (0, 0))
  step : W.heap[w.heap.size + 1]? = some (.cells #[.int .i64 k, .string s] 38 (0, 0))
  res : W.heap[w.heap.size + 1 + 1]? = some (.cells #[.int .i64 0, .slice none 0 0] 24 (0, 0))
theorem pre_made (w : World) (most : Nat) (v : Value) (k : Int) (s : ByteArray) :
    Pre w (((w.alloc (.cells #[.int .i64 (most : Int), v] 24)).alloc (.cells #[.int .i64 k, .string s] 38)).alloc (.cells #[.int .i64 0, .slice none 0 0] 24)) most v k s := by
  refine ⟨by simp, (((Below.refl _ _).alloc (Nat.le_refl _) _).alloc (by simp) _).alloc (by simp; omega) _, ?_, ?_, ?_⟩
  · rw [Below.heap_alloc _ _ _ (by simp; omega), Below.heap_alloc _ _ _ (by simp)]
    exact heap_alloc_new w _
  · rw [Below.heap_alloc _ _ _ (by simp)]
    have := heap_alloc_new (w.alloc (.cells #[.int .i64 (most : Int), v] 24)) (.cells #[.int .i64 k, .string s] 38)
    simpa using this
  · have := heap_alloc_new ((w.alloc (.cells #[.int .i64 (most : Int), v] 24)).alloc (.cells #[.int .i64 k, .string s] 38)) (.cells #[.int .i64 0, .slice none 0 0] 24)
    simpa using this

/-- What does answers when all is well. -/
def Did (w w' : World) (b g most base : Nat) (v : Value) (xs : List ByteArray) (e : Ending) : Prop :=
  ∃ v' g', e = .returned (.tuple #[.bool true, .agg #[.int .i64 (most : Int), v']]) ∧ (g' = g ∨ g' = b ∨ w.heap.size ≤ g') ∧ Both w' b g' most base v' xs ∧ Only b g w w' ∧ ∀ j, v'.ownBlock = some j → v' = v ∨ w.heap.size ≤ j

end Go.Proofs.Ytomfhbngpikjeaa

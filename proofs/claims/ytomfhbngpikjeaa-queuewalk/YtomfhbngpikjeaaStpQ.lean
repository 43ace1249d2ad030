/- A list of calls of queues in memory. -/
import Derived.Test.YtomfhbngpikjeaaRows
import Derived.Below
import Derived.WalkKit
namespace Go.Proofs.Ytomfhbngpikjeaa
open Go.RowKit

/-- A call: which, with which text. -/
structure Sp where
  k : Int
  s : ByteArray
/-- A row of them. -/
def RowT (w : World) (a : Option Addr) (n : Nat) (A : Nat → Sp) : Prop :=
  n = 0 ∨ ∃ b o, a = some ⟨b, o, none⟩ ∧ b < w.heap.size ∧ ∀ i, i < n → w.cell? ⟨b, o + i * 2, none⟩ = some (.int .i64 (A i).k) ∧ w.cell? ⟨b, o + i * 2 + 1, none⟩ = some (.string (A i).s)
theorem RowT.here {w : World} {a : Option Addr} {n : Nat} {A : Nat → Sp} (h : RowT w a n A) {i : Nat} (hi : i < n) :
    ∃ b o, a = some ⟨b, o, none⟩ ∧ b < w.heap.size ∧ w.cell? ⟨b, o + i * 2, none⟩ = some (.int .i64 (A i).k) ∧ w.cell? ⟨b, o + i * 2 + 1, none⟩ = some (.string (A i).s) := by
  rcases h with h | ⟨b, o, e, hlt, hc⟩
  · omega
  · exact ⟨b, o, e, hlt, hc i hi⟩
structure CameT (w : World) (a : Option Addr) (n : Nat) (A : Nat → Sp) : Prop where
  row : RowT w a n A
  size : 24 * n ≤ 140737488355328
end Go.Proofs.Ytomfhbngpikjeaa

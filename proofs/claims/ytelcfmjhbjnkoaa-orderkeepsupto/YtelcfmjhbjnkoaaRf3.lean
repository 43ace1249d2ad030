/- The document's answers: two items compared, by their kinds. -/
import Derived.Test.YtelcfmjhbjnkoaaRf2
import Derived.Test.YtelcfmjhbjnkoaaAl1
namespace Go.Proofs.Ytelcfmjhbjnkoaa
open Go.RowKit

/-- The world with two of the document's items in boxes. -/
abbrev twoD (w : World) (x y : It) : World := (w.alloc (.cells #[.int .i64 x.k, .bool x.b, .int .i64 x.n, .int .u64 (x.f : Int), .int .u64 (x.r : Int), .int .u64 (x.i : Int), .string x.t] 57)).alloc (.cells #[.int .i64 y.k, .bool y.b, .int .i64 y.n, .int .u64 (y.f : Int), .int .u64 (y.r : Int), .int .u64 (y.i : Int), .string y.t] 57)
theorem DocB.new (w : World) (x : It) : DocB (w.alloc (.cells #[.int .i64 x.k, .bool x.b, .int .i64 x.n, .int .u64 (x.f : Int), .int .u64 (x.r : Int), .int .u64 (x.i : Int), .string x.t] 57)) w.heap.size x := heap_alloc_new w _
theorem twoD_fst (w : World) (x y : It) : DocB (twoD w x y) w.heap.size x := (DocB.new w x).below ((Below.refl _ _).alloc (Nat.le_refl _) _) (by simp)
theorem twoD_snd (w : World) (x y : It) : DocB (twoD w x y) (w.heap.size + 1) y := heap_alloc2_new w _ _
theorem twoD_below (w : World) (x y : It) : Below w.heap.size w (twoD w x y) := ((Below.refl _ _).alloc (Nat.le_refl _) _).alloc (by simp) _


end Go.Proofs.Ytelcfmjhbjnkoaa

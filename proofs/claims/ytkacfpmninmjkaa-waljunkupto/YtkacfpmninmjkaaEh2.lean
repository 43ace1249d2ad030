/- The document's Check of every entry; its short form. -/
import Derived.Test.YtkacfpmninmjkaaEhC
namespace Go.Proofs.Ytkacfpmninmjkaa
open Go.RowKit

theorem rcheck_any (x : En) (a : Option Addr) (cp : Nat) (w : World) :
    Calls Try.prog 18 #[valE x a cp] w fun e w' => e = .returned (.int .i64 ((chkE x : Nat) : Int)) ∧ Below w.heap.size w w' := by
  obtain ⟨kind, stamp, count, key, val, dead⟩ := x
  rcases kind_cases kind with rfl | rfl | rfl | rfl | rfl | rfl | h
  · exact rcheck_1 stamp count key val dead a cp w
  · exact rcheck_2 stamp count key val dead a cp w
  · exact rcheck_3 stamp count key val dead a cp w
  · exact rcheck_4 stamp count key val dead a cp w
  · exact rcheck_5 stamp count key val dead a cp w
  · exact rcheck_6 stamp count key val dead a cp w
  · exact rcheck_0 kind stamp count key val dead a cp w h























































end Go.Proofs.Ytkacfpmninmjkaa

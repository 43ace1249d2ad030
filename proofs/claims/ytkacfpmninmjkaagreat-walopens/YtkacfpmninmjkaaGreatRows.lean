/-
  No cell of these rows narrows 'for every input' (looked for: loops, veiled, ifaces, maps, wideKeys, modest, calm, conditions, laid).
  DERIVED. THE GIVEN ROWS OF THIS SEAT. 5 by the template 'for every input the law returns true; each argument reads behind the call as it read before'; 0 by the template 'total and deterministic' (their statements: YtkacfpmninmjkaaGreatTotals.lean).
  GIVEN WITH THE SEED: the statements are not yours to turn. If you find one false, say at which input.
  Laid BY PROGRAM, IN A SANDBOX (cutbox-rows.mjs): the forced cells as the released guide's own fill.sh prints them over the translation 1a9c7b73f7bf0702… (all of the seat's roots in one cut). By AI agents, Wed Nov 11 2026. No macro, syntax, notation, axiom, sorry.
-/
import Derived.Test.YtkacfpmninmjkaaGreatChecked
import GoSem.Claim
import GoSem.ClaimJoined
import GoSem.ClaimMapViews
import Derived.JoinedTies
import Derived.KernelRfl
namespace Go.Proofs.YtkacfpmninmjkaaGreat
/- THE CELL 'sum', in the pinned program and in every row, IS THE sha256 OF THE DUMP (.gsa) THAT YtkacfpmninmjkaaGreatProg.lean LOADS. Nothing in Lean hashes anything: it is a label: what it is worth is what the hold of that sum in a sandbox is worth. -/
noncomputable def Tryz.pinned : Pinned := { name := "ytkacfpmninmjkaagreat", sum := "1a9c7b73f7bf0702a717ee11e61ae9f2940fe59d08976c225a21aa6d23c6bfe0", checked := Tryz.checked }
namespace Rows
def none {H : Type} : Left H := { results := [], args := [] }

/-- 'cloisterlaw11.WalDoes': WHATEVER THE INPUT: true; the input reads as it did. -/
def walDoesSpec : ChangeSpec := { name := "walDoes", fn := fun _ => fun
  | [d1, d2] => { results := [.lit (.bool true)], args := [d1, d2] }
  | _ => none }
def walDoesRow : OpenClaim := { program := "ytkacfpmninmjkaagreat", sum := "1a9c7b73f7bf0702a717ee11e61ae9f2940fe59d08976c225a21aa6d23c6bfe0", func := "cloister/cloisterlaw11.WalDoes", spec := "walDoes", unfollowed := true, recurses := true, apart := false }
def WalDoesSaid : Prop := walDoesRow.holds Tryz.pinned (OpenSpec.ofChange walDoesSpec)

/-- ITS FALSE NEIGHBOUR: 'it returns false'. Refute it at one input. -/
def walDoesWrong : ChangeSpec := { name := "walDoes", fn := fun _ => fun
  | [d1, d2] => { results := [.lit (.bool false)], args := [d1, d2] }
  | _ => none }
def WalDoesWrongFalsely : Prop := walDoesRow.holds Tryz.pinned (OpenSpec.ofChange walDoesWrong)

/-- 'cloisterlaw11.WalOpens': WHATEVER THE INPUT: true; the input reads as it did. -/
def walOpensSpec : ChangeSpec := { name := "walOpens", fn := fun _ => fun
  | [d1, d2, d3] => { results := [.lit (.bool true)], args := [d1, d2, d3] }
  | _ => none }
def walOpensRow : OpenClaim := { program := "ytkacfpmninmjkaagreat", sum := "1a9c7b73f7bf0702a717ee11e61ae9f2940fe59d08976c225a21aa6d23c6bfe0", func := "cloister/cloisterlaw11.WalOpens", spec := "walOpens", unfollowed := true, recurses := true, apart := false }
def WalOpensSaid : Prop := walOpensRow.holds Tryz.pinned (OpenSpec.ofChange walOpensSpec)

/-- ITS FALSE NEIGHBOUR: 'it returns false'. Refute it at one input. -/
def walOpensWrong : ChangeSpec := { name := "walOpens", fn := fun _ => fun
  | [d1, d2, d3] => { results := [.lit (.bool false)], args := [d1, d2, d3] }
  | _ => none }
def WalOpensWrongFalsely : Prop := walOpensRow.holds Tryz.pinned (OpenSpec.ofChange walOpensWrong)

/-- 'cloisterlaw11.WalThere': WHATEVER THE INPUT: true; the input reads as it did. -/
def walThereSpec : ChangeSpec := { name := "walThere", fn := fun _ => fun
  | [d1, d2] => { results := [.lit (.bool true)], args := [d1, d2] }
  | _ => none }
def walThereRow : OpenClaim := { program := "ytkacfpmninmjkaagreat", sum := "1a9c7b73f7bf0702a717ee11e61ae9f2940fe59d08976c225a21aa6d23c6bfe0", func := "cloister/cloisterlaw11.WalThere", spec := "walThere", unfollowed := true, recurses := true, apart := false }
def WalThereSaid : Prop := walThereRow.holds Tryz.pinned (OpenSpec.ofChange walThereSpec)

/-- ITS FALSE NEIGHBOUR: 'it returns false'. Refute it at one input. -/
def walThereWrong : ChangeSpec := { name := "walThere", fn := fun _ => fun
  | [d1, d2] => { results := [.lit (.bool false)], args := [d1, d2] }
  | _ => none }
def WalThereWrongFalsely : Prop := walThereRow.holds Tryz.pinned (OpenSpec.ofChange walThereWrong)

/-- 'cloisterlaw11.WalStruck': WHATEVER THE INPUT: true; the input reads as it did. -/
def walStruckSpec : ChangeSpec := { name := "walStruck", fn := fun _ => fun
  | [d1, d2, d3, d4] => { results := [.lit (.bool true)], args := [d1, d2, d3, d4] }
  | _ => none }
def walStruckRow : OpenClaim := { program := "ytkacfpmninmjkaagreat", sum := "1a9c7b73f7bf0702a717ee11e61ae9f2940fe59d08976c225a21aa6d23c6bfe0", func := "cloister/cloisterlaw11.WalStruck", spec := "walStruck", unfollowed := true, recurses := true, apart := false }
def WalStruckSaid : Prop := walStruckRow.holds Tryz.pinned (OpenSpec.ofChange walStruckSpec)

/-- ITS FALSE NEIGHBOUR: 'it returns false'. Refute it at one input. -/
def walStruckWrong : ChangeSpec := { name := "walStruck", fn := fun _ => fun
  | [d1, d2, d3, d4] => { results := [.lit (.bool false)], args := [d1, d2, d3, d4] }
  | _ => none }
def WalStruckWrongFalsely : Prop := walStruckRow.holds Tryz.pinned (OpenSpec.ofChange walStruckWrong)

/-- 'cloisterlaw11.WalCuts': WHATEVER THE INPUT: true; the input reads as it did. -/
def walCutsSpec : ChangeSpec := { name := "walCuts", fn := fun _ => fun
  | [d1, d2, d3] => { results := [.lit (.bool true)], args := [d1, d2, d3] }
  | _ => none }
def walCutsRow : OpenClaim := { program := "ytkacfpmninmjkaagreat", sum := "1a9c7b73f7bf0702a717ee11e61ae9f2940fe59d08976c225a21aa6d23c6bfe0", func := "cloister/cloisterlaw11.WalCuts", spec := "walCuts", unfollowed := true, recurses := true, apart := false }
def WalCutsSaid : Prop := walCutsRow.holds Tryz.pinned (OpenSpec.ofChange walCutsSpec)

/-- ITS FALSE NEIGHBOUR: 'it returns false'. Refute it at one input. -/
def walCutsWrong : ChangeSpec := { name := "walCuts", fn := fun _ => fun
  | [d1, d2, d3] => { results := [.lit (.bool false)], args := [d1, d2, d3] }
  | _ => none }
def WalCutsWrongFalsely : Prop := walCutsRow.holds Tryz.pinned (OpenSpec.ofChange walCutsWrong)

/- THE SECOND FORM. 'bulk': how many values and letters a reading holds, each counted each time it is reached (what is shared counts as often as it is met; a slice's spare places count too). A statement '..UptoSaid' is the law's where the arguments, and the package variables that the reading takes, are together of bulk at most 1048576: NARROWER than '..Said'. Prove '..Said' where nothing that the law and all that it calls make is longer than what came in: it says more and counts as full. Else prove '..UptoSaid'. A law counts once. -/
mutual
def uptoBulk {H : Type} : DataW H → Nat
  | .lit (.string bytes) => bytes.length + 1
  | .lit _ => 1
  | .nil => 1
  | .ptr d => uptoBulk d + 1
  | .slice elems spare => uptoBulkAll elems + uptoBulkAll spare + 1
  | .agg parts => uptoBulkAll parts + 1
  | .iface _ d => uptoBulk d + 1
  | .map entries => uptoBulkEntries entries + 1
  | .held _ => 1
def uptoBulkAll {H : Type} : List (DataW H) → Nat
  | [] => 0
  | d :: r => uptoBulk d + uptoBulkAll r
def uptoBulkEntries {H : Type} : List (Lit × DataW H) → Nat
  | [] => 0
  | x :: r => uptoBulkEntry x + uptoBulkEntries r
def uptoBulkEntry {H : Type} : Lit × DataW H → Nat
  | (.string bytes, d) => bytes.length + uptoBulk d + 1
  | (_, d) => uptoBulk d + 1
 end
def uptoSmall : (H : Type) → List (DataW H) → Bool := fun _ ds => decide (uptoBulkAll ds ≤ 1048576)
def OpenSpec.upto (s : _root_.Go.ChangeSpec) : _root_.Go.OpenSpec := { _root_.Go.OpenSpec.ofChange s with cond := some uptoSmall }

/-- 'cloisterlaw11.WalDoes', WHERE WHAT IT READS IS OF BULK AT MOST 1048576: true; the input reads as it did. -/
def walDoesUptoRow : OpenClaim := { program := "ytkacfpmninmjkaagreat", sum := "1a9c7b73f7bf0702a717ee11e61ae9f2940fe59d08976c225a21aa6d23c6bfe0", func := "cloister/cloisterlaw11.WalDoes", spec := "walDoes", unfollowed := true, recurses := true, apart := false, narrowed := true }
def WalDoesUptoSaid : Prop := walDoesUptoRow.holds Tryz.pinned (OpenSpec.upto walDoesSpec)

/-- 'cloisterlaw11.WalOpens', WHERE WHAT IT READS IS OF BULK AT MOST 1048576: true; the input reads as it did. -/
def walOpensUptoRow : OpenClaim := { program := "ytkacfpmninmjkaagreat", sum := "1a9c7b73f7bf0702a717ee11e61ae9f2940fe59d08976c225a21aa6d23c6bfe0", func := "cloister/cloisterlaw11.WalOpens", spec := "walOpens", unfollowed := true, recurses := true, apart := false, narrowed := true }
def WalOpensUptoSaid : Prop := walOpensUptoRow.holds Tryz.pinned (OpenSpec.upto walOpensSpec)

/-- 'cloisterlaw11.WalThere', WHERE WHAT IT READS IS OF BULK AT MOST 1048576: true; the input reads as it did. -/
def walThereUptoRow : OpenClaim := { program := "ytkacfpmninmjkaagreat", sum := "1a9c7b73f7bf0702a717ee11e61ae9f2940fe59d08976c225a21aa6d23c6bfe0", func := "cloister/cloisterlaw11.WalThere", spec := "walThere", unfollowed := true, recurses := true, apart := false, narrowed := true }
def WalThereUptoSaid : Prop := walThereUptoRow.holds Tryz.pinned (OpenSpec.upto walThereSpec)

/-- 'cloisterlaw11.WalStruck', WHERE WHAT IT READS IS OF BULK AT MOST 1048576: true; the input reads as it did. -/
def walStruckUptoRow : OpenClaim := { program := "ytkacfpmninmjkaagreat", sum := "1a9c7b73f7bf0702a717ee11e61ae9f2940fe59d08976c225a21aa6d23c6bfe0", func := "cloister/cloisterlaw11.WalStruck", spec := "walStruck", unfollowed := true, recurses := true, apart := false, narrowed := true }
def WalStruckUptoSaid : Prop := walStruckUptoRow.holds Tryz.pinned (OpenSpec.upto walStruckSpec)

/-- 'cloisterlaw11.WalCuts', WHERE WHAT IT READS IS OF BULK AT MOST 1048576: true; the input reads as it did. -/
def walCutsUptoRow : OpenClaim := { program := "ytkacfpmninmjkaagreat", sum := "1a9c7b73f7bf0702a717ee11e61ae9f2940fe59d08976c225a21aa6d23c6bfe0", func := "cloister/cloisterlaw11.WalCuts", spec := "walCuts", unfollowed := true, recurses := true, apart := false, narrowed := true }
def WalCutsUptoSaid : Prop := walCutsUptoRow.holds Tryz.pinned (OpenSpec.upto walCutsSpec)

end Rows
end Go.Proofs.YtkacfpmninmjkaaGreat

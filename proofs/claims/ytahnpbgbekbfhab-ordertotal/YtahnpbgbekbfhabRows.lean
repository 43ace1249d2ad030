/-
  No cell of these rows narrows 'for every input' (looked for: loops, veiled, ifaces, maps, wideKeys, modest, calm, conditions, laid).
  DERIVED. THE GIVEN ROWS OF THIS SEAT. 6 by the template 'for every input the law returns true; each argument reads behind the call as it read before'; 0 by the template 'total and deterministic' (their statements: YtahnpbgbekbfhabTotals.lean).
  GIVEN WITH THE SEED: the statements are not yours to turn. If you find one false, say at which input.
  Laid BY PROGRAM, IN A SANDBOX (cutbox-rows.mjs): the forced cells as the released guide's own fill.sh prints them over the translation 57039d8c02d4fbae… (all of the seat's roots in one cut). By AI agents, Wed Nov 11 2026. No macro, syntax, notation, axiom, sorry.
-/
import Derived.Test.YtahnpbgbekbfhabChecked
import GoSem.Claim
import GoSem.ClaimJoined
import GoSem.ClaimMapViews
import Derived.JoinedTies
import Derived.KernelRfl
namespace Go.Proofs.Ytahnpbgbekbfhab
/- THE CELL 'sum', in the pinned program and in every row, IS THE sha256 OF THE DUMP (.gsa) THAT YtahnpbgbekbfhabProg.lean LOADS. Nothing in Lean hashes anything: it is a label: what it is worth is what the hold of that sum in a sandbox is worth. -/
noncomputable def Try.pinned : Pinned := { name := "ytahnpbgbekbfhab", sum := "57039d8c02d4fbae4a5f11c7234ddc868ca3e9e2b78b5dcd1b71e91378bfeaca", checked := Try.checked }
namespace Rows
def none {H : Type} : Left H := { results := [], args := [] }

/-- 'cloisterlaw04.OrderNexts': WHATEVER THE INPUT: true; the input reads as it did. -/
def orderNextsSpec : ChangeSpec := { name := "orderNexts", fn := fun _ => fun
  | [d] => { results := [.lit (.bool true)], args := [d] }
  | _ => none }
def orderNextsRow : OpenClaim := { program := "ytahnpbgbekbfhab", sum := "57039d8c02d4fbae4a5f11c7234ddc868ca3e9e2b78b5dcd1b71e91378bfeaca", func := "cloister/cloisterlaw04.OrderNexts", spec := "orderNexts", inPlace := ["math.Float64frombits", "math.Float64bits"], unfollowed := true, recurses := true, apart := false }
def OrderNextsSaid : Prop := orderNextsRow.holds Try.pinned (OpenSpec.ofChange orderNextsSpec)

/-- ITS FALSE NEIGHBOUR: 'it returns false'. Refute it at one input. -/
def orderNextsWrong : ChangeSpec := { name := "orderNexts", fn := fun _ => fun
  | [d] => { results := [.lit (.bool false)], args := [d] }
  | _ => none }
def OrderNextsWrongFalsely : Prop := orderNextsRow.holds Try.pinned (OpenSpec.ofChange orderNextsWrong)

/-- 'cloisterlaw04.OrderKept': WHATEVER THE INPUT: true; the input reads as it did. -/
def orderKeptSpec : ChangeSpec := { name := "orderKept", fn := fun _ => fun
  | [d1, d2] => { results := [.lit (.bool true)], args := [d1, d2] }
  | _ => none }
def orderKeptRow : OpenClaim := { program := "ytahnpbgbekbfhab", sum := "57039d8c02d4fbae4a5f11c7234ddc868ca3e9e2b78b5dcd1b71e91378bfeaca", func := "cloister/cloisterlaw04.OrderKept", spec := "orderKept", inPlace := ["math.Float64frombits", "math.Float64bits"], unfollowed := true, recurses := true, apart := false }
def OrderKeptSaid : Prop := orderKeptRow.holds Try.pinned (OpenSpec.ofChange orderKeptSpec)

/-- ITS FALSE NEIGHBOUR: 'it returns false'. Refute it at one input. -/
def orderKeptWrong : ChangeSpec := { name := "orderKept", fn := fun _ => fun
  | [d1, d2] => { results := [.lit (.bool false)], args := [d1, d2] }
  | _ => none }
def OrderKeptWrongFalsely : Prop := orderKeptRow.holds Try.pinned (OpenSpec.ofChange orderKeptWrong)

/-- 'cloisterlaw04.OrderBack': WHATEVER THE INPUT: true; the input reads as it did. -/
def orderBackSpec : ChangeSpec := { name := "orderBack", fn := fun _ => fun
  | [d1, d2] => { results := [.lit (.bool true)], args := [d1, d2] }
  | _ => none }
def orderBackRow : OpenClaim := { program := "ytahnpbgbekbfhab", sum := "57039d8c02d4fbae4a5f11c7234ddc868ca3e9e2b78b5dcd1b71e91378bfeaca", func := "cloister/cloisterlaw04.OrderBack", spec := "orderBack", inPlace := ["math.Float64frombits", "math.Float64bits"], unfollowed := true, recurses := true, apart := false }
def OrderBackSaid : Prop := orderBackRow.holds Try.pinned (OpenSpec.ofChange orderBackSpec)

/-- ITS FALSE NEIGHBOUR: 'it returns false'. Refute it at one input. -/
def orderBackWrong : ChangeSpec := { name := "orderBack", fn := fun _ => fun
  | [d1, d2] => { results := [.lit (.bool false)], args := [d1, d2] }
  | _ => none }
def OrderBackWrongFalsely : Prop := orderBackRow.holds Try.pinned (OpenSpec.ofChange orderBackWrong)

/-- 'cloisterlaw04.OrderBeginnings': WHATEVER THE INPUT: true; the input reads as it did. -/
def orderBeginningsSpec : ChangeSpec := { name := "orderBeginnings", fn := fun _ => fun
  | [d1, d2] => { results := [.lit (.bool true)], args := [d1, d2] }
  | _ => none }
def orderBeginningsRow : OpenClaim := { program := "ytahnpbgbekbfhab", sum := "57039d8c02d4fbae4a5f11c7234ddc868ca3e9e2b78b5dcd1b71e91378bfeaca", func := "cloister/cloisterlaw04.OrderBeginnings", spec := "orderBeginnings", inPlace := ["math.Float64frombits", "math.Float64bits"], unfollowed := true, recurses := true, apart := false }
def OrderBeginningsSaid : Prop := orderBeginningsRow.holds Try.pinned (OpenSpec.ofChange orderBeginningsSpec)

/-- ITS FALSE NEIGHBOUR: 'it returns false'. Refute it at one input. -/
def orderBeginningsWrong : ChangeSpec := { name := "orderBeginnings", fn := fun _ => fun
  | [d1, d2] => { results := [.lit (.bool false)], args := [d1, d2] }
  | _ => none }
def OrderBeginningsWrongFalsely : Prop := orderBeginningsRow.holds Try.pinned (OpenSpec.ofChange orderBeginningsWrong)

/-- 'cloisterlaw04.OrderNextLeast': WHATEVER THE INPUT: true; the input reads as it did. -/
def orderNextLeastSpec : ChangeSpec := { name := "orderNextLeast", fn := fun _ => fun
  | [d1, d2] => { results := [.lit (.bool true)], args := [d1, d2] }
  | _ => none }
def orderNextLeastRow : OpenClaim := { program := "ytahnpbgbekbfhab", sum := "57039d8c02d4fbae4a5f11c7234ddc868ca3e9e2b78b5dcd1b71e91378bfeaca", func := "cloister/cloisterlaw04.OrderNextLeast", spec := "orderNextLeast", inPlace := ["math.Float64frombits", "math.Float64bits"], unfollowed := true, recurses := true, apart := false }
def OrderNextLeastSaid : Prop := orderNextLeastRow.holds Try.pinned (OpenSpec.ofChange orderNextLeastSpec)

/-- ITS FALSE NEIGHBOUR: 'it returns false'. Refute it at one input. -/
def orderNextLeastWrong : ChangeSpec := { name := "orderNextLeast", fn := fun _ => fun
  | [d1, d2] => { results := [.lit (.bool false)], args := [d1, d2] }
  | _ => none }
def OrderNextLeastWrongFalsely : Prop := orderNextLeastRow.holds Try.pinned (OpenSpec.ofChange orderNextLeastWrong)

/-- 'cloisterlaw04.OrderTotal': WHATEVER THE INPUT: true; the input reads as it did. -/
def orderTotalSpec : ChangeSpec := { name := "orderTotal", fn := fun _ => fun
  | [d1, d2, d3] => { results := [.lit (.bool true)], args := [d1, d2, d3] }
  | _ => none }
def orderTotalRow : OpenClaim := { program := "ytahnpbgbekbfhab", sum := "57039d8c02d4fbae4a5f11c7234ddc868ca3e9e2b78b5dcd1b71e91378bfeaca", func := "cloister/cloisterlaw04.OrderTotal", spec := "orderTotal", inPlace := ["math.Float64frombits", "math.Float64bits"], unfollowed := true, recurses := true, apart := false }
def OrderTotalSaid : Prop := orderTotalRow.holds Try.pinned (OpenSpec.ofChange orderTotalSpec)

/-- ITS FALSE NEIGHBOUR: 'it returns false'. Refute it at one input. -/
def orderTotalWrong : ChangeSpec := { name := "orderTotal", fn := fun _ => fun
  | [d1, d2, d3] => { results := [.lit (.bool false)], args := [d1, d2, d3] }
  | _ => none }
def OrderTotalWrongFalsely : Prop := orderTotalRow.holds Try.pinned (OpenSpec.ofChange orderTotalWrong)

/- THE SECOND FORM. 'bulk': how many values and letters a reading holds, each counted each time it is reached (what is shared counts as often as it is met; a slice's spare places count too). A statement '..UptoSaid' is the law's where the arguments, and the package variables that the reading takes, are together of bulk at most 1048576: NARROWER than '..Said'. Prove '..Said' where nothing that the law and all that it calls make is longer than what came in: it says more and counts as full. Else prove '..UptoSaid'. A law counts once. -/
mutual
def uptoBulk {H : Type} : DataW H → Nat
  | .lit (.string bytes) => bytes.length + 1
  | .lit _ => 1
  | .nil => 1
  | .ptr d => uptoBulk d + 1
  | .slice elems spare => uptoBulkAll elems + uptoBulkAll spare + 1
  | .agg parts => uptoBulkAll parts + 1
  | .iface _ d => uptoBulk d + 1
  | .map entries => uptoBulkEntries entries + 1
  | .held _ => 1
def uptoBulkAll {H : Type} : List (DataW H) → Nat
  | [] => 0
  | d :: r => uptoBulk d + uptoBulkAll r
def uptoBulkEntries {H : Type} : List (Lit × DataW H) → Nat
  | [] => 0
  | x :: r => uptoBulkEntry x + uptoBulkEntries r
def uptoBulkEntry {H : Type} : Lit × DataW H → Nat
  | (.string bytes, d) => bytes.length + uptoBulk d + 1
  | (_, d) => uptoBulk d + 1
 end
def uptoSmall : (H : Type) → List (DataW H) → Bool := fun _ ds => decide (uptoBulkAll ds ≤ 1048576)
def OpenSpec.upto (s : _root_.Go.ChangeSpec) : _root_.Go.OpenSpec := { _root_.Go.OpenSpec.ofChange s with cond := some uptoSmall }

/-- 'cloisterlaw04.OrderNexts', WHERE WHAT IT READS IS OF BULK AT MOST 1048576: true; the input reads as it did. -/
def orderNextsUptoRow : OpenClaim := { program := "ytahnpbgbekbfhab", sum := "57039d8c02d4fbae4a5f11c7234ddc868ca3e9e2b78b5dcd1b71e91378bfeaca", func := "cloister/cloisterlaw04.OrderNexts", spec := "orderNexts", inPlace := ["math.Float64frombits", "math.Float64bits"], unfollowed := true, recurses := true, apart := false, narrowed := true }
def OrderNextsUptoSaid : Prop := orderNextsUptoRow.holds Try.pinned (OpenSpec.upto orderNextsSpec)

/-- 'cloisterlaw04.OrderKept', WHERE WHAT IT READS IS OF BULK AT MOST 1048576: true; the input reads as it did. -/
def orderKeptUptoRow : OpenClaim := { program := "ytahnpbgbekbfhab", sum := "57039d8c02d4fbae4a5f11c7234ddc868ca3e9e2b78b5dcd1b71e91378bfeaca", func := "cloister/cloisterlaw04.OrderKept", spec := "orderKept", inPlace := ["math.Float64frombits", "math.Float64bits"], unfollowed := true, recurses := true, apart := false, narrowed := true }
def OrderKeptUptoSaid : Prop := orderKeptUptoRow.holds Try.pinned (OpenSpec.upto orderKeptSpec)

/-- 'cloisterlaw04.OrderBack', WHERE WHAT IT READS IS OF BULK AT MOST 1048576: true; the input reads as it did. -/
def orderBackUptoRow : OpenClaim := { program := "ytahnpbgbekbfhab", sum := "57039d8c02d4fbae4a5f11c7234ddc868ca3e9e2b78b5dcd1b71e91378bfeaca", func := "cloister/cloisterlaw04.OrderBack", spec := "orderBack", inPlace := ["math.Float64frombits", "math.Float64bits"], unfollowed := true, recurses := true, apart := false, narrowed := true }
def OrderBackUptoSaid : Prop := orderBackUptoRow.holds Try.pinned (OpenSpec.upto orderBackSpec)

/-- 'cloisterlaw04.OrderBeginnings', WHERE WHAT IT READS IS OF BULK AT MOST 1048576: true; the input reads as it did. -/
def orderBeginningsUptoRow : OpenClaim := { program := "ytahnpbgbekbfhab", sum := "57039d8c02d4fbae4a5f11c7234ddc868ca3e9e2b78b5dcd1b71e91378bfeaca", func := "cloister/cloisterlaw04.OrderBeginnings", spec := "orderBeginnings", inPlace := ["math.Float64frombits", "math.Float64bits"], unfollowed := true, recurses := true, apart := false, narrowed := true }
def OrderBeginningsUptoSaid : Prop := orderBeginningsUptoRow.holds Try.pinned (OpenSpec.upto orderBeginningsSpec)

/-- 'cloisterlaw04.OrderNextLeast', WHERE WHAT IT READS IS OF BULK AT MOST 1048576: true; the input reads as it did. -/
def orderNextLeastUptoRow : OpenClaim := { program := "ytahnpbgbekbfhab", sum := "57039d8c02d4fbae4a5f11c7234ddc868ca3e9e2b78b5dcd1b71e91378bfeaca", func := "cloister/cloisterlaw04.OrderNextLeast", spec := "orderNextLeast", inPlace := ["math.Float64frombits", "math.Float64bits"], unfollowed := true, recurses := true, apart := false, narrowed := true }
def OrderNextLeastUptoSaid : Prop := orderNextLeastUptoRow.holds Try.pinned (OpenSpec.upto orderNextLeastSpec)

/-- 'cloisterlaw04.OrderTotal', WHERE WHAT IT READS IS OF BULK AT MOST 1048576: true; the input reads as it did. -/
def orderTotalUptoRow : OpenClaim := { program := "ytahnpbgbekbfhab", sum := "57039d8c02d4fbae4a5f11c7234ddc868ca3e9e2b78b5dcd1b71e91378bfeaca", func := "cloister/cloisterlaw04.OrderTotal", spec := "orderTotal", inPlace := ["math.Float64frombits", "math.Float64bits"], unfollowed := true, recurses := true, apart := false, narrowed := true }
def OrderTotalUptoSaid : Prop := orderTotalUptoRow.holds Try.pinned (OpenSpec.upto orderTotalSpec)

end Rows
end Go.Proofs.Ytahnpbgbekbfhab

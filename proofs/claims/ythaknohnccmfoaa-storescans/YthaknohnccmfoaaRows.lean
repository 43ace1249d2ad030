/-
  No cell of these rows narrows 'for every input' (looked for: loops, veiled, ifaces, maps, wideKeys, modest, calm, conditions, laid).
  DERIVED. THE GIVEN ROWS OF THIS SEAT. 6 by the template 'for every input the law returns true; each argument reads behind the call as it read before'; 0 by the template 'total and deterministic' (their statements: YthaknohnccmfoaaTotals.lean).
  GIVEN WITH THE SEED: the statements are not yours to turn. If you find one false, say at which input.
  Laid BY PROGRAM, IN A SANDBOX (cutbox-rows.mjs): the forced cells as the released guide's own fill.sh prints them over the translation d2909a7c8cb108af… (all of the seat's roots in one cut). By AI agents, Wed Nov 11 2026. No macro, syntax, notation, axiom, sorry.
-/
import Derived.Test.YthaknohnccmfoaaChecked
import GoSem.Claim
import GoSem.ClaimJoined
import GoSem.ClaimMapViews
import Derived.JoinedTies
import Derived.KernelRfl
namespace Go.Proofs.Ythaknohnccmfoaa
/- THE CELL 'sum', in the pinned program and in every row, IS THE sha256 OF THE DUMP (.gsa) THAT YthaknohnccmfoaaProg.lean LOADS. Nothing in Lean hashes anything: it is a label: what it is worth is what the hold of that sum in a sandbox is worth. -/
noncomputable def Try.pinned : Pinned := { name := "ythaknohnccmfoaa", sum := "d2909a7c8cb108af7877b7e880f5ac03cafc216b9c9cdf136dc3a04acd71311b", checked := Try.checked }
namespace Rows
def none {H : Type} : Left H := { results := [], args := [] }

/-- 'cloisterlaw14.StoreDoes': WHATEVER THE INPUT: true; the input reads as it did. -/
def storeDoesSpec : ChangeSpec := { name := "storeDoes", fn := fun _ => fun
  | [d] => { results := [.lit (.bool true)], args := [d] }
  | _ => none }
def storeDoesRow : OpenClaim := { program := "ythaknohnccmfoaa", sum := "d2909a7c8cb108af7877b7e880f5ac03cafc216b9c9cdf136dc3a04acd71311b", func := "cloister/cloisterlaw14.StoreDoes", spec := "storeDoes", unfollowed := true, recurses := true, apart := false }
def StoreDoesSaid : Prop := storeDoesRow.holds Try.pinned (OpenSpec.ofChange storeDoesSpec)

/-- ITS FALSE NEIGHBOUR: 'it returns false'. Refute it at one input. -/
def storeDoesWrong : ChangeSpec := { name := "storeDoes", fn := fun _ => fun
  | [d] => { results := [.lit (.bool false)], args := [d] }
  | _ => none }
def StoreDoesWrongFalsely : Prop := storeDoesRow.holds Try.pinned (OpenSpec.ofChange storeDoesWrong)

/-- 'cloisterlaw14.StoreLoads': WHATEVER THE INPUT: true; the input reads as it did. -/
def storeLoadsSpec : ChangeSpec := { name := "storeLoads", fn := fun _ => fun
  | [d1, d2] => { results := [.lit (.bool true)], args := [d1, d2] }
  | _ => none }
def storeLoadsRow : OpenClaim := { program := "ythaknohnccmfoaa", sum := "d2909a7c8cb108af7877b7e880f5ac03cafc216b9c9cdf136dc3a04acd71311b", func := "cloister/cloisterlaw14.StoreLoads", spec := "storeLoads", unfollowed := true, recurses := true, apart := false }
def StoreLoadsSaid : Prop := storeLoadsRow.holds Try.pinned (OpenSpec.ofChange storeLoadsSpec)

/-- ITS FALSE NEIGHBOUR: 'it returns false'. Refute it at one input. -/
def storeLoadsWrong : ChangeSpec := { name := "storeLoads", fn := fun _ => fun
  | [d1, d2] => { results := [.lit (.bool false)], args := [d1, d2] }
  | _ => none }
def StoreLoadsWrongFalsely : Prop := storeLoadsRow.holds Try.pinned (OpenSpec.ofChange storeLoadsWrong)

/-- 'cloisterlaw14.StoreTwo': WHATEVER THE INPUT: true; the input reads as it did. -/
def storeTwoSpec : ChangeSpec := { name := "storeTwo", fn := fun _ => fun
  | [d] => { results := [.lit (.bool true)], args := [d] }
  | _ => none }
def storeTwoRow : OpenClaim := { program := "ythaknohnccmfoaa", sum := "d2909a7c8cb108af7877b7e880f5ac03cafc216b9c9cdf136dc3a04acd71311b", func := "cloister/cloisterlaw14.StoreTwo", spec := "storeTwo", unfollowed := true, recurses := true, apart := false }
def StoreTwoSaid : Prop := storeTwoRow.holds Try.pinned (OpenSpec.ofChange storeTwoSpec)

/-- ITS FALSE NEIGHBOUR: 'it returns false'. Refute it at one input. -/
def storeTwoWrong : ChangeSpec := { name := "storeTwo", fn := fun _ => fun
  | [d] => { results := [.lit (.bool false)], args := [d] }
  | _ => none }
def StoreTwoWrongFalsely : Prop := storeTwoRow.holds Try.pinned (OpenSpec.ofChange storeTwoWrong)

/-- 'cloisterlaw14.StoreVacuum': WHATEVER THE INPUT: true; the input reads as it did. -/
def storeVacuumSpec : ChangeSpec := { name := "storeVacuum", fn := fun _ => fun
  | [d1, d2, d3] => { results := [.lit (.bool true)], args := [d1, d2, d3] }
  | _ => none }
def storeVacuumRow : OpenClaim := { program := "ythaknohnccmfoaa", sum := "d2909a7c8cb108af7877b7e880f5ac03cafc216b9c9cdf136dc3a04acd71311b", func := "cloister/cloisterlaw14.StoreVacuum", spec := "storeVacuum", unfollowed := true, recurses := true, apart := false }
def StoreVacuumSaid : Prop := storeVacuumRow.holds Try.pinned (OpenSpec.ofChange storeVacuumSpec)

/-- ITS FALSE NEIGHBOUR: 'it returns false'. Refute it at one input. -/
def storeVacuumWrong : ChangeSpec := { name := "storeVacuum", fn := fun _ => fun
  | [d1, d2, d3] => { results := [.lit (.bool false)], args := [d1, d2, d3] }
  | _ => none }
def StoreVacuumWrongFalsely : Prop := storeVacuumRow.holds Try.pinned (OpenSpec.ofChange storeVacuumWrong)

/-- 'cloisterlaw14.StoreScans': WHATEVER THE INPUT: true; the input reads as it did. -/
def storeScansSpec : ChangeSpec := { name := "storeScans", fn := fun _ => fun
  | [d1, d2, d3] => { results := [.lit (.bool true)], args := [d1, d2, d3] }
  | _ => none }
def storeScansRow : OpenClaim := { program := "ythaknohnccmfoaa", sum := "d2909a7c8cb108af7877b7e880f5ac03cafc216b9c9cdf136dc3a04acd71311b", func := "cloister/cloisterlaw14.StoreScans", spec := "storeScans", unfollowed := true, recurses := true, apart := false }
def StoreScansSaid : Prop := storeScansRow.holds Try.pinned (OpenSpec.ofChange storeScansSpec)

/-- ITS FALSE NEIGHBOUR: 'it returns false'. Refute it at one input. -/
def storeScansWrong : ChangeSpec := { name := "storeScans", fn := fun _ => fun
  | [d1, d2, d3] => { results := [.lit (.bool false)], args := [d1, d2, d3] }
  | _ => none }
def StoreScansWrongFalsely : Prop := storeScansRow.holds Try.pinned (OpenSpec.ofChange storeScansWrong)

/-- 'cloisterlaw14.StoreWalk': WHATEVER THE INPUT: true; the input reads as it did. -/
def storeWalkSpec : ChangeSpec := { name := "storeWalk", fn := fun _ => fun
  | [d1, d2, d3, d4, d5] => { results := [.lit (.bool true)], args := [d1, d2, d3, d4, d5] }
  | _ => none }
def storeWalkRow : OpenClaim := { program := "ythaknohnccmfoaa", sum := "d2909a7c8cb108af7877b7e880f5ac03cafc216b9c9cdf136dc3a04acd71311b", func := "cloister/cloisterlaw14.StoreWalk", spec := "storeWalk", unfollowed := true, recurses := true, apart := false }
def StoreWalkSaid : Prop := storeWalkRow.holds Try.pinned (OpenSpec.ofChange storeWalkSpec)

/-- ITS FALSE NEIGHBOUR: 'it returns false'. Refute it at one input. -/
def storeWalkWrong : ChangeSpec := { name := "storeWalk", fn := fun _ => fun
  | [d1, d2, d3, d4, d5] => { results := [.lit (.bool false)], args := [d1, d2, d3, d4, d5] }
  | _ => none }
def StoreWalkWrongFalsely : Prop := storeWalkRow.holds Try.pinned (OpenSpec.ofChange storeWalkWrong)

/- THE SECOND FORM. 'bulk': how many values and letters a reading holds, each counted each time it is reached (what is shared counts as often as it is met; a slice's spare places count too). A statement '..UptoSaid' is the law's where the arguments, and the package variables that the reading takes, are together of bulk at most 1048576: NARROWER than '..Said'. Prove '..Said' where nothing that the law and all that it calls make is longer than what came in: it says more and counts as full. Else prove '..UptoSaid'. A law counts once. -/
mutual
def uptoBulk {H : Type} : DataW H → Nat
  | .lit (.string bytes) => bytes.length + 1
  | .lit _ => 1
  | .nil => 1
  | .ptr d => uptoBulk d + 1
  | .slice elems spare => uptoBulkAll elems + uptoBulkAll spare + 1
  | .agg parts => uptoBulkAll parts + 1
  | .iface _ d => uptoBulk d + 1
  | .map entries => uptoBulkEntries entries + 1
  | .held _ => 1
def uptoBulkAll {H : Type} : List (DataW H) → Nat
  | [] => 0
  | d :: r => uptoBulk d + uptoBulkAll r
def uptoBulkEntries {H : Type} : List (Lit × DataW H) → Nat
  | [] => 0
  | x :: r => uptoBulkEntry x + uptoBulkEntries r
def uptoBulkEntry {H : Type} : Lit × DataW H → Nat
  | (.string bytes, d) => bytes.length + uptoBulk d + 1
  | (_, d) => uptoBulk d + 1
 end
def uptoSmall : (H : Type) → List (DataW H) → Bool := fun _ ds => decide (uptoBulkAll ds ≤ 1048576)
def OpenSpec.upto (s : _root_.Go.ChangeSpec) : _root_.Go.OpenSpec := { _root_.Go.OpenSpec.ofChange s with cond := some uptoSmall }

/-- 'cloisterlaw14.StoreDoes', WHERE WHAT IT READS IS OF BULK AT MOST 1048576: true; the input reads as it did. -/
def storeDoesUptoRow : OpenClaim := { program := "ythaknohnccmfoaa", sum := "d2909a7c8cb108af7877b7e880f5ac03cafc216b9c9cdf136dc3a04acd71311b", func := "cloister/cloisterlaw14.StoreDoes", spec := "storeDoes", unfollowed := true, recurses := true, apart := false, narrowed := true }
def StoreDoesUptoSaid : Prop := storeDoesUptoRow.holds Try.pinned (OpenSpec.upto storeDoesSpec)

/-- 'cloisterlaw14.StoreLoads', WHERE WHAT IT READS IS OF BULK AT MOST 1048576: true; the input reads as it did. -/
def storeLoadsUptoRow : OpenClaim := { program := "ythaknohnccmfoaa", sum := "d2909a7c8cb108af7877b7e880f5ac03cafc216b9c9cdf136dc3a04acd71311b", func := "cloister/cloisterlaw14.StoreLoads", spec := "storeLoads", unfollowed := true, recurses := true, apart := false, narrowed := true }
def StoreLoadsUptoSaid : Prop := storeLoadsUptoRow.holds Try.pinned (OpenSpec.upto storeLoadsSpec)

/-- 'cloisterlaw14.StoreTwo', WHERE WHAT IT READS IS OF BULK AT MOST 1048576: true; the input reads as it did. -/
def storeTwoUptoRow : OpenClaim := { program := "ythaknohnccmfoaa", sum := "d2909a7c8cb108af7877b7e880f5ac03cafc216b9c9cdf136dc3a04acd71311b", func := "cloister/cloisterlaw14.StoreTwo", spec := "storeTwo", unfollowed := true, recurses := true, apart := false, narrowed := true }
def StoreTwoUptoSaid : Prop := storeTwoUptoRow.holds Try.pinned (OpenSpec.upto storeTwoSpec)

/-- 'cloisterlaw14.StoreVacuum', WHERE WHAT IT READS IS OF BULK AT MOST 1048576: true; the input reads as it did. -/
def storeVacuumUptoRow : OpenClaim := { program := "ythaknohnccmfoaa", sum := "d2909a7c8cb108af7877b7e880f5ac03cafc216b9c9cdf136dc3a04acd71311b", func := "cloister/cloisterlaw14.StoreVacuum", spec := "storeVacuum", unfollowed := true, recurses := true, apart := false, narrowed := true }
def StoreVacuumUptoSaid : Prop := storeVacuumUptoRow.holds Try.pinned (OpenSpec.upto storeVacuumSpec)

/-- 'cloisterlaw14.StoreScans', WHERE WHAT IT READS IS OF BULK AT MOST 1048576: true; the input reads as it did. -/
def storeScansUptoRow : OpenClaim := { program := "ythaknohnccmfoaa", sum := "d2909a7c8cb108af7877b7e880f5ac03cafc216b9c9cdf136dc3a04acd71311b", func := "cloister/cloisterlaw14.StoreScans", spec := "storeScans", unfollowed := true, recurses := true, apart := false, narrowed := true }
def StoreScansUptoSaid : Prop := storeScansUptoRow.holds Try.pinned (OpenSpec.upto storeScansSpec)

/-- 'cloisterlaw14.StoreWalk', WHERE WHAT IT READS IS OF BULK AT MOST 1048576: true; the input reads as it did. -/
def storeWalkUptoRow : OpenClaim := { program := "ythaknohnccmfoaa", sum := "d2909a7c8cb108af7877b7e880f5ac03cafc216b9c9cdf136dc3a04acd71311b", func := "cloister/cloisterlaw14.StoreWalk", spec := "storeWalk", unfollowed := true, recurses := true, apart := false, narrowed := true }
def StoreWalkUptoSaid : Prop := storeWalkUptoRow.holds Try.pinned (OpenSpec.upto storeWalkSpec)

end Rows
end Go.Proofs.Ythaknohnccmfoaa

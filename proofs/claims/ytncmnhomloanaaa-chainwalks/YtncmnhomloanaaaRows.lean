/-
  No cell of these rows narrows 'for every input' (looked for: loops, veiled, ifaces, maps, wideKeys, modest, calm, conditions, laid).
  DERIVED. THE GIVEN ROWS OF THIS SEAT. 6 by the template 'for every input the law returns true; each argument reads behind the call as it read before'; 0 by the template 'total and deterministic' (their statements: YtncmnhomloanaaaTotals.lean).
  GIVEN WITH THE SEED: the statements are not yours to turn. If you find one false, say at which input.
  Laid BY PROGRAM, IN A SANDBOX (cutbox-rows.mjs): the forced cells as the released guide's own fill.sh prints them over the translation 65ed00a70e6d258b… (all of the seat's roots in one cut). By AI agents, Wed Nov 11 2026. No macro, syntax, notation, axiom, sorry.
-/
import Derived.Test.YtncmnhomloanaaaChecked
import GoSem.Claim
import GoSem.ClaimJoined
import GoSem.ClaimMapViews
import Derived.JoinedTies
import Derived.KernelRfl
namespace Go.Proofs.Ytncmnhomloanaaa
/- THE CELL 'sum', in the pinned program and in every row, IS THE sha256 OF THE DUMP (.gsa) THAT YtncmnhomloanaaaProg.lean LOADS. Nothing in Lean hashes anything: it is a label: what it is worth is what the hold of that sum in a sandbox is worth. -/
noncomputable def Try.pinned : Pinned := { name := "ytncmnhomloanaaa", sum := "65ed00a70e6d258b430dfbc703c833e7b194d0e76ab2c7a698415d8dc343d072", checked := Try.checked }
namespace Rows
def none {H : Type} : Left H := { results := [], args := [] }

/-- 'cloisterlaw13.ChainNames': WHATEVER THE INPUT: true; the input reads as it did. -/
def chainNamesSpec : ChangeSpec := { name := "chainNames", fn := fun _ => fun
  | [] => { results := [.lit (.bool true)], args := [] }
  | _ => none }
def chainNamesRow : OpenClaim := { program := "ytncmnhomloanaaa", sum := "65ed00a70e6d258b430dfbc703c833e7b194d0e76ab2c7a698415d8dc343d072", func := "cloister/cloisterlaw13.ChainNames", spec := "chainNames", unfollowed := true, recurses := true, apart := false }
def ChainNamesSaid : Prop := chainNamesRow.holds Try.pinned (OpenSpec.ofChange chainNamesSpec)

/-- ITS FALSE NEIGHBOUR: 'it returns false'. Refute it at one input. -/
def chainNamesWrong : ChangeSpec := { name := "chainNames", fn := fun _ => fun
  | [] => { results := [.lit (.bool false)], args := [] }
  | _ => none }
def ChainNamesWrongFalsely : Prop := chainNamesRow.holds Try.pinned (OpenSpec.ofChange chainNamesWrong)

/-- 'cloisterlaw13.ChainRuns': WHATEVER THE INPUT: true; the input reads as it did. -/
def chainRunsSpec : ChangeSpec := { name := "chainRuns", fn := fun _ => fun
  | [d] => { results := [.lit (.bool true)], args := [d] }
  | _ => none }
def chainRunsRow : OpenClaim := { program := "ytncmnhomloanaaa", sum := "65ed00a70e6d258b430dfbc703c833e7b194d0e76ab2c7a698415d8dc343d072", func := "cloister/cloisterlaw13.ChainRuns", spec := "chainRuns", unfollowed := true, recurses := true, apart := false }
def ChainRunsSaid : Prop := chainRunsRow.holds Try.pinned (OpenSpec.ofChange chainRunsSpec)

/-- ITS FALSE NEIGHBOUR: 'it returns false'. Refute it at one input. -/
def chainRunsWrong : ChangeSpec := { name := "chainRuns", fn := fun _ => fun
  | [d] => { results := [.lit (.bool false)], args := [d] }
  | _ => none }
def ChainRunsWrongFalsely : Prop := chainRunsRow.holds Try.pinned (OpenSpec.ofChange chainRunsWrong)

/-- 'cloisterlaw13.ChainBeside': WHATEVER THE INPUT: true; the input reads as it did. -/
def chainBesideSpec : ChangeSpec := { name := "chainBeside", fn := fun _ => fun
  | [d1, d2] => { results := [.lit (.bool true)], args := [d1, d2] }
  | _ => none }
def chainBesideRow : OpenClaim := { program := "ytncmnhomloanaaa", sum := "65ed00a70e6d258b430dfbc703c833e7b194d0e76ab2c7a698415d8dc343d072", func := "cloister/cloisterlaw13.ChainBeside", spec := "chainBeside", unfollowed := true, recurses := true, apart := false }
def ChainBesideSaid : Prop := chainBesideRow.holds Try.pinned (OpenSpec.ofChange chainBesideSpec)

/-- ITS FALSE NEIGHBOUR: 'it returns false'. Refute it at one input. -/
def chainBesideWrong : ChangeSpec := { name := "chainBeside", fn := fun _ => fun
  | [d1, d2] => { results := [.lit (.bool false)], args := [d1, d2] }
  | _ => none }
def ChainBesideWrongFalsely : Prop := chainBesideRow.holds Try.pinned (OpenSpec.ofChange chainBesideWrong)

/-- 'cloisterlaw13.ChainNone': WHATEVER THE INPUT: true; the input reads as it did. -/
def chainNoneSpec : ChangeSpec := { name := "chainNone", fn := fun _ => fun
  | [d1, d2] => { results := [.lit (.bool true)], args := [d1, d2] }
  | _ => none }
def chainNoneRow : OpenClaim := { program := "ytncmnhomloanaaa", sum := "65ed00a70e6d258b430dfbc703c833e7b194d0e76ab2c7a698415d8dc343d072", func := "cloister/cloisterlaw13.ChainNone", spec := "chainNone", unfollowed := true, recurses := true, apart := false }
def ChainNoneSaid : Prop := chainNoneRow.holds Try.pinned (OpenSpec.ofChange chainNoneSpec)

/-- ITS FALSE NEIGHBOUR: 'it returns false'. Refute it at one input. -/
def chainNoneWrong : ChangeSpec := { name := "chainNone", fn := fun _ => fun
  | [d1, d2] => { results := [.lit (.bool false)], args := [d1, d2] }
  | _ => none }
def ChainNoneWrongFalsely : Prop := chainNoneRow.holds Try.pinned (OpenSpec.ofChange chainNoneWrong)

/-- 'cloisterlaw13.ChainPruned': WHATEVER THE INPUT: true; the input reads as it did. -/
def chainPrunedSpec : ChangeSpec := { name := "chainPruned", fn := fun _ => fun
  | [d1, d2, d3] => { results := [.lit (.bool true)], args := [d1, d2, d3] }
  | _ => none }
def chainPrunedRow : OpenClaim := { program := "ytncmnhomloanaaa", sum := "65ed00a70e6d258b430dfbc703c833e7b194d0e76ab2c7a698415d8dc343d072", func := "cloister/cloisterlaw13.ChainPruned", spec := "chainPruned", unfollowed := true, recurses := true, apart := false }
def ChainPrunedSaid : Prop := chainPrunedRow.holds Try.pinned (OpenSpec.ofChange chainPrunedSpec)

/-- ITS FALSE NEIGHBOUR: 'it returns false'. Refute it at one input. -/
def chainPrunedWrong : ChangeSpec := { name := "chainPruned", fn := fun _ => fun
  | [d1, d2, d3] => { results := [.lit (.bool false)], args := [d1, d2, d3] }
  | _ => none }
def ChainPrunedWrongFalsely : Prop := chainPrunedRow.holds Try.pinned (OpenSpec.ofChange chainPrunedWrong)

/-- 'cloisterlaw13.ChainWalks': WHATEVER THE INPUT: true; the input reads as it did. -/
def chainWalksSpec : ChangeSpec := { name := "chainWalks", fn := fun _ => fun
  | [d1, d2] => { results := [.lit (.bool true)], args := [d1, d2] }
  | _ => none }
def chainWalksRow : OpenClaim := { program := "ytncmnhomloanaaa", sum := "65ed00a70e6d258b430dfbc703c833e7b194d0e76ab2c7a698415d8dc343d072", func := "cloister/cloisterlaw13.ChainWalks", spec := "chainWalks", unfollowed := true, recurses := true, apart := false }
def ChainWalksSaid : Prop := chainWalksRow.holds Try.pinned (OpenSpec.ofChange chainWalksSpec)

/-- ITS FALSE NEIGHBOUR: 'it returns false'. Refute it at one input. -/
def chainWalksWrong : ChangeSpec := { name := "chainWalks", fn := fun _ => fun
  | [d1, d2] => { results := [.lit (.bool false)], args := [d1, d2] }
  | _ => none }
def ChainWalksWrongFalsely : Prop := chainWalksRow.holds Try.pinned (OpenSpec.ofChange chainWalksWrong)

/- THE SECOND FORM. 'bulk': how many values and letters a reading holds, each counted each time it is reached (what is shared counts as often as it is met; a slice's spare places count too). A statement '..UptoSaid' is the law's where the arguments, and the package variables that the reading takes, are together of bulk at most 1048576: NARROWER than '..Said'. Prove '..Said' where nothing that the law and all that it calls make is longer than what came in: it says more and counts as full. Else prove '..UptoSaid'. A law counts once. -/
mutual
def uptoBulk {H : Type} : DataW H → Nat
  | .lit (.string bytes) => bytes.length + 1
  | .lit _ => 1
  | .nil => 1
  | .ptr d => uptoBulk d + 1
  | .slice elems spare => uptoBulkAll elems + uptoBulkAll spare + 1
  | .agg parts => uptoBulkAll parts + 1
  | .iface _ d => uptoBulk d + 1
  | .map entries => uptoBulkEntries entries + 1
  | .held _ => 1
def uptoBulkAll {H : Type} : List (DataW H) → Nat
  | [] => 0
  | d :: r => uptoBulk d + uptoBulkAll r
def uptoBulkEntries {H : Type} : List (Lit × DataW H) → Nat
  | [] => 0
  | x :: r => uptoBulkEntry x + uptoBulkEntries r
def uptoBulkEntry {H : Type} : Lit × DataW H → Nat
  | (.string bytes, d) => bytes.length + uptoBulk d + 1
  | (_, d) => uptoBulk d + 1
 end
def uptoSmall : (H : Type) → List (DataW H) → Bool := fun _ ds => decide (uptoBulkAll ds ≤ 1048576)
def OpenSpec.upto (s : _root_.Go.ChangeSpec) : _root_.Go.OpenSpec := { _root_.Go.OpenSpec.ofChange s with cond := some uptoSmall }

/-- 'cloisterlaw13.ChainNames', WHERE WHAT IT READS IS OF BULK AT MOST 1048576: true; the input reads as it did. -/
def chainNamesUptoRow : OpenClaim := { program := "ytncmnhomloanaaa", sum := "65ed00a70e6d258b430dfbc703c833e7b194d0e76ab2c7a698415d8dc343d072", func := "cloister/cloisterlaw13.ChainNames", spec := "chainNames", unfollowed := true, recurses := true, apart := false, narrowed := true }
def ChainNamesUptoSaid : Prop := chainNamesUptoRow.holds Try.pinned (OpenSpec.upto chainNamesSpec)

/-- 'cloisterlaw13.ChainRuns', WHERE WHAT IT READS IS OF BULK AT MOST 1048576: true; the input reads as it did. -/
def chainRunsUptoRow : OpenClaim := { program := "ytncmnhomloanaaa", sum := "65ed00a70e6d258b430dfbc703c833e7b194d0e76ab2c7a698415d8dc343d072", func := "cloister/cloisterlaw13.ChainRuns", spec := "chainRuns", unfollowed := true, recurses := true, apart := false, narrowed := true }
def ChainRunsUptoSaid : Prop := chainRunsUptoRow.holds Try.pinned (OpenSpec.upto chainRunsSpec)

/-- 'cloisterlaw13.ChainBeside', WHERE WHAT IT READS IS OF BULK AT MOST 1048576: true; the input reads as it did. -/
def chainBesideUptoRow : OpenClaim := { program := "ytncmnhomloanaaa", sum := "65ed00a70e6d258b430dfbc703c833e7b194d0e76ab2c7a698415d8dc343d072", func := "cloister/cloisterlaw13.ChainBeside", spec := "chainBeside", unfollowed := true, recurses := true, apart := false, narrowed := true }
def ChainBesideUptoSaid : Prop := chainBesideUptoRow.holds Try.pinned (OpenSpec.upto chainBesideSpec)

/-- 'cloisterlaw13.ChainNone', WHERE WHAT IT READS IS OF BULK AT MOST 1048576: true; the input reads as it did. -/
def chainNoneUptoRow : OpenClaim := { program := "ytncmnhomloanaaa", sum := "65ed00a70e6d258b430dfbc703c833e7b194d0e76ab2c7a698415d8dc343d072", func := "cloister/cloisterlaw13.ChainNone", spec := "chainNone", unfollowed := true, recurses := true, apart := false, narrowed := true }
def ChainNoneUptoSaid : Prop := chainNoneUptoRow.holds Try.pinned (OpenSpec.upto chainNoneSpec)

/-- 'cloisterlaw13.ChainPruned', WHERE WHAT IT READS IS OF BULK AT MOST 1048576: true; the input reads as it did. -/
def chainPrunedUptoRow : OpenClaim := { program := "ytncmnhomloanaaa", sum := "65ed00a70e6d258b430dfbc703c833e7b194d0e76ab2c7a698415d8dc343d072", func := "cloister/cloisterlaw13.ChainPruned", spec := "chainPruned", unfollowed := true, recurses := true, apart := false, narrowed := true }
def ChainPrunedUptoSaid : Prop := chainPrunedUptoRow.holds Try.pinned (OpenSpec.upto chainPrunedSpec)

/-- 'cloisterlaw13.ChainWalks', WHERE WHAT IT READS IS OF BULK AT MOST 1048576: true; the input reads as it did. -/
def chainWalksUptoRow : OpenClaim := { program := "ytncmnhomloanaaa", sum := "65ed00a70e6d258b430dfbc703c833e7b194d0e76ab2c7a698415d8dc343d072", func := "cloister/cloisterlaw13.ChainWalks", spec := "chainWalks", unfollowed := true, recurses := true, apart := false, narrowed := true }
def ChainWalksUptoSaid : Prop := chainWalksUptoRow.holds Try.pinned (OpenSpec.upto chainWalksSpec)

end Rows
end Go.Proofs.Ytncmnhomloanaaa

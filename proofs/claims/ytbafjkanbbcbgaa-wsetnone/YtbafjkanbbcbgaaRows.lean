/-
  No cell of these rows narrows 'for every input' (looked for: loops, veiled, ifaces, maps, wideKeys, modest, calm, conditions, laid).
  DERIVED. THE GIVEN ROWS OF THIS SEAT. 6 by the template 'for every input the law returns true; each argument reads behind the call as it read before'; 0 by the template 'total and deterministic' (their statements: YtbafjkanbbcbgaaTotals.lean).
  GIVEN WITH THE SEED: the statements are not yours to turn. If you find one false, say at which input.
  Laid BY PROGRAM, IN A SANDBOX (cutbox-rows.mjs): the forced cells as the released guide's own fill.sh prints them over the translation 9809a2badacc2208… (all of the seat's roots in one cut). By AI agents, Wed Nov 11 2026. No macro, syntax, notation, axiom, sorry.
-/
import Derived.Test.YtbafjkanbbcbgaaChecked
import GoSem.Claim
import GoSem.ClaimJoined
import GoSem.ClaimMapViews
import Derived.JoinedTies
import Derived.KernelRfl
namespace Go.Proofs.Ytbafjkanbbcbgaa
/- THE CELL 'sum', in the pinned program and in every row, IS THE sha256 OF THE DUMP (.gsa) THAT YtbafjkanbbcbgaaProg.lean LOADS. Nothing in Lean hashes anything: it is a label: what it is worth is what the hold of that sum in a sandbox is worth. -/
noncomputable def Try.pinned : Pinned := { name := "ytbafjkanbbcbgaa", sum := "9809a2badacc22080243bd368ab608628dc1d200561728d732ea418201f992b8", checked := Try.checked }
namespace Rows
def none {H : Type} : Left H := { results := [], args := [] }

/-- 'cloisterlaw16.WsetNames': WHATEVER THE INPUT: true; the input reads as it did. -/
def wsetNamesSpec : ChangeSpec := { name := "wsetNames", fn := fun _ => fun
  | [] => { results := [.lit (.bool true)], args := [] }
  | _ => none }
def wsetNamesRow : OpenClaim := { program := "ytbafjkanbbcbgaa", sum := "9809a2badacc22080243bd368ab608628dc1d200561728d732ea418201f992b8", func := "cloister/cloisterlaw16.WsetNames", spec := "wsetNames", inPlace := ["maps.clone", "internal/bytealg.abigen_runtime_cmpstring"], unfollowed := true, recurses := true, apart := false }
def WsetNamesSaid : Prop := wsetNamesRow.holds Try.pinned (OpenSpec.ofChange wsetNamesSpec)

/-- ITS FALSE NEIGHBOUR: 'it returns false'. Refute it at one input. -/
def wsetNamesWrong : ChangeSpec := { name := "wsetNames", fn := fun _ => fun
  | [] => { results := [.lit (.bool false)], args := [] }
  | _ => none }
def WsetNamesWrongFalsely : Prop := wsetNamesRow.holds Try.pinned (OpenSpec.ofChange wsetNamesWrong)

/-- 'cloisterlaw16.WsetRuns': WHATEVER THE INPUT: true; the input reads as it did. -/
def wsetRunsSpec : ChangeSpec := { name := "wsetRuns", fn := fun _ => fun
  | [d] => { results := [.lit (.bool true)], args := [d] }
  | _ => none }
def wsetRunsRow : OpenClaim := { program := "ytbafjkanbbcbgaa", sum := "9809a2badacc22080243bd368ab608628dc1d200561728d732ea418201f992b8", func := "cloister/cloisterlaw16.WsetRuns", spec := "wsetRuns", inPlace := ["maps.clone", "internal/bytealg.abigen_runtime_cmpstring"], unfollowed := true, recurses := true, apart := false }
def WsetRunsSaid : Prop := wsetRunsRow.holds Try.pinned (OpenSpec.ofChange wsetRunsSpec)

/-- ITS FALSE NEIGHBOUR: 'it returns false'. Refute it at one input. -/
def wsetRunsWrong : ChangeSpec := { name := "wsetRuns", fn := fun _ => fun
  | [d] => { results := [.lit (.bool false)], args := [d] }
  | _ => none }
def WsetRunsWrongFalsely : Prop := wsetRunsRow.holds Try.pinned (OpenSpec.ofChange wsetRunsWrong)

/-- 'cloisterlaw16.WsetBeside': WHATEVER THE INPUT: true; the input reads as it did. -/
def wsetBesideSpec : ChangeSpec := { name := "wsetBeside", fn := fun _ => fun
  | [d1, d2] => { results := [.lit (.bool true)], args := [d1, d2] }
  | _ => none }
def wsetBesideRow : OpenClaim := { program := "ytbafjkanbbcbgaa", sum := "9809a2badacc22080243bd368ab608628dc1d200561728d732ea418201f992b8", func := "cloister/cloisterlaw16.WsetBeside", spec := "wsetBeside", inPlace := ["maps.clone", "internal/bytealg.abigen_runtime_cmpstring"], unfollowed := true, recurses := true, apart := false }
def WsetBesideSaid : Prop := wsetBesideRow.holds Try.pinned (OpenSpec.ofChange wsetBesideSpec)

/-- ITS FALSE NEIGHBOUR: 'it returns false'. Refute it at one input. -/
def wsetBesideWrong : ChangeSpec := { name := "wsetBeside", fn := fun _ => fun
  | [d1, d2] => { results := [.lit (.bool false)], args := [d1, d2] }
  | _ => none }
def WsetBesideWrongFalsely : Prop := wsetBesideRow.holds Try.pinned (OpenSpec.ofChange wsetBesideWrong)

/-- 'cloisterlaw16.WsetNone': WHATEVER THE INPUT: true; the input reads as it did. -/
def wsetNoneSpec : ChangeSpec := { name := "wsetNone", fn := fun _ => fun
  | [d] => { results := [.lit (.bool true)], args := [d] }
  | _ => none }
def wsetNoneRow : OpenClaim := { program := "ytbafjkanbbcbgaa", sum := "9809a2badacc22080243bd368ab608628dc1d200561728d732ea418201f992b8", func := "cloister/cloisterlaw16.WsetNone", spec := "wsetNone", inPlace := ["maps.clone", "internal/bytealg.abigen_runtime_cmpstring"], unfollowed := true, recurses := true, apart := false }
def WsetNoneSaid : Prop := wsetNoneRow.holds Try.pinned (OpenSpec.ofChange wsetNoneSpec)

/-- ITS FALSE NEIGHBOUR: 'it returns false'. Refute it at one input. -/
def wsetNoneWrong : ChangeSpec := { name := "wsetNone", fn := fun _ => fun
  | [d] => { results := [.lit (.bool false)], args := [d] }
  | _ => none }
def WsetNoneWrongFalsely : Prop := wsetNoneRow.holds Try.pinned (OpenSpec.ofChange wsetNoneWrong)

/-- 'cloisterlaw16.WsetWeighs': WHATEVER THE INPUT: true; the input reads as it did. -/
def wsetWeighsSpec : ChangeSpec := { name := "wsetWeighs", fn := fun _ => fun
  | [d1, d2, d3] => { results := [.lit (.bool true)], args := [d1, d2, d3] }
  | _ => none }
def wsetWeighsRow : OpenClaim := { program := "ytbafjkanbbcbgaa", sum := "9809a2badacc22080243bd368ab608628dc1d200561728d732ea418201f992b8", func := "cloister/cloisterlaw16.WsetWeighs", spec := "wsetWeighs", inPlace := ["internal/bytealg.abigen_runtime_cmpstring", "maps.clone"], unfollowed := true, recurses := true, apart := false }
def WsetWeighsSaid : Prop := wsetWeighsRow.holds Try.pinned (OpenSpec.ofChange wsetWeighsSpec)

/-- ITS FALSE NEIGHBOUR: 'it returns false'. Refute it at one input. -/
def wsetWeighsWrong : ChangeSpec := { name := "wsetWeighs", fn := fun _ => fun
  | [d1, d2, d3] => { results := [.lit (.bool false)], args := [d1, d2, d3] }
  | _ => none }
def WsetWeighsWrongFalsely : Prop := wsetWeighsRow.holds Try.pinned (OpenSpec.ofChange wsetWeighsWrong)

/-- 'cloisterlaw16.WsetMap': WHATEVER THE INPUT: true; the input reads as it did. -/
def wsetMapSpec : ChangeSpec := { name := "wsetMap", fn := fun _ => fun
  | [d1, d2, d3, d4] => { results := [.lit (.bool true)], args := [d1, d2, d3, d4] }
  | _ => none }
def wsetMapRow : OpenClaim := { program := "ytbafjkanbbcbgaa", sum := "9809a2badacc22080243bd368ab608628dc1d200561728d732ea418201f992b8", func := "cloister/cloisterlaw16.WsetMap", spec := "wsetMap", inPlace := ["internal/bytealg.abigen_runtime_cmpstring", "maps.clone"], unfollowed := true, recurses := true, apart := false }
def WsetMapSaid : Prop := wsetMapRow.holds Try.pinned (OpenSpec.ofChange wsetMapSpec)

/-- ITS FALSE NEIGHBOUR: 'it returns false'. Refute it at one input. -/
def wsetMapWrong : ChangeSpec := { name := "wsetMap", fn := fun _ => fun
  | [d1, d2, d3, d4] => { results := [.lit (.bool false)], args := [d1, d2, d3, d4] }
  | _ => none }
def WsetMapWrongFalsely : Prop := wsetMapRow.holds Try.pinned (OpenSpec.ofChange wsetMapWrong)

/- THE SECOND FORM. 'bulk': how many values and letters a reading holds, each counted each time it is reached (what is shared counts as often as it is met; a slice's spare places count too). A statement '..UptoSaid' is the law's where the arguments, and the package variables that the reading takes, are together of bulk at most 1048576: NARROWER than '..Said'. Prove '..Said' where nothing that the law and all that it calls make is longer than what came in: it says more and counts as full. Else prove '..UptoSaid'. A law counts once. -/
mutual
def uptoBulk {H : Type} : DataW H → Nat
  | .lit (.string bytes) => bytes.length + 1
  | .lit _ => 1
  | .nil => 1
  | .ptr d => uptoBulk d + 1
  | .slice elems spare => uptoBulkAll elems + uptoBulkAll spare + 1
  | .agg parts => uptoBulkAll parts + 1
  | .iface _ d => uptoBulk d + 1
  | .map entries => uptoBulkEntries entries + 1
  | .held _ => 1
def uptoBulkAll {H : Type} : List (DataW H) → Nat
  | [] => 0
  | d :: r => uptoBulk d + uptoBulkAll r
def uptoBulkEntries {H : Type} : List (Lit × DataW H) → Nat
  | [] => 0
  | x :: r => uptoBulkEntry x + uptoBulkEntries r
def uptoBulkEntry {H : Type} : Lit × DataW H → Nat
  | (.string bytes, d) => bytes.length + uptoBulk d + 1
  | (_, d) => uptoBulk d + 1
 end
def uptoSmall : (H : Type) → List (DataW H) → Bool := fun _ ds => decide (uptoBulkAll ds ≤ 1048576)
def OpenSpec.upto (s : _root_.Go.ChangeSpec) : _root_.Go.OpenSpec := { _root_.Go.OpenSpec.ofChange s with cond := some uptoSmall }

/-- 'cloisterlaw16.WsetNames', WHERE WHAT IT READS IS OF BULK AT MOST 1048576: true; the input reads as it did. -/
def wsetNamesUptoRow : OpenClaim := { program := "ytbafjkanbbcbgaa", sum := "9809a2badacc22080243bd368ab608628dc1d200561728d732ea418201f992b8", func := "cloister/cloisterlaw16.WsetNames", spec := "wsetNames", inPlace := ["maps.clone", "internal/bytealg.abigen_runtime_cmpstring"], unfollowed := true, recurses := true, apart := false, narrowed := true }
def WsetNamesUptoSaid : Prop := wsetNamesUptoRow.holds Try.pinned (OpenSpec.upto wsetNamesSpec)

/-- 'cloisterlaw16.WsetRuns', WHERE WHAT IT READS IS OF BULK AT MOST 1048576: true; the input reads as it did. -/
def wsetRunsUptoRow : OpenClaim := { program := "ytbafjkanbbcbgaa", sum := "9809a2badacc22080243bd368ab608628dc1d200561728d732ea418201f992b8", func := "cloister/cloisterlaw16.WsetRuns", spec := "wsetRuns", inPlace := ["maps.clone", "internal/bytealg.abigen_runtime_cmpstring"], unfollowed := true, recurses := true, apart := false, narrowed := true }
def WsetRunsUptoSaid : Prop := wsetRunsUptoRow.holds Try.pinned (OpenSpec.upto wsetRunsSpec)

/-- 'cloisterlaw16.WsetBeside', WHERE WHAT IT READS IS OF BULK AT MOST 1048576: true; the input reads as it did. -/
def wsetBesideUptoRow : OpenClaim := { program := "ytbafjkanbbcbgaa", sum := "9809a2badacc22080243bd368ab608628dc1d200561728d732ea418201f992b8", func := "cloister/cloisterlaw16.WsetBeside", spec := "wsetBeside", inPlace := ["maps.clone", "internal/bytealg.abigen_runtime_cmpstring"], unfollowed := true, recurses := true, apart := false, narrowed := true }
def WsetBesideUptoSaid : Prop := wsetBesideUptoRow.holds Try.pinned (OpenSpec.upto wsetBesideSpec)

/-- 'cloisterlaw16.WsetNone', WHERE WHAT IT READS IS OF BULK AT MOST 1048576: true; the input reads as it did. -/
def wsetNoneUptoRow : OpenClaim := { program := "ytbafjkanbbcbgaa", sum := "9809a2badacc22080243bd368ab608628dc1d200561728d732ea418201f992b8", func := "cloister/cloisterlaw16.WsetNone", spec := "wsetNone", inPlace := ["maps.clone", "internal/bytealg.abigen_runtime_cmpstring"], unfollowed := true, recurses := true, apart := false, narrowed := true }
def WsetNoneUptoSaid : Prop := wsetNoneUptoRow.holds Try.pinned (OpenSpec.upto wsetNoneSpec)

/-- 'cloisterlaw16.WsetWeighs', WHERE WHAT IT READS IS OF BULK AT MOST 1048576: true; the input reads as it did. -/
def wsetWeighsUptoRow : OpenClaim := { program := "ytbafjkanbbcbgaa", sum := "9809a2badacc22080243bd368ab608628dc1d200561728d732ea418201f992b8", func := "cloister/cloisterlaw16.WsetWeighs", spec := "wsetWeighs", inPlace := ["internal/bytealg.abigen_runtime_cmpstring", "maps.clone"], unfollowed := true, recurses := true, apart := false, narrowed := true }
def WsetWeighsUptoSaid : Prop := wsetWeighsUptoRow.holds Try.pinned (OpenSpec.upto wsetWeighsSpec)

/-- 'cloisterlaw16.WsetMap', WHERE WHAT IT READS IS OF BULK AT MOST 1048576: true; the input reads as it did. -/
def wsetMapUptoRow : OpenClaim := { program := "ytbafjkanbbcbgaa", sum := "9809a2badacc22080243bd368ab608628dc1d200561728d732ea418201f992b8", func := "cloister/cloisterlaw16.WsetMap", spec := "wsetMap", inPlace := ["internal/bytealg.abigen_runtime_cmpstring", "maps.clone"], unfollowed := true, recurses := true, apart := false, narrowed := true }
def WsetMapUptoSaid : Prop := wsetMapUptoRow.holds Try.pinned (OpenSpec.upto wsetMapSpec)

end Rows
end Go.Proofs.Ytbafjkanbbcbgaa

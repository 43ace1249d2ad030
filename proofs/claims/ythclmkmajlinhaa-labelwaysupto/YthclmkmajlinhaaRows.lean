/-
  No cell of these rows narrows 'for every input' (looked for: loops, veiled, ifaces, maps, wideKeys, modest, calm, conditions, laid).
  DERIVED. THE GIVEN ROWS OF THIS SEAT. 6 by the template 'for every input the law returns true; each argument reads behind the call as it read before'; 0 by the template 'total and deterministic' (their statements: YthclmkmajlinhaaTotals.lean).
  GIVEN WITH THE SEED: the statements are not yours to turn. If you find one false, say at which input.
  Laid BY PROGRAM, IN A SANDBOX (cutbox-rows.mjs): the forced cells as the released guide's own fill.sh prints them over the translation 96fbfbdd8a2e0d62… (all of the seat's roots in one cut). By AI agents, Wed Nov 11 2026. No macro, syntax, notation, axiom, sorry.
-/
import Derived.Test.YthclmkmajlinhaaChecked
import GoSem.Claim
import GoSem.ClaimJoined
import GoSem.ClaimMapViews
import Derived.JoinedTies
import Derived.KernelRfl
namespace Go.Proofs.Ythclmkmajlinhaa
/- THE CELL 'sum', in the pinned program and in every row, IS THE sha256 OF THE DUMP (.gsa) THAT YthclmkmajlinhaaProg.lean LOADS. Nothing in Lean hashes anything: it is a label: what it is worth is what the hold of that sum in a sandbox is worth. -/
noncomputable def Try.pinned : Pinned := { name := "ythclmkmajlinhaa", sum := "96fbfbdd8a2e0d62ed17a8631a5a9682033dc5c0d5a013ff36077e48927820dd", checked := Try.checked }
namespace Rows
def none {H : Type} : Left H := { results := [], args := [] }

/-- 'cloisterlaw01.LabelCovers': WHATEVER THE INPUT: true; the input reads as it did. -/
def labelCoversSpec : ChangeSpec := { name := "labelCovers", fn := fun _ => fun
  | [d] => { results := [.lit (.bool true)], args := [d] }
  | _ => none }
def labelCoversRow : OpenClaim := { program := "ythclmkmajlinhaa", sum := "96fbfbdd8a2e0d62ed17a8631a5a9682033dc5c0d5a013ff36077e48927820dd", func := "cloister/cloisterlaw01.LabelCovers", spec := "labelCovers", unfollowed := true, recurses := true, apart := false }
def LabelCoversSaid : Prop := labelCoversRow.holds Try.pinned (OpenSpec.ofChange labelCoversSpec)

/-- ITS FALSE NEIGHBOUR: 'it returns false'. Refute it at one input. -/
def labelCoversWrong : ChangeSpec := { name := "labelCovers", fn := fun _ => fun
  | [d] => { results := [.lit (.bool false)], args := [d] }
  | _ => none }
def LabelCoversWrongFalsely : Prop := labelCoversRow.holds Try.pinned (OpenSpec.ofChange labelCoversWrong)

/-- 'cloisterlaw01.LabelHeights': WHATEVER THE INPUT: true; the input reads as it did. -/
def labelHeightsSpec : ChangeSpec := { name := "labelHeights", fn := fun _ => fun
  | [d] => { results := [.lit (.bool true)], args := [d] }
  | _ => none }
def labelHeightsRow : OpenClaim := { program := "ythclmkmajlinhaa", sum := "96fbfbdd8a2e0d62ed17a8631a5a9682033dc5c0d5a013ff36077e48927820dd", func := "cloister/cloisterlaw01.LabelHeights", spec := "labelHeights", recurses := true, apart := false }
def LabelHeightsSaid : Prop := labelHeightsRow.holds Try.pinned (OpenSpec.ofChange labelHeightsSpec)

/-- ITS FALSE NEIGHBOUR: 'it returns false'. Refute it at one input. -/
def labelHeightsWrong : ChangeSpec := { name := "labelHeights", fn := fun _ => fun
  | [d] => { results := [.lit (.bool false)], args := [d] }
  | _ => none }
def LabelHeightsWrongFalsely : Prop := labelHeightsRow.holds Try.pinned (OpenSpec.ofChange labelHeightsWrong)

/-- 'cloisterlaw01.LabelCloses': WHATEVER THE INPUT: true; the input reads as it did. -/
def labelClosesSpec : ChangeSpec := { name := "labelCloses", fn := fun _ => fun
  | [d] => { results := [.lit (.bool true)], args := [d] }
  | _ => none }
def labelClosesRow : OpenClaim := { program := "ythclmkmajlinhaa", sum := "96fbfbdd8a2e0d62ed17a8631a5a9682033dc5c0d5a013ff36077e48927820dd", func := "cloister/cloisterlaw01.LabelCloses", spec := "labelCloses", unfollowed := true, recurses := true, apart := false }
def LabelClosesSaid : Prop := labelClosesRow.holds Try.pinned (OpenSpec.ofChange labelClosesSpec)

/-- ITS FALSE NEIGHBOUR: 'it returns false'. Refute it at one input. -/
def labelClosesWrong : ChangeSpec := { name := "labelCloses", fn := fun _ => fun
  | [d] => { results := [.lit (.bool false)], args := [d] }
  | _ => none }
def LabelClosesWrongFalsely : Prop := labelClosesRow.holds Try.pinned (OpenSpec.ofChange labelClosesWrong)

/-- 'cloisterlaw01.LabelCloseLeast': WHATEVER THE INPUT: true; the input reads as it did. -/
def labelCloseLeastSpec : ChangeSpec := { name := "labelCloseLeast", fn := fun _ => fun
  | [d1, d2] => { results := [.lit (.bool true)], args := [d1, d2] }
  | _ => none }
def labelCloseLeastRow : OpenClaim := { program := "ythclmkmajlinhaa", sum := "96fbfbdd8a2e0d62ed17a8631a5a9682033dc5c0d5a013ff36077e48927820dd", func := "cloister/cloisterlaw01.LabelCloseLeast", spec := "labelCloseLeast", unfollowed := true, recurses := true, apart := false }
def LabelCloseLeastSaid : Prop := labelCloseLeastRow.holds Try.pinned (OpenSpec.ofChange labelCloseLeastSpec)

/-- ITS FALSE NEIGHBOUR: 'it returns false'. Refute it at one input. -/
def labelCloseLeastWrong : ChangeSpec := { name := "labelCloseLeast", fn := fun _ => fun
  | [d1, d2] => { results := [.lit (.bool false)], args := [d1, d2] }
  | _ => none }
def LabelCloseLeastWrongFalsely : Prop := labelCloseLeastRow.holds Try.pinned (OpenSpec.ofChange labelCloseLeastWrong)

/-- 'cloisterlaw01.LabelWays': WHATEVER THE INPUT: true; the input reads as it did. -/
def labelWaysSpec : ChangeSpec := { name := "labelWays", fn := fun _ => fun
  | [d1, d2, d3] => { results := [.lit (.bool true)], args := [d1, d2, d3] }
  | _ => none }
def labelWaysRow : OpenClaim := { program := "ythclmkmajlinhaa", sum := "96fbfbdd8a2e0d62ed17a8631a5a9682033dc5c0d5a013ff36077e48927820dd", func := "cloister/cloisterlaw01.LabelWays", spec := "labelWays", unfollowed := true, recurses := true, apart := false }
def LabelWaysSaid : Prop := labelWaysRow.holds Try.pinned (OpenSpec.ofChange labelWaysSpec)

/-- ITS FALSE NEIGHBOUR: 'it returns false'. Refute it at one input. -/
def labelWaysWrong : ChangeSpec := { name := "labelWays", fn := fun _ => fun
  | [d1, d2, d3] => { results := [.lit (.bool false)], args := [d1, d2, d3] }
  | _ => none }
def LabelWaysWrongFalsely : Prop := labelWaysRow.holds Try.pinned (OpenSpec.ofChange labelWaysWrong)

/-- 'cloisterlaw01.LabelKeeps': WHATEVER THE INPUT: true; the input reads as it did. -/
def labelKeepsSpec : ChangeSpec := { name := "labelKeeps", fn := fun _ => fun
  | [d1, d2, d3] => { results := [.lit (.bool true)], args := [d1, d2, d3] }
  | _ => none }
def labelKeepsRow : OpenClaim := { program := "ythclmkmajlinhaa", sum := "96fbfbdd8a2e0d62ed17a8631a5a9682033dc5c0d5a013ff36077e48927820dd", func := "cloister/cloisterlaw01.LabelKeeps", spec := "labelKeeps", unfollowed := true, recurses := true, apart := false }
def LabelKeepsSaid : Prop := labelKeepsRow.holds Try.pinned (OpenSpec.ofChange labelKeepsSpec)

/-- ITS FALSE NEIGHBOUR: 'it returns false'. Refute it at one input. -/
def labelKeepsWrong : ChangeSpec := { name := "labelKeeps", fn := fun _ => fun
  | [d1, d2, d3] => { results := [.lit (.bool false)], args := [d1, d2, d3] }
  | _ => none }
def LabelKeepsWrongFalsely : Prop := labelKeepsRow.holds Try.pinned (OpenSpec.ofChange labelKeepsWrong)

/- THE SECOND FORM. 'bulk': how many values and letters a reading holds, each counted each time it is reached (what is shared counts as often as it is met; a slice's spare places count too). A statement '..UptoSaid' is the law's where the arguments, and the package variables that the reading takes, are together of bulk at most 1048576: NARROWER than '..Said'. Prove '..Said' where nothing that the law and all that it calls make is longer than what came in: it says more and counts as full. Else prove '..UptoSaid'. A law counts once. -/
mutual
def uptoBulk {H : Type} : DataW H → Nat
  | .lit (.string bytes) => bytes.length + 1
  | .lit _ => 1
  | .nil => 1
  | .ptr d => uptoBulk d + 1
  | .slice elems spare => uptoBulkAll elems + uptoBulkAll spare + 1
  | .agg parts => uptoBulkAll parts + 1
  | .iface _ d => uptoBulk d + 1
  | .map entries => uptoBulkEntries entries + 1
  | .held _ => 1
def uptoBulkAll {H : Type} : List (DataW H) → Nat
  | [] => 0
  | d :: r => uptoBulk d + uptoBulkAll r
def uptoBulkEntries {H : Type} : List (Lit × DataW H) → Nat
  | [] => 0
  | x :: r => uptoBulkEntry x + uptoBulkEntries r
def uptoBulkEntry {H : Type} : Lit × DataW H → Nat
  | (.string bytes, d) => bytes.length + uptoBulk d + 1
  | (_, d) => uptoBulk d + 1
 end
def uptoSmall : (H : Type) → List (DataW H) → Bool := fun _ ds => decide (uptoBulkAll ds ≤ 1048576)
def OpenSpec.upto (s : _root_.Go.ChangeSpec) : _root_.Go.OpenSpec := { _root_.Go.OpenSpec.ofChange s with cond := some uptoSmall }

/-- 'cloisterlaw01.LabelCovers', WHERE WHAT IT READS IS OF BULK AT MOST 1048576: true; the input reads as it did. -/
def labelCoversUptoRow : OpenClaim := { program := "ythclmkmajlinhaa", sum := "96fbfbdd8a2e0d62ed17a8631a5a9682033dc5c0d5a013ff36077e48927820dd", func := "cloister/cloisterlaw01.LabelCovers", spec := "labelCovers", unfollowed := true, recurses := true, apart := false, narrowed := true }
def LabelCoversUptoSaid : Prop := labelCoversUptoRow.holds Try.pinned (OpenSpec.upto labelCoversSpec)

/-- 'cloisterlaw01.LabelHeights', WHERE WHAT IT READS IS OF BULK AT MOST 1048576: true; the input reads as it did. -/
def labelHeightsUptoRow : OpenClaim := { program := "ythclmkmajlinhaa", sum := "96fbfbdd8a2e0d62ed17a8631a5a9682033dc5c0d5a013ff36077e48927820dd", func := "cloister/cloisterlaw01.LabelHeights", spec := "labelHeights", recurses := true, apart := false, narrowed := true }
def LabelHeightsUptoSaid : Prop := labelHeightsUptoRow.holds Try.pinned (OpenSpec.upto labelHeightsSpec)

/-- 'cloisterlaw01.LabelCloses', WHERE WHAT IT READS IS OF BULK AT MOST 1048576: true; the input reads as it did. -/
def labelClosesUptoRow : OpenClaim := { program := "ythclmkmajlinhaa", sum := "96fbfbdd8a2e0d62ed17a8631a5a9682033dc5c0d5a013ff36077e48927820dd", func := "cloister/cloisterlaw01.LabelCloses", spec := "labelCloses", unfollowed := true, recurses := true, apart := false, narrowed := true }
def LabelClosesUptoSaid : Prop := labelClosesUptoRow.holds Try.pinned (OpenSpec.upto labelClosesSpec)

/-- 'cloisterlaw01.LabelCloseLeast', WHERE WHAT IT READS IS OF BULK AT MOST 1048576: true; the input reads as it did. -/
def labelCloseLeastUptoRow : OpenClaim := { program := "ythclmkmajlinhaa", sum := "96fbfbdd8a2e0d62ed17a8631a5a9682033dc5c0d5a013ff36077e48927820dd", func := "cloister/cloisterlaw01.LabelCloseLeast", spec := "labelCloseLeast", unfollowed := true, recurses := true, apart := false, narrowed := true }
def LabelCloseLeastUptoSaid : Prop := labelCloseLeastUptoRow.holds Try.pinned (OpenSpec.upto labelCloseLeastSpec)

/-- 'cloisterlaw01.LabelWays', WHERE WHAT IT READS IS OF BULK AT MOST 1048576: true; the input reads as it did. -/
def labelWaysUptoRow : OpenClaim := { program := "ythclmkmajlinhaa", sum := "96fbfbdd8a2e0d62ed17a8631a5a9682033dc5c0d5a013ff36077e48927820dd", func := "cloister/cloisterlaw01.LabelWays", spec := "labelWays", unfollowed := true, recurses := true, apart := false, narrowed := true }
def LabelWaysUptoSaid : Prop := labelWaysUptoRow.holds Try.pinned (OpenSpec.upto labelWaysSpec)

/-- 'cloisterlaw01.LabelKeeps', WHERE WHAT IT READS IS OF BULK AT MOST 1048576: true; the input reads as it did. -/
def labelKeepsUptoRow : OpenClaim := { program := "ythclmkmajlinhaa", sum := "96fbfbdd8a2e0d62ed17a8631a5a9682033dc5c0d5a013ff36077e48927820dd", func := "cloister/cloisterlaw01.LabelKeeps", spec := "labelKeeps", unfollowed := true, recurses := true, apart := false, narrowed := true }
def LabelKeepsUptoSaid : Prop := labelKeepsUptoRow.holds Try.pinned (OpenSpec.upto labelKeepsSpec)

end Rows
end Go.Proofs.Ythclmkmajlinhaa

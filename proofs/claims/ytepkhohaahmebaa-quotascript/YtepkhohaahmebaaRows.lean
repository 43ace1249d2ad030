/-
  No cell of these rows narrows 'for every input' (looked for: loops, veiled, ifaces, maps, wideKeys, modest, calm, conditions, laid).
  DERIVED. THE GIVEN ROWS OF THIS SEAT. 4 by the template 'for every input the law returns true; each argument reads behind the call as it read before'; 0 by the template 'total and deterministic' (their statements: YtepkhohaahmebaaTotals.lean).
  GIVEN WITH THE SEED: the statements are not yours to turn. If you find one false, say at which input.
  Laid BY PROGRAM, IN A SANDBOX (cutbox-rows.mjs): the forced cells as the released guide's own fill.sh prints them over the translation 84e08b6ec230d32e… (all of the seat's roots in one cut). By AI agents, Wed Nov 11 2026. No macro, syntax, notation, axiom, sorry.
-/
import Derived.Test.YtepkhohaahmebaaChecked
import GoSem.Claim
import GoSem.ClaimJoined
import GoSem.ClaimMapViews
import Derived.JoinedTies
import Derived.KernelRfl
namespace Go.Proofs.Ytepkhohaahmebaa
/- THE CELL 'sum', in the pinned program and in every row, IS THE sha256 OF THE DUMP (.gsa) THAT YtepkhohaahmebaaProg.lean LOADS. Nothing in Lean hashes anything: it is a label: what it is worth is what the hold of that sum in a sandbox is worth. -/
noncomputable def Try.pinned : Pinned := { name := "ytepkhohaahmebaa", sum := "84e08b6ec230d32efe2c5ae247bce526814da4567ea6a68f4ed71f067ed2672a", checked := Try.checked }
namespace Rows
def none {H : Type} : Left H := { results := [], args := [] }

/-- 'cloisterlaw15.QuotaScript': WHATEVER THE INPUT: true; the input reads as it did. -/
def quotaScriptSpec : ChangeSpec := { name := "quotaScript", fn := fun _ => fun
  | [d] => { results := [.lit (.bool true)], args := [d] }
  | _ => none }
def quotaScriptRow : OpenClaim := { program := "ytepkhohaahmebaa", sum := "84e08b6ec230d32efe2c5ae247bce526814da4567ea6a68f4ed71f067ed2672a", func := "cloister/cloisterlaw15.QuotaScript", spec := "quotaScript", apart := false }
def QuotaScriptSaid : Prop := quotaScriptRow.holds Try.pinned (OpenSpec.ofChange quotaScriptSpec)

/-- ITS FALSE NEIGHBOUR: 'it returns false'. Refute it at one input. -/
def quotaScriptWrong : ChangeSpec := { name := "quotaScript", fn := fun _ => fun
  | [d] => { results := [.lit (.bool false)], args := [d] }
  | _ => none }
def QuotaScriptWrongFalsely : Prop := quotaScriptRow.holds Try.pinned (OpenSpec.ofChange quotaScriptWrong)

/-- 'cloisterlaw15.QuotaNever': WHATEVER THE INPUT: true; the input reads as it did. -/
def quotaNeverSpec : ChangeSpec := { name := "quotaNever", fn := fun _ => fun
  | [d1, d2] => { results := [.lit (.bool true)], args := [d1, d2] }
  | _ => none }
def quotaNeverRow : OpenClaim := { program := "ytepkhohaahmebaa", sum := "84e08b6ec230d32efe2c5ae247bce526814da4567ea6a68f4ed71f067ed2672a", func := "cloister/cloisterlaw15.QuotaNever", spec := "quotaNever", apart := false }
def QuotaNeverSaid : Prop := quotaNeverRow.holds Try.pinned (OpenSpec.ofChange quotaNeverSpec)

/-- ITS FALSE NEIGHBOUR: 'it returns false'. Refute it at one input. -/
def quotaNeverWrong : ChangeSpec := { name := "quotaNever", fn := fun _ => fun
  | [d1, d2] => { results := [.lit (.bool false)], args := [d1, d2] }
  | _ => none }
def QuotaNeverWrongFalsely : Prop := quotaNeverRow.holds Try.pinned (OpenSpec.ofChange quotaNeverWrong)

/-- 'cloisterlaw15.QuotaBack': WHATEVER THE INPUT: true; the input reads as it did. -/
def quotaBackSpec : ChangeSpec := { name := "quotaBack", fn := fun _ => fun
  | [d1, d2, d3] => { results := [.lit (.bool true)], args := [d1, d2, d3] }
  | _ => none }
def quotaBackRow : OpenClaim := { program := "ytepkhohaahmebaa", sum := "84e08b6ec230d32efe2c5ae247bce526814da4567ea6a68f4ed71f067ed2672a", func := "cloister/cloisterlaw15.QuotaBack", spec := "quotaBack", apart := false }
def QuotaBackSaid : Prop := quotaBackRow.holds Try.pinned (OpenSpec.ofChange quotaBackSpec)

/-- ITS FALSE NEIGHBOUR: 'it returns false'. Refute it at one input. -/
def quotaBackWrong : ChangeSpec := { name := "quotaBack", fn := fun _ => fun
  | [d1, d2, d3] => { results := [.lit (.bool false)], args := [d1, d2, d3] }
  | _ => none }
def QuotaBackWrongFalsely : Prop := quotaBackRow.holds Try.pinned (OpenSpec.ofChange quotaBackWrong)

/-- 'cloisterlaw15.QuotaRoom': WHATEVER THE INPUT: true; the input reads as it did. -/
def quotaRoomSpec : ChangeSpec := { name := "quotaRoom", fn := fun _ => fun
  | [d1, d2, d3] => { results := [.lit (.bool true)], args := [d1, d2, d3] }
  | _ => none }
def quotaRoomRow : OpenClaim := { program := "ytepkhohaahmebaa", sum := "84e08b6ec230d32efe2c5ae247bce526814da4567ea6a68f4ed71f067ed2672a", func := "cloister/cloisterlaw15.QuotaRoom", spec := "quotaRoom", apart := false }
def QuotaRoomSaid : Prop := quotaRoomRow.holds Try.pinned (OpenSpec.ofChange quotaRoomSpec)

/-- ITS FALSE NEIGHBOUR: 'it returns false'. Refute it at one input. -/
def quotaRoomWrong : ChangeSpec := { name := "quotaRoom", fn := fun _ => fun
  | [d1, d2, d3] => { results := [.lit (.bool false)], args := [d1, d2, d3] }
  | _ => none }
def QuotaRoomWrongFalsely : Prop := quotaRoomRow.holds Try.pinned (OpenSpec.ofChange quotaRoomWrong)

/- THE SECOND FORM. 'bulk': how many values and letters a reading holds, each counted each time it is reached (what is shared counts as often as it is met; a slice's spare places count too). A statement '..UptoSaid' is the law's where the arguments, and the package variables that the reading takes, are together of bulk at most 1048576: NARROWER than '..Said'. Prove '..Said' where nothing that the law and all that it calls make is longer than what came in: it says more and counts as full. Else prove '..UptoSaid'. A law counts once. -/
mutual
def uptoBulk {H : Type} : DataW H → Nat
  | .lit (.string bytes) => bytes.length + 1
  | .lit _ => 1
  | .nil => 1
  | .ptr d => uptoBulk d + 1
  | .slice elems spare => uptoBulkAll elems + uptoBulkAll spare + 1
  | .agg parts => uptoBulkAll parts + 1
  | .iface _ d => uptoBulk d + 1
  | .map entries => uptoBulkEntries entries + 1
  | .held _ => 1
def uptoBulkAll {H : Type} : List (DataW H) → Nat
  | [] => 0
  | d :: r => uptoBulk d + uptoBulkAll r
def uptoBulkEntries {H : Type} : List (Lit × DataW H) → Nat
  | [] => 0
  | x :: r => uptoBulkEntry x + uptoBulkEntries r
def uptoBulkEntry {H : Type} : Lit × DataW H → Nat
  | (.string bytes, d) => bytes.length + uptoBulk d + 1
  | (_, d) => uptoBulk d + 1
 end
def uptoSmall : (H : Type) → List (DataW H) → Bool := fun _ ds => decide (uptoBulkAll ds ≤ 1048576)
def OpenSpec.upto (s : _root_.Go.ChangeSpec) : _root_.Go.OpenSpec := { _root_.Go.OpenSpec.ofChange s with cond := some uptoSmall }

/-- 'cloisterlaw15.QuotaScript', WHERE WHAT IT READS IS OF BULK AT MOST 1048576: true; the input reads as it did. -/
def quotaScriptUptoRow : OpenClaim := { program := "ytepkhohaahmebaa", sum := "84e08b6ec230d32efe2c5ae247bce526814da4567ea6a68f4ed71f067ed2672a", func := "cloister/cloisterlaw15.QuotaScript", spec := "quotaScript", apart := false, narrowed := true }
def QuotaScriptUptoSaid : Prop := quotaScriptUptoRow.holds Try.pinned (OpenSpec.upto quotaScriptSpec)

/-- 'cloisterlaw15.QuotaNever', WHERE WHAT IT READS IS OF BULK AT MOST 1048576: true; the input reads as it did. -/
def quotaNeverUptoRow : OpenClaim := { program := "ytepkhohaahmebaa", sum := "84e08b6ec230d32efe2c5ae247bce526814da4567ea6a68f4ed71f067ed2672a", func := "cloister/cloisterlaw15.QuotaNever", spec := "quotaNever", apart := false, narrowed := true }
def QuotaNeverUptoSaid : Prop := quotaNeverUptoRow.holds Try.pinned (OpenSpec.upto quotaNeverSpec)

/-- 'cloisterlaw15.QuotaBack', WHERE WHAT IT READS IS OF BULK AT MOST 1048576: true; the input reads as it did. -/
def quotaBackUptoRow : OpenClaim := { program := "ytepkhohaahmebaa", sum := "84e08b6ec230d32efe2c5ae247bce526814da4567ea6a68f4ed71f067ed2672a", func := "cloister/cloisterlaw15.QuotaBack", spec := "quotaBack", apart := false, narrowed := true }
def QuotaBackUptoSaid : Prop := quotaBackUptoRow.holds Try.pinned (OpenSpec.upto quotaBackSpec)

/-- 'cloisterlaw15.QuotaRoom', WHERE WHAT IT READS IS OF BULK AT MOST 1048576: true; the input reads as it did. -/
def quotaRoomUptoRow : OpenClaim := { program := "ytepkhohaahmebaa", sum := "84e08b6ec230d32efe2c5ae247bce526814da4567ea6a68f4ed71f067ed2672a", func := "cloister/cloisterlaw15.QuotaRoom", spec := "quotaRoom", apart := false, narrowed := true }
def QuotaRoomUptoSaid : Prop := quotaRoomUptoRow.holds Try.pinned (OpenSpec.upto quotaRoomSpec)

end Rows
end Go.Proofs.Ytepkhohaahmebaa

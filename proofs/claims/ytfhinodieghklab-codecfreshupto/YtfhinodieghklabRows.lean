/-
  No cell of these rows narrows 'for every input' (looked for: loops, veiled, ifaces, maps, wideKeys, modest, calm, conditions, laid).
  DERIVED. THE GIVEN ROWS OF THIS SEAT. 6 by the template 'for every input the law returns true; each argument reads behind the call as it read before'; 0 by the template 'total and deterministic' (their statements: YtfhinodieghklabTotals.lean).
  GIVEN WITH THE SEED: the statements are not yours to turn. If you find one false, say at which input.
  Laid BY PROGRAM, IN A SANDBOX (cutbox-rows.mjs): the forced cells as the released guide's own fill.sh prints them over the translation f392b3430c0f441c… (all of the seat's roots in one cut). By AI agents, Wed Nov 11 2026. No macro, syntax, notation, axiom, sorry.
-/
import Derived.Test.YtfhinodieghklabChecked
import GoSem.Claim
import GoSem.ClaimJoined
import GoSem.ClaimMapViews
import Derived.JoinedTies
import Derived.KernelRfl
namespace Go.Proofs.Ytfhinodieghklab
/- THE CELL 'sum', in the pinned program and in every row, IS THE sha256 OF THE DUMP (.gsa) THAT YtfhinodieghklabProg.lean LOADS. Nothing in Lean hashes anything: it is a label: what it is worth is what the hold of that sum in a sandbox is worth. -/
noncomputable def Try.pinned : Pinned := { name := "ytfhinodieghklab", sum := "f392b3430c0f441ca1b7127addd30b5b61344d06db30eecd6b09919f28bb2317", checked := Try.checked }
namespace Rows
def none {H : Type} : Left H := { results := [], args := [] }

/-- 'cloisterlaw02.CodecThere': WHATEVER THE INPUT: true; the input reads as it did. -/
def codecThereSpec : ChangeSpec := { name := "codecThere", fn := fun _ => fun
  | [d1, d2] => { results := [.lit (.bool true)], args := [d1, d2] }
  | _ => none }
def codecThereRow : OpenClaim := { program := "ytfhinodieghklab", sum := "f392b3430c0f441ca1b7127addd30b5b61344d06db30eecd6b09919f28bb2317", func := "cloister/cloisterlaw02.CodecThere", spec := "codecThere", unfollowed := true, recurses := true, apart := false }
def CodecThereSaid : Prop := codecThereRow.holds Try.pinned (OpenSpec.ofChange codecThereSpec)

/-- ITS FALSE NEIGHBOUR: 'it returns false'. Refute it at one input. -/
def codecThereWrong : ChangeSpec := { name := "codecThere", fn := fun _ => fun
  | [d1, d2] => { results := [.lit (.bool false)], args := [d1, d2] }
  | _ => none }
def CodecThereWrongFalsely : Prop := codecThereRow.holds Try.pinned (OpenSpec.ofChange codecThereWrong)

/-- 'cloisterlaw02.CodecForm': WHATEVER THE INPUT: true; the input reads as it did. -/
def codecFormSpec : ChangeSpec := { name := "codecForm", fn := fun _ => fun
  | [d] => { results := [.lit (.bool true)], args := [d] }
  | _ => none }
def codecFormRow : OpenClaim := { program := "ytfhinodieghklab", sum := "f392b3430c0f441ca1b7127addd30b5b61344d06db30eecd6b09919f28bb2317", func := "cloister/cloisterlaw02.CodecForm", spec := "codecForm", unfollowed := true, recurses := true, apart := false }
def CodecFormSaid : Prop := codecFormRow.holds Try.pinned (OpenSpec.ofChange codecFormSpec)

/-- ITS FALSE NEIGHBOUR: 'it returns false'. Refute it at one input. -/
def codecFormWrong : ChangeSpec := { name := "codecForm", fn := fun _ => fun
  | [d] => { results := [.lit (.bool false)], args := [d] }
  | _ => none }
def CodecFormWrongFalsely : Prop := codecFormRow.holds Try.pinned (OpenSpec.ofChange codecFormWrong)

/-- 'cloisterlaw02.CodecRises': WHATEVER THE INPUT: true; the input reads as it did. -/
def codecRisesSpec : ChangeSpec := { name := "codecRises", fn := fun _ => fun
  | [d1, d2] => { results := [.lit (.bool true)], args := [d1, d2] }
  | _ => none }
def codecRisesRow : OpenClaim := { program := "ytfhinodieghklab", sum := "f392b3430c0f441ca1b7127addd30b5b61344d06db30eecd6b09919f28bb2317", func := "cloister/cloisterlaw02.CodecRises", spec := "codecRises", unfollowed := true, recurses := true, apart := false }
def CodecRisesSaid : Prop := codecRisesRow.holds Try.pinned (OpenSpec.ofChange codecRisesSpec)

/-- ITS FALSE NEIGHBOUR: 'it returns false'. Refute it at one input. -/
def codecRisesWrong : ChangeSpec := { name := "codecRises", fn := fun _ => fun
  | [d1, d2] => { results := [.lit (.bool false)], args := [d1, d2] }
  | _ => none }
def CodecRisesWrongFalsely : Prop := codecRisesRow.holds Try.pinned (OpenSpec.ofChange codecRisesWrong)

/-- 'cloisterlaw02.CodecLater': WHATEVER THE INPUT: true; the input reads as it did. -/
def codecLaterSpec : ChangeSpec := { name := "codecLater", fn := fun _ => fun
  | [d1, d2, d3] => { results := [.lit (.bool true)], args := [d1, d2, d3] }
  | _ => none }
def codecLaterRow : OpenClaim := { program := "ytfhinodieghklab", sum := "f392b3430c0f441ca1b7127addd30b5b61344d06db30eecd6b09919f28bb2317", func := "cloister/cloisterlaw02.CodecLater", spec := "codecLater", unfollowed := true, recurses := true, apart := false }
def CodecLaterSaid : Prop := codecLaterRow.holds Try.pinned (OpenSpec.ofChange codecLaterSpec)

/-- ITS FALSE NEIGHBOUR: 'it returns false'. Refute it at one input. -/
def codecLaterWrong : ChangeSpec := { name := "codecLater", fn := fun _ => fun
  | [d1, d2, d3] => { results := [.lit (.bool false)], args := [d1, d2, d3] }
  | _ => none }
def CodecLaterWrongFalsely : Prop := codecLaterRow.holds Try.pinned (OpenSpec.ofChange codecLaterWrong)

/-- 'cloisterlaw02.CodecFresh': WHATEVER THE INPUT: true; the input reads as it did. -/
def codecFreshSpec : ChangeSpec := { name := "codecFresh", fn := fun _ => fun
  | [d1, d2] => { results := [.lit (.bool true)], args := [d1, d2] }
  | _ => none }
def codecFreshRow : OpenClaim := { program := "ytfhinodieghklab", sum := "f392b3430c0f441ca1b7127addd30b5b61344d06db30eecd6b09919f28bb2317", func := "cloister/cloisterlaw02.CodecFresh", spec := "codecFresh", unfollowed := true, recurses := true, apart := false }
def CodecFreshSaid : Prop := codecFreshRow.holds Try.pinned (OpenSpec.ofChange codecFreshSpec)

/-- ITS FALSE NEIGHBOUR: 'it returns false'. Refute it at one input. -/
def codecFreshWrong : ChangeSpec := { name := "codecFresh", fn := fun _ => fun
  | [d1, d2] => { results := [.lit (.bool false)], args := [d1, d2] }
  | _ => none }
def CodecFreshWrongFalsely : Prop := codecFreshRow.holds Try.pinned (OpenSpec.ofChange codecFreshWrong)

/-- 'cloisterlaw02.CodecOwn': WHATEVER THE INPUT: true; the input reads as it did. -/
def codecOwnSpec : ChangeSpec := { name := "codecOwn", fn := fun _ => fun
  | [d1, d2] => { results := [.lit (.bool true)], args := [d1, d2] }
  | _ => none }
def codecOwnRow : OpenClaim := { program := "ytfhinodieghklab", sum := "f392b3430c0f441ca1b7127addd30b5b61344d06db30eecd6b09919f28bb2317", func := "cloister/cloisterlaw02.CodecOwn", spec := "codecOwn", unfollowed := true, recurses := true, apart := false }
def CodecOwnSaid : Prop := codecOwnRow.holds Try.pinned (OpenSpec.ofChange codecOwnSpec)

/-- ITS FALSE NEIGHBOUR: 'it returns false'. Refute it at one input. -/
def codecOwnWrong : ChangeSpec := { name := "codecOwn", fn := fun _ => fun
  | [d1, d2] => { results := [.lit (.bool false)], args := [d1, d2] }
  | _ => none }
def CodecOwnWrongFalsely : Prop := codecOwnRow.holds Try.pinned (OpenSpec.ofChange codecOwnWrong)

/- THE SECOND FORM. 'bulk': how many values and letters a reading holds, each counted each time it is reached (what is shared counts as often as it is met; a slice's spare places count too). A statement '..UptoSaid' is the law's where the arguments, and the package variables that the reading takes, are together of bulk at most 1048576: NARROWER than '..Said'. Prove '..Said' where nothing that the law and all that it calls make is longer than what came in: it says more and counts as full. Else prove '..UptoSaid'. A law counts once. -/
mutual
def uptoBulk {H : Type} : DataW H → Nat
  | .lit (.string bytes) => bytes.length + 1
  | .lit _ => 1
  | .nil => 1
  | .ptr d => uptoBulk d + 1
  | .slice elems spare => uptoBulkAll elems + uptoBulkAll spare + 1
  | .agg parts => uptoBulkAll parts + 1
  | .iface _ d => uptoBulk d + 1
  | .map entries => uptoBulkEntries entries + 1
  | .held _ => 1
def uptoBulkAll {H : Type} : List (DataW H) → Nat
  | [] => 0
  | d :: r => uptoBulk d + uptoBulkAll r
def uptoBulkEntries {H : Type} : List (Lit × DataW H) → Nat
  | [] => 0
  | x :: r => uptoBulkEntry x + uptoBulkEntries r
def uptoBulkEntry {H : Type} : Lit × DataW H → Nat
  | (.string bytes, d) => bytes.length + uptoBulk d + 1
  | (_, d) => uptoBulk d + 1
 end
def uptoSmall : (H : Type) → List (DataW H) → Bool := fun _ ds => decide (uptoBulkAll ds ≤ 1048576)
def OpenSpec.upto (s : _root_.Go.ChangeSpec) : _root_.Go.OpenSpec := { _root_.Go.OpenSpec.ofChange s with cond := some uptoSmall }

/-- 'cloisterlaw02.CodecThere', WHERE WHAT IT READS IS OF BULK AT MOST 1048576: true; the input reads as it did. -/
def codecThereUptoRow : OpenClaim := { program := "ytfhinodieghklab", sum := "f392b3430c0f441ca1b7127addd30b5b61344d06db30eecd6b09919f28bb2317", func := "cloister/cloisterlaw02.CodecThere", spec := "codecThere", unfollowed := true, recurses := true, apart := false, narrowed := true }
def CodecThereUptoSaid : Prop := codecThereUptoRow.holds Try.pinned (OpenSpec.upto codecThereSpec)

/-- 'cloisterlaw02.CodecForm', WHERE WHAT IT READS IS OF BULK AT MOST 1048576: true; the input reads as it did. -/
def codecFormUptoRow : OpenClaim := { program := "ytfhinodieghklab", sum := "f392b3430c0f441ca1b7127addd30b5b61344d06db30eecd6b09919f28bb2317", func := "cloister/cloisterlaw02.CodecForm", spec := "codecForm", unfollowed := true, recurses := true, apart := false, narrowed := true }
def CodecFormUptoSaid : Prop := codecFormUptoRow.holds Try.pinned (OpenSpec.upto codecFormSpec)

/-- 'cloisterlaw02.CodecRises', WHERE WHAT IT READS IS OF BULK AT MOST 1048576: true; the input reads as it did. -/
def codecRisesUptoRow : OpenClaim := { program := "ytfhinodieghklab", sum := "f392b3430c0f441ca1b7127addd30b5b61344d06db30eecd6b09919f28bb2317", func := "cloister/cloisterlaw02.CodecRises", spec := "codecRises", unfollowed := true, recurses := true, apart := false, narrowed := true }
def CodecRisesUptoSaid : Prop := codecRisesUptoRow.holds Try.pinned (OpenSpec.upto codecRisesSpec)

/-- 'cloisterlaw02.CodecLater', WHERE WHAT IT READS IS OF BULK AT MOST 1048576: true; the input reads as it did. -/
def codecLaterUptoRow : OpenClaim := { program := "ytfhinodieghklab", sum := "f392b3430c0f441ca1b7127addd30b5b61344d06db30eecd6b09919f28bb2317", func := "cloister/cloisterlaw02.CodecLater", spec := "codecLater", unfollowed := true, recurses := true, apart := false, narrowed := true }
def CodecLaterUptoSaid : Prop := codecLaterUptoRow.holds Try.pinned (OpenSpec.upto codecLaterSpec)

/-- 'cloisterlaw02.CodecFresh', WHERE WHAT IT READS IS OF BULK AT MOST 1048576: true; the input reads as it did. -/
def codecFreshUptoRow : OpenClaim := { program := "ytfhinodieghklab", sum := "f392b3430c0f441ca1b7127addd30b5b61344d06db30eecd6b09919f28bb2317", func := "cloister/cloisterlaw02.CodecFresh", spec := "codecFresh", unfollowed := true, recurses := true, apart := false, narrowed := true }
def CodecFreshUptoSaid : Prop := codecFreshUptoRow.holds Try.pinned (OpenSpec.upto codecFreshSpec)

/-- 'cloisterlaw02.CodecOwn', WHERE WHAT IT READS IS OF BULK AT MOST 1048576: true; the input reads as it did. -/
def codecOwnUptoRow : OpenClaim := { program := "ytfhinodieghklab", sum := "f392b3430c0f441ca1b7127addd30b5b61344d06db30eecd6b09919f28bb2317", func := "cloister/cloisterlaw02.CodecOwn", spec := "codecOwn", unfollowed := true, recurses := true, apart := false, narrowed := true }
def CodecOwnUptoSaid : Prop := codecOwnUptoRow.holds Try.pinned (OpenSpec.upto codecOwnSpec)

end Rows
end Go.Proofs.Ytfhinodieghklab

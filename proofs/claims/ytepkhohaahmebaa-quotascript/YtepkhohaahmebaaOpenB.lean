/- Opening a law's argument that is a slice of bytes. -/
import Derived.Test.YtepkhohaahmebaaBt1
import Derived.ProofKit
import Derived.OpenShut
import Derived.SizedLaws
import Derived.ShutString
import Derived.ChangeOld
namespace Go.Proofs.Ytepkhohaahmebaa
open Go.ChangeShapes Go.WideShapes Go.ChangeAt Go.RowKit

theorem own : ownKnob Try.prog.godebug = none := by kernel_rfl
theorem laidOut : laidOutB Try.prog = true := by kernel_rfl

theorem nat_of_u32 {a : Int} (h : (Lit.int .u32 a).wf = true) : ∃ n : Nat, a = (n : Int) ∧ n < 4294967296 := by
  simp [Lit.wf, IntKind.min, IntKind.max, IntKind.bits, IntKind.signed] at h
  exact ⟨a.toNat, by omega, by omega⟩
theorem nat_of_u64 {a : Int} (h : (Lit.int .u64 a).wf = true) : ∃ n : Nat, a = (n : Int) ∧ W64 n := by
  have hb := bounds_u64 h
  refine ⟨a.toNat, by omega, ?_⟩
  unfold W64; omega

/-- What a walk is told of a slice of bytes that came in. -/
structure Came8 (w : World) (a : Option Addr) (cap : Nat) (zs : List Nat) : Prop where
  row : RowB w a zs
  all : All8 zs
  size : zs.length ≤ 140737488351232
  fits : zs.length ≤ cap
  capm : cap ≤ maxLen
  none : a = none → zs.length = 0 ∧ cap = 0

theorem bytes8 : Try.prog.bytesOf 5 = 1 := by kernel_rfl
theorem bounds_u8' {a : Int} (h : (Lit.int .u8 a).wf = true) : 0 ≤ a ∧ a < 256 := by
  simp [Lit.wf, IntKind.min, IntKind.max, IntKind.bits, IntKind.signed] at h
  omega
































































end Go.Proofs.Ytepkhohaahmebaa

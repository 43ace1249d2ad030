/- Which entries may be: the program's mayBe, way by way. -/
import Derived.Test.YtlhlpofmeeiffabEe2
namespace Go.Proofs.Ytlhlpofmeeiffab
open Go.RowKit

/-- Whether a field is among these, the field as an int. -/
def havI (c : Nat) (o : Int) : Bool := hav c o.toNat
theorem haveI_any (c : Nat) (o : Int) (w : World) (hcl : c < 256) (h0 : 0 ≤ o) (hol : o < 256) : Calls Try.prog 29 #[.int .u8 (c : Int), .int .u8 o] w fun e w' => e = .returned (.bool (havI c o)) ∧ w' = w := by
  have h := have_any c o.toNat w hcl (by omega)
  rwa [show ((o.toNat : Nat) : Int) = o by omega] at h

set_option maxRecDepth 100000 in
set_option maxHeartbeats 400000 in
theorem mayBe_z (x : En) (a : Option Addr) (cp : Nat) (c : Nat) (w : World) (hcnt : ∀ w, Calls Try.prog 27 #[.int .i64 x.kind] w fun e w' => e = .returned (.int .u8 (c : Int)) ∧ w' = w) (_hcl : c < 256) (hz : ((c : Int) != 0) = false) :
    Calls Try.prog 35 #[valE x a cp] w fun e w' => e = .returned (.bool false) ∧ Below w.heap.size w w' := by
  have hb := boxE_below w x a cp
  obtain ⟨kind, stamp, count, key, val, dead⟩ := x
  simp only at *
  try subst hdd
  go_enter Try.func35, Try.ntmps35
  go_wp2_with (go_at_call 27; refine (hcnt _).mono ?_; rintro e w1 ⟨rfl, hq⟩; have hq2 := hq.symm; subst hq2; clear hq)
  clear hcnt
  go_quiet (fail)
  go_wp2
  go_ret
  exact ⟨rfl, below_drewN hb _⟩

set_option maxRecDepth 100000 in
set_option maxHeartbeats 400000 in
theorem mayBe_k (x : En) (a : Option Addr) (cp : Nat) (c : Nat) (w : World) (hcnt : ∀ w, Calls Try.prog 27 #[.int .i64 x.kind] w fun e w' => e = .returned (.int .u8 (c : Int)) ∧ w' = w) (hcl : c < 256) (hz : ((c : Int) != 0) = true) (hK : fitI (havI c 1) (x.key.size : Int) 1 255 = false) :
    Calls Try.prog 35 #[valE x a cp] w fun e w' => e = .returned (.bool false) ∧ Below w.heap.size w w' := by
  have hb := boxE_below w x a cp
  obtain ⟨kind, stamp, count, key, val, dead⟩ := x
  simp only at *
  try subst hdd
  go_enter Try.func35, Try.ntmps35
  go_wp2_with (go_at_call 27; refine (hcnt _).mono ?_; rintro e w1 ⟨rfl, hq⟩; have hq2 := hq.symm; subst hq2; clear hq)
  clear hcnt
  go_quiet (first | (go_at_call 29; exact Calls.quiet_of_same (haveI_any c _ _ hcl (by decide) (by decide))) | (go_at_call 45; exact Calls.quiet_of_same (fits_any _ _ _ _ _)))
  go_wp2
  go_ret
  exact ⟨rfl, below_drewN hb _⟩

end Go.Proofs.Ytlhlpofmeeiffab

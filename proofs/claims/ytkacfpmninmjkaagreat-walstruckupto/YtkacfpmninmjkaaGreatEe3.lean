/- Which entries may be: the program's mayBe, way by way. Which entries may be: the program's mayBe, the other ways. Which entries may be: the program's mayBe, the way of what is dead and may not be. -/
import Derived.Test.YtkacfpmninmjkaaGreatEe2
namespace Go.Proofs.YtkacfpmninmjkaaGreat
open Go.RowKit

/-- Whether a field is among these, the field as an int. -/
def havI (c : Nat) (o : Int) : Bool := hav c o.toNat
theorem haveI_any (c : Nat) (o : Int) (w : World) (hcl : c < 256) (h0 : 0 ≤ o) (hol : o < 256) : Calls Tryz.prog 99 #[.int .u8 (c : Int), .int .u8 o] w fun e w' => e = .returned (.bool (havI c o)) ∧ w' = w := by
  have h := have_any c o.toNat w hcl (by omega)
  rwa [show ((o.toNat : Nat) : Int) = o by omega] at h

set_option maxRecDepth 100000 in
set_option maxHeartbeats 400000 in
theorem mayBe_z (x : En) (a : Option Addr) (cp : Nat) (c : Nat) (w : World) (hcnt : ∀ w, Calls Tryz.prog 97 #[.int .i64 x.kind] w fun e w' => e = .returned (.int .u8 (c : Int)) ∧ w' = w) (_hcl : c < 256) (hz : ((c : Int) != 0) = false) :
    Calls Tryz.prog 76 #[valE x a cp] w fun e w' => e = .returned (.bool false) ∧ Below w.heap.size w w' := by
  have hb := boxE_below w x a cp
  obtain ⟨kind, stamp, count, key, val, dead⟩ := x
  simp only at *
  try subst hdd
  go_enter Tryz.func76, Tryz.ntmps76
  go_wp2_with (go_at_call 97; refine (hcnt _).mono ?_; rintro e w1 ⟨rfl, hq⟩; have hq2 := hq.symm; subst hq2; clear hq)
  clear hcnt
  go_quiet (fail)
  go_wp2
  go_ret
  exact ⟨rfl, below_drewN hb _⟩

set_option maxRecDepth 100000 in
set_option maxHeartbeats 400000 in
theorem mayBe_k (x : En) (a : Option Addr) (cp : Nat) (c : Nat) (w : World) (hcnt : ∀ w, Calls Tryz.prog 97 #[.int .i64 x.kind] w fun e w' => e = .returned (.int .u8 (c : Int)) ∧ w' = w) (hcl : c < 256) (hz : ((c : Int) != 0) = true) (hK : fitI (havI c 1) (x.key.size : Int) 1 255 = false) :
    Calls Tryz.prog 76 #[valE x a cp] w fun e w' => e = .returned (.bool false) ∧ Below w.heap.size w w' := by
  have hb := boxE_below w x a cp
  obtain ⟨kind, stamp, count, key, val, dead⟩ := x
  simp only at *
  try subst hdd
  go_enter Tryz.func76, Tryz.ntmps76
  go_wp2_with (go_at_call 97; refine (hcnt _).mono ?_; rintro e w1 ⟨rfl, hq⟩; have hq2 := hq.symm; subst hq2; clear hq)
  clear hcnt
  go_quiet (first | (go_at_call 99; exact Calls.quiet_of_same (haveI_any c _ _ hcl (by decide) (by decide))) | (go_at_call 98; exact Calls.quiet_of_same (fits_any _ _ _ _ _)))
  go_wp2
  go_ret
  exact ⟨rfl, below_drewN hb _⟩

end Go.Proofs.YtkacfpmninmjkaaGreat

namespace Go.Proofs.YtkacfpmninmjkaaGreat
open Go.RowKit

set_option maxRecDepth 100000 in
set_option maxHeartbeats 400000 in
theorem mayBe_s (x : En) (a : Option Addr) (cp : Nat) (c : Nat) (w : World) (hcnt : ∀ w, Calls Tryz.prog 97 #[.int .i64 x.kind] w fun e w' => e = .returned (.int .u8 (c : Int)) ∧ w' = w) (hcl : c < 256) (hz : ((c : Int) != 0) = true) (hK : fitI (havI c 1) (x.key.size : Int) 1 255 = true) (hS : fitI (havI c 2) x.stamp 0 4611686018427387904 = false) :
    Calls Tryz.prog 76 #[valE x a cp] w fun e w' => e = .returned (.bool false) ∧ Below w.heap.size w w' := by
  have hb := boxE_below w x a cp
  obtain ⟨kind, stamp, count, key, val, dead⟩ := x
  simp only at *
  try subst hdd
  go_enter Tryz.func76, Tryz.ntmps76
  go_wp2_with (go_at_call 97; refine (hcnt _).mono ?_; rintro e w1 ⟨rfl, hq⟩; have hq2 := hq.symm; subst hq2; clear hq)
  clear hcnt
  go_quiet (first | (go_at_call 99; exact Calls.quiet_of_same (haveI_any c _ _ hcl (by decide) (by decide))) | (go_at_call 98; exact Calls.quiet_of_same (fits_any _ _ _ _ _)))
  go_wp2
  go_ret
  exact ⟨rfl, below_drewN hb _⟩

set_option maxRecDepth 100000 in
set_option maxHeartbeats 400000 in
theorem mayBe_c (x : En) (a : Option Addr) (cp : Nat) (c : Nat) (w : World) (hcnt : ∀ w, Calls Tryz.prog 97 #[.int .i64 x.kind] w fun e w' => e = .returned (.int .u8 (c : Int)) ∧ w' = w) (hcl : c < 256) (hz : ((c : Int) != 0) = true) (hK : fitI (havI c 1) (x.key.size : Int) 1 255 = true) (hS : fitI (havI c 2) x.stamp 0 4611686018427387904 = true) (hC : fitI (havI c 4) x.count 0 2147483647 = false) :
    Calls Tryz.prog 76 #[valE x a cp] w fun e w' => e = .returned (.bool false) ∧ Below w.heap.size w w' := by
  have hb := boxE_below w x a cp
  obtain ⟨kind, stamp, count, key, val, dead⟩ := x
  simp only at *
  try subst hdd
  go_enter Tryz.func76, Tryz.ntmps76
  go_wp2_with (go_at_call 97; refine (hcnt _).mono ?_; rintro e w1 ⟨rfl, hq⟩; have hq2 := hq.symm; subst hq2; clear hq)
  clear hcnt
  go_quiet (first | (go_at_call 99; exact Calls.quiet_of_same (haveI_any c _ _ hcl (by decide) (by decide))) | (go_at_call 98; exact Calls.quiet_of_same (fits_any _ _ _ _ _)))
  go_wp2
  go_ret
  exact ⟨rfl, below_drewN hb _⟩

set_option maxRecDepth 100000 in
set_option maxHeartbeats 400000 in
theorem mayBe_v1 (x : En) (a : Option Addr) (cp : Nat) (c : Nat) (w : World) (hcnt : ∀ w, Calls Tryz.prog 97 #[.int .i64 x.kind] w fun e w' => e = .returned (.int .u8 (c : Int)) ∧ w' = w) (hcl : c < 256) (hz : ((c : Int) != 0) = true) (hK : fitI (havI c 1) (x.key.size : Int) 1 255 = true) (hS : fitI (havI c 2) x.stamp 0 4611686018427387904 = true) (hC : fitI (havI c 4) x.count 0 2147483647 = true) (h8 : havI c 8 = true) (h16 : havI c 16 = false) :
    Calls Tryz.prog 76 #[valE x a cp] w fun e w' => e = .returned (.bool (fitI false x.val.length 0 4096)) ∧ Below w.heap.size w w' := by
  have hb := boxE_below w x a cp
  obtain ⟨kind, stamp, count, key, val, dead⟩ := x
  simp only at *
  try subst hdd
  go_enter Tryz.func76, Tryz.ntmps76
  go_wp2_with (go_at_call 97; refine (hcnt _).mono ?_; rintro e w1 ⟨rfl, hq⟩; have hq2 := hq.symm; subst hq2; clear hq)
  clear hcnt
  go_quiet (first | (go_at_call 99; exact Calls.quiet_of_same (haveI_any c _ _ hcl (by decide) (by decide))) | (go_at_call 98; exact Calls.quiet_of_same (fits_any _ _ _ _ _)))
  go_wp2
  go_ret
  exact ⟨rfl, below_drewN hb _⟩

set_option maxRecDepth 100000 in
set_option maxHeartbeats 400000 in
theorem mayBe_v2 (x : En) (a : Option Addr) (cp : Nat) (c : Nat) (w : World) (hcnt : ∀ w, Calls Tryz.prog 97 #[.int .i64 x.kind] w fun e w' => e = .returned (.int .u8 (c : Int)) ∧ w' = w) (hcl : c < 256) (hz : ((c : Int) != 0) = true) (hK : fitI (havI c 1) (x.key.size : Int) 1 255 = true) (hS : fitI (havI c 2) x.stamp 0 4611686018427387904 = true) (hC : fitI (havI c 4) x.count 0 2147483647 = true) (h8 : havI c 8 = true) (h16 : havI c 16 = true) :
    Calls Tryz.prog 76 #[valE x a cp] w fun e w' => e = .returned (.bool (fitI (!x.dead) x.val.length 0 4096)) ∧ Below w.heap.size w w' := by
  have hb := boxE_below w x a cp
  obtain ⟨kind, stamp, count, key, val, dead⟩ := x
  simp only at *
  try subst hdd
  go_enter Tryz.func76, Tryz.ntmps76
  go_wp2_with (go_at_call 97; refine (hcnt _).mono ?_; rintro e w1 ⟨rfl, hq⟩; have hq2 := hq.symm; subst hq2; clear hq)
  clear hcnt
  go_quiet (first | (go_at_call 99; exact Calls.quiet_of_same (haveI_any c _ _ hcl (by decide) (by decide))) | (go_at_call 98; exact Calls.quiet_of_same (fits_any _ _ _ _ _)))
  go_wp2
  go_ret
  exact ⟨rfl, below_drewN hb _⟩

set_option maxRecDepth 100000 in
set_option maxHeartbeats 400000 in
theorem mayBe_v3 (x : En) (a : Option Addr) (cp : Nat) (c : Nat) (w : World) (hcnt : ∀ w, Calls Tryz.prog 97 #[.int .i64 x.kind] w fun e w' => e = .returned (.int .u8 (c : Int)) ∧ w' = w) (hcl : c < 256) (hz : ((c : Int) != 0) = true) (hK : fitI (havI c 1) (x.key.size : Int) 1 255 = true) (hS : fitI (havI c 2) x.stamp 0 4611686018427387904 = true) (hC : fitI (havI c 4) x.count 0 2147483647 = true) (h8 : havI c 8 = false) (hdd : x.dead = false) (h16 : havI c 16 = false) :
    Calls Tryz.prog 76 #[valE x a cp] w fun e w' => e = .returned (.bool (fitI false x.val.length 0 4096)) ∧ Below w.heap.size w w' := by
  have hb := boxE_below w x a cp
  obtain ⟨kind, stamp, count, key, val, dead⟩ := x
  simp only at *
  try subst hdd
  go_enter Tryz.func76, Tryz.ntmps76
  go_wp2_with (go_at_call 97; refine (hcnt _).mono ?_; rintro e w1 ⟨rfl, hq⟩; have hq2 := hq.symm; subst hq2; clear hq)
  clear hcnt
  go_quiet (first | (go_at_call 99; exact Calls.quiet_of_same (haveI_any c _ _ hcl (by decide) (by decide))) | (go_at_call 98; exact Calls.quiet_of_same (fits_any _ _ _ _ _)))
  go_wp2
  go_ret
  exact ⟨rfl, below_drewN hb _⟩

set_option maxRecDepth 100000 in
set_option maxHeartbeats 400000 in
theorem mayBe_v4 (x : En) (a : Option Addr) (cp : Nat) (c : Nat) (w : World) (hcnt : ∀ w, Calls Tryz.prog 97 #[.int .i64 x.kind] w fun e w' => e = .returned (.int .u8 (c : Int)) ∧ w' = w) (hcl : c < 256) (hz : ((c : Int) != 0) = true) (hK : fitI (havI c 1) (x.key.size : Int) 1 255 = true) (hS : fitI (havI c 2) x.stamp 0 4611686018427387904 = true) (hC : fitI (havI c 4) x.count 0 2147483647 = true) (h8 : havI c 8 = false) (hdd : x.dead = false) (h16 : havI c 16 = true) :
    Calls Tryz.prog 76 #[valE x a cp] w fun e w' => e = .returned (.bool (fitI true x.val.length 0 4096)) ∧ Below w.heap.size w w' := by
  have hb := boxE_below w x a cp
  obtain ⟨kind, stamp, count, key, val, dead⟩ := x
  simp only at *
  try subst hdd
  go_enter Tryz.func76, Tryz.ntmps76
  go_wp2_with (go_at_call 97; refine (hcnt _).mono ?_; rintro e w1 ⟨rfl, hq⟩; have hq2 := hq.symm; subst hq2; clear hq)
  clear hcnt
  go_quiet (first | (go_at_call 99; exact Calls.quiet_of_same (haveI_any c _ _ hcl (by decide) (by decide))) | (go_at_call 98; exact Calls.quiet_of_same (fits_any _ _ _ _ _)))
  go_wp2
  go_ret
  exact ⟨rfl, below_drewN hb _⟩

end Go.Proofs.YtkacfpmninmjkaaGreat

namespace Go.Proofs.YtkacfpmninmjkaaGreat
open Go.RowKit

theorem haveL_any (c : Nat) (o : Int) (b : Bool) (w : World) (hcl : c < 256) (h0 : 0 ≤ o) (hol : o < 256) (hb : havI c o = b) : Calls Tryz.prog 99 #[.int .u8 (c : Int), .int .u8 o] w fun e w' => e = .returned (.bool b) ∧ w' = w := by
  rw [← hb]; exact haveI_any c o w hcl h0 hol

set_option maxRecDepth 100000 in
set_option maxHeartbeats 400000 in
theorem mayBe_d (x : En) (a : Option Addr) (cp : Nat) (c : Nat) (w : World) (hcnt : ∀ w, Calls Tryz.prog 97 #[.int .i64 x.kind] w fun e w' => e = .returned (.int .u8 (c : Int)) ∧ w' = w) (hcl : c < 256) (hz : ((c : Int) != 0) = true) (hK : fitI (havI c 1) (x.key.size : Int) 1 255 = true) (hS : fitI (havI c 2) x.stamp 0 4611686018427387904 = true) (hC : fitI (havI c 4) x.count 0 2147483647 = true) (h8 : havI c 8 = false) (hdd : (!x.dead) = false) :
    Calls Tryz.prog 76 #[valE x a cp] w fun e w' => e = .returned (.bool false) ∧ Below w.heap.size w w' := by
  have hb := boxE_below w x a cp
  obtain ⟨kind, stamp, count, key, val, dead⟩ := x
  simp only at *
  go_enter Tryz.func76, Tryz.ntmps76
  go_wp2_with (go_at_call 97; refine (hcnt _).mono ?_; rintro e w1 ⟨rfl, hq⟩; have hq2 := hq.symm; subst hq2; clear hq)
  clear hcnt
  go_quiet (first | (go_at_call 99; first | exact Calls.quiet_of_same (haveL_any c _ _ _ hcl (by decide) (by decide) h8) | exact Calls.quiet_of_same (haveI_any c _ _ hcl (by decide) (by decide))) | (go_at_call 98; exact Calls.quiet_of_same (fits_any _ _ _ _ _)))
  go_wp2
  go_ret
  exact ⟨rfl, below_drewN hb _⟩

end Go.Proofs.YtkacfpmninmjkaaGreat

/- The document's small functions of entries: which fields count, two compared, copies. -/
import Derived.Test.YtkacfpmninmjkaaGreatEe10
namespace Go.Proofs.YtkacfpmninmjkaaGreat
open Go.RowKit

set_option maxRecDepth 100000 in
set_option maxHeartbeats 400000 in
theorem rcounted_any (k : Int) (w : World) : Calls Tryz.prog 75 #[.int .i64 k] w fun e w' => e = .returned (.bool (hc k)) ∧ w' = w := by
  have HH : Hid (hc k = (k == 3 || k == 4 || k == 6)) := rfl
  cases h3 : (k == 3) <;> cases h4 : (k == 4) <;> cases h6 : (k == 6)
  all_goals
    go_enter Tryz.func75, Tryz.ntmps75
    go_wp2
    go_ret
    rw [HH.out]
    simp [h3, h4, h6]
set_option maxRecDepth 100000 in
set_option maxHeartbeats 400000 in
theorem rkeyed_any (k : Int) (w : World) : Calls Tryz.prog 72 #[.int .i64 k] w fun e w' => e = .returned (.bool (hk k)) ∧ w' = w := by
  have HH : Hid (hk k = (k == 1 || k == 2 || k == 5)) := rfl
  cases h3 : (k == 1) <;> cases h4 : (k == 2) <;> cases h6 : (k == 5)
  all_goals
    go_enter Tryz.func72, Tryz.ntmps72
    go_wp2
    go_ret
    rw [HH.out]
    simp [h3, h4, h6]
set_option maxRecDepth 100000 in
set_option maxHeartbeats 400000 in
theorem rvalued_any (k : Int) (w : World) : Calls Tryz.prog 73 #[.int .i64 k] w fun e w' => e = .returned (.bool (hv k)) ∧ w' = w := by
  have HH : Hid (hv k = (k == 1 || k == 5)) := rfl
  cases h3 : (k == 1) <;> cases h6 : (k == 5)
  all_goals
    go_enter Tryz.func73, Tryz.ntmps73
    go_wp2
    go_ret
    rw [HH.out]
    simp [h3, h6]
set_option maxRecDepth 100000 in
set_option maxHeartbeats 400000 in
theorem rstamped_any (k : Int) (w : World) : Calls Tryz.prog 74 #[.int .i64 k] w fun e w' => e = .returned (.bool (hs k)) ∧ w' = w := by
  have hcn := rcounted_any k w
  have HH : Hid (hs k = (hc k || k == 5)) := by
    unfold Hid hs hc
    cases (k == 3) <;> cases (k == 4) <;> cases (k == 6) <;> cases (k == 5) <;> rfl
  generalize hc k = b at *
  cases b <;> cases h5 : (k == 5)
  all_goals
    go_enter Tryz.func74, Tryz.ntmps74
    go_wp2_with fail
    refine hcn.mono ?_
    rintro e w' ⟨rfl, hq⟩
    have hq2 := hq.symm
    subst hq2
    go_wp2_with fail
    go_ret
    rw [HH.out]
    simp [h5]

set_option maxRecDepth 100000 in
set_option maxHeartbeats 1000000 in
theorem same_eq (x : En) (a b : Option Addr) (ca cb : Nat) (w : World) (hra : RowB w a x.val) (hrb : RowB w b x.val) (hna : a = none → x.val.length = 0 ∧ ca = 0) (hnb : b = none → x.val.length = 0 ∧ cb = 0) :
    Calls Tryz.prog 56 #[valE x a ca, valE x b cb] w fun e w' => e = .returned (.bool true) ∧ Below w.heap.size w w' := by
  have hb1 := boxE_below w x a ca
  have hb2 := hb1.trans ((boxE_below (boxE w x a ca) x b cb).mono hb1.size)
  have ka := conv_row (hra.below hb2) hna
  have kb := conv_row (hrb.below hb2) hnb
  obtain ⟨kind, stamp, count, key, val, dead⟩ := x
  simp only at ka kb
  generalize strOf val = sv at *
  clear hra hrb hna hnb hb1
  go_enter Tryz.func56, Tryz.ntmps56
  go_wp2
  go_ret
  exact ⟨rfl, hb2⟩

/-- A version. -/
structure Vn where
  key : ByteArray
  stamp : Int
  val : List Nat
  dead : Bool
abbrev valV (x : Vn) (a : Option Addr) (c : Nat) : Value := .agg #[.string x.key, .int .i64 x.stamp, .slice a x.val.length c, .bool x.dead]




















end Go.Proofs.YtkacfpmninmjkaaGreat

/- Which entries may be: the program's small functions, mayBe and Check. -/
import Derived.Test.YtkacfpmninmjkaaGreatEe1
namespace Go.Proofs.YtkacfpmninmjkaaGreat
open Go.RowKit

/-- An entry as a value; the world behind its box. -/
abbrev valE (x : En) (a : Option Addr) (c : Nat) : Value := .agg #[.int .i64 x.kind, .int .i64 x.stamp, .int .i64 x.count, .string x.key, .slice a x.val.length c, .bool x.dead]
abbrev boxE (w : World) (x : En) (a : Option Addr) (c : Nat) : World := w.alloc (.cells #[.int .i64 x.kind, .int .i64 x.stamp, .int .i64 x.count, .string x.key, .slice a x.val.length c, .bool x.dead] 77)
theorem boxE_below (w : World) (x : En) (a : Option Addr) (c : Nat) : Below w.heap.size w (boxE w x a c) := (Below.refl _ _).alloc (Nat.le_refl _) _
/-- What is known of an entry that is handed over. -/
structure EnOk (w : World) (x : En) (a : Option Addr) (c : Nat) : Prop where
  kind : -9223372036854775808 ≤ x.kind ∧ x.kind ≤ 9223372036854775807
  stamp : -9223372036854775808 ≤ x.stamp ∧ x.stamp ≤ 9223372036854775807
  count : -9223372036854775808 ≤ x.count ∧ x.count ≤ 9223372036854775807
  key : x.key.size ≤ 140737488355328
  row : RowB w a x.val
  all : All8 x.val
  size : x.val.length ≤ 140737488355328
  fits : x.val.length ≤ c
  none : a = none → x.val.length = 0 ∧ c = 0
theorem EnOk.below {w w' : World} {x : En} {a : Option Addr} {c : Nat} (h : EnOk w x a c) (hb : Below w.heap.size w w') : EnOk w' x a c :=
  ⟨h.kind, h.stamp, h.count, h.key, h.row.below hb, h.all, h.size, h.fits, h.none⟩

/-- The fields that count of a kind, in bits. -/
def cnt (k : Int) : Nat := if k = 1 then 17 else if k = 2 then 1 else if k = 3 ∨ k = 4 ∨ k = 6 then 6 else if k = 5 then 27 else 0
/-- Whether a field is among these. -/
def hav (c o : Nat) : Bool := (c &&& o) != 0

set_option maxRecDepth 100000 in
set_option maxHeartbeats 400000 in
theorem countsOf_any (k : Int) (w : World) : Calls Tryz.prog 97 #[.int .i64 k] w fun e w' => e = .returned (.int .u8 ((cnt k : Nat) : Int)) ∧ w' = w := by
  by_cases h1 : k = 1
  · subst h1
    go_enter Tryz.func97, Tryz.ntmps97
    go_wp2
    go_ret
    exact ⟨rfl, rfl⟩
  by_cases h2 : k = 2
  · subst h2
    go_enter Tryz.func97, Tryz.ntmps97
    go_wp2
    go_ret
    exact ⟨rfl, rfl⟩
  by_cases h3 : k = 3
  · subst h3
    go_enter Tryz.func97, Tryz.ntmps97
    go_wp2
    go_ret
    exact ⟨rfl, rfl⟩
  by_cases h4 : k = 4
  · subst h4
    go_enter Tryz.func97, Tryz.ntmps97
    go_wp2
    go_ret
    exact ⟨rfl, rfl⟩
  by_cases h5 : k = 5
  · subst h5
    go_enter Tryz.func97, Tryz.ntmps97
    go_wp2
    go_ret
    exact ⟨rfl, rfl⟩
  by_cases h6 : k = 6
  · subst h6
    go_enter Tryz.func97, Tryz.ntmps97
    go_wp2
    go_ret
    exact ⟨rfl, rfl⟩
  have HC : Hid (cnt k = 0) := by unfold Hid cnt; rw [if_neg h1, if_neg h2, if_neg (by omega), if_neg h5]
  have b1 : (k == 1) = false := by simpa using h1
  have b2 : (k == 2) = false := by simpa using h2
  have b3 : (k == 3) = false := by simpa using h3
  have b4 : (k == 4) = false := by simpa using h4
  have b5 : (k == 5) = false := by simpa using h5
  have b6 : (k == 6) = false := by simpa using h6
  clear h1 h2 h3 h4 h5 h6
  go_enter Tryz.func97, Tryz.ntmps97
  go_wp2
  go_ret
  rw [HC.out]
  exact ⟨rfl, rfl⟩

set_option maxRecDepth 100000 in
set_option maxHeartbeats 400000 in
theorem have_any (c o : Nat) (w : World) (hcl : c < 256) (hol : o < 256) : Calls Tryz.prog 99 #[.int .u8 (c : Int), .int .u8 (o : Int)] w fun e w' => e = .returned (.bool (hav c o)) ∧ w' = w := by
  have hb := u8_and_nat c o hcl hol
  have HH : Hid (hav c o = ((c &&& o) != 0)) := rfl
  generalize c &&& o = x at *
  have HT : Hid (hav c o = ((x : Int) != 0)) := by
    unfold Hid
    rw [HH.out]
    by_cases hx : x = 0
    · subst hx; rfl
    · have h1 : (x != 0) = true := by simpa using hx
      have h2 : ((x : Int) != 0) = true := by simpa using hx
      rw [h1, h2]
  clear HH
  go_enter Tryz.func99, Tryz.ntmps99
  go_wp2
  go_ret
  rw [HT.out]
  exact ⟨rfl, rfl⟩

set_option maxRecDepth 100000 in
set_option maxHeartbeats 400000 in
theorem octet_any (d : Bool) (w : World) : Calls Tryz.prog 103 #[.bool d] w fun e w' => e = .returned (.int .u8 ((if d then 1 else 0 : Nat) : Int)) ∧ w' = w := by
  cases d <;> (go_enter Tryz.func103, Tryz.ntmps103; go_wp2; go_ret; exact ⟨rfl, rfl⟩)

set_option maxRecDepth 100000 in
set_option maxHeartbeats 400000 in
theorem fits_any (b : Bool) (n lo hi : Int) (w : World) : Calls Tryz.prog 98 #[.bool b, .int .i64 n, .int .i64 lo, .int .i64 hi] w fun e w' => e = .returned (.bool (fitI b n lo hi)) ∧ w' = w := by
  cases b
  · have HF : Hid (fitI false n lo hi = (n == 0)) := rfl
    go_enter Tryz.func98, Tryz.ntmps98
    go_wp2
    go_ret
    rw [HF.out]
    exact ⟨rfl, rfl⟩
  · by_cases h1 : lo ≤ n
    · have HF : Hid (fitI true n lo hi = decide (n ≤ hi)) := by unfold Hid fitI; simp [h1]
      have h1' : decide (lo ≤ n) = true := by simpa using h1
      go_enter Tryz.func98, Tryz.ntmps98
      go_wp2
      go_ret
      rw [HF.out]
      exact ⟨rfl, rfl⟩
    · have HF : Hid (fitI true n lo hi = false) := by unfold Hid fitI; simp [h1]
      have h1' : decide (lo ≤ n) = false := by simpa using h1
      go_enter Tryz.func98, Tryz.ntmps98
      go_wp2
      go_ret
      rw [HF.out]
      exact ⟨rfl, rfl⟩

end Go.Proofs.YtkacfpmninmjkaaGreat

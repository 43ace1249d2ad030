/- What Check of the program answers, with all that it calls. -/
import Derived.Test.YthclmkmajlinhabWalk1
import Derived.Test.YthclmkmajlinhabLists
import Derived.Deep.QuietTactic
import Derived.BigQuiet
namespace Go.Proofs.Ythclmkmajlinhab
open Go.RowKit

set_option maxHeartbeats 400000 in
theorem index_any (a : Option Addr) (cap : Nat) (zs : List Nat) (x : Nat) (w : World) (hr : Row w a zs) (hl : zs.length ≤ maxLen) :
    Calls Try.prog 74 #[.slice a zs.length cap, .int .u64 (x : Int)] w fun e w' => e = .returned (.int .i64 (idx zs x)) ∧ w' = w := by
  unfold maxLen at hl
  go_enter Try.func74, Try.ntmps74
  go_wp2
  go_loop [8] (fun i => ∃ k : Nat, k ≤ zs.length ∧ i = .int .i64 k ∧ Hid (notIn zs x k)) (fun i => zs.length - (intOf i).toNat)
  case atStart => exact ⟨0, by omega, rfl, fun i hi => by omega⟩
  case round =>
    obtain ⟨k, hk, rfl, hto⟩ := hrel
    by_cases hlt : k < zs.length
    · obtain ⟨b, o, rfl, _, hc⟩ := hr.here hlt
      have hck := hc k hlt
      clear hr hc
      obtain ⟨z, hz⟩ : ∃ z, z = at0 zs k := ⟨_, rfl⟩
      have HZ : Hid (z = at0 zs k) := hz
      rw [← hz] at hck
      clear hz
      cases he : ((x : Int) == (z : Int))
      · go_wp2
        go_round
        case rel => exact ⟨k + 1, by omega, by go_num, notIn_succ hto (fun e => by have h2 := HZ.out; rw [← h2] at e; subst e; simp at he)⟩
        case measure => simp [intOf]; omega
      · go_wp2
        go_ret
        have e2 : at0 zs k = x := by have h2 := HZ.out; have := eq_of_beq he; omega
        rw [idx_found hto hlt e2]
        exact ⟨rfl, rfl⟩
    · go_wp2
      go_ret
      have he : k = zs.length := by omega
      subst he
      rw [idx_none hto]
      exact ⟨rfl, rfl⟩

set_option maxHeartbeats 400000 in
theorem contains_any (a : Option Addr) (cap : Nat) (zs : List Nat) (x : Nat) (w : World) (hr : Row w a zs) (hl : zs.length ≤ maxLen) :
    Calls Try.prog 58 #[.slice a zs.length cap, .int .u64 (x : Int)] w fun e w' => e = .returned (.bool (decide (x ∈ zs))) ∧ w' = w := by
  have hd := idx_neg (zs := zs) (x := x)
  obtain ⟨d, hde⟩ : ∃ d, d = decide (x ∈ zs) := ⟨_, rfl⟩
  rw [← hde] at hd ⊢
  clear hde
  go_enter Try.func58, Try.ntmps58
  go_wp2_with (go_at_call 74; refine (index_any _ _ _ _ _ (by assumption) (by assumption)).mono ?_; rintro e w' ⟨rfl, rfl⟩)
  go_ret
  exact ⟨rfl, rfl⟩

theorem below_drewN {w w' : World} {B : Nat} (h : Below B w w') (q : Nat) : Below B w (w'.drewN q) := by
  induction q with
  | zero => exact h
  | succ q ih => exact ih.drew

theorem below_undrew {w w' : World} {B : Nat} (h : Below B w.drew w') : Below B w w' := ⟨h.os, h.tape, h.output, h.size, h.block⟩
theorem Row.drew {w : World} {a : Option Addr} {zs : List Nat} (h : Row w a zs) : Row w.drew a zs := h.below (Below.refl _ _).drew

set_option maxHeartbeats 400000 in
theorem rise_any (a : Option Addr) (cap : Nat) (zs : List Nat) (w : World) (hr : Row w a zs) (hl : zs.length ≤ maxLen) :
    Calls Try.prog 42 #[.slice a zs.length cap] w fun e w' => e = .returned (.bool (risesB zs)) ∧ Below w.heap.size w w' := by
  unfold maxLen at hl
  go_enter Try.func42, Try.ntmps42
  go_wp2
  go_loopw [3] (fun i wr => ∃ k : Nat, 1 ≤ k ∧ k ≤ zs.length + 1 ∧ i = .int .i64 k ∧ Hid (risesTo zs k) ∧ Below w.heap.size w wr) (fun i _ => zs.length + 1 - (intOf i).toNat)
  case atStart => exact ⟨1, by omega, by omega, rfl, fun i hi => by omega, Below.refl _ _⟩
  case round =>
    obtain ⟨k, hk1, hk, rfl, hto, hbl⟩ := hrel
    by_cases hlt : k < zs.length
    · obtain ⟨b, o, rfl, _, hc⟩ := (hr.below hbl).here hlt
      have hck := hc k hlt
      have hck1 := hc (k - 1) (by omega)
      clear hc
      obtain ⟨z, hz⟩ : ∃ z, z = at0 zs k := ⟨_, rfl⟩
      obtain ⟨y, hy⟩ : ∃ y, y = at0 zs (k - 1) := ⟨_, rfl⟩
      have HZ : Hid (z = at0 zs k) := hz
      have HY : Hid (y = at0 zs (k - 1)) := hy
      rw [← hz] at hck
      rw [← hy] at hck1
      clear hz hy
      have hi1 : (k : Int) < (zs.length : Int) := by omega
      have hi2 : (k : Int) - 1 < (zs.length : Int) := by omega
      have hi3 : (0 : Int) ≤ (k : Int) - 1 := by omega
      by_cases he : z ≤ y
      · have hd : decide ((z : Int) ≤ (y : Int)) = true := by simpa using he
        go_wp2
        go_quiet (fail)
        go_wp2
        go_ret
        have hz := HZ.out
        have hy := HY.out
        rw [rises_no hk1 hlt (by omega)]
        exact ⟨rfl, below_drewN hbl _⟩
      · have hd : decide ((z : Int) ≤ (y : Int)) = false := by simp; omega
        go_wp2
        go_quiet (fail)
        go_wp2
        go_roundw
        case rel =>
          have hz := HZ.out
          have hy := HY.out
          exact ⟨k + 1, by omega, by omega, by go_num, risesTo_succ hto hk1 (by omega), below_drewN hbl _⟩
        case measure => simp [intOf]; omega
    · go_wp2
      go_ret
      have he : k = zs.length ∨ k = zs.length + 1 := by omega
      have hf : risesB zs = true := risesB_iff.2 (fun i hi => hto i (by omega))
      rw [hf]
      exact ⟨rfl, hbl⟩


def goodTo (zs : List Nat) (i : Nat) : Prop := ∀ i', i' < i → ∀ j, j < i' → good zs i' j
def goodRow (zs : List Nat) (i j : Nat) : Prop := ∀ j', j' < j → good zs i j'

theorem goodTo_succ {zs : List Nat} {k : Nat} (h : goodTo zs k) (hr : goodRow zs k k) : goodTo zs (k + 1) := by
  intro i hi j hj
  by_cases e : i = k
  · subst e; exact hr j hj
  · exact h i (by omega) j hj
theorem goodRow_succ {zs : List Nat} {k j : Nat} (h : goodRow zs k j) (hg : good zs k j) : goodRow zs k (j + 1) := by
  intro i hi
  by_cases e : i = j
  · subst e; exact hg
  · exact h i (by omega)

set_option maxHeartbeats 1000000 in
theorem closed_any (a : Option Addr) (cap : Nat) (zs : List Nat) (w : World) (hr : Row w a zs) (h64 : All64 zs) (hl : zs.length ≤ maxLen) (hcap : zs.length ≤ cap) :
    Calls Try.prog 43 #[.slice a zs.length cap] w fun e w' => e = .returned (.bool (closedB zs)) ∧ w' = w := by
  have hl' := hl
  unfold maxLen at hl'
  go_enter Try.func43, Try.ntmps43
  go_wp2
  go_loop [9] (fun i => ∃ k : Nat, k ≤ zs.length ∧ i = .int .i64 k ∧ Hid (goodTo zs k)) (fun i => zs.length - (intOf i).toNat)
  case atStart => exact ⟨0, by omega, rfl, fun i hi => by omega⟩
  case round =>
    obtain ⟨k, hk, rfl, hto⟩ := hrel
    by_cases hlt : k < zs.length
    · obtain ⟨b, o, rfl, _, hc⟩ := hr.here hlt
      have hck := hc k hlt
      have HC : Hid (∀ i, i < zs.length → w.cell? ⟨b, o + i, none⟩ = some (.int .u64 ((at0 zs i : Nat) : Int))) := hc
      clear hc
      obtain ⟨x, hx⟩ : ∃ x, x = at0 zs k := ⟨_, rfl⟩
      have HX : Hid (x = at0 zs k) := hx
      have hx64 : W64 x := hx ▸ h64.at k
      rw [← hx] at hck
      clear hx
      go_wp2
      go_loop [18] (fun i => ∃ j : Nat, j ≤ k ∧ i = .int .i64 j ∧ Hid (goodRow zs k j)) (fun i => k - (intOf i).toNat)
      case atStart => exact ⟨0, by omega, rfl, fun i hi => by omega⟩
      case round =>
        obtain ⟨j, hj, rfl, hrow⟩ := hrel
        by_cases hjlt : j < k
        · have hcj := HC.out j (by omega)
          obtain ⟨y, hy⟩ : ∃ y, y = at0 zs j := ⟨_, rfl⟩
          have HY : Hid (y = at0 zs j) := hy
          have hy64 : W64 y := hy ▸ h64.at j
          rw [← hy] at hcj
          clear hy
          obtain ⟨d1, hd1⟩ : ∃ d, d = decide ((x ||| y) ∈ zs) := ⟨_, rfl⟩
          obtain ⟨d2, hd2⟩ : ∃ d, d = decide ((x &&& y) ∈ zs) := ⟨_, rfl⟩
          have HD1 : Hid (d1 = decide ((x ||| y) ∈ zs)) := hd1
          have HD2 : Hid (d2 = decide ((x &&& y) ∈ zs)) := hd2
          clear hd1 hd2
          have hno : d1 = false ∨ d2 = false → closedB zs = false := fun h => by
            have hx := HX.out
            have hy := HY.out
            refine closed_no hlt (show j < zs.length by omega) (fun hg => ?_)
            unfold good at hg
            rw [← hx, ← hy] at hg
            rcases h with h | h
            · have h1 := HD1.out; rw [h] at h1; simp [hg.1] at h1
            · have h1 := HD2.out; rw [h] at h1; simp [hg.2] at h1
          have HNO : Hid (d1 = false ∨ d2 = false → closedB zs = false) := hno
          clear hno
          cases d1
          · go_wp2_with (first | (go_at_call 28; refine (join_any _ _ _ hx64 hy64).mono ?_; rintro e w' ⟨rfl, rfl⟩) | (go_at_call 58; refine (contains_any _ _ _ _ _ hr hl).mono ?_; rintro e w' ⟨rfl, rfl⟩; rw [← HD1.out]))
            go_ret
            rw [HNO.out (by simp)]
            exact ⟨rfl, rfl⟩
          · go_wp2_with fail
            refine (join_any _ _ _ hx64 hy64).mono ?_
            rintro e w' ⟨rfl, rfl⟩
            go_wp2_with fail
            refine (contains_any _ _ _ _ _ hr hl).mono ?_
            rintro e w' ⟨rfl, rfl⟩
            rw [← HD1.out]
            go_wp2_with fail
            refine (meet_any _ _ _ hx64 hy64).mono ?_
            rintro e w' ⟨rfl, rfl⟩
            go_wp2_with fail
            refine (contains_any _ _ _ _ _ hr hl).mono ?_
            rintro e w' ⟨rfl, rfl⟩
            rw [← HD2.out]
            cases d2
            · go_wp2
              go_ret
              rw [HNO.out (by simp)]
              exact ⟨rfl, rfl⟩
            · go_wp2
              go_round
              case rel =>
                refine ⟨j + 1, by omega, by go_num, goodRow_succ hrow ?_⟩
                have hx := HX.out
                have hy := HY.out
                unfold good
                rw [← hx, ← hy]
                exact ⟨of_decide_eq_true HD1.out.symm, of_decide_eq_true HD2.out.symm⟩
              case measure => simp [intOf]; omega
        · go_wp2
          go_round
          case rel =>
            have he : j = k := by omega
            subst he
            exact ⟨j + 1, by omega, by go_num, goodTo_succ hto hrow⟩
          case measure => simp [intOf]; omega
    · go_wp2
      go_ret
      have he : k = zs.length := by omega
      subst he
      rw [closedB_iff.2 (good_of_half (fun i j hi hj => hto i hi j hj))]
      exact ⟨rfl, rfl⟩

set_option maxHeartbeats 1000000 in
theorem check_any (a : Option Addr) (cap : Nat) (zs : List Nat) (w : World) (hr : Row w a zs) (h64 : All64 zs) (hl : zs.length ≤ maxLen) (hcap : zs.length ≤ cap) :
    Calls Try.prog 30 #[.slice a zs.length cap] w fun e w' => e = .returned (.int .i64 ((checkOf zs : Nat) : Int)) ∧ Below w.heap.size w w' := by
  have hl' := hl
  unfold maxLen at hl'
  by_cases h0 : zs.length < 1
  · have hv : checkOf zs = 10 := by unfold checkOf; rw [if_pos (.inl h0)]
    rw [hv]
    go_enter Try.func30, Try.ntmps30
    go_wp2
    go_ret
    exact ⟨rfl, Below.refl _ _⟩
  by_cases h16 : 16 < zs.length
  · have hv : checkOf zs = 10 := by unfold checkOf; rw [if_pos (.inr h16)]
    rw [hv]
    go_enter Try.func30, Try.ntmps30
    go_wp2
    go_ret
    exact ⟨rfl, Below.refl _ _⟩
  have hv : checkOf zs = if risesB zs = false then 11 else if closedB zs = false then 12 else 0 := by unfold checkOf; rw [if_neg (by omega)]
  cases hR : risesB zs
  · rw [hR, if_pos rfl] at hv
    rw [hv]
    clear hv
    go_enter Try.func30, Try.ntmps30
    go_wp2_with fail
    refine (rise_any _ _ _ _ hr hl).mono ?_
    rintro e w1 ⟨rfl, hb1⟩
    rw [hR]
    go_wp2
    go_ret
    exact ⟨rfl, hb1⟩
  · cases hC : closedB zs
    all_goals
      rw [hR, hC] at hv
      simp at hv
      rw [hv]
      clear hv
      go_enter Try.func30, Try.ntmps30
      go_wp2_with fail
      refine (rise_any _ _ _ _ hr hl).mono ?_
      rintro e w1 ⟨rfl, hb1⟩
      rw [hR]
      go_wp2_with fail
      refine (closed_any _ _ _ _ (hr.below hb1) h64 hl hcap).mono ?_
      rintro e w2 ⟨rfl, rfl⟩
      rw [hC]
      go_wp2
      go_ret
      exact ⟨rfl, hb1⟩

end Go.Proofs.Ythclmkmajlinhab

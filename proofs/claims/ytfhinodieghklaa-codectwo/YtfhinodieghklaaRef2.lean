/- The document's reader: the fold at the beginning of bytes; numbers between bounds. -/
import Derived.Test.YtfhinodieghklaaRef1
namespace Go.Proofs.Ytfhinodieghklaa
open Go.RowKit

/-- What the first k groups come to. -/
def lowVal (bs : List Nat) : Nat → Nat
  | 0 => 0
  | k + 1 => lowVal bs k + at0 bs k % 128 * 128 ^ k
theorem lowVal_lt (bs : List Nat) : ∀ k, lowVal bs k < 128 ^ k := by
  intro k
  induction k with
  | zero => simp [lowVal]
  | succ k ih =>
    have hm : at0 bs k % 128 < 128 := Nat.mod_lt _ (by decide)
    have h2 : at0 bs k % 128 * 128 ^ k ≤ 127 * 128 ^ k := Nat.mul_le_mul_right _ (by omega)
    rw [lowVal, Nat.pow_succ]; omega

set_option maxRecDepth 100000 in
set_option maxHeartbeats 400000 in
theorem runfold_any (f : Nat) (w : World) (hf : W64 f) :
    Calls Try.prog 64 #[.int .u64 (f : Int)] w fun e w' => e = .returned (.int .i64 (unfoldN f)) ∧ w' = w := by
  unfold W64 at hf
  by_cases h1 : f % 2 = 1
  · have HU : Hid (unfoldN f = -((f / 2 : Nat) : Int) - 1) := by unfold Hid unfoldN; rw [if_pos h1]
    have hd : ((f : Int) % 2 == 0) = false := by simp; omega
    go_enter Try.func64, Try.ntmps64
    go_wp2_with fail
    all_goals go_ret
    all_goals rw [HU.out]
    all_goals exact ⟨rfl, rfl⟩
  · have HU : Hid (unfoldN f = ((f / 2 : Nat) : Int)) := by unfold Hid unfoldN; rw [if_neg h1]
    have hd : ((f : Int) % 2 == 0) = true := by simp; omega
    go_enter Try.func64, Try.ntmps64
    go_wp2_with fail
    all_goals go_ret
    all_goals rw [HU.out]
    all_goals exact ⟨rfl, rfl⟩

/-- What form answers. -/
def formOf (bs : List Nat) : Nat × Nat × Nat :=
  match groupsFrom 0 0 bs with
  | .error c => (0, 0, c)
  | .ok (f, t) => (f, bs.length - t.length, 0)

theorem low_end {bs : List Nat} {y L : Nat} (h : y * 128 ^ 0 + lowVal bs 0 = L) : y = L := by
  rw [Nat.pow_zero, Nat.mul_one, lowVal, Nat.add_zero] at h; exact h
theorem lowVal_form {k j : Nat} {bs : List Nat} {f : Nat} (h : f * 128 ^ (j + 1) + lowVal bs (j + 1) = lowVal bs (k + 1)) : (f * 128 + at0 bs j % 128) * 128 ^ j + lowVal bs j = lowVal bs (k + 1) := by
  rw [← h, lowVal, Nat.pow_succ, Nat.add_mul, Nat.mul_assoc, Nat.mul_comm 128 (128 ^ j)]
  omega

set_option maxRecDepth 100000 in
set_option maxHeartbeats 1000000 in
theorem form_any (a : Option Addr) (cap : Nat) (bs : List Nat) (w : World) (hr : RowB w a bs) (h8 : All8 bs) (hl : bs.length ≤ 140737488355328) :
    Calls Try.prog 63 #[.slice a bs.length cap] w fun e w' => e = .returned (.tuple #[.int .u64 ((formOf bs).1 : Int), .int .i64 ((formOf bs).2.1 : Int), .int .i64 ((formOf bs).2.2 : Int)]) ∧ w' = w := by
  go_enter Try.func63, Try.ntmps63
  go_wp2_with fail
  go_loop [5] (fun i => ∃ k : Nat, k ≤ 9 ∧ i = .int .i64 (k : Int) ∧ Hid (groupsFrom k (lowVal bs k) (bs.drop k) = groupsFrom 0 0 bs)) (fun i => 10 - (intOf i).toNat)
  case atStart => exact ⟨0, by omega, rfl, rfl⟩
  case round =>
    obtain ⟨k, hk, rfl, hg⟩ := hrel
    by_cases hkl : k < bs.length
    · obtain ⟨b, o, rfl, hbw, hcc⟩ := hr.here hkl
      have hck := hcc k hkl
      have hdr : bs.drop k = at0 bs k :: bs.drop (k + 1) := by rw [List.drop_eq_getElem_cons hkl, at0_get hkl]
      have hgg := hg.out
      rw [hdr, groupsFrom] at hgg
      have hx8 := h8.at k
      have hi1 : (k : Int) < (bs.length : Int) := by omega
      have hd0 : decide ((bs.length : Int) ≤ (k : Int)) = false := by simp; omega
      obtain ⟨x, hx⟩ : ∃ x, x = at0 bs k := ⟨_, rfl⟩
      rw [← hx] at hck hgg hx8
      have HX := hide_it hx
      have HCC := hide_it hcc
      clear hg hdr hcc hx
      by_cases k9 : k = 9
      · subst k9
        by_cases c1 : 1 < x
        · rw [if_pos ⟨rfl, c1⟩] at hgg
          have HF : Hid (formOf bs = (0, 0, 21)) := by unfold Hid formOf; rw [← hgg]
          have hd : decide ((1 : Int) < (x : Int)) = true := by simp; omega
          clear hgg
          go_wp2_with fail
          refine bodyPost_ret (v := .tuple #[.int .u64 0, .int .i64 0, .int .i64 21]) (by simp [results, Try.results63, go_sem]) rfl ?_
          rw [HF.out]
          exact ⟨rfl, rfl⟩
        · rw [if_neg (fun h => c1 h.2), if_neg (by omega)] at hgg
          have hd1 : decide ((1 : Int) < (x : Int)) = false := by simp; omega
          have hd : decide ((128 : Int) ≤ (x : Int)) = false := by simp; omega
          by_cases c3 : x = 0
          · rw [if_pos ⟨c3, by omega⟩] at hgg
            have HF : Hid (formOf bs = (0, 0, 21)) := by unfold Hid formOf; rw [← hgg]
            subst c3
            clear hgg
            go_wp2_with fail
            refine bodyPost_ret (v := .tuple #[.int .u64 0, .int .i64 0, .int .i64 21]) (by simp [results, Try.results63, go_sem]) rfl ?_
            rw [HF.out]
            exact ⟨rfl, rfl⟩
          · rw [if_neg (fun h => c3 h.1)] at hgg
            have hx0 : ((x : Int) == 0) = false := by simp; omega
            have hlv : lowVal bs (9 + 1) = lowVal bs 9 + x % 128 * 128 ^ 9 := by rw [HX.out]; rfl
            rw [← hlv] at hgg
            have HF : Hid (formOf bs = (lowVal bs (9 + 1), 9 + 1, 0)) := by
              unfold Hid formOf; rw [← hgg]
              simp; omega
            have hV64 : lowVal bs (9 + 1) < 18446744073709551616 := groups_w64 bs _ _ hgg.symm
            clear hgg hlv
            go_wp2_with fail
            go_loop [6, 7] (fun f j => ∃ (m y : Nat), m ≤ 9 + 1 ∧ j = .int .i64 ((m : Int) - 1) ∧ f = .int .u64 (y : Int) ∧ Hid (y * 128 ^ m + lowVal bs m = lowVal bs (9 + 1))) (fun _ j => (intOf j + 1).toNat)
            case atStart => exact ⟨9 + 1, 0, by omega, by rfl, rfl, by unfold Hid; simp⟩
            case round =>
              obtain ⟨m, y, hm, rfl, rfl, hinv⟩ := hrel
              cases m with
              | zero =>
                have hy : Hid (y = lowVal bs (9 + 1)) := low_end hinv.out
                go_wp2_with fail
                refine bodyPost_ret (v := .tuple #[.int .u64 (y : Int), .int .i64 10, .int .i64 0]) (by simp [results, Try.results63, go_sem]) rfl ?_
                rw [HF.out]
                refine ⟨?_, rfl⟩
                rw [← hy.out]
                rfl
              | succ j =>
                have e1 : (((j + 1 : Nat) : Int) - 1) = (j : Int) := by omega
                rw [e1]
                have hjl : j < bs.length := by omega
                have hcj := HCC.out j hjl
                have hnew := lowVal_form hinv.out
                have hy1 : y * 128 + at0 bs j % 128 ≤ (y * 128 + at0 bs j % 128) * 128 ^ j := Nat.le_mul_of_pos_right _ (Nat.pow_pos (by decide))
                have hj8 := h8.at j
                have hyl : y * 128 + at0 bs j % 128 < 18446744073709551616 := by omega
                have HNEW := hide_it hnew
                have hi2 : (j : Int) < (bs.length : Int) := by omega
                clear hnew hy1 hinv
                generalize at0 bs j = z at *
                go_wp2_with fail
                go_round
                case rel => exact ⟨j, y * 128 + z % 128, by omega, by go_num, by simp, HNEW⟩
                case measure => simp [intOf] <;> omega

      · have hk9 : ((k : Int) == 9) = false := by simp; omega
        rw [if_neg (fun h => k9 h.1)] at hgg
        by_cases c2 : 128 ≤ x
        · rw [if_pos c2] at hgg
          have HN : Hid (groupsFrom (k + 1) (lowVal bs (k + 1)) (bs.drop (k + 1)) = groupsFrom 0 0 bs) := by unfold Hid; rw [lowVal, ← HX.out]; exact hgg
          have hd : decide ((128 : Int) ≤ (x : Int)) = true := by simp; omega
          clear hgg
          go_wp2_with fail
          go_round
          case rel => exact ⟨k + 1, by omega, by go_num, HN⟩
          case measure => simp [intOf]; omega
        · rw [if_neg c2] at hgg
          have hd : decide ((128 : Int) ≤ (x : Int)) = false := by simp; omega
          by_cases c3 : x = 0
          · by_cases c4 : 0 < k
            · rw [if_pos ⟨c3, c4⟩] at hgg
              have HF : Hid (formOf bs = (0, 0, 21)) := by unfold Hid formOf; rw [← hgg]
              subst c3
              have hd4 : decide ((0 : Int) < (k : Int)) = true := by simp; omega
              clear hgg
              go_wp2_with fail
              refine bodyPost_ret (v := .tuple #[.int .u64 0, .int .i64 0, .int .i64 21]) (by simp [results, Try.results63, go_sem]) rfl ?_
              rw [HF.out]
              exact ⟨rfl, rfl⟩
            · rw [if_neg (fun h => c4 h.2)] at hgg
              have hk0 : k = 0 := by omega
              subst hk0
              subst c3
              rw [Nat.add_zero] at hck
              have hb0 : (0 : Int) < (bs.length : Int) := by omega
              have hne : ¬ bs = [] := fun e => by rw [e] at hkl; simp at hkl
              have hd00 : decide ((bs.length : Int) ≤ 0) = false := decide_eq_false (by omega)
              have hlv : lowVal bs (0 + 1) = lowVal bs 0 + 0 % 128 * 128 ^ 0 := by show lowVal bs 0 + at0 bs 0 % 128 * 128 ^ 0 = _; rw [← HX.out]
              rw [← hlv] at hgg
              have HF : Hid (formOf bs = (lowVal bs (0 + 1), 0 + 1, 0)) := by
                unfold Hid formOf; rw [← hgg]
                simp; omega
              have hV64 : lowVal bs (0 + 1) < 18446744073709551616 := groups_w64 bs _ _ hgg.symm
              clear hgg hlv
              go_wp2_with fail
              go_loop [6, 7] (fun f j => ∃ (m y : Nat), m ≤ 0 + 1 ∧ j = .int .i64 ((m : Int) - 1) ∧ f = .int .u64 (y : Int) ∧ Hid (y * 128 ^ m + lowVal bs m = lowVal bs (0 + 1))) (fun _ j => (intOf j + 1).toNat)
              case atStart => exact ⟨0 + 1, 0, by omega, by go_num, rfl, by unfold Hid; simp⟩
              case round =>
                obtain ⟨m, y, hm, rfl, rfl, hinv⟩ := hrel
                cases m with
                | zero =>
                  have hy : Hid (y = lowVal bs (0 + 1)) := low_end hinv.out
                  go_wp2_with fail
                  refine bodyPost_ret (v := .tuple #[.int .u64 (y : Int), .int .i64 ((0 : Int) + 1), .int .i64 0]) (by simp [results, Try.results63, go_sem]) rfl ?_
                  rw [HF.out]
                  refine ⟨?_, rfl⟩
                  rw [← hy.out]
                  rfl
                | succ j =>
                  have e1 : (((j + 1 : Nat) : Int) - 1) = (j : Int) := by omega
                  rw [e1]
                  have hjl : j < bs.length := by omega
                  have hcj := HCC.out j hjl
                  have hnew := lowVal_form hinv.out
                  have hy1 : y * 128 + at0 bs j % 128 ≤ (y * 128 + at0 bs j % 128) * 128 ^ j := Nat.le_mul_of_pos_right _ (Nat.pow_pos (by decide))
                  have hj8 := h8.at j
                  have hyl : y * 128 + at0 bs j % 128 < 18446744073709551616 := by omega
                  have HNEW := hide_it hnew
                  have hi2 : (j : Int) < (bs.length : Int) := by omega
                  clear hnew hy1 hinv
                  generalize at0 bs j = z at *
                  go_wp2_with fail
                  go_round
                  case rel => exact ⟨j, y * 128 + z % 128, by omega, by go_num, by simp, HNEW⟩
                  case measure => simp [intOf] <;> omega

          · rw [if_neg (fun h => c3 h.1)] at hgg
            have hx0 : ((x : Int) == 0) = false := by simp; omega
            have hlv : lowVal bs (k + 1) = lowVal bs k + x % 128 * 128 ^ k := by rw [HX.out]; rfl
            rw [← hlv] at hgg
            have HF : Hid (formOf bs = (lowVal bs (k + 1), k + 1, 0)) := by
              unfold Hid formOf; rw [← hgg]
              simp; omega
            have hV64 : lowVal bs (k + 1) < 18446744073709551616 := groups_w64 bs _ _ hgg.symm
            clear hgg hlv
            go_wp2_with fail
            go_loop [6, 7] (fun f j => ∃ (m y : Nat), m ≤ k + 1 ∧ j = .int .i64 ((m : Int) - 1) ∧ f = .int .u64 (y : Int) ∧ Hid (y * 128 ^ m + lowVal bs m = lowVal bs (k + 1))) (fun _ j => (intOf j + 1).toNat)
            case atStart => exact ⟨k + 1, 0, by omega, by go_num, rfl, by unfold Hid; simp⟩
            case round =>
              obtain ⟨m, y, hm, rfl, rfl, hinv⟩ := hrel
              cases m with
              | zero =>
                have hy : Hid (y = lowVal bs (k + 1)) := low_end hinv.out
                go_wp2_with fail
                refine bodyPost_ret (v := .tuple #[.int .u64 (y : Int), .int .i64 ((k : Int) + 1), .int .i64 0]) (by simp [results, Try.results63, go_sem]) rfl ?_
                rw [HF.out]
                refine ⟨?_, rfl⟩
                rw [← hy.out]
                rfl
              | succ j =>
                have e1 : (((j + 1 : Nat) : Int) - 1) = (j : Int) := by omega
                rw [e1]
                have hjl : j < bs.length := by omega
                have hcj := HCC.out j hjl
                have hnew := lowVal_form hinv.out
                have hy1 : y * 128 + at0 bs j % 128 ≤ (y * 128 + at0 bs j % 128) * 128 ^ j := Nat.le_mul_of_pos_right _ (Nat.pow_pos (by decide))
                have hj8 := h8.at j
                have hyl : y * 128 + at0 bs j % 128 < 18446744073709551616 := by omega
                have HNEW := hide_it hnew
                have hi2 : (j : Int) < (bs.length : Int) := by omega
                clear hnew hy1 hinv
                generalize at0 bs j = z at *
                go_wp2_with fail
                go_round
                case rel => exact ⟨j, y * 128 + z % 128, by omega, by go_num, by simp, HNEW⟩
                case measure => simp [intOf] <;> omega

    · have hdr : bs.drop k = [] := List.drop_eq_nil_of_le (by omega)
      have HF : Hid (formOf bs = (0, 0, 20)) := by unfold Hid formOf; rw [← hg.out, hdr]; rfl
      have hd0 : decide ((bs.length : Int) ≤ (k : Int)) = true := by simp; omega
      clear hg hdr
      go_wp2_with fail
      refine bodyPost_ret (v := .tuple #[.int .u64 0, .int .i64 0, .int .i64 20]) (by simp [results, Try.results63, go_sem]) rfl ?_
      rw [HF.out]
      exact ⟨rfl, rfl⟩
end Go.Proofs.Ytfhinodieghklaa

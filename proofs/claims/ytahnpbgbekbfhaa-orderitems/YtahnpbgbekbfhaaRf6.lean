/- The document's answer: numbers laid down as bytes. -/
import Derived.Test.YtahnpbgbekbfhaaRf1
import Derived.Test.YtahnpbgbekbfhaaKt1
namespace Go.Proofs.Ytahnpbgbekbfhaa
open Go.RowKit

set_option maxRecDepth 100000 in
set_option maxHeartbeats 400000 in
theorem rcleanBits_any (a : Nat) (w : World) (ha : a < 18446744073709551616) :
    Calls Try.prog 33 #[.int .u64 (a : Int)] w fun e w' => e = .returned (.int .u64 ((cb a : Nat) : Int)) ∧ w' = w := by
  have hn := fun w => rnan_any a w ha
  have ho := fun w => rnought_any a w ha
  cases h1 : nanB a with
  | true =>
    have hc : cb a = 9221120237041090561 := by unfold cb; rw [h1]; rfl
    rw [hc]
    rw [h1] at hn
    go_enter Try.func33, Try.ntmps33
    go_wp2_with (go_at_call 52; refine (hn _).mono ?_; rintro e w' ⟨rfl, hq⟩; have hq2 := hq.symm; subst hq2; clear hq)
    all_goals go_ret
    all_goals exact ⟨rfl, rfl⟩
  | false =>
    rw [h1] at hn
    cases h2 : nought a with
    | true =>
      have hc : cb a = 0 := by unfold cb; rw [h1, h2]; rfl
      rw [hc]
      rw [h2] at ho
      go_enter Try.func33, Try.ntmps33
      go_wp2_with (first | (go_at_call 52; refine (hn _).mono ?_; rintro e w' ⟨rfl, hq⟩; have hq2 := hq.symm; subst hq2; clear hq) | (go_at_call 34; refine (ho _).mono ?_; rintro e w' ⟨rfl, hq⟩; have hq2 := hq.symm; subst hq2; clear hq))
      all_goals go_ret
      all_goals exact ⟨rfl, rfl⟩
    | false =>
      have hc : cb a = a := by unfold cb; rw [h1, h2]; rfl
      rw [hc]
      rw [h2] at ho
      go_enter Try.func33, Try.ntmps33
      go_wp2_with (first | (go_at_call 52; refine (hn _).mono ?_; rintro e w' ⟨rfl, hq⟩; have hq2 := hq.symm; subst hq2; clear hq) | (go_at_call 34; refine (ho _).mono ?_; rintro e w' ⟨rfl, hq⟩; have hq2 := hq.symm; subst hq2; clear hq))
      all_goals go_ret
      all_goals exact ⟨rfl, rfl⟩

set_option maxRecDepth 100000 in
set_option maxHeartbeats 1000000 in
theorem reight_any (v : Value) (u base : Nat) (zs : List Nat) (w : World) (hu : u < 18446744073709551616) (hown : OwnB w base v zs) (hb : base ≤ w.heap.size) (hl : zs.length + 8 ≤ 140737488355328) :
    Calls Try.prog 47 #[v, .int .u64 (u : Int)] w fun e w' => ∃ r, e = .returned r ∧ App w w' base v r (zs ++ beP 8 u 8) := by
  go_enter Try.func47, Try.ntmps47
  go_wp2_with fail
  go_loopw [0, 5] (fun r i wr => ∃ m : Nat, m ≤ 8 ∧ i = .int .i64 (8 * (m : Int) - 8) ∧ App w wr base v r (zs ++ beP 8 u (8 - m))) (fun _ i _ => (intOf i + 8).toNat)
  case atStart => exact ⟨8, by omega, rfl, by simpa [beP] using hown, ⟨rfl, rfl, rfl, Nat.le_refl _, fun _ _ _ => rfl⟩, .inl rfl⟩
  case round =>
    obtain ⟨m, hm, rfl, hap⟩ := hrel
    cases m with
    | zero =>
      go_wp2_with fail
      go_ret
      exact ⟨_, rfl, hap⟩
    | succ n =>
      have e1 : 8 * (((n + 1 : Nat) : Int)) - 8 = ((8 * n : Nat) : Int) := by omega
      rw [e1]
      have how := hap.own
      have hbs := Nat.le_trans hb hap.grown.size
      have hlen : (zs ++ beP 8 u (8 - (n + 1))).length ≤ zs.length + 7 := by simp [beP_len] <;> omega
      have HS := hide_it (beP_step (v := u) (W := 8) (n := n) (by omega))
      obtain ⟨y, hy⟩ : ∃ y, y = u / 256 ^ n := ⟨_, rfl⟩
      have hyl : y < 18446744073709551616 := by rw [hy]; exact Nat.lt_of_le_of_lt (Nat.div_le_self _ _) hu
      have hsh : (u : Int) / 2 ^ (8 * n) = (y : Int) := by rw [hy, ← pow8]; simp
      obtain ⟨x, hx⟩ : ∃ x, x = y % 256 := ⟨_, rfl⟩
      rw [← hy, ← hx] at HS
      have hwr : IntKind.u8.wrap (y : Int) = (x : Int) := by rw [hx]; exact wrap_byte y
      have hx8 : x < 256 := by omega
      have hn8 : 8 * n ≤ 56 := by omega
      have hge : (0 : Int) ≤ ((8 * n : Nat) : Int) := by omega
      clear hy hx
      go_wp2_with (at_builtin; refine wpList_append_byte _ rfl _ _ rfl base _ _ rfl how x rfl (by omega) hbs ?_; intro v4 w4 hown4 hg4 hat4)
      go_roundw
      case rel =>
        refine ⟨n, by omega, by go_num, ?_⟩
        have := hap.trans (App.byte hown4 hg4 hat4)
        rw [HS.out, ← List.append_assoc]
        exact this
      case measure => simp [intOf]; omega

set_option maxRecDepth 100000 in
set_option maxHeartbeats 400000 in
theorem rfloat_any (v : Value) (a base : Nat) (zs : List Nat) (w : World) (ha : a < 18446744073709551616) (hown : OwnB w base v zs) (hb : base ≤ w.heap.size) (hl : zs.length + 8 ≤ 140737488355328) :
    Calls Try.prog 48 #[v, .int .u64 (a : Int)] w fun e w' => ∃ r, e = .returned r ∧ App w w' base v r (zs ++ beP 8 (rise a) 8) := by
  have hc := fun w => rcleanBits_any a w ha
  have hcl := cb_lt ha
  have hrl := rise_lt ha
  have h8 := fun u (hu : u < 18446744073709551616) => reight_any v u base zs w hu hown hb hl
  obtain ⟨z, hz⟩ : ∃ z, z = rise a := ⟨_, rfl⟩
  rw [← hz] at hrl ⊢
  unfold rise at hz
  have hm := bn64 hcl
  generalize cb a = c at *
  by_cases hlow : c < 9223372036854775808
  · rw [if_pos hlow] at hz
    have h9 := h8 z hrl
    have hwa : IntKind.u64.wrap ((c : Int) + 9223372036854775808) = (z : Int) := by
      simp [IntKind.wrap, IntKind.bits, IntKind.signed]; omega
    have hd : decide ((c : Int) < 9223372036854775808) = true := by simp; omega
    clear hz h8 hm hlow hcl hrl ha hl hb hown
    go_enter Try.func48, Try.ntmps48
    go_wp2_with fail
    refine (hc _).mono ?_
    rintro e w' ⟨rfl, hq⟩
    have hq2 := hq.symm
    subst hq2
    clear hq
    go_wp2_with fail
    refine h9.mono ?_
    rintro e w2 ⟨r2, rfl, A2⟩
    go_wp2_with fail
    go_ret
    exact ⟨_, rfl, A2⟩
  · rw [if_neg hlow] at hz
    have h9 := h8 z hrl
    rw [← hz] at hm
    have hd : decide ((c : Int) < 9223372036854775808) = false := by simp; omega
    clear hz h8 hlow hcl hrl ha hl hb hown
    generalize (c : Int) = ci at *
    go_enter Try.func48, Try.ntmps48
    go_wp2_with fail
    refine (hc _).mono ?_
    rintro e w' ⟨rfl, hq⟩
    have hq2 := hq.symm
    subst hq2
    clear hq
    go_wp2_with fail
    refine h9.mono ?_
    rintro e w2 ⟨r2, rfl, A2⟩
    go_wp2_with fail
    go_ret
    exact ⟨_, rfl, A2⟩

end Go.Proofs.Ytahnpbgbekbfhaa

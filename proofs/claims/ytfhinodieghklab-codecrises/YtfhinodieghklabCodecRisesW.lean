/- The law on the order of numbers and of their bytes, walked. -/
import Derived.Test.YtfhinodieghklabRd9
namespace Go.Proofs.Ytfhinodieghklab
open Go.RowKit

/-- -1, 0 or 1: how two numbers stand to each other. -/
def ordI (a b : Nat) : Int := if a < b then -1 else if b < a then 1 else 0

set_option maxRecDepth 100000 in
set_option maxHeartbeats 400000 in
theorem order_any (a b : Nat) (w : World) (_ha : W64 a) (hb : W64 b) :
    Calls Try.prog 25 #[.int .u64 (a : Int), .int .u64 (b : Int)] w fun e w' => e = .returned (.int .i64 (ordI a b)) ∧ w' = w := by
  rcases Nat.lt_trichotomy a b with h | h | h
  · have HO : Hid (ordI a b = -1) := by unfold Hid ordI; rw [if_pos h]
    have hd : decide ((a : Int) < (b : Int)) = true := by simp; omega
    go_enter Try.func25, Try.ntmps25
    go_wp2
    go_ret
    rw [HO.out]; exact ⟨rfl, rfl⟩
  · subst h
    have HO : Hid (ordI a a = 0) := by unfold Hid ordI; rw [if_neg (by omega), if_neg (by omega)]
    have hd : decide ((a : Int) < (a : Int)) = false := by simp
    go_enter Try.func25, Try.ntmps25
    go_wp2
    go_ret
    rw [HO.out]; exact ⟨rfl, rfl⟩
  · have HO : Hid (ordI a b = 1) := by unfold Hid ordI; rw [if_neg (by omega), if_pos h]
    have hd : decide ((a : Int) < (b : Int)) = false := by simp; omega
    have hd2 : decide ((b : Int) < (a : Int)) = true := by simp; omega
    go_enter Try.func25, Try.ntmps25
    go_wp2
    go_ret
    rw [HO.out]; exact ⟨rfl, rfl⟩

set_option maxRecDepth 100000 in
set_option maxHeartbeats 400000 in
theorem cmp_any (x y : Nat) (w : World) (_hx : x < 256) (hy : y < 256) :
    Calls Try.prog 52 #[.int .u8 (x : Int), .int .u8 (y : Int)] w fun e w' => e = .returned (.int .i64 (ordI x y)) ∧ w' = w := by
  rcases Nat.lt_trichotomy x y with h | h | h
  · have HO : Hid (ordI x y = -1) := by unfold Hid ordI; rw [if_pos h]
    go_enter Try.func52, Try.ntmps52
    go_wp2
    go_ret
    rw [HO.out]; exact ⟨rfl, rfl⟩
  · subst h
    have HO : Hid (ordI x x = 0) := by unfold Hid ordI; rw [if_neg (by omega), if_neg (by omega)]
    go_enter Try.func52, Try.ntmps52
    go_wp2
    go_ret
    rw [HO.out]; exact ⟨rfl, rfl⟩
  · have HO : Hid (ordI x y = 1) := by unfold Hid ordI; rw [if_neg (by omega), if_pos h]
    have hn : ¬ x < y := by omega
    go_enter Try.func52, Try.ntmps52
    go_wp2
    go_ret
    rw [HO.out]; exact ⟨rfl, rfl⟩

theorem beP_at {W v k : Nat} (h : k < W) : at0 (beP W v W) k = v / 256 ^ (W - 1 - k) % 256 := by
  rw [← at0_get (by rw [beP_len]; exact h)]
  simp [beP]
theorem be_step {W a b k : Nat} (hk : k < W) (hp : a / 256 ^ (W - k) = b / 256 ^ (W - k)) (he : a / 256 ^ (W - 1 - k) % 256 = b / 256 ^ (W - 1 - k) % 256) : a / 256 ^ (W - (k + 1)) = b / 256 ^ (W - (k + 1)) := by
  have e1 : W - k = (W - (k + 1)) + 1 := by omega
  have e2 : W - 1 - k = W - (k + 1) := by omega
  rw [e1, Nat.pow_succ, ← Nat.div_div_eq_div_mul, ← Nat.div_div_eq_div_mul] at hp
  rw [e2] at he
  omega
theorem be_ord {W a b k : Nat} (hk : k < W) (hp : a / 256 ^ (W - k) = b / 256 ^ (W - k)) (hne : a / 256 ^ (W - 1 - k) % 256 ≠ b / 256 ^ (W - 1 - k) % 256) : ordI (a / 256 ^ (W - 1 - k) % 256) (b / 256 ^ (W - 1 - k) % 256) = ordI a b ∧ ordI a b ≠ 0 := by
  have e1 : W - k = (W - (k + 1)) + 1 := by omega
  have e2 : W - 1 - k = W - (k + 1) := by omega
  rw [e1, Nat.pow_succ, ← Nat.div_div_eq_div_mul, ← Nat.div_div_eq_div_mul] at hp
  rw [e2] at hne ⊢
  have key : ∀ u v : Nat, u / 256 ^ (W - (k + 1)) < v / 256 ^ (W - (k + 1)) → u < v := fun u v h => Nat.lt_of_not_le fun hle => by
    have := Nat.div_le_div_right (c := 256 ^ (W - (k + 1))) hle
    omega
  rcases Nat.lt_or_gt_of_ne hne with h | h
  · have h1 := key a b (by omega)
    unfold ordI
    rw [if_pos h, if_pos h1]
    exact ⟨rfl, by decide⟩
  · have h1 := key b a (by omega)
    unfold ordI
    rw [if_neg (by omega), if_pos h, if_neg (by omega), if_pos h1]
    exact ⟨rfl, by decide⟩

set_option maxRecDepth 100000 in
set_option maxHeartbeats 400000 in
theorem compare_be (p q : Option Addr) (W cp cq a b : Nat) (w : World) (hW : W ≤ 8) (ha : a < 256 ^ W) (hb : b < 256 ^ W) (hx : RowB w p (beP W a W)) (hy : RowB w q (beP W b W)) :
    Calls Try.prog 23 #[.slice p W cp, .slice q W cq] w fun e w' => e = .returned (.int .i64 (ordI a b)) ∧ w' = w := by
  go_enter Try.func23, Try.ntmps23
  go_wp2_with fail
  go_loop [11] (fun i => ∃ k : Nat, k ≤ W ∧ i = .int .i64 (k : Int) ∧ Hid (a / 256 ^ (W - k) = b / 256 ^ (W - k))) (fun i => W - (intOf i).toNat)
  case atStart => exact ⟨0, by omega, rfl, by unfold Hid; rw [Nat.sub_zero, Nat.div_eq_of_lt ha, Nat.div_eq_of_lt hb]⟩
  case round =>
    obtain ⟨k, hk, rfl, hp⟩ := hrel
    by_cases hlt : k < W
    · obtain ⟨b1, o1, rfl, _, hc1⟩ := hx.here (i := k) (by rw [beP_len]; exact hlt)
      obtain ⟨b2, o2, rfl, _, hc2⟩ := hy.here (i := k) (by rw [beP_len]; exact hlt)
      have e1 := hc1 k (by rw [beP_len]; exact hlt)
      have e2 := hc2 k (by rw [beP_len]; exact hlt)
      rw [beP_at hlt] at e1 e2
      have hm1 : a / 256 ^ (W - 1 - k) % 256 < 256 := Nat.mod_lt _ (by decide)
      have hm2 : b / 256 ^ (W - 1 - k) % 256 < 256 := Nat.mod_lt _ (by decide)
      have hcmp := cmp_any _ _ w hm1 hm2
      have hi1 : (k : Int) < (W : Int) := by omega
      by_cases heq : a / 256 ^ (W - 1 - k) % 256 = b / 256 ^ (W - 1 - k) % 256
      · have HN := hide_it (be_step hlt hp.out heq)
        have ho : ordI (a / 256 ^ (W - 1 - k) % 256) (b / 256 ^ (W - 1 - k) % 256) = 0 := by rw [heq]; unfold ordI; rw [if_neg (by omega), if_neg (by omega)]
        rw [ho] at hcmp
        clear hc1 hc2 hx hy hp ho heq
        generalize a / 256 ^ (W - 1 - k) % 256 = x at *
        generalize b / 256 ^ (W - 1 - k) % 256 = y at *
        go_wp2_with fail
        refine hcmp.mono ?_
        rintro e w' ⟨rfl, hq⟩
        have hq2 := hq.symm
        subst hq2
        clear hq hcmp
        go_wp2_with fail
        go_round
        case rel => exact ⟨k + 1, by omega, by go_num, HN⟩
        case measure => simp [intOf]; omega
      · obtain ⟨h1, h2⟩ := be_ord hlt hp.out heq
        rw [h1] at hcmp
        clear hc1 hc2 hx hy hp heq h1
        generalize a / 256 ^ (W - 1 - k) % 256 = x at *
        generalize b / 256 ^ (W - 1 - k) % 256 = y at *
        obtain ⟨r, hr⟩ : ∃ r, r = ordI a b := ⟨_, rfl⟩
        rw [← hr] at hcmp h2
        have HR := hide_it hr
        clear hr
        have hd : (r == 0) = false := by simpa using h2
        go_wp2_with fail
        refine hcmp.mono ?_
        rintro e w' ⟨rfl, hq⟩
        have hq2 := hq.symm
        subst hq2
        clear hq hcmp
        go_wp2_with fail
        go_ret
        rw [← HR.out]
        exact ⟨rfl, rfl⟩
    · have hkW : k = W := by omega
      subst hkW
      have hab : a = b := by have := hp.out; simpa using this
      have HO : Hid (ordI a b = 0) := by unfold Hid ordI; rw [if_neg (by omega), if_neg (by omega)]
      have hd : decide ((k : Int) < (k : Int)) = false := by simp
      clear hx hy hp hab
      go_wp2_with fail
      go_ret
      rw [HO.out]
      exact ⟨rfl, rfl⟩

namespace codecRises
set_option maxRecDepth 100000 in
set_option maxHeartbeats 1000000 in
theorem walk (a : Nat) (ha : W64 a) (b : Nat) (hb : W64 b) (w : World) :
    Calls Try.prog 5 #[.int .u64 (a : Int), .int .u64 (b : Int)] w fun e w' => e = .returned (.bool true) ∧ Below w.heap.size w w' := by
  obtain ⟨a1, ha1⟩ : ∃ y, y = a % 256 := ⟨_, rfl⟩
  have wa1 : IntKind.u8.wrap (a : Int) = (a1 : Int) := by rw [ha1]; simp [IntKind.wrap, IntKind.bits, IntKind.signed]
  have la1 : a1 < 256 := by omega
  have xa1 : IntKind.u64.wrap (a1 : Int) = (a1 : Int) := by simp [IntKind.wrap, IntKind.bits, IntKind.signed]; omega
  obtain ⟨b1, hb1⟩ : ∃ y, y = b % 256 := ⟨_, rfl⟩
  have wb1 : IntKind.u8.wrap (b : Int) = (b1 : Int) := by rw [hb1]; simp [IntKind.wrap, IntKind.bits, IntKind.signed]
  have lb1 : b1 < 256 := by omega
  have xb1 : IntKind.u64.wrap (b1 : Int) = (b1 : Int) := by simp [IntKind.wrap, IntKind.bits, IntKind.signed]; omega
  obtain ⟨a2, ha2⟩ : ∃ y, y = a % 65536 := ⟨_, rfl⟩
  have wa2 : IntKind.u16.wrap (a : Int) = (a2 : Int) := by rw [ha2]; simp [IntKind.wrap, IntKind.bits, IntKind.signed]
  have la2 : a2 < 65536 := by omega
  have xa2 : IntKind.u64.wrap (a2 : Int) = (a2 : Int) := by simp [IntKind.wrap, IntKind.bits, IntKind.signed]; omega
  obtain ⟨b2, hb2⟩ : ∃ y, y = b % 65536 := ⟨_, rfl⟩
  have wb2 : IntKind.u16.wrap (b : Int) = (b2 : Int) := by rw [hb2]; simp [IntKind.wrap, IntKind.bits, IntKind.signed]
  have lb2 : b2 < 65536 := by omega
  have xb2 : IntKind.u64.wrap (b2 : Int) = (b2 : Int) := by simp [IntKind.wrap, IntKind.bits, IntKind.signed]; omega
  obtain ⟨a4, ha4⟩ : ∃ y, y = a % 4294967296 := ⟨_, rfl⟩
  have wa4 : IntKind.u32.wrap (a : Int) = (a4 : Int) := by rw [ha4]; simp [IntKind.wrap, IntKind.bits, IntKind.signed]
  have la4 : a4 < 4294967296 := by omega
  have xa4 : IntKind.u64.wrap (a4 : Int) = (a4 : Int) := by simp [IntKind.wrap, IntKind.bits, IntKind.signed]; omega
  obtain ⟨b4, hb4⟩ : ∃ y, y = b % 4294967296 := ⟨_, rfl⟩
  have wb4 : IntKind.u32.wrap (b : Int) = (b4 : Int) := by rw [hb4]; simp [IntKind.wrap, IntKind.bits, IntKind.signed]
  have lb4 : b4 < 4294967296 := by omega
  have xb4 : IntKind.u64.wrap (b4 : Int) = (b4 : Int) := by simp [IntKind.wrap, IntKind.bits, IntKind.signed]; omega
  clear ha1 hb1 ha2 hb2 ha4 hb4
  have hbw0 : Below w.heap.size w w := Below.refl _ _
  go_enter Try.func5, Try.ntmps5
  go_wp2_with fail
  refine (put64 none 0 a [] _ ha (.inl rfl) (by simp) (fun _ => ⟨rfl, rfl⟩)).mono ?_
  rintro e p0 ⟨⟨r, rfl, ho⟩, hbp0⟩
  have hbw1 := hbw0.trans (hbp0.mono hbw0.size)
  obtain ⟨A0, C0, hv, hR0, _, _, _⟩ := ho.row
  subst hv
  rw [List.nil_append] at hR0
  have en0 : ([] ++ beP 8 a 8).length = 8 := by simp [beP_len]
  rw [en0]
  clear ho hbp0 hbw0
  go_wp2_with fail
  refine (put64 none 0 b [] _ hb (.inl rfl) (by simp) (fun _ => ⟨rfl, rfl⟩)).mono ?_
  rintro e q0 ⟨⟨r, rfl, ho⟩, hbq0⟩
  have hbw2 := hbw1.trans (hbq0.mono hbw1.size)
  obtain ⟨B0, D0, hv, hS0, _, _, _⟩ := ho.row
  subst hv
  rw [List.nil_append] at hS0
  have em0 : ([] ++ beP 8 b 8).length = 8 := by simp [beP_len]
  rw [em0]
  have hcp0 := compare_be A0 B0 8 C0 D0 a b _ (by omega) ha hb (hR0.below hbq0) hS0
  have hod0 := order_any a b q0 (by unfold W64; exact ha) (by unfold W64; exact hb)
  generalize ordI a b = o0 at hcp0 hod0
  clear ho hbq0 hbw1 hR0 hS0 en0 em0
  go_wp2_with fail
  refine hcp0.mono ?_
  rintro e w' ⟨rfl, hq⟩
  have hq2 := hq.symm
  subst hq2
  clear hq hcp0
  go_wp2_with fail
  refine hod0.mono ?_
  rintro e w' ⟨rfl, hq⟩
  have hq2 := hq.symm
  subst hq2
  clear hq hod0
  go_wp2_with fail
  refine (fixed_all _).mono ?_
  rintro e f0 ⟨rfl, hbf⟩
  have hbw3 := hbw2.trans (hbf.mono hbw2.size)
  clear hbf hbw2
  go_wp2_with fail
  refine (put32 none 0 a4 [] _ la4 (.inl rfl) (by simp) (fun _ => ⟨rfl, rfl⟩)).mono ?_
  rintro e p1 ⟨⟨r, rfl, ho⟩, hbp1⟩
  have hbw4 := hbw3.trans (hbp1.mono hbw3.size)
  obtain ⟨A1, C1, hv, hR1, _, _, _⟩ := ho.row
  subst hv
  rw [List.nil_append] at hR1
  have en1 : ([] ++ beP 4 a4 4).length = 4 := by simp [beP_len]
  rw [en1]
  clear ho hbp1 hbw3
  go_wp2_with fail
  refine (put32 none 0 b4 [] _ lb4 (.inl rfl) (by simp) (fun _ => ⟨rfl, rfl⟩)).mono ?_
  rintro e q1 ⟨⟨r, rfl, ho⟩, hbq1⟩
  have hbw5 := hbw4.trans (hbq1.mono hbw4.size)
  obtain ⟨B1, D1, hv, hS1, _, _, _⟩ := ho.row
  subst hv
  rw [List.nil_append] at hS1
  have em1 : ([] ++ beP 4 b4 4).length = 4 := by simp [beP_len]
  rw [em1]
  have hcp1 := compare_be A1 B1 4 C1 D1 a4 b4 _ (by omega) la4 lb4 (hR1.below hbq1) hS1
  have hod1 := order_any a4 b4 q1 (by unfold W64; omega) (by unfold W64; omega)
  generalize ordI a4 b4 = o1 at hcp1 hod1
  clear ho hbq1 hbw4 hR1 hS1 en1 em1
  go_wp2_with fail
  refine hcp1.mono ?_
  rintro e w' ⟨rfl, hq⟩
  have hq2 := hq.symm
  subst hq2
  clear hq hcp1
  go_wp2_with fail
  refine hod1.mono ?_
  rintro e w' ⟨rfl, hq⟩
  have hq2 := hq.symm
  subst hq2
  clear hq hod1
  go_wp2_with fail
  refine (put16 none 0 a2 [] _ la2 (.inl rfl) (by simp) (fun _ => ⟨rfl, rfl⟩)).mono ?_
  rintro e p2 ⟨⟨r, rfl, ho⟩, hbp2⟩
  have hbw6 := hbw5.trans (hbp2.mono hbw5.size)
  obtain ⟨A2, C2, hv, hR2, _, _, _⟩ := ho.row
  subst hv
  rw [List.nil_append] at hR2
  have en2 : ([] ++ beP 2 a2 2).length = 2 := by simp [beP_len]
  rw [en2]
  clear ho hbp2 hbw5
  go_wp2_with fail
  refine (put16 none 0 b2 [] _ lb2 (.inl rfl) (by simp) (fun _ => ⟨rfl, rfl⟩)).mono ?_
  rintro e q2 ⟨⟨r, rfl, ho⟩, hbq2⟩
  have hbw7 := hbw6.trans (hbq2.mono hbw6.size)
  obtain ⟨B2, D2, hv, hS2, _, _, _⟩ := ho.row
  subst hv
  rw [List.nil_append] at hS2
  have em2 : ([] ++ beP 2 b2 2).length = 2 := by simp [beP_len]
  rw [em2]
  have hcp2 := compare_be A2 B2 2 C2 D2 a2 b2 _ (by omega) la2 lb2 (hR2.below hbq2) hS2
  have hod2 := order_any a2 b2 q2 (by unfold W64; omega) (by unfold W64; omega)
  generalize ordI a2 b2 = o2 at hcp2 hod2
  clear ho hbq2 hbw6 hR2 hS2 en2 em2
  go_wp2_with fail
  refine hcp2.mono ?_
  rintro e w' ⟨rfl, hq⟩
  have hq2 := hq.symm
  subst hq2
  clear hq hcp2
  go_wp2_with fail
  refine hod2.mono ?_
  rintro e w' ⟨rfl, hq⟩
  have hq2 := hq.symm
  subst hq2
  clear hq hod2
  go_wp2_with fail
  refine (put8 none 0 a1 [] _ la1 (.inl rfl) (by simp) (fun _ => ⟨rfl, rfl⟩)).mono ?_
  rintro e p3 ⟨⟨r, rfl, ho⟩, hbp3⟩
  have hbw8 := hbw7.trans (hbp3.mono hbw7.size)
  obtain ⟨A3, C3, hv, hR3, _, _, _⟩ := ho.row
  subst hv
  rw [List.nil_append] at hR3
  have en3 : ([] ++ beP 1 a1 1).length = 1 := by simp [beP_len]
  rw [en3]
  clear ho hbp3 hbw7
  go_wp2_with fail
  refine (put8 none 0 b1 [] _ lb1 (.inl rfl) (by simp) (fun _ => ⟨rfl, rfl⟩)).mono ?_
  rintro e q3 ⟨⟨r, rfl, ho⟩, hbq3⟩
  have hbw9 := hbw8.trans (hbq3.mono hbw8.size)
  obtain ⟨B3, D3, hv, hS3, _, _, _⟩ := ho.row
  subst hv
  rw [List.nil_append] at hS3
  have em3 : ([] ++ beP 1 b1 1).length = 1 := by simp [beP_len]
  rw [em3]
  have hcp3 := compare_be A3 B3 1 C3 D3 a1 b1 _ (by omega) la1 lb1 (hR3.below hbq3) hS3
  have hod3 := order_any a1 b1 q3 (by unfold W64; omega) (by unfold W64; omega)
  generalize ordI a1 b1 = o3 at hcp3 hod3
  clear ho hbq3 hbw8 hR3 hS3 en3 em3
  go_wp2_with fail
  refine hcp3.mono ?_
  rintro e w' ⟨rfl, hq⟩
  have hq2 := hq.symm
  subst hq2
  clear hq hcp3
  go_wp2_with fail
  refine hod3.mono ?_
  rintro e w' ⟨rfl, hq⟩
  have hq2 := hq.symm
  subst hq2
  clear hq hod3
  go_wp2_with fail
  go_ret
  exact ⟨rfl, hbw9⟩
end codecRises
end Go.Proofs.Ytfhinodieghklab

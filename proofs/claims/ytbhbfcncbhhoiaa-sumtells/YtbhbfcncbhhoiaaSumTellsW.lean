/- The law on texts that part within 32 bits, walked. -/
import Derived.Test.YtbhbfcncbhhoiaaSm3
import Derived.Test.YtbhbfcncbhhoiaaOpenB
namespace Go.Proofs.Ytbhbfcncbhhoiaa.sumTells
open Go.RowKit

/-- What stands behind some rounds. -/
structure Turned (zs bs : List Nat) (at' : Int) (k m : Nat) (any : Bool) : Prop where
  all : All8 bs
  len : bs.length = zs.length
  low : m < 2 ^ k
  any : any = decide (m ≠ 0)
  here : m ≠ 0 → 0 ≤ at' ∧ at' < 8 * (zs.length : Int)
  val : leVal bs = leVal zs ^^^ (2 ^ at'.toNat * m)

theorem pow_mul_xor (A x y : Nat) : 2 ^ A * (x ^^^ y) = (2 ^ A * x) ^^^ (2 ^ A * y) := by
  apply Nat.eq_of_testBit_eq
  intro q
  simp only [Nat.testBit_xor, Nat.testBit_two_pow_mul]
  by_cases hq : A ≤ q <;> simp [hq]

theorem Turned.step {zs bs : List Nat} {A k m J b : Nat} {any : Bool} (t : Turned zs bs (A : Int) k m any) (hJ : J < bs.length) (hb : b < 8) (hJb : 8 * J + b = A + k) : Turned zs (bs.set J (at0 bs J ^^^ 2 ^ b)) (A : Int) (k + 1) (m + 2 ^ k) true := by
  have hp : 0 < 2 ^ k := Nat.two_pow_pos k
  refine ⟨?_, by rw [List.length_set]; exact t.len, by have := t.low; rw [Nat.pow_succ]; omega, ?_, fun _ => ⟨by omega, by have := t.len; omega⟩, ?_⟩
  · intro z hz
    rcases List.mem_or_eq_of_mem_set hz with h | h
    · exact t.all z h
    · rw [h]
      have h1 : at0 bs J < 2 ^ 8 := t.all _ (at0_mem hJ)
      exact Nat.xor_lt_two_pow h1 (Nat.pow_lt_pow_right (by omega) hb)
  · rw [eq_comm, decide_eq_true_iff]; omega
  · have h1 := leVal_set t.all hJ hb
    have h2 : m + 2 ^ k = m ^^^ 2 ^ k := by have := add_xor (u := 1) t.low; rwa [Nat.mul_one] at this
    show leVal (bs.set J (bs.getD J 0 ^^^ 2 ^ b)) = _
    rw [h1, t.val, hJb, h2, pow_mul_xor, Nat.pow_add, Int.toNat_natCast, Nat.xor_assoc]

theorem xor_bit {x b : Nat} (hx : x < 256) (hb : b < 8) : bits .xor .u8 (x : Int) (2 ^ b % 256) = ((x ^^^ 2 ^ b : Nat) : Int) := by
  have hp : 2 ^ b < 2 ^ 8 := Nat.pow_lt_pow_right (by omega) hb
  have hp : 2 ^ b < 256 := hp
  have h := u8_xor_nat x (2 ^ b) hx hp
  rw [← h]
  congr 1
  have e : ((2 ^ b : Nat) : Int) = 2 ^ b := by rw [Int.natCast_pow]; rfl
  rw [← e]
  generalize 2 ^ b = Y at hp
  omega

set_option maxRecDepth 100000 in
set_option maxHeartbeats 2000000 in
theorem turned_any (a : Option Addr) (cap : Nat) (zs : List Nat) (at' : Int) (mask : Nat) (ha : -9223372036854775808 ≤ at' ∧ at' ≤ 9223372036854775807) (_hm : mask < 4294967296) (w : World) (hr : RowB w a zs) (h8 : All8 zs) (hl : zs.length ≤ 140737488355328) (hnil : a = none → zs.length = 0 ∧ cap = 0) :
    Calls Try.prog 21 #[.slice a zs.length cap, .int .i64 at', .int .u32 (mask : Int)] w fun e w' => (∃ r bs m any, e = .returned (.tuple #[r, .bool any]) ∧ OwnB w' w.heap.size r bs ∧ Turned zs bs at' 32 m any) ∧ Below w.heap.size w w' := by
  have hcp := copied_any a cap zs w hr hl hnil
  clear hr hnil
  go_enter Try.func21, Try.ntmps21
  go_wp2_with fail
  refine hcp.mono ?_
  rintro e w1 ⟨⟨r1, rfl, ho1⟩, hb1⟩
  obtain ⟨p1, q1, hv1, hp1, _, _, _⟩ := ho1.row
  subst hv1
  clear hcp hp1
  go_wp2_with fail
  go_loopw [9, 10] (fun y i wr => ∃ (k m : Nat) (any : Bool) (bs : List Nat), k ≤ 32 ∧ i = .int .i64 (k : Int) ∧ y = .bool any ∧ OwnB wr w.heap.size (.slice p1 zs.length q1) bs ∧ Below w.heap.size w wr ∧ Turned zs bs at' k m any) (fun _ i _ => 32 - (intOf i).toNat)
  case atStart => exact ⟨0, 0, false, zs, by omega, rfl, rfl, ho1, hb1, ⟨h8, rfl, by simp, rfl, fun h => absurd rfl h, by simp⟩⟩
  case round =>
    obtain ⟨k, m, any, bs, hk, rfl, rfl, how, hbl, ht⟩ := hrel
    clear ho1 hb1
    by_cases hlt : k < 32
    · have hd : decide ((k : Int) < 32) = true := by simp; omega
      obtain ⟨X, hX⟩ : ∃ X, X = mask / 2 ^ k := ⟨_, rfl⟩
      have hXi : (mask : Int) / 2 ^ k = (X : Int) := by rw [hX, Int.natCast_ediv, Int.natCast_pow]; rfl
      have hgo : ∀ {bs : List Nat} {wq : World}, OwnB wq w.heap.size (.slice p1 zs.length q1) bs → Below w.heap.size w wq → Turned zs bs at' k m any → Turned zs bs at' (k + 1) m any := fun _ _ t => ⟨t.all, t.len, by have := t.low; rw [Nat.pow_succ]; omega, t.any, t.here, t.val⟩
      clear hX
      by_cases h1 : X % 2 = 0
      · have e1 : (X : Int).tmod 2 = 0 := by rw [Int.tmod_eq_emod_of_nonneg (by omega)]; omega
        go_wp2
        go_roundw
        case rel => exact ⟨k + 1, m, any, bs, by omega, by go_num, rfl, how, hbl, hgo how hbl ht⟩
        case measure => simp [intOf]; omega
      · have e1 : (X : Int).tmod 2 = 1 := by rw [Int.tmod_eq_emod_of_nonneg (by omega)]; omega
        by_cases h2 : 0 ≤ at'
        · by_cases h3 : at' ≤ 8 * (zs.length : Int) - 1 - (k : Int)
          · obtain ⟨A, rfl⟩ := Int.eq_ofNat_of_zero_le h2
            obtain ⟨J, hJ⟩ : ∃ J, J = (A + k) / 8 := ⟨_, rfl⟩
            obtain ⟨b, hb⟩ : ∃ b, b = (A + k) % 8 := ⟨_, rfl⟩
            have eJ : ((A : Int) + (k : Int)) / 8 = (J : Int) := by omega
            have eJ2 : ((A : Int) + (k : Int)).tdiv 8 = (J : Int) := by rw [Int.tdiv_eq_ediv_of_nonneg (by omega)]; exact eJ
            have eb : ((A : Int) + (k : Int)).tmod 8 = (b : Int) := by rw [Int.tmod_eq_emod_of_nonneg (by omega)]; omega
            have hb8 : b < 8 := by omega
            have hJl : J < bs.length := by rw [ht.len]; omega
            obtain ⟨g, cur, rfl, hn, hgb, hh, hcur⟩ := how.at (by omega)
            have hcell := cell_of_row wr g J cur 5 (0, 0) hh
            rw [hcur J hJl] at hcell
            have hfz := frozen_of_row wr g J cur _ hh
            have hJi : (J : Int) < (zs.length : Int) := by have := ht.len; omega
            have hx := xor_bit (x := at0 bs J) (ht.all _ (at0_mem hJl)) hb8
            have hT := ht.step hJl hb8 (by omega)
            have hown := how.set hJl (at0 bs J ^^^ 2 ^ b)
            have hbl2 : ∀ v, Below w.heap.size w (wr.setCell ⟨g, J, none⟩ v) := fun v => hbl.setCell hgb v
            clear hJ hb hcur hn
            go_wp2
            go_roundw
            case rel => exact ⟨k + 1, m + 2 ^ k, true, _, by omega, by go_num, rfl, hown, hbl2 _, hT⟩
            case measure => simp [intOf]; omega
          · go_wp2
            go_roundw
            case rel => exact ⟨k + 1, m, any, bs, by omega, by go_num, rfl, how, hbl, hgo how hbl ht⟩
            case measure => simp [intOf]; omega
        · go_wp2
          go_roundw
          case rel => exact ⟨k + 1, m, any, bs, by omega, by go_num, rfl, how, hbl, hgo how hbl ht⟩
          case measure => simp [intOf]; omega
    · have hk32 : k = 32 := by omega
      go_wp2
      go_ret2
      exact ⟨⟨_, bs, m, any, rfl, how, by rw [← hk32]; exact ht⟩, hbl⟩

set_option maxRecDepth 100000 in
set_option maxHeartbeats 2000000 in
theorem walk (a : Option Addr) (cap : Nat) (zs : List Nat) (at' : Int) (ha : -9223372036854775808 ≤ at' ∧ at' ≤ 9223372036854775807) (mask : Nat) (hm : mask < 4294967296) (w : World) (hc : Came8 w a cap zs) :
    Calls Try.prog 7 #[.slice a zs.length cap, .int .i64 at', .int .u32 (mask : Int)] w fun e w' => e = .returned (.bool true) ∧ Below w.heap.size w w' := by
  have hl : zs.length ≤ 140737488355328 := by have := hc.size; omega
  have hmx : zs.length ≤ maxLen := by unfold maxLen; omega
  have hnil := hc.none
  have h8 := hc.all
  have hr := hc.row
  clear hc
  go_enter Try.func7, Try.ntmps7
  go_wp2_with fail
  refine (head_any _).mono ?_
  rintro e w1 ⟨rfl, hb1⟩
  have hr1 := hr.below hb1
  clear hr
  go_wp2_with fail
  refine (turned_any a cap zs at' mask ha hm w1 hr1 h8 hl hnil).mono ?_
  rintro e w2 ⟨⟨r, bs, m, any, rfl, ho2, ht⟩, hb2⟩
  have hbw2 := hb1.trans (hb2.mono hb1.size)
  have hr2 := hr1.below hb2
  clear hr1 hb1
  cases any with
  | false =>
    go_wp2_with fail
    go_ret
    exact ⟨rfl, hbw2⟩
  | true =>
    have hm0 : m ≠ 0 := by have := ht.any; rw [eq_comm, decide_eq_true_iff] at this; exact this
    obtain ⟨h0, h1⟩ := ht.here hm0
    have hne : moreN 0 zs ≠ moreN 0 bs := more_unlike h8 ht.all ht.len.symm (show W32 m from ht.low) hm0 (by rw [ht.len]; omega) ht.val 0
    have hbm : bs.length ≤ maxLen := by rw [ht.len]; exact hmx
    have hb8 := ht.all
    obtain ⟨S, hS⟩ : ∃ S, S = moreN 0 zs := ⟨_, rfl⟩
    obtain ⟨T, hT⟩ : ∃ T, T = moreN 0 bs := ⟨_, rfl⟩
    rw [← hS, ← hT] at hne
    have hd : ((S : Int) != (T : Int)) = true := by simp; omega
    have HS := hide_it hS
    have HT := hide_it hT
    clear hS hT ht
    go_wp2_with fail
    refine (copied_any a cap zs w2 hr2 hl hnil).mono ?_
    rintro e w4 ⟨⟨r4, rfl, ho4⟩, hb4⟩
    obtain ⟨p4, q4, hv4, hp4, _, _, _⟩ := ho4.row
    subst hv4
    have ho2' := ho2.below hb4
    obtain ⟨p5, q5, hv5, hp5, _, _, _⟩ := ho2'.row
    subst hv5
    have hof := of_any p4 q4 zs w4 hp4 h8 hmx
    rw [← HS.out] at hof
    have hbw4 := hbw2.trans (hb4.mono hbw2.size)
    clear ho4 hr2 hp4 hbw2 hb4 ho2 ho2'
    go_wp2_with fail
    refine hof.mono ?_
    rintro e w5 ⟨rfl, hb5⟩
    have hbw5 := hbw4.trans (hb5.mono hbw4.size)
    have hof := of_any p5 q5 bs w5 (hp5.below hb5) hb8 hbm
    rw [← HT.out] at hof
    clear hbw4 hb5 hp5
    go_wp2_with fail
    refine hof.mono ?_
    rintro e w6 ⟨rfl, hb6⟩
    have hbw6 := hbw5.trans (hb6.mono hbw5.size)
    clear hof hbw5 hb6
    go_wp2_with fail
    go_ret
    exact ⟨rfl, hbw6⟩
end Go.Proofs.Ytbhbfcncbhhoiaa.sumTells

/- Takings of a cursor: a short form, a number between bounds, bytes behind their number. -/
import Derived.Test.YtlhlpofmeeiffabFe1
namespace Go.Proofs.Ytlhlpofmeeiffab
open Go.RowKit

/-- What the groups of seven bits at the beginning of bytes come to, from the i-th on: the number and the bytes behind, or the error. -/
def groupsFrom : Nat → Nat → List Nat → Except Nat (Nat × List Nat)
  | _, _, [] => .error 20
  | i, v, x :: t =>
    if i = 9 ∧ 1 < x then .error 21
    else if 128 ≤ x then groupsFrom (i + 1) (v + x % 128 * 128 ^ i) t
    else if x = 0 ∧ 0 < i then .error 21 else .ok (v + x % 128 * 128 ^ i, t)

theorem mask127 {x : Nat} (hx : x < 256) : bits .and .u8 (x : Int) 127 = ((x % 128 : Nat) : Int) := by
  have h := u8_and_nat x 127 hx (by decide)
  rw [nat_mask7] at h
  exact h

theorem pow7 (k : Nat) : (2 : Nat) ^ (7 * k) = 128 ^ k := by rw [Nat.pow_mul]

theorem group_lt {k m : Nat} (hk : k ≤ 9) (hm : m < 128) (h9 : k = 9 → m ≤ 1) : m * 128 ^ k < 18446744073709551616 := by
  by_cases e : k = 9
  · subst e; have := h9 rfl; have h : m * 128 ^ 9 ≤ 1 * 128 ^ 9 := Nat.mul_le_mul_right _ this; omega
  · have h1 : 128 ^ k ≤ 128 ^ 8 := Nat.pow_le_pow_right (by decide) (by omega)
    have h2 : m * 128 ^ k ≤ 127 * 128 ^ 8 := Nat.mul_le_mul (by omega) h1
    omega

theorem pow_lt64 {k : Nat} (hk : k ≤ 9) : 128 ^ k < 18446744073709551616 := by
  have h1 : 128 ^ k ≤ 128 ^ 9 := Nat.pow_le_pow_right (by decide) hk
  omega

theorem or_group {k y x : Nat} (hk : k ≤ 9) (h9 : k = 9 → x ≤ 1) (hy : y < 128 ^ k) :
    bits .or .u64 (y : Int) (IntKind.u64.wrap ((x : Int) % 128 * 2 ^ (7 * k))) = ((y + x % 128 * 128 ^ k : Nat) : Int) := by
  have hm : x % 128 < 128 := Nat.mod_lt _ (by decide)
  have hlt := group_lt hk hm (fun e => by have := h9 e; omega)
  have hyl : y < 18446744073709551616 := Nat.lt_trans hy (pow_lt64 hk)
  have e1 : (x : Int) % 128 * 2 ^ (7 * k) = ((x % 128 * 128 ^ k : Nat) : Int) := by
    rw [← pow7]; simp
  have e2 : IntKind.u64.wrap ((x % 128 * 128 ^ k : Nat) : Int) = ((x % 128 * 128 ^ k : Nat) : Int) := by
    generalize x % 128 * 128 ^ k = z at *
    simp [IntKind.wrap, IntKind.bits, IntKind.signed]
    omega
  rw [e1, e2, u64_or_nat _ _ hyl hlt, Nat.or_comm, nat_join (7 * k) (x % 128 * 128 ^ k) y (by rw [← pow7]; simp) (by rw [pow7]; exact hy), Nat.add_comm]

set_option maxRecDepth 100000 in
set_option maxHeartbeats 400000 in
theorem groups_any (base g : Nat) (bs : List Nat) (w : World) (hc : Cur w base g bs) (h8 : All8 bs) :
    Calls Try.prog 70 #[.pointer (some ⟨g, 0, none⟩)] w fun e w' => Took (fun f => .int .u64 ((f : Nat) : Int)) base g w (groupsFrom 0 0 bs) e w' := by
  go_enter Try.func70, Try.ntmps70
  go_wp2_with fail
  go_loopw [3, 4] (fun v i wr => ∃ (k y : Nat) (t : List Nat), k ≤ 9 ∧ y < 128 ^ k ∧ i = .int .i64 (k : Int) ∧ v = .int .u64 (y : Int) ∧ All8 t ∧ Cur wr base g t ∧ Below base w wr ∧ Hid (groupsFrom k y t = groupsFrom 0 0 bs)) (fun _ i _ => 10 - (intOf i).toNat)
  case atStart => exact ⟨0, 0, bs, by omega, by simp, rfl, rfl, h8, hc, Below.refl _ _, rfl⟩
  case round =>
    obtain ⟨k, y, t, hk, hy, rfl, rfl, ht8, hcur, hb, hgr⟩ := hrel
    clear hc h8
    cases t with
    | nil =>
      have hx := next_cut base g 1 [] wr hcur (by simp) (by unfold maxLen; omega)
      have HG : Hid (groupsFrom 0 0 bs = .error 20) := hgr.out.symm
      clear hcur hgr
      go_wp2_with fail
      refine hx.mono ?_
      rintro e w1 ⟨rfl, hq⟩
      have hq2 := hq.symm
      subst hq2
      go_wp2_with fail
      refine ⟨rfl, ?_⟩
      rw [HG.out]
      exact ⟨rfl, hb⟩
    | cons x t =>
      have hx := next_ok base g 1 (x :: t) wr hcur (by simp)
      have hx8 : x < 256 := ht8 x (by simp)
      have hmask := mask127 hx8
      have hm8 : x % 128 < 128 := Nat.mod_lt _ (by decide)
      clear hcur
      go_wp2_with fail
      refine hx.mono ?_
      rintro e w1 ⟨⟨a, cap, rfl, hr, _⟩, hcur, hb1⟩
      have hbw := hb.trans hb1
      obtain ⟨b, o, rfl, _, _, hcc⟩ : ∃ b o, a = some ⟨b, o, none⟩ ∧ b < base ∧ b < w1.heap.size ∧ ∀ i, i < ((x :: t).take 1).length → w1.cell? ⟨b, o + i, none⟩ = some (.int .u8 ((at0 ((x :: t).take 1) i : Nat) : Int)) := by
        rcases hr with h | h
        · simp at h
        · exact h
      have hck : w1.cell? ⟨b, o, none⟩ = some (.int .u8 (x : Int)) := by have := hcc 0 (by simp); simpa [at0] using this
      have HCUR : Hid (Cur w1 base g t) := hcur
      clear hcc hr hx hb hb1 hcur
      by_cases c1 : k = 9 ∧ 1 < x
      · have HG : Hid (groupsFrom 0 0 bs = .error 21) := by unfold Hid; rw [← hgr.out, groupsFrom, if_pos c1]
        obtain ⟨rfl, c2⟩ := c1
        have hd : decide ((1 : Int) < (x : Int)) = true := by simp; omega
        clear hgr
        go_wp2_with fail
        refine ⟨rfl, ?_⟩
        rw [HG.out]
        exact ⟨rfl, hbw⟩
      · by_cases c2 : 128 ≤ x
        · have HG : Hid (groupsFrom (k + 1) (y + x % 128 * 128 ^ k) t = groupsFrom 0 0 bs) := by unfold Hid; rw [← hgr.out]; exact (by rw [groupsFrom, if_neg c1, if_pos c2])
          have hk8 : k < 9 := by omega
          have hd : decide ((128 : Int) ≤ (x : Int)) = true := by simp; omega
          have hke : ((k : Int) == 9) = false := by simp; omega
          clear hgr
          have hor := or_group (k := k) (y := y) (x := x) hk (fun e => by omega) hy
          have hnew : y + x % 128 * 128 ^ k < 128 ^ (k + 1) := by
            rw [Nat.pow_succ]
            have h2 : x % 128 * 128 ^ k ≤ 127 * 128 ^ k := Nat.mul_le_mul_right _ (by omega)
            omega
          have HN := hide_it hnew
          have HO := hide_it hor
          clear hnew hor
          go_wp2_with fail
          go_roundw
          case rel => exact ⟨k + 1, _, t, by omega, HN.out, by go_num, by rw [HO.out], fun z hz => ht8 z (List.mem_cons_of_mem _ hz), HCUR.out, hbw, HG⟩
          case measure => simp [intOf]; omega
        · by_cases c3 : x = 0 ∧ 0 < k
          · have HG : Hid (groupsFrom 0 0 bs = .error 21) := by unfold Hid; rw [← hgr.out, groupsFrom, if_neg c1, if_neg c2, if_pos c3]
            obtain ⟨rfl, c4⟩ := c3
            clear hgr
            have hd : decide ((0 : Int) < (k : Int)) = true := by simp; omega
            go_wp2_with fail
            all_goals refine ⟨rfl, ?_⟩
            all_goals rw [HG.out]
            all_goals exact ⟨rfl, hbw⟩
          · have HG : Hid (groupsFrom 0 0 bs = .ok (y + x % 128 * 128 ^ k, t)) := by unfold Hid; rw [← hgr.out, groupsFrom, if_neg c1, if_neg c2, if_neg c3]
            have hor := or_group (k := k) (y := y) (x := x) hk (fun e => by omega) hy
            have HO := hide_it hor
            clear hgr hor
            have hd : decide ((128 : Int) ≤ (x : Int)) = false := by simp; omega
            by_cases k9 : k = 9
            · subst k9
              have hx1 : x = 1 := by omega
              have e : (2 : Int) ^ (7 * 9) = 9223372036854775808 := by simp
              have hor : bits .or .u64 (y : Int) (IntKind.u64.wrap ((x : Int) % 128 * 9223372036854775808)) = ((y + x % 128 * 128 ^ 9 : Nat) : Int) := by rw [← e]; exact HO.out
              have HO9 := hide_it hor
              have hd1 : decide ((1 : Int) < (x : Int)) = false := by simp; omega
              have hx0 : ((x : Int) == 0) = false := by simp; omega
              clear c3 c1 HO hor e hx1
              go_wp2_with fail
              go_ret
              rw [HG.out]
              exact ⟨congrArg (fun z => Ending.returned (Value.int .u64 z)) HO9.out, HCUR.out, hbw⟩
            · have hk9 : ((k : Int) == 9) = false := by simp; omega
              by_cases x0 : x = 0
              · have hk0 : k = 0 := by omega
                subst x0
                subst hk0
                have hy0 : y = 0 := by simpa using hy
                subst hy0
                clear c3 c1 hmask
                go_wp2_with fail
                go_ret
                rw [HG.out]
                exact ⟨by kernel_rfl, HCUR.out, hbw⟩
              · have hx0 : ((x : Int) == 0) = false := by simp; omega
                clear c3 c1
                go_wp2_with fail
                go_ret
                rw [HG.out]
                exact ⟨congrArg (fun z => Ending.returned (Value.int .u64 z)) HO.out, HCUR.out, hbw⟩

/-- The int whose fold this is. -/
def unfoldN (f : Nat) : Int := if f % 2 = 1 then -((f / 2 : Nat) : Int) - 1 else ((f / 2 : Nat) : Int)

/-- What taking a number between bounds answers. -/
def takeShort (low high : Int) (bs : List Nat) : Except Nat (Int × List Nat) :=
  if high < low then .error 2 else
  match groupsFrom 0 0 bs with
  | .error c => .error c
  | .ok (f, t) => if unfoldN f < low ∨ high < unfoldN f then .error 21 else .ok (unfoldN f, t)

/-- What taking bytes behind their number answers. -/
def takeCounted (most : Int) (bs : List Nat) : Except Nat (List Nat × List Nat) :=
  match takeShort 0 most bs with
  | .error c => .error c
  | .ok (n, t) => if t.length < n.toNat then .error 20 else .ok (t.take n.toNat, t.drop n.toNat)

theorem unfold_odd {f : Nat} (hf : W64 f) : wrap64 (bits .xor .u64 IntKind.u64.max ((f / 2 : Nat) : Int)) = -((f / 2 : Nat) : Int) - 1 := by
  have e2 : IntKind.u64.max = ((18446744073709551615 : Nat) : Int) := by decide
  unfold W64 at hf
  have hx : W64 (f / 2) := by unfold W64; omega
  rw [e2, u64_xor_nat _ _ (by decide) hx, xor_all hx]
  unfold wrap64
  omega

set_option maxRecDepth 100000 in
set_option maxHeartbeats 400000 in
theorem unfold_any (f : Nat) (w : World) (hf : W64 f) :
    Calls Try.prog 69 #[.int .u64 (f : Int)] w fun e w' => e = .returned (.int .i64 (unfoldN f)) ∧ w' = w := by
  have hodd := unfold_odd hf
  have hand : bits .and .u64 (f : Int) 1 = ((f % 2 : Nat) : Int) := by
    have h := u64_and_nat f 1 hf (by decide)
    rw [nat_mask1] at h
    exact h
  have he : (f : Int) / 2 = ((f / 2 : Nat) : Int) := by simp
  have HE := hide_it he
  have HO := hide_it hodd
  clear he hodd
  unfold W64 at hf
  by_cases h1 : f % 2 = 1
  · have HU : Hid (unfoldN f = -((f / 2 : Nat) : Int) - 1) := by unfold Hid unfoldN; rw [if_pos h1]
    rw [h1] at hand
    go_enter Try.func69, Try.ntmps69
    go_wp2_with fail
    all_goals go_ret
    all_goals exact ⟨congrArg (fun z => Ending.returned (Value.int .i64 z)) (by rw [HE.out, HO.out, HU.out]), rfl⟩
  · have HU : Hid (unfoldN f = ((f / 2 : Nat) : Int)) := by unfold Hid unfoldN; rw [if_neg h1]
    have h0 : f % 2 = 0 := by omega
    rw [h0] at hand
    go_enter Try.func69, Try.ntmps69
    go_wp2_with fail
    all_goals go_ret
    all_goals exact ⟨congrArg (fun z => Ending.returned (Value.int .i64 z)) (by rw [HE.out, HU.out]), rfl⟩

theorem unfoldN_bounds {f : Nat} (hf : W64 f) : -9223372036854775808 ≤ unfoldN f ∧ unfoldN f ≤ 9223372036854775807 := by
  unfold unfoldN
  unfold W64 at hf
  split <;> omega

theorem groups_from {t : List Nat} : ∀ (bs : List Nat) (k y f : Nat), k ≤ 9 → y < 128 ^ k → groupsFrom k y bs = .ok (f, t) → W64 f := by
  intro bs
  induction bs with
  | nil => intro k y f _ _ h; cases h
  | cons x s ih =>
    intro k y f hk hy h
    rw [groupsFrom] at h
    split at h
    · cases h
    · next c1 =>
      have hpow : y + x % 128 * 128 ^ k < 128 ^ (k + 1) := by
        rw [Nat.pow_succ]
        have hm : x % 128 < 128 := Nat.mod_lt _ (by decide)
        have h2 : x % 128 * 128 ^ k ≤ 127 * 128 ^ k := Nat.mul_le_mul_right _ (by omega)
        omega
      split at h
      · next c2 => exact ih (k + 1) _ f (by omega) hpow h
      · split at h
        · cases h
        · next c2 c3 =>
          have e := Except.ok.inj h
          have e1 : y + x % 128 * 128 ^ k = f := congrArg Prod.fst e
          rw [← e1]
          unfold W64
          by_cases h9 : k = 9
          · subst h9
            have hx : x % 128 ≤ 1 := by omega
            have h2 : x % 128 * 128 ^ 9 ≤ 1 * 128 ^ 9 := Nat.mul_le_mul_right _ hx
            omega
          · have h3 : 128 ^ (k + 1) ≤ 128 ^ 9 := Nat.pow_le_pow_right (by decide) (by omega)
            omega

theorem groups_w64 (bs : List Nat) : ∀ f t, groupsFrom 0 0 bs = .ok (f, t) → W64 f := fun f t h => groups_from bs 0 0 f (by omega) (by simp) h

theorem groups_len {f : Nat} {t : List Nat} : ∀ (bs : List Nat) (k y : Nat), groupsFrom k y bs = .ok (f, t) → t.length ≤ bs.length := by
  intro bs
  induction bs with
  | nil => intro k y h; cases h
  | cons x s ih =>
    intro k y h
    rw [groupsFrom] at h
    split at h
    · cases h
    · split at h
      · have := ih _ _ h; simp; omega
      · split at h
        · cases h
        · cases h; simp

theorem groups_all {f : Nat} {t : List Nat} : ∀ (bs : List Nat) (_ : All8 bs) (k y : Nat), groupsFrom k y bs = .ok (f, t) → All8 t := by
  intro bs
  induction bs with
  | nil => intro _ k y h; cases h
  | cons x s ih =>
    intro h8 k y h
    have h8s : All8 s := fun z hz => h8 z (List.mem_cons_of_mem _ hz)
    rw [groupsFrom] at h
    split at h
    · cases h
    · split at h
      · exact ih h8s _ _ h
      · split at h
        · cases h
        · cases h; exact h8s

set_option maxRecDepth 100000 in
set_option maxHeartbeats 400000 in
theorem short_any (base g : Nat) (low high : Int) (bs : List Nat) (w : World) (hc : Cur w base g bs) (h8 : All8 bs) (_hl1 : -9223372036854775808 ≤ low) (_hl2 : low ≤ 9223372036854775807) (_hh1 : -9223372036854775808 ≤ high) (_hh2 : high ≤ 9223372036854775807) :
    Calls Try.prog 62 #[.pointer (some ⟨g, 0, none⟩), .int .i64 low, .int .i64 high] w fun e w' => Took (fun n => .int .i64 n) base g w (takeShort low high bs) e w' := by
  have hg := groups_any base g bs w hc h8
  by_cases hlh : high < low
  · have HT : Hid (takeShort low high bs = .error 2) := by unfold Hid takeShort; rw [if_pos hlh]
    clear hg hc
    go_enter Try.func62, Try.ntmps62
    go_wp2_with fail
    refine ⟨rfl, ?_⟩
    rw [HT.out]
    exact ⟨rfl, Below.refl _ _⟩
  · obtain ⟨R, hR⟩ : ∃ R, R = groupsFrom 0 0 bs := ⟨_, rfl⟩
    rw [← hR] at hg
    have HR := hide_it hR
    have hW := groups_w64 bs
    rw [← hR] at hW
    clear hR hc
    go_enter Try.func62, Try.ntmps62
    go_wp2_with fail
    refine hg.mono ?_
    intro e w1 ht
    cases R with
    | error c =>
      obtain ⟨rfl, hb⟩ := ht
      have HT : Hid (takeShort low high bs = .error c) := by unfold Hid takeShort; rw [if_neg (by omega), ← HR.out]
      go_wp2_with fail
      refine ⟨rfl, ?_⟩
      rw [HT.out]
      exact ⟨rfl, hb⟩
    | ok p =>
      obtain ⟨f, t⟩ := p
      obtain ⟨rfl, hcur, hb⟩ := ht
      have hf : W64 f := hW f t rfl
      have HCUR := hide_it hcur
      clear hcur hg hW
      have hu := unfold_any f w1 hf
      have hub := unfoldN_bounds hf
      by_cases hin : unfoldN f < low ∨ high < unfoldN f
      · have HT : Hid (takeShort low high bs = .error 21) := by unfold Hid takeShort; rw [if_neg (by omega), ← HR.out]; exact if_pos hin
        clear HR
        go_wp2_with fail
        refine hu.mono ?_
        rintro e w2 ⟨rfl, hq⟩
        have hq2 := hq.symm
        subst hq2
        clear hu hq
        generalize unfoldN f = n at *
        by_cases h1 : n < low
        · have hd1 : decide (n < low) = true := by simpa using h1
          clear hin
          go_wp2_with fail
          refine ⟨rfl, ?_⟩
          rw [HT.out]
          exact ⟨rfl, hb⟩
        · have hd1 : decide (n < low) = false := by simpa using h1
          have hd2 : decide (high < n) = true := by simp; omega
          clear hin
          go_wp2_with fail
          refine ⟨rfl, ?_⟩
          rw [HT.out]
          exact ⟨rfl, hb⟩
      · have HT : Hid (takeShort low high bs = .ok (unfoldN f, t)) := by unfold Hid takeShort; rw [if_neg (by omega), ← HR.out]; exact if_neg hin
        clear HR
        go_wp2_with fail
        refine hu.mono ?_
        rintro e w2 ⟨rfl, hq⟩
        have hq2 := hq.symm
        subst hq2
        clear hu hq
        generalize unfoldN f = n at *
        have hd1 : decide (n < low) = false := by simp; omega
        have hd2 : decide (high < n) = false := by simp; omega
        clear hin
        go_wp2_with fail
        go_ret
        rw [HT.out]
        exact ⟨rfl, HCUR.out, hb⟩

theorem takeShort_nat {most : Int} {bs : List Nat} {n : Int} {t : List Nat} (h : takeShort 0 most bs = .ok (n, t)) : 0 ≤ n ∧ n ≤ most := by
  unfold takeShort at h
  split at h
  · cases h
  · split at h
    · cases h
    · split at h
      · cases h
      · cases h; omega

theorem takeShort_all {low high : Int} {bs : List Nat} {n : Int} {t : List Nat} (h : takeShort low high bs = .ok (n, t)) (h8 : All8 bs) : All8 t := by
  unfold takeShort at h
  split at h
  · cases h
  · split at h
    · cases h
    · next e =>
      split at h
      · cases h
      · cases h; exact groups_all bs h8 0 0 e

set_option maxRecDepth 100000 in
set_option maxHeartbeats 400000 in
theorem counted_any (base g : Nat) (most : Int) (bs : List Nat) (w : World) (hc : Cur w base g bs) (h8 : All8 bs) (hl1 : -9223372036854775808 ≤ most) (hl2 : most ≤ 9223372036854775807) :
    Calls Try.prog 59 #[.pointer (some ⟨g, 0, none⟩), .int .i64 most] w fun e w' =>
      (∃ c, takeCounted most bs = .error c ∧ e = .panicked [{ v := .iface 31 (.int .i64 (c : Int)), recovered := false }] ∧ Below base w w') ∨
      (∃ p t a cap, takeCounted most bs = .ok (p, t) ∧ e = .returned (.slice a p.length cap) ∧ RowLt w' base a p ∧ (a = none → p.length = 0 ∧ cap = 0) ∧ Cur w' base g t ∧ Below base w w') := by
  have hg := short_any base g 0 most bs w hc h8 (by omega) (by omega) hl1 hl2
  obtain ⟨R, hR⟩ : ∃ R, R = takeShort 0 most bs := ⟨_, rfl⟩
  rw [← hR] at hg
  have HR := hide_it hR
  clear hR hc
  go_enter Try.func59, Try.ntmps59
  go_wp2_with fail
  refine hg.mono ?_
  intro e w1 ht
  cases R with
  | error c =>
    obtain ⟨rfl, hb⟩ := ht
    have HT : Hid (takeCounted most bs = .error c) := by unfold Hid takeCounted; rw [← HR.out]
    go_wp2_with fail
    exact ⟨rfl, .inl ⟨c, HT.out, rfl, hb⟩⟩
  | ok p =>
    obtain ⟨n, t⟩ := p
    obtain ⟨rfl, hcur, hb⟩ := ht
    obtain ⟨h0, hm⟩ := takeShort_nat HR.out.symm
    obtain ⟨k, rfl⟩ : ∃ k : Nat, n = (k : Int) := ⟨n.toNat, by omega⟩
    clear hg
    by_cases hlt : t.length < k
    · have HT : Hid (takeCounted most bs = .error 20) := by unfold Hid takeCounted; rw [← HR.out]; exact if_pos hlt
      have hx := next_cut base g k t w1 hcur hlt (by unfold maxLen; omega)
      clear HR
      go_wp2_with fail
      refine hx.mono ?_
      rintro e w2 ⟨rfl, hq⟩
      have hq2 := hq.symm
      subst hq2
      go_wp2_with fail
      exact ⟨rfl, .inl ⟨20, HT.out, rfl, hb⟩⟩
    · have HT : Hid (takeCounted most bs = .ok (t.take k, t.drop k)) := by unfold Hid takeCounted; rw [← HR.out]; exact if_neg hlt
      have hx := next_ok base g k t w1 hcur (by omega)
      clear HR
      go_wp2_with fail
      refine hx.mono ?_
      rintro e w2 ⟨⟨a, cap, rfl, hr, hna⟩, hcur2, hb2⟩
      have HC := hide_it hcur2
      clear hx hcur hcur2
      go_wp2_with fail
      go_ret
      have e : (t.take k).length = k := by simp; omega
      refine .inr ⟨t.take k, t.drop k, a, cap, HT.out, ?_, hr, by rw [e]; exact hna, HC.out, hb.trans hb2⟩
      rw [e]
      rfl

end Go.Proofs.Ytlhlpofmeeiffab

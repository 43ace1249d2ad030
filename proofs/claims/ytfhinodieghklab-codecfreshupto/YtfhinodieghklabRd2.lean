/- Takings of a cursor: a number of a fixed width, a short form, bytes behind their number. -/
import Derived.Test.YtfhinodieghklabRd1
namespace Go.Proofs.Ytfhinodieghklab
open Go.RowKit

theorem All8.at {bs : List Nat} (h : All8 bs) (i : Nat) : at0 bs i < 256 := by
  by_cases hi : i < bs.length
  · exact h _ (at0_mem hi)
  · unfold at0; rw [List.getD_eq_getElem?_getD, List.getElem?_eq_none (by omega)]; show 0 < 256; omega
theorem All8.take {bs : List Nat} (h : All8 bs) (n : Nat) : All8 (bs.take n) := fun z hz => h z (List.mem_of_mem_take hz)
theorem All8.drop {bs : List Nat} (h : All8 bs) (n : Nat) : All8 (bs.drop n) := fun z hz => h z (List.mem_of_mem_drop hz)

/-- The number whose bytes these are, the highest first. -/
def beVal (bs : List Nat) : Nat := bs.foldl (fun v x => v * 256 + x) 0
theorem beVal_snoc (bs : List Nat) (x : Nat) : beVal (bs ++ [x]) = beVal bs * 256 + x := by unfold beVal; rw [List.foldl_append]; rfl
theorem take_snoc {bs : List Nat} {k : Nat} (hk : k < bs.length) : bs.take (k + 1) = bs.take k ++ [at0 bs k] := by rw [List.take_succ_eq_append_getElem hk, at0_get hk]
theorem beVal_lt {bs : List Nat} (h : All8 bs) : ∀ k, k ≤ bs.length → beVal (bs.take k) < 256 ^ k := by
  intro k
  induction k with
  | zero => intro _; simp [beVal]
  | succ k ih =>
    intro hk
    have := ih (by omega)
    have h2 := h.at k
    rw [take_snoc (by omega), beVal_snoc, Nat.pow_succ]
    omega
theorem or_low8 (v x : Nat) (hx : x < 256) : (v * 256 ||| x) = v * 256 + x := nat_join 8 (v * 256) x (by simp) hx

set_option maxRecDepth 100000 in
set_option maxHeartbeats 400000 in
theorem fixed_cut (base g W : Nat) (bs : List Nat) (w : World) (hc : Cur w base g bs) (hW : W ≤ 8) (hn : bs.length < W) :
    Calls Try.prog 50 #[.pointer (some ⟨g, 0, none⟩), .int .i64 (W : Int)] w fun e w' => e = .panicked [{ v := .iface 31 (.int .i64 20), recovered := false }] ∧ w' = w := by
  have hx := next_cut base g W bs w hc hn (by unfold maxLen; omega)
  clear hc
  go_enter Try.func50, Try.ntmps50
  go_wp2_with fail
  refine hx.mono ?_
  rintro e w1 ⟨rfl, hq⟩
  have hq2 := hq.symm
  subst hq2
  go_wp2_with fail
  exact ⟨rfl, rfl, rfl⟩

set_option maxRecDepth 100000 in
set_option maxHeartbeats 400000 in
theorem fixed_ok (base g W : Nat) (bs : List Nat) (w : World) (hc : Cur w base g bs) (h8 : All8 bs) (hW : W ≤ 8) (hn : W ≤ bs.length) :
    Calls Try.prog 50 #[.pointer (some ⟨g, 0, none⟩), .int .i64 (W : Int)] w fun e w' => e = .returned (.int .u64 ((beVal (bs.take W) : Nat) : Int)) ∧ Cur w' base g (bs.drop W) ∧ Below base w w' := by
  have hx := next_ok base g W bs w hc hn
  clear hc
  go_enter Try.func50, Try.ntmps50
  go_wp2_with fail
  refine hx.mono ?_
  rintro e w1 ⟨⟨a, cap, rfl, hr, _⟩, hcur, hb⟩
  have HCUR := hide_it hcur
  clear hcur hx
  go_wp2_with fail
  go_loop [5, 12] (fun v i => ∃ k : Nat, k ≤ W ∧ i = .int .i64 (k : Int) ∧ v = .int .u64 ((beVal (bs.take k) : Nat) : Int)) (fun _ i => W - (intOf i).toNat)
  case atStart => exact ⟨0, by omega, rfl, by simp [beVal]⟩
  case round =>
    obtain ⟨k, hk, rfl, rfl⟩ := hrel
    by_cases hlt : k < W
    · obtain ⟨b, o, rfl, _, _, hcc⟩ : ∃ b o, a = some ⟨b, o, none⟩ ∧ b < base ∧ b < w1.heap.size ∧ ∀ i, i < (bs.take W).length → w1.cell? ⟨b, o + i, none⟩ = some (.int .u8 ((at0 (bs.take W) i : Nat) : Int)) := by
        rcases hr with h | h
        · rw [List.length_take] at h; omega
        · exact h
      have hck := hcc k (by simp; omega)
      rw [at0_take hlt] at hck
      have hx8 := h8.at k
      have hvl := beVal_lt h8 k (by omega)
      have hp : 256 ^ k ≤ 256 ^ 7 := Nat.pow_le_pow_right (by decide) (by omega)
      have hv7 : beVal (bs.take k) < 72057594037927936 := Nat.lt_of_lt_of_le hvl hp
      have HS := hide_it (show beVal (bs.take (k + 1)) = beVal (bs.take k) * 256 + at0 bs k by rw [take_snoc (by omega), beVal_snoc])
      have hor := or_low8 (beVal (bs.take k)) (at0 bs k) hx8
      clear hcc hvl hp hr
      generalize at0 bs k = x at *
      generalize beVal (bs.take k) = y at *
      have hbits : bits .or .u64 ((y : Int) * 256) (x : Int) = ((y * 256 + x : Nat) : Int) := by
        have h := u64_or_nat (y * 256) x (by omega) (by omega)
        rw [hor] at h
        have e : ((y * 256 : Nat) : Int) = (y : Int) * 256 := by simp
        rw [e] at h
        exact h
      have hd : decide ((k : Int) < (W : Int)) = true := by simp; omega
      have hi1 : (k : Int) < (W : Int) := by omega
      clear hor
      go_wp2_with fail
      go_round
      case rel => exact ⟨k + 1, by omega, by go_num, by rw [HS.out]; simp⟩
      case measure => simp [intOf]; omega
    · have hkW : k = W := by omega
      subst hkW
      have hd : decide ((k : Int) < (k : Int)) = false := by simp
      go_wp2_with fail
      go_ret
      exact ⟨rfl, HCUR.out, hb⟩

/-- What the groups of seven bits at the beginning of bytes come to, from the i-th on: the number and the bytes behind, or the error. -/
def groupsFrom : Nat → Nat → List Nat → Except Nat (Nat × List Nat)
  | _, _, [] => .error 20
  | i, v, x :: t =>
    if i = 9 ∧ 1 < x then .error 21
    else if 128 ≤ x then groupsFrom (i + 1) (v + x % 128 * 128 ^ i) t
    else if x = 0 ∧ 0 < i then .error 21 else .ok (v + x % 128 * 128 ^ i, t)

/-- What comes of a taking: a value, the cursor behind it; or the error. -/
def Took {A : Type} (val : A → Value) (base g : Nat) (w : World) (r : Except Nat (A × List Nat)) (e : Ending) (w' : World) : Prop :=
  match r with
  | .error c => e = .panicked [{ v := .iface 31 (.int .i64 (c : Int)), recovered := false }] ∧ Below base w w'
  | .ok (f, t) => e = .returned (val f) ∧ Cur w' base g t ∧ Below base w w'

theorem mask127 {x : Nat} (hx : x < 256) : bits .and .u8 (x : Int) 127 = ((x % 128 : Nat) : Int) := by
  have h := u8_and_nat x 127 hx (by decide)
  rw [nat_mask7] at h
  exact h

theorem pow7 (k : Nat) : (2 : Nat) ^ (7 * k) = 128 ^ k := by rw [Nat.pow_mul]
theorem group_lt {k m : Nat} (hk : k ≤ 9) (hm : m < 128) (h9 : k = 9 → m ≤ 1) : m * 128 ^ k < 18446744073709551616 := by
  by_cases e : k = 9
  · subst e; have := h9 rfl; have h : m * 128 ^ 9 ≤ 1 * 128 ^ 9 := Nat.mul_le_mul_right _ this; omega
  · have h1 : 128 ^ k ≤ 128 ^ 8 := Nat.pow_le_pow_right (by decide) (by omega)
    have h2 : m * 128 ^ k ≤ 127 * 128 ^ 8 := Nat.mul_le_mul (by omega) h1
    omega
theorem pow_lt64 {k : Nat} (hk : k ≤ 9) : 128 ^ k < 18446744073709551616 := by
  have h1 : 128 ^ k ≤ 128 ^ 9 := Nat.pow_le_pow_right (by decide) hk
  omega
theorem or_group {k y x : Nat} (hk : k ≤ 9) (h9 : k = 9 → x ≤ 1) (hy : y < 128 ^ k) :
    bits .or .u64 (y : Int) (IntKind.u64.wrap ((x : Int) % 128 * 2 ^ (7 * k))) = ((y + x % 128 * 128 ^ k : Nat) : Int) := by
  have hm : x % 128 < 128 := Nat.mod_lt _ (by decide)
  have hlt := group_lt hk hm (fun e => by have := h9 e; omega)
  have hyl : y < 18446744073709551616 := Nat.lt_trans hy (pow_lt64 hk)
  have e1 : (x : Int) % 128 * 2 ^ (7 * k) = ((x % 128 * 128 ^ k : Nat) : Int) := by
    rw [← pow7]; simp
  have e2 : IntKind.u64.wrap ((x % 128 * 128 ^ k : Nat) : Int) = ((x % 128 * 128 ^ k : Nat) : Int) := by
    generalize x % 128 * 128 ^ k = z at *
    simp [IntKind.wrap, IntKind.bits, IntKind.signed]
    omega
  rw [e1, e2, u64_or_nat _ _ hyl hlt, Nat.or_comm, nat_join (7 * k) (x % 128 * 128 ^ k) y (by rw [← pow7]; simp) (by rw [pow7]; exact hy), Nat.add_comm]

set_option maxRecDepth 100000 in
set_option maxHeartbeats 400000 in
theorem groups_any (base g : Nat) (bs : List Nat) (w : World) (hc : Cur w base g bs) (h8 : All8 bs) :
    Calls Try.prog 69 #[.pointer (some ⟨g, 0, none⟩)] w fun e w' => Took (fun f => .int .u64 ((f : Nat) : Int)) base g w (groupsFrom 0 0 bs) e w' := by
  go_enter Try.func69, Try.ntmps69
  go_wp2_with fail
  go_loopw [3, 4] (fun v i wr => ∃ (k y : Nat) (t : List Nat), k ≤ 9 ∧ y < 128 ^ k ∧ i = .int .i64 (k : Int) ∧ v = .int .u64 (y : Int) ∧ All8 t ∧ Cur wr base g t ∧ Below base w wr ∧ Hid (groupsFrom k y t = groupsFrom 0 0 bs)) (fun _ i _ => 10 - (intOf i).toNat)
  case atStart => exact ⟨0, 0, bs, by omega, by simp, rfl, rfl, h8, hc, Below.refl _ _, rfl⟩
  case round =>
    obtain ⟨k, y, t, hk, hy, rfl, rfl, ht8, hcur, hb, hgr⟩ := hrel
    clear hc h8
    cases t with
    | nil =>
      have hx := next_cut base g 1 [] wr hcur (by simp) (by unfold maxLen; omega)
      have HG : Hid (groupsFrom 0 0 bs = .error 20) := hgr.out.symm
      clear hcur hgr
      go_wp2_with fail
      refine hx.mono ?_
      rintro e w1 ⟨rfl, hq⟩
      have hq2 := hq.symm
      subst hq2
      go_wp2_with fail
      refine ⟨rfl, ?_⟩
      rw [HG.out]
      exact ⟨rfl, hb⟩
    | cons x t =>
      have hx := next_ok base g 1 (x :: t) wr hcur (by simp)
      have hx8 : x < 256 := ht8 x (by simp)
      have hmask := mask127 hx8
      have hm8 : x % 128 < 128 := Nat.mod_lt _ (by decide)
      clear hcur
      go_wp2_with fail
      refine hx.mono ?_
      rintro e w1 ⟨⟨a, cap, rfl, hr, _⟩, hcur, hb1⟩
      have hbw := hb.trans hb1
      obtain ⟨b, o, rfl, _, _, hcc⟩ : ∃ b o, a = some ⟨b, o, none⟩ ∧ b < base ∧ b < w1.heap.size ∧ ∀ i, i < ((x :: t).take 1).length → w1.cell? ⟨b, o + i, none⟩ = some (.int .u8 ((at0 ((x :: t).take 1) i : Nat) : Int)) := by
        rcases hr with h | h
        · simp at h
        · exact h
      have hck : w1.cell? ⟨b, o, none⟩ = some (.int .u8 (x : Int)) := by have := hcc 0 (by simp); simpa [at0] using this
      have HCUR : Hid (Cur w1 base g t) := hcur
      clear hcc hr hx hb hb1 hcur
      by_cases c1 : k = 9 ∧ 1 < x
      · have HG : Hid (groupsFrom 0 0 bs = .error 21) := by unfold Hid; rw [← hgr.out, groupsFrom, if_pos c1]
        obtain ⟨rfl, c2⟩ := c1
        have hd : decide ((1 : Int) < (x : Int)) = true := by simp; omega
        clear hgr
        go_wp2_with fail
        refine ⟨rfl, ?_⟩
        rw [HG.out]
        exact ⟨rfl, hbw⟩
      · by_cases c2 : 128 ≤ x
        · have HG : Hid (groupsFrom (k + 1) (y + x % 128 * 128 ^ k) t = groupsFrom 0 0 bs) := by unfold Hid; rw [← hgr.out]; exact (by rw [groupsFrom, if_neg c1, if_pos c2])
          have hk8 : k < 9 := by omega
          have hd : decide ((128 : Int) ≤ (x : Int)) = true := by simp; omega
          have hke : ((k : Int) == 9) = false := by simp; omega
          clear hgr
          have hor := or_group (k := k) (y := y) (x := x) hk (fun e => by omega) hy
          have hnew : y + x % 128 * 128 ^ k < 128 ^ (k + 1) := by
            rw [Nat.pow_succ]
            have h2 : x % 128 * 128 ^ k ≤ 127 * 128 ^ k := Nat.mul_le_mul_right _ (by omega)
            omega
          have HN := hide_it hnew
          have HO := hide_it hor
          clear hnew hor
          go_wp2_with fail
          go_roundw
          case rel => exact ⟨k + 1, _, t, by omega, HN.out, by go_num, by rw [HO.out], fun z hz => ht8 z (List.mem_cons_of_mem _ hz), HCUR.out, hbw, HG⟩
          case measure => simp [intOf]; omega
        · by_cases c3 : x = 0 ∧ 0 < k
          · have HG : Hid (groupsFrom 0 0 bs = .error 21) := by unfold Hid; rw [← hgr.out, groupsFrom, if_neg c1, if_neg c2, if_pos c3]
            obtain ⟨rfl, c4⟩ := c3
            clear hgr
            have hd : decide ((0 : Int) < (k : Int)) = true := by simp; omega
            go_wp2_with fail
            all_goals refine ⟨rfl, ?_⟩
            all_goals rw [HG.out]
            all_goals exact ⟨rfl, hbw⟩
          · have HG : Hid (groupsFrom 0 0 bs = .ok (y + x % 128 * 128 ^ k, t)) := by unfold Hid; rw [← hgr.out, groupsFrom, if_neg c1, if_neg c2, if_neg c3]
            have hor := or_group (k := k) (y := y) (x := x) hk (fun e => by omega) hy
            have HO := hide_it hor
            clear hgr hor
            have hd : decide ((128 : Int) ≤ (x : Int)) = false := by simp; omega
            by_cases k9 : k = 9
            · subst k9
              have hx1 : x = 1 := by omega
              have e : (2 : Int) ^ (7 * 9) = 9223372036854775808 := by simp
              have hor : bits .or .u64 (y : Int) (IntKind.u64.wrap ((x : Int) % 128 * 9223372036854775808)) = ((y + x % 128 * 128 ^ 9 : Nat) : Int) := by rw [← e]; exact HO.out
              have HO9 := hide_it hor
              have hd1 : decide ((1 : Int) < (x : Int)) = false := by simp; omega
              have hx0 : ((x : Int) == 0) = false := by simp; omega
              clear c3 c1 HO hor e hx1
              go_wp2_with fail
              go_ret
              rw [HG.out]
              exact ⟨congrArg (fun z => Ending.returned (Value.int .u64 z)) HO9.out, HCUR.out, hbw⟩
            · have hk9 : ((k : Int) == 9) = false := by simp; omega
              by_cases x0 : x = 0
              · have hk0 : k = 0 := by omega
                subst x0
                subst hk0
                have hy0 : y = 0 := by simpa using hy
                subst hy0
                clear c3 c1 hmask
                go_wp2_with fail
                go_ret
                rw [HG.out]
                exact ⟨by kernel_rfl, HCUR.out, hbw⟩
              · have hx0 : ((x : Int) == 0) = false := by simp; omega
                clear c3 c1
                go_wp2_with fail
                go_ret
                rw [HG.out]
                exact ⟨congrArg (fun z => Ending.returned (Value.int .u64 z)) HO.out, HCUR.out, hbw⟩
end Go.Proofs.Ytfhinodieghklab

/- The document's answer: numbers and texts taken off a text. -/
import Derived.Test.YtelcfmjhbjnkoaaRf6
import Derived.Test.YtelcfmjhbjnkoaaOw11
namespace Go.Proofs.Ytelcfmjhbjnkoaa
open Go.RowKit

theorem drop_at {l : List Nat} {k : Nat} (h : k < l.length) : l.drop k = at0 l k :: l.drop (k + 1) := by
  rw [List.drop_eq_getElem_cons h, at0_get h]
theorem take_at {l : List Nat} {k j : Nat} (h : k + j < l.length) : (l.drop k).take (j + 1) = (l.drop k).take j ++ [at0 l (k + j)] := by
  rw [List.take_add_one, List.getElem?_drop, List.getElem?_eq_getElem h, at0_get h]; rfl
/-- What number answers of what is left. -/
def numRes (l : List Nat) : Nat × Bool := if l.length < 8 then (0, false) else (beVal (l.take 8), true)

set_option maxRecDepth 100000 in
set_option maxHeartbeats 400000 in
theorem rnumber_any (s : ByteArray) (k : Nat) (w : World) (hk : k ≤ s.size) (hl : s.size ≤ 140737488351232) :
    Calls Try.prog 35 #[.string s, .int .i64 (k : Int)] w fun e w' => e = .returned (.tuple #[.int .u64 (((numRes ((strNat s).drop k)).1 : Nat) : Int), .bool (numRes ((strNat s).drop k)).2]) ∧ w' = w := by
  have hsl : (strNat s).length = s.size := strNat_len s
  by_cases h8 : s.size < k + 8
  · have e : numRes ((strNat s).drop k) = (0, false) := by unfold numRes; rw [if_pos (by simp; omega)]
    rw [e]
    have hd : decide ((s.size : Int) - (k : Int) < 8) = true := by simp; omega
    go_enter Try.func35, Try.ntmps35
    go_wp2_with fail
    go_ret2
    exact ⟨rfl, rfl⟩
  · have e : numRes ((strNat s).drop k) = (beVal (((strNat s).drop k).take 8), true) := by unfold numRes; rw [if_neg (by simp; omega)]
    rw [e]
    obtain ⟨res, hres⟩ : ∃ z, z = beVal (((strNat s).drop k).take 8) := ⟨_, rfl⟩
    rw [← hres]
    have HRES := hide_it hres
    clear hres e
    have hd : decide ((s.size : Int) - (k : Int) < 8) = false := by simp; omega
    go_enter Try.func35, Try.ntmps35
    go_wp2_with fail
    go_loopw [6, 7] (fun v i wr => ∃ (j x : Nat), j ≤ 8 ∧ i = .int .i64 (j : Int) ∧ v = .int .u64 (x : Int) ∧ wr = w ∧ Hid (x = beVal (((strNat s).drop k).take j))) (fun _ i _ => 8 - (intOf i).toNat)
    case atStart => exact ⟨0, 0, by omega, rfl, rfl, rfl, by simp [Hid, beVal]⟩
    case round =>
      obtain ⟨j, x, hj, rfl, rfl, rfl, hx⟩ := hrel
      by_cases hlt : j < 8
      · have hd1 : decide ((j : Int) < 8) = true := by simp; omega
        have hix := str_at (s := s) (k := k + j) (by omega)
        simp only [Int.natCast_add] at hix
        have hz := (strNat_all s).at (k + j)
        have hsn := take_at (l := strNat s) (k := k) (j := j) (by omega)
        have hxl : x < 256 ^ j := by
          rw [hx.out]
          have := beVal_bound (((strNat_all s).drop k).take j)
          have e : (((strNat s).drop k).take j).length = j := by simp; omega
          rw [e] at this
          exact this
        have hx7 : x < 72057594037927936 := Nat.lt_of_lt_of_le hxl (by
          have : 256 ^ j ≤ 256 ^ 7 := Nat.pow_le_pow_right (by decide) (by omega)
          exact this)
        have HN : Hid (x * 256 + at0 (strNat s) (k + j) = beVal (((strNat s).drop k).take (j + 1))) := by
          unfold Hid; rw [hsn, beVal_snoc, ← hx.out]
        generalize at0 (strNat s) (k + j) = z at *
        obtain ⟨y, hy⟩ : ∃ y, y = x * 256 := ⟨_, rfl⟩
        obtain ⟨u, hu⟩ : ∃ u, u = x * 256 + z := ⟨_, rfl⟩
        have hw0 : IntKind.u64.wrap (z : Int) = (z : Int) := by simp [IntKind.wrap, IntKind.bits, IntKind.signed]; omega
        have hw1 : IntKind.u64.wrap ((x : Int) * 256) = (y : Int) := by simp [IntKind.wrap, IntKind.bits, IntKind.signed]; omega
        have hw2 : IntKind.u64.wrap ((y : Int) + (z : Int)) = (u : Int) := by simp [IntKind.wrap, IntKind.bits, IntKind.signed]; omega
        rw [← hu] at HN
        clear hy hu hsn hxl hx7 hx
        go_wp2_with fail
        go_roundw
        case rel => exact ⟨j + 1, u, by omega, by go_num, rfl, by first | trivial | rfl, HN⟩
        case measure => simp [intOf]; omega
      · have hje : j = 8 := by omega
        subst hje
        go_wp2_with fail
        go_ret2
        exact ⟨by rw [HRES.out, ← hx.out]; rfl, rfl⟩

set_option maxRecDepth 100000 in
set_option maxHeartbeats 400000 in
theorem runfloat_any (a : Nat) (ok : Bool) (w : World) (ha : a < 18446744073709551616) :
    Calls Try.prog 36 #[.int .u64 (a : Int), .bool ok] w fun e w' => e = .returned (.tuple #[.int .u64 ((unr a : Nat) : Int), .bool (ok && decide (cb (unr a) = unr a))]) ∧ w' = w := by
  have hcl := fun w => rcleanBits_any (unr a) w (unr_lt ha)
  have hm := bn64 ha
  obtain ⟨z, hz⟩ : ∃ z, z = unr a := ⟨_, rfl⟩
  obtain ⟨c, hc⟩ : ∃ c, c = cb z := ⟨_, rfl⟩
  rw [← hz, ← hc] at hcl
  rw [← hz, ← hc]
  unfold unr at hz
  clear hc
  have heq : decide (c = z) = ((c : Int) == (z : Int)) := by
    rw [Bool.eq_iff_iff]; simp; omega
  rw [heq]
  have HQ : Hid (∀ v w1, v = (ok && ((c : Int) == (z : Int))) → w1 = w → (Ending.returned (.tuple #[.int .u64 (z : Int), .bool v]) = .returned (.tuple #[.int .u64 (z : Int), .bool (ok && ((c : Int) == (z : Int)))]) ∧ w1 = w)) := fun v w1 h1 h2 => ⟨by rw [h1], h2⟩
  by_cases h : 9223372036854775808 ≤ a
  · rw [if_pos h] at hz
    have hwa : IntKind.u64.wrap ((a : Int) - 9223372036854775808) = (z : Int) := by
      simp [IntKind.wrap, IntKind.bits, IntKind.signed]; omega
    have hd : decide ((a : Int) ≥ 9223372036854775808) = true := by simp; omega
    have hd2 : decide ((9223372036854775808 : Int) ≤ (a : Int)) = true := by simp; omega
    clear hz h ha heq
    generalize (a : Int) = ai at *
    cases ok
    all_goals (
      go_enter Try.func36, Try.ntmps36
      go_wp2_with (go_at_call 51; refine (hcl _).mono ?_; rintro e w' ⟨rfl, hq⟩; have hq2 := hq.symm; subst hq2; clear hq)
      go_ret2
      exact HQ.out _ _ rfl rfl)
  · rw [if_neg h] at hz
    rw [← hz] at hm
    have hd : decide ((a : Int) ≥ 9223372036854775808) = false := by simp; omega
    have hd2 : decide ((9223372036854775808 : Int) ≤ (a : Int)) = false := by simp; omega
    clear hz h ha heq
    generalize (a : Int) = ai at *
    cases ok
    all_goals (
      go_enter Try.func36, Try.ntmps36
      go_wp2_with (go_at_call 51; refine (hcl _).mono ?_; rintro e w' ⟨rfl, hq⟩; have hq2 := hq.symm; subst hq2; clear hq)
      go_ret2
      exact HQ.out _ _ rfl rfl)

/-- What untext answers, of what is left behind the text. -/
def untRes (n : Nat) : Option (List Nat × List Nat) → Value
  | none => .tuple #[.string ByteArray.empty, .int .i64 (-1)]
  | some (p, t) => .tuple #[.string (strOf p), .int .i64 ((n : Int) - (t.length : Int))]

set_option maxRecDepth 100000 in
set_option maxHeartbeats 1000000 in
theorem runtext_any (s : ByteArray) (k : Nat) (w : World) (hk : k ≤ s.size) (hl : s.size ≤ 140737488351232) :
    Calls Try.prog 37 #[.string s, .int .i64 (k : Int)] w fun e w' => e = .returned (untRes s.size (takeT ((strNat s).drop k))) ∧ Below w.heap.size w w' := by
  have hsl : (strNat s).length = s.size := strNat_len s
  obtain ⟨res, hres⟩ : ∃ z, z = takeT ((strNat s).drop k) := ⟨_, rfl⟩
  rw [← hres]
  have hstart : Hid (res = txtTo [] ((strNat s).drop k)) := by unfold Hid txtTo; rw [← hres]; cases res <;> simp
  clear hres
  go_enter Try.func37, Try.ntmps37
  go_wp2_with fail
  go_loopw [1, 6] (fun i v wr => ∃ (m : Nat) (pre : List Nat), m ≤ s.size ∧ pre.length ≤ m ∧ i = .int .i64 (m : Int) ∧ OwnB wr w.heap.size v pre ∧ Below w.heap.size w wr ∧ Hid (res = txtTo pre ((strNat s).drop m))) (fun i _ _ => s.size - (intOf i).toNat)
  case atStart => exact ⟨k, [], hk, by simp, rfl, World.ownsRow_nil _ _ _ _, Below.refl _ _, hstart⟩
  case round =>
    obtain ⟨m, pre, hm, hpl, rfl, how, hbl, hto⟩ := hrel
    have hbs := hbl.size
    by_cases hlt : m < s.size
    · have hd1 : decide ((m : Int) < (s.size : Int)) = true := by simp; omega
      have hix := str_at (s := s) (k := m) hlt
      have hz8 := (strNat_all s).at m
      have hto2 := hto.out
      rw [drop_at (show m < (strNat s).length by omega)] at hto2
      generalize at0 (strNat s) m = z at *
      by_cases hz : z = 0
      · subst hz
        by_cases hl2 : s.size ≤ m + 1
        · rw [List.drop_eq_nil_of_le (show (strNat s).length ≤ m + 1 by omega), txtTo_cut] at hto2
          have hd2 : decide ((s.size : Int) ≤ (m : Int) + 1) = true := by simp; omega
          have HT := hide_it hto2
          clear hto hto2
          go_wp2_with fail
          go_ret2
          exact ⟨by rw [HT.out]; rfl, hbl⟩
        · have hd2 : decide ((s.size : Int) ≤ (m : Int) + 1) = false := by simp; omega
          have hix2 := str_at (s := s) (k := m + 1) (by omega)
          simp only [Int.natCast_add, Int.natCast_one] at hix2
          have hy8 := (strNat_all s).at (m + 1)
          rw [drop_at (show m + 1 < (strNat s).length by omega)] at hto2
          generalize at0 (strNat s) (m + 1) = y at *
          by_cases h1 : y = 1
          · subst h1
            rw [txtTo_end] at hto2
            obtain ⟨p1, c1, hv1, hp1, _, _, hn1⟩ := how.row
            subst hv1
            have hcv := conv_row hp1 hn1
            have HT := hide_it hto2
            clear hto hto2 how
            go_wp2_with fail
            go_ret2
            refine ⟨?_, hbl⟩
            rw [HT.out]
            simp only [untRes, List.length_drop]
            have : ((s.size : Int) - (((strNat s).length - (m + 1 + 1) : Nat) : Int)) = (m : Int) + 2 := by omega
            rw [this]
            rfl
          · have hd3 : ((y : Int) == 1) = false := by simp; omega
            by_cases h2 : y = 255
            · subst h2
              rw [txtTo_go] at hto2
              have HT := hide_it hto2
              clear hto hto2
              go_wp2_with (at_builtin; refine wpList_append_byte _ rfl _ _ rfl w.heap.size _ _ rfl how 0 rfl (by first | omega | (simp; omega)) hbs ?_; intro v4 w4 hown4 hg4 hat4)
              have A4 := App.byte hown4 hg4 hat4
              go_roundw
              case rel => exact ⟨m + 2, pre ++ [0], by omega, by simp; omega, by go_num, hown4, hbl.trans (A4.below how hbs), HT⟩
              case measure => simp [intOf]; omega
            · have hd4 : ((y : Int) != 255) = true := by simp; omega
              have hd5 : ((y : Int) != 1) = true := by simp; omega
              rw [txtTo_bad h1 h2] at hto2
              have HT := hide_it hto2
              clear hto hto2
              go_wp2_with fail
              go_ret2
              exact ⟨by rw [HT.out]; rfl, hbl⟩
      · have hd : ((z : Int) == 0) = false := by simp; omega
        rw [txtTo_nz hz] at hto2
        have HT := hide_it hto2
        clear hto hto2
        go_wp2_with (at_builtin; refine wpList_append_byte _ rfl _ _ rfl w.heap.size _ _ rfl how z rfl (by first | omega | (simp; omega)) hbs ?_; intro v4 w4 hown4 hg4 hat4)
        have A4 := App.byte hown4 hg4 hat4
        go_roundw
        case rel => exact ⟨m + 1, pre ++ [z], by omega, by simp; omega, by go_num, hown4, hbl.trans (A4.below how hbs), HT⟩
        case measure => simp [intOf]; omega
    · have hd1 : decide ((m : Int) < (s.size : Int)) = false := by simp; omega
      have hto2 := hto.out
      rw [List.drop_eq_nil_of_le (show (strNat s).length ≤ m by omega), txtTo_nil] at hto2
      have HT := hide_it hto2
      clear hto hto2
      go_wp2_with fail
      go_ret2
      exact ⟨by rw [HT.out]; rfl, hbl⟩

end Go.Proofs.Ytelcfmjhbjnkoaa

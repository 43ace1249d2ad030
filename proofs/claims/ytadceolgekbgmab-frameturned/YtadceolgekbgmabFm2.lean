/- Frames as mathematics: another byte in the place of one. -/
import Derived.Test.YtadceolgekbgmabFm1
namespace Go.Proofs.Ytadceolgekbgmab
open Go.RowKit

/-- One byte turned by any other. -/
theorem leVal_turn {bs : List Nat} (hb : ∀ b ∈ bs, b < 256) {i m : Nat} (hi : i < bs.length) (hm : m < 256) : leVal (bs.set i (at0 bs i ^^^ m)) = leVal bs ^^^ (2 ^ (8 * i) * m) := by
  induction bs generalizing i with
  | nil => simp at hi
  | cons b bs ih =>
    have h1 : b < 2 ^ 8 := hb b (by simp)
    have hb' : ∀ x ∈ bs, x < 256 := fun x hx => hb x (by simp [hx])
    have e : leVal (b :: bs) = b ^^^ (2 ^ 8 * leVal bs) := by rw [← add_xor h1]; rfl
    cases i with
    | zero =>
      have h2 : b ^^^ m < 2 ^ 8 := Nat.xor_lt_two_pow h1 hm
      have e2 : leVal ((b ^^^ m) :: bs) = (b ^^^ m) ^^^ (2 ^ 8 * leVal bs) := by rw [← add_xor h2]; rfl
      have ea : at0 (b :: bs) 0 = b := rfl
      rw [ea, List.set_cons_zero, Nat.mul_zero, Nat.pow_zero, Nat.one_mul, e2, e, Nat.xor_assoc, Nat.xor_assoc, Nat.xor_comm m]
    | succ i =>
      have hi' : i < bs.length := by simpa using hi
      have h3 := ih hb' hi'
      have ea : at0 (b :: bs) (i + 1) = at0 bs i := rfl
      rw [ea, List.set_cons_succ]
      have e3 : leVal (b :: bs.set i (at0 bs i ^^^ m)) = b ^^^ (2 ^ 8 * leVal (bs.set i (at0 bs i ^^^ m))) := by rw [← add_xor h1]; rfl
      rw [e3, h3, e, Nat.xor_assoc]
      congr 1
      rw [show 8 * (i + 1) = 8 + 8 * i by omega, Nat.pow_add 2 8, Nat.mul_assoc]
      generalize 2 ^ (8 * i) * m = Y
      apply Nat.eq_of_testBit_eq
      intro q
      simp only [Nat.testBit_xor, Nat.testBit_two_pow_mul]
      by_cases hq : 8 ≤ q <;> simp [hq]

theorem xor_ne {x m : Nat} (hm : m ≠ 0) : x ^^^ m ≠ x := fun e => hm (by
  have : x ^^^ (x ^^^ m) = x ^^^ x := by rw [e]
  rwa [← Nat.xor_assoc, Nat.xor_self, Nat.zero_xor] at this)
theorem All8.set {bs : List Nat} (h : All8 bs) (i : Nat) {x : Nat} (hx : x < 256) : All8 (bs.set i x) := fun z hz => by
  rcases List.mem_or_eq_of_mem_set hz with h1 | h1
  · exact h z h1
  · omega
/-- Another byte in the place of one: another sum. -/
theorem sum_turn {bs : List Nat} (h8 : All8 bs) {i m : Nat} (hi : i < bs.length) (hm : m < 256) (h0 : m ≠ 0) : moreN 0 bs ≠ moreN 0 (bs.set i (at0 bs i ^^^ m)) := by
  have hx : at0 bs i ^^^ m < 256 := Nat.xor_lt_two_pow (n := 8) (h8.at i) hm
  refine more_unlike h8 (h8.set i hx) (by simp) (m := m) (k := 8 * i) (by unfold W32; omega) h0 (by simp; omega) (leVal_turn h8 hi hm) 0
theorem beVal_inj {xs ys : List Nat} (hx : All8 xs) (hy : All8 ys) (hl : xs.length = ys.length) (h : beVal xs = beVal ys) : xs = ys := by
  rw [← be_form hx, ← be_form hy, hl, h]
theorem set_ne {bs : List Nat} {i x : Nat} (hi : i < bs.length) (hx : x ≠ at0 bs i) : bs.set i x ≠ bs := fun e => hx (by
  have h : at0 (bs.set i x) i = at0 bs i := by rw [e]
  rw [← h]
  unfold at0
  rw [List.getD_eq_getElem?_getD, List.getElem?_set_self hi]; rfl)
theorem at0_set_ne {bs : List Nat} {i k x : Nat} (h : k ≠ i) : at0 (bs.set i x) k = at0 bs k := by
  unfold at0
  rw [List.getD_eq_getElem?_getD, List.getD_eq_getElem?_getD, List.getElem?_set_ne (fun e => h e.symm)]
theorem at0_set_eq {bs : List Nat} {i x : Nat} (h : i < bs.length) : at0 (bs.set i x) i = x := by
  unfold at0
  rw [List.getD_eq_getElem?_getD, List.getElem?_set_self h]; rfl

section
variable {p t : List Nat} {i m : Nat}

/-- A frame with another byte in the place of one, and what stands behind it. -/
def trn (p t : List Nat) (i m : Nat) : List Nat := (frm p ++ t).set i (at0 (frm p ++ t) i ^^^ m)

theorem trn_len : (trn p t i m).length = p.length + 9 + t.length := by unfold trn; rw [List.length_set, List.length_append, frm_len]
theorem trn_all (h8 : All8 p) (ht : All8 t) (hm : m < 256) : All8 (trn p t i m) :=
  ((frm_all h8).append ht).set i (Nat.xor_lt_two_pow (n := 8) (((frm_all h8).append ht).at i) hm)

/-- The mark. -/
theorem trn_mark (h0 : m ≠ 0) : rdF (trn p t 0 m) = .error 90 := by
  have hl := trn_len (p := p) (t := t) (i := 0) (m := m)
  have ha : at0 (trn p t 0 m) 0 ≠ 197 := by
    unfold trn
    rw [at0_set_eq (by rw [List.length_append, frm_len]; omega)]
    exact xor_ne h0
  unfold rdF
  rw [if_neg (by omega), if_pos ha]

theorem trn_head (hi : 5 ≤ i) : at0 (trn p t i m) 0 = 197 ∧ ∀ (_ : p.length ≤ 65536), lnF (trn p t i m) = p.length := by
  constructor
  · unfold trn
    rw [at0_set_ne (by omega)]; rfl
  · intro hl
    have e : lnF (trn p t i m) = lnF (frm p ++ t) := by
      unfold lnF trn
      congr 1
      apply List.ext_getElem?
      intro k
      by_cases hk : k < 4
      · rw [List.getElem?_take_of_lt hk, List.getElem?_take_of_lt hk, List.getElem?_drop, List.getElem?_drop, List.getElem?_set_ne (by omega)]
      · rw [List.getElem?_eq_none (by simp; omega), List.getElem?_eq_none (by simp; omega)]
    rw [e, show frm p ++ t = hdF p.length ++ (p ++ (beP 4 (moreN 0 (smd p)) 4 ++ t)) by simp [frm, smd]]
    exact lnF_head (by omega) _

/-- The payload or the sum. -/
theorem trn_sum (h8 : All8 p) (ht : All8 t) (hl : p.length ≤ 65536) (hi : 5 ≤ i) (hi2 : i < p.length + 9) (hm : m < 256) (h0 : m ≠ 0) : rdF (trn p t i m) = .error 91 := by
  obtain ⟨ha, hln⟩ := trn_head (p := p) (t := t) (i := i) (m := m) hi
  have hln := hln hl
  have hlen := trn_len (p := p) (t := t) (i := i) (m := m)
  have hall := trn_all (i := i) h8 ht hm
  rw [rdF, if_neg (by omega), if_neg (by omega), if_neg (by omega), hln, if_neg (by omega), if_neg (by omega), if_pos]
  have hS : (frm p ++ t).take (p.length + 5) = smd p := by
    unfold frm
    rw [List.append_assoc, List.take_append_of_le_length (by rw [smd_len]; omega), List.take_of_length_le (by rw [smd_len]; omega)]
  have hD : ((frm p ++ t).drop (p.length + 5)).take 4 = beP 4 (moreN 0 (smd p)) 4 := by
    unfold frm
    rw [List.append_assoc, List.drop_append_of_le_length (by rw [smd_len]; omega), List.drop_eq_nil_of_le (by rw [smd_len]; omega), List.nil_append, List.take_append_of_le_length (by rw [beP_len]; omega), List.take_of_length_le (by rw [beP_len]; omega)]
  have hs8 := smd_all h8
  by_cases hlow : i < p.length + 5
  · have e1 : (trn p t i m).take (p.length + 5) = (smd p).set i (at0 (smd p) i ^^^ m) := by
      unfold trn
      rw [List.take_set, hS]
      congr 2
      rw [← hS, at0_take hlow]
    have e2 : ((trn p t i m).drop (p.length + 5)).take 4 = beP 4 (moreN 0 (smd p)) 4 := by
      unfold trn
      rw [List.drop_set_of_lt hlow, hD]
    rw [e1, e2, be_whole (W := 4) (sum_lt hs8)]
    exact sum_turn hs8 (by rw [smd_len]; exact hlow) hm h0
  · have e1 : (trn p t i m).take (p.length + 5) = smd p := by
      unfold trn
      rw [List.take_set, hS, List.set_eq_of_length_le (by rw [smd_len]; omega)]
    rw [e1]
    have hd8 : All8 ((trn p t i m).drop (p.length + 5)) := hall.drop _
    intro e
    have hbe : beVal (((trn p t i m).drop (p.length + 5)).take 4) = beVal (beP 4 (moreN 0 (smd p)) 4) := by rw [e, be_whole (W := 4) (sum_lt hs8)]
    have heq := beVal_inj (hd8.take 4) (beP_all _ _ _) (by rw [beP_len]; simp; omega) hbe
    rw [← hD] at heq
    have hat : at0 (((trn p t i m).drop (p.length + 5)).take 4) (i - (p.length + 5)) = at0 (((frm p ++ t).drop (p.length + 5)).take 4) (i - (p.length + 5)) := by rw [heq]
    rw [at0_take (by omega), at0_take (by omega), at0_drop, at0_drop, show p.length + 5 + (i - (p.length + 5)) = i by omega] at hat
    unfold trn at hat
    rw [at0_set_eq (by rw [List.length_append, frm_len]; omega)] at hat
    exact xor_ne h0 hat

/-- The length: not a frame of this size. -/
theorem trn_size (h8 : All8 p) (ht : All8 t) (hl : p.length ≤ 65536) (h1 : 1 ≤ i) (hi : i < 5) (hm : m < 256) (h0 : m ≠ 0) : lnF (trn p t i m) ≠ p.length := by
  have hlen := trn_len (p := p) (t := t) (i := i) (m := m)
  have hall := trn_all (i := i) h8 ht hm
  have hold : lnF (frm p ++ t) = p.length := by
    rw [show frm p ++ t = hdF p.length ++ (p ++ (beP 4 (moreN 0 (smd p)) 4 ++ t)) by simp [frm, smd]]
    exact lnF_head (by omega) _
  intro e
  rw [← hold] at e
  have heq := beVal_inj ((hall.drop 1).take 4) ((((frm_all h8).append ht).drop 1).take 4) (by simp [frm_len]; omega) e
  have hat : at0 (((trn p t i m).drop 1).take 4) (i - 1) = at0 (((frm p ++ t).drop 1).take 4) (i - 1) := by rw [heq]
  rw [at0_take (by omega), at0_take (by omega), at0_drop, at0_drop, show 1 + (i - 1) = i by omega] at hat
  unfold trn at hat
  rw [at0_set_eq (by rw [List.length_append, frm_len]; omega)] at hat
  exact xor_ne h0 hat
end

end Go.Proofs.Ytadceolgekbgmab

/- Frames as mathematics: what a payload's frame is, what bytes begin with, there and back, one form. -/
import Derived.Test.YtkacfpmninmjkaaGreatSm1
import Derived.Test.YtkacfpmninmjkaaGreatFc1
namespace Go.Proofs.YtkacfpmninmjkaaGreat
open Go.RowKit

/-- A frame's head: the mark and the length. -/
def hdF (n : Nat) : List Nat := 197 :: beP 4 n 4
/-- What the sum of a frame is of. -/
def smd (p : List Nat) : List Nat := hdF p.length ++ p
/-- A payload's frame. -/
def frm (p : List Nat) : List Nat := smd p ++ beP 4 (moreN 0 (smd p)) 4
/-- The length that a head says. -/
def lnF (bs : List Nat) : Nat := beVal ((bs.drop 1).take 4)
/-- What bytes begin with: an error, or the length of a frame's payload. -/
def rdF (bs : List Nat) : Except Nat Nat :=
  if bs.length = 0 then .error 20
  else if at0 bs 0 ≠ 197 then .error 90
  else if bs.length < 5 then .error 20
  else if 65536 < lnF bs then .error 3
  else if bs.length < lnF bs + 9 then .error 20
  else if beVal ((bs.drop (lnF bs + 5)).take 4) ≠ moreN 0 (bs.take (lnF bs + 5)) then .error 91
  else .ok (lnF bs)

theorem beP_all (W v j : Nat) : All8 (beP W v j) := by
  intro z hz
  obtain ⟨t, _, rfl⟩ := List.mem_map.1 hz
  exact Nat.mod_lt _ (by decide)
theorem All8.append {xs ys : List Nat} (hx : All8 xs) (hy : All8 ys) : All8 (xs ++ ys) := fun z hz => by
  rcases List.mem_append.1 hz with h | h
  · exact hx z h
  · exact hy z h
theorem hdF_len (n : Nat) : (hdF n).length = 5 := by simp [hdF, beP_len]
theorem hdF_all (n : Nat) : All8 (hdF n) := by
  intro z hz
  rcases List.mem_cons.1 hz with h | h
  · omega
  · exact beP_all _ _ _ z h
theorem smd_len (p : List Nat) : (smd p).length = p.length + 5 := by simp [smd, hdF_len]; omega
theorem smd_all {p : List Nat} (h : All8 p) : All8 (smd p) := (hdF_all _).append h
theorem frm_len (p : List Nat) : (frm p).length = p.length + 9 := by simp [frm, smd_len, beP_len]
theorem frm_all {p : List Nat} (h : All8 p) : All8 (frm p) := (smd_all h).append (beP_all _ _ _)
theorem sum_lt {bs : List Nat} (h : All8 bs) : moreN 0 bs < 4294967296 := more32 (by unfold W32; omega) h

/-- Bytes that begin with a head. -/
theorem lnF_head {n : Nat} (hn : n < 4294967296) (t : List Nat) : lnF (hdF n ++ t) = n := by
  unfold lnF hdF
  have e : ((197 :: beP 4 n 4 ++ t).drop 1).take 4 = beP 4 n 4 := by
    show (beP 4 n 4 ++ t).take 4 = _
    rw [List.take_append_of_le_length (by rw [beP_len]; omega), List.take_of_length_le (by rw [beP_len]; omega)]
  rw [e]
  exact be_whole (W := 4) hn
theorem at0_head (n : Nat) (t : List Nat) : at0 (hdF n ++ t) 0 = 197 := rfl

/-- There and back. -/
theorem rdF_back {p : List Nat} (h8 : All8 p) (hl : p.length ≤ 65536) (t : List Nat) : rdF (frm p ++ t) = .ok p.length := by
  have e : frm p ++ t = hdF p.length ++ (p ++ (beP 4 (moreN 0 (smd p)) 4 ++ t)) := by simp [frm, smd]
  have hln : lnF (frm p ++ t) = p.length := by rw [e]; exact lnF_head (by omega) _
  have h0 : at0 (frm p ++ t) 0 = 197 := by rw [e]; rfl
  have hlen : (frm p ++ t).length = p.length + 9 + t.length := by rw [List.length_append, frm_len]
  have ht : (frm p ++ t).take (p.length + 5) = smd p := by
    unfold frm
    rw [List.append_assoc, List.take_append_of_le_length (by rw [smd_len]; omega), List.take_of_length_le (by rw [smd_len]; omega)]
  have hd : ((frm p ++ t).drop (p.length + 5)).take 4 = beP 4 (moreN 0 (smd p)) 4 := by
    unfold frm
    rw [List.append_assoc, List.drop_append_of_le_length (by rw [smd_len]; omega), List.drop_eq_nil_of_le (by rw [smd_len]; omega), List.nil_append, List.take_append_of_le_length (by rw [beP_len]; omega), List.take_of_length_le (by rw [beP_len]; omega)]
  unfold rdF
  rw [if_neg (by omega), if_neg (by omega), if_neg (by omega), hln, if_neg (by omega), if_neg (by omega), ht, hd, if_neg]
  rw [be_whole (W := 4) (sum_lt (smd_all h8))]
  simp
theorem pay_back (p t : List Nat) : ((frm p ++ t).drop 5).take p.length = p := by
  have e : frm p ++ t = hdF p.length ++ (p ++ (beP 4 (moreN 0 (smd p)) 4 ++ t)) := by simp [frm, smd]
  rw [e, List.drop_append_of_le_length (by rw [hdF_len]; omega), List.drop_eq_nil_of_le (by rw [hdF_len]; omega), List.nil_append, List.take_append_of_le_length (by omega), List.take_of_length_le (by omega)]

theorem split_head {bs : List Nat} (h8 : All8 bs) (h0 : at0 bs 0 = 197) (h5 : 5 ≤ bs.length) : bs.take 5 = hdF (lnF bs) := by
  cases bs with
  | nil => simp at h5
  | cons x r =>
    have hx : x = 197 := h0
    subst hx
    have hr : (r.take 4).length = 4 := by simp at h5 ⊢; omega
    have hb := be_form (l := r.take 4) (fun z hz => h8 z (List.mem_cons_of_mem _ (List.mem_of_mem_take hz)))
    rw [hr] at hb
    show 197 :: r.take 4 = 197 :: beP 4 (beVal (r.take 4)) 4
    rw [hb]
theorem take_split {bs : List Nat} (a b : Nat) : bs.take (a + b) = bs.take a ++ (bs.drop a).take b := by
  rw [List.take_add]
/-- What stands ahead of the sum. -/
theorem split_smd {bs : List Nat} (h8 : All8 bs) (h0 : at0 bs 0 = 197) (hl : lnF bs + 5 ≤ bs.length) : bs.take (lnF bs + 5) = smd ((bs.drop 5).take (lnF bs)) := by
  have hp : ((bs.drop 5).take (lnF bs)).length = lnF bs := by simp; omega
  unfold smd
  rw [hp, Nat.add_comm, take_split, split_head h8 h0 (by omega)]
/-- The sum is right just where the bytes are the frame. -/
theorem sum_iff {bs : List Nat} (h8 : All8 bs) (h0 : at0 bs 0 = 197) (hl : lnF bs + 9 ≤ bs.length) :
    beVal ((bs.drop (lnF bs + 5)).take 4) = moreN 0 (bs.take (lnF bs + 5)) ↔ bs.take (lnF bs + 9) = frm ((bs.drop 5).take (lnF bs)) := by
  have hs := split_smd h8 h0 (by omega)
  have e : bs.take (lnF bs + 9) = bs.take (lnF bs + 5) ++ (bs.drop (lnF bs + 5)).take 4 := take_split (lnF bs + 5) 4
  have h4 : ((bs.drop (lnF bs + 5)).take 4).length = 4 := by simp; omega
  have hb := be_form (l := (bs.drop (lnF bs + 5)).take 4) ((h8.drop _).take _)
  rw [h4] at hb
  rw [e, hs]
  unfold frm
  constructor
  · intro h
    rw [← h, hb]
  · intro h
    have h2 := List.append_cancel_left h
    rw [h2]
    exact be_whole (W := 4) (sum_lt (smd_all ((h8.drop _).take _)))
theorem rdF_ok {bs : List Nat} {n : Nat} (h : rdF bs = .ok n) : at0 bs 0 = 197 ∧ lnF bs = n ∧ n ≤ 65536 ∧ n + 9 ≤ bs.length ∧ beVal ((bs.drop (n + 5)).take 4) = moreN 0 (bs.take (n + 5)) := by
  unfold rdF at h
  split at h
  · cases h
  split at h
  · cases h
  split at h
  · cases h
  split at h
  · cases h
  split at h
  · cases h
  split at h
  · cases h
  · next h1 h2 h3 h4 h5 h6 =>
    cases h
    exact ⟨by omega, rfl, by omega, by omega, Decidable.not_not.1 h6⟩
/-- One form. -/
theorem rdF_form {bs : List Nat} {n : Nat} (h8 : All8 bs) (h : rdF bs = .ok n) : n ≤ 65536 ∧ n + 9 ≤ bs.length ∧ bs.take (n + 9) = frm ((bs.drop 5).take n) ∧ ((bs.drop 5).take n).length = n := by
  obtain ⟨h0, rfl, h1, h2, h3⟩ := rdF_ok h
  exact ⟨h1, h2, (sum_iff h8 h0 h2).1 h3, by simp; omega⟩

/-- Each shorter beginning is cut. -/
theorem rdF_cut {p : List Nat} (hl : p.length ≤ 65536) {k : Nat} (hk : k < p.length + 9) : rdF ((frm p).take k) = .error 20 := by
  have hlen : ((frm p).take k).length = k := by rw [List.length_take, frm_len]; omega
  unfold rdF
  by_cases hk0 : k = 0
  · rw [if_pos (by omega)]
  rw [if_neg (by omega)]
  have h0 : at0 ((frm p).take k) 0 = 197 := by rw [at0_take (by omega)]; rfl
  rw [if_neg (by omega)]
  by_cases hk5 : k < 5
  · rw [if_pos (by omega)]
  rw [if_neg (by omega)]
  have hln : lnF ((frm p).take k) = p.length := by
    unfold lnF
    rw [List.drop_take, List.take_take, show min 4 (k - 1) = 4 by omega]
    have := lnF_head (n := p.length) (by omega) (p ++ beP 4 (moreN 0 (smd p)) 4)
    have e : frm p = hdF p.length ++ (p ++ beP 4 (moreN 0 (smd p)) 4) := by simp [frm, smd]
    rw [← e] at this
    exact this
  rw [hln, if_neg (by omega), if_pos (by omega)]

end Go.Proofs.YtkacfpmninmjkaaGreat

/- Frames as mathematics: rows of frames, and every beginning of one. -/
import Derived.Test.YtadceolgekbgmabFm3
import Derived.Test.YtadceolgekbgmabFi2
namespace Go.Proofs.Ytadceolgekbgmab
open Go.RowKit

/-- The frames of payloads, one behind the other. -/
def rowOf (ps : List (List Nat)) : List Nat := ps.flatMap frm
/-- Where each ends, from a place on, and its payload. -/
def stepsOf : Nat → List (List Nat) → List (Nat × List Nat)
  | _, [] => []
  | e, p :: ps => (e + (p.length + 9), p) :: stepsOf (e + (p.length + 9)) ps
/-- How many lie whole in so many bytes. -/
def cntR : Nat → List (List Nat) → Nat
  | _, [] => 0
  | k, p :: ps => if k < p.length + 9 then 0 else cntR (k - (p.length + 9)) ps + 1
/-- How many bytes and payloads. -/
def totP (ps : List (List Nat)) : Nat := (ps.map fun p => 1 + p.length).sum

theorem rowOf_snoc (ps : List (List Nat)) (p : List Nat) : rowOf (ps ++ [p]) = rowOf ps ++ frm p := by simp [rowOf]
theorem rowOf_cons (p : List Nat) (ps : List (List Nat)) : rowOf (p :: ps) = frm p ++ rowOf ps := by simp [rowOf]
theorem totP_snoc (ps : List (List Nat)) (p : List Nat) : totP (ps ++ [p]) = totP ps + (1 + p.length) := by simp [totP]
theorem totP_cons (p : List Nat) (ps : List (List Nat)) : totP (p :: ps) = 1 + p.length + totP ps := by simp [totP]
theorem rowOf_len (ps : List (List Nat)) : (rowOf ps).length ≤ 9 * totP ps := by
  induction ps with
  | nil => simp [rowOf, totP]
  | cons p ps ih => rw [rowOf_cons, totP_cons, List.length_append, frm_len]; omega
theorem totP_len (ps : List (List Nat)) : ps.length ≤ totP ps := by
  induction ps with
  | nil => simp
  | cons p ps ih => rw [totP_cons, List.length_cons]; omega
theorem rowOf_all {ps : List (List Nat)} (h : ∀ p ∈ ps, All8 p) : All8 (rowOf ps) := by
  intro z hz
  obtain ⟨p, hp, hz⟩ := List.mem_flatMap.1 hz
  exact frm_all (h p hp) z hz
theorem stepsOf_len (e : Nat) (ps : List (List Nat)) : (stepsOf e ps).length = ps.length := by
  induction ps generalizing e with
  | nil => rfl
  | cons p ps ih => simp [stepsOf, ih]
theorem stepsOf_snoc (e : Nat) (ps : List (List Nat)) (p : List Nat) : stepsOf e (ps ++ [p]) = stepsOf e ps ++ [(e + (rowOf (ps ++ [p])).length, p)] := by
  induction ps generalizing e with
  | nil => simp [stepsOf, rowOf, frm_len]
  | cons q ps ih =>
    rw [List.cons_append, stepsOf, stepsOf, ih, rowOf_cons, List.length_append, frm_len]
    simp only [List.cons_append, Nat.add_assoc]
theorem stepsOf_pay (e : Nat) (ps : List (List Nat)) : (stepsOf e ps).map Prod.snd = ps := by
  induction ps generalizing e with
  | nil => rfl
  | cons p ps ih => simp [stepsOf, ih]
theorem cntR_le (k : Nat) (ps : List (List Nat)) : cntR k ps ≤ ps.length := by
  induction ps generalizing k with
  | nil => simp [cntR]
  | cons p ps ih =>
    unfold cntR
    split
    · omega
    · have := ih (k - (p.length + 9)); simp; omega
theorem cntR_in (ps : List (List Nat)) : ∀ (e k i : Nat) (x : Nat × List Nat), i < cntR k ps → (stepsOf e ps)[i]? = some x → x.1 ≤ e + k := by
  induction ps with
  | nil => intro e k i x hi _; simp [cntR] at hi
  | cons p ps ih =>
    intro e k i x hi hx
    unfold cntR at hi
    split at hi
    · omega
    · cases i with
      | zero =>
        simp [stepsOf] at hx
        subst hx
        show e + (p.length + 9) ≤ e + k
        omega
      | succ i =>
        simp [stepsOf] at hx
        have := ih (e + (p.length + 9)) (k - (p.length + 9)) i x (by omega) hx
        omega
theorem cntR_out (ps : List (List Nat)) : ∀ (e k : Nat) (x : Nat × List Nat), (stepsOf e ps)[cntR k ps]? = some x → e + k < x.1 := by
  induction ps with
  | nil => intro e k x hx; simp [stepsOf] at hx
  | cons p ps ih =>
    intro e k x hx
    unfold cntR at hx
    split at hx
    · simp [stepsOf] at hx
      subst hx
      show e + k < e + (p.length + 9)
      omega
    · simp [stepsOf] at hx
      have := ih (e + (p.length + 9)) (k - (p.length + 9)) x hx
      omega
/-- Of every beginning of a row: the payloads whose frames lie in it whole. -/
theorem frs_row (ps : List (List Nat)) : ∀ (f e k : Nat), (∀ p ∈ ps, All8 p ∧ p.length ≤ 65536) → k ≤ (rowOf ps).length → k ≤ f → frsF f e ((rowOf ps).take k) = (stepsOf e ps).take (cntR k ps) := by
  induction ps with
  | nil =>
    intro f e k _ hk _
    have : k = 0 := by simpa [rowOf] using hk
    subst this
    cases f <;> rfl
  | cons p ps ih =>
    intro f e k hp hk hf
    obtain ⟨h8, hl⟩ := hp p (by simp)
    rw [rowOf_cons] at hk ⊢
    unfold cntR
    by_cases hc : k < p.length + 9
    · rw [if_pos hc, List.take_zero, List.take_append_of_le_length (by rw [frm_len]; omega)]
      cases f with
      | zero => rfl
      | succ f => unfold frsF; rw [rdF_cut hl hc]
    · rw [if_neg hc]
      have e1 : (frm p ++ rowOf ps).take k = frm p ++ (rowOf ps).take (k - (p.length + 9)) := by
        rw [List.take_append, List.take_of_length_le (by rw [frm_len]; omega), frm_len]
      rw [e1]
      cases f with
      | zero => omega
      | succ f =>
        unfold frsF
        rw [rdF_back h8 hl]
        simp only
        have e2 : (frm p ++ (rowOf ps).take (k - (p.length + 9))).drop (p.length + 9) = (rowOf ps).take (k - (p.length + 9)) := by
          rw [List.drop_append_of_le_length (by rw [frm_len]; omega), List.drop_eq_nil_of_le (by rw [frm_len]; omega), List.nil_append]
        rw [e2, pay_back, ih f (e + (p.length + 9)) (k - (p.length + 9)) (fun q hq => hp q (by simp [hq])) (by rw [List.length_append, frm_len] at hk; omega) (by omega)]
        rw [stepsOf, List.take_succ_cons]
theorem frs_begin {ps : List (List Nat)} (hp : ∀ p ∈ ps, All8 p ∧ p.length ≤ 65536) {k : Nat} (hk : k ≤ (rowOf ps).length) : frs ((rowOf ps).take k) = (stepsOf 0 ps).take (cntR k ps) := by
  unfold frs frsAt
  rw [List.drop_zero]
  refine frs_row ps _ 0 k hp hk ?_
  rw [List.length_take]; omega
theorem lastE_take {l : List (Nat × List Nat)} {c : Nat} {x : Nat × List Nat} (h : l[c]? = some x) : lastE (l.take (c + 1)) = x.1 := by
  have hc := (List.getElem?_eq_some_iff.1 h).1
  rw [List.take_add_one, h]
  exact lastE_snoc _ _

end Go.Proofs.Ytadceolgekbgmab

/- What begins with a text lies from it on, below the next one: as plain mathematics; and the law's 'begins'. -/
import Derived.Test.YtelcfmjhbjnkoaaOw17
import Derived.Laws.Concat
namespace Go.Proofs.Ytelcfmjhbjnkoaa
open Go.RowKit

theorem nextR_snoc (r : List Nat) (z : Nat) : nextR (r ++ [z]) = match nextR r with | some n => some (n ++ [z]) | none => if z = 255 then none else some [z + 1] := by
  induction r with
  | nil => simp [nextR]
  | cons y r ih =>
    rw [List.cons_append, nextR, nextR]
    by_cases h : y = 255
    · rw [if_pos h, if_pos h, ih]
    · rw [if_neg h, if_neg h]; rfl
theorem nextRes_cons (z : Nat) (l : List Nat) : nextRes (z :: l) = match nextRes l with | some n => some (z :: n) | none => if z = 255 then none else some [z + 1] := by
  unfold nextRes
  rw [List.reverse_cons, nextR_snoc]
  cases nextR l.reverse with
  | some n => simp
  | none => by_cases h : z = 255 <;> simp [h]

/-- Whether a row begins with another one. -/
def bgn (m l : List Nat) : Bool := decide (m.take l.length = l)
/-- Whether a row lies from one on, below the next one. -/
def lies (m l : List Nat) : Bool := decide (lexc m l ≠ -1) && match nextRes l with | some n => decide (lexc m n = -1) | none => true

theorem next_least : ∀ (l m : List Nat), All8 m → bgn m l = lies m l
  | [], m, _ => by
    have : lexc m [] ≠ -1 := by cases m <;> simp [lexc]
    simp [bgn, lies, nextRes_nil, this]
  | z :: l, [], _ => by simp [bgn, lies, lexc]
  | z :: l, y :: m, h8 => by
    have hy : y < 256 := h8 y List.mem_cons_self
    have ih := next_least l m (fun x hx => h8 x (List.mem_cons_of_mem _ hx))
    have hb : bgn (y :: m) (z :: l) = (decide (y = z) && bgn m l) := by
      unfold bgn
      rw [List.length_cons, List.take_succ_cons]
      by_cases e : y = z
      · simp [e]
      · simp [e]
    rw [hb, ih]
    unfold lies
    rw [nextRes_cons, lexc_cons]
    rcases Nat.lt_trichotomy y z with h | h | h
    · rw [cmpI_lt (by omega), orI_ne (by decide)]
      have : ¬ y = z := by omega
      simp [this]
    · subst h
      rw [cmpI_self, orI_nil]
      cases hn : nextRes l with
      | some n =>
        simp only [lexc_cons, cmpI_self, orI_nil]
        simp
      | none =>
        simp only
        by_cases h255 : y = 255
        · simp [h255]
        · rw [if_neg h255]
          simp only [lexc_cons]
          rw [cmpI_lt (by omega), orI_ne (by decide)]
          simp
    · rw [cmpI_gt (by omega), orI_ne (by decide)]
      have hne : ¬ y = z := by omega
      cases hn : nextRes l with
      | some n =>
        simp only [lexc_cons]
        rw [cmpI_gt (by omega), orI_ne (by decide)]
        simp [hne]
      | none =>
        simp only
        rw [if_neg (show ¬ z = 255 by omega)]
        simp only [lexc_cons]
        by_cases h1 : y = z + 1
        · rw [h1, cmpI_self, orI_nil]
          have : lexc m [] ≠ -1 := by cases m <;> simp [lexc]
          simp [this]
        · rw [cmpI_gt (by omega), orI_ne (by decide)]
          simp [hne]

theorem next_all8 {l n : List Nat} (h8 : All8 l) (h : nextRes l = some n) : All8 n := by
  induction l generalizing n with
  | nil => cases h
  | cons z l ih =>
    rw [nextRes_cons] at h
    have hz := h8 z List.mem_cons_self
    cases hn : nextRes l with
    | some p =>
      rw [hn] at h
      cases h
      intro x hx
      rcases List.mem_cons.1 hx with rfl | hx
      · exact hz
      · exact ih (fun y hy => h8 y (List.mem_cons_of_mem _ hy)) hn x hx
    | none =>
      rw [hn] at h
      simp only at h
      by_cases e : z = 255
      · rw [if_pos e] at h; cases h
      · rw [if_neg e] at h
        cases h
        intro x hx
        rw [List.mem_singleton] at hx
        omega


end Go.Proofs.Ytelcfmjhbjnkoaa

/- Frames as mathematics: frame behind frame. -/
import Derived.Test.YtkacfpmninmjkaaGreatFm1
namespace Go.Proofs.YtkacfpmninmjkaaGreat
open Go.RowKit

/-- The frames with which bytes begin, from a place on: where each ends, its payload. -/
def frsF : Nat → Nat → List Nat → List (Nat × List Nat)
  | 0, _, _ => []
  | f + 1, e, bs =>
    match rdF bs with
    | .error _ => []
    | .ok n => (e + (n + 9), (bs.drop 5).take n) :: frsF f (e + (n + 9)) (bs.drop (n + 9))

theorem rdF_nil : rdF [] = .error 20 := rfl
theorem frsF_fuel : ∀ (f g e : Nat) (bs : List Nat), bs.length ≤ f → bs.length ≤ g → frsF f e bs = frsF g e bs := by
  intro f
  induction f with
  | zero =>
    intro g e bs h1 h2
    have : bs = [] := List.eq_nil_of_length_eq_zero (by omega)
    subst this
    cases g with
    | zero => rfl
    | succ g => rfl
  | succ f ih =>
    intro g e bs h1 h2
    cases g with
    | zero =>
      have : bs = [] := List.eq_nil_of_length_eq_zero (by omega)
      subst this
      rfl
    | succ g =>
      unfold frsF
      cases hr : rdF bs with
      | error c => rfl
      | ok n =>
        obtain ⟨_, _, _, h3, _⟩ := rdF_ok hr
        simp only
        rw [ih g (e + (n + 9)) (bs.drop (n + 9)) (by simp; omega) (by simp; omega)]

/-- The frames from place e of bs on. -/
def frsAt (bs : List Nat) (e : Nat) : List (Nat × List Nat) := frsF (bs.length - e) e (bs.drop e)
/-- All frames of bs. -/
def frs (bs : List Nat) : List (Nat × List Nat) := frsAt bs 0

theorem frsAt_stop {bs : List Nat} {e c : Nat} (h : rdF (bs.drop e) = .error c) : frsAt bs e = [] := by
  unfold frsAt
  cases hf : bs.length - e with
  | zero => rfl
  | succ f => unfold frsF; rw [h]
theorem frsAt_step {bs : List Nat} {e n : Nat} (h : rdF (bs.drop e) = .ok n) : frsAt bs e = (e + (n + 9), ((bs.drop e).drop 5).take n) :: frsAt bs (e + (n + 9)) := by
  obtain ⟨_, _, _, h3, _⟩ := rdF_ok h
  rw [List.length_drop] at h3
  unfold frsAt
  cases hf : bs.length - e with
  | zero => omega
  | succ f =>
    conv => lhs; unfold frsF
    rw [h]
    simp only [List.drop_drop]
    rw [frsF_fuel f (bs.length - (e + (n + 9))) _ _ (by simp; omega) (by simp)]
/-- A list that begins with what came. -/
theorem frs_next {α : Type} {all pre rest : List α} {x : α} (h : all = pre ++ x :: rest) : all[pre.length]? = some x ∧ all = (pre ++ [x]) ++ rest := by
  subst h
  refine ⟨by simp, by simp⟩
theorem frs_few : ∀ (f e : Nat) (bs : List Nat), 9 * (frsF f e bs).length ≤ bs.length := by
  intro f
  induction f with
  | zero => intro e bs; simp [frsF]
  | succ f ih =>
    intro e bs
    unfold frsF
    cases hr : rdF bs with
    | error c => simp
    | ok n =>
      obtain ⟨_, _, _, h3, _⟩ := rdF_ok hr
      have := ih (e + (n + 9)) (bs.drop (n + 9))
      rw [List.length_drop] at this
      simp only [List.length_cons]
      omega
theorem frs_len (bs : List Nat) : 9 * (frs bs).length ≤ bs.length := by
  have := frs_few (bs.length - 0) 0 (bs.drop 0)
  rwa [List.drop_zero] at this
theorem frsF_mem : ∀ (f e : Nat) (bs : List Nat), All8 bs → ∀ x ∈ frsF f e bs, x.1 ≤ e + bs.length ∧ All8 x.2 ∧ x.2.length ≤ 65536 := by
  intro f
  induction f with
  | zero => intro e bs _ x hx; simp [frsF] at hx
  | succ f ih =>
    intro e bs h8 x hx
    unfold frsF at hx
    cases hr : rdF bs with
    | error c => rw [hr] at hx; simp at hx
    | ok n =>
      rw [hr] at hx
      obtain ⟨_, _, h2, h3, _⟩ := rdF_ok hr
      rcases List.mem_cons.1 hx with h | h
      · subst h
        refine ⟨by show e + (n + 9) ≤ _; omega, (h8.drop _).take _, ?_⟩
        show ((bs.drop 5).take n).length ≤ 65536
        rw [List.length_take]; omega
      · have := ih _ _ (h8.drop _) x h
        rw [List.length_drop] at this
        exact ⟨by omega, this.2⟩
theorem frs_mem {bs : List Nat} (h8 : All8 bs) {x : Nat × List Nat} (hx : x ∈ frs bs) : x.1 ≤ bs.length ∧ All8 x.2 ∧ x.2.length ≤ 65536 := by
  have := frsF_mem (bs.length - 0) 0 (bs.drop 0) (by rw [List.drop_zero]; exact h8) x hx
  rwa [List.drop_zero, Nat.zero_add] at this

end Go.Proofs.YtkacfpmninmjkaaGreat

/- One form: what a taking takes is what a laying would lay. -/
import Derived.Test.YtfhinodieghklabRd10
namespace Go.Proofs.Ytfhinodieghklab
open Go.RowKit

theorem groups_form {f : Nat} {t : List Nat} : ∀ (bs : List Nat) (_ : All8 bs) (k y : Nat), groupsFrom k y bs = .ok (f, t) → ∃ g, f = y + g * 128 ^ k ∧ bs = shortL g ++ t ∧ (0 < k → 0 < g) := by
  intro bs
  induction bs with
  | nil => intro _ k y h; cases h
  | cons x s ih =>
    intro h8 k y h
    have hx : x < 256 := h8 x (by simp)
    have h8s : All8 s := fun z hz => h8 z (List.mem_cons_of_mem _ hz)
    rw [groupsFrom] at h
    split at h
    · cases h
    · split at h
      · next c2 =>
        obtain ⟨g, h1, h2, h3⟩ := ih h8s _ _ h
        have hg : 0 < g := h3 (by omega)
        refine ⟨x % 128 + 128 * g, ?_, ?_, fun _ => by omega⟩
        · rw [h1, Nat.pow_succ, Nat.add_mul, Nat.add_assoc]
          congr 2
          rw [Nat.mul_comm 128 g, Nat.mul_assoc, Nat.mul_comm (128 ^ k) 128]
        · rw [shortL_high (by omega), show (x % 128 + 128 * g) % 128 + 128 = x by omega, show (x % 128 + 128 * g) / 128 = g by omega, h2]
          rfl
      · next c2 =>
        split at h
        · cases h
        · next c3 =>
          cases h
          refine ⟨x, ?_, ?_, fun hk => by omega⟩
          · rw [Nat.mod_eq_of_lt (by omega)]
          · rw [shortL_low (by omega)]; rfl
theorem groups_form0 {bs : List Nat} (h8 : All8 bs) {f : Nat} {t : List Nat} (h : groupsFrom 0 0 bs = .ok (f, t)) : bs = shortL f ++ t := by
  obtain ⟨g, h1, h2, _⟩ := groups_form bs h8 0 0 h
  have : f = g := by simpa using h1
  rw [this]; exact h2
theorem fold_unfold (f : Nat) : foldI (unfoldN f) = f := by
  unfold unfoldN
  split
  · unfold foldI; rw [if_pos (by omega)]; omega
  · unfold foldI; rw [if_neg (by omega)]; omega
theorem short_form {low high : Int} {bs : List Nat} (h8 : All8 bs) {n : Int} {t : List Nat} (h : takeShort low high bs = .ok (n, t)) : bs = shortL (foldI n) ++ t := by
  unfold takeShort at h
  split at h
  · cases h
  · split at h
    · cases h
    · next e =>
      split at h
      · cases h
      · cases h; rw [fold_unfold]; exact groups_form0 h8 e
theorem counted_form {most : Int} {bs : List Nat} (h8 : All8 bs) {p t : List Nat} (h : takeCounted most bs = .ok (p, t)) : bs = shortL (2 * p.length) ++ p ++ t := by
  unfold takeCounted at h
  split at h
  · cases h
  · next n s e =>
    split at h
    · cases h
    · next hlt =>
      cases h
      obtain ⟨h0, _⟩ := takeShort_nat e
      have hf := short_form h8 e
      have hl : (s.take n.toNat).length = n.toNat := by simp; omega
      rw [hl, List.append_assoc, List.take_append_drop]
      have e2 : 2 * n.toNat = foldI n := by unfold foldI; rw [if_neg (by omega)]; omega
      rw [e2]; exact hf
theorem groups_err : ∀ (bs : List Nat) (k y c : Nat), groupsFrom k y bs = .error c → c ≠ 0 := by
  intro bs
  induction bs with
  | nil => intro k y c h; cases h; decide
  | cons x s ih =>
    intro k y c h
    rw [groupsFrom] at h
    split at h
    · cases h; decide
    · split at h
      · exact ih _ _ _ h
      · split at h
        · cases h; decide
        · cases h
theorem short_err {low high : Int} {bs : List Nat} {c : Nat} (h : takeShort low high bs = .error c) : c ≠ 0 := by
  unfold takeShort at h
  split at h
  · cases h; decide
  · split at h
    · next e => cases h; exact groups_err _ _ _ _ e
    · split at h
      · cases h; decide
      · cases h
theorem counted_err {most : Int} {bs : List Nat} {c : Nat} (h : takeCounted most bs = .error c) : c ≠ 0 := by
  unfold takeCounted at h
  split at h
  · next e => cases h; exact short_err e
  · split at h
    · cases h; decide
    · cases h
theorem fixed_err {W : Nat} {bs : List Nat} {c : Nat} (h : takeFixed W bs = .error c) : c ≠ 0 := by
  unfold takeFixed at h
  split at h
  · cases h; decide
  · cases h

theorem beVal_append (xs : List Nat) : ∀ ys : List Nat, beVal (xs ++ ys) = beVal xs * 256 ^ ys.length + beVal ys := by
  intro ys
  have key : ∀ (ys : List Nat) (v : Nat), ys.foldl (fun v x => v * 256 + x) v = v * 256 ^ ys.length + ys.foldl (fun v x => v * 256 + x) 0 := by
    intro ys
    induction ys with
    | nil => intro v; simp
    | cons y t ih =>
      intro v
      simp only [List.foldl_cons, List.length_cons]
      rw [ih (v * 256 + y), ih (0 * 256 + y), Nat.pow_succ, Nat.add_mul, Nat.mul_assoc, Nat.mul_comm 256, Nat.zero_mul, Nat.zero_add, Nat.add_assoc]
  unfold beVal
  rw [List.foldl_append]
  exact key ys _
theorem beVal_bound {l : List Nat} (h : All8 l) : beVal l < 256 ^ l.length := by
  have := beVal_lt h l.length (Nat.le_refl _)
  rwa [List.take_length] at this
theorem be_form {l : List Nat} (h8 : All8 l) : beP l.length (beVal l) l.length = l := by
  apply eq_of_at (beP_len _ _ _)
  intro k hk
  rw [beP_len] at hk
  have hat : at0 (beP l.length (beVal l) l.length) k = beVal l / 256 ^ (l.length - 1 - k) % 256 := by
    rw [← at0_get (by rw [beP_len]; exact hk)]
    simp [beP]
  have hd : (l.drop (k + 1)).length = l.length - 1 - k := by simp; omega
  have hb := beVal_bound (h8.drop (k + 1))
  have ha := beVal_append (l.take (k + 1)) (l.drop (k + 1))
  rw [List.take_append_drop] at ha
  rw [hat, ha, hd] at *
  rw [Nat.mul_comm, Nat.mul_add_div (Nat.pow_pos (by decide)), Nat.div_eq_of_lt hb, Nat.add_zero, take_snoc hk, beVal_snoc]
  have := h8.at k
  omega
end Go.Proofs.Ytfhinodieghklab

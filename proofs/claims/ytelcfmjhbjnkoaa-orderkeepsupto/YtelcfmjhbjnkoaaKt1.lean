/- What Encode answers, told by its three ways; its bytes are bytes. -/
import Derived.Test.YtelcfmjhbjnkoaaNx1
namespace Go.Proofs.Ytelcfmjhbjnkoaa
open Go.RowKit

theorem beP_all8 (W v j : Nat) : All8 (beP W v j) := fun z hz => by
  unfold beP at hz
  obtain ⟨t, _, rfl⟩ := List.mem_map.1 hz
  omega
theorem all8_append {a b : List Nat} (ha : All8 a) (hb : All8 b) : All8 (a ++ b) := fun z hz => by
  rcases List.mem_append.1 hz with h | h
  · exact ha z h
  · exact hb z h
theorem esc_all8 {l : List Nat} (h : All8 l) : All8 (esc l) := fun z hz => by
  unfold esc at hz
  obtain ⟨y, hy, hz⟩ := List.mem_flatMap.1 hz
  have := h y hy
  split at hz
  · simp at hz; omega
  · simp at hz; omega
theorem encI_all8 {x : It} (h : may x = true) : All8 (encI x) := by
  have hk := may_kind h
  have hb : All8 (body x) := by
    unfold body
    repeat' split
    · intro z hz
      rw [List.mem_singleton] at hz
      subst hz
      cases x.b <;> decide
    · exact beP_all8 _ _ _
    · exact beP_all8 _ _ _
    · exact all8_append (beP_all8 _ _ _) (beP_all8 _ _ _)
    · exact all8_append (esc_all8 (strNat_all _)) (fun z hz => by simp at hz; omega)
    · intro z hz; cases hz
  intro z hz
  unfold encI at hz
  rcases List.mem_cons.1 hz with rfl | hz
  · omega
  · exact hb z hz
theorem encAll_all8 {xs : List It} (h : ∀ x ∈ xs, may x = true) : All8 (encAll xs) := fun z hz => by
  unfold encAll at hz
  obtain ⟨x, hx, hz⟩ := List.mem_flatMap.1 hz
  exact encI_all8 (h x hx) z hz

/-- The three ways of Encode. -/
theorem enc_cases (xs : List It) : (∃ c : Int, c ≠ 0 ∧ encRes xs = ([], c) ∧ (64 < xs.length ∨ ¬ ∀ x ∈ xs, may x = true)) ∨ (encRes xs = (encAll xs, 0) ∧ xs.length ≤ 64 ∧ ∀ x ∈ xs, may x = true) := by
  unfold encRes
  by_cases h : 64 < xs.length
  · rw [if_pos h]; exact .inl ⟨3, by decide, rfl, .inl h⟩
  · rw [if_neg h]
    cases ha : xs.all may with
    | true => exact .inr ⟨rfl, by omega, fun x hx => List.all_eq_true.1 ha x hx⟩
    | false =>
      refine .inl ⟨40, by decide, rfl, .inr fun hall => ?_⟩
      rw [List.all_eq_true.2 hall] at ha
      cases ha

/-- Items handed to the program, and Encode of them: one after the other. -/
theorem enc_own {w : World} {base : Nat} {v : Value} {xs : List It} (hv : OwnI w base v xs) (hok : AllOk xs) (hl : xs.length ≤ 140737488355328) :
    Calls Try.prog 7 #[v] w fun e w' => e = .returned (.tuple #[.string (strOf (encRes xs).1), .int .i64 (encRes xs).2]) ∧ Below w.heap.size w w' := by
  obtain ⟨a, cap, rfl, hr, _, _⟩ := hv.row
  exact encode_any a cap xs w hr hok hl
theorem cmp_own {w : World} {base base' : Nat} {v u : Value} {xs ys : List It} (hv : OwnI w base v xs) (hu : OwnI w base' u ys) (hx : ∀ x ∈ xs, ItOk x) (hy : ∀ y ∈ ys, ItOk y) (hlx : xs.length ≤ 140737488355328) (hly : ys.length ≤ 140737488355328) :
    Calls Try.prog 8 #[v, u] w fun e w' => e = .returned (.int .i64 (cmpAll xs ys)) ∧ Below w.heap.size w w' := by
  obtain ⟨a, cap, rfl, hr, _, _⟩ := hv.row
  obtain ⟨b, cb, rfl, hs, _, _⟩ := hu.row
  exact compareAll_any a b cap cb xs ys w hr hs hx hy hlx hly
end Go.Proofs.Ytelcfmjhbjnkoaa

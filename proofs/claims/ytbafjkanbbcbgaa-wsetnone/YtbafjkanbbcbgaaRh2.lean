/- A move of a walk through a region whose order is open, within a fence, in a round: three operations may come up. -/
import Derived.Test.YtbafjkanbbcbgaaRh1
set_option maxRecDepth 100000
namespace Go.Proofs.Ytbafjkanbbcbgaa.inRound
open Go

variable {F : Fence} {n : Nat} {P : Program} {ops : Array Oper} {md : Region.Mode} {S : World → Prop} {Q : Exit → Act → World → Prop}

theorem take_three {i j l : Nat} {oi oj ol : Oper} {fuel : Nat} {listed : Array Bool} {a : Act} {w : World} (hF : ∀ f, F.fn f) (hi : ops.toList[i]? = some oi) (hj : ops.toList[j]? = some oj) (hl : ops.toList[l]? = some ol) (hr : Region.ready md ops listed = [i, j, l])
    (h : ∀ K' : Act → World → Prop, Shut (∀ a w, S w → (S w → heldAny F n P md ops Q S fuel (listed.setIfInBounds i true) a w) → K' a w) → if Region.wanted oi (yielded ops a.tmps) = true then Oper.wpIn F n P oi a w K' Q else K' (a.put oi.dst undef) w)
    (h' : ∀ K' : Act → World → Prop, Shut (∀ a w, S w → (S w → heldAny F n P md ops Q S fuel (listed.setIfInBounds j true) a w) → K' a w) → if Region.wanted oj (yielded ops a.tmps) = true then Oper.wpIn F n P oj a w K' Q else K' (a.put oj.dst undef) w)
    (h'' : ∀ K' : Act → World → Prop, Shut (∀ a w, S w → (S w → heldAny F n P md ops Q S fuel (listed.setIfInBounds l true) a w) → K' a w) → if Region.wanted ol (yielded ops a.tmps) = true then Oper.wpIn F n P ol a w K' Q else K' (a.put ol.dst undef) w) :
    heldAny F n P md ops Q S (fuel + 1) listed a w := by
  refine ⟨fun h0 => (by rw [hr] at h0; cases h0), fun k hk => ?_⟩
  rw [hr] at hk
  have hk2 : k = i ∨ k = j ∨ k = l := by simpa using hk
  rcases hk2 with rfl | rfl | rfl
  · have h2 := h (fun a' w' => S w' ∧ heldAny F n P md ops Q S fuel (listed.setIfInBounds k true) a' w') (fun _ _ hS hW => ⟨hS, hW hS⟩)
    unfold wpOpIn
    simp only [get_of_list hi]
    by_cases hw : Region.wanted oi (yielded ops a.tmps) = true
    · rw [if_pos hw] at h2 ⊢; exact h2
    · rw [if_neg hw] at h2 ⊢; exact ⟨fun f _ => hF f, h2⟩
  · have h2 := h' (fun a' w' => S w' ∧ heldAny F n P md ops Q S fuel (listed.setIfInBounds k true) a' w') (fun _ _ hS hW => ⟨hS, hW hS⟩)
    unfold wpOpIn
    simp only [get_of_list hj]
    by_cases hw : Region.wanted oj (yielded ops a.tmps) = true
    · rw [if_pos hw] at h2 ⊢; exact h2
    · rw [if_neg hw] at h2 ⊢; exact ⟨fun f _ => hF f, h2⟩
  · have h2 := h'' (fun a' w' => S w' ∧ heldAny F n P md ops Q S fuel (listed.setIfInBounds k true) a' w') (fun _ _ hS hW => ⟨hS, hW hS⟩)
    unfold wpOpIn
    simp only [get_of_list hl]
    by_cases hw : Region.wanted ol (yielded ops a.tmps) = true
    · rw [if_pos hw] at h2 ⊢; exact h2
    · rw [if_neg hw] at h2 ⊢; exact ⟨fun f _ => hF f, h2⟩

end Go.Proofs.Ytbafjkanbbcbgaa.inRound

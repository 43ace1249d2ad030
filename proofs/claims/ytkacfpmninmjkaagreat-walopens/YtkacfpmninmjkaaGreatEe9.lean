/- An entry taken off a reader, whatever its kind; Decode. -/
import Derived.Test.YtkacfpmninmjkaaGreatEe8
namespace Go.Proofs.YtkacfpmninmjkaaGreat
open Go.RowKit

theorem take_any (p : Nat) (s : List Nat × Nat) (w : World) (hr : Rst w (some ⟨p, 0, none⟩) s) :
    Calls Tryz.prog 83 #[.pointer (some ⟨p, 0, none⟩)] w fun e w' => TkTo w p ((rdOf 0 (takeFixed 1) s).1 : Int) (rdOf 0 (takeFixed 1) s).2 e w' := by
  have h8 := rdFixed_lt (W := 1) hr.all
  obtain ⟨⟨k, s1⟩, h0⟩ : ∃ r, r = rdOf 0 (takeFixed 1) s := ⟨_, rfl⟩
  rw [← h0] at h8 ⊢
  simp only at h8 ⊢
  have h0 := h0.symm
  by_cases h1 : k = 1
  · subst h1; exact take_1 p s s1 w hr h0
  by_cases h2 : k = 2
  · subst h2; exact take_2 p s s1 w hr h0
  by_cases h3 : k = 3
  · subst h3; exact take_3 p s s1 w hr h0
  by_cases h4 : k = 4
  · subst h4; exact take_4 p s s1 w hr h0
  by_cases h5 : k = 5
  · subst h5; exact take_5 p s s1 w hr h0
  by_cases h6 : k = 6
  · subst h6; exact take_6 p s s1 w hr h0
  exact take_0 p k s s1 w hr h0 (by simpa using h8) (by omega)

/-- What Decode answers. -/
def DecTo (w : World) (bs : List Nat) (e : Ending) (w' : World) : Prop :=
  (∃ a c, e = .returned (.tuple #[valE ((decE bs).getD zeroEn) a c, .int .i64 ((if (decE bs).isSome then 0 else 100 : Nat) : Int)]) ∧ OwnB w' w.heap.size (.slice a ((decE bs).getD zeroEn).val.length c) ((decE bs).getD zeroEn).val) ∧ Below w.heap.size w w'
end Go.Proofs.YtkacfpmninmjkaaGreat

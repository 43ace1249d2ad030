/- Two pairs beside one another, of the law's own; what a script makes of an area. -/
import Derived.Test.YtejaaalgnbnalaaSt7
namespace Go.Proofs.Ytejaaalgnbnalaa
open Go.RowKit

abbrev objA : Obj := .cells #[.int .i64 0, .int .i64 0, .slice none 0 0] 59
abbrev objP (p : Nat) : Obj := .cells #[.pointer (some ⟨p, 0, none⟩), .int .i64 0, .slice none 0 0, .slice none 0 0] 54
theorem pm_new (w : World) : Pm ((w.alloc objA).alloc (objP w.heap.size)) (fun j => w.heap.size ≤ j ∧ j < w.heap.size + 2) (w.heap.size + 1) 0 [] 0 := by
  refine ⟨w.heap.size, .slice none 0 0, .slice none 0 0, .slice none 0 0, ?_, ?_, ⟨OwB.nil _ _, OwO.nil _ _, Nat.le_refl _⟩, ?_, ?_, ?_⟩
  · have := heap_alloc_new (w.alloc objA) (objP w.heap.size)
    simpa using this
  · exact (ar_new w).below ((Below.refl _ _).alloc (Nat.le_refl _) _)
  · intro h
    rcases h with h | h
    · omega
    · cases h
  · intro j hj
    rcases hj with hj | hj <;> cases hj
  · intro j hj
    rcases hj with hj | (hj | hj) | hj | hj
    · omega
    · omega
    · cases hj
    · cases hj
    · cases hj

/-- A pair of the law's own. -/
structure One (W : World) (pp : Nat) (x : As) (w : World) : Prop where
  ex : ∃ F : Nat → Prop, Pm w F pp x.B x.bs x.k ∧ ∀ j, F j → W.heap.size ≤ j
  bel : Below W.heap.size W w
/-- Two pairs of the law's own. -/
structure Two (W : World) (pp1 pp2 : Nat) (x1 x2 : As) (w : World) : Prop where
  ex : ∃ F1 F2 : Nat → Prop, Pm w F1 pp1 x1.B x1.bs x1.k ∧ Pm w F2 pp2 x2.B x2.bs x2.k ∧ (∀ j, F1 j → ¬ F2 j) ∧ (∀ j, F1 j → W.heap.size ≤ j) ∧ (∀ j, F2 j → W.heap.size ≤ j)
  bel : Below W.heap.size W w
section
variable {W w w' : World} {pp pp1 pp2 : Nat} {x x1 x2 : As}
theorem Pm.below {F : Nat → Prop} {B : Nat} {bs : List Nat} {k : Nat} (h : Pm w F pp B bs k) (hb : Below w.heap.size w w') : Pm w' F pp B bs k := by
  obtain ⟨p, v, da, sa, hM⟩ := h
  exact ⟨p, v, da, sa, hM.below hb⟩
theorem Pm.shut {F : Nat → Prop} {B : Nat} {bs : List Nat} {k : Nat} (h : Pm w F pp B bs k) : Pm w (fun j => F j ∧ j < w.heap.size) pp B bs k := by
  obtain ⟨p, v, da, sa, hM⟩ := h
  exact ⟨p, v, da, sa, hM.shut⟩
theorem Pm.chg {F S : Nat → Prop} {B : Nat} {bs : List Nat} {k : Nat} (h : Pm w F pp B bs k) (hc : Chg S w w') (hs : ∀ j, F j → ¬ S j) : Pm w' F pp B bs k := by
  obtain ⟨p, v, da, sa, hM⟩ := h
  exact ⟨p, v, da, sa, hM.chg hc hs⟩
theorem Two.swap (h : Two W pp1 pp2 x1 x2 w) : Two W pp2 pp1 x2 x1 w := by
  obtain ⟨⟨F1, F2, h1, h2, h3, h4, h5⟩, hb⟩ := h
  exact ⟨⟨F2, F1, h2, h1, fun j hj h => h3 j h hj, h5, h4⟩, hb⟩
theorem Two.below (h : Two W pp1 pp2 x1 x2 w) (hb : Below w.heap.size w w') : Two W pp1 pp2 x1 x2 w' := by
  obtain ⟨⟨F1, F2, h1, h2, h3⟩, hb2⟩ := h
  exact ⟨⟨F1, F2, h1.below hb, h2.below hb, h3⟩, hb2.trans (hb.mono hb2.size)⟩
theorem One.below (h : One W pp x w) (hb : Below w.heap.size w w') : One W pp x w' := by
  obtain ⟨⟨F, h1, h2⟩, hb2⟩ := h
  exact ⟨⟨F, h1.below hb, h2⟩, hb2.trans (hb.mono hb2.size)⟩
theorem Two.step (h : Two W pp1 pp2 x1 x2 w) (s : Stp) (hs : StpOk W s) {T : Nat} (hI : Inv T x1) (hT : T + (1 + s.d.p.length) ≤ 1073741824) :
    Calls Try.prog 17 #[.pointer (some ⟨pp1, 0, none⟩), valS s] w fun e w' => e = .returned (.bool true) ∧ Two W pp1 pp2 (nxt s x1) x2 w' := by
  obtain ⟨⟨F1, F2, h1, h2, h3, h4, h5⟩, hb⟩ := h
  refine (step_any s x1 w F1 (fun w' hc => hs.below (hb.trans (hc.below h4 hb.size))) pp1 h1 hI hT).mono ?_
  rintro e w' ⟨he, hp, hc⟩
  refine ⟨he, ⟨grow w F1, fun j => F2 j ∧ j < w.heap.size, hp, h2.shut.chg hc (fun j hj h => h3 j h hj.1), fun j hj h => ?_, fun j hj => ?_, fun j hj => h5 j hj.1⟩, hb.trans (hc.below h4 hb.size)⟩
  · rcases hj with hj | hj
    · exact h3 j hj h.1
    · have := h.2; omega
  · rcases hj with hj | hj
    · exact h4 j hj
    · exact Nat.le_trans hb.size hj
theorem One.step (h : One W pp x w) (s : Stp) (hs : StpOk W s) {T : Nat} (hI : Inv T x) (hT : T + (1 + s.d.p.length) ≤ 1073741824) :
    Calls Try.prog 17 #[.pointer (some ⟨pp, 0, none⟩), valS s] w fun e w' => e = .returned (.bool true) ∧ One W pp (nxt s x) w' := by
  obtain ⟨⟨F1, h1, h4⟩, hb⟩ := h
  refine (step_any s x w F1 (fun w' hc => hs.below (hb.trans (hc.below h4 hb.size))) pp h1 hI hT).mono ?_
  rintro e w' ⟨he, hp, hc⟩
  refine ⟨he, ⟨grow w F1, hp, fun j hj => ?_⟩, hb.trans (hc.below h4 hb.size)⟩
  rcases hj with hj | hj
  · exact h4 j hj
  · exact Nat.le_trans hb.size hj
theorem Two.new (W w : World) (hb : Below W.heap.size W w) : Two W (w.heap.size + 1) (w.heap.size + 3) ⟨0, [], 0⟩ ⟨0, [], 0⟩ ((((w.alloc objA).alloc (objP w.heap.size)).alloc objA).alloc (objP (w.heap.size + 2))) := by
  have h1 := pm_new w
  have h2 := pm_new ((w.alloc objA).alloc (objP w.heap.size))
  have hs : ((w.alloc objA).alloc (objP w.heap.size)).heap.size = w.heap.size + 2 := by simp
  rw [hs] at h2
  have hb1 : Below ((w.alloc objA).alloc (objP w.heap.size)).heap.size ((w.alloc objA).alloc (objP w.heap.size)) ((((w.alloc objA).alloc (objP w.heap.size)).alloc objA).alloc (objP (w.heap.size + 2))) :=
    ((Below.refl _ _).alloc (Nat.le_refl _) _).alloc (by simp) _
  refine ⟨⟨_, _, h1.below hb1, h2, fun j hj h => by omega, fun j hj => ?_, fun j hj => ?_⟩, (((hb.alloc hb.size _).alloc (by have := hb.size; simp; omega) _).alloc (by have := hb.size; simp; omega) _).alloc (by have := hb.size; simp; omega) _⟩
  · exact Nat.le_trans hb.size hj.1
  · have := hb.size; have := hj.1; omega
theorem One.new (W w : World) (hb : Below W.heap.size W w) : One W (w.heap.size + 1) ⟨0, [], 0⟩ ((w.alloc objA).alloc (objP w.heap.size)) :=
  ⟨⟨_, pm_new w, fun j hj => Nat.le_trans hb.size hj.1⟩, (hb.alloc hb.size _).alloc (by have := hb.size; simp; omega) _⟩
/-- The program's area is there. -/
theorem Two.there (h : Two W pp1 pp2 x1 x2 w) : ∃ p, w.cell? ⟨pp1, 0, none⟩ = some (.pointer (some ⟨p, 0, none⟩)) := by
  obtain ⟨⟨F1, F2, ⟨p, v, da, sa, hM⟩, _⟩, _⟩ := h
  exact ⟨p, hM.cells.1.1⟩
theorem One.there (h : One W pp x w) : ∃ p, w.cell? ⟨pp, 0, none⟩ = some (.pointer (some ⟨p, 0, none⟩)) ∧ Na W w p x.B x.bs x.k := by
  obtain ⟨⟨F, ⟨p, v, da, sa, hM⟩, h2⟩, hb⟩ := h
  exact ⟨p, hM.cells.1.1, ⟨⟨v, hM.ar, fun j hj => h2 j (hM.foot j (.inr (.inl (.inr hj))))⟩, h2 p (hM.foot p (.inr (.inl (.inl rfl)))), hb⟩⟩
end

/-- An area behind m steps. -/
def runA (A : Nat → Stp) : Nat → As
  | 0 => ⟨0, [], 0⟩
  | m + 1 => nxt (A m) (runA A m)
theorem runA_inv (A : Nat → Stp) : ∀ m, Inv (tot A m) (runA A m)
  | 0 => ⟨by simp [runA], by simp [runA], by simp [runA]⟩
  | m + 1 => (runA_inv A m).next (A m)

end Go.Proofs.Ytejaaalgnbnalaa

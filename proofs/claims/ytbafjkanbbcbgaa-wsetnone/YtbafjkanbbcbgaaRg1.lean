/- A loop over an iterator that hands over things in memory that it makes: what is known of a thing in the world in which it is handed over goes to the loop's body. -/
import Derived.RangeFuncNested
import Derived.RangeFuncBound
import Derived.RangeFuncCalls
import Derived.RangeFuncLeaves
import Derived.RangeFuncBox
import Derived.Shelf.Abstract
import Derived.Shelf.RegionOpen
import Derived.WalkKit
import Derived.OwnWalkIn
import Derived.TacticsInMore
import Derived.LoopNIn
import Derived.LoopIn
import Derived.Maps.AppendAt
namespace Go.Proofs.Ytbafjkanbbcbgaa
open Go.RowKit Go.Shelf

/-- What an iterator does: thing behind thing, each in memory that is made since the round before (G: what is known of a thing, by the world behind the round before and the world in which it is handed over). Kp: what a round must leave as it is. S: of all that came; Sp: of what came until it was left. -/
def Tells {α : Type} (F : Fence) (n : Nat) (P : Program) (g : Nat) (lb : Array Value) (encs : α → Array Value) (G : List α → α → World → World → Prop) (Kp : World → World → Prop) (S Sp : List α → Prop) (w : World) : Prop :=
  ∀ (l : Nat) (J Jx : List α → World → Prop) (W : World), Below w.heap.size w W →
    (∀ pre x X W1, J pre X → Below X.heap.size X W1 → G pre x X W1 → YieldAt F (n - 1) P l (encs x) W1 fun e W' =>
      (e = .returned (.bool true) ∧ J (pre ++ [x]) W' ∧ Kp W1 W') ∨ (e = .returned (.bool false) ∧ Jx (pre ++ [x]) W')) →
    J [] W →
    CallsIn F n P g (#[.func (.yield l) #[] #[]] ++ lb) W fun e W' => (∃ v, e = .returned v) ∧
      ((∃ xs X, S xs ∧ J xs X ∧ Below X.heap.size X W') ∨ (∃ pre X, Sp pre ∧ Jx pre X ∧ Below X.heap.size X W'))

theorem grown_none {w w' : World} (h : Below w.heap.size w w') : w.grownBy w' none := ⟨h.os, h.tape, h.output, h.size, fun k hk _ => h.block k hk⟩

variable {F : Fence} {n : Nat} {P : Program}

theorem range_tells {α : Type} {g : Operand} {ps : Array Tmp} {assign body : Code} {Q : Exit → Act → World → Prop} {a : Act} {w : World}
    (hro : F.round = none) (h1 : 1 ≤ n) {gf : Nat} {lb : Array Value} (hg : a.eval g = .func (.func gf) #[] lb) (hFg : F.fn gf) (eg : ∀ args w, (callFunc gf args).run P w = .ok (.enter gf args) w)
    {encs : α → Array Value} {G : List α → α → World → World → Prop} {Kp : World → World → Prop} {S Sp : List α → Prop} {w0 : World} (hseq : Tells F (n - 1) P gf lb encs G Kp S Sp w0) (hb0 : Below w0.heap.size w0 w)
    (hKt : ∀ {A B C : World}, Kp A B → Kp B C → Kp A C) (hKb : ∀ (W : World) (l : Nat) (o o' : Obj), w.heap.size ≤ l → W.heap[l]? = some o → o.isCells = false → Kp W (W.putObj l o'))
    (hG : ∀ pre x X W l o o', w.heap.size ≤ l → W.heap[l]? = some o → o.isCells = false → G pre x X W → G pre x X (W.putObj l o')) (hps : ∀ x, (encs x).size = ps.size)
    (I : List α → World → Prop) (Ix : Code → List α → World → Prop) (hI : OwnFrom w.heap.size I) (hIx : ∀ c, OwnFrom w.heap.size (Ix c)) (h0 : I [] w) (a₁ : α → Act)
    (hassign : ∀ (l : Nat) (x : α) (W : World) (K : Act → World → Prop), K (a₁ x) W →
      assign.wpIn (F.inRound l) (n - 1 - 1) P (Exit.then K (fun _ _ _ => False)) { tmps := (ps.zip (encs x)).foldl (fun t (p, v) => t.setIfInBounds p v) a.tmps, defers := [] } W)
    (hbody : ∀ (l : Nat) (pre : List α) (x : α) (X W : World), w.heap.size ≤ l → (∃ o : Obj, X.heap[l]? = some o ∧ o.isCells = false) → I pre X → X.grownBy W (some l) → G pre x X W →
      body.wpIn (F.inRound l) (n - 1 - 1) P (ownPostG w.heap.size Kp I Ix (pre ++ [x]) W) (a₁ x) W)
    (hdone : ∀ (D : Nat) (xs : List α) (W : World), w.heap.size ≤ D → S xs → I xs W → W.heap[D]? = some (.deferred (some [])) → Q .normal { a with defers := { target := .collected D, args := #[] } :: a.defers } W)
    (hstop : ∀ (D : Nat) (c : Code) (pre : List α) (W : World), w.heap.size ≤ D → Sp pre → Ix c pre W → W.heap[D]? = some (.deferred (some [])) → c.wpIn F n P Q { a with defers := { target := .collected D, args := #[] } :: a.defers } W) :
    (Code.rangeFunc g ps assign body).wpIn F n P Q a w := by
  refine wpIn_rangeFunc fun fn hfn => ?_
  rw [hro]
  obtain ⟨r0, hr0⟩ : ∃ r0 : Loop, r0 = { state := .ready, pending := none, fn, tmps := a.tmps, params := ps, assign, body, defers := w.heap.size } := ⟨_, rfl⟩
  obtain ⟨W1, hW1⟩ : ∃ W1, W1 = (w.alloc (.deferred (some []))).alloc (.loop r0) := ⟨_, rfl⟩
  have hL1 : W1.heap[w.heap.size + 1]? = some (.loop r0) := by
    have h := World.alloc_heap_new (w.alloc (.deferred (some []))) (.loop r0)
    rw [World.size_alloc] at h
    rw [hW1]; exact h
  have hD1 : W1.heap[w.heap.size]? = some (.deferred (some [])) := by
    rw [hW1, Below.heap_alloc _ _ _ (by simp)]; exact World.alloc_heap_new w _
  have hI1 : I [] W1 := by rw [hW1]; exact hI.alloc _ (hI.alloc _ h0)
  have hbw : Below w0.heap.size w0 W1 := by
    rw [hW1]; exact (hb0.alloc hb0.size _).alloc (by simp; exact Nat.le_succ_of_le hb0.size) _
  refine ⟨w.heap.size + 1, [{ target := .collected w.heap.size, args := #[] }], W1, { target := .fn (.func gf) lb, args := #[.func (.yield (w.heap.size + 1)) #[] #[]] }, W1, gf, #[.func (.yield (w.heap.size + 1)) #[] #[]] ++ lb, W1, ?_, ?_, ?_, ?_, fun _ => h1, ?_⟩
  · rw [hW1, hr0]; exact run_enterLoop_outer _ _ _ _ _
  · simp only [resolve, hg]
    simp [go_sem]
  · intro f' hf'
    simp [Target.leads] at hf'
    subst hf'
    exact hFg
  · simp [invoke, go_sem, eg]
  refine (hseq (w.heap.size + 1) (fun pre X => I pre X ∧ X.heap[w.heap.size + 1]? = some (.loop r0) ∧ X.heap[w.heap.size]? = some (.deferred (some [])))
    (fun pre X => ∃ c, Ix c pre X ∧ X.heap[w.heap.size + 1]? = some (.loop { r0 with state := .done, pending := some c }) ∧ X.heap[w.heap.size]? = some (.deferred (some []))) W1 hbw ?_ ⟨hI1, hL1, hD1⟩).mono ?_
  · rintro pre x X W ⟨hi, hl, hd⟩ hXW hGx
    have hlX : w.heap.size + 1 < X.heap.size := (Array.getElem?_eq_some_iff.1 hl).1
    have hlW : W.heap[w.heap.size + 1]? = some (.loop r0) := (hXW.block _ hlX).trans hl
    have hdW : W.heap[w.heap.size]? = some (.deferred (some [])) := (hXW.block _ (by omega)).trans hd
    have hlt : w.heap.size + 1 < W.heap.size := (Array.getElem?_eq_some_iff.1 hlW).1
    have hy := run_yield (P := P) (args := encs x) hlW (by rw [hr0]; exact hps x)
    rw [hr0] at hy
    refine ⟨fn, _, assign, body, hy, roundIn_of_wpIn hfn (hassign _ x W _ ⟨_, run_beginRound hlW (by rw [hr0]), ?_⟩)⟩
    obtain ⟨rb, hrb⟩ : ∃ rb : Loop, rb = { r0 with state := .busy } := ⟨_, rfl⟩
    rw [← hrb]
    obtain ⟨W2, hW2⟩ : ∃ W2, W2 = W.putObj (w.heap.size + 1) (.loop rb) := ⟨_, rfl⟩
    rw [← hW2]
    have hl2 : W2.heap[w.heap.size + 1]? = some (.loop rb) := by rw [hW2]; exact World.putObj_heap_same hlt
    have hd2 : W2.heap[w.heap.size]? = some (.deferred (some [])) := by rw [hW2]; exact (World.putObj_heap_other (by omega)).trans hdW
    have hk2 : Kp W W2 := by rw [hW2]; exact hKb _ _ _ _ (by omega) hlW rfl
    have hgr : X.grownBy W2 (some (w.heap.size + 1)) := by
      rw [hW2]
      exact ⟨hXW.os, hXW.tape, hXW.output, by simp; exact hXW.size, fun k hk hne => (World.putObj_heap_other (fun e => hne (by rw [e]))).trans (hXW.block k hk)⟩
    refine wpIn_mono (hbody _ pre x X W2 (by omega) ⟨_, hl, rfl⟩ hi hgr (by rw [hW2]; exact hG _ _ _ _ _ _ _ (by omega) hlW rfl hGx)) ?_
    -- how a round ends
    have fin : ∀ (jump : Option Code) (W3 : World), KeepsFrom w.heap.size W2 W3 → W3.heap[w.heap.size + 1]? = some (.loop rb) ∧
        (Instr.endRound (w.heap.size + 1) jump).run P W3 = .ok (.bool jump.isNone) (W3.putObj (w.heap.size + 1) (.loop { r0 with state := if jump.isNone then .ready else .done, pending := jump })) ∧
        (W3.putObj (w.heap.size + 1) (.loop { r0 with state := if jump.isNone then .ready else .done, pending := jump })).heap[w.heap.size + 1]? = some (.loop { r0 with state := if jump.isNone then .ready else .done, pending := jump }) ∧
        (W3.putObj (w.heap.size + 1) (.loop { r0 with state := if jump.isNone then .ready else .done, pending := jump })).heap[w.heap.size]? = some (.deferred (some [])) := fun jump W3 hk => by
      have e1 := hk.same _ _ (by omega) hl2 rfl
      have e2 := hk.same _ _ (Nat.le_refl _) hd2 rfl
      have e3 := run_endRound (P := P) jump e1
      rw [hrb] at e3
      exact ⟨e1, e3, World.putObj_heap_same (Array.getElem?_eq_some_iff.1 e1).1, (World.putObj_heap_other (by omega)).trans e2⟩
    have hrr : ({ r0 with state := .ready, pending := none } : Loop) = r0 := by rw [hr0]
    intro e a3 W3 hp
    cases e with
    | normal =>
      obtain ⟨hk3, hkp3, hi3⟩ := hp
      obtain ⟨e1, e2, e3, e4⟩ := fin none W3 hk3
      have e5 : (W3.putObj (w.heap.size + 1) (.loop { r0 with state := if (none : Option Code).isNone then .ready else .done, pending := none })).heap[w.heap.size + 1]? = some (.loop r0) := e3.trans (by
        show some (Obj.loop { r0 with state := .ready, pending := none }) = _
        rw [hrr])
      exact ⟨_, _, e2, .inl ⟨rfl, ⟨hI.putObj _ hi3 (by omega) e1 rfl, e5, e4⟩, hKt hk2 (hKt hkp3 (hKb _ _ _ _ (by omega) e1 rfl))⟩⟩
    | ret =>
      obtain ⟨hk3, hi3⟩ := hp
      obtain ⟨e1, e2, e3, e4⟩ := fin (some .ret) W3 hk3
      exact ⟨_, _, e2, .inr ⟨rfl, _, (hIx _).putObj _ hi3 (by omega) e1 rfl, e3, e4⟩⟩
    | exit id =>
      obtain ⟨hk3, hi3⟩ := hp
      obtain ⟨e1, e2, e3, e4⟩ := fin (some (.exit id)) W3 hk3
      exact ⟨_, _, e2, .inr ⟨rfl, _, (hIx _).putObj _ hi3 (by omega) e1 rfl, e3, e4⟩⟩
    | goto t =>
      obtain ⟨hk3, hi3⟩ := hp
      obtain ⟨e1, e2, e3, e4⟩ := fin (some (.goto t)) W3 hk3
      exact ⟨_, _, e2, .inr ⟨rfl, _, (hIx _).putObj _ hi3 (by omega) e1 rfl, e3, e4⟩⟩
    | panic ch => exact hp.elim
    | outgrown => exact hp.elim
  · have keep : ∀ {X W' : World} {k : Nat} {o : Obj}, Below X.heap.size X W' → X.heap[k]? = some o → W'.heap[k]? = some o := fun hb h => (hb.block _ (Array.getElem?_eq_some_iff.1 h).1).trans h
    rintro e W' ⟨⟨v, rfl⟩, (⟨xs, X, hS, ⟨hi, hl, hd⟩, hb⟩ | ⟨pre, X, hSp, ⟨c, hi, hl, hd⟩, hb⟩)⟩
    · have hl' := keep hb hl
      have e := run_endLoop (P := P) hl' (by rw [hr0]; simp)
      have hp0 : r0.pending = none := by rw [hr0]
      rw [hp0] at e
      exact ⟨none, _, e, hdone _ xs _ (Nat.le_refl _) hS (hI.putObj _ (hI xs X W' none hi (grown_none hb) (fun r h => by cases h)) (by omega) hl' rfl) ((World.putObj_heap_other (by omega)).trans (keep hb hd))⟩
    · have hl' := keep hb hl
      have e := run_endLoop (P := P) hl' (by simp)
      exact ⟨some c, _, e, hstop _ c pre _ (Nat.le_refl _) hSp ((hIx c).putObj _ (hIx c pre X W' none hi (grown_none hb) (fun r h => by cases h)) (by omega) hl' rfl) ((World.putObj_heap_other (by omega)).trans (keep hb hd))⟩

end Go.Proofs.Ytbafjkanbbcbgaa

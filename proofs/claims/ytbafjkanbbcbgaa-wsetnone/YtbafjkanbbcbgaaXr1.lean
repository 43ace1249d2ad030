/- A loop over an iterator that writes memory of its own between the rounds (T: the blocks that are the iterator's: what a round must keep; all else the iterator keeps). -/
import Derived.Test.YtbafjkanbbcbgaaRg1
import Derived.Test.YtbafjkanbbcbgaaXw1
namespace Go.Proofs.Ytbafjkanbbcbgaa
open Go.RowKit Go.Shelf

variable {F : Fence} {n : Nat} {P : Program}

/-- What there is of a set of blocks later: it and what was made meanwhile. -/
def tillT (T : Nat → Prop) (X W : World) (j : Nat) : Prop := T j ∨ (X.heap.size ≤ j ∧ j < W.heap.size)
theorem tillT_lt {T : Nat → Prop} {X W : World} (h : ∀ j, T j → j < X.heap.size) (hz : X.heap.size ≤ W.heap.size) : ∀ j, tillT T X W j → j < W.heap.size := fun j hj => by
  rcases hj with hj | hj
  · exact Nat.lt_of_lt_of_le (h j hj) hz
  · exact hj.2
theorem tillT_not {T : Nat → Prop} {X W : World} {l : Nat} (h : ¬ T l) (hl : l < X.heap.size) : ¬ tillT T X W l := fun e => by
  rcases e with e | e
  · exact h e
  · omega
theorem kpS_put {T : Nat → Prop} {W : World} {l : Nat} (h : ¬ T l) (o : Obj) : KpS T W (W.putObj l o) :=
  ⟨by simp, fun j oj hj hh => (World.putObj_heap_other (fun e : j = l => h (by rw [← e]; exact hj))).trans hh⟩
theorem kpS_new (T : Nat → Prop) (W : World) (o : Obj) : KpS T W (W.alloc o) := ⟨by simp, fun j oj _ hh => (Below.heap_alloc _ _ _ (Array.getElem?_eq_some_iff.1 hh).1).trans hh⟩

/-- How the body of a round may be left: its loop's record and the block of deferred calls lie as they lay. -/
def ownPostT {α : Type} (D l : Nat) (Kp : World → World → Prop) (I : List α → World → Prop) (Ix : Code → List α → World → Prop) (xs : List α) (W : World) : Exit → Act → World → Prop
  | .normal, _, W' => (W'.heap[l]? = W.heap[l]? ∧ W'.heap[D]? = W.heap[D]?) ∧ Kp W W' ∧ I xs W'
  | .ret, _, W' => (W'.heap[l]? = W.heap[l]? ∧ W'.heap[D]? = W.heap[D]?) ∧ Ix .ret xs W'
  | .exit id, _, W' => (W'.heap[l]? = W.heap[l]? ∧ W'.heap[D]? = W.heap[D]?) ∧ Ix (.exit id) xs W'
  | .goto t, _, W' => (W'.heap[l]? = W.heap[l]? ∧ W'.heap[D]? = W.heap[D]?) ∧ Ix (.goto t) xs W'
  | .panic _, _, _ => False
  | .outgrown, _, _ => False
/-- What such an iterator does: thing behind thing. K0: what it may write and leans on when it begins; S, Sp: of what came, and of the world at the end. -/
def TellsT {α : Type} (F : Fence) (n : Nat) (P : Program) (g : Nat) (lb : Array Value) (encs : α → Array Value) (K0 Kr : Nat → Prop) (G : (Nat → Prop) → List α → α → World → World → Prop) (S Sp : List α → World → Prop) (w : World) : Prop :=
  ∀ (l : Nat) (J Jx : (Nat → Prop) → List α → World → Prop) (W : World), Below w.heap.size w W → ¬ K0 l → l < W.heap.size →
    (∀ T T' pre x X W1, J T pre X → Chg T X W1 → (∀ j, T j → j < X.heap.size) → (∀ j, T j → T' j) → (∀ j, T' j → tillT T X W1 j) → G T' pre x X W1 → YieldAt F (n - 1) P l (encs x) W1 fun e W' =>
      KpS (fun j => T' j ∨ Kr j) W1 W' ∧ ((e = .returned (.bool true) ∧ J T' (pre ++ [x]) W') ∨ (e = .returned (.bool false) ∧ Jx T' (pre ++ [x]) W'))) →
    J K0 [] W →
    CallsIn F n P g (#[.func (.yield l) #[] #[]] ++ lb) W fun e W' => (∃ v, e = .returned v) ∧
      ((∃ T xs X, (∀ j, T j → j < X.heap.size) ∧ S xs W' ∧ J T xs X ∧ Chg T X W') ∨ (∃ T pre X, (∀ j, T j → j < X.heap.size) ∧ Sp pre W' ∧ Jx T pre X ∧ Chg T X W'))

theorem range_tellsT {α : Type} {g : Operand} {ps : Array Tmp} {assign body : Code} {Q : Exit → Act → World → Prop} {a : Act} {w : World}
    (hro : F.round = none) (h1 : 1 ≤ n) {gf : Nat} {lb : Array Value} (hg : a.eval g = .func (.func gf) #[] lb) (hFg : F.fn gf) (eg : ∀ args w, (callFunc gf args).run P w = .ok (.enter gf args) w)
    {encs : α → Array Value} {K0 Kr : Nat → Prop} {G : (Nat → Prop) → List α → α → World → World → Prop} {S Sp : List α → World → Prop} {w0 : World} (hseq : TellsT F (n - 1) P gf lb encs K0 Kr G S Sp w0) (hb0 : Below w0.heap.size w0 w) (hK0 : ∀ j, K0 j → j < w.heap.size) (hKr : ∀ j, Kr j → j < w.heap.size)
    (hS : ∀ xs W l o o', w.heap.size ≤ l → W.heap[l]? = some o → o.isCells = false → S xs W → S xs (W.putObj l o')) (hSp : ∀ xs W l o o', w.heap.size ≤ l → W.heap[l]? = some o → o.isCells = false → Sp xs W → Sp xs (W.putObj l o'))
    (hG : ∀ T pre x X W l o o', w.heap.size ≤ l → W.heap[l]? = some o → o.isCells = false → G T pre x X W → G T pre x X (W.putObj l o')) (hps : ∀ x, (encs x).size = ps.size)
    (I : (Nat → Prop) → List α → World → Prop) (Ix : Code → (Nat → Prop) → List α → World → Prop) (hIa : ∀ T pre W o, I T pre W → I T pre (W.alloc o)) (hIp : ∀ T pre W o o', I T pre W → W.heap[w.heap.size + 1]? = some o → o.isCells = false → ¬ T (w.heap.size + 1) → I T pre (W.putObj (w.heap.size + 1) o')) (hIxp : ∀ c T pre W o o', Ix c T pre W → W.heap[w.heap.size + 1]? = some o → o.isCells = false → ¬ T (w.heap.size + 1) → Ix c T pre (W.putObj (w.heap.size + 1) o')) (h0 : I K0 [] w)
    (hIc : ∀ T T' pre X W', (∀ j, T j → j < X.heap.size) → (∀ j, T' j → tillT T X W' j) → I T pre X → Chg T X W' → I T' pre W') (hIxc : ∀ c T pre X W', (∀ j, T j → j < X.heap.size) → Ix c T pre X → Chg T X W' → Ix c T pre W') (mk : α → Obj) (a₁ : α → Nat → Act) (hGa : ∀ T pre x X W o, G T pre x X W → G T pre x X (W.alloc o))
    (hassign : ∀ (l : Nat) (x : α) (W : World) (K : Act → World → Prop), K (a₁ x W.heap.size) (W.alloc (mk x)) →
      assign.wpIn (F.inRound l) (n - 1 - 1) P (Exit.then K (fun _ _ _ => False)) { tmps := (ps.zip (encs x)).foldl (fun t (p, v) => t.setIfInBounds p v) a.tmps, defers := [] } W)
    (hbody : ∀ (l b : Nat) (T : Nat → Prop) (pre : List α) (x : α) (X W0 W : World), l = w.heap.size + 1 → b = W0.heap.size → l < b → W.heap[b]? = some (mk x) → (∃ r, W.heap[l]? = some (.loop r)) → (∀ j, T j → j < b) → ¬ T l → I T pre W0 → Chg (fun j => j = l) W0 W → b < W.heap.size → G T pre x X W →
      body.wpIn (F.inRound l) (n - 1 - 1) P (ownPostT w.heap.size l (KpS fun j => T j ∨ Kr j) (I T) (fun c p W' => Ix c T p W' ∧ KpS (fun j => T j ∨ Kr j) W W') (pre ++ [x]) W) (a₁ x b) W)
    (hdone : ∀ (D : Nat) (T : Nat → Prop) (xs : List α) (W : World), D = w.heap.size → D + 1 < W.heap.size → S xs W → (∀ j, T j → j < W.heap.size) → ¬ T D → I T xs W → W.heap[D]? = some (.deferred (some [])) → Q .normal { a with defers := { target := .collected D, args := #[] } :: a.defers } W)
    (hstop : ∀ (D : Nat) (c : Code) (T : Nat → Prop) (pre : List α) (W : World), D = w.heap.size → Sp pre W → (∀ j, T j → j < W.heap.size) → ¬ T D → Ix c T pre W → W.heap[D]? = some (.deferred (some [])) → c.wpIn F n P Q { a with defers := { target := .collected D, args := #[] } :: a.defers } W) :
    (Code.rangeFunc g ps assign body).wpIn F n P Q a w := by
  refine wpIn_rangeFunc fun fn hfn => ?_
  rw [hro]
  obtain ⟨r0, hr0⟩ : ∃ r0 : Loop, r0 = { state := .ready, pending := none, fn, tmps := a.tmps, params := ps, assign, body, defers := w.heap.size } := ⟨_, rfl⟩
  obtain ⟨W1, hW1⟩ : ∃ W1, W1 = (w.alloc (.deferred (some []))).alloc (.loop r0) := ⟨_, rfl⟩
  have hL1 : W1.heap[w.heap.size + 1]? = some (.loop r0) := by
    have h := World.alloc_heap_new (w.alloc (.deferred (some []))) (.loop r0)
    rw [World.size_alloc] at h
    rw [hW1]; exact h
  have hD1 : W1.heap[w.heap.size]? = some (.deferred (some [])) := by
    rw [hW1, Below.heap_alloc _ _ _ (by simp)]; exact World.alloc_heap_new w _
  have hI1 : I K0 [] W1 := by rw [hW1]; exact hIa _ _ _ _ (hIa _ _ _ _ h0)
  have hnl : ¬ K0 (w.heap.size + 1) := fun e => by have := hK0 _ e; omega
  have hnd : ¬ K0 w.heap.size := fun e => by have := hK0 _ e; omega
  have hbw : Below w0.heap.size w0 W1 := by
    rw [hW1]; exact (hb0.alloc hb0.size _).alloc (by simp; exact Nat.le_succ_of_le hb0.size) _
  refine ⟨w.heap.size + 1, [{ target := .collected w.heap.size, args := #[] }], W1, { target := .fn (.func gf) lb, args := #[.func (.yield (w.heap.size + 1)) #[] #[]] }, W1, gf, #[.func (.yield (w.heap.size + 1)) #[] #[]] ++ lb, W1, ?_, ?_, ?_, ?_, fun _ => h1, ?_⟩
  · rw [hW1, hr0]; exact run_enterLoop_outer _ _ _ _ _
  · simp only [resolve, hg]
    simp [go_sem]
  · intro f' hf'
    simp [Target.leads] at hf'
    subst hf'
    exact hFg
  · simp [invoke, go_sem, eg]
  refine (hseq (w.heap.size + 1) (fun T pre X => I T pre X ∧ (¬ T (w.heap.size + 1) ∧ ¬ T w.heap.size) ∧ X.heap[w.heap.size + 1]? = some (.loop r0) ∧ X.heap[w.heap.size]? = some (.deferred (some [])))
    (fun T pre X => ∃ c, Ix c T pre X ∧ (¬ T (w.heap.size + 1) ∧ ¬ T w.heap.size) ∧ X.heap[w.heap.size + 1]? = some (.loop { r0 with state := .done, pending := some c }) ∧ X.heap[w.heap.size]? = some (.deferred (some []))) W1 hbw hnl (Array.getElem?_eq_some_iff.1 hL1).1 ?_ ⟨hI1, ⟨hnl, hnd⟩, hL1, hD1⟩).mono ?_
  · rintro T T1 pre x X W ⟨hi, ⟨hTl, hTd⟩, hl, hd⟩ hXW hTX hTT hTu hGx
    have hlX : w.heap.size + 1 < X.heap.size := (Array.getElem?_eq_some_iff.1 hl).1
    have hlW : W.heap[w.heap.size + 1]? = some (.loop r0) := (hXW.block _ hlX hTl).trans hl
    have hdW : W.heap[w.heap.size]? = some (.deferred (some [])) := (hXW.block _ (by omega) hTd).trans hd
    have hlt : w.heap.size + 1 < W.heap.size := (Array.getElem?_eq_some_iff.1 hlW).1
    have hi := hIc T T1 pre X W hTX hTu hi hXW
    have hTl : ¬ T1 (w.heap.size + 1) := fun e => tillT_not (W := W) hTl hlX (hTu _ e)
    have hTd : ¬ T1 w.heap.size := fun e => tillT_not (W := W) hTd (show w.heap.size < X.heap.size by omega) (hTu _ e)
    have hTX : ∀ j, T1 j → j < W.heap.size := fun j e => tillT_lt (W := W) hTX hXW.size j (hTu j e)
    clear hTT hTu
    have hy := run_yield (P := P) (args := encs x) hlW (by rw [hr0]; exact hps x)
    rw [hr0] at hy
    obtain ⟨Wa, hWa⟩ : ∃ Wa, Wa = W.alloc (mk x) := ⟨_, rfl⟩
    have hlWa : Wa.heap[w.heap.size + 1]? = some (.loop r0) := by rw [hWa, Below.heap_alloc _ _ _ hlt]; exact hlW
    have hdWa : Wa.heap[w.heap.size]? = some (.deferred (some [])) := by rw [hWa, Below.heap_alloc _ _ _ (by omega)]; exact hdW
    have hboxa : Wa.heap[W.heap.size]? = some (mk x) := by rw [hWa]; exact World.alloc_heap_new W _
    have hka : KpS (fun j => T1 j ∨ Kr j) W Wa := by rw [hWa]; exact kpS_new _ _ _
    have hcwa : Chg (fun j => j = w.heap.size + 1) W Wa := by rw [hWa]; exact (Chg.refl _ _).alloc _
    have hszb : Wa.heap.size = W.heap.size + 1 := by rw [hWa]; simp
    have hGax : G T1 pre x X Wa := by rw [hWa]; exact hGa _ _ _ _ _ _ hGx
    have hsza : Wa.heap.size = W.heap.size + 1 := by rw [hWa]; simp
    obtain ⟨bb, hbb⟩ : ∃ bb, bb = W.heap.size := ⟨_, rfl⟩
    refine ⟨fn, _, assign, body, hy, roundIn_of_wpIn hfn (hassign _ x W _ ?_)⟩
    rw [← hWa, ← hbb]
    refine ⟨_, run_beginRound hlWa (by rw [hr0]), ?_⟩
    have hTb : ∀ j, T1 j → j < bb := by rw [hbb]; exact hTX
    have hlb : w.heap.size + 1 < bb := by rw [hbb]; exact hlt
    rw [← hbb] at hboxa
    clear hWa hlW hdW hGx hXW hlt hy hsza hTX
    have hlt : w.heap.size + 1 < Wa.heap.size := (Array.getElem?_eq_some_iff.1 hlWa).1
    obtain ⟨rb, hrb⟩ : ∃ rb : Loop, rb = { r0 with state := .busy } := ⟨_, rfl⟩
    rw [← hrb]
    obtain ⟨W2, hW2⟩ : ∃ W2, W2 = Wa.putObj (w.heap.size + 1) (.loop rb) := ⟨_, rfl⟩
    rw [← hW2]
    have hl2 : W2.heap[w.heap.size + 1]? = some (.loop rb) := by rw [hW2]; exact World.putObj_heap_same hlt
    have hd2 : W2.heap[w.heap.size]? = some (.deferred (some [])) := by rw [hW2]; exact (World.putObj_heap_other (by omega)).trans hdWa
    have hTk : ¬ (T1 (w.heap.size + 1) ∨ Kr (w.heap.size + 1)) := fun e => by
      rcases e with e | e
      · exact hTl e
      · have := hKr _ e; omega
    have hk2 : KpS (fun j => T1 j ∨ Kr j) Wa W2 := by rw [hW2]; exact kpS_put hTk _
    have hcw2 : Chg (fun j => j = w.heap.size + 1) W W2 := by
      rw [hW2]
      exact ⟨hcwa.os, hcwa.tape, hcwa.output, by simp; exact hcwa.size, fun k hk hne => (World.putObj_heap_other hne).trans (hcwa.block k hk hne)⟩
    refine wpIn_mono (hbody _ bb T1 pre x X W W2 rfl hbb (by omega) (by rw [hW2]; exact (World.putObj_heap_other (by omega)).trans hboxa) ⟨_, hl2⟩ hTb hTl hi hcw2 (by rw [hW2]; simp; omega) (by rw [hW2]; exact hG _ _ _ _ _ _ _ _ (by omega) hlWa rfl hGax)) ?_
    -- how a round ends
    have fin : ∀ (jump : Option Code) (W3 : World), (W3.heap[w.heap.size + 1]? = W2.heap[w.heap.size + 1]? ∧ W3.heap[w.heap.size]? = W2.heap[w.heap.size]?) → W3.heap[w.heap.size + 1]? = some (.loop rb) ∧
        (Instr.endRound (w.heap.size + 1) jump).run P W3 = .ok (.bool jump.isNone) (W3.putObj (w.heap.size + 1) (.loop { r0 with state := if jump.isNone then .ready else .done, pending := jump })) ∧
        (W3.putObj (w.heap.size + 1) (.loop { r0 with state := if jump.isNone then .ready else .done, pending := jump })).heap[w.heap.size + 1]? = some (.loop { r0 with state := if jump.isNone then .ready else .done, pending := jump }) ∧
        (W3.putObj (w.heap.size + 1) (.loop { r0 with state := if jump.isNone then .ready else .done, pending := jump })).heap[w.heap.size]? = some (.deferred (some [])) := fun jump W3 hk => by
      have e1 := hk.1.trans hl2
      have e2 := hk.2.trans hd2
      have e3 := run_endRound (P := P) jump e1
      rw [hrb] at e3
      exact ⟨e1, e3, World.putObj_heap_same (Array.getElem?_eq_some_iff.1 e1).1, (World.putObj_heap_other (by omega)).trans e2⟩
    have hrr : ({ r0 with state := .ready, pending := none } : Loop) = r0 := by rw [hr0]
    intro e a3 W3 hp
    cases e with
    | normal =>
      obtain ⟨hk3, hkp3, hi3⟩ := hp
      obtain ⟨e1, e2, e3, e4⟩ := fin none W3 hk3
      have e5 : (W3.putObj (w.heap.size + 1) (.loop { r0 with state := if (none : Option Code).isNone then .ready else .done, pending := none })).heap[w.heap.size + 1]? = some (.loop r0) := e3.trans (by
        show some (Obj.loop { r0 with state := .ready, pending := none }) = _
        rw [hrr])
      exact ⟨_, _, e2, kpS_t hka (kpS_t hk2 (kpS_t hkp3 (kpS_put hTk _))), .inl ⟨rfl, hIp _ _ _ _ _ hi3 e1 rfl hTl, ⟨hTl, hTd⟩, e5, e4⟩⟩
    | ret =>
      obtain ⟨hk3, hi3, hkp3⟩ := hp
      obtain ⟨e1, e2, e3, e4⟩ := fin (some .ret) W3 hk3
      exact ⟨_, _, e2, kpS_t hka (kpS_t hk2 (kpS_t hkp3 (kpS_put hTk _))), .inr ⟨rfl, _, hIxp _ _ _ _ _ _ hi3 e1 rfl hTl, ⟨hTl, hTd⟩, e3, e4⟩⟩
    | exit id =>
      obtain ⟨hk3, hi3, hkp3⟩ := hp
      obtain ⟨e1, e2, e3, e4⟩ := fin (some (.exit id)) W3 hk3
      exact ⟨_, _, e2, kpS_t hka (kpS_t hk2 (kpS_t hkp3 (kpS_put hTk _))), .inr ⟨rfl, _, hIxp _ _ _ _ _ _ hi3 e1 rfl hTl, ⟨hTl, hTd⟩, e3, e4⟩⟩
    | goto t =>
      obtain ⟨hk3, hi3, hkp3⟩ := hp
      obtain ⟨e1, e2, e3, e4⟩ := fin (some (.goto t)) W3 hk3
      exact ⟨_, _, e2, kpS_t hka (kpS_t hk2 (kpS_t hkp3 (kpS_put hTk _))), .inr ⟨rfl, _, hIxp _ _ _ _ _ _ hi3 e1 rfl hTl, ⟨hTl, hTd⟩, e3, e4⟩⟩
    | panic ch => exact hp.elim
    | outgrown => exact hp.elim
  · rintro e W' ⟨⟨v, rfl⟩, (⟨T, xs, X, hTX, hSx, ⟨hi, ⟨hTl, hTd⟩, hl, hd⟩, hb⟩ | ⟨T, pre, X, hTX, hSpx, ⟨c, hi, ⟨hTl, hTd⟩, hl, hd⟩, hb⟩)⟩
    · have hlX : w.heap.size + 1 < X.heap.size := (Array.getElem?_eq_some_iff.1 hl).1
      have hl' := (hb.block _ hlX hTl).trans hl
      have hd' := (hb.block w.heap.size (by omega) hTd).trans hd
      have e := run_endLoop (P := P) hl' (by rw [hr0]; simp)
      have hp0 : r0.pending = none := by rw [hr0]
      rw [hp0] at e
      exact ⟨none, _, e, hdone _ T xs _ rfl (by simp; exact (Array.getElem?_eq_some_iff.1 hl').1) (hS _ _ _ _ _ (by omega) hl' rfl hSx) (fun j hj => by simp; exact Nat.lt_of_lt_of_le (hTX j hj) hb.size) hTd (hIp _ _ _ _ _ (hIc T T xs X W' hTX (fun _ => .inl) hi hb) hl' rfl hTl) ((World.putObj_heap_other (by omega)).trans hd')⟩
    · have hlX : w.heap.size + 1 < X.heap.size := (Array.getElem?_eq_some_iff.1 hl).1
      have hl' := (hb.block _ hlX hTl).trans hl
      have hd' := (hb.block w.heap.size (by omega) hTd).trans hd
      have e := run_endLoop (P := P) hl' (by simp)
      exact ⟨some c, _, e, hstop _ c T pre _ rfl (hSp _ _ _ _ _ (by omega) hl' rfl hSpx) (fun j hj => by simp; exact Nat.lt_of_lt_of_le (hTX j hj) hb.size) hTd (hIxp _ _ _ _ _ _ (hIxc c T pre X W' hTX hi hb) hl' rfl hTl) ((World.putObj_heap_other (by omega)).trans hd')⟩


end Go.Proofs.Ytbafjkanbbcbgaa

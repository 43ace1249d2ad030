/- Over's walk: where it stands between two pairs. -/
import Derived.Test.YtbafjkanbbcbgaaXv4
namespace Go.Proofs.Ytbafjkanbbcbgaa
open Go.RowKit Go.Maps Go.Shelf

/-- What a walk of Over leans on. -/
def K0v (F : Nat → Prop) (B : Nat) (KU : Nat → Prop) (j : Nat) : Prop := F j ∨ (B ≤ j ∧ j < B + 4) ∨ KU j
/-- What is known of a pair that it hands over; when it is done; when it was left. -/
structure GO (K0 : Nat → Prop) (A : Nat → World → Prop) (L : List (Pw × Nat)) (us : List Pn) (T : Nat → Prop) (pre : List Pn) (x : Pn) (X W : World) : Prop where
  at_ : ∃ n, L[pre.length]? = some (prU x, n) ∧ A n W
  says : saysP pre = (L.take pre.length).map (·.1)
  val : x ∈ us ∨ (OwnB W X.heap.size (.slice x.a x.z.length x.c) x.z ∧ ∀ j, (Value.slice x.a x.z.length x.c).ownBlock = some j → ¬ T j)
  k0 : ∀ j, K0 j → T j
def SO (A : Nat → World → Prop) (L : List (Pw × Nat)) (us : List Pn) (xs : List Pn) (W : World) : Prop := saysP xs = L.map (·.1) ∧ A us.length W
def PO (A : Nat → World → Prop) (L : List (Pw × Nat)) (pre : List Pn) (W : World) : Prop := ∃ n x, pre ≠ [] ∧ saysP pre = (L.take pre.length).map (·.1) ∧ L[pre.length - 1]? = some (x, n) ∧ A n W
/-- The walk's own blocks. -/
def OwnO (Yb b6 b7 : Nat) (mc g : Option Nat) (j : Nat) : Prop := j = Yb ∨ j = b6 ∨ j = b7 ∨ mc = some j ∨ g = some j
/-- What they hold: i puts are gone. -/
structure OCt (F : Nat → Prop) (M : List Vn) (l Yb b6 b7 : Nat) (mc g : Option Nat) (zs : List Vn) (i : Nat) (a : Option Addr) (n c : Nat) (w : World) : Prop where
  yb : Boxed w Yb 83 (.func (.yield l) #[] #[])
  x6 : Boxed w b6 30 (.map mc)
  x7 : Boxed w b7 27 (.slice a n c)
  cp : CopyW w mc M
  ow : OwV w 0 (.slice a n c) (zs.drop i)
  gb : ∀ j, (Value.slice a n c).ownBlock = some j → g = some j
  vl : ∀ y ∈ zs, ValF w F y ∧ y ∈ M
theorem OCt.keep {F : Nat → Prop} {M : List Vn} {l Yb b6 b7 : Nat} {mc g : Option Nat} {zs : List Vn} {i : Nat} {a : Option Addr} {n c : Nat} {w w' : World} (h : OCt F M l Yb b6 b7 mc g zs i a n c w)
    (hk : ∀ j, OwnO Yb b6 b7 mc g j → j < w.heap.size → w'.heap[j]? = w.heap[j]?) (hF : ∀ j, F j → j < w.heap.size → w'.heap[j]? = w.heap[j]?) : OCt F M l Yb b6 b7 mc g zs i a n c w' :=
  ⟨(hk _ (.inl rfl) h.yb.lt).trans h.yb, (hk _ (.inr (.inl rfl)) h.x6.lt).trans h.x6, (hk _ (.inr (.inr (.inl rfl))) h.x7.lt).trans h.x7, h.cp.keep fun b e => hk b (.inr (.inr (.inr (.inl e)))) (h.cp.2.1 b e).lt,
   OwnS.keep h.ow fun j hj => hk j (.inr (.inr (.inr (.inr (h.gb j hj))))) (OwnS.inside h.ow j hj).2, h.gb, fun y hy => ⟨⟨(h.vl y hy).1.b.hold fun j hj => hF j ((h.vl y hy).1.f j hj) ((h.vl y hy).1.b.inside j hj), (h.vl y hy).1.f⟩, (h.vl y hy).2⟩⟩

/-- Where it stands: k pairs were asked for, i puts are gone. -/
structure OSt (J : (Nat → Prop) → List Pn → World → Prop) (K0 Kr Ex : Nat → Prop) (L : List (Pw × Nat)) (wr : List UInt8 → Bool) (us : List Pn) (F : Nat → Prop) (M : List Vn) (l Yb b6 b7 l2 : Nat) (mc g : Option Nat) (zs : List Vn) (k i i2 : Nat) (a : Option Addr) (n c : Nat) (T : Nat → Prop) (pre : List Pn) (X w : World) : Prop where
  j : J T pre X
  ch : Chg T X w
  b : ∀ j, T j → j < X.heap.size
  k0 : ∀ j, K0 j → T j
  kr : ∀ j, Kr j → j < X.heap.size
  own : ∀ j, OwnO Yb b6 b7 mc g j ∨ Ex j → tillT T X w j
  l2 : ∀ j, (j = l2 ∨ j + 1 = l2) → X.heap.size ≤ j ∨ T j
  ct : OCt F M l Yb b6 b7 mc g zs i a n c w
  ln : n = zs.length - i
  inv : ∃ tg : List (Pw × Nat), tg.map (·.1) = saysP pre ∧ tg ++ ovT wr k ((zs.drop i2).map prX) ((us.map prU).drop k) = L

section
variable {J Jx : (Nat → Prop) → List Pn → World → Prop} {K0 Kr Ex : Nat → Prop} {L : List (Pw × Nat)} {wr : List UInt8 → Bool} {us : List Pn} {F : Nat → Prop} {M : List Vn} {l Yb b6 b7 l2 : Nat} {mc g : Option Nat} {zs : List Vn} {k i i2 : Nat} {a : Option Addr} {n c : Nat} {T : Nat → Prop} {pre : List Pn} {X w : World}
/-- What was told is a beginning. -/
theorem OSt.says (h : OSt J K0 Kr Ex L wr us F M l Yb b6 b7 l2 mc g zs k i i2 a n c T pre X w) : saysP pre = (L.take pre.length).map (·.1) ∧ L.drop pre.length = ovT wr k ((zs.drop i2).map prX) ((us.map prU).drop k) := by
  obtain ⟨tg, h1, h2⟩ := h.inv
  have hl : tg.length = pre.length := by have := congrArg List.length h1; unfold saysP at this; simpa using this
  rw [← h2, ← hl, List.take_left, List.drop_left]
  exact ⟨h1.symm, rfl⟩
/-- New memory and what was written of one's own: it stands. -/
theorem OSt.chg (h : OSt J K0 Kr Ex L wr us F M l Yb b6 b7 l2 mc g zs k i i2 a n c T pre X w) {w' : World} {S : Nat → Prop} (hc : Chg S w w') (hS : ∀ j, S j → ¬ OwnO Yb b6 b7 mc g j ∧ ¬ F j) (hT : ∀ j, S j → tillT T X w j) : OSt J K0 Kr Ex L wr us F M l Yb b6 b7 l2 mc g zs k i i2 a n c T pre X w' :=
  ⟨h.j, h.ch.trans hc fun j hj e => by
      rcases hT j e with h1 | h1
      · exact h1
      · omega, h.b, h.k0, h.kr, fun j hj => (h.own j hj).imp id fun e => ⟨e.1, Nat.lt_of_lt_of_le e.2 hc.size⟩, h.l2, h.ct.keep (fun j ho hj => hc.block j hj fun e => (hS j e).1 ho) (fun j ho hj => hc.block j hj fun e => (hS j e).2 ho), h.ln, h.inv⟩
theorem OSt.below (h : OSt J K0 Kr Ex L wr us F M l Yb b6 b7 l2 mc g zs k i i2 a n c T pre X w) {w' : World} (hb : Below w.heap.size w w') : OSt J K0 Kr Ex L wr us F M l Yb b6 b7 l2 mc g zs k i i2 a n c T pre X w' :=
  h.chg (S := fun _ => False) (Chg.new hb) (fun _ e => e.elim) (fun _ e => e.elim)
/-- One pair handed over. -/
theorem OSt.yield (h : OSt J K0 Kr Ex L wr us F M l Yb b6 b7 l2 mc g zs k i i2 a n c T pre X w) {m : Nat} {A : Nat → World → Prop}
    (hY : ∀ T T' pre x X W1, J T pre X → Chg T X W1 → (∀ j, T j → j < X.heap.size) → (∀ j, T j → T' j) → (∀ j, T' j → tillT T X W1 j) → GO K0 A L us T' pre x X W1 → YieldAt Fence.wide (m - 1) Try.prog l #[prV x] W1 fun e W' =>
      KpS (fun j => T' j ∨ Kr j) W1 W' ∧ ((e = .returned (.bool true) ∧ J T' (pre ++ [x]) W') ∨ (e = .returned (.bool false) ∧ Jx T' (pre ++ [x]) W')))
    (x : Pn) (t : Nat) (ht : L[pre.length]? = some (prU x, t)) (hA : A t w) (vb : Option Nat) (hval : (x ∈ us ∧ vb = none) ∨ (OwnB w X.heap.size (.slice x.a x.z.length x.c) x.z ∧ vb = (Value.slice x.a x.z.length x.c).ownBlock))
    (hvb : ∀ j, vb = some j → ¬ OwnO Yb b6 b7 mc g j ∧ ¬ Ex j ∧ j ≠ l2 ∧ j + 1 ≠ l2) :
    YieldAt Fence.wide (m - 1) Try.prog l #[prV x] w fun e W' => ∃ (b : Bool) (T' : Nat → Prop), e = .returned (.bool b) ∧ w.heap.size ≤ W'.heap.size ∧ (∀ j, OwnO Yb b6 b7 mc g j ∨ Ex j ∨ K0 j ∨ Kr j → j < w.heap.size → W'.heap[j]? = w.heap[j]?) ∧ (∀ j, T' j → j < W'.heap.size) ∧ (∀ j, K0 j → T' j) ∧ (∀ j, OwnO Yb b6 b7 mc g j ∨ Ex j → T' j) ∧ (∀ j, T' j → tillT T X w j) ∧ (∀ j, tillT T X w j → vb ≠ some j → T' j) ∧ (∀ j, (j = l2 ∨ j + 1 = l2) → w.heap.size ≤ j ∨ T' j) ∧ (b = true → J T' (pre ++ [x]) W') ∧ (b = false → Jx T' (pre ++ [x]) W') := by
  obtain ⟨T', hT'⟩ : ∃ T' : Nat → Prop, T' = fun j => tillT T X w j ∧ vb ≠ some j := ⟨_, rfl⟩
  have hvX : ∀ j, vb = some j → X.heap.size ≤ j := fun j e => by
    rcases hval with ⟨_, h2⟩ | ⟨h1, h2⟩
    · rw [h2] at e; cases e
    · rw [h2] at e; exact h1.ge e
  have h1 : ∀ j, T j → T' j := fun j hj => by
    rw [hT']; exact ⟨.inl hj, fun e => by have := hvX j e; have := h.b j hj; omega⟩
  have h2 : ∀ j, T' j → tillT T X w j := fun j hj => by rw [hT'] at hj; exact hj.1
  have h3 : ∀ j, OwnO Yb b6 b7 mc g j ∨ Ex j → T' j := fun j hj => by
    rw [hT']
    refine ⟨h.own j hj, fun e => ?_⟩
    rcases hj with hj | hj
    · exact (hvb j e).1 hj
    · exact (hvb j e).2.1 hj
  refine (hY T T' pre x X w h.j h.ch h.b h1 h2 ⟨⟨t, ht, hA⟩, h.says.1, ?_, fun j hj => h1 j (h.k0 j hj)⟩).mono ?_
  · rcases hval with ⟨h4, _⟩ | ⟨h4, h5⟩
    · exact .inl h4
    · exact .inr ⟨h4, fun j hj hT => by rw [hT'] at hT; exact hT.2 (h5.trans hj)⟩
  · rintro e W' ⟨hk, hJ⟩
    have hT'l : ∀ j, T' j → j < w.heap.size := fun j hj => tillT_lt h.b h.ch.size j (h2 j hj)
    have same : ∀ j, T' j → W'.heap[j]? = w.heap[j]? := fun j hj => by
      have := hT'l j hj
      rw [Array.getElem?_eq_getElem this]
      exact hk.block j _ (.inl hj) (Array.getElem?_eq_getElem this)
    have hl2 : ∀ j, (j = l2 ∨ j + 1 = l2) → w.heap.size ≤ j ∨ T' j := fun j hj => by
      rcases Nat.lt_or_ge j w.heap.size with h5 | h5
      · refine .inr ?_
        rw [hT']
        refine ⟨?_, fun e => ?_⟩
        · rcases h.l2 j hj with h6 | h6
          · exact .inr ⟨h6, h5⟩
          · exact .inl h6
        · obtain ⟨_, _, h7, h8⟩ := hvb j e
          rcases hj with h9 | h9
          · exact h7 h9
          · exact h8 h9
      · exact .inl h5
    have rest : w.heap.size ≤ W'.heap.size ∧ (∀ j, OwnO Yb b6 b7 mc g j ∨ Ex j ∨ K0 j ∨ Kr j → j < w.heap.size → W'.heap[j]? = w.heap[j]?) ∧ (∀ j, T' j → j < W'.heap.size) ∧ (∀ j, K0 j → T' j) ∧ (∀ j, OwnO Yb b6 b7 mc g j ∨ Ex j → T' j) ∧ (∀ j, T' j → tillT T X w j) ∧ (∀ j, tillT T X w j → vb ≠ some j → T' j) ∧ (∀ j, (j = l2 ∨ j + 1 = l2) → w.heap.size ≤ j ∨ T' j) :=
      ⟨hk.size, fun j hj hjl => by
          rcases hj with hj | hj | hj | hj
          · exact same j (h3 j (.inl hj))
          · exact same j (h3 j (.inr hj))
          · exact same j (h1 j (h.k0 j hj))
          · rw [Array.getElem?_eq_getElem hjl]
            exact hk.block j _ (.inr hj) (Array.getElem?_eq_getElem hjl), fun j hj => Nat.lt_of_lt_of_le (hT'l j hj) hk.size, fun j hj => h1 j (h.k0 j hj), h3, h2, fun j hj hv => by rw [hT']; exact ⟨hj, hv⟩, hl2⟩
    obtain ⟨r1, r2, r3, r4, r5, r6, r7, r8⟩ := rest
    rcases hJ with ⟨rfl, hj⟩ | ⟨rfl, hj⟩
    · exact ⟨true, T', rfl, r1, r2, r3, r4, r5, r6, r7, r8, (fun _ => hj), (fun e => by cases e)⟩
    · exact ⟨false, T', rfl, r1, r2, r3, r4, r5, r6, r7, r8, (fun e => by cases e), (fun _ => hj)⟩
end

/-- Where it stands between two pairs that it asked for; where it was left. -/
def OI (J : (Nat → Prop) → List Pn → World → Prop) (K0 Kr : Nat → Prop) (L : List (Pw × Nat)) (wr : List UInt8 → Bool) (us : List Pn) (F : Nat → Prop) (M : List Vn) (l Yb b6 b7 l2 : Nat) (mc g : Option Nat) (zs : List Vn) (Ti : Nat → Prop) (prei : List Pn) (Xi : World) : Prop :=
  ∃ T X pre i a n c, OSt J K0 Kr (fun _ => False) L wr us F M l Yb b6 b7 l2 mc g zs prei.length i i a n c T pre X Xi ∧ (∀ j, Ti j → tillT T X Xi j) ∧ (∀ j, OwnO Yb b6 b7 mc g j → ¬ Ti j) ∧ ∀ j, F j → ¬ Ti j
structure OXs (Jx : (Nat → Prop) → List Pn → World → Prop) (L : List (Pw × Nat)) (l2 : Nat) (Ti T : Nat → Prop) (k : Nat) (pre : List Pn) (X W : World) : Prop where
  j : Jx T pre X
  ch : Chg T X W
  b : ∀ j, T j → j < X.heap.size
  l2 : ∀ j, (j = l2 ∨ j + 1 = l2) → X.heap.size ≤ j ∨ T j
  ti : ∀ j, Ti j → tillT T X W j
  ne : pre ≠ []
  says : saysP pre = (L.take pre.length).map (·.1)
  at_ : ∃ y, L[pre.length - 1]? = some (y, k)
def OX (Jx : (Nat → Prop) → List Pn → World → Prop) (L : List (Pw × Nat)) (l2 : Nat) (c : Code) (Ti : Nat → Prop) (prei : List Pn) (W : World) : Prop := c = .ret ∧ ∃ T X pre, OXs Jx L l2 Ti T prei.length pre X W
theorem OXs.chg {Jx : (Nat → Prop) → List Pn → World → Prop} {L : List (Pw × Nat)} {l2 : Nat} {Ti T : Nat → Prop} {k : Nat} {pre : List Pn} {X W W' : World} (h : OXs Jx L l2 Ti T k pre X W) {S : Nat → Prop} (hc : Chg S W W') (hS : ∀ j, S j → j < W.heap.size → tillT T X W j) : OXs Jx L l2 Ti T k pre X W' :=
  ⟨h.j, h.ch.trans hc fun j hj e => by
      have := h.ch.size
      rcases hS j e (by omega) with h1 | h1
      · exact h1
      · omega, h.b, h.l2, fun j hj => (h.ti j hj).imp id fun e => ⟨e.1, Nat.lt_of_lt_of_le e.2 hc.size⟩, h.ne, h.says, h.at_⟩
theorem chg_put {W : World} (l : Nat) (o : Obj) : Chg (fun j => j = l) W (W.putObj l o) := ⟨rfl, rfl, rfl, by simp, fun _ _ hne => World.putObj_heap_other hne⟩

section
variable {J Jx : (Nat → Prop) → List Pn → World → Prop} {K0 Kr : Nat → Prop} {L : List (Pw × Nat)} {wr : List UInt8 → Bool} {us : List Pn} {F : Nat → Prop} {M : List Vn} {l Yb b6 b7 l2 : Nat} {mc g : Option Nat} {zs : List Vn} {Ti Ti' : Nat → Prop} {prei : List Pn} {Xi W' : World}
theorem OI.alloc (h : OI J K0 Kr L wr us F M l Yb b6 b7 l2 mc g zs Ti prei Xi) (o : Obj) : OI J K0 Kr L wr us F M l Yb b6 b7 l2 mc g zs Ti prei (Xi.alloc o) := by
  obtain ⟨T, X, pre, i, a, n, c, h1, h2, h3, h4⟩ := h
  exact ⟨T, X, pre, i, a, n, c, h1.below ((Below.refl _ _).alloc (Nat.le_refl _) _), fun j hj => (h2 j hj).imp id fun e => ⟨e.1, by have := e.2; simp; omega⟩, h3, h4⟩
theorem OI.chg (h : OI J K0 Kr L wr us F M l Yb b6 b7 l2 mc g zs Ti prei Xi) (_hb : ∀ j, Ti j → j < Xi.heap.size) (ht : ∀ j, Ti' j → tillT Ti Xi W' j) (hc : Chg Ti Xi W') (hF : ∀ j, F j → Kr j) : OI J K0 Kr L wr us F M l Yb b6 b7 l2 mc g zs Ti' prei W' := by
  obtain ⟨T, X, pre, i, a, n, c, h1, h2, h3, h4⟩ := h
  have hz := h1.ch.size
  have h5 : ∀ j, OwnO Yb b6 b7 mc g j → j < Xi.heap.size := fun j hj => by
    rcases h1.own j (.inl hj) with h6 | h6
    · have := h1.b j h6; omega
    · exact h6.2
  refine ⟨T, X, pre, i, a, n, c, h1.chg hc (fun j hj => ⟨fun e => h3 j e hj, fun e => h4 j e hj⟩) h2, fun j hj => ?_, fun j hj e => ?_, fun j hj e => ?_⟩
  · rcases ht j hj with h6 | h6
    · exact (h2 j h6).imp id fun e => ⟨e.1, Nat.lt_of_lt_of_le e.2 hc.size⟩
    · exact .inr ⟨by omega, h6.2⟩
  · rcases ht j e with h6 | h6
    · exact h3 j hj h6
    · have := h5 j hj; omega
  · rcases ht j e with h6 | h6
    · exact h4 j hj h6
    · have := h1.kr j (hF j hj); omega
theorem OI.put (h : OI J K0 Kr L wr us F M l Yb b6 b7 l2 mc g zs Ti prei Xi) {o : Obj} (hl : Xi.heap[l2]? = some o) (o' : Obj) (hO : ∀ j, OwnO Yb b6 b7 mc g j → j < l2) (hF : ∀ j, F j → j < l2) : OI J K0 Kr L wr us F M l Yb b6 b7 l2 mc g zs Ti prei (Xi.putObj l2 o') := by
  obtain ⟨T, X, pre, i, a, n, c, h1, h2, h3, h4⟩ := h
  have hll := (Array.getElem?_eq_some_iff.1 hl).1
  refine ⟨T, X, pre, i, a, n, c, h1.chg (chg_put l2 o') (fun j hj => ⟨fun e => by have := hO j e; omega, fun e => by have := hF j e; omega⟩) fun j hj => ?_, fun j hj => (h2 j hj).imp id fun e => ⟨e.1, by simpa using e.2⟩, h3, h4⟩
  subst hj
  rcases h1.l2 j (.inl rfl) with h5 | h5
  · exact .inr ⟨h5, hll⟩
  · exact .inl h5
end

end Go.Proofs.Ytbafjkanbbcbgaa

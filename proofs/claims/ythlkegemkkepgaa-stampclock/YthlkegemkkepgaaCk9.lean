/- Three clocks of the program and of the document, in two arrays. -/
import Derived.Test.YthlkegemkkepgaaCk4
import Derived.Test.YthlkegemkkepgaaOpenOpr
namespace Go.Proofs.Ythlkegemkkepgaa
open Go.RowKit

/-- One of three otherwise. -/
def put3 {α : Type} (f : Nat → α) (i : Nat) (x : α) (j : Nat) : α := if j = i then x else f j
theorem put3_at {α : Type} (f : Nat → α) (i : Nat) (x : α) : put3 f i x i = x := if_pos rfl
theorem put3_ne {α : Type} (f : Nat → α) {i j : Nat} (x : α) (h : j ≠ i) : put3 f i x j = f j := if_neg h

/-- In block h three pointers, in block q three clocks of the document: the clocks C, the program's in the blocks P. -/
structure Sc (w0 w : World) (h q : Nat) (C : Nat → Ck) (P : Nat → Nat) : Prop where
  hb : ∃ cur, w.heap[h]? = some (.cells cur 25 (0, 0)) ∧ cur.size = 3 ∧ ∀ i, i < 3 → cur[i]? = some (ptrK (C i) (P i))
  qb : ∃ cur, w.heap[q]? = some (.cells cur 28 (0, 0)) ∧ cur.size = 9 ∧ ∀ i, i < 3 → cur[i * 3]? = some (.bool (C i).t) ∧ cur[i * 3 + 1]? = some (.int .i64 (C i).n) ∧ cur[i * 3 + 2]? = some (.int .i64 (C i).k)
  pk : ∀ i, i < 3 → Pk w (P i) (C i)
  ok : ∀ i, i < 3 → CkOk (C i)
  low : ∀ i, i < 3 → (C i).t = true → w0.heap.size ≤ P i
  apart : ∀ i j, i < 3 → j < 3 → i ≠ j → (C i).t = true → (C j).t = true → P i ≠ P j
  hq : w0.heap.size ≤ h ∧ w0.heap.size ≤ q
  bel : Below w0.heap.size w0 w
section
variable {w0 w w' : World} {h q : Nat} {C : Nat → Ck} {P : Nat → Nat}
theorem Sc.lt (s : Sc w0 w h q C P) : h < w.heap.size ∧ q < w.heap.size := by
  obtain ⟨c1, e1, _⟩ := s.hb
  obtain ⟨c2, e2, _⟩ := s.qb
  exact ⟨(Array.getElem?_eq_some_iff.1 e1).1, (Array.getElem?_eq_some_iff.1 e2).1⟩
theorem Sc.below (s : Sc w0 w h q C P) (hb : Below w.heap.size w w') : Sc w0 w' h q C P := by
  obtain ⟨l1, l2⟩ := s.lt
  obtain ⟨c1, e1, r1⟩ := s.hb
  obtain ⟨c2, e2, r2⟩ := s.qb
  exact ⟨⟨c1, (hb.block h l1).trans e1, r1⟩, ⟨c2, (hb.block q l2).trans e2, r2⟩, fun i hi => (s.pk i hi).below hb, s.ok, s.low, s.apart, s.hq, s.bel.trans (hb.mono s.bel.size)⟩
theorem Sc.cells (s : Sc w0 w h q C P) {i : Nat} (hi : i < 3) : w.cell? ⟨h, i, none⟩ = some (ptrK (C i) (P i)) ∧ w.cell? ⟨q, i * 3, none⟩ = some (.bool (C i).t) ∧ w.cell? ⟨q, i * 3 + 1, none⟩ = some (.int .i64 (C i).n) ∧ w.cell? ⟨q, i * 3 + 2, none⟩ = some (.int .i64 (C i).k) ∧ (∀ j, w.frozen? ⟨h, j, none⟩ = false) ∧ (∀ j, w.frozen? ⟨q, j, none⟩ = false) := by
  obtain ⟨c1, e1, _, r1⟩ := s.hb
  obtain ⟨c2, e2, _, r2⟩ := s.qb
  obtain ⟨x0, x1, x2⟩ := r2 i hi
  exact ⟨(cell_of_row _ _ _ _ _ _ e1).trans (r1 i hi), (cell_of_row _ _ _ _ _ _ e2).trans x0, (cell_of_row _ _ _ _ _ _ e2).trans x1, (cell_of_row _ _ _ _ _ _ e2).trans x2, fun _ => frozen_of_row _ _ _ _ _ e1, fun _ => frozen_of_row _ _ _ _ _ e2⟩
/-- The document's clock of the place i is written over by what it is. -/
theorem Sc.putQ0 (sqb : ∃ cur, w.heap[q]? = some (.cells cur 28 (0, 0)) ∧ cur.size = 9 ∧ ∀ i, i < 3 → cur[i * 3]? = some (.bool (C i).t) ∧ cur[i * 3 + 1]? = some (.int .i64 (C i).n) ∧ cur[i * 3 + 2]? = some (.int .i64 (C i).k)) (shq : w0.heap.size ≤ h ∧ w0.heap.size ≤ q) (sbel : Below w0.heap.size w0 w) {i : Nat} (hi : i < 3) (c : Ck) {P' : Nat → Nat}
    (hh : ∃ cur, w.heap[h]? = some (.cells cur 25 (0, 0)) ∧ cur.size = 3 ∧ ∀ j, j < 3 → cur[j]? = some (ptrK (put3 C i c j) (P' j)))
    (pk : ∀ j, j < 3 → Pk w (P' j) (put3 C i c j)) (ok : ∀ j, j < 3 → CkOk (put3 C i c j)) (low : ∀ j, j < 3 → (put3 C i c j).t = true → w0.heap.size ≤ P' j) (apart : ∀ a b, a < 3 → b < 3 → a ≠ b → (put3 C i c a).t = true → (put3 C i c b).t = true → P' a ≠ P' b) :
    Sc w0 (((w.setCell ⟨q, i * 3, none⟩ (.bool c.t)).setCell ⟨q, i * 3 + 1, none⟩ (.int .i64 c.n)).setCell ⟨q, i * 3 + 2, none⟩ (.int .i64 c.k)) h q (put3 C i c) P' := by
  obtain ⟨c1, e1, r1⟩ := hh
  obtain ⟨c2, e2, z2, r2⟩ := sqb
  have hne : h ≠ q := fun e => by rw [e, e2] at e1; cases e1
  have k1 := heap_setCell_same w q (i * 3) _ _ (.bool c.t) e2
  have k2 := heap_setCell_same _ q (i * 3 + 1) _ _ (.int .i64 c.n) k1
  have k3 := heap_setCell_same _ q (i * 3 + 2) _ _ (.int .i64 c.k) k2
  have off : ∀ j, j ≠ q → (((w.setCell ⟨q, i * 3, none⟩ (.bool c.t)).setCell ⟨q, i * 3 + 1, none⟩ (.int .i64 c.n)).setCell ⟨q, i * 3 + 2, none⟩ (.int .i64 c.k)).heap[j]? = w.heap[j]? := fun j hj =>
    (Below.heap_setCell _ _ _ j hj).trans ((Below.heap_setCell _ _ _ j hj).trans (Below.heap_setCell _ _ _ j hj))
  refine ⟨⟨c1, (off h hne).trans e1, r1⟩, ⟨_, k3, by simpa using z2, fun j hj => ?_⟩, fun j hj => ?_, ok, low, apart, shq, ((sbel.setCell (p := ⟨q, i * 3, none⟩) shq.2 _).setCell (p := ⟨q, i * 3 + 1, none⟩) shq.2 _).setCell (p := ⟨q, i * 3 + 2, none⟩) shq.2 _⟩
  · by_cases e : j = i
    · subst e
      rw [put3_at]
      refine ⟨?_, ?_, ?_⟩
      · rw [Array.getElem?_setIfInBounds_ne (by omega), Array.getElem?_setIfInBounds_ne (by omega), Array.getElem?_setIfInBounds_self_of_lt (by omega)]
      · rw [Array.getElem?_setIfInBounds_ne (by omega), Array.getElem?_setIfInBounds_self_of_lt (by simp; omega)]
      · rw [Array.getElem?_setIfInBounds_self_of_lt (by simp; omega)]
    · rw [put3_ne _ _ e]
      obtain ⟨x0, x1, x2⟩ := r2 j hj
      refine ⟨?_, ?_, ?_⟩
      · rw [Array.getElem?_setIfInBounds_ne (by omega), Array.getElem?_setIfInBounds_ne (by omega), Array.getElem?_setIfInBounds_ne (by omega)]; exact x0
      · rw [Array.getElem?_setIfInBounds_ne (by omega), Array.getElem?_setIfInBounds_ne (by omega), Array.getElem?_setIfInBounds_ne (by omega)]; exact x1
      · rw [Array.getElem?_setIfInBounds_ne (by omega), Array.getElem?_setIfInBounds_ne (by omega), Array.getElem?_setIfInBounds_ne (by omega)]; exact x2
  · intro ht
    have e3 := pk j hj ht
    have hjq : P' j ≠ q := fun e => by rw [e, e2] at e3; cases e3
    exact (off _ hjq).trans e3
end

/-- Behind the program's call, ahead of the document's clock being written into its place: the program's clocks are C', the document's C. -/
structure Mid (w0 w : World) (h q : Nat) (C C' : Nat → Ck) (P' : Nat → Nat) : Prop where
  hb : ∃ cur, w.heap[h]? = some (.cells cur 25 (0, 0)) ∧ cur.size = 3 ∧ ∀ i, i < 3 → cur[i]? = some (ptrK (C' i) (P' i))
  qb : ∃ cur, w.heap[q]? = some (.cells cur 28 (0, 0)) ∧ cur.size = 9 ∧ ∀ i, i < 3 → cur[i * 3]? = some (.bool (C i).t) ∧ cur[i * 3 + 1]? = some (.int .i64 (C i).n) ∧ cur[i * 3 + 2]? = some (.int .i64 (C i).k)
  pk : ∀ i, i < 3 → Pk w (P' i) (C' i)
  ok : ∀ i, i < 3 → CkOk (C' i)
  low : ∀ i, i < 3 → (C' i).t = true → w0.heap.size ≤ P' i
  apart : ∀ i j, i < 3 → j < 3 → i ≠ j → (C' i).t = true → (C' j).t = true → P' i ≠ P' j
  hq : w0.heap.size ≤ h ∧ w0.heap.size ≤ q
  bel : Below w0.heap.size w0 w
section
variable {w0 w w' : World} {h q : Nat} {C C' : Nat → Ck} {P P' : Nat → Nat}
theorem Mid.keep (s : Mid w0 w h q C C' P') {F : Nat → Prop} (hc : Chg F w w') (hF : ∀ j, F j → w0.heap.size ≤ j ∧ ∀ (t : TypeId) (cur : Array Value), w.heap[j]? = some (.cells cur t (0, 0)) → t ≠ 25 ∧ t ≠ 28 ∧ t ≠ 59) : Mid w0 w' h q C C' P' := by
  obtain ⟨c1, e1, r1⟩ := s.hb
  obtain ⟨c2, e2, r2⟩ := s.qb
  refine ⟨⟨c1, (hc.block h (Array.getElem?_eq_some_iff.1 e1).1 (fun x => ((hF h x).2 _ _ e1).1 rfl)).trans e1, r1⟩, ⟨c2, (hc.block q (Array.getElem?_eq_some_iff.1 e2).1 (fun x => ((hF q x).2 _ _ e2).2.1 rfl)).trans e2, r2⟩, fun i hi ht => ?_, s.ok, s.low, s.apart, s.hq, s.bel.trans (hc.below (fun k hk => (hF k hk).1) s.bel.size)⟩
  have e3 := s.pk i hi ht
  exact (hc.block _ (Array.getElem?_eq_some_iff.1 e3).1 (fun x => ((hF _ x).2 _ _ e3).2.2 rfl)).trans e3
theorem Mid.below (s : Mid w0 w h q C C' P') (hb : Below w.heap.size w w') : Mid w0 w' h q C C' P' := s.keep (F := fun _ => False) (Chg.new hb) (fun _ x => x.elim)
/-- A box of the law's own is written. -/
theorem Mid.box (s : Mid w0 w h q C C' P') {b : Nat} (hb : w0.heap.size ≤ b) {cur : Array Value} (e : w.heap[b]? = some (.cells cur 27 (0, 0))) (o : Nat) (u : Value) : Mid w0 (w.setCell ⟨b, o, none⟩ u) h q C C' P' :=
  s.keep (F := fun j => j = b) ((Chg.refl _ w).setCell _ _ (fun _ => rfl)) (fun j hj => by
    subst hj
    refine ⟨hb, fun t cur' e' => ?_⟩
    rw [e] at e'; cases e'; decide)
theorem Mid.write {i : Nat} {c : Ck} (s : Mid w0 w h q C (put3 C i c) P') (hi : i < 3) :
    Sc w0 (((w.setCell ⟨q, i * 3, none⟩ (.bool c.t)).setCell ⟨q, i * 3 + 1, none⟩ (.int .i64 c.n)).setCell ⟨q, i * 3 + 2, none⟩ (.int .i64 c.k)) h q (put3 C i c) P' :=
  Sc.putQ0 s.qb s.hq s.bel hi c s.hb s.pk s.ok s.low s.apart
theorem Sc.mid (s : Sc w0 w h q C P) {i : Nat} (hi : i < 3) {c : Ck} (hok : CkOk c) (ht : c.t = (C i).t) (hk : Ticked w (P i) (C i) c w') : Mid w0 w' h q C (put3 C i c) P := by
  obtain ⟨c1, e1, z1, r1⟩ := s.hb
  obtain ⟨c2, e2, z2, r2⟩ := s.qb
  have keep : ∀ (j : Nat) (t : TypeId) (cur : Array Value), w.heap[j]? = some (.cells cur t (0, 0)) → t ≠ 59 → w'.heap[j]? = some (.cells cur t (0, 0)) := fun j t cur e hne => (hk.chg.block j (Array.getElem?_eq_some_iff.1 e).1 (fun x => by
    have e3 := s.pk i hi x.1
    rw [x.2, e3] at e; cases e; exact hne rfl)).trans e
  have hpt : ∀ j, ptrK (put3 C i c j) (P j) = ptrK (C j) (P j) := fun j => by
    by_cases e : j = i
    · subst e; rw [put3_at]; unfold ptrK; rw [ht]
    · rw [put3_ne _ _ e]
  have htj : ∀ j, (put3 C i c j).t = (C j).t := fun j => by
    by_cases e : j = i
    · subst e; rw [put3_at]; exact ht
    · rw [put3_ne _ _ e]
  refine ⟨⟨c1, keep h 25 c1 e1 (by decide), z1, fun j hj => by rw [hpt]; exact r1 j hj⟩, ⟨c2, keep q 28 c2 e2 (by decide), z2, r2⟩, fun j hj => ?_, fun j hj => ?_, fun j hj hjt => s.low j hj (by rw [← htj]; exact hjt), fun a b ha hb hab h1 h2 => s.apart a b ha hb hab (by rw [← htj]; exact h1) (by rw [← htj]; exact h2), s.hq, s.bel.trans (hk.chg.below (fun k hk => by rw [hk.2]; exact s.low i hi hk.1) s.bel.size)⟩
  · by_cases e : j = i
    · subst e; rw [put3_at]; exact hk.pk
    · rw [put3_ne _ _ e]
      intro hjt
      have e3 := s.pk j hj hjt
      exact (hk.chg.block _ (Array.getElem?_eq_some_iff.1 e3).1 (fun x => s.apart j i hj hi e hjt x.1 x.2)).trans e3
  · by_cases e : j = i
    · subst e; rw [put3_at]; exact hok
    · rw [put3_ne _ _ e]; exact s.ok j hj
theorem Sc.midSame (s : Sc w0 w h q C P) {i : Nat} (hi : i < 3) : Mid w0 w h q C (put3 C i (C i)) P := s.mid hi (s.ok i hi) rfl ⟨s.pk i hi, Chg.refl _ _⟩
theorem Sc.midNew (s : Sc w0 w h q C P) {i : Nat} (hi : i < 3) {c : Ck} (hok : CkOk c) {p : Nat} (hp : Pk w p c) (hlow : w0.heap.size ≤ p) (hap : c.t = true → ∀ j, j < 3 → (C j).t = true → P j ≠ p) :
    Mid w0 (w.setCell ⟨h, i, none⟩ (ptrK c p)) h q C (put3 C i c) (put3 P i p) := by
  obtain ⟨c1, e1, z1, r1⟩ := s.hb
  obtain ⟨c2, e2, z2, r2⟩ := s.qb
  have hne : q ≠ h := fun e => by rw [← e, e2] at e1; cases e1
  have k1 := heap_setCell_same w h i _ _ (ptrK c p) e1
  have off : ∀ j, j ≠ h → (w.setCell ⟨h, i, none⟩ (ptrK c p)).heap[j]? = w.heap[j]? := fun j hj => Below.heap_setCell _ _ _ j hj
  have offP : ∀ r (d : Ck), Pk w r d → Pk (w.setCell ⟨h, i, none⟩ (ptrK c p)) r d := fun r d hr ht => by
    have e3 := hr ht
    exact (off r (fun e => by rw [e, e1] at e3; cases e3)).trans e3
  refine ⟨⟨_, k1, by simpa using z1, fun j hj => ?_⟩, ⟨c2, (off q hne).trans e2, z2, r2⟩, fun j hj => ?_, fun j hj => ?_, fun j hj ht => ?_, fun a b ha hb hab h1 h2 => ?_, s.hq, s.bel.setCell (p := ⟨h, i, none⟩) s.hq.1 _⟩
  · by_cases e : j = i
    · subst e; rw [put3_at, put3_at, Array.getElem?_setIfInBounds_self_of_lt (by omega)]
    · rw [put3_ne _ _ e, put3_ne _ _ e, Array.getElem?_setIfInBounds_ne (by omega)]; exact r1 j hj
  · by_cases e : j = i
    · subst e; rw [put3_at, put3_at]; exact offP _ _ hp
    · rw [put3_ne _ _ e, put3_ne _ _ e]; exact offP _ _ (s.pk j hj)
  · by_cases e : j = i
    · subst e; rw [put3_at]; exact hok
    · rw [put3_ne _ _ e]; exact s.ok j hj
  · by_cases e : j = i
    · subst e; rw [put3_at]; exact hlow
    · rw [put3_ne _ _ e] at ht ⊢; exact s.low j hj ht
  · by_cases ea : a = i
    · subst ea
      have hba : b ≠ a := fun e => hab e.symm
      rw [put3_at] at h1 ⊢
      rw [put3_ne _ _ hba] at h2 ⊢
      exact fun e => hap h1 b hb h2 e.symm
    · rw [put3_ne _ _ ea] at h1 ⊢
      by_cases eb : b = i
      · subst eb
        rw [put3_at] at h2 ⊢
        exact hap h2 a ha h1
      · rw [put3_ne _ _ eb] at h2 ⊢
        exact s.apart a b ha hb hab h1 h2
theorem Sc.box (s : Sc w0 w h q C P) {b : Nat} (hb : w0.heap.size ≤ b) {cur : Array Value} (e : w.heap[b]? = some (.cells cur 27 (0, 0))) (o : Nat) (u : Value) : Sc w0 (w.setCell ⟨b, o, none⟩ u) h q C P := by
  have m : Mid w0 w h q C C P := ⟨s.hb, s.qb, s.pk, s.ok, s.low, s.apart, s.hq, s.bel⟩
  have m2 := m.box hb e o u
  exact ⟨m2.hb, m2.qb, m2.pk, m2.ok, m2.low, m2.apart, m2.hq, m2.bel⟩
end

end Go.Proofs.Ythlkegemkkepgaa

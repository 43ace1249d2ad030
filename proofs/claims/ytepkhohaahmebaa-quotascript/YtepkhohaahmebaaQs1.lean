/- Three accounts of the program and of the document, in two arrays. -/
import Derived.Test.YtepkhohaahmebaaQa5
import Derived.Test.YtepkhohaahmebaaQa3
import Derived.Deep.MidRow
namespace Go.Proofs.Ytepkhohaahmebaa
open Go.RowKit

/-- One of three otherwise. -/
def put3 {α : Type} (f : Nat → α) (i : Nat) (x : α) (j : Nat) : α := if j = i then x else f j
theorem put3_at {α : Type} (f : Nat → α) (i : Nat) (x : α) : put3 f i x i = x := if_pos rfl
theorem put3_self {α : Type} (f : Nat → α) (i : Nat) : put3 f i (f i) = f := funext fun j => by unfold put3; split <;> simp_all
theorem put3_ne {α : Type} (f : Nat → α) {i j : Nat} (x : α) (h : j ≠ i) : put3 f i x j = f j := if_neg h

/-- In six cells lies the document's account c. -/
def Six (cur : Array Value) (o : Nat) (c : Ac) : Prop := cur[o]? = some (.bool c.t) ∧ cur[o + 1]? = some (.int .i64 c.q) ∧ cur[o + 2]? = some (.int .i64 c.m) ∧ cur[o + 3]? = some (.int .i64 c.l) ∧ cur[o + 4]? = some (.int .i64 c.p) ∧ cur[o + 5]? = some (.int .i64 c.o)
/-- Six cells written. -/
def set6 (w : World) (q o : Nat) (c : Ac) : World := (((((w.setCell ⟨q, o, none⟩ (.bool c.t)).setCell ⟨q, o + 1, none⟩ (.int .i64 c.q)).setCell ⟨q, o + 2, none⟩ (.int .i64 c.m)).setCell ⟨q, o + 3, none⟩ (.int .i64 c.l)).setCell ⟨q, o + 4, none⟩ (.int .i64 c.p)).setCell ⟨q, o + 5, none⟩ (.int .i64 c.o)
def put6 (cur : Array Value) (o : Nat) (c : Ac) : Array Value := (((((cur.setIfInBounds o (.bool c.t)).setIfInBounds (o + 1) (.int .i64 c.q)).setIfInBounds (o + 2) (.int .i64 c.m)).setIfInBounds (o + 3) (.int .i64 c.l)).setIfInBounds (o + 4) (.int .i64 c.p)).setIfInBounds (o + 5) (.int .i64 c.o)
theorem set6_at {w : World} {q : Nat} {cur : Array Value} {t : TypeId} (h : w.heap[q]? = some (.cells cur t (0, 0))) (o : Nat) (c : Ac) : (set6 w q o c).heap[q]? = some (.cells (put6 cur o c) t (0, 0)) := by
  have k1 := heap_setCell_same w q o _ _ (.bool c.t) h
  have k2 := heap_setCell_same _ q (o + 1) _ _ (.int .i64 c.q) k1
  have k3 := heap_setCell_same _ q (o + 2) _ _ (.int .i64 c.m) k2
  have k4 := heap_setCell_same _ q (o + 3) _ _ (.int .i64 c.l) k3
  have k5 := heap_setCell_same _ q (o + 4) _ _ (.int .i64 c.p) k4
  exact heap_setCell_same _ q (o + 5) _ _ (.int .i64 c.o) k5
theorem set6_off (w : World) (q o : Nat) (c : Ac) {j : Nat} (hj : j ≠ q) : (set6 w q o c).heap[j]? = w.heap[j]? := by
  unfold set6
  rw [Below.heap_setCell _ _ _ j hj, Below.heap_setCell _ _ _ j hj, Below.heap_setCell _ _ _ j hj, Below.heap_setCell _ _ _ j hj, Below.heap_setCell _ _ _ j hj, Below.heap_setCell _ _ _ j hj]
theorem set6_chg (w : World) (q o : Nat) (c : Ac) : Chg (fun j => j = q) w (set6 w q o c) := by
  have h0 : Chg (fun j => j = q) w w := Chg.refl _ w
  have h1 := h0.setCell ⟨q, o, none⟩ (.bool c.t) (fun _ => rfl)
  have h2 := h1.setCell ⟨q, o + 1, none⟩ (.int .i64 c.q) (fun _ => rfl)
  have h3 := h2.setCell ⟨q, o + 2, none⟩ (.int .i64 c.m) (fun _ => rfl)
  have h4 := h3.setCell ⟨q, o + 3, none⟩ (.int .i64 c.l) (fun _ => rfl)
  have h5 := h4.setCell ⟨q, o + 4, none⟩ (.int .i64 c.p) (fun _ => rfl)
  exact h5.setCell ⟨q, o + 5, none⟩ (.int .i64 c.o) (fun _ => rfl)
theorem Six.there {w : World} {b o : Nat} {cur : Array Value} {t : TypeId} {c : Ac} (e : w.heap[b]? = some (.cells cur t (0, 0))) (s : Six cur o c) : w.there b o 6 := fun j hj => by
  refine ⟨?_, frozen_of_row _ _ _ _ _ e⟩
  rw [cell_of_row _ _ _ _ _ _ e]
  obtain ⟨s0, s1, s2, s3, s4, s5⟩ := s
  match j, hj with
  | 0, _ => rw [Nat.add_zero, s0]; rfl
  | 1, _ => rw [s1]; rfl
  | 2, _ => rw [s2]; rfl
  | 3, _ => rw [s3]; rfl
  | 4, _ => rw [s4]; rfl
  | 5, _ => rw [s5]; rfl
theorem put6_size (cur : Array Value) (o : Nat) (c : Ac) : (put6 cur o c).size = cur.size := by simp [put6]
theorem put6_at {cur : Array Value} {o : Nat} (h : o + 6 ≤ cur.size) (c : Ac) : Six (put6 cur o c) o c := by
  unfold put6
  refine ⟨?_, ?_, ?_, ?_, ?_, ?_⟩
  · rw [Array.getElem?_setIfInBounds_ne (by omega), Array.getElem?_setIfInBounds_ne (by omega), Array.getElem?_setIfInBounds_ne (by omega), Array.getElem?_setIfInBounds_ne (by omega), Array.getElem?_setIfInBounds_ne (by omega), Array.getElem?_setIfInBounds_self_of_lt (by omega)]
  · rw [Array.getElem?_setIfInBounds_ne (by omega), Array.getElem?_setIfInBounds_ne (by omega), Array.getElem?_setIfInBounds_ne (by omega), Array.getElem?_setIfInBounds_ne (by omega), Array.getElem?_setIfInBounds_self_of_lt (by simp; omega)]
  · rw [Array.getElem?_setIfInBounds_ne (by omega), Array.getElem?_setIfInBounds_ne (by omega), Array.getElem?_setIfInBounds_ne (by omega), Array.getElem?_setIfInBounds_self_of_lt (by simp; omega)]
  · rw [Array.getElem?_setIfInBounds_ne (by omega), Array.getElem?_setIfInBounds_ne (by omega), Array.getElem?_setIfInBounds_self_of_lt (by simp; omega)]
  · rw [Array.getElem?_setIfInBounds_ne (by omega), Array.getElem?_setIfInBounds_self_of_lt (by simp; omega)]
  · rw [Array.getElem?_setIfInBounds_self_of_lt (by simp; omega)]
theorem put6_one {cur : Array Value} {o p : Nat} (c : Ac) (h : p < o ∨ o + 6 ≤ p) : (put6 cur o c)[p]? = cur[p]? := by
  unfold put6
  rw [Array.getElem?_setIfInBounds_ne (by omega), Array.getElem?_setIfInBounds_ne (by omega), Array.getElem?_setIfInBounds_ne (by omega), Array.getElem?_setIfInBounds_ne (by omega), Array.getElem?_setIfInBounds_ne (by omega), Array.getElem?_setIfInBounds_ne (by omega)]
theorem put6_ne {cur : Array Value} {o p : Nat} (c : Ac) {d : Ac} (h : p + 6 ≤ o ∨ o + 6 ≤ p) (s : Six cur p d) : Six (put6 cur o c) p d := by
  obtain ⟨s0, s1, s2, s3, s4, s5⟩ := s
  exact ⟨(put6_one c (by omega)).trans s0, (put6_one c (by omega)).trans s1, (put6_one c (by omega)).trans s2, (put6_one c (by omega)).trans s3, (put6_one c (by omega)).trans s4, (put6_one c (by omega)).trans s5⟩

/-- In block b lies the document's account c alone. -/
def BoxA (w : World) (b : Nat) (c : Ac) : Prop := ∃ cur, w.heap[b]? = some (.cells cur 27 (0, 0)) ∧ cur.size = 6 ∧ Six cur 0 c
section
variable {w w' : World} {b : Nat} {c : Ac}
theorem BoxA.lt (h : BoxA w b c) : b < w.heap.size := by obtain ⟨cur, e, _⟩ := h; exact (Array.getElem?_eq_some_iff.1 e).1
theorem BoxA.keep (h : BoxA w b c) (e : w'.heap[b]? = w.heap[b]?) : BoxA w' b c := by obtain ⟨cur, e1, h1⟩ := h; exact ⟨cur, e.trans e1, h1⟩
theorem BoxA.below (h : BoxA w b c) (hb : Below w.heap.size w w') : BoxA w' b c := h.keep (hb.block b h.lt)
theorem BoxA.cells (h : BoxA w b c) : w.cell? ⟨b, 0, none⟩ = some (.bool c.t) ∧ w.cell? ⟨b, 1, none⟩ = some (.int .i64 c.q) ∧ w.cell? ⟨b, 2, none⟩ = some (.int .i64 c.m) ∧ w.cell? ⟨b, 3, none⟩ = some (.int .i64 c.l) ∧ w.cell? ⟨b, 4, none⟩ = some (.int .i64 c.p) ∧ w.cell? ⟨b, 5, none⟩ = some (.int .i64 c.o) ∧ ∀ j, w.frozen? ⟨b, j, none⟩ = false := by
  obtain ⟨cur, e, _, s0, s1, s2, s3, s4, s5⟩ := h
  exact ⟨(cell_of_row _ _ _ _ _ _ e).trans s0, (cell_of_row _ _ _ _ _ _ e).trans s1, (cell_of_row _ _ _ _ _ _ e).trans s2, (cell_of_row _ _ _ _ _ _ e).trans s3, (cell_of_row _ _ _ _ _ _ e).trans s4, (cell_of_row _ _ _ _ _ _ e).trans s5, fun _ => frozen_of_row _ _ _ _ _ e⟩
theorem BoxA.there (h : BoxA w b c) : w.there b 0 6 := by obtain ⟨cur, e, _, s⟩ := h; exact s.there e
theorem BoxA.put (h : BoxA w b c) (d : Ac) : BoxA (set6 w b 0 d) b d := by
  obtain ⟨cur, e, z, _⟩ := h
  exact ⟨_, set6_at e 0 d, by rw [put6_size]; exact z, put6_at (by omega) d⟩
theorem BoxA.new (w : World) (c : Ac) : BoxA (w.alloc (.cells #[.bool c.t, .int .i64 c.q, .int .i64 c.m, .int .i64 c.l, .int .i64 c.p, .int .i64 c.o] 27)) w.heap.size c := ⟨_, heap_alloc_new w _, rfl, rfl, rfl, rfl, rfl, rfl, rfl⟩
end

/-- In block h three pointers to the program's accounts C, in blocks P; in block q the document's accounts D. -/
structure Mid (w0 w : World) (h q : Nat) (D C : Nat → Ac) (P : Nat → Nat) : Prop where
  hb : ∃ cur, w.heap[h]? = some (.cells cur 25 (0, 0)) ∧ cur.size = 3 ∧ ∀ i, i < 3 → cur[i]? = some (ptrA (C i) (P i))
  qb : ∃ cur, w.heap[q]? = some (.cells cur 28 (0, 0)) ∧ cur.size = 18 ∧ ∀ i, i < 3 → Six cur (i * 6) (D i)
  pk : ∀ i, i < 3 → Pa w (P i) (C i)
  ok : ∀ i, i < 3 → AcOk (C i)
  low : ∀ i, i < 3 → (C i).t = true → w0.heap.size ≤ P i
  apart : ∀ i j, i < 3 → j < 3 → i ≠ j → (C i).t = true → (C j).t = true → P i ≠ P j
  hq : w0.heap.size ≤ h ∧ w0.heap.size ≤ q
  bel : Below w0.heap.size w0 w
section
variable {w0 w w' : World} {h q : Nat} {D C : Nat → Ac} {P : Nat → Nat}
theorem Mid.lt (s : Mid w0 w h q D C P) : h < w.heap.size ∧ q < w.heap.size := by
  obtain ⟨c1, e1, _⟩ := s.hb
  obtain ⟨c2, e2, _⟩ := s.qb
  exact ⟨(Array.getElem?_eq_some_iff.1 e1).1, (Array.getElem?_eq_some_iff.1 e2).1⟩
theorem Mid.apartHQ (s : Mid w0 w h q D C P) : h ≠ q := by
  obtain ⟨c1, e1, _⟩ := s.hb
  obtain ⟨c2, e2, _⟩ := s.qb
  exact fun e => by rw [e, e2] at e1; cases e1
theorem Mid.keep (s : Mid w0 w h q D C P) {F : Nat → Prop} (hc : Chg F w w') (hF : ∀ j, F j → w0.heap.size ≤ j ∧ ∀ (t : TypeId) (cur : Array Value), w.heap[j]? = some (.cells cur t (0, 0)) → t ≠ 25 ∧ t ≠ 28 ∧ t ≠ 54) : Mid w0 w' h q D C P := by
  obtain ⟨c1, e1, r1⟩ := s.hb
  obtain ⟨c2, e2, r2⟩ := s.qb
  refine ⟨⟨c1, (hc.block h (Array.getElem?_eq_some_iff.1 e1).1 (fun x => ((hF h x).2 _ _ e1).1 rfl)).trans e1, r1⟩, ⟨c2, (hc.block q (Array.getElem?_eq_some_iff.1 e2).1 (fun x => ((hF q x).2 _ _ e2).2.1 rfl)).trans e2, r2⟩, fun i hi ht => ?_, s.ok, s.low, s.apart, s.hq, s.bel.trans (hc.below (fun k hk => (hF k hk).1) s.bel.size)⟩
  have e3 := s.pk i hi ht
  exact (hc.block _ (Array.getElem?_eq_some_iff.1 e3).1 (fun x => ((hF _ x).2 _ _ e3).2.2 rfl)).trans e3
theorem Mid.below (s : Mid w0 w h q D C P) (hb : Below w.heap.size w w') : Mid w0 w' h q D C P := s.keep (F := fun _ => False) (Chg.new hb) (fun _ x => x.elim)
/-- A box of the law's own is written. -/
theorem Mid.box (s : Mid w0 w h q D C P) {b : Nat} (hb : w0.heap.size ≤ b) {c : Ac} (e : BoxA w b c) (d : Ac) : Mid w0 (set6 w b 0 d) h q D C P := by
  obtain ⟨cur, e, _⟩ := e
  exact s.keep (set6_chg w b 0 d) (fun j hj => by
    subst hj
    refine ⟨hb, fun t cur' e' => ?_⟩
    rw [e] at e'; cases e'; decide)
theorem Mid.cells (s : Mid w0 w h q D C P) {i : Nat} (hi : i < 3) : w.cell? ⟨h, i, none⟩ = some (ptrA (C i) (P i)) ∧ w.cell? ⟨q, i * 6, none⟩ = some (.bool (D i).t) ∧ w.cell? ⟨q, i * 6 + 1, none⟩ = some (.int .i64 (D i).q) ∧ w.cell? ⟨q, i * 6 + 2, none⟩ = some (.int .i64 (D i).m) ∧ w.cell? ⟨q, i * 6 + 3, none⟩ = some (.int .i64 (D i).l) ∧ w.cell? ⟨q, i * 6 + 4, none⟩ = some (.int .i64 (D i).p) ∧ w.cell? ⟨q, i * 6 + 5, none⟩ = some (.int .i64 (D i).o) ∧ (∀ j, w.frozen? ⟨h, j, none⟩ = false) ∧ (∀ j, w.frozen? ⟨q, j, none⟩ = false) := by
  obtain ⟨c1, e1, _, r1⟩ := s.hb
  obtain ⟨c2, e2, _, r2⟩ := s.qb
  obtain ⟨x0, x1, x2, x3, x4, x5⟩ := r2 i hi
  exact ⟨(cell_of_row _ _ _ _ _ _ e1).trans (r1 i hi), (cell_of_row _ _ _ _ _ _ e2).trans x0, (cell_of_row _ _ _ _ _ _ e2).trans x1, (cell_of_row _ _ _ _ _ _ e2).trans x2, (cell_of_row _ _ _ _ _ _ e2).trans x3, (cell_of_row _ _ _ _ _ _ e2).trans x4, (cell_of_row _ _ _ _ _ _ e2).trans x5, fun _ => frozen_of_row _ _ _ _ _ e1, fun _ => frozen_of_row _ _ _ _ _ e2⟩
theorem Mid.there (s : Mid w0 w h q D C P) {i : Nat} (hi : i < 3) : w.there q (i * 6) 6 := by obtain ⟨cur, e, _, r⟩ := s.qb; exact (r i hi).there e
/-- The document's account of the place i is written over by what the program's is. -/
theorem Mid.write (s : Mid w0 w h q D C P) {i : Nat} (hi : i < 3) (c : Ac) : Mid w0 (set6 w q (i * 6) c) h q (put3 D i c) C P := by
  have hne := s.apartHQ
  obtain ⟨c1, e1, r1⟩ := s.hb
  obtain ⟨c2, e2, z2, r2⟩ := s.qb
  refine ⟨⟨c1, (set6_off _ _ _ _ hne).trans e1, r1⟩, ⟨_, set6_at e2 _ c, by rw [put6_size]; exact z2, fun j hj => ?_⟩, fun j hj ht => ?_, s.ok, s.low, s.apart, s.hq, s.bel.trans ((set6_chg w q (i * 6) c).below (fun k hk => by rw [hk]; exact s.hq.2) s.bel.size)⟩
  · by_cases e : j = i
    · subst e; rw [put3_at]; exact put6_at (by omega) c
    · rw [put3_ne _ _ e]; exact put6_ne c (by omega) (r2 j hj)
  · have e3 := s.pk j hj ht
    exact (set6_off _ _ _ _ (fun e => by rw [e, e2] at e3; cases e3)).trans e3
/-- The program's account of the place i went on. -/
theorem Mid.went (s : Mid w0 w h q D C P) {i : Nat} (hi : i < 3) {c : Ac} (hok : AcOk c) (ht : c.t = (C i).t) (hk : Went w (P i) (C i) c w') : Mid w0 w' h q D (put3 C i c) P := by
  obtain ⟨c1, e1, z1, r1⟩ := s.hb
  obtain ⟨c2, e2, z2, r2⟩ := s.qb
  have keep : ∀ (j : Nat) (t : TypeId) (cur : Array Value), w.heap[j]? = some (.cells cur t (0, 0)) → t ≠ 54 → w'.heap[j]? = some (.cells cur t (0, 0)) := fun j t cur e hne => (hk.chg.block j (Array.getElem?_eq_some_iff.1 e).1 (fun x => by
    have e3 := s.pk i hi x.1
    rw [x.2, e3] at e; cases e; exact hne rfl)).trans e
  have hpt : ∀ j, ptrA (put3 C i c j) (P j) = ptrA (C j) (P j) := fun j => by
    by_cases e : j = i
    · subst e; rw [put3_at]; unfold ptrA; rw [ht]
    · rw [put3_ne _ _ e]
  have htj : ∀ j, (put3 C i c j).t = (C j).t := fun j => by
    by_cases e : j = i
    · subst e; rw [put3_at]; exact ht
    · rw [put3_ne _ _ e]
  refine ⟨⟨c1, keep h 25 c1 e1 (by decide), z1, fun j hj => by rw [hpt]; exact r1 j hj⟩, ⟨c2, keep q 28 c2 e2 (by decide), z2, r2⟩, fun j hj => ?_, fun j hj => ?_, fun j hj hjt => s.low j hj (by rw [← htj]; exact hjt), fun a b ha hb hab h1 h2 => s.apart a b ha hb hab (by rw [← htj]; exact h1) (by rw [← htj]; exact h2), s.hq, s.bel.trans (hk.chg.below (fun k hk => by rw [hk.2]; exact s.low i hi hk.1) s.bel.size)⟩
  · by_cases e : j = i
    · subst e; rw [put3_at]; exact hk.pk
    · rw [put3_ne _ _ e]
      intro hjt
      have e3 := s.pk j hj hjt
      exact (hk.chg.block _ (Array.getElem?_eq_some_iff.1 e3).1 (fun x => s.apart j i hj hi e hjt x.1 x.2)).trans e3
  · by_cases e : j = i
    · subst e; rw [put3_at]; exact hok
    · rw [put3_ne _ _ e]; exact s.ok j hj
/-- A new account is put into the place i. -/
theorem Mid.put (s : Mid w0 w h q D C P) {i : Nat} (hi : i < 3) {c : Ac} (hok : AcOk c) {p : Nat} (hp : Pa w p c) (hlow : w0.heap.size ≤ p) (hap : c.t = true → ∀ j, j < 3 → (C j).t = true → P j ≠ p) :
    Mid w0 (w.setCell ⟨h, i, none⟩ (ptrA c p)) h q D (put3 C i c) (put3 P i p) := by
  have hne := s.apartHQ
  obtain ⟨c1, e1, z1, r1⟩ := s.hb
  obtain ⟨c2, e2, z2, r2⟩ := s.qb
  have k1 := heap_setCell_same w h i _ _ (ptrA c p) e1
  have off : ∀ j, j ≠ h → (w.setCell ⟨h, i, none⟩ (ptrA c p)).heap[j]? = w.heap[j]? := fun j hj => Below.heap_setCell _ _ _ j hj
  have offP : ∀ r (d : Ac), Pa w r d → Pa (w.setCell ⟨h, i, none⟩ (ptrA c p)) r d := fun r d hr ht => by
    have e3 := hr ht
    exact (off r (fun e => by rw [e, e1] at e3; cases e3)).trans e3
  refine ⟨⟨_, k1, by simpa using z1, fun j hj => ?_⟩, ⟨c2, (off q hne.symm).trans e2, z2, r2⟩, fun j hj => ?_, fun j hj => ?_, fun j hj ht => ?_, fun a b ha hb hab h1 h2 => ?_, s.hq, s.bel.setCell (p := ⟨h, i, none⟩) s.hq.1 _⟩
  · by_cases e : j = i
    · subst e; rw [put3_at, put3_at, Array.getElem?_setIfInBounds_self_of_lt (by omega)]
    · rw [put3_ne _ _ e, put3_ne _ _ e, Array.getElem?_setIfInBounds_ne (by omega)]; exact r1 j hj
  · by_cases e : j = i
    · subst e; rw [put3_at, put3_at]; exact offP _ _ hp
    · rw [put3_ne _ _ e, put3_ne _ _ e]; exact offP _ _ (s.pk j hj)
  · by_cases e : j = i
    · subst e; rw [put3_at]; exact hok
    · rw [put3_ne _ _ e]; exact s.ok j hj
  · by_cases e : j = i
    · subst e; rw [put3_at]; exact hlow
    · rw [put3_ne _ _ e] at ht ⊢; exact s.low j hj ht
  · by_cases ea : a = i
    · subst ea
      have hba : b ≠ a := fun e => hab e.symm
      rw [put3_at] at h1 ⊢
      rw [put3_ne _ _ hba] at h2 ⊢
      exact fun e => hap h1 b hb h2 e.symm
    · rw [put3_ne _ _ ea] at h1 ⊢
      by_cases eb : b = i
      · subst eb
        rw [put3_at] at h2 ⊢
        exact hap h2 a ha h1
      · rw [put3_ne _ _ eb] at h2 ⊢
        exact s.apart a b ha hb hab h1 h2
end

end Go.Proofs.Ytepkhohaahmebaa

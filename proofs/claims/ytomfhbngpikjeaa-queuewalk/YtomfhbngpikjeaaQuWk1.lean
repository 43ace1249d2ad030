/- The law QueueWalk: what is known between two steps. -/
import Derived.Test.YtomfhbngpikjeaaQuDo6
namespace Go.Proofs.Ytomfhbngpikjeaa
open Go.RowKit Go.Shelf

/-- All cells lie as they lay. -/
def CK (W W' : World) : Prop := ∀ (k : Nat) (cs : Array Value) (t : TypeId) (fr : Nat × Nat), W.heap[k]? = some (.cells cs t fr) → W'.heap[k]? = some (.cells cs t fr)
theorem CK.of_below {W W' : World} (h : Below W.heap.size W W') : CK W W' := fun k _ _ _ hk => (h.block k (Array.getElem?_eq_some_iff.1 hk).1).trans hk
theorem CK.of_grown {W W' : World} {row : Option Nat} (hg : W.grownBy W' row) (hr : ∀ r, row = some r → ∃ o : Obj, W.heap[r]? = some o ∧ o.isCells = false) : CK W W' := fun k cs t fr hk => by
  refine (hg.block k (Array.getElem?_eq_some_iff.1 hk).1 (fun e => ?_)).trans hk
  obtain ⟨o, ho, hc⟩ := hr k e.symm
  rw [hk] at ho
  cases ho
  cases hc
theorem QuS.ck {W W' : World} {b g most : Nat} {xs : List ByteArray} (h : QuS W b g most xs) (hk : CK W W') : QuS W' b g most xs := by
  obtain ⟨R, f, h⟩ := h
  obtain ⟨v, hb, hr⟩ := h.blk
  refine ⟨R, f, ⟨v, hk _ _ _ _ hb, ?_⟩, h.room, h.most_le⟩
  rcases hr with hr | ⟨cur, h1, h2, h3, h4, h5⟩
  · exact .inl hr
  · exact .inr ⟨cur, h1, h2, h3, hk _ _ _ _ h4, h5⟩
theorem OwS.ck {W W' : World} {base : Nat} {v : Value} {xs : List ByteArray} (h : OwS W base v xs) (hk : CK W W') : OwS W' base v xs := by
  refine ⟨h.1, ?_⟩
  rcases h.2 with h2 | ⟨g, cap, cur, rfl, h3, hh, h4⟩
  · exact .inl h2
  · exact .inr ⟨g, cap, cur, rfl, h3, hk _ _ _ _ hh, h4⟩
theorem Pair.ck {w0 W W' : World} {b g c most : Nat} {v : Value} {xs : List ByteArray} (h : Pair w0 W b g c most v xs) (hk : CK W W') : Pair w0 W' b g c most v xs :=
  ⟨⟨h.both.qu.ck hk, h.both.ow.ck hk, h.both.off⟩, hk _ _ _ _ h.box, h.cb, h.cg, h.bge, h.gge, h.cge⟩

/-- The boxes of the law's parameters. -/
structure Pm (B : Nat) (W : World) (sv : Value) (at_ stop : Int) (sc : Value) (r : Bool) : Prop where
  p0 : W.heap[B]? = some (.cells #[sv] 22 (0, 0))
  p1 : W.heap[B + 1]? = some (.cells #[.int .i64 at_] 3 (0, 0))
  p2 : W.heap[B + 1 + 1]? = some (.cells #[.int .i64 stop] 3 (0, 0))
  p3 : W.heap[B + 1 + 1 + 1]? = some (.cells #[sc] 36 (0, 0))
  p4 : W.heap[B + 1 + 1 + 1 + 1]? = some (.cells #[.bool r] 4 (0, 0))
theorem Pm.ck {B : Nat} {W W' : World} {sv sc : Value} {at_ stop : Int} {r : Bool} (h : Pm B W sv at_ stop sc r) (hk : CK W W') : Pm B W' sv at_ stop sc r :=
  ⟨hk _ _ _ _ h.p0, hk _ _ _ _ h.p1, hk _ _ _ _ h.p2, hk _ _ _ _ h.p3, hk _ _ _ _ h.p4⟩
theorem Pm.keep {B : Nat} {W W' : World} {sv sc : Value} {at_ stop : Int} {r : Bool} (h : Pm B W sv at_ stop sc r) (hk : ∀ k, B ≤ k → k < B + 5 → W'.heap[k]? = W.heap[k]?) : Pm B W' sv at_ stop sc r :=
  ⟨(hk _ (by omega) (by omega)).trans h.p0, (hk _ (by omega) (by omega)).trans h.p1, (hk _ (by omega) (by omega)).trans h.p2, (hk _ (by omega) (by omega)).trans h.p3, (hk _ (by omega) (by omega)).trans h.p4⟩
theorem Pm.cells {B : Nat} {W : World} {sv sc : Value} {at_ stop : Int} {r : Bool} (h : Pm B W sv at_ stop sc r) : W.cell? ⟨B, 0, none⟩ = some sv ∧ W.cell? ⟨B + 1, 0, none⟩ = some (.int .i64 at_) ∧ W.cell? ⟨B + 1 + 1, 0, none⟩ = some (.int .i64 stop) ∧ W.cell? ⟨B + 1 + 1 + 1, 0, none⟩ = some sc ∧
    W.cell? ⟨B + 1 + 1 + 1 + 1, 0, none⟩ = some (.bool r) ∧ W.frozen? ⟨B + 1 + 1 + 1 + 1, 0, none⟩ = false ∧ B + 5 ≤ W.heap.size :=
  ⟨cell_of_row _ _ 0 _ _ _ h.p0, cell_of_row _ _ 0 _ _ _ h.p1, cell_of_row _ _ 0 _ _ _ h.p2, cell_of_row _ _ 0 _ _ _ h.p3, cell_of_row _ _ 0 _ _ _ h.p4, frozen_of_row _ _ 0 _ _ h.p4, (Array.getElem?_eq_some_iff.1 h.p4).1⟩
theorem pm_made (w : World) (sv sc : Value) (at_ stop : Int) :
    Pm w.heap.size (((((w.alloc (.cells #[sv] 22)).alloc (.cells #[.int .i64 at_] 3)).alloc (.cells #[.int .i64 stop] 3)).alloc (.cells #[sc] 36)).alloc (.cells #[.bool false] 4)) sv at_ stop sc false := by
  have h0 := Boxed.new w 22 sv
  have h1 := Boxed.new (w.alloc (.cells #[sv] 22)) 3 (.int .i64 at_)
  have h2 := Boxed.new ((w.alloc (.cells #[sv] 22)).alloc (.cells #[.int .i64 at_] 3)) 3 (.int .i64 stop)
  have h3 := Boxed.new (((w.alloc (.cells #[sv] 22)).alloc (.cells #[.int .i64 at_] 3)).alloc (.cells #[.int .i64 stop] 3)) 36 sc
  have h4 := Boxed.new ((((w.alloc (.cells #[sv] 22)).alloc (.cells #[.int .i64 at_] 3)).alloc (.cells #[.int .i64 stop] 3)).alloc (.cells #[sc] 36)) 4 (.bool false)
  simp only [World.size_alloc] at h1 h2 h3 h4
  exact ⟨(((h0.alloc _).alloc _).alloc _).alloc _, ((h1.alloc _).alloc _).alloc _, (h2.alloc _).alloc _, h3.alloc _, h4⟩

/-- What is known in the midst of the law. -/
structure St (w W : World) (sv : Value) (at_ stop : Int) (sc : Value) (b g c tq ba tn : Nat) (m : Nat) (v : Value) (ys : List ByteArray) : Prop where
  pair : Pair w W b g c 64 v ys
  pm : Pm w.heap.size W sv at_ stop sc false
  q1 : Boxed W tq 27 (.pointer (some ⟨b, 0, none⟩))
  q2 : Boxed W ba 27 (.pointer (some ⟨b, 0, none⟩))
  nn : Boxed W tn 3 (.int .i64 (m : Int))
  low : w.heap.size + 5 ≤ b ∧ w.heap.size + 5 ≤ g ∧ w.heap.size + 5 ≤ c ∧ w.heap.size + 5 ≤ tn
  apart : tq ≠ b ∧ tq ≠ g ∧ ba ≠ b ∧ ba ≠ g ∧ tn ≠ b ∧ tn ≠ g ∧ tn ≠ c ∧ tq ≠ c ∧ ba ≠ c ∧ tq ≠ tn ∧ ba ≠ tn
  below : Below w.heap.size w W
theorem St.ck {w W W' : World} {sv sc : Value} {at_ stop : Int} {b g c tq ba tn m : Nat} {v : Value} {ys : List ByteArray} (h : St w W sv at_ stop sc b g c tq ba tn m v ys) (hk : CK W W') (hb : Below w.heap.size w W') : St w W' sv at_ stop sc b g c tq ba tn m v ys :=
  ⟨h.pair.ck hk, h.pm.ck hk, hk _ _ _ _ h.q1, hk _ _ _ _ h.q2, hk _ _ _ _ h.nn, h.low, h.apart, hb⟩

/-- A round may do this: rows and all that is no cells from D on lie as they lay, but the queue's own ring. -/
def Kd (D b : Nat) (W W' : World) : Prop := KeepsFrom D W W' ∧ KeepS D ⟨b, 3, none⟩ W W'
theorem Kd.refl (D b : Nat) (W : World) : Kd D b W W := ⟨KeepsFrom.refl _ _, KeepS.refl _ _ _⟩
theorem Kd.trans {D b : Nat} {A B C : World} (h : Kd D b A B) (k : Kd D b B C) : Kd D b A C := ⟨h.1.trans k.1, keepS_t h.2 k.2⟩
theorem Kd.alloc {D b : Nat} (W : World) (o : Obj) (hb : b < W.heap.size) : Kd D b W (W.alloc o) :=
  ⟨(KeepsOthers.alloc W o).from D, KeepS.of_below ((Below.refl _ _).alloc (Nat.le_refl _) _) hb⟩
theorem Kd.set {D b : Nat} (W : World) (x i : Nat) (u : Value) (hx : x < D) (hb : x ≠ b) : Kd D b W (W.setCell ⟨x, i, none⟩ u) := by
  refine ⟨(KeepsOthers.setCell W _ u).from D, ⟨by simp, fun k cs t fr hk hc _ => ?_, fun k hk => ?_⟩⟩
  · rw [Below.heap_setCell _ _ _ _ (by simp; omega)]; exact hc
  · left
    rwa [ownAt_block (W := W) (Below.heap_setCell _ _ _ _ (by simpa using fun e => hb e.symm))] at hk
theorem QuS.own {W : World} {b g most : Nat} {xs : List ByteArray} (h : QuS W b g most xs) : (ownAt W ⟨b, 3, none⟩ = none ∧ g = b) ∨ (ownAt W ⟨b, 3, none⟩ = some g ∧ g ≠ b) := by
  obtain ⟨R, f, h⟩ := h
  obtain ⟨v, _, _, _, c3, ⟨_, _, _, rfl, hg⟩ | ⟨cur, rfl, hg, _⟩⟩ := h.cells
  · exact .inl ⟨by unfold ownAt; rw [c3]; rfl, hg⟩
  · exact .inr ⟨by unfold ownAt; rw [c3]; rfl, hg⟩
theorem Kd.only {D b g g' most : Nat} {W W' : World} {xs ys : List ByteArray} (hq : QuS W b g most xs) (hq' : QuS W' b g' most ys) (ho : Only b g W W') (hbD : b < D) (hg : g' = g ∨ g' = b ∨ W.heap.size ≤ g') : Kd D b W W' := by
  have hcell : ∀ k o, W.heap[k]? = some o → o.isCells = false → k ≠ b ∧ k ≠ g := fun k o hk hc => by
    obtain ⟨R, f, h⟩ := hq
    obtain ⟨v, hb, hr⟩ := h.blk
    refine ⟨fun e => ?_, fun e => ?_⟩
    · subst e; rw [hb] at hk; cases hk; cases hc
    · subst e
      rcases hr with ⟨_, _, _, _, e⟩ | ⟨cur, _, _, _, hg4, _⟩
      · subst e; rw [hb] at hk; cases hk; cases hc
      · rw [hg4] at hk; cases hk; cases hc
  refine ⟨⟨ho.size, fun k o _ hk hc => (ho.block k (Array.getElem?_eq_some_iff.1 hk).1 (hcell k o hk hc).1 (hcell k o hk hc).2).trans hk⟩, ⟨ho.size, fun k cs t fr hk hc hne => ?_, fun k hk => ?_⟩⟩
  · refine (ho.block k (Array.getElem?_eq_some_iff.1 hc).1 (by omega) (fun e => ?_)).trans hc
    subst e
    rcases hq.own with ⟨_, e⟩ | ⟨e, _⟩
    · omega
    · exact hne e
  · rcases hq'.own with ⟨e, _⟩ | ⟨e, hne⟩
    · rw [e] at hk; cases hk
    · rw [e] at hk
      have hk2 := Option.some.inj hk
      rcases hg with e1 | e1 | e1
      · rcases hq.own with ⟨_, e3⟩ | ⟨e3, _⟩
        · exact absurd (e1.trans e3) hne
        · left; rw [e3, ← e1, hk2]
      · exact absurd e1 hne
      · right; omega

/-- A call of both queues in the midst of the law. -/
theorem St.next {w W w5 : World} {sv sc : Value} {at_ stop : Int} {b g g' c tq ba tn m D : Nat} {v v' : Value} {xs ys : List ByteArray} (h : St w W sv at_ stop sc b g c tq ba tn m v xs) (hD : b < D) (hcD : c < D)
    (hg : g' = g ∨ g' = b ∨ W.heap.size ≤ g') (hb : Both w5 b g' 64 w.heap.size v' ys) (ho : Only b g W w5) (o : Obj) :
    St w (((w5.setCell ⟨c, 0, none⟩ (.int .i64 64)).setCell ⟨c, 1, none⟩ v').alloc o) sv at_ stop sc b g' c tq ba tn m v' ys ∧ Kd D b W (((w5.setCell ⟨c, 0, none⟩ (.int .i64 64)).setCell ⟨c, 1, none⟩ v').alloc o) := by
  obtain ⟨z1, z2⟩ := h.pair.next h.below.size hg hb ho o
  obtain ⟨a1, a2, a3, a4, a5, a6, a7, a8, a9, a10, a11⟩ := h.apart
  obtain ⟨l1, l2, l3, l4⟩ := h.low
  have hs := ho.size
  have hk : ∀ k, k < W.heap.size → k ≠ b → k ≠ g → k ≠ c → (((w5.setCell ⟨c, 0, none⟩ (.int .i64 64)).setCell ⟨c, 1, none⟩ v').alloc o).heap[k]? = W.heap[k]? := fun k h1 h2 h3 h4 =>
    (Below.heap_alloc _ _ _ (by simp; omega)).trans ((Below.heap_setCell _ _ _ k (by simpa using h4)).trans ((Below.heap_setCell _ _ _ k (by simpa using h4)).trans (ho.block k h1 h2 h3)))
  have hp5 := h.pm.cells.2.2.2.2.2.2
  have t1 := h.q1.lt
  have t2 := h.q2.lt
  have t3 := h.nn.lt
  refine ⟨⟨z1, h.pm.keep fun k k1 k2 => hk k (by omega) (by omega) (by omega) (by omega), (hk _ t1 a1 a2 a8).trans h.q1, (hk _ t2 a3 a4 a9).trans h.q2, (hk _ t3 a5 a6 a7).trans h.nn, ⟨l1, ?_, l3, l4⟩, ?_, h.below.trans z2⟩, ?_⟩
  · rcases hg with e | e | e <;> omega
  · refine ⟨a1, ?_, a3, ?_, a5, ?_, a7, a8, a9, a10, a11⟩ <;> (rcases hg with e | e | e <;> omega)
  · have hbl := hb.qu.lt
    have k1 := Kd.only (D := D) h.pair.both.qu hb.qu ho hD hg
    have hcb := h.pair.cb
    have k2 := Kd.set (D := D) (b := b) w5 c 0 (.int .i64 64) hcD hcb
    have k3 := Kd.set (D := D) (b := b) (w5.setCell ⟨c, 0, none⟩ (.int .i64 64)) c 1 v' hcD hcb
    have k4 := Kd.alloc (D := D) (b := b) ((w5.setCell ⟨c, 0, none⟩ (.int .i64 64)).setCell ⟨c, 1, none⟩ v') o (by simp; omega)
    exact ((k1.trans k2).trans k3).trans k4
/-- The count goes up. -/
theorem St.count {w W : World} {sv sc : Value} {at_ stop : Int} {b g c tq ba tn m D : Nat} {v : Value} {xs : List ByteArray} (h : St w W sv at_ stop sc b g c tq ba tn m v xs) (htD : tn < D) (m' : Nat) :
    St w (W.setCell ⟨tn, 0, none⟩ (.int .i64 (m' : Int))) sv at_ stop sc b g c tq ba tn m' v xs ∧ Kd D b W (W.setCell ⟨tn, 0, none⟩ (.int .i64 (m' : Int))) := by
  obtain ⟨a1, a2, a3, a4, a5, a6, a7, a8, a9, a10, a11⟩ := h.apart
  obtain ⟨l1, l2, l3, l4⟩ := h.low
  have hk : ∀ k, k ≠ tn → (W.setCell ⟨tn, 0, none⟩ (.int .i64 (m' : Int))).heap[k]? = W.heap[k]? := fun k h4 => Below.heap_setCell _ _ _ k (by simpa using h4)
  have hnn : W.heap[tn]? = some (.cells #[.int .i64 (m : Int)] 3 (0, 0)) := h.nn
  refine ⟨⟨⟨⟨h.pair.both.qu.keep (hk _ (fun e => a5 e.symm)) (hk _ (fun e => a6 e.symm)), h.pair.both.ow.heap fun j hj => hk j (fun e => ?_), h.pair.both.off⟩, (hk _ (fun e => a7 e.symm)).trans h.pair.box, h.pair.cb, h.pair.cg, h.pair.bge, h.pair.gge, h.pair.cge⟩,
    h.pm.keep fun k k1 k2 => hk k (by omega), (hk _ a10).trans h.q1, (hk _ a11).trans h.q2, h.nn.set _, ⟨l1, l2, l3, l4⟩, ⟨a1, a2, a3, a4, a5, a6, a7, a8, a9, a10, a11⟩, h.below.setCell (p := ⟨tn, 0, none⟩) (by simp; omega) _⟩, Kd.set _ _ _ _ htD a5⟩
  subst e
  rcases h.pair.both.ow.2 with ⟨e2, _⟩ | ⟨g2, cap, cur, e2, _, hh, _⟩
  · rw [e2] at hj; cases hj
  · rw [e2] at hj; cases hj
    rw [hh] at hnn
    cases hnn

end Go.Proofs.Ytomfhbngpikjeaa

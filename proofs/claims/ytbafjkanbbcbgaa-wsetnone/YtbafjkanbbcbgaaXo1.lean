/- The law's walk over a set: what its rounds keep. -/
import Derived.Test.YtbafjkanbbcbgaaXv5
namespace Go.Proofs.Ytbafjkanbbcbgaa
open Go.RowKit Go.Maps Go.Shelf

attribute [local go_sem] Oper.semAt_some

/-- One pair laid behind the others. -/
theorem app_pn {z : World} {B : Nat} {ys : List Pn} {v : Value} (y : Pn) (ho : OwP z B v ys) (hl : ys.length ≤ 4000000000000) (hB : B ≤ z.heap.size) :
    ∃ a5 c5 w5, (Builtin.append_ #[35, 35] 35 #[v, .slice (some ⟨z.heap.size, 0, none⟩) 1 1]).run Try.prog (z.alloc (.cells #[.string y.k, .slice y.a y.z.length y.c] 60)) = .ok (.slice a5 (ys.length + 1) c5) w5 ∧
      OwP w5 B (.slice a5 (ys.length + 1) c5) (ys ++ [y]) ∧ Below B z w5 ∧ (∀ j, j < z.heap.size → v.ownBlock ≠ some j → w5.heap[j]? = z.heap[j]?) ∧ ∀ j, (Value.slice a5 (ys.length + 1) c5).ownBlock = some j → v.ownBlock = some j ∨ z.heap.size ≤ j := by
  obtain ⟨z2, hz2⟩ : ∃ z2, z2 = z.alloc (.cells #[.string y.k, .slice y.a y.z.length y.c] 60) := ⟨_, rfl⟩
  have hb2 : Below z.heap.size z z2 := by rw [hz2]; exact (Below.refl _ _).alloc (Nat.le_refl _) _
  have ho2 : OwP z2 B v ys := OwnS.below ho hb2
  have hsrc : Src Try.prog 2 35 (.slice (some ⟨z.heap.size, 0, none⟩) 1 1) 1 (duoP y) z2 := by rw [hz2]; exact srcPn_one z y _
  obtain ⟨v5, w5, hrun, ho5, hg5, hat⟩ := run_append_S (P := Try.prog) 35 35 35 _ Try.underlying35 infoPn rfl ho2 _ 1 _ hsrc (by unfold maxLen; omega) (by omega) (Nat.le_trans hB hb2.size)
  rw [hz2] at hrun
  have ho6 : OwP w5 B v5 (ys ++ [y]) := by
    unfold OwP; rw [List.length_append, celP_append, celP_one]; exact ho5
  obtain ⟨a5, c5, ev, _⟩ := OwnS.open ho6
  rw [List.length_append] at ev
  subst ev
  refine ⟨a5, c5, w5, hrun, ho6, (hb2.mono hB).grown hg5 (Nat.le_trans hB hb2.size) fun j e => (OwnS.inside ho2 j e).1, fun j hj hne => (hg5.block j (by have := hb2.size; omega) fun e => hne e.symm).trans (hb2.block j hj), fun j hj => ?_⟩
  rcases hat with e | e
  · exact .inl (e.symm.trans hj)
  · have e2 := e.symm.trans hj
    cases e2
    exact .inr hb2.size

/-- .. in a round. -/
theorem wpListIn_append_run {F : Fence} {nF : Nat} {P : Program} {w : World} {ops : Array Oper} {rest : List Oper} {o : Oper} {a : Act} {Q : Exit → Act → World → Prop} (hgd : o.guard = none) (s x : Operand) (t : TypeId)
    (ho : o.op = .call { callee := .builtin .append, args := #[s, x], argTypes := #[t, t] }) (v y v' : Value) (w' : World) (hs : a.eval s = v) (hx : a.eval x = y)
    (hrun : (Builtin.append_ #[t, t] o.type #[v, y]).run P w = .ok v' w') (h : wpListIn F nF P ops Q rest (a.put o.dst v') w') : wpListIn F nF P ops Q (o :: rest) a w := by
  refine wpListIn_plain hgd fun K hK => ?_
  unfold Oper.wpIn
  refine ⟨by simp [Oper.about, ho, resolve, Target.leads, Sem.run_pure], ?_⟩
  rw [Oper.semAt_plain F _ _ (by rw [ho]; intro c hc'; cases hc')]
  simp [execOp, ho, resolve, invoke, builtin, hs, hx, hrun, Result.andThen]
  exact hK _ _ h

/-- Where a value that was told lies. -/
def VP (B l : Nat) (us : List Pn) (T : Nat → Prop) (X : World) (x : Pn) : Prop := x ∈ us ∨ (OwnB X B (.slice x.a x.z.length x.c) x.z ∧ ∀ j, (Value.slice x.a x.z.length x.c).ownBlock = some j → ¬ T j ∧ j ≠ l)
/-- Between two rounds of the law's walk (its boxes: the number, the list, the record; l: the loop's record). -/
structure CI (w : World) (l : Nat) (most : Int) (us : List Pn) (T : Nat → Prop) (pre : List Pn) (X : World) : Prop where
  box : ∃ v, Boxed X (w.heap.size + 1) 35 v ∧ OwP X (l + 1) v pre ∧ ∀ j, v.ownBlock = some j → ¬ T j
  num : Boxed X w.heap.size 3 (.int .i64 most)
  val : ∀ x ∈ pre, VP w.heap.size l us T X x
  bel : Below w.heap.size w X
  t : ∀ j, T j → j = w.heap.size + 2 ∨ l ≤ j + 1
  sz : l ≤ X.heap.size + 1
section
variable {w : World} {l : Nat} {most : Int} {us : List Pn} {T T' : Nat → Prop} {pre : List Pn} {X W' : World}
theorem CI.step (h : CI w l most us T pre X) (hl : w.heap.size + 8 ≤ l) (hb : Below w.heap.size w W') (hz : X.heap.size ≤ W'.heap.size) (hk : ∀ j, j < X.heap.size → ¬ T j → j ≠ l → W'.heap[j]? = X.heap[j]?) (hT : ∀ j, T' j → T j ∨ X.heap.size ≤ j) : CI w l most us T' pre W' := by
  obtain ⟨v, h1, h2, h3⟩ := h.box
  have hn : ∀ j, j = w.heap.size ∨ j = w.heap.size + 1 → ¬ T j := fun j hj e => by have := h.t j e; omega
  refine ⟨⟨v, (hk _ h1.lt (hn _ (.inr rfl)) (by omega)).trans h1, OwnS.keep h2 fun j hj => hk j (OwnS.inside h2 j hj).2 (h3 j hj) (by have := (OwnS.inside h2 j hj).1; omega), fun j hj e => ?_⟩, (hk _ h.num.lt (hn _ (.inl rfl)) (by omega)).trans h.num, fun x hx => ?_, hb, fun j hj => ?_, Nat.le_trans h.sz (Nat.succ_le_succ hz)⟩
  · rcases hT j e with h5 | h5
    · exact h3 j hj h5
    · have := (OwnS.inside h2 j hj).2; omega
  · rcases h.val x hx with h5 | ⟨h5, h6⟩
    · exact .inl h5
    · refine .inr ⟨h5.hold fun j hj => hk j (h5.inside j hj) (h6 j hj).1 (h6 j hj).2, fun j hj => ⟨fun e => ?_, (h6 j hj).2⟩⟩
      rcases hT j e with h7 | h7
      · exact (h6 j hj).1 h7
      · have := h5.inside j hj; omega
  · rcases hT j hj with h5 | h5
    · exact h.t j h5
    · exact .inr (by have := h.sz; omega)
theorem CI.chg (h : CI w l most us T pre X) (hl : w.heap.size + 8 ≤ l) {S : Nat → Prop} (hc : Chg S X W') (hS : ∀ j, S j → T j ∨ j = l) (hT : ∀ j, T' j → T j ∨ X.heap.size ≤ j) : CI w l most us T' pre W' := by
  refine h.step hl ⟨hc.os.trans h.bel.os, hc.tape.trans h.bel.tape, hc.output.trans h.bel.output, Nat.le_trans h.bel.size hc.size, fun k hk => (hc.block k (Nat.lt_of_lt_of_le hk h.bel.size) fun e => ?_).trans (h.bel.block k hk)⟩ hc.size (fun j hj h1 h2 => hc.block j hj fun e => (hS j e).elim h1 h2) hT
  rcases hS k e with h5 | h5
  · have := h.t k h5; omega
  · omega
/-- One pair more. -/
theorem CI.app (h : CI w l most us T pre X) (hl : w.heap.size + 8 ≤ l) {x : Pn} (hx : VP w.heap.size l us T X x) {v : Value} (hv1 : Boxed X (w.heap.size + 1) 35 v) (hv2 : OwP X (l + 1) v pre) (hv3 : ∀ j, v.ownBlock = some j → ¬ T j) (hTl : ∀ j, T j → j < X.heap.size) (hXl : l + 1 ≤ X.heap.size) {a5 : Option Addr} {c5 : Nat} {w5 : World}
    (ho : OwP w5 (l + 1) (.slice a5 (pre.length + 1) c5) (pre ++ [x])) (hb : Below (l + 1) X w5) (hk : ∀ j, j < X.heap.size → v.ownBlock ≠ some j → w5.heap[j]? = X.heap[j]?) (hat : ∀ j, (Value.slice a5 (pre.length + 1) c5).ownBlock = some j → v.ownBlock = some j ∨ X.heap.size ≤ j) {Kr : Nat → Prop} (hKr : ∀ j, Kr j → j < l ∧ j ≠ w.heap.size + 1) :
    CI w l most us T (pre ++ [x]) (w5.setCell ⟨w.heap.size + 1, 0, none⟩ (.slice a5 (pre.length + 1) c5)) ∧ KpS (fun j => T j ∨ Kr j) X (w5.setCell ⟨w.heap.size + 1, 0, none⟩ (.slice a5 (pre.length + 1) c5)) ∧
    ((w5.setCell ⟨w.heap.size + 1, 0, none⟩ (.slice a5 (pre.length + 1) c5)).heap[l]? = X.heap[l]? ∧ (w5.setCell ⟨w.heap.size + 1, 0, none⟩ (.slice a5 (pre.length + 1) c5)).heap[l - 1]? = X.heap[l - 1]?) ∧ Boxed w5 (w.heap.size + 1) 35 v ∧ Boxed w5 w.heap.size 3 (.int .i64 most) := by
  have hin : ∀ j, v.ownBlock = some j → l + 1 ≤ j := fun j hj => (OwnS.inside hv2 j hj).1
  have hset : ∀ j, j ≠ w.heap.size + 1 → (w5.setCell ⟨w.heap.size + 1, 0, none⟩ (.slice a5 (pre.length + 1) c5)).heap[j]? = w5.heap[j]? := fun j hj => Below.heap_setCell _ _ _ _ hj
  have hall : ∀ j, j < X.heap.size → v.ownBlock ≠ some j → j ≠ w.heap.size + 1 → (w5.setCell ⟨w.heap.size + 1, 0, none⟩ (.slice a5 (pre.length + 1) c5)).heap[j]? = X.heap[j]? := fun j h1 h2 h3 => (hset j h3).trans (hk j h1 h2)
  have hbo : Boxed w5 (w.heap.size + 1) 35 v := (hk _ hv1.lt fun e => by have := hin _ e; omega).trans hv1
  have hnu : Boxed w5 w.heap.size 3 (.int .i64 most) := (hk _ h.num.lt fun e => by have := hin _ e; omega).trans h.num
  have hval : ∀ y, VP w.heap.size l us T X y → VP w.heap.size l us T (w5.setCell ⟨w.heap.size + 1, 0, none⟩ (.slice a5 (pre.length + 1) c5)) y := fun y hy => by
    rcases hy with h5 | ⟨h5, h6⟩
    · exact .inl h5
    · refine .inr ⟨h5.hold fun j hj => hall j (h5.inside j hj) (fun e => ?_) (fun e => ?_), h6⟩
      · obtain ⟨cur, h7⟩ := h5.typed hj
        obtain ⟨cur', h8⟩ := OwnS.type hv2 e
        rw [h7] at h8; cases h8
      · obtain ⟨cur, h7⟩ := h5.typed hj
        rw [e, show X.heap[w.heap.size + 1]? = _ from hv1] at h7; cases h7
  have hz : X.heap.size ≤ (w5.setCell ⟨w.heap.size + 1, 0, none⟩ (.slice a5 (pre.length + 1) c5)).heap.size := by simp; exact hb.size
  refine ⟨⟨⟨_, hbo.set _, OwnS.keep ho fun j hj => hset j (by have := (OwnS.inside ho j hj).1; omega), fun j hj e => ?_⟩, (hset _ (by omega)).trans hnu, fun y hy => ?_, ?_, h.t, Nat.le_trans h.sz (Nat.succ_le_succ hz)⟩, ⟨hz, fun j o hj ho => (hall j (Array.getElem?_eq_some_iff.1 ho).1 (fun e => ?_) (fun e => ?_)).trans ho⟩, ⟨hall l (by omega) (fun e => by have := hin _ e; omega) (by omega), hall (l - 1) (by omega) (fun e => by have := hin _ e; omega) (by omega)⟩, hbo, hnu⟩
  · rcases hat j hj with h5 | h5
    · exact hv3 j h5 e
    · have := hTl j e; omega
  · rcases List.mem_append.1 hy with h5 | h5
    · exact hval y (h.val y h5)
    · obtain rfl : y = x := by simpa using h5
      exact hval y hx
  · exact (h.bel.trans (hb.mono (by omega))).setCell (p := ⟨w.heap.size + 1, 0, none⟩) (by show w.heap.size ≤ w.heap.size + 1; omega) _
  · rcases hj with h5 | h5
    · exact hv3 j e h5
    · have := hin j e; have := (hKr j h5).1; omega
  · rcases hj with h5 | h5
    · have := h.t j h5; omega
    · exact (hKr j h5).2 e
/-- What is left in the end. -/
theorem CI.fin (h : CI w l most us T pre X) (hl : w.heap.size + 8 ≤ l) {v : Value} (hv2 : OwP X (l + 1) v pre) {D : Nat} (hD : D + 1 = l) {o : Obj} (hK : X.heap[D]? = some o) (ho : o.isCells = false) {Wd : World} (hb : Below X.heap.size X Wd) (o' : Obj) :
    OwP (Wd.putObj D o') w.heap.size v pre ∧ (∀ x ∈ pre, x ∈ us ∨ OwnB (Wd.putObj D o') w.heap.size (.slice x.a x.z.length x.c) x.z) ∧ Below w.heap.size w (Wd.putObj D o') := by
  have hbw : Below w.heap.size w Wd := h.bel.trans (hb.mono h.bel.size)
  have hDl := (Array.getElem?_eq_some_iff.1 hK).1
  refine ⟨OwnS.keep (OwnS.mono (OwnS.below hv2 hb) (by omega)) fun j hj => World.putObj_heap_other fun e => ?_, fun x hx => ?_, ⟨hbw.os, hbw.tape, hbw.output, by simp; exact hbw.size, fun k hk => (World.putObj_heap_other (by omega)).trans (hbw.block k hk)⟩⟩
  · have := (OwnS.inside hv2 j hj).1; omega
  · rcases h.val x hx with h5 | ⟨h5, h6⟩
    · exact .inl h5
    · refine .inr ((h5.below hb).hold fun j hj => World.putObj_heap_other fun e => ?_)
      obtain ⟨cur, h7⟩ := h5.typed hj
      rw [e, hK] at h7; cases h7; cases ho
end

end Go.Proofs.Ytbafjkanbbcbgaa

/- A chain and the document's list beside it. -/
import Derived.Test.YtncmnhomloanaabHl2
import Derived.Test.YtncmnhomloanaabOpenStc
namespace Go.Proofs.Ytncmnhomloanaab
open Go.RowKit

/-- The chain's own blocks. -/
def Fc (p : Nat) (v : Value) (j : Nat) : Prop := j = p ∨ v.ownBlock = some j
/-- In block q lie a pointer to a chain (in block p, its links in the slice v) and the document's list d; both are xs. F: the blocks that are theirs. -/
structure Pr (w : World) (F : Nat → Prop) (q p : Nat) (v d : Value) (xs : List Lk) : Prop where
  hq : w.heap[q]? = some (.cells #[.pointer (some ⟨p, 0, none⟩), d] 63 (0, 0))
  hn : Hn w (Fc p v) p v xs
  od : OwD w d xs
  fq : F q
  fc : ∀ j, Fc p v j → F j
  fd : ∀ j, d.ownBlock = some j → F j
  lt : ∀ j, F j → j < w.heap.size
section
variable {w w' : World} {F : Nat → Prop} {q p : Nat} {v d : Value} {xs : List Lk}
theorem Pr.qlt (h : Pr w F q p v d xs) : q < w.heap.size := (Array.getElem?_eq_some_iff.1 h.hq).1
theorem Pr.keep (h : Pr w F q p v d xs) (hk : ∀ j, F j → w'.heap[j]? = w.heap[j]?) (hs : w.heap.size ≤ w'.heap.size) : Pr w' F q p v d xs :=
  ⟨(hk q h.fq).trans h.hq, h.hn.keep fun j _ hj => hk j (h.fc j hj), OwnS.keep h.od fun j hj => hk j (h.fd j hj), h.fq, h.fc, h.fd, fun j hj => Nat.lt_of_lt_of_le (h.lt j hj) hs⟩
theorem Pr.below (h : Pr w F q p v d xs) (hb : Below w.heap.size w w') : Pr w' F q p v d xs := h.keep (fun j hj => hb.block j (h.lt j hj)) hb.size
theorem Pr.mono {G : Nat → Prop} (h : Pr w F q p v d xs) (hg : ∀ j, F j → G j) (hl : ∀ j, G j → j < w.heap.size) : Pr w G q p v d xs := ⟨h.hq, h.hn, h.od, hg _ h.fq, fun j hj => hg j (h.fc j hj), fun j hj => hg j (h.fd j hj), hl⟩
theorem Pr.qc (h : Pr w F q p v d xs) : ¬ Fc p v q := fun e => by
  rcases e with e | e
  · have h2 := h.hq
    rw [e, h.hn.blk] at h2; cases h2
  · obtain ⟨cur, h2⟩ := OwnS.type h.hn.own e
    rw [h.hq] at h2; cases h2
theorem Pr.dc (h : Pr w F q p v d xs) {j : Nat} (hj : d.ownBlock = some j) : ¬ Fc p v j := fun e => by
  obtain ⟨cur, h2⟩ := OwnS.type h.od hj
  rcases e with e | e
  · rw [e, h.hn.blk] at h2; cases h2
  · obtain ⟨cur', h3⟩ := OwnS.type h.hn.own e
    rw [h2] at h3; cases h3
theorem Pr.dq (h : Pr w F q p v d xs) : ¬ d.ownBlock = some q := fun e => by
  obtain ⟨cur, h2⟩ := OwnS.type h.od e
  rw [h.hq] at h2; cases h2
theorem Pr.cells (h : Pr w F q p v d xs) : w.cell? ⟨q, 0, none⟩ = some (.pointer (some ⟨p, 0, none⟩)) ∧ w.cell? ⟨q, 1, none⟩ = some d ∧ ∀ j, w.frozen? ⟨q, j, none⟩ = false :=
  ⟨cell_of_row _ _ _ _ _ _ h.hq, cell_of_row _ _ _ _ _ _ h.hq, fun _ => frozen_of_row _ _ _ _ _ h.hq⟩

/-- What stands when the chain has been turned and the document's list has not: the links in memory are ys, the document's xs. -/
structure Mid (w : World) (F : Nat → Prop) (q p : Nat) (v d : Value) (ys xs : List Lk) : Prop where
  hq : w.heap[q]? = some (.cells #[.pointer (some ⟨p, 0, none⟩), d] 63 (0, 0))
  hn : Hn w (Fc p v) p v ys
  od : OwD w d xs
  fq : F q
  fc : ∀ j, Fc p v j → F j
  fd : ∀ j, d.ownBlock = some j → F j
  lt : ∀ j, F j → j < w.heap.size
theorem Hn.own_blocks {G : Nat → Prop} {ys : List Lk} (h : Hn w G p v ys) : Hn w (Fc p v) p v ys := ⟨h.blk, h.own, h.good, .inl rfl, fun _ hj => .inr hj⟩
theorem upto_lt {F : Nat → Prop} {w w' : World} (h : ∀ j, F j → j < w.heap.size) (hs : w.heap.size ≤ w'.heap.size) : ∀ j, upto F w w' j → j < w'.heap.size := fun j hj => by
  rcases hj with hj | hj
  · exact Nat.lt_of_lt_of_le (h j hj) hs
  · exact hj.2
/-- The chain was turned. -/
theorem Pr.turn {ys : List Lk} (h : Pr w F q p v d xs) (k : HnTo w (Fc p v) p v xs ys w') : ∃ v', Mid w' (upto F w w') q p v' d ys xs ∧ Chg F w w' := by
  obtain ⟨v', hv⟩ := k.hn
  have hc : Chg F w w' := k.chg.mono fun j _ hj => h.fc j hj
  refine ⟨v', ⟨(k.chg.block q h.qlt h.qc).trans h.hq, hv.own_blocks, OwnS.keep h.od fun j hj => k.chg.block j (OwnS.inside h.od j hj).2 (h.dc hj), .inl h.fq, fun j hj => ?_, fun j hj => .inl (h.fd j hj), upto_lt h.lt hc.size⟩, hc⟩
  have : upto (Fc p v) w w' j := by
    rcases hj with e | e
    · exact e ▸ hv.fp
    · exact hv.fv j e
  rcases this with h1 | h1
  · exact .inl (h.fc j h1)
  · exact .inr h1
theorem Mid.qlt {ys : List Lk} (h : Mid w F q p v d ys xs) : q < w.heap.size := (Array.getElem?_eq_some_iff.1 h.hq).1
theorem Mid.cells {ys : List Lk} (h : Mid w F q p v d ys xs) : w.cell? ⟨q, 0, none⟩ = some (.pointer (some ⟨p, 0, none⟩)) ∧ w.cell? ⟨q, 1, none⟩ = some d ∧ ∀ j, w.frozen? ⟨q, j, none⟩ = false :=
  ⟨cell_of_row _ _ _ _ _ _ h.hq, cell_of_row _ _ _ _ _ _ h.hq, fun _ => frozen_of_row _ _ _ _ _ h.hq⟩
/-- The document's list was turned too, and laid into the pair. -/
theorem Mid.lay {ys : List Lk} {d' : Value} {w2 : World} (h : Mid w F q p v d ys xs) (k : DocTo w d ys d' w2) : Pr (w2.setCell ⟨q, 1, none⟩ d') (upto F w w2) q p v d' ys ∧ Chg F w (w2.setCell ⟨q, 1, none⟩ d') := by
  have hq2 := (k.bel.block q h.qlt).trans h.hq
  have off : ∀ j, j ≠ q → (w2.setCell ⟨q, 1, none⟩ d').heap[j]? = w2.heap[j]? := fun j hj => Below.heap_setCell _ _ _ j hj
  have hcq : ∀ j, Fc p v j → j ≠ q := fun j hj e => by
    subst e
    rcases hj with e | e
    · have h2 := h.hq
      rw [e, h.hn.blk] at h2; cases h2
    · obtain ⟨cur, h2⟩ := OwnS.type h.hn.own e
      rw [h.hq] at h2; cases h2
  have hdq : ∀ j, d'.ownBlock = some j → j ≠ q := fun j hj e => by
    subst e
    obtain ⟨cur, h2⟩ := OwnS.type k.own hj
    rw [hq2] at h2; cases h2
  refine ⟨⟨?_, h.hn.keep fun j hl hj => (off j (hcq j hj)).trans (k.bel.block j hl), OwnS.keep k.own fun j hj => off j (hdq j hj), .inl h.fq, fun j hj => .inl (h.fc j hj), fun j hj => ?_, fun j hj => ?_⟩, (Chg.new k.bel).setCell _ _ fun _ => h.fq⟩
  · rw [heap_setCell_same w2 q 1 _ _ d' hq2]; rfl
  · rcases k.new with e | e
    · exact .inl (h.fd j (e ▸ hj))
    · exact .inr ⟨e j hj, (OwnS.inside k.own j hj).2⟩
  · have := upto_lt h.lt k.bel.size j hj
    simpa using this
theorem Mid.below {ys : List Lk} (h : Mid w F q p v d ys xs) (hb : Below w.heap.size w w') : Mid w' F q p v d ys xs :=
  ⟨(hb.block q h.qlt).trans h.hq, h.hn.below hb, OwnS.below h.od hb, h.fq, h.fc, h.fd, fun j hj => Nat.lt_of_lt_of_le (h.lt j hj) hb.size⟩
end
/-- A pair that is new. -/
theorem pr_new (w : World) : Pr ((w.alloc (.cells #[.slice none 0 0] 60)).alloc (.cells #[.pointer (some ⟨w.heap.size, 0, none⟩), .slice none 0 0] 63)) (fun j => w.heap.size ≤ j ∧ j < w.heap.size + 2) (w.heap.size + 1) w.heap.size (.slice none 0 0) (.slice none 0 0) [] := by
  have h1 := heap_alloc_new (w.alloc (.cells #[.slice none 0 0] 60)) (.cells #[.pointer (some ⟨w.heap.size, 0, none⟩), .slice none 0 0] 63)
  rw [show (w.alloc (.cells #[.slice none 0 0] 60)).heap.size = w.heap.size + 1 by simp] at h1
  refine ⟨h1, ⟨by rw [Below.heap_alloc _ _ _ (by simp)]; exact heap_alloc_new w _, OwnS.nil _ _ _ _, Good.nil, .inl rfl, (fun j e => by cases e)⟩, OwnS.nil _ _ _ _, by omega, fun j hj => ?_, (fun j e => by cases e), fun j hj => by simp; omega⟩
  rcases hj with e | e
  · omega
  · cases e

/-- The link of a step; what a step leaves. -/
def stL (s : Stc) : Lk := ⟨s.n, s.v, s.d⟩
def nxt (xs : List Lk) (s : Stc) : List Lk := if s.k = 1 then addL xs (stL s) else if s.k = 4 then pruL xs s.n else xs
theorem nxt_len (xs : List Lk) (s : Stc) : (nxt xs s).length ≤ xs.length + 1 := by
  unfold nxt
  split
  · exact (addL_len xs _).2
  · split
    · unfold pruL; rw [List.length_drop]; omega
    · omega
/-- What a step does. -/
structure StepTo (w : World) (F : Nat → Prop) (q p : Nat) (xs : List Lk) (w' : World) : Prop where
  pr : ∃ v d, Pr w' (upto F w w') q p v d xs
  chg : Chg F w w'
theorem StepTo.same {w w' : World} {F : Nat → Prop} {q p : Nat} {v d : Value} {xs : List Lk} (h : Pr w F q p v d xs) (hb : Below w.heap.size w w') : StepTo w F q p xs w' :=
  ⟨⟨v, d, (h.below hb).mono (fun _ hj => .inl hj) (upto_lt h.lt hb.size)⟩, .new hb⟩
theorem StepTo.pre {w w1 w' : World} {F : Nat → Prop} {q p : Nat} {xs : List Lk} (hb : Below w.heap.size w w1) (h : StepTo w1 F q p xs w') (hl : ∀ j, F j → j < w.heap.size) : StepTo w F q p xs w' := by
  obtain ⟨v, d, hp⟩ := h.pr
  refine ⟨⟨v, d, hp.mono (fun j hj => ?_) (upto_lt hl (Nat.le_trans hb.size h.chg.size))⟩, (Chg.new hb).trans h.chg fun _ _ e => e⟩
  rcases hj with hj | ⟨h1, h2⟩
  · exact .inl hj
  · exact .inr ⟨Nat.le_trans hb.size h1, h2⟩
theorem StepTo.post {w w1 w' : World} {F : Nat → Prop} {q p : Nat} {xs : List Lk} (h : StepTo w F q p xs w1) (hb : Below w1.heap.size w1 w') : StepTo w F q p xs w' := by
  obtain ⟨v, d, hp⟩ := h.pr
  refine ⟨⟨v, d, (hp.below hb).mono (fun j hj => ?_) (fun j hj => ?_)⟩, h.chg.trans (.new hb (S := F)) fun _ _ e => e⟩
  · rcases hj with hj | ⟨h1, h2⟩
    · exact .inl hj
    · exact .inr ⟨h1, Nat.lt_of_lt_of_le h2 hb.size⟩
  · rcases hj with hj | hj
    · exact Nat.lt_of_lt_of_le (hp.lt j (.inl hj)) hb.size
    · exact hj.2

end Go.Proofs.Ytncmnhomloanaab

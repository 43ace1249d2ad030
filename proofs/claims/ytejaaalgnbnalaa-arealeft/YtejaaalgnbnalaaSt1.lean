/- The program's area and the document's, which go the same way: what stands in memory. -/
import Derived.Test.YtejaaalgnbnalaaDc7
import Derived.Test.YtejaaalgnbnalaaAw2
import Derived.Test.YtejaaalgnbnalaaOpenStp
namespace Go.Proofs.Ytejaaalgnbnalaa
open Go.RowKit

/-- A set of blocks, and all that come later. -/
def grow (w : World) (F : Nat → Prop) (j : Nat) : Prop := F j ∨ w.heap.size ≤ j

/-- In block pp lie both: the program's area in block p, with its own bytes, and the document's, which may be a step behind. F: the blocks that are theirs. -/
structure Md (w : World) (F : Nat → Prop) (pp p : Nat) (v da sa : Value) (Bd : Nat) (bd : List Nat) (kd : Nat) (B : Nat) (bs : List Nat) (k : Nat) : Prop where
  blk : w.heap[pp]? = some (.cells #[.pointer (some ⟨p, 0, none⟩), .int .i64 (Bd : Int), da, sa] 54 (0, 0))
  ar : Ar w p 0 v B bs k
  dv : Dv w da sa bd kd
  sep1 : ¬ Ft p v pp
  sep2 : ∀ j, da.ownBlock = some j ∨ sa.ownBlock = some j → ¬ Ft p v j ∧ j ≠ pp
  foot : ∀ j, j = pp ∨ Ft p v j ∨ da.ownBlock = some j ∨ sa.ownBlock = some j → F j

/-- The document's area in the pair, laid anew. -/
abbrev set3 (w : World) (pp : Nat) (B : Int) (da sa : Value) : World := ((w.setCell ⟨pp, 1, none⟩ (.int .i64 B)).setCell ⟨pp, 2, none⟩ da).setCell ⟨pp, 3, none⟩ sa

section
variable {w w' : World} {F : Nat → Prop} {pp p : Nat} {v da sa : Value} {Bd : Nat} {bd : List Nat} {kd B : Nat} {bs : List Nat} {k : Nat} {B' : Nat} {bs' : List Nat} {k' : Nat}
theorem Md.lt (h : Md w F pp p v da sa Bd bd kd B bs k) : pp < w.heap.size := (Array.getElem?_eq_some_iff.1 h.blk).1
theorem Md.inside (h : Md w F pp p v da sa Bd bd kd B bs k) : ∀ j, j = pp ∨ Ft p v j ∨ da.ownBlock = some j ∨ sa.ownBlock = some j → j < w.heap.size := fun j hj => by
  rcases hj with rfl | hj | hj | hj
  · exact h.lt
  · exact h.ar.inside j hj
  · exact (h.dv.by_.inside j hj).2
  · exact (h.dv.sf.inside j hj).2
theorem Md.cells (h : Md w F pp p v da sa Bd bd kd B bs k) : (w.cell? ⟨pp, 0, none⟩ = some (.pointer (some ⟨p, 0, none⟩)) ∧ w.cell? ⟨pp, 1, none⟩ = some (.int .i64 (Bd : Int)) ∧ w.cell? ⟨pp, 2, none⟩ = some da ∧ w.cell? ⟨pp, 3, none⟩ = some sa) ∧
    (w.frozen? ⟨pp, 0, none⟩ = false ∧ w.frozen? ⟨pp, 1, none⟩ = false ∧ w.frozen? ⟨pp, 2, none⟩ = false ∧ w.frozen? ⟨pp, 3, none⟩ = false) :=
  ⟨⟨cell_of_row _ _ _ _ _ _ h.blk, cell_of_row _ _ _ _ _ _ h.blk, cell_of_row _ _ _ _ _ _ h.blk, cell_of_row _ _ _ _ _ _ h.blk⟩, frozen_of_row _ _ _ _ _ h.blk, frozen_of_row _ _ _ _ _ h.blk, frozen_of_row _ _ _ _ _ h.blk, frozen_of_row _ _ _ _ _ h.blk⟩
theorem Md.mono {G : Nat → Prop} (h : Md w F pp p v da sa Bd bd kd B bs k) (hG : ∀ j, F j → G j) : Md w G pp p v da sa Bd bd kd B bs k :=
  ⟨h.blk, h.ar, h.dv, h.sep1, h.sep2, fun j hj => hG j (h.foot j hj)⟩
/-- The set of blocks held down to those that are there. -/
theorem Md.shut (h : Md w F pp p v da sa Bd bd kd B bs k) : Md w (fun j => F j ∧ j < w.heap.size) pp p v da sa Bd bd kd B bs k :=
  ⟨h.blk, h.ar, h.dv, h.sep1, h.sep2, fun j hj => ⟨h.foot j hj, h.inside j hj⟩⟩
theorem Md.keep (h : Md w F pp p v da sa Bd bd kd B bs k) (hk : ∀ j, j = pp ∨ Ft p v j ∨ da.ownBlock = some j ∨ sa.ownBlock = some j → w'.heap[j]? = w.heap[j]?) : Md w' F pp p v da sa Bd bd kd B bs k :=
  ⟨(hk pp (.inl rfl)).trans h.blk, h.ar.keep (hk p (.inr (.inl (.inl rfl)))) (fun j hj => hk j (.inr (.inl (.inr hj)))),
    ⟨h.dv.by_.keep fun j hj => hk j (.inr (.inr (.inl hj))), h.dv.sf.keep fun j hj => hk j (.inr (.inr (.inr hj))), h.dv.le⟩, h.sep1, h.sep2, h.foot⟩
theorem Md.below (h : Md w F pp p v da sa Bd bd kd B bs k) (hb : Below w.heap.size w w') : Md w' F pp p v da sa Bd bd kd B bs k := h.keep fun j hj => hb.block j (h.inside j hj)
theorem Md.chg {S : Nat → Prop} (h : Md w F pp p v da sa Bd bd kd B bs k) (hc : Chg S w w') (hs : ∀ j, F j → ¬ S j) : Md w' F pp p v da sa Bd bd kd B bs k :=
  h.keep fun j hj => hc.block j (h.inside j hj) (hs j (h.foot j hj))
/-- A call of the program's area. -/
theorem Md.prog (h : Md w F pp p v da sa Bd bd kd B bs k) (hm : Moved w p 0 v B' bs' k' w') : ∃ v', Md w' (grow w F) pp p v' da sa Bd bd kd B' bs' k' := by
  obtain ⟨⟨v', h1, h2⟩, hc, _⟩ := hm
  have hft : ∀ j, Ft p v' j → Ft p v j ∨ w.heap.size ≤ j := fun j hj => by
    rcases hj with rfl | hj
    · exact .inl (.inl rfl)
    · rcases h2 with h2 | h2
      · exact .inl (.inr (h2 ▸ hj))
      · exact .inr (h2 j hj)
  refine ⟨v', (hc.block pp h.lt h.sep1).trans h.blk, h1, ⟨h.dv.by_.keep fun j hj => hc.block j (h.dv.by_.inside j hj).2 (h.sep2 j (.inl hj)).1, h.dv.sf.keep fun j hj => hc.block j (h.dv.sf.inside j hj).2 (h.sep2 j (.inr hj)).1, h.dv.le⟩, ?_, ?_, ?_⟩
  · intro hj
    rcases hft pp hj with h3 | h3
    · exact h.sep1 h3
    · have := h.lt; omega
  · intro j hj
    refine ⟨fun h4 => ?_, (h.sep2 j hj).2⟩
    rcases hft j h4 with h3 | h3
    · exact (h.sep2 j hj).1 h3
    · have := h.inside j (.inr (.inr hj)); omega
  · intro j hj
    rcases hj with rfl | hj | hj
    · exact .inl (h.foot _ (.inl rfl))
    · rcases hft j hj with h3 | h3
      · exact .inl (h.foot j (.inr (.inl h3)))
      · exact .inr h3
    · exact .inl (h.foot j (.inr (.inr hj)))
theorem Md.prog_chg (h : Md w F pp p v da sa Bd bd kd B bs k) (hm : Moved w p 0 v B' bs' k' w') : Chg F w w' := hm.chg.mono fun j _ hj => h.foot j (.inr (.inl hj))
theorem set3_keep (w : World) (pp : Nat) (B : Int) (da sa : Value) (j : Nat) (hj : j ≠ pp) : (set3 w pp B da sa).heap[j]? = w.heap[j]? :=
  (Below.heap_setCell _ _ _ _ hj).trans ((Below.heap_setCell _ _ _ _ hj).trans (Below.heap_setCell _ _ _ _ hj))
theorem set3_blk {w : World} {pp : Nat} {x y z u : Value} (h : w.heap[pp]? = some (.cells #[x, y, z, u] 54 (0, 0))) (B : Int) (da sa : Value) : (set3 w pp B da sa).heap[pp]? = some (.cells #[x, .int .i64 B, da, sa] 54 (0, 0)) :=
  heap_setCell_same _ pp 3 _ _ sa (heap_setCell_same _ pp 2 _ _ da (heap_setCell_same w pp 1 _ _ (.int .i64 B) h))
/-- The document's area catches up: its answer is new memory. -/
theorem Md.doc {da' sa' : Value} (h : Md w F pp p v da sa Bd bd kd B bs k) (hD : Dn w da' sa' bs k w') : Md (set3 w' pp (B : Int) da' sa') (grow w F) pp p v da' sa' B bs k B bs k := by
  have h1 := h.below hD.bel
  have hne : ∀ j, Ft p v j → j ≠ pp := fun j hj e => h.sep1 (e ▸ hj)
  have hnew : ∀ j, da'.ownBlock = some j ∨ sa'.ownBlock = some j → w.heap.size ≤ j := fun j hj => by
    rcases hj with hj | hj
    · exact (hD.by_.inside j hj).1
    · exact (hD.sf.inside j hj).1
  have hlt := h.lt
  refine ⟨set3_blk h1.blk _ _ _, h1.ar.keep (set3_keep _ _ _ _ _ _ (hne p (.inl rfl))) (fun j hj => set3_keep _ _ _ _ _ _ (hne j (.inr hj))),
    ⟨(hD.dv.by_).keep fun j hj => set3_keep _ _ _ _ _ _ (by have := hnew j (.inl hj); omega), (hD.dv.sf).keep fun j hj => set3_keep _ _ _ _ _ _ (by have := hnew j (.inr hj); omega), hD.le⟩, h.sep1, ?_, ?_⟩
  · intro j hj
    have := hnew j hj
    exact ⟨fun h4 => by have := h.ar.inside j h4; omega, by omega⟩
  · intro j hj
    rcases hj with rfl | hj | hj
    · exact .inl (h.foot _ (.inl rfl))
    · exact .inl (h.foot j (.inr (.inl hj)))
    · exact .inr (hnew j hj)
/-- .. its answer is the same area. -/
theorem Md.doc_same (h : Md w F pp p v da sa B bs k B bs k) (hb : Below w.heap.size w w') : Md (set3 w' pp (B : Int) da sa) F pp p v da sa B bs k B bs k := by
  have h1 := h.below hb
  have hne : ∀ j, Ft p v j → j ≠ pp := fun j hj e => h.sep1 (e ▸ hj)
  exact ⟨set3_blk h1.blk _ _ _, h1.ar.keep (set3_keep _ _ _ _ _ _ (hne p (.inl rfl))) (fun j hj => set3_keep _ _ _ _ _ _ (hne j (.inr hj))),
    ⟨(h1.dv.by_).keep fun j hj => set3_keep _ _ _ _ _ _ (h.sep2 j (.inl hj)).2, (h1.dv.sf).keep fun j hj => set3_keep _ _ _ _ _ _ (h.sep2 j (.inr hj)).2, h.dv.le⟩, h.sep1, h.sep2, h.foot⟩
theorem Md.set3_chg {w2 : World} (h : Md w F pp p v da sa Bd bd kd B bs k) (hc : Chg F w w2) (b : Int) (x y : Value) : Chg F w (set3 w2 pp b x y) :=
  ((hc.setCell _ _ (fun _ => h.foot pp (.inl rfl))).setCell _ _ (fun _ => h.foot pp (.inl rfl))).setCell _ _ (fun _ => h.foot pp (.inl rfl))
end

/-- Both areas, alike. -/
def Pm (w : World) (F : Nat → Prop) (pp B : Nat) (bs : List Nat) (k : Nat) : Prop := ∃ p v da sa, Md w F pp p v da sa B bs k B bs k
theorem Pm.le {w : World} {F : Nat → Prop} {pp B : Nat} {bs : List Nat} {k : Nat} (h : Pm w F pp B bs k) : k ≤ bs.length := by
  obtain ⟨p, v, da, sa, h⟩ := h
  exact h.dv.le
theorem grow_trans {w w1 : World} {F : Nat → Prop} (h : w.heap.size ≤ w1.heap.size) : ∀ j, grow w1 (grow w F) j → grow w F j := fun j hj => by
  rcases hj with hj | hj
  · exact hj
  · exact .inr (Nat.le_trans h hj)
theorem grow_same {w w1 : World} {F : Nat → Prop} (h : w.heap.size ≤ w1.heap.size) : ∀ j, grow w1 F j → grow w F j := fun j hj => by
  rcases hj with hj | hj
  · exact .inl hj
  · exact .inr (Nat.le_trans h hj)

/-- What a step leaves: true, both areas alike, all else as it was. -/
structure Stepd (w : World) (F : Nat → Prop) (pp B : Nat) (bs : List Nat) (k : Nat) (e : Ending) (w' : World) : Prop where
  ans : e = .returned (.bool true)
  pm : Pm w' (grow w F) pp B bs k
  chg : Chg F w w'

/-- A step's struct, made at the call's beginning. -/
def BoxS (w : World) (q : Nat) (s : Stp) : Prop := w.heap[q]? = some (.cells #[.int .i64 s.k, .int .i64 s.a, .int .i64 s.b, .slice s.d.a s.d.p.length s.d.c] 47 (0, 0))
theorem BoxS.lt {w : World} {q : Nat} {s : Stp} (h : BoxS w q s) : q < w.heap.size := (Array.getElem?_eq_some_iff.1 h).1
theorem BoxS.cells {w : World} {q : Nat} {s : Stp} (h : BoxS w q s) : w.cell? ⟨q, 0, none⟩ = some (.int .i64 s.k) ∧ w.cell? ⟨q, 1, none⟩ = some (.int .i64 s.a) ∧ w.cell? ⟨q, 2, none⟩ = some (.int .i64 s.b) ∧ w.cell? ⟨q, 3, none⟩ = some (.slice s.d.a s.d.p.length s.d.c) :=
  ⟨cell_of_row _ _ _ _ _ _ h, cell_of_row _ _ _ _ _ _ h, cell_of_row _ _ _ _ _ _ h, cell_of_row _ _ _ _ _ _ h⟩
theorem BoxS.new (w : World) (s : Stp) : BoxS (w.alloc (.cells #[.int .i64 s.k, .int .i64 s.a, .int .i64 s.b, .slice s.d.a s.d.p.length s.d.c] 47)) w.heap.size s := heap_alloc_new w _
/-- A step's value. -/
abbrev valS (s : Stp) : Value := .agg #[.int .i64 s.k, .int .i64 s.a, .int .i64 s.b, .slice s.d.a s.d.p.length s.d.c]

end Go.Proofs.Ytejaaalgnbnalaa

/- An entry that is being read: its box, the box of the answer, the reader. -/
import Derived.Test.YtkacfpmninmjkaaGreatEe6
namespace Go.Proofs.YtkacfpmninmjkaaGreat
open Go.RowKit

/-- The block E holds just an entry. -/
def BoxN (w : World) (E : Nat) (x : En) (a : Option Addr) (c : Nat) : Prop :=
  w.heap[E]? = some (.cells #[.int .i64 x.kind, .int .i64 x.stamp, .int .i64 x.count, .string x.key, .slice a x.val.length c, .bool x.dead] 77 (0, 0))
theorem BoxN.inE {w : World} {E : Nat} {x : En} {a : Option Addr} {c : Nat} (h : BoxN w E x a c) : InE w E x a c := by
  constructor <;> (rw [cell_of_row _ _ _ _ _ _ h]; rfl)
theorem BoxN.soft {w : World} {E : Nat} {x : En} {a : Option Addr} {c : Nat} (h : BoxN w E x a c) (i : Nat) : w.frozen? ⟨E, i, none⟩ = false := frozen_of_row w E i _ _ h
theorem BoxN.lt {w : World} {E : Nat} {x : En} {a : Option Addr} {c : Nat} (h : BoxN w E x a c) : E < w.heap.size := (Array.getElem?_eq_some_iff.1 h).1
theorem BoxN.grown {w w' : World} {E p : Nat} {x : En} {a : Option Addr} {c : Nat} (h : BoxN w E x a c) (hg : w.grownBy w' (some p)) (hne : E ≠ p) : BoxN w' E x a c :=
  (hg.block E h.lt (fun e => hne (Option.some.inj e))).trans h
theorem BoxN.far {w : World} {E : Nat} {x : En} {a : Option Addr} {c : Nat} (h : BoxN w E x a c) {G : Nat} (hne : E ≠ G) (j : Nat) (v : Value) : BoxN (w.setCell ⟨G, j, none⟩ v) E x a c :=
  (Below.heap_setCell w ⟨G, j, none⟩ v E hne).trans h
theorem RowB.set_ent {w : World} {E : Nat} {x : En} {ae a : Option Addr} {c : Nat} {zs : List Nat} (hr : RowB w a zs) (h : BoxN w E x ae c) (j : Nat) (v : Value) : RowB (w.setCell ⟨E, j, none⟩ v) a zs := by
  rcases hr with h0 | ⟨b, o, rfl, hlt, hcc⟩
  · exact .inl h0
  · by_cases h0 : zs.length = 0
    · exact .inl h0
    · have hne : b ≠ E := fun e => by
        subst e
        have h1 := hcc 0 (by omega)
        rw [cell_of_row _ _ _ _ _ _ h] at h1
        match o, h1 with
        | 0, h1 => simp at h1
        | 1, h1 => simp at h1
        | 2, h1 => simp at h1
        | 3, h1 => simp at h1
        | 4, h1 => simp at h1
        | 5, h1 => simp at h1
        | o + 6, h1 => simp at h1
      refine .inr ⟨b, o, rfl, by simpa using hlt, fun i hi => ?_⟩
      rw [World.cell?_of_block (w := w) (Below.heap_setCell w ⟨E, j, none⟩ v b hne)]
      exact hcc i hi
theorem Rst.set_ent {w : World} {E p : Nat} {x : En} {ae : Option Addr} {c : Nat} {s : List Nat × Nat} (hr : Rst w (some ⟨p, 0, none⟩) s) (h : BoxN w E x ae c) (hne : E ≠ p) (j : Nat) (v : Value) : Rst (w.setCell ⟨E, j, none⟩ v) (some ⟨p, 0, none⟩) s := by
  rcases hr with ⟨h1, _⟩ | ⟨q, h1, ⟨hlt, a, cap, hh, hrow, h3⟩, h8⟩
  · cases h1
  · cases h1
    exact .inr ⟨p, rfl, ⟨by simpa using hlt, a, cap, (Below.heap_setCell w ⟨E, j, none⟩ v p (fun e => hne e.symm)).trans hh, hrow.set_ent h j v, h3⟩, h8⟩
theorem grown_new {w w' : World} {r : Option Nat} (h : w.grownBy w' r) {E : Nat} (hE : w.heap.size ≤ E) (j : Nat) (v : Value) : w.grownBy (w'.setCell ⟨E, j, none⟩ v) r :=
  ⟨h.os, h.tape, h.output, by simpa using h.size, fun k hk hne => by
    rw [Below.heap_setCell _ _ _ _ (show k ≠ E by omega)]; exact h.block k hk hne⟩
theorem grown_two {w w1 w2 : World} {r : Option Nat} (h : w.grownBy w1 r) (h2 : w1.grownBy w2 r) : w.grownBy w2 r :=
  ⟨h2.os.trans h.os, h2.tape.trans h.tape, h2.output.trans h.output, Nat.le_trans h.size h2.size, fun k hk hne => (h2.block k (Nat.lt_of_lt_of_le hk h.size) hne).trans (h.block k hk hne)⟩

/-- While an entry is taken: the reader in p, the entry so far in E, the answer's box behind what was there. -/
structure TkS (w0 w : World) (p E : Nat) (s : List Nat × Nat) (x : En) : Prop where
  rst : Rst w (some ⟨p, 0, none⟩) s
  box : BoxN w E x none 0
  res : BoxN w w0.heap.size zeroEn none 0
  grow : w0.grownBy w (some p)
  lt : p < w0.heap.size
  eg : w0.heap.size < E
theorem TkS.read {w0 w w' : World} {p E : Nat} {s s' : List Nat × Nat} {x : En} (h : TkS w0 w p E s x) (hr : Rst w' (some ⟨p, 0, none⟩) s') (hg : w.grownBy w' (some p)) : TkS w0 w' p E s' x :=
  ⟨hr, h.box.grown hg (by have := h.lt; have := h.eg; omega), h.res.grown hg (by have := h.lt; omega), grown_two h.grow hg, h.lt, h.eg⟩
theorem TkS.put {w0 w : World} {p E : Nat} {s : List Nat × Nat} {x x' : En} (h : TkS w0 w p E s x) (j : Nat) (v : Value) (hx : BoxN (w.setCell ⟨E, j, none⟩ v) E x' none 0) : TkS w0 (w.setCell ⟨E, j, none⟩ v) p E s x' :=
  ⟨h.rst.set_ent h.box (by have := h.lt; have := h.eg; omega) j v, hx, h.res.far (by have := h.eg; omega) j v, grown_new h.grow (by have := h.eg; omega) j v, h.lt, h.eg⟩
theorem TkS.setS {w0 w : World} {p E : Nat} {s : List Nat × Nat} {x : En} (h : TkS w0 w p E s x) (n : Int) : TkS w0 (w.setCell ⟨E, 1, none⟩ (.int .i64 n)) p E s { x with stamp := n } := by
  refine h.put 1 _ ?_
  unfold BoxN
  rw [heap_setCell_same w E 1 _ _ _ h.box]; rfl
theorem TkS.setC {w0 w : World} {p E : Nat} {s : List Nat × Nat} {x : En} (h : TkS w0 w p E s x) (n : Int) : TkS w0 (w.setCell ⟨E, 2, none⟩ (.int .i64 n)) p E s { x with count := n } := by
  refine h.put 2 _ ?_
  unfold BoxN
  rw [heap_setCell_same w E 2 _ _ _ h.box]; rfl
theorem TkS.setK {w0 w : World} {p E : Nat} {s : List Nat × Nat} {x : En} (h : TkS w0 w p E s x) (t : ByteArray) : TkS w0 (w.setCell ⟨E, 3, none⟩ (.string t)) p E s { x with key := t } := by
  refine h.put 3 _ ?_
  unfold BoxN
  rw [heap_setCell_same w E 3 _ _ _ h.box]; rfl
theorem TkS.setD {w0 w : World} {p E : Nat} {s : List Nat × Nat} {x : En} (h : TkS w0 w p E s x) (d : Bool) : TkS w0 (w.setCell ⟨E, 5, none⟩ (.bool d)) p E s { x with dead := d } := by
  refine h.put 5 _ ?_
  unfold BoxN
  rw [heap_setCell_same w E 5 _ _ _ h.box]; rfl
theorem TkS.start {w w1 : World} {p : Nat} {s s1 : List Nat × Nat} (k : Int) (hr : Rst w (some ⟨p, 0, none⟩) s) (hr1 : Rst w1 (some ⟨p, 0, none⟩) s1) (hg : (boxE w zeroEn none 0).grownBy w1 (some p)) :
    TkS w (boxE w1 ⟨k, 0, 0, .empty, [], false⟩ none 0) p w1.heap.size s1 ⟨k, 0, 0, .empty, [], false⟩ := by
  have hlt : p < w.heap.size := by
    rcases hr with ⟨h, _⟩ | ⟨q, h, h2, _⟩
    · cases h
    · cases h; exact h2.1
  have hb := boxE_below w1 ⟨k, 0, 0, .empty, [], false⟩ none 0
  have hz : w.heap.size < w1.heap.size := by have := hg.size; simp at this; omega
  have hres : BoxN w1 w.heap.size zeroEn none 0 := BoxN.grown (heap_alloc_new w _) hg (by omega)
  refine ⟨hr1.below hb, heap_alloc_new w1 _, (hb.block _ hz).trans hres, ?_, hlt, hz⟩
  refine grown_post (w1 := w1) ?_ hb
  have hb0 := boxE_below w zeroEn none 0
  exact grown_pre hb0 hg

theorem TkS.val {w0 w : World} {p E : Nat} {s : List Nat × Nat} {x : En} (h : TkS w0 w p E s x) (v : List Nat) (a : Option Addr) (c : Nat) :
    BoxN (w.setCell ⟨E, 4, none⟩ (.slice a v.length c)) E { x with val := v } a c ∧ BoxN (w.setCell ⟨E, 4, none⟩ (.slice a v.length c)) w0.heap.size zeroEn none 0 := by
  refine ⟨?_, h.res.far (by have := h.eg; omega) 4 _⟩
  unfold BoxN
  rw [heap_setCell_same w E 4 _ _ _ h.box]; rfl

/-- What take answers. -/
def TkTo (w : World) (p : Nat) (k : Int) (s : List Nat × Nat) (e : Ending) (w' : World) : Prop :=
  ∃ a c, e = .returned (.tuple #[valE (tkE k s).1.1 a c, .bool (tkE k s).1.2]) ∧ OwnB w' w.heap.size (.slice a (tkE k s).1.1.val.length c) (tkE k s).1.1.val ∧ Rst w' (some ⟨p, 0, none⟩) (tkE k s).2 ∧ w.grownBy w' (some p)

/-- The answer's box filled. -/
abbrev fillE (w : World) (R : Nat) (x : En) (a : Option Addr) (c : Nat) : World :=
  (((((w.setCell ⟨R, 0, none⟩ (.int .i64 x.kind)).setCell ⟨R, 1, none⟩ (.int .i64 x.stamp)).setCell ⟨R, 2, none⟩ (.int .i64 x.count)).setCell ⟨R, 3, none⟩ (.string x.key)).setCell ⟨R, 4, none⟩ (.slice a x.val.length c)).setCell ⟨R, 5, none⟩ (.bool x.dead)
theorem fill_any {w0 w : World} {p : Nat} {s : List Nat × Nat} (hrst : Rst w (some ⟨p, 0, none⟩) s) (hres : BoxN w w0.heap.size zeroEn none 0) (hgrow : w0.grownBy w (some p)) (hlt : p < w0.heap.size) (y : En) (a : Option Addr) (c : Nat) : Rst (fillE w w0.heap.size y a c) (some ⟨p, 0, none⟩) s ∧ w0.grownBy (fillE w w0.heap.size y a c) (some p) := by
  have hne : w0.heap.size ≠ p := by omega
  have b0 := hres
  have b1 : BoxN (w.setCell ⟨w0.heap.size, 0, none⟩ (.int .i64 y.kind)) w0.heap.size { zeroEn with kind := y.kind } none 0 := by
    unfold BoxN; rw [heap_setCell_same _ _ 0 _ _ _ b0]; rfl
  have b2 : BoxN ((w.setCell ⟨w0.heap.size, 0, none⟩ (.int .i64 y.kind)).setCell ⟨w0.heap.size, 1, none⟩ (.int .i64 y.stamp)) w0.heap.size { zeroEn with kind := y.kind, stamp := y.stamp } none 0 := by
    unfold BoxN; rw [heap_setCell_same _ _ 1 _ _ _ b1]; rfl
  have b3 : BoxN (((w.setCell ⟨w0.heap.size, 0, none⟩ (.int .i64 y.kind)).setCell ⟨w0.heap.size, 1, none⟩ (.int .i64 y.stamp)).setCell ⟨w0.heap.size, 2, none⟩ (.int .i64 y.count)) w0.heap.size { zeroEn with kind := y.kind, stamp := y.stamp, count := y.count } none 0 := by
    unfold BoxN; rw [heap_setCell_same _ _ 2 _ _ _ b2]; rfl
  have b4 : BoxN ((((w.setCell ⟨w0.heap.size, 0, none⟩ (.int .i64 y.kind)).setCell ⟨w0.heap.size, 1, none⟩ (.int .i64 y.stamp)).setCell ⟨w0.heap.size, 2, none⟩ (.int .i64 y.count)).setCell ⟨w0.heap.size, 3, none⟩ (.string y.key)) w0.heap.size { zeroEn with kind := y.kind, stamp := y.stamp, count := y.count, key := y.key } none 0 := by
    unfold BoxN; rw [heap_setCell_same _ _ 3 _ _ _ b3]; rfl
  have b5 : BoxN (((((w.setCell ⟨w0.heap.size, 0, none⟩ (.int .i64 y.kind)).setCell ⟨w0.heap.size, 1, none⟩ (.int .i64 y.stamp)).setCell ⟨w0.heap.size, 2, none⟩ (.int .i64 y.count)).setCell ⟨w0.heap.size, 3, none⟩ (.string y.key)).setCell ⟨w0.heap.size, 4, none⟩ (.slice a y.val.length c)) w0.heap.size { zeroEn with kind := y.kind, stamp := y.stamp, count := y.count, key := y.key, val := y.val } a c := by
    unfold BoxN; rw [heap_setCell_same _ _ 4 _ _ _ b4]; rfl
  refine ⟨(((((hrst.set_ent b0 hne _ _).set_ent b1 hne _ _).set_ent b2 hne _ _).set_ent b3 hne _ _).set_ent b4 hne _ _).set_ent b5 hne _ _, ?_⟩
  exact grown_new (grown_new (grown_new (grown_new (grown_new (grown_new hgrow (Nat.le_refl _) _ _) (Nat.le_refl _) _ _) (Nat.le_refl _) _ _) (Nat.le_refl _) _ _) (Nat.le_refl _) _ _) (Nat.le_refl _) _ _
theorem OwnB.fill {w : World} {base R : Nat} {v : Value} {zs : List Nat} (h : OwnB w base v zs) (hR : R < base) (y : En) (a : Option Addr) (c : Nat) : OwnB (fillE w R y a c) base v zs :=
  (((((h.set_old hR _ _).set_old hR _ _).set_old hR _ _).set_old hR _ _).set_old hR _ _).set_old hR _ _
end Go.Proofs.YtkacfpmninmjkaaGreat

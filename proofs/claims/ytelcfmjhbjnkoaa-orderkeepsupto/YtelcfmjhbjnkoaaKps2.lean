/- Lists of a call's own whose items are not told: written over, and grown. -/
import Derived.Test.YtelcfmjhbjnkoaaKps1
namespace Go.Proofs.Ytelcfmjhbjnkoaa
open Go.RowKit

attribute [local go_sem] st_float st_complex

/-- v is a slice of the call's own of n items. -/
def OwnX (w : World) (base : Nat) (v : Value) (n : Nat) : Prop := ∃ cs, w.ownsRow base 29 6 v n cs
theorem OwnI.any {w : World} {base : Nat} {v : Value} {ys : List It} (h : OwnI w base v ys) : OwnX w base v ys.length := ⟨_, h⟩
theorem OwnX.ge {w : World} {base : Nat} {v : Value} {n : Nat} (h : OwnX w base v n) {j : Nat} (hj : v.ownBlock = some j) : base ≤ j := by
  obtain ⟨cs, h⟩ := h
  exact (h.lt j hj).1
theorem OwnX.inside {w : World} {base : Nat} {v : Value} {n : Nat} (h : OwnX w base v n) : ∀ j, v.ownBlock = some j → j < w.heap.size := by
  obtain ⟨cs, h⟩ := h
  rcases h.2 with ⟨rfl, _⟩ | ⟨g, cap, cur, rfl, h3, hh, h4⟩
  · intro j e; cases e
  · intro j e; cases e; exact (Array.getElem?_eq_some_iff.1 hh).1
theorem OwnX.keep {w w' : World} {base : Nat} {v : Value} {n : Nat} {r : Option Nat} (h : OwnX w base v n) (hg : w.grownBy w' r) (hne : ∀ j, v.ownBlock = some j → r ≠ some j) : OwnX w' base v n := by
  obtain ⟨cs, h⟩ := h
  refine ⟨cs, h.1, ?_⟩
  rcases h.2 with h2 | ⟨g, cap, cur, rfl, h3, hh, h4⟩
  · exact .inl h2
  · have hlt := (Array.getElem?_eq_some_iff.1 hh).1
    exact .inr ⟨g, cap, cur, rfl, h3, (hg.block g hlt (fun e => hne g rfl e.symm)).trans hh, h4⟩
theorem OwnX.below {w w' : World} {base : Nat} {v : Value} {n : Nat} (h : OwnX w base v n) (hb : Below w.heap.size w w') : OwnX w' base v n := h.keep (grown_below hb none) (fun _ _ => by simp)
/-- Where it lies. -/
theorem OwnX.row {w : World} {base : Nat} {v : Value} {n : Nat} (h : OwnX w base v n) (hn : 0 < n) : ∃ g cap, v = .slice (some ⟨g, 0, none⟩) n cap ∧ base ≤ g ∧ g < w.heap.size ∧ n ≤ cap := by
  obtain ⟨cs, h⟩ := h
  rcases h.2 with ⟨_, h0⟩ | ⟨g, cap, cur, rfl, h3, hh, h4, _⟩
  · omega
  · exact ⟨g, cap, rfl, h3, (Array.getElem?_eq_some_iff.1 hh).1, h4⟩
theorem OwnX.there {w : World} {base g cap n : Nat} (h : OwnX w base (.slice (some ⟨g, 0, none⟩) n cap) n) {m : Nat} (hm : m < n * 6) : (∃ u, w.cell? ⟨g, m, none⟩ = some u) ∧ w.frozen? ⟨g, m, none⟩ = false := by
  obtain ⟨cs, h⟩ := h
  rcases h.2 with ⟨e, _⟩ | ⟨g', cap', cur, e, h3, hh, h4, h5, hs, _⟩
  · cases e
  · cases e
    refine ⟨?_, frozen_of_row w g m _ _ hh⟩
    rw [cell_of_row _ _ _ _ _ _ hh]
    exact ⟨_, Array.getElem?_eq_getElem (by omega)⟩
theorem OwnX.set {w : World} {base g cap n : Nat} (h : OwnX w base (.slice (some ⟨g, 0, none⟩) n cap) n) (m : Nat) (u : Value) : OwnX (w.setCell ⟨g, m, none⟩ u) base (.slice (some ⟨g, 0, none⟩) n cap) n := by
  obtain ⟨cs, h⟩ := h
  rcases h.2 with ⟨e, _⟩ | ⟨g', cap', cur, e, h3, hh, h4, h5, hs, _⟩
  · cases e
  · cases e
    have h0 := heap_setCell_same _ g m _ _ u hh
    refine ⟨_, ?_, .inr ⟨g, cap, _, rfl, h3, h0, h4, h5, by simpa using hs, rfl⟩⟩
    simp [hs]
    omega
theorem wpList_append_any (w : World) {ops : Array Oper} {rest : List Oper} {o : Oper} {act : Act} {Q : Exit → Act → World → Prop} (hgd : o.guard = none) (s x : Operand)
    (ho : o.op = .call { callee := .builtin .append, args := #[s, x], argTypes := #[24, 24] })
    (base : Nat) (v : Value) (n : Nat) (hs : act.eval s = v) (hown : OwnX w base v n) (y : It)
    (hx : act.eval x = .slice (some ⟨w.heap.size, 0, none⟩) 1 1)
    (hl : n + 1 ≤ 1000000000) (hbase : base ≤ w.heap.size)
    (h : ∀ v' w', OwnX w' base v' (n + 1) → (w.alloc (.cells #[.int .i64 y.k, .bool y.b, .int .i64 y.n, .float .f64 y.f, .complex .f64 y.r y.i, .string y.t] 29)).grownBy w' v.ownBlock → (v'.ownBlock = v.ownBlock ∨ v'.ownBlock = some (w.heap.size + 1)) → wpList Try.prog ops Q rest (act.put o.dst v') w') :
    wpList Try.prog ops Q (o :: rest) act (w.alloc (.cells #[.int .i64 y.k, .bool y.b, .int .i64 y.n, .float .f64 y.f, .complex .f64 y.r y.i, .string y.t] 29)) := by
  obtain ⟨i0, hi, hz0, hz1, hz2⟩ := info_parts infoI
  have hone : ∀ u ∈ cellsI y, u.oneCell' = true := by simp [Value.oneCell']
  have hnews : ∀ j u, (cellsI y)[j]? = some u → (w.alloc (.cells #[.int .i64 y.k, .bool y.b, .int .i64 y.n, .float .f64 y.f, .complex .f64 y.r y.i, .string y.t] 29)).cell? ((⟨w.heap.size, 0, none⟩ : Addr).add j) = some u := fun j u hu => by
    rw [Addr.add_lit, cell_of_row _ _ _ _ _ _ (heap_alloc_new w _), Nat.zero_add]
    rw [← hu]
    exact List.getElem?_toArray
  obtain ⟨cs, hown'⟩ : OwnX (w.alloc (.cells #[.int .i64 y.k, .bool y.b, .int .i64 y.n, .float .f64 y.f, .complex .f64 y.r y.i, .string y.t] 29)) base v n := hown.below ((Below.refl _ _).alloc (Nat.le_refl _) _)
  refine wpList_append_own_at _ hgd s x 24 ho base 29 i0 _ 6 64 Try.underlying24 hi hz0 hz1 hz2 rfl (by omega) v n cs hs hown' ⟨w.heap.size, 0, none⟩ 1 1 (cellsI y) hx rfl hnews hone (by unfold maxLen; omega) (by omega) (by simp; omega) ?_
  intro v4 w4 hown4 hgrow4 hnil4 hat4
  exact h v4 w4 ⟨_, hown4⟩ hgrow4 (by simpa using hat4)

/-- The first marks. -/
def marks (k : Nat) : List It := (List.range k).map mark
theorem marks_len (k : Nat) : (marks k).length = k := by simp [marks]
theorem marks_succ (k : Nat) : marks (k + 1) = marks k ++ [mark k] := by simp [marks, List.range_succ]
theorem marks_at {k i : Nat} (h : i < (marks k).length) : (marks k)[i] = mark i := by simp [marks]

end Go.Proofs.Ytelcfmjhbjnkoaa

/- The document's items: what the law hands to the document. -/
import Derived.Test.YtelcfmjhbjnkoaaRf3
namespace Go.Proofs.Ytelcfmjhbjnkoaa
open Go.RowKit

theorem ret_doc {fn : Func} {p : Tmp} (h : fn.results = #[.cell p 57]) (tmps : Array Value) (w : World) (g : Nat) (x : It) (hp : tmps.getD p undef = .pointer (some ⟨g, 0, none⟩)) (hb : DocB w g x) :
    (results fn tmps).run Try.prog w = .ok (valR x) w :=
  results_cell_row h tmps w g 57 _ (0, 0) _ hp hb Try.underlying57 rfl (by kernel_rfl)


/-- An item's cells, as the document has them. -/
abbrev cellsD (x : It) : List Value := [.int .i64 x.k, .bool x.b, .int .i64 x.n, .int .u64 (x.f : Int), .int .u64 (x.r : Int), .int .u64 (x.i : Int), .string x.t]
theorem infoD : (Try.prog.info? 57).map (fun i => (i.zero, i.size, i.bytes)) = some (some (.agg #[.int .i64 0, .bool false, .int .i64 0, .int .u64 0, .int .u64 0, .int .u64 0, .string ByteArray.empty]), 7, 64) := by kernel_rfl
/-- v is a slice of the call's own that holds the document's items ys. -/
def OwnD (w : World) (base : Nat) (v : Value) (ys : List It) : Prop := w.ownsRow base 57 7 v ys.length (ys.flatMap cellsD)
theorem flat_atD : ∀ (ys : List It) (k j : Nat) (h : k < ys.length), j < 7 → (ys.flatMap cellsD)[k * 7 + j]? = (cellsD ys[k])[j]?
  | [], k, j, h, _ => by simp at h
  | y :: ys, 0, j, h, hj => by
    rw [List.flatMap_cons, Nat.zero_mul, Nat.zero_add, List.getElem?_append_left (by simpa using hj)]
    rfl
  | y :: ys, k + 1, j, h, hj => by
    rw [List.flatMap_cons, List.getElem?_append_right (by simp; omega)]
    have e : (k + 1) * 7 + j - (cellsD y).length = k * 7 + j := by simp; omega
    rw [e, flat_atD ys k j (by simpa using h) hj]
    rfl
theorem flat_lenD (ys : List It) : (ys.flatMap cellsD).length = ys.length * 7 := by
  induction ys with
  | nil => rfl
  | cons y ys ih => rw [List.flatMap_cons, List.length_append, ih, List.length_cons]; simp; omega

theorem OwnD.row {w : World} {base : Nat} {v : Value} {ys : List It} (h : OwnD w base v ys) : ∃ a cap, v = .slice a ys.length cap ∧ RowR w a ys ∧ ys.length ≤ cap ∧ (a = none → ys.length = 0 ∧ cap = 0) := by
  rcases h.2 with ⟨rfl, h0⟩ | ⟨g, cap, cur, rfl, _, hh, hn, hm, _, ht⟩
  · exact ⟨none, 0, by rw [h0], .inl h0, by omega, fun _ => ⟨h0, rfl⟩⟩
  · refine ⟨_, cap, rfl, .inr ⟨g, 0, rfl, (Array.getElem?_eq_some_iff.1 hh).1, fun i hi => ?_⟩, hn, fun e => by cases e⟩
    have key : ∀ j, j < 7 → w.cell? ⟨g, 0 + i * 7 + j, none⟩ = (cellsD ys[i])[j]? := fun j hj => by
      rw [cell_of_row _ _ _ _ _ _ hh, ← flat_atD ys i j hi hj, ← ht, List.getElem?_take_of_lt (by omega), ← Array.getElem?_toList, Nat.zero_add]
    exact ⟨key 0 (by omega), key 1 (by omega), key 2 (by omega), key 3 (by omega), key 4 (by omega), key 5 (by omega), key 6 (by omega)⟩
theorem OwnD.keep {w w' : World} {base : Nat} {v : Value} {ys : List It} {r : Option Nat} (h : OwnD w base v ys) (hg : w.grownBy w' r) (hne : ∀ j, v.ownBlock = some j → r ≠ some j) : OwnD w' base v ys := by
  refine ⟨h.1, ?_⟩
  rcases h.2 with h2 | ⟨g, cap, cur, rfl, h3, hh, h4⟩
  · exact .inl h2
  · have hlt := (Array.getElem?_eq_some_iff.1 hh).1
    exact .inr ⟨g, cap, cur, rfl, h3, (hg.block g hlt (fun e => hne g rfl e.symm)).trans hh, h4⟩
theorem OwnD.below {w w' : World} {base : Nat} {v : Value} {ys : List It} (h : OwnD w base v ys) (hb : Below w.heap.size w w') : OwnD w' base v ys := h.keep (grown_below hb none) (fun _ _ => by simp)

/-- A list that is being filled: its first k items are laid. -/
def FillD (w : World) (g : Nat) (xs : List It) (k : Nat) : Prop :=
  ∃ cur : Array Value, w.heap[g]? = some (.cells cur 57 (0, 0)) ∧ cur.size = xs.length * 7 ∧ ∀ i (h : i < xs.length), i < k → ∀ j, j < 7 → cur[i * 7 + j]? = (cellsD xs[i])[j]?
theorem FillD.lt {w : World} {g k : Nat} {xs : List It} (h : FillD w g xs k) : g < w.heap.size := by
  obtain ⟨cur, hh, _⟩ := h
  exact (Array.getElem?_eq_some_iff.1 hh).1
theorem FillD.below {w w' : World} {B g k : Nat} {xs : List It} (h : FillD w g xs k) (hb : Below B w w') (hg : g < B) : FillD w' g xs k := by
  obtain ⟨cur, hh, h2⟩ := h
  exact ⟨cur, by rw [hb.block g hg]; exact hh, h2⟩
theorem FillD.there {w : World} {g k : Nat} {xs : List It} (h : FillD w g xs k) {m : Nat} (hm : m < xs.length * 7) : (∃ u, w.cell? ⟨g, m, none⟩ = some u) ∧ w.frozen? ⟨g, m, none⟩ = false := by
  obtain ⟨cur, hh, hs, _⟩ := h
  refine ⟨?_, frozen_of_row w g m _ _ hh⟩
  rw [cell_of_row _ _ _ _ _ _ hh]
  exact ⟨_, Array.getElem?_eq_getElem (by omega)⟩
theorem FillD.step {w : World} {g k : Nat} {xs : List It} (h : FillD w g xs k) (hk : k < xs.length) {x : It} (hx : xs[k] = x) :
    FillD (((((((w.setCell ⟨g, k * 7, none⟩ (.int .i64 x.k)).setCell ⟨g, k * 7 + 1, none⟩ (.bool x.b)).setCell ⟨g, k * 7 + 2, none⟩ (.int .i64 x.n)).setCell ⟨g, k * 7 + 3, none⟩ (.int .u64 (x.f : Int))).setCell ⟨g, k * 7 + 4, none⟩ (.int .u64 (x.r : Int))).setCell ⟨g, k * 7 + 5, none⟩ (.int .u64 (x.i : Int))).setCell ⟨g, k * 7 + 6, none⟩ (.string x.t)) g xs (k + 1) := by
  obtain ⟨cur, hh, hs, hc⟩ := h
  have h0 := heap_setCell_same _ g (k * 7) _ _ (.int .i64 x.k) hh
  have h1 := heap_setCell_same _ g (k * 7 + 1) _ _ (.bool x.b) h0
  have h2 := heap_setCell_same _ g (k * 7 + 2) _ _ (.int .i64 x.n) h1
  have h3 := heap_setCell_same _ g (k * 7 + 3) _ _ (.int .u64 (x.f : Int)) h2
  have h4 := heap_setCell_same _ g (k * 7 + 4) _ _ (.int .u64 (x.r : Int)) h3
  have h5 := heap_setCell_same _ g (k * 7 + 5) _ _ (.int .u64 (x.i : Int)) h4
  have h6 := heap_setCell_same _ g (k * 7 + 6) _ _ (.string x.t) h5
  refine ⟨_, h6, by simpa using hs, fun i hi hik j hj => ?_⟩
  simp only [Array.getElem?_setIfInBounds, Array.size_setIfInBounds]
  by_cases e : i = k
  · subst e
    rw [hx]
    match j, hj with
    | 0, _ => simp; omega
    | 1, _ => simp; omega
    | 2, _ => simp; omega
    | 3, _ => simp; omega
    | 4, _ => simp; omega
    | 5, _ => simp; omega
    | 6, _ => simp; omega
  · rw [if_neg (by omega), if_neg (by omega), if_neg (by omega), if_neg (by omega), if_neg (by omega), if_neg (by omega), if_neg (by omega)]
    exact hc i hi (by omega) j hj
theorem FillD.done {w : World} {base g : Nat} {xs : List It} (h : FillD w g xs xs.length) (hb : base ≤ g) (hl : xs.length ≤ maxLen) : OwnD w base (.slice (some ⟨g, 0, none⟩) xs.length xs.length) xs := by
  obtain ⟨cur, hh, hs, hc⟩ := h
  refine ⟨flat_lenD xs, .inr ⟨g, xs.length, cur, rfl, hb, hh, Nat.le_refl _, hl, hs, ?_⟩⟩
  apply List.ext_getElem?
  intro m
  by_cases hm : m < xs.length * 7
  · rw [List.getElem?_take_of_lt hm, Array.getElem?_toList]
    have e : m = m / 7 * 7 + m % 7 := by omega
    rw [e, hc (m / 7) (by omega) (by omega) (m % 7) (by omega), flat_atD xs (m / 7) (m % 7) (by omega) (by omega)]
  · rw [List.getElem?_eq_none (by simp; omega), List.getElem?_eq_none (by rw [flat_lenD]; omega)]


end Go.Proofs.Ytelcfmjhbjnkoaa

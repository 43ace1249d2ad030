/- Lists of lists in memory: read, and of the call's own: grown. -/
import Derived.Test.YtomfhbngpikjeabQu2L
namespace Go.Proofs.Ytomfhbngpikjeab
open Go.RowKit

/-- A row of lists: the slice's address and its elements (none: whatever the address). -/
def RwL (w : World) (a : Option Addr) (xs : List (Option Addr × Nat × Nat)) : Prop :=
  xs.length = 0 ∨ ∃ b o, a = some ⟨b, o, none⟩ ∧ b < w.heap.size ∧ ∀ i (h : i < xs.length), w.cell? ⟨b, o + i, none⟩ = some (.slice xs[i].1 xs[i].2.1 xs[i].2.2)
theorem RwL.below {w w' : World} {a : Option Addr} {xs : List (Option Addr × Nat × Nat)} (h : RwL w a xs) (hb : Below w.heap.size w w') : RwL w' a xs := by
  rcases h with h | ⟨b, o, e, hlt, hc⟩
  · exact .inl h
  · exact .inr ⟨b, o, e, Nat.lt_of_lt_of_le hlt hb.size, fun i hi => by rw [hb.cell (p := ⟨b, o + i, none⟩) hlt]; exact hc i hi⟩
theorem RwL.here {w : World} {a : Option Addr} {xs : List (Option Addr × Nat × Nat)} (h : RwL w a xs) {i : Nat} (hi : i < xs.length) :
    ∃ b o, a = some ⟨b, o, none⟩ ∧ b < w.heap.size ∧ ∀ i (h : i < xs.length), w.cell? ⟨b, o + i, none⟩ = some (.slice xs[i].1 xs[i].2.1 xs[i].2.2) := by
  rcases h with h | h
  · omega
  · exact h

/-- v is a slice of the call's own that holds xs. -/
def OwL (w : World) (base : Nat) (v : Value) (xs : List (Option Addr × Nat × Nat)) : Prop := w.ownsRow base 36 1 v xs.length (xs.map encL)
theorem OwL.row {w : World} {base : Nat} {v : Value} {xs : List (Option Addr × Nat × Nat)} (h : OwL w base v xs) : ∃ a cap, v = .slice a xs.length cap ∧ RwL w a xs ∧ xs.length ≤ cap ∧ (a = none → xs.length = 0 ∧ cap = 0) := by
  rcases h.2 with ⟨rfl, h0⟩ | ⟨g, cap, cur, rfl, _, hh, hn, hm, _, ht⟩
  · exact ⟨none, 0, by rw [h0], .inl h0, by omega, fun _ => ⟨h0, rfl⟩⟩
  · refine ⟨_, cap, rfl, .inr ⟨g, 0, rfl, (Array.getElem?_eq_some_iff.1 hh).1, fun i hi => ?_⟩, hn, fun e => by cases e⟩
    rw [Nat.zero_add, cell_of_row _ _ _ _ _ _ hh]
    have h3 : (cur.toList.take (xs.length * 1))[i]? = (xs.map encL)[i]? := by rw [ht]
    rw [List.getElem?_take_of_lt (by omega)] at h3
    rw [← Array.getElem?_toList, h3, List.getElem?_map, List.getElem?_eq_getElem hi]
    rfl
theorem OwL.ge {w : World} {base : Nat} {v : Value} {xs : List (Option Addr × Nat × Nat)} (h : OwL w base v xs) {j : Nat} (hj : v.ownBlock = some j) : base ≤ j := (h.lt j hj).1
theorem OwL.keep {w w' : World} {base : Nat} {v : Value} {xs : List (Option Addr × Nat × Nat)} {r : Option Nat} (h : OwL w base v xs) (hg : w.grownBy w' r) (hne : ∀ j, v.ownBlock = some j → r ≠ some j) : OwL w' base v xs := by
  refine ⟨h.1, ?_⟩
  rcases h.2 with h2 | ⟨g, cap, cur, rfl, h3, hh, h4⟩
  · exact .inl h2
  · have hlt := (Array.getElem?_eq_some_iff.1 hh).1
    exact .inr ⟨g, cap, cur, rfl, h3, (hg.block g hlt (fun e => hne g rfl e.symm)).trans hh, h4⟩
theorem OwL.heap {w w' : World} {base : Nat} {v : Value} {xs : List (Option Addr × Nat × Nat)} (h : OwL w base v xs) (hg : ∀ j, v.ownBlock = some j → w'.heap[j]? = w.heap[j]?) : OwL w' base v xs := by
  refine ⟨h.1, ?_⟩
  rcases h.2 with h2 | ⟨g, cap, cur, rfl, h3, hh, h4⟩
  · exact .inl h2
  · exact .inr ⟨g, cap, cur, rfl, h3, (hg g rfl).trans hh, h4⟩
theorem OwL.inside {w : World} {base : Nat} {v : Value} {xs : List (Option Addr × Nat × Nat)} (h : OwL w base v xs) : ∀ j, v.ownBlock = some j → j < w.heap.size := by
  rcases h.2 with ⟨rfl, _⟩ | ⟨g, cap, cur, rfl, h3, hh, h4⟩
  · intro j e; cases e
  · intro j e; cases e; exact (Array.getElem?_eq_some_iff.1 hh).1
theorem OwL.below {w w' : World} {base : Nat} {v : Value} {xs : List (Option Addr × Nat × Nat)} (h : OwL w base v xs) (hb : Below w.heap.size w w') : OwL w' base v xs :=
  h.heap fun j hj => hb.block j (h.inside j hj)
theorem OwL.mono {w : World} {base base' : Nat} {v : Value} {xs : List (Option Addr × Nat × Nat)} (h : OwL w base v xs) (hb : base' ≤ base) : OwL w base' v xs := by
  refine ⟨h.1, ?_⟩
  rcases h.2 with h2 | ⟨g, cap, cur, rfl, h3, h4⟩
  · exact .inl h2
  · exact .inr ⟨g, cap, cur, rfl, Nat.le_trans hb h3, h4⟩
theorem OwL.nil (w : World) (base : Nat) : OwL w base (.slice none 0 0) [] := ⟨rfl, .inl ⟨rfl, rfl⟩⟩
theorem OwL.empty (w : World) : OwL (w.alloc (.cells #[] 36)) w.heap.size (.slice (some ⟨w.heap.size, 0, none⟩) 0 0) [] :=
  ⟨rfl, .inr ⟨w.heap.size, 0, #[], rfl, Nat.le_refl _, heap_alloc_new w _, by simp, by simp [maxLen], rfl, rfl⟩⟩

theorem wpList_append_rowL (w : World) {ops : Array Oper} {rest : List Oper} {o : Oper} {act : Act} {Q : Exit → Act → World → Prop} (hgd : o.guard = none) (s x : Operand)
    (ho : o.op = .call { callee := .builtin .append, args := #[s, x], argTypes := #[39, 39] })
    (base : Nat) (v : Value) (xs : List (Option Addr × Nat × Nat)) (hs : act.eval s = v) (hown : OwL w base v xs) (a : Option Addr) (cap : Nat) (zs : List (Option Addr × Nat × Nat)) (hx : act.eval x = .slice a zs.length cap) (hr : RwL w a zs) (hnil : a = none → zs.length = 0 ∧ cap = 0)
    (hl : 24 * (xs.length + zs.length) ≤ 140737488355328) (hbase : base ≤ w.heap.size)
    (h : ∀ v' w', OwL w' base v' (xs ++ zs) → w.grownBy w' v.ownBlock → (v'.ownBlock = v.ownBlock ∨ v'.ownBlock = some w.heap.size) → wpList Try.prog ops Q rest (act.put o.dst v') w') :
    wpList Try.prog ops Q (o :: rest) act w := by
  obtain ⟨i0, hi, hz0, hz1, hz2⟩ := info_parts infoQL
  cases a with
  | none =>
    obtain ⟨h1, h2⟩ := hnil rfl
    have hzs : zs = [] := List.eq_nil_of_length_eq_zero h1
    subst hzs
    subst h2
    refine wpList_append_own_none hgd s x 39 ho base 36 i0 1 Try.underlying39 hi v xs.length (xs.map encL) hs hown hx ?_
    exact h v w (by rw [List.append_nil]; exact hown) ⟨rfl, rfl, rfl, Nat.le_refl _, fun _ _ _ => rfl⟩ (.inl rfl)
  | some ad =>
    have hnews : ∀ j u, (zs.map encL)[j]? = some u → w.cell? (ad.add j) = some u := fun j u hu => by
      have hj : j < zs.length := by have := (List.getElem?_eq_some_iff.1 hu).1; simpa using this
      obtain ⟨b, o, e, hlt, hc⟩ := hr.here hj
      cases e
      rw [Addr.add_lit, hc j hj]
      rw [List.getElem?_map, List.getElem?_eq_getElem hj] at hu
      exact hu
    have hone : ∀ u ∈ zs.map encL, u.oneCell' = true := fun u hu => by
      obtain ⟨z, _, rfl⟩ := List.mem_map.1 hu
      rfl
    refine wpList_append_own_at _ hgd s x 39 ho base 36 i0 (.slice none 0 0) 1 24 Try.underlying39 hi hz0 hz1 hz2 rfl (by omega) v xs.length (xs.map encL) hs hown ad zs.length cap (zs.map encL) hx (by simp) hnews hone (by unfold maxLen; omega) (by omega) hbase ?_
    intro v4 w4 hown4 hgrow4 hnil4 hat4
    exact h v4 w4 (by unfold OwL; simpa using hown4) hgrow4 hat4

/-- The same where the operation is guarded, and wanted. -/
theorem append_rowgL (w : World) {ops : Array Oper} {rest : List Oper} {o : Oper} {act : Act} {Q : Exit → Act → World → Prop} (hw : Region.wanted o (yielded ops act.tmps) = true) (s x : Operand)
    (ho : o.op = .call { callee := .builtin .append, args := #[s, x], argTypes := #[39, 39] })
    (base : Nat) (v : Value) (xs : List (Option Addr × Nat × Nat)) (hs : act.eval s = v) (hown : OwL w base v xs) (a : Option Addr) (cap : Nat) (zs : List (Option Addr × Nat × Nat)) (hx : act.eval x = .slice a zs.length cap) (hr : RwL w a zs) (hnil : a = none → zs.length = 0 ∧ cap = 0)
    (hl : 24 * (xs.length + zs.length) ≤ 140737488355328) (hbase : base ≤ w.heap.size)
    (h : ∀ v' w', OwL w' base v' (xs ++ zs) → w.grownBy w' v.ownBlock → wpList Try.prog ops Q rest (act.put o.dst v') w') :
    wpList Try.prog ops Q (o :: rest) act w := by
  obtain ⟨i0, hi, hz0, hz1, hz2⟩ := info_parts infoQL
  unfold wpList
  rw [if_pos hw]
  refine .inl ?_
  cases a with
  | none =>
    obtain ⟨h1, h2⟩ := hnil rfl
    have hzs : zs = [] := List.eq_nil_of_length_eq_zero h1
    subst hzs
    subst h2
    refine wp_append_run s x 39 ho v (.slice none 0 0) v w hs hx (run_append_owned_none w base 39 o.type 36 i0 1 Try.underlying39 hi v xs.length (xs.map encL) hown) ?_
    exact h v w (by rw [List.append_nil]; exact hown) ⟨rfl, rfl, rfl, Nat.le_refl _, fun _ _ _ => rfl⟩
  | some ad =>
    have hnews : ∀ j u, (zs.map encL)[j]? = some u → w.cell? (ad.add j) = some u := fun j u hu => by
      have hj : j < zs.length := by have := (List.getElem?_eq_some_iff.1 hu).1; simpa using this
      obtain ⟨b, o, e, hlt, hc⟩ := hr.here hj
      cases e
      rw [Addr.add_lit, hc j hj]
      rw [List.getElem?_map, List.getElem?_eq_getElem hj] at hu
      exact hu
    have hone : ∀ u ∈ zs.map encL, u.oneCell' = true := fun u hu => by
      obtain ⟨z, _, rfl⟩ := List.mem_map.1 hu
      rfl
    obtain ⟨v4, w4, hrun, hown4, hgrow4, _, _⟩ := run_append_own_at (P := Try.prog) w base 39 o.type 36 i0 (.slice none 0 0) 1 24 Try.underlying39 hi hz0 hz1 hz2 rfl (by omega) v xs.length (xs.map encL) hown ad zs.length cap (zs.map encL) (by simp) hnews hone (by unfold maxLen; omega) (by omega) hbase
    exact wp_append_run s x 39 ho v _ v4 w4 hs hx hrun (h v4 w4 (by unfold OwL; simpa using hown4) hgrow4)

theorem wpList_append_oneL (w : World) {ops : Array Oper} {rest : List Oper} {o : Oper} {act : Act} {Q : Exit → Act → World → Prop} (hgd : o.guard = none) (s x : Operand)
    (ho : o.op = .call { callee := .builtin .append, args := #[s, x], argTypes := #[39, 39] })
    (base : Nat) (v : Value) (xs : List (Option Addr × Nat × Nat)) (hs : act.eval s = v) (hown : OwL w base v xs) (z : (Option Addr × Nat × Nat))
    (hx : act.eval x = .slice (some ⟨w.heap.size, 0, none⟩) 1 1)
    (hl : 24 * (xs.length + 1) ≤ 140737488355328) (hbase : base ≤ w.heap.size)
    (h : ∀ v' w', OwL w' base v' (xs ++ [z]) → (w.alloc (.cells #[.slice z.1 z.2.1 z.2.2] 36)).grownBy w' v.ownBlock → (v'.ownBlock = v.ownBlock ∨ v'.ownBlock = some (w.heap.size + 1)) → wpList Try.prog ops Q rest (act.put o.dst v') w') :
    wpList Try.prog ops Q (o :: rest) act (w.alloc (.cells #[.slice z.1 z.2.1 z.2.2] 36)) := by
  have hb : Below w.heap.size w (w.alloc (.cells #[.slice z.1 z.2.1 z.2.2] 36)) := (Below.refl _ _).alloc (Nat.le_refl _) _
  refine wpList_append_rowL (w.alloc (.cells #[.slice z.1 z.2.1 z.2.2] 36)) hgd s x ho base v xs hs (hown.below hb) (some ⟨w.heap.size, 0, none⟩) 1 [z] hx (.inr ⟨w.heap.size, 0, rfl, by simp, fun i hi => ?_⟩) (fun e => by cases e) (by simpa using hl) (by simp; omega) ?_
  · obtain rfl : i = 0 := by simp at hi; omega
    rw [cell_of_row _ _ _ _ _ _ (heap_alloc_new w _)]
    rfl
  · intro v' w' h1 h2 h3
    exact h v' w' h1 h2 (by simpa using h3)

end Go.Proofs.Ytomfhbngpikjeab
